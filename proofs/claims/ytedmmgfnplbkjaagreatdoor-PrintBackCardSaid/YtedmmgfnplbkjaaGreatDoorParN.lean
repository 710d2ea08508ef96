/-
  Walks: isName, name, is, line.
  Conditions: the reader lies as 'RD' says; its words are at most 65536.
-/
import Derived.Test.YtedmmgfnplbkjaaGreatDoorParX
namespace Go.Proofs.YtedmmgfnplbkjaaGreatDoor
set_option linter.unusedVariables false
set_option linter.unusedSimpArgs false
open Go.RowKit G
def four (s : Str) : Bool := s == [121, 101, 115] || s == [110, 111] || s == [110, 111, 110, 101] || s == [45]
set_option maxRecDepth 100000 in
set_option maxHeartbeats 4000000 in
theorem isName_any (k : Nat) (s : Str) (n : Int) (l : Nat) (W : World) :
    Calls Tryz.prog 108 #[.agg #[.int .u8 k, .string ⟨s.toArray⟩, .int .i64 n, .int .i64 l]] W fun e w' => e = .returned (.bool (k == 1 && !four s)) ∧ Below W.heap.size W w' := by
  have hb : Below W.heap.size W (W.alloc (.cells #[.int .u8 k, .string ⟨s.toArray⟩, .int .i64 n, .int .i64 l] 90)) := (Below.refl _ _).alloc (Nat.le_refl _) _
  have HB := Lib.hid hb
  have HT : Hid (∀ b, four s = true → b = false → b = (k == 1 && !four s)) := fun b h1 h2 => by rw [h1, h2]; simp
  have HF : Hid (∀ b, four s = false → b = (k == 1) → b = (k == 1 && !four s)) := fun b h1 h2 => by rw [h1, h2]; simp
  have HK : Hid (((k : Int) == 1) = (k == 1)) := by
    by_cases h : k = 1
    · subst h; rfl
    · have h2 : ¬ (k : Int) = 1 := by omega
      have e1 : ((k : Int) == 1) = false := by simpa using h2
      have e2 : (k == 1) = false := by simpa using h
      exact e1.trans e2.symm
  obtain ⟨q, hq⟩ : ∃ q, (k == 1 && !four s) = q := ⟨_, rfl⟩
  rw [hq] at HT HF ⊢
  clear hb hq
  have H4 : Hid (∀ a b c d, (s == [121, 101, 115]) = a → (s == [110, 111]) = b → (s == [110, 111, 110, 101]) = c → (s == [45]) = d → four s = (a || b || c || d)) := by rintro a b c d rfl rfl rfl rfl; rfl
  obtain ⟨a, ha⟩ : ∃ a, (s == [121, 101, 115]) = a := ⟨_, rfl⟩
  obtain ⟨b, hb⟩ : ∃ a, (s == [110, 111]) = a := ⟨_, rfl⟩
  obtain ⟨c, hc⟩ : ∃ a, (s == [110, 111, 110, 101]) = a := ⟨_, rfl⟩
  obtain ⟨d, hd⟩ : ∃ a, (s == [45]) = a := ⟨_, rfl⟩
  have H5 := Lib.hid (H4.out _ _ _ _ ha hb hc hd)
  cases a with
  | true =>
    go_enter Tryz.func108, Tryz.ntmps108
    go_wp2
    go_ret
    exact ⟨congrArg (fun b => Ending.returned (.bool b)) (HT.out false (H5.out.trans rfl) rfl), HB.out⟩
  | false =>
  cases b with
  | true =>
    go_enter Tryz.func108, Tryz.ntmps108
    go_wp2
    go_ret
    exact ⟨congrArg (fun b => Ending.returned (.bool b)) (HT.out false (H5.out.trans rfl) rfl), HB.out⟩
  | false =>
  cases c with
  | true =>
    go_enter Tryz.func108, Tryz.ntmps108
    go_wp2
    go_ret
    exact ⟨congrArg (fun b => Ending.returned (.bool b)) (HT.out false (H5.out.trans rfl) rfl), HB.out⟩
  | false =>
  cases d with
  | true =>
    go_enter Tryz.func108, Tryz.ntmps108
    go_wp2
    go_ret
    exact ⟨congrArg (fun b => Ending.returned (.bool b)) (HT.out false (H5.out.trans rfl) rfl), HB.out⟩
  | false =>
    go_enter Tryz.func108, Tryz.ntmps108
    go_wp2
    go_ret
    exact ⟨congrArg (fun b => Ending.returned (.bool b)) (HF.out _ (H5.out.trans rfl) HK.out), HB.out⟩
theorem nameP_of {ws : List LX.LW} {t d : Nat} : nameP (ws.map nol) t d = match ws[t]? with | none => .bad (t + 1) | some w => if (w.k == 1 && !four w.s) = true then .ok w.s (t + 1) d else .bad (t + 1) := by
  unfold nameP
  rw [nol_get]
  cases ws[t]? <;> rfl
theorem nm_bad {ws : List LX.LW} {t d : Nat} (h : ws[t]? = none) : nameP (ws.map nol) t d = .bad (t + 1) := by rw [nameP_of, h]
theorem nm_not {ws : List LX.LW} {t d k l : Nat} {s : Str} {n : Int} (h : ws[t]? = some ⟨k, s, n, l⟩) (hk : (k == 1 && !four s) = false) : nameP (ws.map nol) t d = .bad (t + 1) := by rw [nameP_of, h]; exact if_neg (by rw [hk]; exact Bool.false_ne_true)
theorem nm_is {ws : List LX.LW} {t d k l : Nat} {s : Str} {n : Int} (h : ws[t]? = some ⟨k, s, n, l⟩) (hk : (k == 1 && !four s) = true) : nameP (ws.map nol) t d = .ok s (t + 1) d := by rw [nameP_of, h]; exact if_pos hk
set_option maxRecDepth 100000 in
set_option maxHeartbeats 4000000 in
theorem name_any {W1 : World} {wv : Value} {ws : List LX.LW} {c : Str} {t d : Nat} {W : World} (h : RD' W1 wv ws c t d W) (hn : ws.length ≤ 65536) :
    Calls Tryz.prog 62 #[rp W1] W (PostR W1 wv ws c (t + 1) W FStr (nameP (ws.map nol) t d)) := by
  have HT := Lib.hid (take_out h hn)
  have HI := Lib.hid isName_any
  have hlt := h.1.lt
  obtain ⟨rs, hrs⟩ : ∃ r, nameP (ws.map nol) t d = r := ⟨_, rfl⟩
  rw [hrs]
  obtain ⟨post, hpost⟩ : ∃ p, PostR W1 wv ws c (t + 1) W FStr rs = p := ⟨_, rfl⟩
  have HB : Hid (∀ t' w', rs = .bad t' → (∃ d, RD W1 wv ws c t' d w') → Gr W1 W w' → post (.panicked [pz]) w') := fun t' w' h1 h2 h3 => by rw [← hpost]; exact .inl ⟨t', h1, rfl, h2, h3⟩
  have HO : Hid (∀ x t' d' v w', rs = .ok x t' d' → FStr x v w' → t + 1 ≤ t' → RD' W1 wv ws c t' d' w' → Gr W1 W w' → post (.returned v) w') := fun x t' d' v w' h1 h2 h3 h4 h5 => by rw [← hpost]; exact .inr ⟨x, t', d', v, h1, rfl, h2, h3, h4, h5⟩
  rw [hpost]
  have HRS := Lib.hid hrs
  clear hrs hpost
  clear h
  have HAL : Hid (∀ (k : Nat) (s : Str) (n : Int) (l : Nat) w1 w2, Gr W1 W w1 → RD' W1 wv ws c (t + 1) d w1 → Below (w1.alloc (.cells #[.int .u8 k, .string ⟨s.toArray⟩, .int .i64 n, .int .i64 l] 90)).heap.size (w1.alloc (.cells #[.int .u8 k, .string ⟨s.toArray⟩, .int .i64 n, .int .i64 l] 90)) w2 →
      Gr W1 W w2 ∧ RD' W1 wv ws c (t + 1) d w2 ∧ w2.heap[w1.heap.size]? = some (.cells #[.int .u8 k, .string ⟨s.toArray⟩, .int .i64 n, .int .i64 l] 90 (0, 0))) := fun k s n l w1 w2 h1 h2 h3 =>
    ⟨(h1.alloc _).below h3, (h2.alloc _).keep h3, by rw [h3.block _ (by simp)]; exact heap_alloc_new _ _⟩
  go_enter Tryz.func62, Tryz.ntmps62
  go_wp2_with (first
    | (go_at_call 107; (with_reducible refine HT.out.mono ?_); rintro e w' (⟨hp1, rfl, hb, hk⟩ | ⟨kk, s, nn, ll, hp1, rfl, hr, hk⟩))
    | (refine wpList_load_row rfl 90 _ rfl w'.heap.size rfl 90 _ (0, 0) _ (heap_alloc_new w' _) Tryz.underlying90 rfl (by kernel_rfl) ?_)
    | (go_at_call 108; (with_reducible refine (HI.out _ _ _ _ _).mono ?_); rintro e2 w2 ⟨rfl, hb2⟩; obtain ⟨q, hq⟩ : ∃ q, (kk == 1 && !four s) = q := ⟨_, rfl⟩; obtain ⟨hg2, hr2, hc2⟩ := HAL.out _ _ _ _ _ _ hk hr hb2; obtain ⟨⟨c0, c1, c2, c3⟩, -⟩ := blk4 hc2; rw [hq]))
  · exact ⟨rfl, HB.out _ _ (by rw [← HRS.out]; exact nm_bad hp1) hb hk⟩
  · have hx : q = false := by
      cases q with
      | false => rfl
      | true => have hx : (!true) = true := by assumption
                cases hx
    exact ⟨rfl, HB.out _ _ (by rw [← HRS.out]; exact nm_not hp1 (hq.trans hx)) ⟨_, hr2.1⟩ hg2⟩
  · have hx : q = true := by
      cases q with
      | true => rfl
      | false => have hx : (!false) = false := by assumption
                 cases hx
    exact HO.out s _ _ _ _ (by rw [← HRS.out]; exact nm_is hp1 (hq.trans hx)) rfl (Nat.le_refl _) hr2 hg2
def PostI (W1 : World) (wv : Value) (ws : List LX.LW) (c : Str) (t d : Nat) (W : World) (e : Ending) (w' : World) : Prop :=
  (isShut (ws.map nol) t = true ∧ e = .returned (.bool true) ∧ RD' W1 wv ws c (t + 1) d w' ∧ Gr W1 W w') ∨ (isShut (ws.map nol) t = false ∧ e = .returned (.bool false) ∧ RD' W1 wv ws c t d w' ∧ Gr W1 W w')
theorem isShut_of {ws : List LX.LW} {t : Nat} (ht : t < ws.length) : isShut (ws.map nol) t = (ws[t].k == 5) := by
  unfold isShut
  rw [nol_get, List.getElem?_eq_getElem ht]
  rfl
theorem isShut_end {ws : List LX.LW} {t : Nat} (ht : ws.length ≤ t) : isShut (ws.map nol) t = false := by
  unfold isShut
  rw [nol_get, List.getElem?_eq_none ht]
  rfl
set_option maxRecDepth 100000 in
set_option maxHeartbeats 4000000 in
theorem is_any {W1 : World} {wv : Value} {ws : List LX.LW} {c : Str} {t d : Nat} {W : World} (h : RD' W1 wv ws c t d W) (hn : ws.length ≤ 65536) :
    Calls Tryz.prog 165 #[rp W1, .int .u8 5] W (PostI W1 wv ws c t d W) := by
  obtain ⟨h0, ht, hd⟩ := h
  obtain ⟨ao, cap, rfl, hc1, hc2⟩ := h0.slice
  unfold maxLen at hc2
  obtain ⟨⟨c0, c1, c2, c3⟩, f0, f1, f2, f3⟩ := h0.cells
  have HR := Lib.hid h0
  have HW := Lib.hid (fun i hi => h0.word i hi)
  obtain ⟨post, hpost⟩ : ∃ p, PostI W1 (.slice ao ws.length cap) ws c t d W = p := ⟨_, rfl⟩
  have HT : Hid (∀ m, isShut (ws.map nol) t = true → t < ws.length → post (.returned (.bool true)) ((W.drewN m).setCell ⟨W1.heap.size, 1, none⟩ (.int .i64 ((t : Int) + 1)))) := fun m h1 h2 => by
    rw [← hpost]
    exact .inl ⟨h1, rfl, ⟨(HR.out.drewN m).setT (t + 1), h2, by omega⟩, ((gr_refl W1 W).drewN m).set 1 _⟩
  have HF : Hid (∀ m, isShut (ws.map nol) t = false → post (.returned (.bool false)) (W.drewN m)) := fun m h1 => by
    rw [← hpost]
    exact .inr ⟨h1, rfl, ⟨HR.out.drewN m, ht, hd⟩, (gr_refl W1 W).drewN m⟩
  have hpz := hpost
  rw [hpost]
  clear hpost hpz h0
  have hw1 : IntKind.i64.wrap ((t : Int) + 1) = (t : Int) + 1 := IntWalk.i64_in _ (by omega)
  by_cases hlt : t < ws.length
  · have q1 : ¬ (t : Int) = (ws.length : Int) := by omega
    have q2 : (0 : Int) ≤ (t : Int) := by omega
    have q3 : (t : Int) < (ws.length : Int) := by omega
    have q4 : t < cap := by omega
    obtain ⟨b, o, rfl, x0, x1, x2, x3⟩ := HW.out t hlt
    have HS := Lib.hid (isShut_of hlt)
    obtain ⟨kk, hkk⟩ : ∃ kk, ws[t].k = kk := ⟨_, rfl⟩
    rw [hkk] at x0 HS
    clear x1 x2 x3 hkk
    by_cases h5 : kk = 5
    · subst h5
      go_enter Tryz.func165, Tryz.ntmps165
      go_wp2
      go_quiet (fail)
      go_wp2
      exact HT.out _ HS.out hlt
    · have q5 : ¬ (kk : Int) = 5 := by omega
      have q6 : ((kk : Int) != 5) = true := by simpa using q5
      have q7 : ((kk : Int) == 5) = false := by simpa using q5
      go_enter Tryz.func165, Tryz.ntmps165
      go_wp2
      go_quiet (fail)
      go_wp2
      exact HF.out _ (by rw [HS.out]; simpa using h5)
  · have q1 : (t : Int) = (ws.length : Int) := by omega
    go_enter Tryz.func165, Tryz.ntmps165
    go_wp2
    go_quiet (fail)
    go_wp2
    exact HF.out _ (isShut_end (by omega))
end Go.Proofs.YtedmmgfnplbkjaaGreatDoor
