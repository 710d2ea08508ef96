/-
  Walks: take, open, shut, name, is: the reader's small methods.
  Conditions: the reader lies as 'RD' says; its words are at most 65536.
-/
import Derived.Test.YtedmmgfnplbkjaaGreatDoorParW
import Derived.Deep.RegionHeld3
import Derived.Deep.CutRange
import Derived.Deep.DeepCutAuto
import Derived.IntWalk
namespace Go.Proofs.YtedmmgfnplbkjaaGreatDoor
set_option linter.unusedVariables false
set_option linter.unusedSimpArgs false
open Go.RowKit G
def wV (w : LX.LW) : Value := .agg #[.int .u8 w.k, .string ⟨w.s.toArray⟩, .int .i64 w.n, .int .i64 w.line]
def FWord (w : LX.LW) (v : Value) (_ : World) : Prop := v = wV w
theorem four_cells {b : Nat} {w : World} {x0 x1 x2 x3 : Value} {ty : TypeId} (h : w.heap[b]? = some (.cells #[x0, x1, x2, x3] ty (0, 0))) :
    (w.cell? ⟨b, 0, none⟩ = some x0 ∧ w.cell? ⟨b, 1, none⟩ = some x1 ∧ w.cell? ⟨b, 2, none⟩ = some x2 ∧ w.cell? ⟨b, 3, none⟩ = some x3)
    ∧ w.frozen? ⟨b, 0, none⟩ = false ∧ w.frozen? ⟨b, 1, none⟩ = false ∧ w.frozen? ⟨b, 2, none⟩ = false ∧ w.frozen? ⟨b, 3, none⟩ = false := by
  refine ⟨⟨?_, ?_, ?_, ?_⟩, Lib.frozen_of_heap h 0, Lib.frozen_of_heap h 1, Lib.frozen_of_heap h 2, Lib.frozen_of_heap h 3⟩ <;> (rw [Lib.cell_of_heap h]; rfl)
set_option maxRecDepth 100000 in
set_option maxHeartbeats 4000000 in
theorem take_any {W1 : World} {wv : Value} {ws : List LX.LW} {c : Str} {t d : Nat} {W : World} (h' : RD' W1 wv ws c t d W) (hn : ws.length ≤ 65536) :
    Calls Tryz.prog 107 #[rp W1] W (PostR W1 wv ws c (t + 1) W FWord (takeP ws t d)) := by
  obtain ⟨h, ht, hd⟩ := h'
  obtain ⟨ao, cap, rfl, hc1, hc2⟩ := h.slice
  unfold maxLen at hc2
  obtain ⟨W2, hW2⟩ : ∃ W2, (W.alloc (.cells #[.int .u8 0, .string ⟨#[]⟩, .int .i64 0, .int .i64 0] 90)).setCell ⟨W1.heap.size, 1, none⟩ (.int .i64 ((t : Int) + 1)) = W2 := ⟨_, rfl⟩
  have hlt := h.lt
  have h2 : RD W1 (.slice ao ws.length cap) ws c (t + 1) d W2 := by rw [← hW2]; exact (h.keep ((Below.refl _ _).alloc (Nat.le_refl _) _)).setT (t + 1)
  have hg : Gr W1 W W2 := by rw [← hW2]; exact ((gr_refl W1 W).alloc _).set 1 _
  have hb : W2.heap[W.heap.size]? = some (.cells #[.int .u8 0, .string ⟨#[]⟩, .int .i64 0, .int .i64 0] 90 (0, 0)) := by
    rw [← hW2, Below.heap_setCell _ _ _ _ (by show W.heap.size ≠ W1.heap.size; omega)]; exact heap_alloc_new _ _
  have HW := Lib.hid (fun i hi => h2.word i hi)
  have HR := Lib.hid h2
  have HG := Lib.hid hg
  have HB := Lib.hid hb
  obtain ⟨⟨c0, c1, c2, c3⟩, f0, f1, f2, f3⟩ := h.cells
  obtain ⟨⟨d0, d1, d2, d3⟩, g0, g1, g2, g3⟩ := h2.cells
  obtain ⟨⟨e0, e1, e2, e3⟩, k0, k1, k2, k3⟩ := four_cells hb
  have hne : ¬ W.heap.size = W1.heap.size := by omega
  have hne2 : ¬ W1.heap.size = W.heap.size := by omega
  clear h h2 hg hb
  have hw1 : IntKind.i64.wrap ((t : Int) + 1) = (t : Int) + 1 := IntWalk.i64_in _ (by omega)
  go_enter Tryz.func107, Tryz.ntmps107
  go_upto_region 2 with fail
  rw [Int.natCast_succ] at d1
  clear hW2 c0 c1 c2 c3 f0 f1 f2 f3
  by_cases hlt2 : t < ws.length
  · have q1 : ¬ (ws.length : Int) < (t : Int) + 1 := by omega
    have q2 : (0 : Int) ≤ (t : Int) := by omega
    have q3 : (t : Int) < (ws.length : Int) := by omega
    have q4 : t < cap := by omega
    have q5 : IntKind.i64.wrap ((t : Int) + 1 - 1) = (t : Int) := by rw [Int.add_sub_cancel]; exact IntWalk.i64_in _ (by omega)
    obtain ⟨b, o, rfl, x0, x1, x2, x3⟩ := HW.out t hlt2
    go_quiet (fail)
    go_wp2
    go_region
    go_wp2
    refine bodyPost_ret (v := wV ws[t]) (by simp [results, Tryz.results107, go_sem, e0, e1, e2, e3, wV]) rfl (.inr ⟨ws[t], t + 1, d, _, ?_, rfl, rfl, Nat.le_refl _, ⟨?_, hlt2, by omega⟩, ?_⟩)
    · unfold takeP; rw [List.getElem?_eq_getElem hlt2]
    · exact ((((HR.out.drewN _).setN hlt 0 _).setN hlt 1 _).setN hlt 2 _).setN hlt 3 _
    · exact ((((HG.out.drewN _).setN (Nat.le_refl _) 0 _).setN (Nat.le_refl _) 1 _).setN (Nat.le_refl _) 2 _).setN (Nat.le_refl _) 3 _
  · have q1 : (ws.length : Int) < (t : Int) + 1 := by omega
    go_quiet (fail)
    go_wp2
    exact ⟨rfl, .inl ⟨t + 1, by unfold takeP; rw [List.getElem?_eq_none (by omega)], rfl, ⟨d, HR.out.drewN _⟩, HG.out.drewN _⟩⟩
theorem takeP_some {ws : List LX.LW} {t d : Nat} {w : LX.LW} {t' d' : Nat} (h : takeP ws t d = .ok w t' d') : ws[t]? = some w ∧ t' = t + 1 ∧ d' = d := by
  unfold takeP at h
  cases hw : ws[t]? with
  | none => rw [hw] at h; cases h
  | some x => rw [hw] at h; injection h with h1 h2 h3; subst h1 h2 h3; exact ⟨rfl, rfl, rfl⟩
theorem takeP_bad {ws : List LX.LW} {t d t' : Nat} (h : takeP ws t d = .bad t') : ws[t]? = none ∧ t' = t + 1 := by
  unfold takeP at h
  cases hw : ws[t]? with
  | none => rw [hw] at h; injection h with h; exact ⟨rfl, h.symm⟩
  | some x => rw [hw] at h; cases h
theorem word_f0 (a b c d : Value) (w : World) : Sem.run Tryz.prog (Instr.field 90 (.agg #[a, b, c, d]) 0) w = .ok a w := by kernel_rfl
theorem take_out {W1 : World} {wv : Value} {ws : List LX.LW} {c : Str} {t d : Nat} {W : World} (h : RD' W1 wv ws c t d W) (hn : ws.length ≤ 65536) :
    Calls Tryz.prog 107 #[rp W1] W fun e w' => (ws[t]? = none ∧ e = .panicked [pz] ∧ (∃ d, RD W1 wv ws c (t + 1) d w') ∧ Gr W1 W w') ∨
      (∃ (k : Nat) (s : Str) (n : Int) (l : Nat), ws[t]? = some ⟨k, s, n, l⟩ ∧ e = .returned (.agg #[.int .u8 k, .string ⟨s.toArray⟩, .int .i64 n, .int .i64 l]) ∧ RD' W1 wv ws c (t + 1) d w' ∧ Gr W1 W w') := by
  refine (take_any h hn).mono ?_
  rintro e w' (⟨t', hp, rfl, hb, hk⟩ | ⟨⟨kk, s, nn, ll⟩, t', d', v, hp, rfl, hv, hl, hr, hk⟩)
  · obtain ⟨hp1, rfl⟩ := takeP_bad hp
    exact .inl ⟨hp1, rfl, hb, hk⟩
  · obtain ⟨hp1, rfl, rfl⟩ := takeP_some hp
    exact .inr ⟨kk, s, nn, ll, hp1, by rw [show v = wV _ from hv]; rfl, hr, hk⟩
theorem kindP_of {ws : List LX.LW} {k t d : Nat} : kindP (ws.map nol) k t d = match ws[t]? with | none => .bad (t + 1) | some w => if w.k = k then .ok () (t + 1) d else .bad (t + 1) := by
  unfold kindP
  rw [nol_get]
  cases ws[t]? <;> rfl
theorem wp_bad {ws : List LX.LW} {k t : Nat} {d : Nat} (h : ws[t]? = none) : kindP (ws.map nol) k t d = .bad (t + 1) := by rw [kindP_of, h]
theorem wp_not {ws : List LX.LW} {k t : Nat} {d : Nat} {w : LX.LW} (h : ws[t]? = some w) (hk : ¬ w.k = k) : kindP (ws.map nol) k t d = .bad (t + 1) := by rw [kindP_of, h]; exact if_neg hk
theorem wp_is {ws : List LX.LW} {k t : Nat} {d : Nat} {w : LX.LW} (h : ws[t]? = some w) (hk : w.k = k) : kindP (ws.map nol) k t d = .ok () (t + 1) d := by rw [kindP_of, h]; exact if_pos hk
set_option maxRecDepth 100000 in
set_option maxHeartbeats 4000000 in
theorem open_any {W1 : World} {wv : Value} {ws : List LX.LW} {c : Str} {t d : Nat} {W : World} (h : RD' W1 wv ws c t d W) (hn : ws.length ≤ 65536) :
    Calls Tryz.prog 61 #[rp W1] W (PostR W1 wv ws c (t + 1) W FNil (openP (ws.map nol) t d)) := by
  have HT := Lib.hid (take_out h hn)
  have f0 := word_f0
  obtain ⟨rs, hrs⟩ : ∃ r, openP (ws.map nol) t d = r := ⟨_, rfl⟩
  rw [hrs]
  have HRS := Lib.hid hrs
  obtain ⟨post, hpost⟩ : ∃ p, PostR W1 wv ws c (t + 1) W FNil rs = p := ⟨_, rfl⟩
  have HB : Hid (∀ t' w', rs = .bad t' → (∃ d, RD W1 wv ws c t' d w') → Gr W1 W w' → post (.panicked [pz]) w') := fun t' w' h1 h2 h3 => by rw [← hpost]; exact .inl ⟨t', h1, rfl, h2, h3⟩
  have HO : Hid (∀ x t' d' v w', rs = .ok x t' d' → FNil x v w' → t + 1 ≤ t' → RD' W1 wv ws c t' d' w' → Gr W1 W w' → post (.returned v) w') := fun x t' d' v w' h1 h2 h3 h4 h5 => by rw [← hpost]; exact .inr ⟨x, t', d', v, h1, rfl, h2, h3, h4, h5⟩
  rw [hpost]
  clear hrs hpost
  clear h
  go_enter Tryz.func61, Tryz.ntmps61
  go_wp2_with (go_at_call 107; (with_reducible refine HT.out.mono ?_); rintro e w' (⟨hp1, rfl, hb, hk⟩ | ⟨kk, s, nn, ll, hp1, rfl, hr, hk⟩))
  · exact ⟨rfl, HB.out _ _ (by rw [← HRS.out]; exact wp_bad hp1) hb hk⟩
  · have hq : ((kk : Int) != 4) = true := by assumption
    have hkk : ¬ kk = 4 := by intro e; rw [e] at hq; exact absurd hq (by decide)
    exact ⟨rfl, HB.out _ _ (by rw [← HRS.out]; exact wp_not hp1 hkk) ⟨_, hr.1⟩ hk⟩
  · have hq : ((kk : Int) != 4) = false := by assumption
    have hkk : kk = 4 := by simp at hq; omega
    refine bodyPost_end (v := .tuple #[]) (results_none Tryz.results61 _ _ _) rfl ?_
    exact HO.out () _ _ _ _ (by rw [← HRS.out]; exact wp_is hp1 hkk) rfl (Nat.le_refl _) hr hk
set_option maxRecDepth 100000 in
set_option maxHeartbeats 4000000 in
theorem shut_any {W1 : World} {wv : Value} {ws : List LX.LW} {c : Str} {t d : Nat} {W : World} (h : RD' W1 wv ws c t d W) (hn : ws.length ≤ 65536) :
    Calls Tryz.prog 65 #[rp W1] W (PostR W1 wv ws c (t + 1) W FNil (shutP (ws.map nol) t d)) := by
  have HT := Lib.hid (take_out h hn)
  have f0 := word_f0
  obtain ⟨rs, hrs⟩ : ∃ r, shutP (ws.map nol) t d = r := ⟨_, rfl⟩
  rw [hrs]
  have HRS := Lib.hid hrs
  obtain ⟨post, hpost⟩ : ∃ p, PostR W1 wv ws c (t + 1) W FNil rs = p := ⟨_, rfl⟩
  have HB : Hid (∀ t' w', rs = .bad t' → (∃ d, RD W1 wv ws c t' d w') → Gr W1 W w' → post (.panicked [pz]) w') := fun t' w' h1 h2 h3 => by rw [← hpost]; exact .inl ⟨t', h1, rfl, h2, h3⟩
  have HO : Hid (∀ x t' d' v w', rs = .ok x t' d' → FNil x v w' → t + 1 ≤ t' → RD' W1 wv ws c t' d' w' → Gr W1 W w' → post (.returned v) w') := fun x t' d' v w' h1 h2 h3 h4 h5 => by rw [← hpost]; exact .inr ⟨x, t', d', v, h1, rfl, h2, h3, h4, h5⟩
  rw [hpost]
  clear hrs hpost
  clear h
  go_enter Tryz.func65, Tryz.ntmps65
  go_wp2_with (go_at_call 107; (with_reducible refine HT.out.mono ?_); rintro e w' (⟨hp1, rfl, hb, hk⟩ | ⟨kk, s, nn, ll, hp1, rfl, hr, hk⟩))
  · exact ⟨rfl, HB.out _ _ (by rw [← HRS.out]; exact wp_bad hp1) hb hk⟩
  · have hq : ((kk : Int) != 5) = true := by assumption
    have hkk : ¬ kk = 5 := by intro e; rw [e] at hq; exact absurd hq (by decide)
    exact ⟨rfl, HB.out _ _ (by rw [← HRS.out]; exact wp_not hp1 hkk) ⟨_, hr.1⟩ hk⟩
  · have hq : ((kk : Int) != 5) = false := by assumption
    have hkk : kk = 5 := by simp at hq; omega
    refine bodyPost_end (v := .tuple #[]) (results_none Tryz.results65 _ _ _) rfl ?_
    exact HO.out () _ _ _ _ (by rw [← HRS.out]; exact wp_is hp1 hkk) rfl (Nat.le_refl _) hr hk
end Go.Proofs.YtedmmgfnplbkjaaGreatDoor
