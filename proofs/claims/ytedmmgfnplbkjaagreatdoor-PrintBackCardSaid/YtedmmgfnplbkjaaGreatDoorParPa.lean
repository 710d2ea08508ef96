/-
  Walks: Parse: the program of a text, and what is caught.
  Conditions: the reader lies as 'RD' says; its words are at most 65536.
-/
import Derived.Test.YtedmmgfnplbkjaaGreatDoorParPr
import Derived.Test.YtedmmgfnplbkjaaGreatDoorParLn
import Derived.Defers
import Derived.Recover
namespace Go.Proofs.YtedmmgfnplbkjaaGreatDoor
set_option linter.unusedVariables false
set_option linter.unusedSimpArgs false
open Go.RowKit G
theorem adv_bad_program {ws : List LX.LW} {t : Nat} (h : programP (ws.map nol) FU 0 0 = .bad t) : 1 ≤ t ∧ t ≤ ws.length + 1 ∧ 0 < ws.length := by
  have hN : (ws.map nol).length = ws.length := List.length_map ..
  have hF : FU = 65536 + 1 := rfl
  rw [hF, program_succ] at h
  by_cases h0 : 0 < (ws.map nol).length
  · rw [if_pos h0] at h
    have ha := adv_component (n := (ws.map nol).length) (ws := ws.map nol) rfl 0 0 (Nat.zero_le _)
    cases hc : componentP (ws.map nol) 0 0 with
    | bad u =>
      rw [hc] at h ha
      injection h with h
      subst h
      exact ⟨ha.1, by have := ha.2; omega, by omega⟩
    | ok x t1 d1 =>
      rw [hc] at h ha
      have hb := adv_program (n := (ws.map nol).length) (ws := ws.map nol) rfl 65536 t1 d1 ha.2.1
      rw [Rs.bind_ok] at h
      cases hp : programP (ws.map nol) 65536 t1 d1 with
      | bad u =>
        rw [hp] at h hb
        injection h with h
        subst h
        exact ⟨by have := ha.1; have := hb.1; omega, by have := hb.2; omega, by omega⟩
      | ok l t2 d2 => rw [hp] at h; cases h
  · rw [if_neg h0] at h; cases h
theorem catch_idle (p0 p1 p2 p3 : Value) (w : World) :
    CallsD Tryz.prog 24 #[p0, p1, p2, p3] .returning w fun e u' w' => e = .returned (.tuple #[]) ∧ u' = .returning ∧ w' = w := by
  refine callsD_of_wpS Tryz.func24 rfl fun c₀ cs hu => ?_
  apply wpS_seq
  apply wpS_region
  simp [wpOpsS, go_sem, recoverD, hu, Tryz.ntmps24, Exit.thenS]
  refine wpS_cond (t := false) (by simp [Act.eval, Array.replicate]) ?_
  simp only [Bool.false_eq_true, if_false]
  refine wpS_of_wp (wp_skip ?_)
  cases c₀
  simp_all [bodyPostS, results, Tryz.results24]
set_option maxRecDepth 100000 in
set_option maxHeartbeats 4000000 in
theorem catch_pz {W1 : World} {wv : Value} {ws : List LX.LW} {c : Str} {t d : Nat} {w : World} (h : RD W1 wv ws c t d w) (hn : ws.length ≤ 65536) (ht : 1 ≤ t) (ht2 : t ≤ ws.length + 1) (hpos : 0 < ws.length) (rb pb lb eb : Nat) (x0 x1 x2 : Value)
    (cr : w.heap[rb]? = some (.cells #[rp W1] 60 (0, 0))) (cp : w.heap[pb]? = some (.cells #[x0] 23 (0, 0))) (cl : w.heap[lb]? = some (.cells #[x1] 3 (0, 0))) (ce : w.heap[eb]? = some (.cells #[x2] 24 (0, 0))) :
    CallsD Tryz.prog 24 #[.pointer (some ⟨rb, 0, none⟩), .pointer (some ⟨pb, 0, none⟩), .pointer (some ⟨lb, 0, none⟩), .pointer (some ⟨eb, 0, none⟩)] (.panicking [pz]) w fun e u' w' =>
      e = .returned (.tuple #[]) ∧ u' = .panicking [{ v := .iface 121 (.agg #[]), recovered := true }] ∧ ∃ m, w' = ((((w.drewN m).setCell ⟨pb, 0, none⟩ (.slice none 0 0)).setCell ⟨lb, 0, none⟩ (.int .i64 ((ws[min t ws.length - 1]?.map (·.line)).getD 0 : Nat))).setCell ⟨eb, 0, none⟩ (.int .i64 5)) := by
  have hj : min t ws.length - 1 < ws.length := by omega
  have HL := Lib.hid (line_any h hn ht (by omega) _ rfl hj)
  have hln : (ws[min t ws.length - 1]?.map (·.line)).getD 0 = ws[min t ws.length - 1].line := by rw [List.getElem?_eq_getElem hj]; rfl
  rw [hln]
  obtain ⟨ln, hlnn⟩ : ∃ ln, ws[min t ws.length - 1].line = ln := ⟨_, rfl⟩
  rw [hlnn] at HL ⊢
  have r0 : w.cell? ⟨rb, 0, none⟩ = some (rp W1) := by rw [Lib.cell_of_heap cr]; rfl
  have p0 : ∀ m, (w.drewN m).cell? ⟨pb, 0, none⟩ = some x0 := fun m => (by rw [Lib.cell_of_heap cp]; rfl : w.cell? ⟨pb, 0, none⟩ = some x0)
  have l0 : ∀ m, (w.drewN m).cell? ⟨lb, 0, none⟩ = some x1 := fun m => (by rw [Lib.cell_of_heap cl]; rfl : w.cell? ⟨lb, 0, none⟩ = some x1)
  have e0 : ∀ m, (w.drewN m).cell? ⟨eb, 0, none⟩ = some x2 := fun m => (by rw [Lib.cell_of_heap ce]; rfl : w.cell? ⟨eb, 0, none⟩ = some x2)
  have fp : ∀ m, (w.drewN m).frozen? ⟨pb, 0, none⟩ = false := fun m => (Lib.frozen_of_heap cp 0)
  have fl : ∀ m, (w.drewN m).frozen? ⟨lb, 0, none⟩ = false := fun m => (Lib.frozen_of_heap cl 0)
  have fe : ∀ m, (w.drewN m).frozen? ⟨eb, 0, none⟩ = false := fun m => (Lib.frozen_of_heap ce 0)
  have hpl : pb ≠ lb := fun e => by subst e; rw [cp] at cl; injection cl with cl; injection cl with c1 c2; revert c2; decide
  have hpe : pb ≠ eb := fun e => by subst e; rw [cp] at ce; injection ce with ce; injection ce with c1 c2; revert c2; decide
  have hle : lb ≠ eb := fun e => by subst e; rw [cl] at ce; injection ce with ce; injection ce with c1 c2; revert c2; decide
  clear hlnn hln h cr cp cl ce
  refine callsD_of_wpS Tryz.func24 rfl fun c₀ cs hu => ?_
  apply wpS_seq
  apply wpS_region
  simp [wpOpsS, go_sem, recoverD, hu, pz, Tryz.ntmps24, Exit.thenS]
  refine wpS_cond (t := true) (by simp [Act.eval, Array.replicate]) ?_
  simp only [if_true]
  refine wpS_of_wp ?_
  go_wp2_with (go_at_call 25; (with_reducible refine HL.out.mono ?_); rintro e w' ⟨rfl, m, rfl⟩)
  simp [bodyPostS, results, Tryz.results24]
  exact ⟨m, rfl⟩
theorem blk1 {b : Nat} {w : World} {x : Value} {ty : TypeId} (h : w.heap[b]? = some (.cells #[x] ty (0, 0))) : w.cell? ⟨b, 0, none⟩ = some x ∧ w.frozen? ⟨b, 0, none⟩ = false := ⟨by rw [Lib.cell_of_heap h]; rfl, Lib.frozen_of_heap h 0⟩
def Three (n : Nat) (x y z : Value) (w : World) : Prop := w.heap[n]? = some (.cells #[x] 23 (0, 0)) ∧ w.heap[n + 1]? = some (.cells #[y] 3 (0, 0)) ∧ w.heap[n + 1 + 1]? = some (.cells #[z] 24 (0, 0))
theorem set1 {b : Nat} {w : World} {x v : Value} {ty : TypeId} (h : w.heap[b]? = some (.cells #[x] ty (0, 0))) : (w.setCell ⟨b, 0, none⟩ v).heap[b]? = some (.cells #[v] ty (0, 0)) := by
  have h := set_row h 0 v
  simpa only [List.setIfInBounds_toArray, List.set_cons_zero, List.set_cons_succ] using h
section
variable {n : Nat} {x y z : Value} {w w' : World}
theorem Three.p (h : Three n x y z w) (v : Value) : Three n v y z (w.setCell ⟨n, 0, none⟩ v) :=
  ⟨set1 h.1, (Below.heap_setCell _ _ _ _ (by show n + 1 ≠ n; omega)).trans h.2.1, (Below.heap_setCell _ _ _ _ (by show n + 1 + 1 ≠ n; omega)).trans h.2.2⟩
theorem Three.l (h : Three n x y z w) (v : Value) : Three n x v z (w.setCell ⟨n + 1, 0, none⟩ v) :=
  ⟨(Below.heap_setCell _ _ _ _ (by show n ≠ n + 1; omega)).trans h.1, set1 h.2.1, (Below.heap_setCell _ _ _ _ (by show n + 1 + 1 ≠ n + 1; omega)).trans h.2.2⟩
theorem Three.e (h : Three n x y z w) (v : Value) : Three n x y v (w.setCell ⟨n + 1 + 1, 0, none⟩ v) :=
  ⟨(Below.heap_setCell _ _ _ _ (by show n ≠ n + 1 + 1; omega)).trans h.1, (Below.heap_setCell _ _ _ _ (by show n + 1 ≠ n + 1 + 1; omega)).trans h.2.1, set1 h.2.2⟩
theorem Three.keep (h : Three n x y z w) (hk : ∀ b, b < n + 3 → w'.heap[b]? = w.heap[b]?) : Three n x y z w' :=
  ⟨(hk _ (by omega)).trans h.1, (hk _ (by omega)).trans h.2.1, (hk _ (by omega)).trans h.2.2⟩
theorem Three.cells (h : Three n x y z w) : (w.cell? ⟨n, 0, none⟩ = some x ∧ w.cell? ⟨n + 1, 0, none⟩ = some y ∧ w.cell? ⟨n + 1 + 1, 0, none⟩ = some z) ∧ w.frozen? ⟨n, 0, none⟩ = false ∧ w.frozen? ⟨n + 1, 0, none⟩ = false ∧ w.frozen? ⟨n + 1 + 1, 0, none⟩ = false :=
  ⟨⟨(by rw [Lib.cell_of_heap h.1]; rfl), (by rw [Lib.cell_of_heap h.2.1]; rfl), (by rw [Lib.cell_of_heap h.2.2]; rfl)⟩, Lib.frozen_of_heap h.1 0, Lib.frozen_of_heap h.2.1 0, Lib.frozen_of_heap h.2.2 0⟩
end
theorem frows_sets {Sh : List Value → Prop} {ty : TypeId} {k B a b c : Nat} {l : List (List T)} {v x y z : Value} {W : World} (h : FRows Sh ty k B l v W) (ha : a < B) (hb : b < B) (hc : c < B) : FRows Sh ty k B l v (((W.setCell ⟨a, 0, none⟩ x).setCell ⟨b, 0, none⟩ y).setCell ⟨c, 0, none⟩ z) := by
  obtain ⟨vss, h1, h2, h3⟩ := h
  have hk : ∀ i, B ≤ i → (((W.setCell ⟨a, 0, none⟩ x).setCell ⟨b, 0, none⟩ y).setCell ⟨c, 0, none⟩ z).heap[i]? = W.heap[i]? := fun i h4 => by
    rw [Below.heap_setCell _ _ _ _ (by show i ≠ c; omega), Below.heap_setCell _ _ _ _ (by show i ≠ b; omega), Below.heap_setCell _ _ _ _ (by show i ≠ a; omega)]
  refine ⟨vss, ⟨h1.1, ?_⟩, h2.keep (by simp [World.setCell]) (fun _ _ h => h) (fun i h4 h5 => hk i h4.1), h3⟩
  rcases h1.2 with h | ⟨g', cap, cur, hv, hb, hw, r⟩
  · exact .inl h
  · exact .inr ⟨g', cap, cur, hv, hb, by rw [hk g' hb]; exact hw, r⟩
theorem okw_len {w : LX.LW} (h : LX.OkW w) : w.s.length ≤ 70000 := by
  rcases h with ⟨_, h, _⟩ | ⟨_, h, _⟩ | ⟨_, _, h⟩ | ⟨_, h, _⟩ | ⟨_, _, _, h, _⟩
  · rw [h]; simp
  · rw [h]; simp
  · omega
  · rw [h]; simp
  · omega
theorem gr_belowB {W1 a b : World} {B : Nat} (h : Gr W1 a b) (hB : B ≤ W1.heap.size) (hs : B ≤ a.heap.size) : Below B a b := ⟨h.os, h.tape, h.output, h.size, fun k hk => h.block k (by omega) (by intro e; injection e with e; omega)⟩
def PostParse (r : LX.Res) (W : World) (e : Ending) (w' : World) : Prop :=
  (match r with
  | .err n => e = .returned (.tuple #[.slice none 0 0, .int .i64 (n : Nat), .int .i64 4])
  | .ok ws => match parseP ws with
    | .inl n => e = .returned (.tuple #[.slice none 0 0, .int .i64 (n : Nat), .int .i64 5])
    | .inr l => ∃ v, e = .returned (.tuple #[v, .int .i64 0, .int .i64 0]) ∧ FSl ShC 46 13 W.heap.size l v w') ∧ Below W.heap.size W w'
set_option maxRecDepth 100000 in
set_option maxHeartbeats 8000000 in
theorem parse_any (s : ByteArray) (W : World) (hs : s.size ≤ 65536) (htab : LTabs W) :
    Calls Tryz.prog 9 #[.string s] W (PostParse (LX.lex 0 s.data.toList) W) := by
  have hmf : ∀ (fn : Fn) (first cap : Array Value) (w : World), (Instr.makeFunc fn first cap).run Tryz.prog w = .ok (.func fn first cap) w := fun _ _ _ _ => rfl
  have hslen : s.data.toList.length = s.size := by simp
  obtain ⟨n, hn⟩ : ∃ n, W.heap.size = n := ⟨_, rfl⟩
  obtain ⟨Wa, hWa⟩ : ∃ Wa, ((W.alloc (.cells #[.slice none 0 0] 23)).alloc (.cells #[.int .i64 0] 3)).alloc (.cells #[.int .i64 0] 24) = Wa := ⟨_, rfl⟩
  have hza : Wa.heap.size = n + 3 := by rw [← hWa, ← hn]; simp
  have hba : Below n W Wa := by rw [← hWa, ← hn]; exact ((((Below.refl _ _).alloc (Nat.le_refl _) _).alloc (by simp) _).alloc (by simp; omega) _)
  have hp0 : Wa.heap[n]? = some (.cells #[.slice none 0 0] 23 (0, 0)) := by
    rw [← hWa, ← hn, Below.heap_alloc _ _ _ (by simp; omega), Below.heap_alloc _ _ _ (by simp)]; exact heap_alloc_new _ _
  have hl0 : Wa.heap[n + 1]? = some (.cells #[.int .i64 0] 3 (0, 0)) := by
    rw [← hWa, ← hn, Below.heap_alloc _ _ _ (by simp)]; exact new2b _ _ _ _
  have he0 : Wa.heap[n + 1 + 1]? = some (.cells #[.int .i64 0] 24 (0, 0)) := by
    rw [← hWa, ← hn]; have := heap_alloc_new ((W.alloc (.cells #[.slice none 0 0] 23)).alloc (.cells #[.int .i64 0] 3)) (.cells #[.int .i64 0] 24); simpa using this
  have hta : LTabs Wa := htab.below (B := n) hba (by rw [← hn]; exact htab.gb)
  have HW := Lib.hid (words_any s Wa hs hta)
  have HP0 := Lib.hid hp0
  have HL0 := Lib.hid hl0
  have HE0 := Lib.hid he0
  have HBA := Lib.hid hba
  obtain ⟨post, hpost⟩ : ∃ p, PostParse (LX.lex 0 s.data.toList) W = p := ⟨_, rfl⟩
  rw [hpost]
  have HPO := Lib.hid hpost
  have HTB := Lib.hid htab
  have HNN := Lib.hid hn
  clear hpost hp0 hl0 he0 hba hta htab
  cases hlex : LX.lex 0 s.data.toList with
  | err ln =>
    go_enter_defers Tryz.func9, Tryz.ntmps9
    go_upto_region 2 with (go_at_call 23; (with_reducible refine HW.out.mono ?_); rintro e1 w1 hq1; rw [hlex] at hq1; obtain ⟨rfl, hb1⟩ := hq1; have HB1 := Lib.hid hb1; obtain ⟨p0, fp⟩ := blk1 ((HB1.out.block n (by omega)).trans HP0.out); obtain ⟨l0, fl⟩ := blk1 ((HB1.out.block (n + 1) (by omega)).trans HL0.out); obtain ⟨e0, fe⟩ := blk1 ((HB1.out.block (n + 1 + 1) (by omega)).trans HE0.out))
    go_wp2
    go_region
    go_wp2
    have h3 : Three n (.slice none 0 0) (.int .i64 0) (.int .i64 0) w1 := Three.keep ⟨HP0.out, HL0.out, HE0.out⟩ (fun b hb => HB1.out.block b (by omega))
    have h9 := ((((h3.l (.int .i64 ln)).e (.int .i64 4)).p (.slice none 0 0)).l (.int .i64 ln)).e (.int .i64 4)
    obtain ⟨⟨z0, z1, z2⟩, -⟩ := h9.cells
    have hb := HBA.out.trans (HB1.out.mono (show n ≤ Wa.heap.size by omega))
    have hb9 : Below n W _ := (((((hb.setCell (p := ⟨n + 1, 0, none⟩) (Nat.le_succ _) (.int .i64 ln)).setCell (p := ⟨n + 1 + 1, 0, none⟩) (by show n ≤ n + 1 + 1; omega) (.int .i64 4)).setCell (p := ⟨n, 0, none⟩) (Nat.le_refl _) (.slice none 0 0)).setCell (p := ⟨n + 1, 0, none⟩) (Nat.le_succ _) (.int .i64 ln)).setCell (p := ⟨n + 1 + 1, 0, none⟩) (by show n ≤ n + 1 + 1; omega) (.int .i64 4))
    revert z0 z1 z2 hb9
    clear h9 h3 hb
    generalize (World.setCell (World.setCell (World.setCell (World.setCell (World.setCell w1 _ _) _ _) _ _) _ _) _ _) = W9
    intro z0 z1 z2 hb9
    simp [bodyPostD, Leaves, settle, results, Tryz.results9, go_sem, *]
    rw [← HPO.out, hlex]
    refine ⟨rfl, ?_⟩
    rw [HNN.out]
    exact hb9.drew
  | ok ws =>
    obtain ⟨hok, -, hwn⟩ := LX.lex_sound 0 _ _ hlex
    have hwl : ∀ w ∈ ws, w.s.length ≤ 70000 := fun w hw => okw_len (hok w hw).1
    rw [hslen] at hwn
    have hn6 : ws.length ≤ 65536 := by omega
    go_enter_defers Tryz.func9, Tryz.ntmps9
    go_upto_region 4 with (go_at_call 23; (with_reducible refine HW.out.mono ?_); rintro e1 w1 hq1; rw [hlex] at hq1; obtain ⟨⟨v1, rfl, ho1⟩, hb1⟩ := hq1; obtain ⟨ao, cap, rfl, hc1, hc2, -⟩ := Wds.of_own ho1; have HB1 := Lib.hid hb1; obtain ⟨p0, fp⟩ := blk1 ((HB1.out.block n (by omega)).trans HP0.out); obtain ⟨l0, fl⟩ := blk1 ((HB1.out.block (n + 1) (by omega)).trans HL0.out); obtain ⟨e0, fe⟩ := blk1 ((HB1.out.block (n + 1 + 1) (by omega)).trans HE0.out))
    obtain ⟨W1, hW1⟩ : ∃ W1, (w1.setCell ⟨n + 1, 0, none⟩ (.int .i64 0)).setCell ⟨n + 1 + 1, 0, none⟩ (.int .i64 0) = W1 := ⟨_, rfl⟩
    rw [hW1]
    have h3 : Three n (.slice none 0 0) (.int .i64 0) (.int .i64 0) w1 := Three.keep ⟨HP0.out, HL0.out, HE0.out⟩ (fun b hb => HB1.out.block b (by omega))
    have HT1 : Three n (.slice none 0 0) (.int .i64 0) (.int .i64 0) W1 := by rw [← hW1]; exact (h3.l _).e _
    have hzW1 : W1.heap.size = w1.heap.size := by rw [← hW1]; simp [World.setCell]
    have hs1 := HB1.out.size
    have hge : n + 3 ≤ W1.heap.size := by omega
    have hbW1 : Below n W W1 := by rw [← hW1]; exact ((HBA.out.trans (HB1.out.mono (show n ≤ Wa.heap.size by omega))).setCell (p := ⟨n + 1, 0, none⟩) (Nat.le_succ _) _).setCell (p := ⟨n + 1 + 1, 0, none⟩) (by show n ≤ n + 1 + 1; omega) _
    have hwds : Wds W1 (.slice ao ws.length cap) ws := by
      refine Wds.of_own (ownsRow_keep ho1 (fun k h1 h2 => ?_))
      rw [← hW1, Below.heap_setCell _ _ _ _ (by show k ≠ n + 1 + 1; omega), Below.heap_setCell _ _ _ _ (by show k ≠ n + 1; omega)]
    have htab1 : LTabs W1 := HTB.out.below hbW1 (by have := HTB.out.gb; rw [HNN.out] at this; exact this)
    obtain ⟨Wd, hWd⟩ : ∃ Wd, (W1.alloc (.cells #[.slice ao ws.length cap, .int .i64 0, .string ⟨#[]⟩, .int .i64 0] 62)).alloc (.cells #[rp W1] 60) = Wd := ⟨_, rfl⟩
    have hlowd : Below W1.heap.size W1 Wd := by rw [← hWd]; exact ((Below.refl _ _).alloc (Nat.le_refl _) _).alloc (by simp) _
    have hrd : RD' W1 (.slice ao ws.length cap) ws [] 0 0 Wd := ⟨⟨by rw [← hWd]; exact new2a _ _ _ _ _, hwds, hlowd⟩, Nat.zero_le _, Nat.le_refl _⟩
    have HRB : Hid (Wd.heap[W1.heap.size + 1]? = some (.cells #[rp W1] 60 (0, 0))) := Lib.hid (by rw [← hWd]; exact new2b _ _ _ _)
    have hzd : Wd.heap.size = W1.heap.size + 1 + 1 := by rw [← hWd]; simp
    have HPG := Lib.hid (program_any hrd hn6 hwl htab1 FU (by unfold FU; omega))
    have HTd : Three n (.slice none 0 0) (.int .i64 0) (.int .i64 0) Wd := HT1.keep (fun b hb => hlowd.block b (by omega))
    have HBd := Lib.hid (hbW1.trans (hlowd.mono (show n ≤ W1.heap.size by omega)))
    have HT := Lib.hid (fun w5 (hg : Gr W1 Wd w5) => HTd.keep (w' := w5) (fun b hb => hg.block b (by omega) (by intro e; injection e with e; omega)))
    have HRQ := Lib.hid (fun w5 (hg : Gr W1 Wd w5) => gr_block hg (Nat.lt_succ_self _) HRB.out)
    have hzdq := Nat.le_of_eq hzd
    have hzdr := Nat.le_of_eq hzd.symm
    clear HTd HT1 h3 hwds htab1 hrd hlowd hbW1 p0 fp l0 fl e0 fe ho1 hzd hzW1 hW1
    go_upto_region 6 with fail
    try rw [hWd]
    clear hWd
    have r0 := (blk1 HRB.out).1
    go_wp2_with (go_at_call 26; (with_reducible refine HPG.out.mono ?_); rintro e5 w5 (⟨t5, hp5, rfl, ⟨c5, d5, hb5⟩, hk5⟩ | ⟨x5, t5, d5, v5, hp5, rfl, ⟨la5, ln5, lc5, rfl, hf5, rfl, hle5⟩, hl5, ⟨c5, hr5⟩, hk5⟩); all_goals (obtain ⟨⟨z0, z1, z2⟩, f0, f1, f2⟩ := (HT.out _ hk5).cells))
    · obtain ⟨ht1, ht2, hpos⟩ := adv_bad_program hp5
      have h3 := HT.out _ hk5
      have hln : parseP ws = .inl ((ws[min t5 ws.length - 1]?.map (·.line)).getD 0) := by unfold parseP; rw [hp5]
      refine leaves_cons (f := 24) (args := #[.pointer (some ⟨W1.heap.size + 1, 0, none⟩), .pointer (some ⟨n, 0, none⟩), .pointer (some ⟨n + 1, 0, none⟩), .pointer (some ⟨n + 1 + 1, 0, none⟩)]) (by simp) (by simp [go_sem]) ?_
      refine (catch_pz hb5 hn6 ht1 ht2 hpos (W1.heap.size + 1) n (n + 1) (n + 1 + 1) _ _ _ (HRQ.out _ hk5) h3.1 h3.2.1 h3.2.2).mono ?_
      obtain ⟨ln, hlnn⟩ : ∃ ln, (ws[min t5 ws.length - 1]?.map (·.line)).getD 0 = ln := ⟨_, rfl⟩
      rw [hlnn] at hln
      rw [hlnn]
      rintro e u' w'' ⟨rfl, rfl, m, rfl⟩
      have h3m : Three n (.slice none 0 0) (.int .i64 0) (.int .i64 0) (w5.drewN m) := h3
      have h9 := ((h3m.p (.slice none 0 0)).l (.int .i64 (ln : Nat))).e (.int .i64 5)
      obtain ⟨⟨y0, y1, y2⟩, -⟩ := h9.cells
      have hb := (HBd.out.trans (gr_belowB hk5 (by omega) (by omega))).trans (below_drewNP w5 m |>.mono (show n ≤ w5.heap.size by have := hk5.size; omega))
      have hb9 : Below n W _ := ((hb.setCell (p := ⟨n, 0, none⟩) (Nat.le_refl _) (.slice none 0 0)).setCell (p := ⟨n + 1, 0, none⟩) (Nat.le_succ _) (.int .i64 (ln : Nat))).setCell (p := ⟨n + 1 + 1, 0, none⟩) (by show n ≤ n + 1 + 1; omega) (.int .i64 5)
      revert y0 y1 y2 hb9
      clear h9 h3m h3 hb z0 z1 z2 f0 f1 f2 HT HRQ
      generalize (World.setCell (World.setCell (World.setCell (w5.drewN m) _ _) _ _) _ _) = W9
      intro y0 y1 y2 hb9
      simp [Leaves, settle, results, Tryz.results9, go_sem, *]
      rw [← HPO.out, hlex]
      refine ⟨?_, by rw [HNN.out]; exact hb9⟩
      show match parseP ws with | .inl n => _ | .inr l => _
      rw [hln]
    · have h3 := HT.out _ hk5
      have hln : parseP ws = .inr x5 := by unfold parseP; rw [hp5]
      refine leaves_cons (f := 24) (args := #[.pointer (some ⟨W1.heap.size + 1, 0, none⟩), .pointer (some ⟨n, 0, none⟩), .pointer (some ⟨n + 1, 0, none⟩), .pointer (some ⟨n + 1 + 1, 0, none⟩)]) (by simp) (by simp [go_sem]) ?_
      refine (catch_idle _ _ _ _ _).mono ?_
      rintro e u' w'' ⟨rfl, rfl, rfl⟩
      have h9 := ((h3.p (.slice la5 x5.length lc5)).l (.int .i64 0)).e (.int .i64 0)
      obtain ⟨⟨y0, y1, y2⟩, -⟩ := h9.cells
      have hb := HBd.out.trans (gr_belowB hk5 (by omega) (by omega))
      have hb9 : Below n W _ := ((hb.setCell (p := ⟨n, 0, none⟩) (Nat.le_refl _) (.slice la5 x5.length lc5)).setCell (p := ⟨n + 1, 0, none⟩) (Nat.le_succ _) (.int .i64 0)).setCell (p := ⟨n + 1 + 1, 0, none⟩) (by show n ≤ n + 1 + 1; omega) (.int .i64 0)
      have hf9 : FRows ShC 46 13 (n + 3) x5 (.slice la5 x5.length lc5) (((w5.setCell ⟨n, 0, none⟩ (.slice la5 x5.length lc5)).setCell ⟨n + 1, 0, none⟩ (.int .i64 0)).setCell ⟨n + 1 + 1, 0, none⟩ (.int .i64 0)) :=
        frows_sets (((hf5.low (show n + 3 ≤ Wd.heap.size by omega)))) (by omega) (by omega) (by omega)
      revert y0 y1 y2 hb9 hf9
      clear h9 h3 hb z0 z1 z2 f0 f1 f2 HT HRQ hf5
      generalize (World.setCell (World.setCell (World.setCell w5 _ _) _ _) _ _) = W9
      intro y0 y1 y2 hb9 hf9
      simp [Leaves, settle, results, Tryz.results9, go_sem, *]
      rw [← HPO.out, hlex]
      refine ⟨?_, by rw [HNN.out]; exact hb9⟩
      show match parseP ws with | .inl n => _ | .inr l => _
      rw [hln]
      exact ⟨_, rfl, la5, x5.length, lc5, rfl, hf9.low (by rw [HNN.out]; omega), rfl, hle5⟩
end Go.Proofs.YtedmmgfnplbkjaaGreatDoor
