/-
  Walks: match.Match answers 'matM': the places of the old children that go on; it is memory of its own.
  Conditions: both lists lie in memory.
-/
import Derived.Test.YtpmkkgndpfbkdaaMaT
namespace Go.Proofs.Ytpmkkgndpfbkdaa
set_option linter.unusedVariables false
set_option linter.unusedSimpArgs false
open Go.RowKit Go.Deep Go.WideShapes
open Go.Maps hiding size

theorem firstsM_lt {K : Nat → C} {n : Nat} (x : List UInt8) (p : Nat) (h : firstsM K n x = some p) : p < n := (firstsM_some h).1
theorem firstsM_held {K : Nat → C} {n : Nat} {p : Nat} (h : firstsM K n (K n).kl = some p) : firstsM K (n + 1) = firstsM K n := by
  funext x
  rw [firstsM]
  split
  · rename_i e; exact e.symm
  · rename_i e
    rw [if_neg, e]
    intro e2
    rw [← e2, h] at e
    cases e
theorem firstsM_new {K : Nat → C} {n : Nat} (h : firstsM K n (K n).kl = none) : firstsM K (n + 1) = fun y => if y = (K n).kl then some n else firstsM K n y := by
  funext x
  rw [firstsM]
  by_cases e : x = (K n).kl
  · subst e
    rw [h]
  · rw [if_neg e, if_neg (Ne.symm e)]
    split
    · rename_i h; exact h.symm
    · rename_i h; exact h.symm

set_option maxRecDepth 100000 in
set_option maxHeartbeats 2000000 in
theorem holders_any (la : Option Addr) (ll lc : Nat) (K : Nat → C) (w : World) (h : CLst w la ll lc K) :
    Calls Try.prog 14 #[.slice la ll lc] w fun x w' => x = .returned (.map (some w.heap.size)) ∧ MapIs w' w.heap.size ll (firstsM K ll) ∧ Below w.heap.size w w' := by
  have hll := h.cap
  unfold maxLen at hll
  have hmm := @run_makeMap Try.prog
  have HC := Lib.hid (fun W (hb : Below w.heap.size w W) => (h.below hb).els)
  have HM0 : Hid (MapIs (w.alloc (.map #[] 0)) w.heap.size 0 (firstsM K 0)) := ⟨_, World.ownsMap_made _ _ _ _, HoldsM.nil⟩
  have HB0 := Lib.hid (below_alloc w (.map #[] 0))
  clear h
  go_enter Try.func14, Try.ntmps14
  go_wp2_with fail
  go_loopw [11] (fun i wr => ∃ j : Nat, j ≤ ll ∧ i = .int .i64 j ∧ MapIs wr w.heap.size j (firstsM K j) ∧ Below w.heap.size w wr) (fun i _ => ll - (intOf i).toNat)
  case atStart => exact ⟨0, Nat.zero_le _, rfl, HM0.out, HB0.out⟩
  case round =>
    obtain ⟨j, hj, rfl, hm, hb⟩ := hrel
    have HM := Lib.hid hm
    have HB := Lib.hid hb
    clear HM0 HB0 hmm hb
    obtain ⟨D, hown, hD⟩ := hm
    by_cases hlt : j < ll
    · have hj0 : (0 : Int) ≤ (j : Int) := by omega
      have hj1 : (j : Int) < (ll : Int) := by omega
      obtain ⟨⟨b, o, rfl, hat⟩, hin⟩ := HC.out _ HB.out j hlt
      have hlit := key_lit' (K j).key hin.1
      have e0 : wr.cell? ⟨b, o + j * 11, none⟩ = some (.string (K j).key) := hat 0 (by simp [C.cells])
      cases hf : firstsM K j (K j).kl with
      | some p =>
        have hq := (hD.yes _ p hf).1
        have HN : Hid (MapIs wr w.heap.size (j + 1) (firstsM K (j + 1))) := by rw [firstsM_held hf]; exact Lib.hid (HM.out.mono (Nat.le_succ _))
        clear hf hD hin hat
        unfold C.kl at hq
        generalize (K j).key = key at e0 hlit hq
        go_wp2_with (first
          | (at_lookup; refine wpList_lookup_own_ok_int _ rfl _ _ 43 rfl 9 3 .i64 law_str Try.underlying43 Try.underlying3 (zero_int _) _ _ D rfl hown (.string key) _ rfl hlit ?_; intro q hat hwq))
        go_roundw
        case rel => exact ⟨j + 1, by omega, by go_num, HN.out, HB.out⟩
        case measure => simp [intOf]; omega
      | none =>
        have hq := hD.no _ hf
        have HN : Hid (∀ W, W.ownsMap Try.prog 9 (plainElem Try.prog 3) w.heap.size (j + 1) (D.put (.string (K j).kl) (.lit (.int .i64 j))) → MapIs W w.heap.size (j + 1) (firstsM K (j + 1))) := Lib.hid (fun W ho => ⟨_, ho, by rw [firstsM_new hf]; exact hD.put _ _⟩)
        clear hf hD hin hat
        unfold C.kl at hq HN
        generalize (K j).key = key at e0 hlit hq HN
        go_wp2_with (first
          | (at_lookup; refine wpList_lookup_own_ok_int _ rfl _ _ 43 rfl 9 3 .i64 law_str Try.underlying43 Try.underlying3 (zero_int _) _ _ D rfl hown (.string key) _ rfl hlit ?_; intro q hat hwq)
          | (at_mapUpdate; refine wpList_mapUpdate_own _ rfl _ _ _ 43 rfl 9 3 law_str Try.underlying43 _ _ _ D rfl hown (by unfold maxLen; omega) _ _ _ rfl rfl hlit _ [] (plainElem_int Try.underlying3 (by simp [Lit.wf, IntKind.min, IntKind.max, IntKind.signed, IntKind.bits]; omega)) ?_; intro w1 hown1 hgrow1))
        have HM1 := Lib.hid (HN.out _ hown1)
        have HB1 : Hid (Below w.heap.size w w1) := Lib.hid (HB.out.grown hgrow1 HB.out.size (fun k e => by cases e; exact Nat.le_refl _))
        clear hown1 hgrow1
        go_roundw
        case rel => exact ⟨j + 1, by omega, by go_num, HM1.out, HB1.out⟩
        case measure => simp [intOf]; omega
    · obtain rfl : j = ll := by omega
      go_wp2_with fail
      go_ret
      exact ⟨rfl, HM.out, HB.out⟩

/-- Numbers as cells. -/
def rowI (n : Nat) (h : Nat → Int) : List Value := (List.range n).map (fun i => .int .i64 (h i))
theorem rowI_len (n : Nat) (h : Nat → Int) : (rowI n h).length = n := by simp [rowI]
theorem rowI_get {n : Nat} {h : Nat → Int} {j : Nat} (hj : j < n) : (rowI n h)[j]? = some (.int .i64 (h j)) := by simp [rowI, hj]
theorem rowI_ext {n : Nat} {h h' : Nat → Int} (e : ∀ i, i < n → h i = h' i) : rowI n h = rowI n h' := by
  unfold rowI
  exact List.map_congr_left fun i hi => by rw [e i (List.mem_range.1 hi)]
theorem rowI_set {n : Nat} {h : Nat → Int} {j : Nat} (x : Int) : (rowI n h).set j (.int .i64 x) = rowI n (fun i => if i = j then x else h i) := by
  apply List.ext_getElem?
  intro i
  rw [List.getElem?_set]
  by_cases hi : i < n
  · by_cases e : j = i
    · subst e
      rw [if_pos rfl, if_pos (by rw [rowI_len]; exact hi), rowI_get hi, if_pos rfl]
    · rw [if_neg e, rowI_get hi, rowI_get hi, if_neg (Ne.symm e)]
  · have e1 : (rowI n h)[i]? = none := List.getElem?_eq_none (by rw [rowI_len]; omega)
    have e2 : (rowI n (fun i => if i = j then x else h i))[i]? = none := List.getElem?_eq_none (by rw [rowI_len]; omega)
    rw [e1, e2]
    by_cases e : j = i
    · subst e; simp [rowI_len, hi]
    · rw [if_neg e]
/-- A row of one's own: numbers. -/
def OwnI (w : World) (base g n : Nat) (h : Nat → Int) : Prop := w.ownsRow base 3 1 (.slice (some ⟨g, 0, none⟩) n n) n (rowI n h)
theorem OwnI.cell {w : World} {base g n : Nat} {h : Nat → Int} (ho : OwnI w base g n h) {j : Nat} (hj : j < n) : w.cell? ⟨g, j, none⟩ = some (.int .i64 (h j)) := by
  rw [World.ownsRow.cellAt ho j (by omega), rowI_get hj]
theorem OwnI.frozen {w : World} {base g n : Nat} {h : Nat → Int} (ho : OwnI w base g n h) (j : Nat) : w.frozen? ⟨g, j, none⟩ = false := World.ownsRow.frozenAt ho j
theorem OwnI.lt {w : World} {base g n : Nat} {h : Nat → Int} (ho : OwnI w base g n h) : base ≤ g ∧ g < w.heap.size := World.ownsRow.lt ho g rfl
theorem OwnI.kept {w w' : World} {base g n : Nat} {h : Nat → Int} {row : Option Nat} (ho : OwnI w base g n h) (hg : w.grownBy w' row) (hne : some g ≠ row) : OwnI w' base g n h := World.ownsRow.kept ho hg (.inr hne)
theorem OwnI.below {w w' : World} {base g n : Nat} {h : Nat → Int} (ho : OwnI w base g n h) (hb : Below w.heap.size w w') : OwnI w' base g n h := ho.kept (grownBy_of_below hb none) (by simp)
theorem OwnI.il {w : World} {base g n : Nat} {h : Nat → Int} (ho : OwnI w base g n h) : IL w (some ⟨g, 0, none⟩) n h := fun j hj => ⟨g, 0, rfl, by rw [Nat.zero_add]; exact ho.cell hj⟩
theorem OwnI.set {w : World} {base g n : Nat} {h h' : Nat → Int} (ho : OwnI w base g n h) (j : Nat) (x : Int) (e : ∀ i, i < n → h' i = if i = j then x else h i) : OwnI (w.setCell ⟨g, j, none⟩ (.int .i64 x)) base g n h' ∧ w.grownBy (w.setCell ⟨g, j, none⟩ (.int .i64 x)) (some g) := by
  have := World.ownsRow.stored ho j (.int .i64 x)
  rw [rowI_set] at this
  refine ⟨?_, this.2⟩
  unfold OwnI
  rw [rowI_ext e]
  exact this.1
theorem info_int : (Try.prog.info? 3).map (fun i => (i.zero, i.size, i.bytes)) = some (some (.int .i64 0), 1, 8) := by kernel_rfl
theorem replicate_rowI (n : Nat) : List.replicate n (Value.int .i64 0) = rowI n (fun _ => 0) := by
  apply List.ext_getElem?
  intro i
  by_cases hi : i < n
  · rw [rowI_get hi]; simp [hi]
  · have e1 : (rowI n (fun _ => 0))[i]? = none := List.getElem?_eq_none (by rw [rowI_len]; omega)
    rw [e1, List.getElem?_eq_none (by simp; omega)]
theorem make_ints (w : World) (n : Nat) (hn : n * 8 ≤ 281474976710656) (base : Nat) (hb : base ≤ w.heap.size) : ∃ w', (Instr.makeSlice 25 (.int .i64 n) (.int .i64 n)).run Try.prog w = .ok (.slice (some ⟨w.heap.size, 0, none⟩) n n) w' ∧ OwnI w' base w.heap.size n (fun _ => 0) ∧ Below w.heap.size w w' := by
  obtain ⟨i0, hi, hz0, hz1, hz2⟩ := info_parts info_int
  obtain ⟨w', h1, h2, h3⟩ := run_make_full (P := Try.prog) w base 25 3 i0 (.int .i64 0) 1 Try.underlying25 hi hz0 hz1 .i64 .i64 n (by rw [hz2]; omega) (by unfold maxLen; omega) hb
  refine ⟨w', h1, ?_, ⟨h3.os, h3.tape, h3.output, h3.size, fun k hk => h3.block k hk (by simp)⟩⟩
  have e : (madeCells (Value.int .i64 0).cells (n * 1)).toList = List.replicate n (Value.int .i64 0) := by rw [Nat.mul_one]; exact toList_madeCells_one _ _
  rw [e, replicate_rowI] at h2
  exact h2

/-- What Match leaves: a row of its own. -/
structure MatPost (w : World) (n : Nat) (h : Nat → Int) (x : Ending) (w' : World) (g : Nat) : Prop where
  ret : x = .returned (.slice (some ⟨g, 0, none⟩) n n)
  own : OwnI w' w.heap.size g n h
  low : Below w.heap.size w w'

theorem heldM_lt {K N : Nat → C} {n j : Nat} (x : List UInt8) (p : Nat) (h : heldM K N n j x = some p) : p < n := (firstsM_some (heldM_sub h)).1
theorem mat_row {K N : Nat → C} {n j : Nat} (i : Nat) : (if i < j + 1 then matM K N n i else (0 : Int)) = if i = j then matM K N n j else if i < j then matM K N n i else 0 := by
  by_cases e : i = j
  · subst e; simp
  · rw [if_neg e]
    by_cases h : i < j
    · rw [if_pos h, if_pos (by omega)]
    · rw [if_neg h, if_neg (by omega)]

set_option maxRecDepth 100000 in
set_option maxHeartbeats 2000000 in
theorem match_any (la : Option Addr) (ll lc : Nat) (K : Nat → C) (na : Option Addr) (nl nc : Nat) (N : Nat → C) (w : World) (hK : CLst w la ll lc K) (hN : CLst w na nl nc N) (hnb : nl * 8 ≤ 281474976710656) :
    Calls Try.prog 7 #[.slice la ll lc, .slice na nl nc] w fun x w' => ∃ g, MatPost w nl (matM K N ll) x w' g := by
  have hll := hK.cap
  have hnl := hN.cap
  unfold maxLen at hll hnl
  have HH := Lib.hid (holders_any la ll lc K w hK)
  have HMK := Lib.hid (fun W (hb : w.heap.size ≤ W.heap.size) => make_ints W nl hnb w.heap.size hb)
  have HK := Lib.hid (fun W (hb : Below w.heap.size w W) => hK.below hb)
  have HN := Lib.hid (fun W (hb : Below w.heap.size w W) => (hN.below hb).els)
  clear hK hN hnb
  go_enter Try.func7, Try.ntmps7
  go_wp2_with fail
  refine HH.out.mono ?_
  rintro x w1 ⟨rfl, hm, hb1⟩
  have hmlt := hm.lt
  obtain ⟨w2, hmk, hown, hb2⟩ := HMK.out w1 hb1.size
  have HM2 := Lib.hid (hm.below hb2)
  have HB2 := Lib.hid (hb1.trans (hb2.mono hb1.size))
  have HO2 := Lib.hid hown
  have HG := Lib.hid (show w1.heap.size ≠ w.heap.size by omega)
  clear hm hb1 hb2 hown HH HMK hmlt
  generalize w1.heap.size = g at hmk HO2 HG
  go_wp2_with fail
  clear hmk
  go_loopw [15] (fun i wr => ∃ j : Nat, j ≤ nl ∧ i = .int .i64 j ∧ MapIs wr w.heap.size ll (heldM K N ll j) ∧ OwnI wr w.heap.size g nl (fun i => if i < j then matM K N ll i else 0) ∧ Below w.heap.size w wr) (fun i _ => nl - (intOf i).toNat)
  case atStart => exact ⟨0, Nat.zero_le _, rfl, HM2.out, by have := HO2.out; simpa using this, HB2.out⟩
  case round =>
    obtain ⟨j, hj, rfl, hm, ho, hb⟩ := hrel
    have HM := Lib.hid hm
    have HO := Lib.hid ho
    have HB := Lib.hid hb
    clear HM2 HB2 HO2 hb hm ho
    by_cases hlt : j < nl
    · have hj0 : (0 : Int) ≤ (j : Int) := by omega
      have hj1 : (j : Int) < (nl : Int) := by omega
      obtain ⟨⟨b, o, rfl, hat⟩, hin⟩ := HN.out _ HB.out j hlt
      have HT := Lib.hid (mtake_any K la ll lc (N j) b (o + j * 11) w.heap.size ll (heldM K N ll j) wr (HK.out _ HB.out) hat hin HM.out (fun x p => heldM_lt x p))
      clear hat hin
      go_wp2_with fail
      refine HT.out.mono ?_
      rintro x w3 ⟨rfl, hm3, hg3⟩
      have ho3 := HO.out.kept hg3 (fun e => HG.out (Option.some.inj e))
      have hc3 := ho3.cell hlt
      have hf3 := ho3.frozen j
      obtain ⟨ho4, hg4⟩ := ho3.set (h' := fun i => if i < j + 1 then matM K N ll i else 0) j (matM K N ll j) (fun i _ => mat_row i)
      have HO4 := Lib.hid ho4
      have HM4 : Hid (MapIs (w3.setCell ⟨g, j, none⟩ (.int .i64 (matM K N ll j))) w.heap.size ll (heldM K N ll (j + 1))) := Lib.hid (MapIs.kept hm3 hg4 (fun e => HG.out (Option.some.inj e).symm))
      have HB4 : Hid (Below w.heap.size w (w3.setCell ⟨g, j, none⟩ (.int .i64 (matM K N ll j)))) := Lib.hid ((HB.out.grown hg3 HB.out.size (fun k e => by cases e; exact Nat.le_refl _)).grown hg4 (Nat.le_trans HB.out.size hg3.size) (fun k e => by cases e; exact ho3.lt.1))
      clear hm3 hg3 ho3 ho4 hg4 HT
      unfold matM at HO4 HM4 HB4
      generalize (takeM K (heldM K N ll j) (N j)).1 = y at HO4 HM4 HB4 ⊢
      go_wp2_with fail
      go_roundw
      case rel => exact ⟨j + 1, by omega, by go_num, HM4.out, HO4.out, HB4.out⟩
      case measure => simp [intOf]; omega
    · obtain rfl : j = nl := by omega
      have HE : Hid (OwnI wr w.heap.size g j (matM K N ll)) := by
        have := HO.out
        unfold OwnI at this ⊢
        rw [rowI_ext (h' := matM K N ll) (fun i hi => if_pos hi)] at this
        exact Lib.hid this
      go_wp2_with fail
      go_ret
      exact ⟨g, rfl, HE.out, HB.out⟩
end Go.Proofs.Ytpmkkgndpfbkdaa
