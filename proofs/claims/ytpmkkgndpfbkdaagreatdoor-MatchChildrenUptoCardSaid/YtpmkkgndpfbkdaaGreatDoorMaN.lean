/-
  Rows of one's own, of cells of one; which old children have gone on by now.
  Conditions: none.
-/
import Derived.Test.YtpmkkgndpfbkdaaGreatDoorMaT
namespace Go.Proofs.YtpmkkgndpfbkdaaGreatDoor
set_option linter.unusedVariables false
set_option linter.unusedSimpArgs false
open Go.RowKit Go.Deep Go.WideShapes

/-! ### Rows of one's own, of cells -/
def rowV (n : Nat) (h : Nat → Value) : List Value := (List.range n).map h
theorem rowV_len (n : Nat) (h : Nat → Value) : (rowV n h).length = n := by simp [rowV]
theorem rowV_get {n : Nat} {h : Nat → Value} {j : Nat} (hj : j < n) : (rowV n h)[j]? = some (h j) := by simp [rowV, hj]
theorem rowV_ext {n : Nat} {h h' : Nat → Value} (e : ∀ i, i < n → h i = h' i) : rowV n h = rowV n h' := by
  unfold rowV
  exact List.map_congr_left fun i hi => by rw [e i (List.mem_range.1 hi)]
theorem rowV_set {n : Nat} {h : Nat → Value} {j : Nat} (x : Value) : (rowV n h).set j x = rowV n (fun i => if i = j then x else h i) := by
  apply List.ext_getElem?
  intro i
  rw [List.getElem?_set]
  by_cases hi : i < n
  · by_cases e : j = i
    · subst e
      rw [if_pos rfl, if_pos (by rw [rowV_len]; exact hi), rowV_get hi, if_pos rfl]
    · rw [if_neg e, rowV_get hi, rowV_get hi, if_neg (Ne.symm e)]
  · have e1 : (rowV n h)[i]? = none := List.getElem?_eq_none (by rw [rowV_len]; omega)
    have e2 : (rowV n (fun i => if i = j then x else h i))[i]? = none := List.getElem?_eq_none (by rw [rowV_len]; omega)
    rw [e1, e2]
    by_cases e : j = i
    · subst e; simp [rowV_len, hi]
    · rw [if_neg e]
def OwnV (w : World) (base g n T : Nat) (h : Nat → Value) : Prop := w.ownsRow base T 1 (.slice (some ⟨g, 0, none⟩) n n) n (rowV n h)
theorem OwnV.cell {w : World} {base g n T : Nat} {h : Nat → Value} (ho : OwnV w base g n T h) {j : Nat} (hj : j < n) : w.cell? ⟨g, j, none⟩ = some (h j) := by
  rw [World.ownsRow.cellAt ho j (by omega), rowV_get hj]
theorem OwnV.frozen {w : World} {base g n T : Nat} {h : Nat → Value} (ho : OwnV w base g n T h) (j : Nat) : w.frozen? ⟨g, j, none⟩ = false := World.ownsRow.frozenAt ho j
theorem OwnV.lt {w : World} {base g n T : Nat} {h : Nat → Value} (ho : OwnV w base g n T h) : base ≤ g ∧ g < w.heap.size := World.ownsRow.lt ho g rfl
theorem OwnV.kept {w w' : World} {base g n T : Nat} {h : Nat → Value} {row : Option Nat} (ho : OwnV w base g n T h) (hg : w.grownBy w' row) (hne : some g ≠ row) : OwnV w' base g n T h := World.ownsRow.kept ho hg (.inr hne)
theorem OwnV.below {w w' : World} {base g n T : Nat} {h : Nat → Value} (ho : OwnV w base g n T h) (hb : Below w.heap.size w w') : OwnV w' base g n T h := ho.kept (grownBy_of_below hb none) (by simp)
theorem OwnV.set {w : World} {base g n T : Nat} {h h' : Nat → Value} (ho : OwnV w base g n T h) (j : Nat) (x : Value) (e : ∀ i, i < n → h' i = if i = j then x else h i) : OwnV (w.setCell ⟨g, j, none⟩ x) base g n T h' ∧ w.grownBy (w.setCell ⟨g, j, none⟩ x) (some g) := by
  have := World.ownsRow.stored ho j x
  rw [rowV_set] at this
  refine ⟨?_, this.2⟩
  unfold OwnV
  rw [rowV_ext e]
  exact this.1
theorem info_bool : (Tryz.prog.info? 4).map (fun i => (i.zero, i.size, i.bytes)) = some (some (.bool false), 1, 1) := by kernel_rfl
theorem make_bools (w : World) (n : Nat) (hn : n ≤ 281474976710656) (base : Nat) (hb : base ≤ w.heap.size) : ∃ w', (Instr.makeSlice 65 (.int .i64 n) (.int .i64 n)).run Tryz.prog w = .ok (.slice (some ⟨w.heap.size, 0, none⟩) n n) w' ∧ OwnV w' base w.heap.size n 4 (fun _ => .bool false) ∧ Below w.heap.size w w' := by
  obtain ⟨i0, hi, hz0, hz1, hz2⟩ := info_parts info_bool
  obtain ⟨w', h1, h2, h3⟩ := run_make_full (P := Tryz.prog) w base 65 4 i0 (.bool false) 1 Tryz.underlying65 hi hz0 hz1 .i64 .i64 n (by rw [hz2]; omega) (by unfold maxLen; omega) hb
  refine ⟨w', h1, ?_, ⟨h3.os, h3.tape, h3.output, h3.size, fun k hk => h3.block k hk (by simp)⟩⟩
  have e : (madeCells (Value.bool false).cells (n * 1)).toList = rowV n (fun _ => .bool false) := by
    rw [Nat.mul_one]
    refine (toList_madeCells_one _ _).trans ?_
    apply List.ext_getElem?
    intro i
    by_cases hi : i < n
    · rw [rowV_get hi]; simp [hi]
    · have e1 : (rowV n (fun _ => Value.bool false))[i]? = none := List.getElem?_eq_none (by rw [rowV_len]; omega)
      rw [e1, List.getElem?_eq_none (by simp; omega)]
  rw [e] at h2
  exact h2

/-- Has the old one with this place gone on by now? -/
def seenM (f : Nat → Int) (j p : Nat) : Bool := decide (∃ i, i < j ∧ f i = (p : Int))
theorem seenM_zero (f : Nat → Int) (p : Nat) : seenM f 0 p = false := decide_eq_false (fun ⟨i, hi, _⟩ => absurd hi (Nat.not_lt_zero _))
theorem seenM_no {f : Nat → Int} {j : Nat} (h : f j = -1) (p : Nat) : seenM f (j + 1) p = seenM f j p := by
  unfold seenM
  congr 1
  refine propext ⟨fun ⟨i, hi, e⟩ => ?_, fun ⟨i, hi, e⟩ => ⟨i, by omega, e⟩⟩
  rcases Nat.lt_succ_iff_lt_or_eq.1 hi with hlt | rfl
  · exact ⟨i, hlt, e⟩
  · rw [h] at e; omega
theorem seenM_yes {f : Nat → Int} {j p : Nat} (h : f j = (p : Int)) (q : Nat) : seenM f (j + 1) q = if q = p then true else seenM f j q := by
  unfold seenM
  by_cases e : q = p
  · subst e
    rw [if_pos rfl]
    exact decide_eq_true ⟨j, Nat.lt_succ_self _, h⟩
  · rw [if_neg e]
    congr 1
    refine propext ⟨fun ⟨i, hi, e2⟩ => ?_, fun ⟨i, hi, e⟩ => ⟨i, by omega, e⟩⟩
    rcases Nat.lt_succ_iff_lt_or_eq.1 hi with hlt | rfl
    · exact ⟨i, hlt, e2⟩
    · rw [h] at e2; omega
theorem seenM_first {K N : Nat → C} {n j p : Nat} (h : matM K N n j = (p : Int)) : seenM (matM K N n) j p = false := decide_eq_false (fun ⟨i, hi, e⟩ => matM_once hi e h)
end Go.Proofs.YtpmkkgndpfbkdaaGreatDoor
