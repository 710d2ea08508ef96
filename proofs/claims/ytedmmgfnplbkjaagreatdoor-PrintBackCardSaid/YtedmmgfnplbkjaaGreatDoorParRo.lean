/-
  Plain: a row of cells out of a slice of rows ('sm_rep_row').
  Conditions: none.
-/
import Derived.Test.YtedmmgfnplbkjaaGreatDoorParWf
namespace Go.Proofs.YtedmmgfnplbkjaaGreatDoor
set_option linter.unusedVariables false
set_option linter.unusedSimpArgs false
open Go.RowKit G
def cellsA (row : Nat → T) : List T := [row 0, row 1, row 2, row 3, row 4, row 5, row 6, row 7, row 8, row 9, row 10, row 11]
def cellsS (row : Nat → T) : List T := [row 0, row 1, row 2, row 3, row 4, row 5, row 6, row 7, row 8, row 9, row 10, row 11, row 12, row 13, row 14, row 15, row 16]
def cellsC (row : Nat → T) : List T := [row 0, row 1, row 2, row 3, row 4, row 5, row 6, row 7, row 8, row 9, row 10, row 11, row 12]
def RunAt (w : World) (b o : Nat) (cs : List Value) : Prop := ∀ i, i < cs.length → w.cell? ⟨b, o + i, none⟩ = cs[i]?
theorem sm_all2_of {α β : Type} {R : α → β → Prop} : ∀ (l : List α) (g : Nat → β), (∀ i (h : i < l.length), R l[i] (g i)) → All2 R l ((List.range l.length).map g)
  | [], _, _ => .nil
  | a :: l, g, h => by
    rw [List.length_cons, List.range_succ_eq_map, List.map_cons, List.map_map]
    exact .cons (h 0 (by simp)) (sm_all2_of l (fun i => g (i + 1)) (fun i hi => by have := h (i + 1) (by simpa using hi); simpa using this))
theorem sm_rep_row {w : World} {ok : Nat → Prop} {n k b o i : Nat} {x : List T} (hx : x.length = k) (h : ∀ j, j < k → ∃ y, w.cell? ⟨b, o + i * k + j, none⟩ = some y ∧ (x.getD j default).Rep w ok y) :
    ∃ vs, Row w ok x vs ∧ RunAt w b (o + i * k) vs ∧ vs.length = k := by
  have hc : ∃ g : Nat → Value, ∀ j, j < k → w.cell? ⟨b, o + i * k + j, none⟩ = some (g j) ∧ (x.getD j default).Rep w ok (g j) :=
    ⟨fun j => if hj : j < k then Classical.choose (h j hj) else default, fun j hj => by simp only [hj, dif_pos]; exact Classical.choose_spec (h j hj)⟩
  obtain ⟨g, hg⟩ := hc
  refine ⟨(List.range x.length).map g, sm_all2_of x g (fun j hj => ?_), fun j hj => ?_, by simp [hx]⟩
  · have := (hg j (by omega)).2
    rwa [List.getD_eq_getElem?_getD, List.getElem?_eq_getElem hj] at this
  · rw [List.length_map, List.length_range] at hj
    rw [(hg j (by omega)).1]
    simp [hj]
end Go.Proofs.YtedmmgfnplbkjaaGreatDoor
