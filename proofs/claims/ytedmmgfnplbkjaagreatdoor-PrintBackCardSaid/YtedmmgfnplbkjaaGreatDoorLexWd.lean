/-
  Slices of words.
  Conditions: none.
-/
import Derived.Test.YtedmmgfnplbkjaaGreatDoorLexWo
import Derived.Laws.OwnMore
namespace Go.Proofs.YtedmmgfnplbkjaaGreatDoor
open Go.RowKit
def Wds (w : World) (v : Value) (ws : List LX.LW) : Prop :=
  ∃ ao cap, v = .slice ao ws.length cap ∧ ws.length ≤ cap ∧ cap ≤ maxLen ∧ (ws = [] ∨ ∃ b o, ao = some ⟨b, o, none⟩ ∧ b < w.heap.size ∧ ∀ j u, (flatW ws)[j]? = some u → w.cell? ⟨b, o + j, none⟩ = some u)
theorem flatW_length (ws : List LX.LW) : (flatW ws).length = ws.length * 4 := by
  induction ws with
  | nil => rfl
  | cons a t ih =>
    have : flatW (a :: t) = wCells a ++ flatW t := rfl
    rw [this, List.length_append, ih]
    simp [wCells]; omega
theorem flatW_at : ∀ (ws : List LX.LW) (i : Nat) (h : i < ws.length), (flatW ws)[i * 4]? = some (.int .u8 ws[i].k) ∧ (flatW ws)[i * 4 + 1]? = some (.string ⟨ws[i].s.toArray⟩) ∧ (flatW ws)[i * 4 + 2]? = some (.int .i64 ws[i].n) ∧ (flatW ws)[i * 4 + 3]? = some (.int .i64 ws[i].line)
  | [], i, h => by simp at h
  | a :: t, 0, h => by simp [flatW, wCells]
  | a :: t, i + 1, h => by
    have ih := flatW_at t i (by simpa using h)
    have e : flatW (a :: t) = wCells a ++ flatW t := rfl
    have k : ∀ q, (flatW (a :: t))[(i + 1) * 4 + q]? = (flatW t)[i * 4 + q]? := by
      intro q
      rw [e, List.getElem?_append_right (by simp [wCells]; omega)]
      congr 1
      simp [wCells]; omega
    have k0 := k 0
    simp only [Nat.add_zero] at k0
    rw [k0, k 1, k 2, k 3]
    simpa using ih
theorem Wds.at {w : World} {ao : Option Addr} {n cap : Nat} {ws : List LX.LW} (h : Wds w (.slice ao n cap) ws) (i : Nat) (hi : i < ws.length) :
    ∃ b o, ao = some ⟨b, o, none⟩ ∧ w.cell? ⟨b, o + i * 4, none⟩ = some (.int .u8 ws[i].k) ∧ w.cell? ⟨b, o + i * 4 + 1, none⟩ = some (.string ⟨ws[i].s.toArray⟩) ∧ w.cell? ⟨b, o + i * 4 + 2, none⟩ = some (.int .i64 ws[i].n) ∧ w.cell? ⟨b, o + i * 4 + 3, none⟩ = some (.int .i64 ws[i].line) := by
  obtain ⟨ao', cap', he, -, -, hc⟩ := h
  injection he with h1 h2 h3
  subst h1
  rcases hc with rfl | ⟨b, o, rfl, -, hc⟩
  · simp at hi
  · have := flatW_at ws i hi
    exact ⟨b, o, rfl, hc _ _ this.1, by rw [Nat.add_assoc]; exact hc _ _ this.2.1, by rw [Nat.add_assoc]; exact hc _ _ this.2.2.1, by rw [Nat.add_assoc]; exact hc _ _ this.2.2.2⟩
theorem Wds.below {w w' : World} {v : Value} {ws : List LX.LW} (h : Wds w v ws) (hb : Below w.heap.size w w') : Wds w' v ws := by
  obtain ⟨ao, cap, hv, h1, h2, hc⟩ := h
  refine ⟨ao, cap, hv, h1, h2, ?_⟩
  rcases hc with hc | ⟨b, o, ho, hb', hc⟩
  · exact .inl hc
  · exact .inr ⟨b, o, ho, Nat.lt_of_lt_of_le hb' hb.size, fun j u hu => by rw [← hc j u hu]; exact hb.cell (p := ⟨b, o + j, none⟩) hb'⟩
theorem Wds.of_own {w : World} {base : Nat} {v : Value} {ws : List LX.LW} (h : w.ownsRow base 90 4 v ws.length (flatW ws)) : Wds w v ws := by
  rcases h.2 with ⟨hv, h0⟩ | ⟨g, cap, cur, hv, hb, hg, h1, h2, h3⟩
  · exact ⟨none, 0, by rw [h0]; exact hv, by omega, by unfold maxLen; omega, .inl (List.eq_nil_of_length_eq_zero h0)⟩
  · refine ⟨_, cap, hv, h1, h2, .inr ⟨g, 0, rfl, lt_of_block hg, fun j u hu => ?_⟩⟩
    subst hv
    have hj : j < ws.length * 4 := by
      rw [← flatW_length]
      exact (List.getElem?_eq_some_iff.1 hu).1
    rw [Nat.zero_add, h.cellAt j hj]
    exact hu
end Go.Proofs.YtedmmgfnplbkjaaGreatDoor
