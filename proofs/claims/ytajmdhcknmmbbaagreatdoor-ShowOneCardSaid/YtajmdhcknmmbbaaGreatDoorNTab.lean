/-
  The three tables of the program ('Tabs'); small facts on cells.
  Conditions: none.
-/
import Derived.Test.YtajmdhcknmmbbaaGreatDoorAliveP
import Derived.Test.YtajmdhcknmmbbaaGreatDoorText
import Derived.Test.YtajmdhcknmmbbaaGreatDoorSameP
namespace Go.Proofs.YtajmdhcknmmbbaaGreatDoor
open Go.RowKit

/-- What the program's three tables hold. -/
def Tabs (w : World) : Prop := RowsAt w ∧ WordsAt w ∧ Lib.TabIs Tryz.prog w "internal/strconv.uint64pow10" .u64 Lib.pow10Tab

theorem Tabs.below {w w' : World} (h : Tabs w) (hb : Below w.heap.size w w') : Tabs w' := ⟨h.1.below hb, h.2.1.below hb, tab_below h.2.2 hb⟩

theorem vz_in (w : World) {k n : Int} {s : ByteArray} (hk : 0 ≤ k ∧ k ≤ 255) (hn : -9223372036854775808 ≤ n ∧ n ≤ 9223372036854775807) (hs : s.size ≤ maxLen) : (vz k n s).In w :=
  ⟨hk, hn, hs, by omega, by decide, ⟨Nat.le_refl _, by decide⟩, ⟨Nat.le_refl _, by decide⟩, fun i hi => absurd hi (Nat.not_lt_zero _), fun i hi => absurd hi (Nat.not_lt_zero _)⟩

/-- Cells within cells. -/
theorem At.sub {w : World} {b o : Nat} {cs ds tl : List Value} (h : At w b o cs) (k : Nat) (hk : cs.drop k = ds ++ tl) : At w b (o + k) ds := by
  intro i hi
  have hki : cs[k + i]? = ds[i]? := by rw [← List.getElem?_drop, hk, List.getElem?_append_left hi]
  have hlt : k + i < cs.length := by
    rw [List.getElem?_eq_getElem hi] at hki
    exact (List.getElem?_eq_some_iff.1 hki).1
  rw [Nat.add_assoc, h _ hlt, hki]

/-- The cells of a block that is known. -/
theorem at_heap {w : World} {B : Nat} {cs : List Value} {T : TypeId} {r : Nat × Nat} (h : w.heap[B]? = some (.cells cs.toArray T r)) : At w B 0 cs := by
  intro i hi
  rw [Lib.cell_of_heap h]
  simp

end Go.Proofs.YtajmdhcknmmbbaaGreatDoor
