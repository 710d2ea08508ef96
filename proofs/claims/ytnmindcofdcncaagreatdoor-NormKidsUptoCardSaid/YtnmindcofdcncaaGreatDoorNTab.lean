/-
  The three tables of the program ('Tabs'); small facts on cells.
  Conditions: none.
-/
import Derived.Test.YtnmindcofdcncaaGreatDoorKMb
import Derived.Test.YtnmindcofdcncaaGreatDoorText
namespace Go.Proofs.YtnmindcofdcncaaGreatDoor
open Go.RowKit
def Tabs (w : World) : Prop := RowsAt w ∧ WordsAt w ∧ Lib.TabIs Tryz.prog w "internal/strconv.uint64pow10" .u64 Lib.pow10Tab
theorem Tabs.below {w w' : World} (h : Tabs w) (hb : Below w.heap.size w w') : Tabs w' := ⟨h.1.below hb, h.2.1.below hb, tab_below h.2.2 hb⟩
theorem vz_in (w : World) {k n : Int} {s : ByteArray} (hk : 0 ≤ k ∧ k ≤ 255) (hn : -9223372036854775808 ≤ n ∧ n ≤ 9223372036854775807) (hs : s.size ≤ maxLen) : (vz k n s).In w :=
  ⟨hk, hn, hs, by omega, by decide, ⟨Nat.le_refl _, by decide⟩, ⟨Nat.le_refl _, by decide⟩, fun i hi => absurd hi (Nat.not_lt_zero _), fun i hi => absurd hi (Nat.not_lt_zero _)⟩
end Go.Proofs.YtnmindcofdcncaaGreatDoor
