/-
  Walks: ValueSize, ValuesSize, FieldsSize, FieldSize return just 'V.vsz' and the like; Beyond is a function of its numbers; old memory is as it was.
  Conditions: the value lies in memory ('V.In').
-/
import Derived.Test.YtnmindcofdcncaaGreatDoorSize
import Derived.Test.YtnmindcofdcncaaGreatDoorKMb
namespace Go.Proofs.YtnmindcofdcncaaGreatDoor
open Go.RowKit
theorem int_is {a b : Int} (h : a = b) : Value.int .i64 a = .int .i64 b := by rw [h]
end Go.Proofs.YtnmindcofdcncaaGreatDoor
