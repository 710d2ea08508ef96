/-
  Plain: api.Child ('C'), a list of children that lies in memory ('CLst'). No program is imported.
  Conditions: none.
-/
import Derived.Test.YtnmindcofdcncaaGreatDoorVal
namespace Go.Proofs.YtnmindcofdcncaaGreatDoor
set_option linter.unusedVariables false
set_option linter.unusedSimpArgs false
open Go.RowKit Go.Deep Go.WideShapes
structure C where
  key : ByteArray
  kind : Int
  name : ByteArray
  val : V
def C.cells (c : C) : List Value := .string c.key :: .int .u8 c.kind :: .string c.name :: c.val.cells
def C.agg (c : C) : Value := .agg c.cells.toArray
def C.In (w : World) (c : C) : Prop := c.key.size ≤ maxLen ∧ (0 ≤ c.kind ∧ c.kind ≤ 255) ∧ c.name.size ≤ maxLen ∧ c.val.In w
theorem C.In.below {w w' : World} (hb : Below w.heap.size w w') {c : C} (h : c.In w) : c.In w' := ⟨h.1, h.2.1, h.2.2.1, h.2.2.2.below hb⟩
structure CLst (w : World) (la : Option Addr) (ll lc : Nat) (K : Nat → C) : Prop where
  cap : ll ≤ lc ∧ lc ≤ maxLen
  els : ∀ i, i < ll → (∃ b o, la = some ⟨b, o, none⟩ ∧ At w b (o + i * 11) (K i).cells) ∧ (K i).In w
theorem CLst.below {w w' : World} {la : Option Addr} {ll lc : Nat} {K : Nat → C} (h : CLst w la ll lc K) (hb : Below w.heap.size w w') : CLst w' la ll lc K :=
  ⟨h.cap, fun i hi => let ⟨⟨b, o, e, ha⟩, hi'⟩ := h.els i hi; ⟨⟨b, o, e, ha.mono (fun _ h => hb.cell h)⟩, hi'.below hb⟩⟩
end Go.Proofs.YtnmindcofdcncaaGreatDoor
