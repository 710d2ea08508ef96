/-
  DERIVED. GIVEN WITH THE SEED: THE CARDS: each row of YtnmindcofdcncaaGreatDoorRows.lean that lists a variable, with what it lists TIED to the program's text (the seventh form; the later family's looks); each row that meets fmt, with fmt's text TOLD by the authors' own Lean function (tested against real Go, not proved from fmt's source: count such statements apart). THE CARD IS WHAT COUNTS. Prove the row's statement (the work); the ties are given (YtnmindcofdcncaaGreatDoorTie.lean); close each card by the builder's one call (the guide's Derived/Test/ToyasCard.lean, 'card_holds'). Laid BY PROGRAM, IN A SANDBOX (cutbox-door.mjs). By AI agents, Wed Nov 11 2026. No macro, syntax, notation, axiom, sorry.
-/
import Derived.Test.YtnmindcofdcncaaGreatDoorRows
import GoSem.ClaimSeven
namespace Go.Proofs.YtnmindcofdcncaaGreatDoor
namespace Rows

/-- THE TIED CARD OF 'tapestrylaw07.NormKids'. -/
def normKidsCard : Claim7 := { stood := { row := normKidsRow, standIns := [], harness := (true, "97a05dc9b35efe19e7fcf464ff9e71c3611e0827dc979f56d100cb95aadda877"), looks := false }, kinds := [], alts := [], laidByText := true, laidKinds := [.data, .data, .data, .data, .data], laidTests := true, laidLooks := .later }
def NormKidsCardSaid : Prop := Claim7.holds Tryz.pinned (.plain (OpenSpec.ofChange normKidsSpec)) normKidsCard

/-- THE SECOND FORM's CARD OF 'tapestrylaw07.NormKids'. -/
def normKidsUptoCard : Claim7 := { stood := { row := normKidsUptoRow, standIns := [], harness := (true, "97a05dc9b35efe19e7fcf464ff9e71c3611e0827dc979f56d100cb95aadda877"), looks := false }, kinds := [], alts := [], laidByText := true, laidKinds := [.data, .data, .data, .data, .data], laidTests := true, laidLooks := .later }
def NormKidsUptoCardSaid : Prop := Claim7.holds Tryz.pinned (.plain (OpenSpec.upto normKidsSpec)) normKidsUptoCard
end Rows
end Go.Proofs.YtnmindcofdcncaaGreatDoor
