/-
  DERIVED. GIVEN WITH THE SEED: THE CARDS: each row of YtalckcmjmpobeaaGreatDoorRows.lean that lists a variable, with what it lists TIED to the program's text (the seventh form; the later family's looks); each row that meets fmt, with fmt's text TOLD by the authors' own Lean function (tested against real Go, not proved from fmt's source: count such statements apart). THE CARD IS WHAT COUNTS. Prove the row's statement (the work); the ties are given (YtalckcmjmpobeaaGreatDoorTie.lean); close each card by the builder's one call (the guide's Derived/Test/ToyasCard.lean, 'card_holds'). Laid BY PROGRAM, IN A SANDBOX (cutbox-door.mjs). By AI agents, Wed Nov 11 2026. No macro, syntax, notation, axiom, sorry.
-/
import Derived.Test.YtalckcmjmpobeaaGreatDoorRows
import GoSem.ClaimSeven
namespace Go.Proofs.YtalckcmjmpobeaaGreatDoor
namespace Rows

/-- THE TIED CARD OF 'tapestrylaw02.OperDoes'. -/
def operDoesCard : Claim7 := { stood := { row := operDoesRow, standIns := [], harness := (true, "e063798ff51d765ab73d954da2a1d19221c7f69249520ac9e25075c6a5e39747"), looks := false }, kinds := [], alts := [], laidByText := true, laidKinds := [.data, .data, .data, .data, .data], laidTests := true, laidLooks := .later }
def OperDoesCardSaid : Prop := Claim7.holds Tryz.pinned (.plain (OpenSpec.ofChange operDoesSpec)) operDoesCard

/-- THE TIED CARD OF 'tapestrylaw02.OperTakes'. -/
def operTakesCard : Claim7 := { stood := { row := operTakesRow, standIns := [], harness := (true, "e063798ff51d765ab73d954da2a1d19221c7f69249520ac9e25075c6a5e39747"), looks := false }, kinds := [], alts := [], laidByText := true, laidKinds := [.data, .data, .data, .data, .data], laidTests := true, laidLooks := .later }
def OperTakesCardSaid : Prop := Claim7.holds Tryz.pinned (.plain (OpenSpec.ofChange operTakesSpec)) operTakesCard

/-- THE TIED CARD OF 'tapestrylaw02.OperMay'. -/
def operMayCard : Claim7 := { stood := { row := operMayRow, standIns := [], harness := (true, "e063798ff51d765ab73d954da2a1d19221c7f69249520ac9e25075c6a5e39747"), looks := false }, kinds := [], alts := [], laidByText := true, laidKinds := [.data, .data, .data, .data, .data], laidTests := true, laidLooks := .later }
def OperMayCardSaid : Prop := Claim7.holds Tryz.pinned (.plain (OpenSpec.ofChange operMaySpec)) operMayCard

/-- THE SECOND FORM's CARD OF 'tapestrylaw02.OperDoes'. -/
def operDoesUptoCard : Claim7 := { stood := { row := operDoesUptoRow, standIns := [], harness := (true, "e063798ff51d765ab73d954da2a1d19221c7f69249520ac9e25075c6a5e39747"), looks := false }, kinds := [], alts := [], laidByText := true, laidKinds := [.data, .data, .data, .data, .data], laidTests := true, laidLooks := .later }
def OperDoesUptoCardSaid : Prop := Claim7.holds Tryz.pinned (.plain (OpenSpec.upto operDoesSpec)) operDoesUptoCard

/-- THE SECOND FORM's CARD OF 'tapestrylaw02.OperTakes'. -/
def operTakesUptoCard : Claim7 := { stood := { row := operTakesUptoRow, standIns := [], harness := (true, "e063798ff51d765ab73d954da2a1d19221c7f69249520ac9e25075c6a5e39747"), looks := false }, kinds := [], alts := [], laidByText := true, laidKinds := [.data, .data, .data, .data, .data], laidTests := true, laidLooks := .later }
def OperTakesUptoCardSaid : Prop := Claim7.holds Tryz.pinned (.plain (OpenSpec.upto operTakesSpec)) operTakesUptoCard

/-- THE SECOND FORM's CARD OF 'tapestrylaw02.OperMay'. -/
def operMayUptoCard : Claim7 := { stood := { row := operMayUptoRow, standIns := [], harness := (true, "e063798ff51d765ab73d954da2a1d19221c7f69249520ac9e25075c6a5e39747"), looks := false }, kinds := [], alts := [], laidByText := true, laidKinds := [.data, .data, .data, .data, .data], laidTests := true, laidLooks := .later }
def OperMayUptoCardSaid : Prop := Claim7.holds Tryz.pinned (.plain (OpenSpec.upto operMaySpec)) operMayUptoCard
end Rows
end Go.Proofs.YtalckcmjmpobeaaGreatDoor
