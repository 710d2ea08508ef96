/-
  DERIVED. GIVEN WITH THE SEED: THE CARDS: each row of YtjbapldlgnlepaaGreatDoorRows.lean that lists a variable, with what it lists TIED to the program's text (the seventh form; the later family's looks); each row that meets fmt, with fmt's text TOLD by the authors' own Lean function (tested against real Go, not proved from fmt's source: count such statements apart). THE CARD IS WHAT COUNTS. Prove the row's statement (the work); the ties are given (YtjbapldlgnlepaaGreatDoorTie.lean); close each card by the builder's one call (the guide's Derived/Test/ToyasCard.lean, 'card_holds'). Laid BY PROGRAM, IN A SANDBOX (cutbox-door.mjs). By AI agents, Wed Nov 11 2026. No macro, syntax, notation, axiom, sorry.
-/
import Derived.Test.YtjbapldlgnlepaaGreatDoorRows
import GoSem.ClaimSeven
namespace Go.Proofs.YtjbapldlgnlepaaGreatDoor
namespace Rows

/-- THE TIED CARD OF 'tapestrylaw02.OperTakes'. -/
def operTakesCard : Claim7 := { stood := { row := operTakesRow, standIns := [], harness := (true, "5e534b7e8b177833c26e33c81a0714f82b51dc7381174b8182ec9233993791c5"), looks := false }, kinds := [], alts := [], laidByText := true, laidKinds := [.data, .data, .data, .data, .data], laidTests := true, laidLooks := .later }
def OperTakesCardSaid : Prop := Claim7.holds Tryz.pinned (.plain (OpenSpec.ofChange operTakesSpec)) operTakesCard

/-- THE TIED CARD OF 'tapestrylaw02.OperMay'. -/
def operMayCard : Claim7 := { stood := { row := operMayRow, standIns := [], harness := (true, "5e534b7e8b177833c26e33c81a0714f82b51dc7381174b8182ec9233993791c5"), looks := false }, kinds := [], alts := [], laidByText := true, laidKinds := [.data, .data, .data, .data, .data], laidTests := true, laidLooks := .later }
def OperMayCardSaid : Prop := Claim7.holds Tryz.pinned (.plain (OpenSpec.ofChange operMaySpec)) operMayCard

/-- THE SECOND FORM's CARD OF 'tapestrylaw02.OperTakes'. -/
def operTakesUptoCard : Claim7 := { stood := { row := operTakesUptoRow, standIns := [], harness := (true, "5e534b7e8b177833c26e33c81a0714f82b51dc7381174b8182ec9233993791c5"), looks := false }, kinds := [], alts := [], laidByText := true, laidKinds := [.data, .data, .data, .data, .data], laidTests := true, laidLooks := .later }
def OperTakesUptoCardSaid : Prop := Claim7.holds Tryz.pinned (.plain (OpenSpec.upto operTakesSpec)) operTakesUptoCard

/-- THE SECOND FORM's CARD OF 'tapestrylaw02.OperMay'. -/
def operMayUptoCard : Claim7 := { stood := { row := operMayUptoRow, standIns := [], harness := (true, "5e534b7e8b177833c26e33c81a0714f82b51dc7381174b8182ec9233993791c5"), looks := false }, kinds := [], alts := [], laidByText := true, laidKinds := [.data, .data, .data, .data, .data], laidTests := true, laidLooks := .later }
def OperMayUptoCardSaid : Prop := Claim7.holds Tryz.pinned (.plain (OpenSpec.upto operMaySpec)) operMayUptoCard
end Rows
end Go.Proofs.YtjbapldlgnlepaaGreatDoor
