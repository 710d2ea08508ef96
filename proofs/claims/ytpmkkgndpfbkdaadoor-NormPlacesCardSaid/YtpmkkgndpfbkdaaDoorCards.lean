/-
  DERIVED. GIVEN WITH THE SEED: THE CARDS: each row of YtpmkkgndpfbkdaaDoorRows.lean that lists a variable, with what it lists TIED to the program's text (the seventh form; the later family's looks); each row that meets fmt, with fmt's text TOLD by the authors' own Lean function (tested against real Go, not proved from fmt's source: count such statements apart). THE CARD IS WHAT COUNTS. Prove the row's statement (the work); the ties are given (YtpmkkgndpfbkdaaDoorTie.lean); close each card by the builder's one call (the guide's Derived/Test/ToyasCard.lean, 'card_holds'). Laid BY PROGRAM, IN A SANDBOX (cutbox-door.mjs). By AI agents, Wed Nov 11 2026. No macro, syntax, notation, axiom, sorry.
-/
import Derived.Test.YtpmkkgndpfbkdaaDoorRows
import GoSem.ClaimSeven
namespace Go.Proofs.YtpmkkgndpfbkdaaDoor
namespace Rows

/-- THE TIED CARD OF 'tapestrylaw07.NormPlaces'. -/
def normPlacesCard : Claim7 := { stood := { row := normPlacesRow, standIns := [], harness := (true, "d1d5e64e4c238fd21c64e46a353c3acd929d9aa5f0c634bdd69e0a442ee097ab"), looks := false }, kinds := [], alts := [], laidByText := true, laidKinds := [.data, .data, .data, .data, .data], laidTests := true, laidLooks := .later }
def NormPlacesCardSaid : Prop := Claim7.holds Tryd.pinned (.plain (OpenSpec.ofChange normPlacesSpec)) normPlacesCard

/-- THE TIED CARD OF 'tapestrylaw08.MatchAll'. -/
def matchAllCard : Claim7 := { stood := { row := matchAllRow, standIns := [], harness := (true, "d1d5e64e4c238fd21c64e46a353c3acd929d9aa5f0c634bdd69e0a442ee097ab"), looks := false }, kinds := [], alts := [], laidByText := true, laidKinds := [.data, .data, .data, .data, .data], laidTests := true, laidLooks := .later }
def MatchAllCardSaid : Prop := Claim7.holds Tryd.pinned (.plain (OpenSpec.ofChange matchAllSpec)) matchAllCard

/-- THE SECOND FORM's CARD OF 'tapestrylaw07.NormPlaces'. -/
def normPlacesUptoCard : Claim7 := { stood := { row := normPlacesUptoRow, standIns := [], harness := (true, "d1d5e64e4c238fd21c64e46a353c3acd929d9aa5f0c634bdd69e0a442ee097ab"), looks := false }, kinds := [], alts := [], laidByText := true, laidKinds := [.data, .data, .data, .data, .data], laidTests := true, laidLooks := .later }
def NormPlacesUptoCardSaid : Prop := Claim7.holds Tryd.pinned (.plain (OpenSpec.upto normPlacesSpec)) normPlacesUptoCard

/-- THE SECOND FORM's CARD OF 'tapestrylaw08.MatchAll'. -/
def matchAllUptoCard : Claim7 := { stood := { row := matchAllUptoRow, standIns := [], harness := (true, "d1d5e64e4c238fd21c64e46a353c3acd929d9aa5f0c634bdd69e0a442ee097ab"), looks := false }, kinds := [], alts := [], laidByText := true, laidKinds := [.data, .data, .data, .data, .data], laidTests := true, laidLooks := .later }
def MatchAllUptoCardSaid : Prop := Claim7.holds Tryd.pinned (.plain (OpenSpec.upto matchAllSpec)) matchAllUptoCard
end Rows
end Go.Proofs.YtpmkkgndpfbkdaaDoor
