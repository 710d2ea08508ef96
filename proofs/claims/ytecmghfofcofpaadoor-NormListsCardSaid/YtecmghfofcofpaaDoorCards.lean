/-
  DERIVED. GIVEN WITH THE SEED: THE CARDS: each row of YtecmghfofcofpaaDoorRows.lean that lists a variable, with what it lists TIED to the program's text (the seventh form; the later family's looks); each row that meets fmt, with fmt's text TOLD by the authors' own Lean function (tested against real Go, not proved from fmt's source: count such statements apart). THE CARD IS WHAT COUNTS. Prove the row's statement (the work); the ties are given (YtecmghfofcofpaaDoorTie.lean); close each card by the builder's one call (the guide's Derived/Test/ToyasCard.lean, 'card_holds'). Laid BY PROGRAM, IN A SANDBOX (cutbox-door.mjs). By AI agents, Wed Nov 11 2026. No macro, syntax, notation, axiom, sorry.
-/
import Derived.Test.YtecmghfofcofpaaDoorRows
import GoSem.ClaimSeven
namespace Go.Proofs.YtecmghfofcofpaaDoor
namespace Rows

/-- THE TIED CARD OF 'tapestrylaw07.NormUnlike'. -/
def normUnlikeCard : Claim7 := { stood := { row := normUnlikeRow, standIns := [], harness := (true, "3caf954ddd4072f3cbae86ffec4a12af852d2e49fb4bdc630824e70a3f114fc0"), looks := false }, kinds := [], alts := [], laidByText := true, laidKinds := [.data, .data, .data, .data, .data], laidTests := true, laidLooks := .later }
def NormUnlikeCardSaid : Prop := Claim7.holds Tryd.pinned (.plain (OpenSpec.ofChange normUnlikeSpec)) normUnlikeCard

/-- THE TIED CARD OF 'tapestrylaw07.NormLists'. -/
def normListsCard : Claim7 := { stood := { row := normListsRow, standIns := [], harness := (true, "3caf954ddd4072f3cbae86ffec4a12af852d2e49fb4bdc630824e70a3f114fc0"), looks := false }, kinds := [], alts := [], laidByText := true, laidKinds := [.data, .data, .data, .data, .data], laidTests := true, laidLooks := .later }
def NormListsCardSaid : Prop := Claim7.holds Tryd.pinned (.plain (OpenSpec.ofChange normListsSpec)) normListsCard

/-- THE TIED CARD OF 'tapestrylaw07.NormPlaces'. -/
def normPlacesCard : Claim7 := { stood := { row := normPlacesRow, standIns := [], harness := (true, "3caf954ddd4072f3cbae86ffec4a12af852d2e49fb4bdc630824e70a3f114fc0"), looks := false }, kinds := [], alts := [], laidByText := true, laidKinds := [.data, .data, .data, .data, .data], laidTests := true, laidLooks := .later }
def NormPlacesCardSaid : Prop := Claim7.holds Tryd.pinned (.plain (OpenSpec.ofChange normPlacesSpec)) normPlacesCard

/-- THE TIED CARD OF 'tapestrylaw07.NormKinds'. -/
def normKindsCard : Claim7 := { stood := { row := normKindsRow, standIns := [], harness := (true, "3caf954ddd4072f3cbae86ffec4a12af852d2e49fb4bdc630824e70a3f114fc0"), looks := false }, kinds := [], alts := [], laidByText := true, laidKinds := [.data, .data, .data, .data, .data], laidTests := true, laidLooks := .later }
def NormKindsCardSaid : Prop := Claim7.holds Tryd.pinned (.plain (OpenSpec.ofChange normKindsSpec)) normKindsCard

/-- THE SECOND FORM's CARD OF 'tapestrylaw07.NormUnlike'. -/
def normUnlikeUptoCard : Claim7 := { stood := { row := normUnlikeUptoRow, standIns := [], harness := (true, "3caf954ddd4072f3cbae86ffec4a12af852d2e49fb4bdc630824e70a3f114fc0"), looks := false }, kinds := [], alts := [], laidByText := true, laidKinds := [.data, .data, .data, .data, .data], laidTests := true, laidLooks := .later }
def NormUnlikeUptoCardSaid : Prop := Claim7.holds Tryd.pinned (.plain (OpenSpec.upto normUnlikeSpec)) normUnlikeUptoCard

/-- THE SECOND FORM's CARD OF 'tapestrylaw07.NormLists'. -/
def normListsUptoCard : Claim7 := { stood := { row := normListsUptoRow, standIns := [], harness := (true, "3caf954ddd4072f3cbae86ffec4a12af852d2e49fb4bdc630824e70a3f114fc0"), looks := false }, kinds := [], alts := [], laidByText := true, laidKinds := [.data, .data, .data, .data, .data], laidTests := true, laidLooks := .later }
def NormListsUptoCardSaid : Prop := Claim7.holds Tryd.pinned (.plain (OpenSpec.upto normListsSpec)) normListsUptoCard

/-- THE SECOND FORM's CARD OF 'tapestrylaw07.NormPlaces'. -/
def normPlacesUptoCard : Claim7 := { stood := { row := normPlacesUptoRow, standIns := [], harness := (true, "3caf954ddd4072f3cbae86ffec4a12af852d2e49fb4bdc630824e70a3f114fc0"), looks := false }, kinds := [], alts := [], laidByText := true, laidKinds := [.data, .data, .data, .data, .data], laidTests := true, laidLooks := .later }
def NormPlacesUptoCardSaid : Prop := Claim7.holds Tryd.pinned (.plain (OpenSpec.upto normPlacesSpec)) normPlacesUptoCard

/-- THE SECOND FORM's CARD OF 'tapestrylaw07.NormKinds'. -/
def normKindsUptoCard : Claim7 := { stood := { row := normKindsUptoRow, standIns := [], harness := (true, "3caf954ddd4072f3cbae86ffec4a12af852d2e49fb4bdc630824e70a3f114fc0"), looks := false }, kinds := [], alts := [], laidByText := true, laidKinds := [.data, .data, .data, .data, .data], laidTests := true, laidLooks := .later }
def NormKindsUptoCardSaid : Prop := Claim7.holds Tryd.pinned (.plain (OpenSpec.upto normKindsSpec)) normKindsUptoCard
end Rows
end Go.Proofs.YtecmghfofcofpaaDoor
