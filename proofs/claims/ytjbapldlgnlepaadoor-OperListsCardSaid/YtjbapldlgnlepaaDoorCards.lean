/-
  DERIVED. GIVEN WITH THE SEED: THE CARDS: each row of YtjbapldlgnlepaaDoorRows.lean that lists a variable, with what it lists TIED to the program's text (the seventh form; the later family's looks); each row that meets fmt, with fmt's text TOLD by the authors' own Lean function (tested against real Go, not proved from fmt's source: count such statements apart). THE CARD IS WHAT COUNTS. Prove the row's statement (the work); the ties are given (YtjbapldlgnlepaaDoorTie.lean); close each card by the builder's one call (the guide's Derived/Test/ToyasCard.lean, 'card_holds'). Laid BY PROGRAM, IN A SANDBOX (cutbox-door.mjs). By AI agents, Wed Nov 11 2026. No macro, syntax, notation, axiom, sorry.
-/
import Derived.Test.YtjbapldlgnlepaaDoorRows
import GoSem.ClaimSeven
namespace Go.Proofs.YtjbapldlgnlepaaDoor
namespace Rows

/-- THE TIED CARD OF 'tapestrylaw02.OperNumbers'. -/
def operNumbersCard : Claim7 := { stood := { row := operNumbersRow, standIns := [], harness := (true, "d8f9ce17613747f9870f025f17bf8e6f0248b9728e01ed09ce4de89de1cd9ca1"), looks := false }, kinds := [], alts := [], laidByText := true, laidKinds := [.data, .data, .data, .data, .data], laidTests := true, laidLooks := .later }
def OperNumbersCardSaid : Prop := Claim7.holds Tryd.pinned (.plain (OpenSpec.ofChange operNumbersSpec)) operNumbersCard

/-- THE TIED CARD OF 'tapestrylaw02.OperTexts'. -/
def operTextsCard : Claim7 := { stood := { row := operTextsRow, standIns := [], harness := (true, "d8f9ce17613747f9870f025f17bf8e6f0248b9728e01ed09ce4de89de1cd9ca1"), looks := false }, kinds := [], alts := [], laidByText := true, laidKinds := [.data, .data, .data, .data, .data], laidTests := true, laidLooks := .later }
def OperTextsCardSaid : Prop := Claim7.holds Tryd.pinned (.plain (OpenSpec.ofChange operTextsSpec)) operTextsCard

/-- THE TIED CARD OF 'tapestrylaw02.OperLists'. -/
def operListsCard : Claim7 := { stood := { row := operListsRow, standIns := [], harness := (true, "d8f9ce17613747f9870f025f17bf8e6f0248b9728e01ed09ce4de89de1cd9ca1"), looks := false }, kinds := [], alts := [], laidByText := true, laidKinds := [.data, .data, .data, .data, .data], laidTests := true, laidLooks := .later }
def OperListsCardSaid : Prop := Claim7.holds Tryd.pinned (.plain (OpenSpec.ofChange operListsSpec)) operListsCard

/-- THE TIED CARD OF 'tapestrylaw02.OperFields'. -/
def operFieldsCard : Claim7 := { stood := { row := operFieldsRow, standIns := [], harness := (true, "d8f9ce17613747f9870f025f17bf8e6f0248b9728e01ed09ce4de89de1cd9ca1"), looks := false }, kinds := [], alts := [], laidByText := true, laidKinds := [.data, .data, .data, .data, .data], laidTests := true, laidLooks := .later }
def OperFieldsCardSaid : Prop := Claim7.holds Tryd.pinned (.plain (OpenSpec.ofChange operFieldsSpec)) operFieldsCard

/-- THE SECOND FORM's CARD OF 'tapestrylaw02.OperNumbers'. -/
def operNumbersUptoCard : Claim7 := { stood := { row := operNumbersUptoRow, standIns := [], harness := (true, "d8f9ce17613747f9870f025f17bf8e6f0248b9728e01ed09ce4de89de1cd9ca1"), looks := false }, kinds := [], alts := [], laidByText := true, laidKinds := [.data, .data, .data, .data, .data], laidTests := true, laidLooks := .later }
def OperNumbersUptoCardSaid : Prop := Claim7.holds Tryd.pinned (.plain (OpenSpec.upto operNumbersSpec)) operNumbersUptoCard

/-- THE SECOND FORM's CARD OF 'tapestrylaw02.OperTexts'. -/
def operTextsUptoCard : Claim7 := { stood := { row := operTextsUptoRow, standIns := [], harness := (true, "d8f9ce17613747f9870f025f17bf8e6f0248b9728e01ed09ce4de89de1cd9ca1"), looks := false }, kinds := [], alts := [], laidByText := true, laidKinds := [.data, .data, .data, .data, .data], laidTests := true, laidLooks := .later }
def OperTextsUptoCardSaid : Prop := Claim7.holds Tryd.pinned (.plain (OpenSpec.upto operTextsSpec)) operTextsUptoCard

/-- THE SECOND FORM's CARD OF 'tapestrylaw02.OperLists'. -/
def operListsUptoCard : Claim7 := { stood := { row := operListsUptoRow, standIns := [], harness := (true, "d8f9ce17613747f9870f025f17bf8e6f0248b9728e01ed09ce4de89de1cd9ca1"), looks := false }, kinds := [], alts := [], laidByText := true, laidKinds := [.data, .data, .data, .data, .data], laidTests := true, laidLooks := .later }
def OperListsUptoCardSaid : Prop := Claim7.holds Tryd.pinned (.plain (OpenSpec.upto operListsSpec)) operListsUptoCard

/-- THE SECOND FORM's CARD OF 'tapestrylaw02.OperFields'. -/
def operFieldsUptoCard : Claim7 := { stood := { row := operFieldsUptoRow, standIns := [], harness := (true, "d8f9ce17613747f9870f025f17bf8e6f0248b9728e01ed09ce4de89de1cd9ca1"), looks := false }, kinds := [], alts := [], laidByText := true, laidKinds := [.data, .data, .data, .data, .data], laidTests := true, laidLooks := .later }
def OperFieldsUptoCardSaid : Prop := Claim7.holds Tryd.pinned (.plain (OpenSpec.upto operFieldsSpec)) operFieldsUptoCard
end Rows
end Go.Proofs.YtjbapldlgnlepaaDoor
