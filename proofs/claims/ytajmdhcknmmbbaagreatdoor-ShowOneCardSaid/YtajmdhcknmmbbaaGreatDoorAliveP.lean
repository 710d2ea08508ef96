/-
  Plain: the values in alive(), what check, text, size, depth, same come to. No program is imported.
  Conditions: none.
-/
import Derived.Test.YtajmdhcknmmbbaaGreatDoorShape
namespace Go.Proofs.YtajmdhcknmmbbaaGreatDoor
open Go.RowKit

/-- A value without parts. -/
def vz (k n : Int) (s : ByteArray) : V := .mk k n s none 0 0 (fun _ => .leaf) none 0 0 (fun _ => ⟨#[]⟩) (fun _ => .leaf) 0 ⟨#[]⟩ false

def alL (B : Nat) : V := .mk 4 0 ⟨#[]⟩ (some ⟨B, 0, none⟩) 4 4 (fun i => if i = 0 then vz 0 0 ⟨#[]⟩ else if i = 1 then vz 1 (-5) ⟨#[]⟩ else if i = 2 then vz 2 1 ⟨#[]⟩ else vz 3 0 ⟨#[97, 34, 98]⟩) none 0 0 (fun _ => ⟨#[]⟩) (fun _ => .leaf) 0 ⟨#[]⟩ false
def alH (B C : Nat) : V := .mk 6 0 ⟨#[100, 105, 118]⟩ (some ⟨C, 0, none⟩) 1 1 (fun _ => vz 3 0 ⟨#[104, 105]⟩) (some ⟨B, 0, none⟩) 1 1 (fun _ => ⟨#[105, 100]⟩) (fun _ => vz 1 5 ⟨#[]⟩) 1 ⟨#[107]⟩ true

theorem itoa5 : Lib.itoa 5 = [53] := by decide +kernel
theorem itoam5 : Lib.itoa (-5) = [45, 53] := by decide +kernel
theorem alL_check (B : Nat) : (alL B).check = true := by rfl
theorem alL_size (B : Nat) : (alL B).size = 5 := by rfl
theorem alL_depth (B : Nat) : (alL B).depth = 2 := by rfl
theorem alL_told (B : Nat) : (alL B).told = [91, 110, 111, 110, 101, 32, 45, 53, 32, 121, 101, 115, 32, 34, 97, 92, 34, 98, 34, 93] := by
  simp [alL, vz, V.told, listL, sepTo, itoam5, quotedL, escB]
theorem alH_told (B C : Nat) : (alH B C).told = [60, 104, 111, 115, 116, 32, 34, 100, 105, 118, 34, 32, 107, 101, 121, 32, 34, 107, 34, 32, 123, 34, 105, 100, 34, 32, 53, 125, 32, 91, 34, 104, 105, 34, 93, 62] := by
  simp [alH, vz, V.told, listL, recL, sepTo, itoa5, quotedL, escB, wordL]
theorem bool2_check : (vz 2 2 ⟨#[]⟩).check = false := by rfl
theorem alLH_same (B C D : Nat) : (alL B).same (alH C D) = false := by rfl
theorem bLe_id : bLe ⟨#[105, 100]⟩ ⟨#[]⟩ = false := by
  simp only [bLe, ByteArray.toList_eq]
  decide +kernel
theorem alH_check (B C : Nat) : (alH B C).check = true := by

  have e0 : ((⟨#[]⟩ : ByteArray) = ByteArray.empty) = True := eq_true rfl
  have e1 : ((⟨#[100, 105, 118]⟩ : ByteArray) = ByteArray.empty) = False := eq_false (by decide)
  have e2 : ((⟨#[104, 105]⟩ : ByteArray) = ByteArray.empty) = False := eq_false (by decide)
  simp [alH, V.check, V.may, vz, foldTo, inLimB, inRowB, isElemB, emptyB, ByteArray.size, risingB, allB, e0, e1, e2, lastB, bLe_id]
theorem alL_text (B : Nat) : (alL B).text = ⟨#[91, 110, 111, 110, 101, 32, 45, 53, 32, 121, 101, 115, 32, 34, 97, 92, 34, 98, 34, 93]⟩ := by
  rw [V.text, alL_check, alL_told]; rfl
theorem alH_text (B C : Nat) : (alH B C).text = ⟨#[60, 104, 111, 115, 116, 32, 34, 100, 105, 118, 34, 32, 107, 101, 121, 32, 34, 107, 34, 32, 123, 34, 105, 100, 34, 32, 53, 125, 32, 91, 34, 104, 105, 34, 93, 62]⟩ := by
  rw [V.text, alH_check, alH_told]; rfl
end Go.Proofs.YtajmdhcknmmbbaaGreatDoor
