/-
  Walks: Beyond is a function of its numbers; old memory is as it was.
  Conditions: the numbers stand one behind the other.
-/
import Derived.Test.YtjbapldlgnlepaaGreatDoorSizeX
namespace Go.Proofs.YtjbapldlgnlepaaGreatDoor
open Go.RowKit

/-- The first j numbers, added up as Go does. -/
def sumW (j : Nat) (g : Nat → Int) : Int := foldTo j (fun i a => wrap64 (a + g i)) 0

/-- Are they beyond? -/
def beyB (n : Nat) (g : Nat → Int) : Bool := decide (∃ j, j < n ∧ 1048576 < sumW (j + 1) g)

theorem beyB_true {n k : Nat} {g : Nat → Int} (hk : k < n) (h : 1048576 < sumW (k + 1) g) : beyB n g = true := decide_eq_true ⟨k, hk, h⟩
theorem beyB_false {n : Nat} {g : Nat → Int} (h : ∀ j, j < n → ¬ 1048576 < sumW (j + 1) g) : beyB n g = false := decide_eq_false (fun ⟨j, hj, h1⟩ => h j hj h1)

/-- n ints stand one behind the other. -/
def IntsIs (w : World) (b o n : Nat) (g : Nat → Int) : Prop := ∀ j, j < n → w.cell? ⟨b, o + j, none⟩ = some (.int .i64 (g j))

def KeepB (k : Nat) (f : Nat → Int) : Prop := ∀ j, j < k → ¬ 1048576 < f (j + 1)

set_option maxHeartbeats 400000 in
theorem beyond_is (w : World) (b o n c : Nat) (g : Nat → Int) (hn : n ≤ 1000) (h : IntsIs w b o n g) (hg : ∀ i, -9223372036854775808 ≤ g i ∧ g i ≤ 9223372036854775807) :
    Calls Tryz.prog 13 #[.slice (some ⟨b, o, none⟩) n c] w fun e w' => e = .returned (.bool (beyB n g)) ∧ w = w' := by
  obtain ⟨f, hf⟩ : ∃ f : Nat → Int, f = fun j => sumW j g := ⟨_, rfl⟩
  have HT : Hid (∀ k, k < n → 1048576 < f (k + 1) → beyB n g = true) := by rw [hf]; exact fun k => beyB_true
  have HFa : Hid (KeepB n f → beyB n g = false) := by rw [hf]; exact fun h => beyB_false h
  have HF : Hid (∀ j, -9223372036854775808 ≤ f j ∧ f j ≤ 9223372036854775807) := by
    rw [hf]
    intro j
    cases j with
    | zero => exact ⟨(by decide : (-9223372036854775808 : Int) ≤ 0), (by decide : (0 : Int) ≤ 9223372036854775807)⟩
    | succ j => exact wrap64_range _
  have HS : Hid (∀ j, f (j + 1) = wrap64 (f j + g j)) := by rw [hf]; exact fun _ => rfl
  have H0 := Lib.hid (show f 0 = 0 by rw [hf]; rfl)
  clear hf
  have H := Lib.hid h
  have HG := Lib.hid hg
  clear h hg
  generalize beyB n g = q at HT HFa ⊢
  go_enter Tryz.func13, Tryz.ntmps13
  go_wp2_with fail
  go_loopw [3, 4] (fun m i wr => ∃ k : Nat, k ≤ n ∧ i = .int .i64 k ∧ m = .int .i64 (f k) ∧ KeepB k f ∧ w = wr) (fun _ i _ => n - (intOf i).toNat)
  case atStart => exact ⟨0, Nat.zero_le _, rfl, int_is H0.out.symm, fun j hj => absurd hj (Nat.not_lt_zero _), rfl⟩
  case round =>
    obtain ⟨k, hk, rfl, rfl, hkb, rfl⟩ := hrel
    have HK := Lib.hid hkb
    clear hkb
    have hm := HF.out k
    by_cases hlt : k < n
    · have hy := H.out k hlt
      have hm2 := HG.out k
      have HA := Lib.hid (HS.out k)
      by_cases h1 : 1048576 < wrap64 (f k + g k)
      · have HQ := Lib.hid (HT.out k hlt (by rw [HA.out]; exact h1))
        generalize f k = m at HA hm h1 ⊢
        generalize g k = y at HA hm2 hy h1
        go_wp2_with fail
        go_ret
        exact ⟨ret_b HQ.out.symm, rfl⟩
      · have HQ := Lib.hid (show ¬ 1048576 < f (k + 1) by rw [HA.out]; exact h1)
        generalize f k = m at HA hm h1 ⊢
        generalize g k = y at HA hm2 hy h1
        go_wp2_with fail
        go_roundw
        case rel =>
          refine ⟨k + 1, by omega, by go_num, int_is HA.out.symm, fun j hj => ?_, trivial⟩
          rcases Nat.lt_succ_iff_lt_or_eq.1 hj with h | rfl
          · exact HK.out j h
          · exact HQ.out
        case measure => simp [intOf]; omega
    · obtain rfl : n = k := by omega
      have HQ := Lib.hid (HFa.out HK.out)
      generalize hfm : f n = m at hm ⊢
      have HFM := Lib.hid hfm
      clear hfm
      go_wp2_with fail
      go_ret
      exact ⟨ret_b HQ.out.symm, rfl⟩
end Go.Proofs.YtjbapldlgnlepaaGreatDoor
