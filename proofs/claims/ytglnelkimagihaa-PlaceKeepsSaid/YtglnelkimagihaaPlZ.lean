/-
  Walks: PlaceKeeps returns true: those that are not placed stand in their old order, and each one that is placed is new or stood ahead of one that comes ahead of it.
  Conditions: the places lie in memory.
-/
import Derived.Test.YtglnelkimagihaaPlW
namespace Go.Proofs.Ytglnelkimagihaa
set_option linter.unusedVariables false
set_option linter.unusedSimpArgs false
open Go.RowKit Go.Deep Go.WideShapes
open Go.Maps hiding size

/-- Was it found among the first k? -/
def fnd (L : List Int) (j k : Nat) : Bool := decide (Pl.nth L j < 0 ∨ ∃ q, q < k ∧ Pl.nth L j < Pl.nth L q)
theorem fnd_zero (L : List Int) (j : Nat) : fnd L j 0 = decide (Pl.nth L j < 0) := by unfold fnd; congr 1; simp
theorem fnd_all (L : List Int) (j : Nat) : fnd L j j = Pl.plc L j := rfl
theorem fnd_yes {L : List Int} {j k : Nat} (h : fnd L j k = true) : fnd L j (k + 1) = true := by
  unfold fnd at h ⊢
  refine decide_eq_true ?_
  rcases of_decide_eq_true h with q | ⟨q, h1, h2⟩
  · exact .inl q
  · exact .inr ⟨q, by omega, h2⟩
theorem fnd_no {L : List Int} {j k : Nat} (h : fnd L j k = false) : fnd L j (k + 1) = decide (Pl.nth L j < Pl.nth L k) := by
  unfold fnd at h ⊢
  have h0 := of_decide_eq_false h
  congr 1
  refine propext ⟨fun q => ?_, fun q => .inr ⟨k, by omega, q⟩⟩
  rcases q with q | ⟨q, h1, h2⟩
  · exact absurd (.inl q) h0
  · by_cases e : q = k
    · rw [← e]; exact h2
    · exact absurd (.inr ⟨q, by omega, h2⟩) h0
/-- What stands last of those that stay. -/
def LastOk (L : List Int) (j : Nat) (z : Int) : Prop := z = -1 ∨ ∃ k, k < j ∧ z = Pl.nth L k
theorem LastOk.step {L : List Int} {j : Nat} {z : Int} (h : LastOk L j z) : LastOk L (j + 1) z := h.imp id (fun ⟨k, h1, h2⟩ => ⟨k, by omega, h2⟩)
theorem LastOk.le {L : List Int} {j : Nat} {z : Int} (h : LastOk L j z) (hp : Pl.plc L j = false) : ¬ Pl.nth L j < z ∧ ¬ Pl.nth L j < 0 := by
  have h0 := of_decide_eq_false hp
  refine ⟨fun q => ?_, fun q => h0 (.inl q)⟩
  rcases h with h | ⟨k, h1, h2⟩
  · exact h0 (.inl (by omega))
  · exact h0 (.inr ⟨k, h1, by omega⟩)

set_option maxRecDepth 100000 in
set_option maxHeartbeats 4000000 in
theorem pkeeps_any (a : Option Addr) (L : List Int) (cap : Nat) (w : World) (hl : L.length ≤ cap ∧ cap ≤ maxLen) (h : RL w a L) :
    Calls Try.prog 7 #[.slice a L.length cap] w fun x w' => x = .returned (.bool true) ∧ Below w.heap.size w w' := by
  have HAL := Lib.hid (fun W => alive9_any W)
  have HMV := Lib.hid (fun W (hb : Below w.heap.size w W) hn => moves_any a L cap W (h.below hb) hn)
  have HR := Lib.hid (fun W (hb : Below w.heap.size w W) => h.below hb)
  unfold maxLen at hl
  clear h
  unfold RL at HR
  obtain ⟨n, hnE⟩ : ∃ n, L.length = n := ⟨_, rfl⟩
  rw [hnE] at HMV HR hl ⊢
  clear hnE
  have hn0 : (0 : Int) ≤ (n : Int) := by omega
  by_cases hbig : 1000 < n
  · have hb1 : (1000 : Int) < (n : Int) := by omega
    go_enter Try.func7, Try.ntmps7
    go_wp2_with (first
      | (go_at_call 17; (with_reducible refine (HAL.out w).mono ?_); rintro x w1 ⟨rfl, hb1⟩; have HB1 := Lib.hid hb1; clear hb1)
      | (go_at_call 17; (with_reducible refine (HAL.out w1).mono ?_); rintro x w2 ⟨rfl, hb2⟩; have HB2 := Lib.hid (HB1.out.trans (hb2.mono HB1.out.size)); clear hb2))
    go_ret
    exact ⟨rfl, HB2.out⟩
  · have hb1 : ¬ (1000 : Int) < (n : Int) := by omega
    have hb2 : ¬ 1000 < n := hbig
    have hb3 : decide (1000 < n) = false := decide_eq_false hb2
    go_enter Try.func7, Try.ntmps7
    go_wp2_with (first
      | (go_at_call 17; (with_reducible refine (HAL.out w).mono ?_); rintro x w1 ⟨rfl, hb1⟩; have HB1 := Lib.hid hb1; clear hb1)
      | (go_at_call 10; (with_reducible refine (HMV.out _ HB1.out (by omega)).mono ?_); rintro x w2 ⟨g, rfl, ho2, hb2⟩; have HO2 := Lib.hid ho2; have HB2 := Lib.hid (HB1.out.trans (hb2.mono HB1.out.size)); clear ho2 hb2))
    go_loopw [4, 5] (fun o i wr => ∃ (j : Nat) (z : Int), j ≤ n ∧ i = .int .i64 j ∧ o = .int .i64 z ∧ LastOk L j z ∧ Below w2.heap.size w2 wr) (fun _ i _ => n - (intOf i).toNat)
    case atStart => exact ⟨0, -1, Nat.zero_le _, rfl, rfl, .inl rfl, Below.refl _ _⟩
    case round =>
      obtain ⟨j, z, hj, rfl, rfl, hz, hb⟩ := hrel
      have HZ := Lib.hid hz
      have HB := Lib.hid hb
      clear hz hb
      by_cases hlt : j < n
      · have hj0 : (0 : Int) ≤ (j : Int) := by omega
        have hj1 : (j : Int) < (n : Int) := by omega
        have hcm := (HO2.out.below HB.out).cell hlt
        obtain ⟨b, o, rfl, hc⟩ := HR.out _ (HB2.out.trans (HB.out.mono HB2.out.size)) j hlt
        cases hp : Pl.plc L j with
        | false =>
          rw [hp] at hcm
          obtain ⟨q1, q2⟩ := HZ.out.le hp
          have HZ2 : Hid (LastOk L (j + 1) (Pl.nth L j)) := Lib.hid (.inr ⟨j, Nat.lt_succ_self _, rfl⟩)
          clear hp
          generalize Pl.nth L j = x at hc q1 q2 HZ2
          go_wp2_with fail
          go_roundw
          case rel => exact ⟨j + 1, x, by omega, by go_num, rfl, HZ2.out, HB.out⟩
          case measure => simp [intOf]; omega
        | true =>
          rw [hp] at hcm
          have HF0 := Lib.hid (fnd_zero L j)
          have HFA : Hid (fnd L j j = true) := Lib.hid hp
          have HC : Hid (∀ k, k < n → ∀ W, Below wr.heap.size wr W → W.cell? ⟨b, o + k, none⟩ = some (.int .i64 (Pl.nth L k))) := Lib.hid (fun k hk W hb => by
            obtain ⟨b2, o2, e2, hc2⟩ := HR.out W ((HB2.out.trans (HB.out.mono HB2.out.size)).trans (hb.mono (Nat.le_trans HB2.out.size HB.out.size))) k hk
            cases e2
            exact hc2)
          clear hp
          go_wp2_with fail
          go_loopw [6, 7] (fun f i wr2 => ∃ k : Nat, k ≤ j ∧ i = .int .i64 k ∧ f = .bool (fnd L j k) ∧ Below wr.heap.size wr wr2) (fun _ i _ => j - (intOf i).toNat)
          case atStart => exact ⟨0, Nat.zero_le _, rfl, by rw [HF0.out], Below.refl _ _⟩
          case round =>
            obtain ⟨k, hk, rfl, rfl, hbk⟩ := hrel
            have HBK := Lib.hid hbk
            clear hbk
            by_cases hkl : k < j
            · have hk0 : (0 : Int) ≤ (k : Int) := by omega
              have hk1 : (k : Int) < (j : Int) := by omega
              have hk2 : (k : Int) < (n : Int) := by omega
              have c1 := HC.out k (by omega) _ HBK.out
              have c2 := HC.out j hlt _ HBK.out
              cases hf : fnd L j k with
              | true =>
                have HFK := Lib.hid (fnd_yes hf)
                clear hf
                go_wp2_with fail
                go_quiet (fail)
                have HBD := Lib.hid (HBK.out.trans ((below_drawM _ nq).mono HBK.out.size))
                go_wp2_with fail
                go_roundw
                case rel => exact ⟨k + 1, by omega, by go_num, by rw [HFK.out], HBD.out⟩
                case measure => simp [intOf]; omega
              | false =>
                have HFK := Lib.hid (fnd_no hf)
                clear hf
                generalize Pl.nth L k = y at c1 HFK
                generalize Pl.nth L j = x at c2 HFK hc
                go_wp2_with fail
                go_quiet (fail)
                have HBD := Lib.hid (HBK.out.trans ((below_drawM _ nq).mono HBK.out.size))
                go_wp2_with fail
                go_roundw
                case rel => exact ⟨k + 1, by omega, by go_num, by rw [HFK.out], HBD.out⟩
                case measure => simp [intOf]; omega
            · obtain rfl : k = j := by omega
              rw [HFA.out]
              go_wp2_with fail
              refine ⟨⟨k + 1, z, by omega, by go_num, rfl, HZ.out.step, HB.out.trans (HBK.out.mono HB.out.size)⟩, by simp [intOf]; omega⟩
      · obtain rfl : j = n := by omega
        go_wp2_with fail
        go_ret
        exact ⟨rfl, HB2.out.trans (HB.out.mono HB2.out.size)⟩
end Go.Proofs.Ytglnelkimagihaa
