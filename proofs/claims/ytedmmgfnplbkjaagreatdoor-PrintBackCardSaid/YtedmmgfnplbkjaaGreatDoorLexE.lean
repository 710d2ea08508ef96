/-
  Walks: (*reader).eat, with each of the three functions that it is given.
  Conditions: the reader lies in block R; what the function answers is told by contracts.
-/
import Derived.Test.YtedmmgfnplbkjaaGreatDoorLexB
namespace Go.Proofs.YtedmmgfnplbkjaaGreatDoor
open Go.RowKit
def RdAt (R : Nat) (s : ByteArray) (ln : Int) (w : World) : Prop := w.heap[R]? = some (.cells #[.string s, .int .i64 ln] 87 (0, 0))
theorem RdAt.lt {R : Nat} {s : ByteArray} {ln : Int} {w : World} (h : RdAt R s ln w) : R < w.heap.size := by
  rcases Nat.lt_or_ge R w.heap.size with h' | h'
  · exact h'
  · simp [RdAt, Array.getElem?_eq_none h'] at h
theorem RdAt.c0 {R : Nat} {s : ByteArray} {ln : Int} {w : World} (h : RdAt R s ln w) : w.cell? ⟨R, 0, none⟩ = some (.string s) := by rw [Lib.cell_of_heap h]; rfl
theorem RdAt.c1 {R : Nat} {s : ByteArray} {ln : Int} {w : World} (h : RdAt R s ln w) : w.cell? ⟨R, 1, none⟩ = some (.int .i64 ln) := by rw [Lib.cell_of_heap h]; rfl
theorem RdAt.f0 {R : Nat} {s : ByteArray} {ln : Int} {w : World} (h : RdAt R s ln w) : w.frozen? ⟨R, 0, none⟩ = false := Lib.frozen_of_heap h 0
theorem RdAt.f1 {R : Nat} {s : ByteArray} {ln : Int} {w : World} (h : RdAt R s ln w) : w.frozen? ⟨R, 1, none⟩ = false := Lib.frozen_of_heap h 1
theorem RdAt.below {R : Nat} {s : ByteArray} {ln : Int} {w w' : World} {B : Nat} (h : RdAt R s ln w) (hb : Below B w w') (hR : R < B) : RdAt R s ln w' := by
  unfold RdAt at h ⊢; rw [hb.block R hR]; exact h
theorem RdAt.put0 {R : Nat} {s t : ByteArray} {ln : Int} {w : World} (h : RdAt R s ln w) : RdAt R t ln (w.setCell ⟨R, 0, none⟩ (.string t)) := by
  unfold RdAt at h ⊢
  simp [World.setCell, Array.getElem?_modify, h]
theorem RdAt.put1 {R : Nat} {s : ByteArray} {ln k : Int} {w : World} (h : RdAt R s ln w) : RdAt R s k (w.setCell ⟨R, 1, none⟩ (.int .i64 k)) := by
  unfold RdAt at h ⊢
  simp [World.setCell, Array.getElem?_modify, h]
set_option maxRecDepth 100000 in
set_option maxHeartbeats 4000000 in
theorem eat_idle (R N : Nat) (s : ByteArray) (ln : Int) (p0 : Value) (w : World) (I : Nat → World → Prop) (E : World → Prop) (hs : s.size ≤ 140737488355328) (hN : N ≤ s.size)
    (hI : ∀ n W, I n W → RdAt R s ln W) (hE : ∀ W, E W → RdAt R s ln W)
    (hyes : ∀ n W (h : n < s.size), n < N → I n W → Calls Tryz.prog 57 #[.int .u8 (s[n]'h).toNat, p0] W fun e w' => e = .returned (.bool true) ∧ I (n + 1) w')
    (hno : ∀ W (h : N < s.size), I N W → Calls Tryz.prog 57 #[.int .u8 (s[N]'h).toNat, p0] W fun e w' => e = .returned (.bool false) ∧ E w')
    (hend : N = s.size → ∀ W, I N W → E W) (h0 : I 0 w) :
    Calls Tryz.prog 56 #[.pointer (some ⟨R, 0, none⟩), .func (.func 57) #[] #[p0]] w fun e w' => ∃ W, e = .returned (.string (s.extract 0 N)) ∧ E W ∧ w' = W.setCell ⟨R, 0, none⟩ (.string (s.extract N s.size)) := by
  have HI := Lib.hid hI
  have HE := Lib.hid hE
  have HY := Lib.hid hyes
  have HNO := Lib.hid hno
  have HEND := Lib.hid hend
  have H0 := Lib.hid h0
  clear hI hE hyes hno hend h0
  go_enter Tryz.func56, Tryz.ntmps56
  go_wp2
  go_loopw [5] (fun i wr => ∃ k : Nat, k ≤ N ∧ i = .int .i64 k ∧ I k wr) (fun i _ => s.size - (intOf i).toNat)
  case atStart => exact ⟨0, Nat.zero_le _, rfl, H0.out⟩
  case round =>
    obtain ⟨k, hk, rfl, hw⟩ := hrel
    have HW := Lib.hid hw
    clear hw
    have c0 := (HI.out _ _ HW.out).c0
    have f0 := (HI.out _ _ HW.out).f0
    by_cases hlt : k < N
    · have hks : k < s.size := by omega
      have HYk := Lib.hid (HY.out k wr hks hlt HW.out)
      clear f0
      go_wp2_with (go_at_call 57; (with_reducible refine HYk.out.mono ?_); rintro e w1 ⟨rfl, hw1⟩; have HW1 := Lib.hid hw1; clear hw1)
      go_roundw
      case rel => exact ⟨k + 1, by omega, by go_num, HW1.out⟩
      case measure => simp [intOf]; omega
    · obtain rfl : k = N := by omega
      by_cases hks : k < s.size
      · have HNk := Lib.hid (HNO.out wr hks HW.out)
        clear f0
        go_wp2_with (go_at_call 57; (with_reducible refine HNk.out.mono ?_); rintro e w1 ⟨rfl, hw1⟩; have HW1 := Lib.hid hw1; clear hw1 c0; have c0 := (HE.out _ HW1.out).c0; have f0 := (HE.out _ HW1.out).f0)
        go_ret
        exact ⟨_, rfl, HW1.out, rfl⟩
      · have HW1 := Lib.hid (HEND.out (by omega) wr HW.out)
        go_wp2
        go_ret
        exact ⟨_, rfl, HW1.out, rfl⟩
set_option maxRecDepth 100000 in
set_option maxHeartbeats 4000000 in
theorem eat_text (R N : Nat) (s : ByteArray) (ln : Int) (p0 : Value) (p1 : Value) (w : World) (I : Nat → World → Prop) (E : World → Prop) (hs : s.size ≤ 140737488355328) (hN : N ≤ s.size)
    (hI : ∀ n W, I n W → RdAt R s ln W) (hE : ∀ W, E W → RdAt R s ln W)
    (hyes : ∀ n W (h : n < s.size), n < N → I n W → Calls Tryz.prog 99 #[.int .u8 (s[n]'h).toNat, p0, p1] W fun e w' => e = .returned (.bool true) ∧ I (n + 1) w')
    (hno : ∀ W (h : N < s.size), I N W → Calls Tryz.prog 99 #[.int .u8 (s[N]'h).toNat, p0, p1] W fun e w' => e = .returned (.bool false) ∧ E w')
    (hend : N = s.size → ∀ W, I N W → E W) (h0 : I 0 w) :
    Calls Tryz.prog 56 #[.pointer (some ⟨R, 0, none⟩), .func (.func 99) #[] #[p0, p1]] w fun e w' => ∃ W, e = .returned (.string (s.extract 0 N)) ∧ E W ∧ w' = W.setCell ⟨R, 0, none⟩ (.string (s.extract N s.size)) := by
  have HI := Lib.hid hI
  have HE := Lib.hid hE
  have HY := Lib.hid hyes
  have HNO := Lib.hid hno
  have HEND := Lib.hid hend
  have H0 := Lib.hid h0
  clear hI hE hyes hno hend h0
  go_enter Tryz.func56, Tryz.ntmps56
  go_wp2
  go_loopw [5] (fun i wr => ∃ k : Nat, k ≤ N ∧ i = .int .i64 k ∧ I k wr) (fun i _ => s.size - (intOf i).toNat)
  case atStart => exact ⟨0, Nat.zero_le _, rfl, H0.out⟩
  case round =>
    obtain ⟨k, hk, rfl, hw⟩ := hrel
    have HW := Lib.hid hw
    clear hw
    have c0 := (HI.out _ _ HW.out).c0
    have f0 := (HI.out _ _ HW.out).f0
    by_cases hlt : k < N
    · have hks : k < s.size := by omega
      have HYk := Lib.hid (HY.out k wr hks hlt HW.out)
      clear f0
      go_wp2_with (go_at_call 99; (with_reducible refine HYk.out.mono ?_); rintro e w1 ⟨rfl, hw1⟩; have HW1 := Lib.hid hw1; clear hw1)
      go_roundw
      case rel => exact ⟨k + 1, by omega, by go_num, HW1.out⟩
      case measure => simp [intOf]; omega
    · obtain rfl : k = N := by omega
      by_cases hks : k < s.size
      · have HNk := Lib.hid (HNO.out wr hks HW.out)
        clear f0
        go_wp2_with (go_at_call 99; (with_reducible refine HNk.out.mono ?_); rintro e w1 ⟨rfl, hw1⟩; have HW1 := Lib.hid hw1; clear hw1 c0; have c0 := (HE.out _ HW1.out).c0; have f0 := (HE.out _ HW1.out).f0)
        go_ret
        exact ⟨_, rfl, HW1.out, rfl⟩
      · have HW1 := Lib.hid (HEND.out (by omega) wr HW.out)
        go_wp2
        go_ret
        exact ⟨_, rfl, HW1.out, rfl⟩
set_option maxRecDepth 100000 in
set_option maxHeartbeats 4000000 in
theorem eat_nb (R N : Nat) (s : ByteArray) (ln : Int) (w : World) (I : Nat → World → Prop) (E : World → Prop) (hs : s.size ≤ 140737488355328) (hN : N ≤ s.size)
    (hI : ∀ n W, I n W → RdAt R s ln W) (hE : ∀ W, E W → RdAt R s ln W)
    (hyes : ∀ n W (h : n < s.size), n < N → I n W → Calls Tryz.prog 103 #[.int .u8 (s[n]'h).toNat] W fun e w' => e = .returned (.bool true) ∧ I (n + 1) w')
    (hno : ∀ W (h : N < s.size), I N W → Calls Tryz.prog 103 #[.int .u8 (s[N]'h).toNat] W fun e w' => e = .returned (.bool false) ∧ E w')
    (hend : N = s.size → ∀ W, I N W → E W) (h0 : I 0 w) :
    Calls Tryz.prog 56 #[.pointer (some ⟨R, 0, none⟩), .func (.func 103) #[] #[]] w fun e w' => ∃ W, e = .returned (.string (s.extract 0 N)) ∧ E W ∧ w' = W.setCell ⟨R, 0, none⟩ (.string (s.extract N s.size)) := by
  have HI := Lib.hid hI
  have HE := Lib.hid hE
  have HY := Lib.hid hyes
  have HNO := Lib.hid hno
  have HEND := Lib.hid hend
  have H0 := Lib.hid h0
  clear hI hE hyes hno hend h0
  go_enter Tryz.func56, Tryz.ntmps56
  go_wp2
  go_loopw [5] (fun i wr => ∃ k : Nat, k ≤ N ∧ i = .int .i64 k ∧ I k wr) (fun i _ => s.size - (intOf i).toNat)
  case atStart => exact ⟨0, Nat.zero_le _, rfl, H0.out⟩
  case round =>
    obtain ⟨k, hk, rfl, hw⟩ := hrel
    have HW := Lib.hid hw
    clear hw
    have c0 := (HI.out _ _ HW.out).c0
    have f0 := (HI.out _ _ HW.out).f0
    by_cases hlt : k < N
    · have hks : k < s.size := by omega
      have HYk := Lib.hid (HY.out k wr hks hlt HW.out)
      clear f0
      go_wp2_with (go_at_call 103; (with_reducible refine HYk.out.mono ?_); rintro e w1 ⟨rfl, hw1⟩; have HW1 := Lib.hid hw1; clear hw1)
      go_roundw
      case rel => exact ⟨k + 1, by omega, by go_num, HW1.out⟩
      case measure => simp [intOf]; omega
    · obtain rfl : k = N := by omega
      by_cases hks : k < s.size
      · have HNk := Lib.hid (HNO.out wr hks HW.out)
        clear f0
        go_wp2_with (go_at_call 103; (with_reducible refine HNk.out.mono ?_); rintro e w1 ⟨rfl, hw1⟩; have HW1 := Lib.hid hw1; clear hw1 c0; have c0 := (HE.out _ HW1.out).c0; have f0 := (HE.out _ HW1.out).f0)
        go_ret
        exact ⟨_, rfl, HW1.out, rfl⟩
      · have HW1 := Lib.hid (HEND.out (by omega) wr HW.out)
        go_wp2
        go_ret
        exact ⟨_, rfl, HW1.out, rfl⟩
end Go.Proofs.YtedmmgfnplbkjaaGreatDoor
