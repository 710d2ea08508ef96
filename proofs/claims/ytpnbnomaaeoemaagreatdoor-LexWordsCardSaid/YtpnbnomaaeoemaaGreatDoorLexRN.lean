/-
  Walks: the document's answer for layer 3: Number.
  Conditions: texts no longer than the reach, and not empty.
-/
import Derived.Test.YtpnbnomaaeoemaaGreatDoorLexRA
namespace Go.Proofs.YtpnbnomaaeoemaaGreatDoor
open Go.RowKit

theorem ret_ib {a b : Int} (h : a = b) : Ending.returned (.tuple #[.int .i64 a, .bool true]) = .returned (.tuple #[.int .i64 b, .bool true]) := by rw [h]
/-- What Number answers. -/
def PostNum (r : Option Int) (e : Ending) : Prop :=
  match r with
  | some v => e = .returned (.tuple #[.int .i64 v, .bool true])
  | none => ∃ v, e = .returned (.tuple #[.int .i64 v, .bool false])
/-- The end of the number: its digits are read. -/
def numEnd (neg : Bool) (r : Option Nat) : Option Int := match r with
  | none => none
  | some n => if neg then (if n ≤ 9223372036854775808 then some (-(n : Int)) else none) else (if n ≤ 9223372036854775807 then some (n : Int) else none)
theorem refNum_no (l : List UInt8) (h : LX.digitsOf l = [] ∨ 20 < l.length ∨ (LX.zeroHead (LX.digitsOf l) = true ∧ (LX.isNeg l = true ∨ 1 < l.length))) : LX.refNum l = none := by
  rw [LX.refNum, if_pos h]
theorem refNum_go (l : List UInt8) (h : ¬ (LX.digitsOf l = [] ∨ 20 < l.length ∨ (LX.zeroHead (LX.digitsOf l) = true ∧ (LX.isNeg l = true ∨ 1 < l.length)))) : LX.refNum l = numEnd (LX.isNeg l) (LX.refLoop 0 (LX.digitsOf l)) := by
  rw [LX.refNum, if_neg h]; rfl
theorem drop_cons (x : ByteArray) (k : Nat) (h : k < x.size) : x.data.toList.drop k = x[k] :: x.data.toList.drop (k + 1) := by
  rw [List.drop_eq_getElem_cons (by simpa using h), get_list x k h]

theorem conv_neg (m : Nat) (h : m ≤ 9223372036854775808) : IntKind.i64.wrap (IntKind.u64.wrap (-(m : Int))) = -(m : Int) := by
  simp [IntKind.wrap, IntKind.bits, IntKind.signed]
  omega
theorem conv_pos (m : Nat) (h : m ≤ 9223372036854775807) : IntKind.i64.wrap (m : Int) = (m : Int) := IntWalk.i64_in _ (by omega)

set_option maxRecDepth 100000 in
set_option maxHeartbeats 8000000 in
theorem num_neg (x : ByteArray) (w : World) (hs : x.size ≤ 20) (h0 : 0 < x.size) (h1 : 1 < x.size) (hc : (x[0]'h0).toNat = 45) (hz : ¬ (x[1]'h1).toNat = 48) :
    Calls Tryz.prog 142 #[.string x] w fun e w' => PostNum (numEnd true (LX.refLoop 0 (x.data.toList.drop 1))) e ∧ w = w' := by
  have HD := Lib.hid (fun c W => digit_any c W)
  have HDC := Lib.hid (fun k h => drop_cons x k h)
  have HEnd : Hid (x.data.toList.drop x.size = []) := List.drop_of_length_le (by simp)
  have t1 : (((x[0]'h0).toNat : Int) == 45) = true := by rw [beq_iff_eq]; omega
  have t2 : (((x[1]'h1).toNat : Int) == 48) = false := by rw [beq_eq_false_iff_ne]; omega
  have t3 : ((1 : Int) == (x.size : Int)) = false := by rw [beq_eq_false_iff_ne]; omega
  have g1 : (1 : Int) < (x.size : Int) := by omega
  have g2 : (x.size : Int) ≤ 20 := by omega
  obtain ⟨r, hr⟩ : ∃ r, LX.refLoop 0 (x.data.toList.drop 1) = r := ⟨_, rfl⟩
  have HR := Lib.hid hr
  rw [hr]
  clear hr hc hz
  go_enter Tryz.func142, Tryz.ntmps142
  go_wp2
  go_loop [5, 6] (fun i m => ∃ k q : Nat, 1 ≤ k ∧ k ≤ x.size ∧ i = .int .i64 k ∧ m = .int .u64 q ∧ q ≤ 9223372036854775809 ∧ LX.refLoop 0 (x.data.toList.drop 1) = LX.refLoop q (x.data.toList.drop k)) (fun i _ => x.size - (intOf i).toNat)
  case atStart => exact ⟨1, 0, Nat.le_refl _, by omega, rfl, rfl, by omega, rfl⟩
  case round =>
    obtain ⟨k, q, hk1, hk2, rfl, rfl, hq, heq⟩ := hrel
    have HEq := Lib.hid heq
    clear heq
    by_cases hlt : k < x.size
    · have hdc := HDC.out k hlt
      have hst : LX.refLoop q (x.data.toList.drop k) = if LX.isDig (x[k]'hlt) = true ∧ q ≤ 922337203685477580 then LX.refLoop (10 * q + ((x[k]'hlt).toNat - 48)) (x.data.toList.drop (k + 1)) else none := by rw [hdc, LX.refLoop]
      have HSt := Lib.hid hst
      have hdk := Lib.hid (HD.out (x[k]'hlt) w)
      have hdl := isDig_eq (x[k]'hlt)
      have hcl := (x[k]'hlt).toNat_lt
      obtain ⟨b, hb⟩ : ∃ b, LX.isDig (x[k]'hlt) = b := ⟨_, rfl⟩
      rw [hb] at hdk hdl HSt
      have HDk := hdk
      clear hdc hst hb hdk
      cases b
      · have hN : LX.refLoop 0 (x.data.toList.drop 1) = none := by rw [HEq.out, HSt.out, if_neg (by simp)]
        rw [HR.out] at hN
        have HNN := Lib.hid hN
        clear hN
        clear hdl
        go_wp2_with (go_at_call 141; (with_reducible refine HDk.out.mono ?_); rintro e w1 ⟨rfl, rfl⟩)
        go_ret2
        exact ⟨by rw [HNN.out]; exact ⟨_, rfl⟩, rfl⟩
      · have hcd : (48 : Int) ≤ ((x[k]'hlt).toNat : Int) ∧ ((x[k]'hlt).toNat : Int) ≤ 57 := by simpa using hdl.symm
        clear hdl
        obtain ⟨c1, c2⟩ := hcd
        by_cases hbig : 922337203685477580 < q
        · have hN : LX.refLoop 0 (x.data.toList.drop 1) = none := by rw [HEq.out, HSt.out, if_neg (by omega)]
          rw [HR.out] at hN
          have HNN := Lib.hid hN
          clear hN
          have g9 : (922337203685477580 : Int) < (q : Int) := by omega
          go_wp2_with (go_at_call 141; (with_reducible refine HDk.out.mono ?_); rintro e w1 ⟨rfl, rfl⟩)
          go_ret2
          exact ⟨by rw [HNN.out]; exact ⟨_, rfl⟩, rfl⟩
        · have g9 : ¬ (922337203685477580 : Int) < (q : Int) := by omega
          have g10 : (q : Int) ≤ 922337203685477580 := by omega
          obtain ⟨cc, hcc⟩ : ∃ cc : Nat, (x[k]'hlt).toNat = cc := ⟨_, rfl⟩
          have hN : LX.refLoop 0 (x.data.toList.drop 1) = LX.refLoop (10 * q + (cc - 48)) (x.data.toList.drop (k + 1)) := by rw [HEq.out, HSt.out, if_pos ⟨rfl, by omega⟩, hcc]
          rw [hcc] at c1 c2 HDk
          have w1' : IntKind.u8.wrap ((cc : Int) - 48) = ((cc - 48 : Nat) : Int) := by
            rw [show ((cc - 48 : Nat) : Int) = (cc : Int) - 48 by omega]
            simp [IntKind.wrap, IntKind.bits, IntKind.signed]; omega
          have w2' : IntKind.u64.wrap (((cc - 48 : Nat) : Int)) = ((cc - 48 : Nat) : Int) := by
            simp [IntKind.wrap, IntKind.bits, IntKind.signed]; omega
          obtain ⟨d, hd⟩ : ∃ d, cc - 48 = d := ⟨_, rfl⟩
          rw [hd] at w1' w2' hN
          have HN := Lib.hid hN
          clear hN
          have hd9 : d ≤ 9 := by omega
          have w3' : IntKind.u64.wrap (10 * (q : Int)) = 10 * (q : Int) := by
            simp [IntKind.wrap, IntKind.bits, IntKind.signed]; omega
          have w4' : IntKind.u64.wrap (10 * (q : Int) + (d : Int)) = 10 * (q : Int) + (d : Int) := by
            simp [IntKind.wrap, IntKind.bits, IntKind.signed]; omega
          clear hd hbig
          go_wp2_with (go_at_call 141; (with_reducible refine HDk.out.mono ?_); rintro e w1 ⟨rfl, rfl⟩)
          go_round
          case rel => exact ⟨k + 1, 10 * q + d, by omega, by omega, by go_num, by go_num, by omega, HN.out⟩
          case measure => simp [intOf]; omega
    · obtain rfl : k = x.size := by omega
      have hfin : LX.refLoop 0 (x.data.toList.drop 1) = some q := by rw [HEq.out, HEnd.out]; rfl
      rw [HR.out] at hfin
      have HFin := Lib.hid hfin
      clear hfin
      by_cases hm : q ≤ 9223372036854775808
      · have HC := Lib.hid (conv_neg q hm)
        have g9 : (q : Int) ≤ 9223372036854775808 := by omega
        obtain ⟨X, hX⟩ : ∃ X, IntKind.u64.wrap (-(q : Int)) = X := ⟨_, rfl⟩
        rw [hX] at HC
        obtain ⟨Y, hY⟩ : ∃ Y, IntKind.i64.wrap X = Y := ⟨_, rfl⟩
        rw [hY] at HC
        go_wp2
        go_ret2
        refine ⟨?_, rfl⟩
        rw [HFin.out]
        simp only [numEnd, if_true]
        rw [if_pos hm]
        exact ret_ib HC.out
      · have g9 : ¬ (q : Int) ≤ 9223372036854775808 := by omega
        obtain ⟨X, hX⟩ : ∃ X, IntKind.u64.wrap (-(q : Int)) = X := ⟨_, rfl⟩
        obtain ⟨Y, hY⟩ : ∃ Y, IntKind.i64.wrap X = Y := ⟨_, rfl⟩
        go_wp2
        go_ret2
        refine ⟨?_, rfl⟩
        rw [HFin.out]
        simp only [numEnd, if_true]
        rw [if_neg hm]
        exact ⟨_, rfl⟩

set_option maxRecDepth 100000 in
set_option maxHeartbeats 8000000 in
theorem num_pos (x : ByteArray) (w : World) (hs : x.size ≤ 20) (h0 : 0 < x.size) (hc : ¬ (x[0]'h0).toNat = 45) (hz : ¬ (x[0]'h0).toNat = 48) :
    Calls Tryz.prog 142 #[.string x] w fun e w' => PostNum (numEnd false (LX.refLoop 0 (x.data.toList.drop 0))) e ∧ w = w' := by
  have HD := Lib.hid (fun c W => digit_any c W)
  have HDC := Lib.hid (fun k h => drop_cons x k h)
  have HEnd : Hid (x.data.toList.drop x.size = []) := List.drop_of_length_le (by simp)
  have t1 : (((x[0]'h0).toNat : Int) == 45) = false := by rw [beq_eq_false_iff_ne]; omega
  have t3 : ((0 : Int) == (x.size : Int)) = false := by rw [beq_eq_false_iff_ne]; omega
  have g1 : (0 : Int) < (x.size : Int) := by omega
  have t2 : (((x[0]'h0).toNat : Int) == 48) = false := by rw [beq_eq_false_iff_ne]; omega
  have g2 : (x.size : Int) ≤ 20 := by omega
  obtain ⟨r, hr⟩ : ∃ r, LX.refLoop 0 (x.data.toList.drop 0) = r := ⟨_, rfl⟩
  have HR := Lib.hid hr
  rw [hr]
  clear hr hc hz
  go_enter Tryz.func142, Tryz.ntmps142
  go_wp2
  go_loop [5, 6] (fun i m => ∃ k q : Nat, 0 ≤ k ∧ k ≤ x.size ∧ i = .int .i64 k ∧ m = .int .u64 q ∧ q ≤ 9223372036854775809 ∧ LX.refLoop 0 (x.data.toList.drop 0) = LX.refLoop q (x.data.toList.drop k)) (fun i _ => x.size - (intOf i).toNat)
  case atStart => exact ⟨0, 0, Nat.le_refl _, by omega, rfl, rfl, by omega, rfl⟩
  case round =>
    obtain ⟨k, q, hk1, hk2, rfl, rfl, hq, heq⟩ := hrel
    have HEq := Lib.hid heq
    clear heq
    by_cases hlt : k < x.size
    · have hdc := HDC.out k hlt
      have hst : LX.refLoop q (x.data.toList.drop k) = if LX.isDig (x[k]'hlt) = true ∧ q ≤ 922337203685477580 then LX.refLoop (10 * q + ((x[k]'hlt).toNat - 48)) (x.data.toList.drop (k + 1)) else none := by rw [hdc, LX.refLoop]
      have HSt := Lib.hid hst
      have hdk := Lib.hid (HD.out (x[k]'hlt) w)
      have hdl := isDig_eq (x[k]'hlt)
      have hcl := (x[k]'hlt).toNat_lt
      obtain ⟨b, hb⟩ : ∃ b, LX.isDig (x[k]'hlt) = b := ⟨_, rfl⟩
      rw [hb] at hdk hdl HSt
      have HDk := hdk
      clear hdc hst hb hdk
      cases b
      · have hN : LX.refLoop 0 (x.data.toList.drop 0) = none := by rw [HEq.out, HSt.out, if_neg (by simp)]
        rw [HR.out] at hN
        have HNN := Lib.hid hN
        clear hN
        clear hdl
        go_wp2_with (go_at_call 141; (with_reducible refine HDk.out.mono ?_); rintro e w1 ⟨rfl, rfl⟩)
        go_ret2
        exact ⟨by rw [HNN.out]; exact ⟨_, rfl⟩, rfl⟩
      · have hcd : (48 : Int) ≤ ((x[k]'hlt).toNat : Int) ∧ ((x[k]'hlt).toNat : Int) ≤ 57 := by simpa using hdl.symm
        clear hdl
        obtain ⟨c1, c2⟩ := hcd
        by_cases hbig : 922337203685477580 < q
        · have hN : LX.refLoop 0 (x.data.toList.drop 0) = none := by rw [HEq.out, HSt.out, if_neg (by omega)]
          rw [HR.out] at hN
          have HNN := Lib.hid hN
          clear hN
          have g9 : (922337203685477580 : Int) < (q : Int) := by omega
          go_wp2_with (go_at_call 141; (with_reducible refine HDk.out.mono ?_); rintro e w1 ⟨rfl, rfl⟩)
          go_ret2
          exact ⟨by rw [HNN.out]; exact ⟨_, rfl⟩, rfl⟩
        · have g9 : ¬ (922337203685477580 : Int) < (q : Int) := by omega
          have g10 : (q : Int) ≤ 922337203685477580 := by omega
          obtain ⟨cc, hcc⟩ : ∃ cc : Nat, (x[k]'hlt).toNat = cc := ⟨_, rfl⟩
          have hN : LX.refLoop 0 (x.data.toList.drop 0) = LX.refLoop (10 * q + (cc - 48)) (x.data.toList.drop (k + 1)) := by rw [HEq.out, HSt.out, if_pos ⟨rfl, by omega⟩, hcc]
          rw [hcc] at c1 c2 HDk
          have w1' : IntKind.u8.wrap ((cc : Int) - 48) = ((cc - 48 : Nat) : Int) := by
            rw [show ((cc - 48 : Nat) : Int) = (cc : Int) - 48 by omega]
            simp [IntKind.wrap, IntKind.bits, IntKind.signed]; omega
          have w2' : IntKind.u64.wrap (((cc - 48 : Nat) : Int)) = ((cc - 48 : Nat) : Int) := by
            simp [IntKind.wrap, IntKind.bits, IntKind.signed]; omega
          obtain ⟨d, hd⟩ : ∃ d, cc - 48 = d := ⟨_, rfl⟩
          rw [hd] at w1' w2' hN
          have HN := Lib.hid hN
          clear hN
          have hd9 : d ≤ 9 := by omega
          have w3' : IntKind.u64.wrap (10 * (q : Int)) = 10 * (q : Int) := by
            simp [IntKind.wrap, IntKind.bits, IntKind.signed]; omega
          have w4' : IntKind.u64.wrap (10 * (q : Int) + (d : Int)) = 10 * (q : Int) + (d : Int) := by
            simp [IntKind.wrap, IntKind.bits, IntKind.signed]; omega
          clear hd hbig
          go_wp2_with (go_at_call 141; (with_reducible refine HDk.out.mono ?_); rintro e w1 ⟨rfl, rfl⟩)
          go_round
          case rel => exact ⟨k + 1, 10 * q + d, by omega, by omega, by go_num, by go_num, by omega, HN.out⟩
          case measure => simp [intOf]; omega
    · obtain rfl : k = x.size := by omega
      have hfin : LX.refLoop 0 (x.data.toList.drop 0) = some q := by rw [HEq.out, HEnd.out]; rfl
      rw [HR.out] at hfin
      have HFin := Lib.hid hfin
      clear hfin
      by_cases hm : q ≤ 9223372036854775807
      · have HC := Lib.hid (conv_pos q hm)
        have g9 : (q : Int) ≤ 9223372036854775807 := by omega
        obtain ⟨Y, hY⟩ : ∃ Y, IntKind.i64.wrap (q : Int) = Y := ⟨_, rfl⟩
        rw [hY] at HC
        have HCC := HC
        clear HC
        go_wp2
        go_ret2
        refine ⟨?_, rfl⟩
        rw [HFin.out]
        simp only [numEnd, Bool.false_eq_true, if_false]
        rw [if_pos hm]
        exact ret_ib HCC.out
      · have g9 : ¬ (q : Int) ≤ 9223372036854775807 := by omega
        obtain ⟨Y, hY⟩ : ∃ Y, IntKind.i64.wrap (q : Int) = Y := ⟨_, rfl⟩
        
        go_wp2
        go_ret2
        refine ⟨?_, rfl⟩
        rw [HFin.out]
        simp only [numEnd, Bool.false_eq_true, if_false]
        rw [if_neg hm]
        exact ⟨_, rfl⟩

set_option maxRecDepth 100000 in
set_option maxHeartbeats 8000000 in
theorem num_zero (x : ByteArray) (w : World) (hs : x.size ≤ 20) (h0 : 0 < x.size) (hz : (x[0]'h0).toNat = 48) (hz1 : ¬ 1 < x.size) :
    Calls Tryz.prog 142 #[.string x] w fun e w' => PostNum (numEnd false (LX.refLoop 0 (x.data.toList.drop 0))) e ∧ w = w' := by
  have HD := Lib.hid (fun c W => digit_any c W)
  have HDC := Lib.hid (fun k h => drop_cons x k h)
  have HEnd : Hid (x.data.toList.drop x.size = []) := List.drop_of_length_le (by simp)
  have t1 : (((x[0]'h0).toNat : Int) == 45) = false := by rw [beq_eq_false_iff_ne]; omega
  have t3 : ((0 : Int) == (x.size : Int)) = false := by rw [beq_eq_false_iff_ne]; omega
  have g1 : (0 : Int) < (x.size : Int) := by omega
  have t2 : (((x[0]'h0).toNat : Int) == 48) = true := by rw [beq_iff_eq]; omega
  have t5 : ¬ (1 : Int) < (x.size : Int) := by omega
  have g2 : (x.size : Int) ≤ 20 := by omega
  obtain ⟨r, hr⟩ : ∃ r, LX.refLoop 0 (x.data.toList.drop 0) = r := ⟨_, rfl⟩
  have HR := Lib.hid hr
  rw [hr]
  clear hr hz
  go_enter Tryz.func142, Tryz.ntmps142
  go_wp2
  go_loop [5, 6] (fun i m => ∃ k q : Nat, 0 ≤ k ∧ k ≤ x.size ∧ i = .int .i64 k ∧ m = .int .u64 q ∧ q ≤ 9223372036854775809 ∧ LX.refLoop 0 (x.data.toList.drop 0) = LX.refLoop q (x.data.toList.drop k)) (fun i _ => x.size - (intOf i).toNat)
  case atStart => exact ⟨0, 0, Nat.le_refl _, by omega, rfl, rfl, by omega, rfl⟩
  case round =>
    obtain ⟨k, q, hk1, hk2, rfl, rfl, hq, heq⟩ := hrel
    have HEq := Lib.hid heq
    clear heq
    by_cases hlt : k < x.size
    · have hdc := HDC.out k hlt
      have hst : LX.refLoop q (x.data.toList.drop k) = if LX.isDig (x[k]'hlt) = true ∧ q ≤ 922337203685477580 then LX.refLoop (10 * q + ((x[k]'hlt).toNat - 48)) (x.data.toList.drop (k + 1)) else none := by rw [hdc, LX.refLoop]
      have HSt := Lib.hid hst
      have hdk := Lib.hid (HD.out (x[k]'hlt) w)
      have hdl := isDig_eq (x[k]'hlt)
      have hcl := (x[k]'hlt).toNat_lt
      obtain ⟨b, hb⟩ : ∃ b, LX.isDig (x[k]'hlt) = b := ⟨_, rfl⟩
      rw [hb] at hdk hdl HSt
      have HDk := hdk
      clear hdc hst hb hdk
      cases b
      · have hN : LX.refLoop 0 (x.data.toList.drop 0) = none := by rw [HEq.out, HSt.out, if_neg (by simp)]
        rw [HR.out] at hN
        have HNN := Lib.hid hN
        clear hN
        clear hdl
        go_wp2_with (go_at_call 141; (with_reducible refine HDk.out.mono ?_); rintro e w1 ⟨rfl, rfl⟩)
        go_ret2
        exact ⟨by rw [HNN.out]; exact ⟨_, rfl⟩, rfl⟩
      · have hcd : (48 : Int) ≤ ((x[k]'hlt).toNat : Int) ∧ ((x[k]'hlt).toNat : Int) ≤ 57 := by simpa using hdl.symm
        clear hdl
        obtain ⟨c1, c2⟩ := hcd
        by_cases hbig : 922337203685477580 < q
        · have hN : LX.refLoop 0 (x.data.toList.drop 0) = none := by rw [HEq.out, HSt.out, if_neg (by omega)]
          rw [HR.out] at hN
          have HNN := Lib.hid hN
          clear hN
          have g9 : (922337203685477580 : Int) < (q : Int) := by omega
          go_wp2_with (go_at_call 141; (with_reducible refine HDk.out.mono ?_); rintro e w1 ⟨rfl, rfl⟩)
          go_ret2
          exact ⟨by rw [HNN.out]; exact ⟨_, rfl⟩, rfl⟩
        · have g9 : ¬ (922337203685477580 : Int) < (q : Int) := by omega
          have g10 : (q : Int) ≤ 922337203685477580 := by omega
          obtain ⟨cc, hcc⟩ : ∃ cc : Nat, (x[k]'hlt).toNat = cc := ⟨_, rfl⟩
          have hN : LX.refLoop 0 (x.data.toList.drop 0) = LX.refLoop (10 * q + (cc - 48)) (x.data.toList.drop (k + 1)) := by rw [HEq.out, HSt.out, if_pos ⟨rfl, by omega⟩, hcc]
          rw [hcc] at c1 c2 HDk
          have w1' : IntKind.u8.wrap ((cc : Int) - 48) = ((cc - 48 : Nat) : Int) := by
            rw [show ((cc - 48 : Nat) : Int) = (cc : Int) - 48 by omega]
            simp [IntKind.wrap, IntKind.bits, IntKind.signed]; omega
          have w2' : IntKind.u64.wrap (((cc - 48 : Nat) : Int)) = ((cc - 48 : Nat) : Int) := by
            simp [IntKind.wrap, IntKind.bits, IntKind.signed]; omega
          obtain ⟨d, hd⟩ : ∃ d, cc - 48 = d := ⟨_, rfl⟩
          rw [hd] at w1' w2' hN
          have HN := Lib.hid hN
          clear hN
          have hd9 : d ≤ 9 := by omega
          have w3' : IntKind.u64.wrap (10 * (q : Int)) = 10 * (q : Int) := by
            simp [IntKind.wrap, IntKind.bits, IntKind.signed]; omega
          have w4' : IntKind.u64.wrap (10 * (q : Int) + (d : Int)) = 10 * (q : Int) + (d : Int) := by
            simp [IntKind.wrap, IntKind.bits, IntKind.signed]; omega
          clear hd hbig
          go_wp2_with (go_at_call 141; (with_reducible refine HDk.out.mono ?_); rintro e w1 ⟨rfl, rfl⟩)
          go_round
          case rel => exact ⟨k + 1, 10 * q + d, by omega, by omega, by go_num, by go_num, by omega, HN.out⟩
          case measure => simp [intOf]; omega
    · obtain rfl : k = x.size := by omega
      have hfin : LX.refLoop 0 (x.data.toList.drop 0) = some q := by rw [HEq.out, HEnd.out]; rfl
      rw [HR.out] at hfin
      have HFin := Lib.hid hfin
      clear hfin
      by_cases hm : q ≤ 9223372036854775807
      · have HC := Lib.hid (conv_pos q hm)
        have g9 : (q : Int) ≤ 9223372036854775807 := by omega
        obtain ⟨Y, hY⟩ : ∃ Y, IntKind.i64.wrap (q : Int) = Y := ⟨_, rfl⟩
        rw [hY] at HC
        have HCC := HC
        clear HC
        go_wp2
        go_ret2
        refine ⟨?_, rfl⟩
        rw [HFin.out]
        simp only [numEnd, Bool.false_eq_true, if_false]
        rw [if_pos hm]
        exact ret_ib HCC.out
      · have g9 : ¬ (q : Int) ≤ 9223372036854775807 := by omega
        obtain ⟨Y, hY⟩ : ∃ Y, IntKind.i64.wrap (q : Int) = Y := ⟨_, rfl⟩
        
        go_wp2
        go_ret2
        refine ⟨?_, rfl⟩
        rw [HFin.out]
        simp only [numEnd, Bool.false_eq_true, if_false]
        rw [if_neg hm]
        exact ⟨_, rfl⟩

set_option maxRecDepth 100000 in
set_option maxHeartbeats 8000000 in
theorem num_no1 (x : ByteArray) (w : World) (hs : x.size ≤ 140737488355328) (h0 : 0 < x.size) (hc : (x[0]'h0).toNat = 45) (h : x.size = 1 ∨ 20 < x.size ∨ ∃ h1, (x[1]'h1).toNat = 48) :
    Calls Tryz.prog 142 #[.string x] w fun e w' => PostNum none e ∧ w = w' := by
  have t1 : (((x[0]'h0).toNat : Int) == 45) = true := by rw [beq_iff_eq]; omega
  have g1 : (0 : Int) < (x.size : Int) := by omega
  have g2 : (x.size : Int) ≤ 140737488355328 := by omega
  clear hc
  by_cases h1 : x.size = 1
  · have t3 : ((1 : Int) == (x.size : Int)) = true := by rw [beq_iff_eq]; omega
    clear h
    go_enter Tryz.func142, Tryz.ntmps142
    go_wp2
    go_ret2
    exact ⟨⟨_, rfl⟩, rfl⟩
  · have t3 : ((1 : Int) == (x.size : Int)) = false := by rw [beq_eq_false_iff_ne]; omega
    by_cases h20 : 20 < x.size
    · have g3 : (20 : Int) < (x.size : Int) := by omega
      clear h
      go_enter Tryz.func142, Tryz.ntmps142
      go_wp2
      go_ret2
      exact ⟨⟨_, rfl⟩, rfl⟩
    · have g3 : ¬ (20 : Int) < (x.size : Int) := by omega
      obtain ⟨h1', h48⟩ : ∃ h1, (x[1]'h1).toNat = 48 := by
        rcases h with h | h | h
        · exact absurd h h1
        · exact absurd h h20
        · exact h
      have t2 : (((x[1]'h1').toNat : Int) == 48) = true := by rw [beq_iff_eq]; omega
      clear h48
      go_enter Tryz.func142, Tryz.ntmps142
      go_wp2
      go_ret2
      exact ⟨⟨_, rfl⟩, rfl⟩

set_option maxRecDepth 100000 in
set_option maxHeartbeats 8000000 in
theorem num_no0 (x : ByteArray) (w : World) (hs : x.size ≤ 140737488355328) (h0 : 0 < x.size) (hc : ¬ (x[0]'h0).toNat = 45) (h : 20 < x.size ∨ ((x[0]'h0).toNat = 48 ∧ 1 < x.size)) :
    Calls Tryz.prog 142 #[.string x] w fun e w' => PostNum none e ∧ w = w' := by
  have t1 : (((x[0]'h0).toNat : Int) == 45) = false := by rw [beq_eq_false_iff_ne]; omega
  have g1 : (0 : Int) < (x.size : Int) := by omega
  have g2 : (x.size : Int) ≤ 140737488355328 := by omega
  have t3 : ((0 : Int) == (x.size : Int)) = false := by rw [beq_eq_false_iff_ne]; omega
  by_cases h20 : 20 < x.size
  · have g3 : (20 : Int) < (x.size : Int) := by omega
    clear h hc
    go_enter Tryz.func142, Tryz.ntmps142
    go_wp2
    go_ret2
    exact ⟨⟨_, rfl⟩, rfl⟩
  · have g3 : ¬ (20 : Int) < (x.size : Int) := by omega
    have h48 : (x[0]'h0).toNat = 48 := by omega
    have t2 : (((x[0]'h0).toNat : Int) == 48) = true := by rw [beq_iff_eq]; omega
    have g4 : (1 : Int) < (x.size : Int) := by omega
    clear h hc h48
    go_enter Tryz.func142, Tryz.ntmps142
    go_wp2
    go_ret2
    exact ⟨⟨_, rfl⟩, rfl⟩

/-- Number, of any text that is not empty. -/
theorem refNumber_any (x : ByteArray) (w : World) (hs : x.size ≤ 140737488355328) (h0 : 0 < x.size) :
    Calls Tryz.prog 142 #[.string x] w fun e w' => PostNum (LX.numOf x.data.toList) e ∧ w = w' := by
  rw [← LX.refNum_eq]
  have hl := head_list x h0
  have hlen : x.data.toList.length = x.size := by simp
  have hd0 : x.data.toList.drop 0 = x.data.toList := rfl
  have h1l : ∀ h1 : 1 < x.size, x.data.toList.drop 1 = x[1] :: x.data.toList.drop 2 := fun h1 => drop_cons x 1 h1
  by_cases hc : (x[0]'h0).toNat = 45
  · have hneg : LX.isNeg x.data.toList = true := by rw [hl]; simp [LX.isNeg, hc]
    have hdig : LX.digitsOf x.data.toList = x.data.toList.drop 1 := by
      rw [LX.digitsOf, hneg, if_pos rfl, List.drop_one]
    by_cases hno : x.size = 1 ∨ 20 < x.size ∨ ∃ h1, (x[1]'h1).toNat = 48
    · rw [LX.refNum, if_pos ?_]
      · exact num_no1 x w hs h0 hc hno
      · rw [hdig]
        rcases hno with h | h | ⟨h1, h⟩
        · left; exact List.drop_of_length_le (by omega)
        · right; left; omega
        · right; right
          refine ⟨?_, Or.inl hneg⟩
          rw [h1l h1]; simp [LX.zeroHead, h]
    · have h1 : 1 < x.size := by omega
      have hz : ¬ (x[1]'h1).toNat = 48 := fun h => hno (.inr (.inr ⟨h1, h⟩))
      rw [refNum_go _ ?_]
      · rw [hneg, hdig]
        exact num_neg x w (by omega) h0 h1 hc hz
      · rw [hdig, h1l h1]
        simp only [not_or, not_and]
        refine ⟨by simp, by omega, fun h => ?_⟩
        simp [LX.zeroHead, hz] at h
  · have hneg : LX.isNeg x.data.toList = false := by rw [hl]; simp [LX.isNeg, hc]
    have hdig : LX.digitsOf x.data.toList = x.data.toList := by rw [LX.digitsOf, hneg, if_neg (by simp)]
    by_cases hno : 20 < x.size ∨ ((x[0]'h0).toNat = 48 ∧ 1 < x.size)
    · rw [LX.refNum, if_pos ?_]
      · exact num_no0 x w hs h0 hc hno
      · rw [hdig]
        rcases hno with h | ⟨h, h1⟩
        · right; left; omega
        · right; right
          refine ⟨?_, Or.inr (by omega)⟩
          rw [hl]; simp [LX.zeroHead, h]
    · rw [refNum_go _ ?_]
      · rw [hneg, hdig, ← hd0]
        by_cases hz : (x[0]'h0).toNat = 48
        · exact num_zero x w (by omega) h0 hz (by omega)
        · exact num_pos x w (by omega) h0 hc hz
      · rw [hdig]
        simp only [not_or, not_and]
        refine ⟨by rw [hl]; simp, by omega, fun h => ?_⟩
        rw [hl] at h
        simp [LX.zeroHead] at h
        simp [hneg]
        omega
end Go.Proofs.YtpnbnomaaeoemaaGreatDoor
