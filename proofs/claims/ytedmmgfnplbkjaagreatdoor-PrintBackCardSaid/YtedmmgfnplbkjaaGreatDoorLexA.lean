/-
  Walks: kinds of bytes (kindOf, inNames, standsFor).
  Conditions: none.
-/
import Derived.Test.YtedmmgfnplbkjaaGreatDoorRows
import Derived.Test.YtedmmgfnplbkjaaGreatDoorLexP
import Derived.WalkKit
import Derived.WalkSpells
import Derived.WalkLawsBesides
import Derived.Lib.Hide
import Derived.Deep.QuietTactic
import Derived.BigQuiet
namespace Go.Proofs.YtedmmgfnplbkjaaGreatDoor
open Go.RowKit
theorem ret_int {k : IntKind} {a b : Int} (h : a = b) : Ending.returned (.int k a) = .returned (.int k b) := by rw [h]
theorem ret_bool {a b : Bool} (h : a = b) : Ending.returned (.bool a) = .returned (.bool b) := by rw [h]
theorem kindN_eq (c : UInt8) : LX.kindN c = (if (97 ≤ c.toNat ∧ c.toNat ≤ 122) ∨ (65 ≤ c.toNat ∧ c.toNat ≤ 90) then 8 else if 48 ≤ c.toNat ∧ c.toNat ≤ 57 then 6 else if c.toNat = 32 ∨ c.toNat = 9 ∨ c.toNat = 10 then 1 else if c.toNat = 59 then 2
    else if c.toNat = 40 then 3 else if c.toNat = 41 then 4 else if c.toNat = 34 then 5 else if c.toNat = 45 then 7 else if c.toNat = 95 ∨ c.toNat = 58 ∨ c.toNat = 46 ∨ c.toNat = 35 ∨ c.toNat = 33 ∨ c.toNat = 63 then 8 else 0) := by
  simp only [LX.kindN, LX.isLet, LX.isDig, LX.isSign, Bool.or_eq_true, Bool.and_eq_true, decide_eq_true_eq, beq_iff_eq, or_assoc]
theorem kind_nb (c : UInt8) : LX.isNB c = decide (LX.kindN c = 6 ∨ LX.kindN c = 7 ∨ LX.kindN c = 8) := by
  rw [kindN_eq, Bool.eq_iff_iff]
  simp only [LX.isNB, LX.isLet, LX.isDig, LX.isSign, Bool.or_eq_true, Bool.and_eq_true, decide_eq_true_eq, beq_iff_eq]
  (repeat' split) <;> omega
theorem kind_lt (c : UInt8) : LX.kindN c < 9 := by
  rw [kindN_eq]
  (repeat' split) <;> omega
set_option maxRecDepth 100000 in
set_option maxHeartbeats 4000000 in
theorem kindOf_any (c : UInt8) (w : World) :
    Calls Tryz.prog 58 #[.int .u8 c.toNat] w fun e w' => e = .returned (.int .u8 (LX.kindN c)) ∧ w = w' := by
  have hk := Lib.hid (kindN_eq c)
  have h0 : (0 : Int) ≤ (c.toNat : Int) := by omega
  have h1 : (c.toNat : Int) ≤ 255 := by have := c.toNat_lt; omega
  go_enter Tryz.func58, Tryz.ntmps58
  go_wp2
  all_goals
    go_ret
    refine ⟨ret_int ?_, rfl⟩
    rw [hk.out]
    clear hk
    repeat (rename (∀ (a : Act) (w : World), _) => K0; clear K0)
    try simp only [beq_eq_false_iff_ne, beq_iff_eq, ne_eq] at *
    repeat (first | rw [if_pos (by omega)] | rw [if_neg (by omega)])
    rfl
set_option maxRecDepth 100000 in
set_option maxHeartbeats 4000000 in
theorem inNames_any (c : UInt8) (w : World) :
    Calls Tryz.prog 103 #[.int .u8 c.toNat] w fun e w' => e = .returned (.bool (LX.isNB c)) ∧ w = w' := by
  have hk := Lib.hid (kind_nb c)
  have hl := kind_lt c
  have H := Lib.hid (kindOf_any c w)
  obtain ⟨k, hkk⟩ : ∃ k, LX.kindN c = k := ⟨_, rfl⟩
  rw [hkk] at hk H hl
  clear hkk
  go_enter Tryz.func103, Tryz.ntmps103
  go_wp2_with (go_at_call 58; (with_reducible refine H.out.mono ?_); rintro e w1 ⟨rfl, rfl⟩)
  all_goals
    go_ret
    refine ⟨ret_bool ?_, rfl⟩
    rw [hk.out]
    clear hk H
    repeat (rename (∀ (a : Act) (w : World), _) => K0; clear K0)
    try simp only [beq_eq_false_iff_ne, beq_iff_eq, ne_eq] at *
    symm
    first | (rw [decide_eq_true_eq]; omega) | (rw [decide_eq_false_iff_not]; omega)
def stB (c : UInt8) : UInt8 := (LX.stands c).getD 0
def stOk (c : UInt8) : Bool := (LX.stands c).isSome
theorem stands_q {c : UInt8} (h : (c.toNat : Int) = 34 ∨ (c.toNat : Int) = 92) : stB c = c ∧ stOk c = true := by
  have : c.toNat = 34 ∨ c.toNat = 92 := by omega
  simp [stB, stOk, LX.stands, this]
theorem stands_n {c : UInt8} (h : (c.toNat : Int) = 110) : stB c = 10 ∧ stOk c = true := by
  have h1 : ¬ (c.toNat = 34 ∨ c.toNat = 92) := by omega
  have h2 : c.toNat = 110 := by omega
  simp [stB, stOk, LX.stands, h2]
theorem stands_no {c : UInt8} (h : ¬ (c.toNat : Int) = 34) (h1 : ¬ (c.toNat : Int) = 92) (h2 : ¬ (c.toNat : Int) = 110) : stB c = 0 ∧ stOk c = false := by
  have h1 : ¬ (c.toNat = 34 ∨ c.toNat = 92) := by omega
  have h2 : ¬ c.toNat = 110 := by omega
  simp [stB, stOk, LX.stands, h1, h2]
theorem ret_bb {a b : Int} {x y : Bool} (h : a = b) (h' : x = y) : Ending.returned (.tuple #[.int .u8 a, .bool x]) = .returned (.tuple #[.int .u8 b, .bool y]) := by rw [h, h']
set_option maxRecDepth 100000 in
set_option maxHeartbeats 4000000 in
theorem standsFor_any (c : UInt8) (w : World) :
    Calls Tryz.prog 100 #[.int .u8 c.toNat] w fun e w' => e = .returned (.tuple #[.int .u8 (stB c).toNat, .bool (stOk c)]) ∧ w = w' := by
  have h0 : (0 : Int) ≤ (c.toNat : Int) := by omega
  have h1 : (c.toNat : Int) ≤ 255 := by have := c.toNat_lt; omega
  go_enter Tryz.func100, Tryz.ntmps100
  go_wp2
  all_goals
    go_ret2
    repeat (rename (∀ (a : Act) (w : World), _) => K0; clear K0)
    refine ⟨ret_bb ?_ ?_, rfl⟩
    all_goals try simp only [beq_eq_false_iff_ne, beq_iff_eq, ne_eq] at *
    all_goals first
      | (rw [(stands_q (by omega)).1])
      | (rw [(stands_q (by omega)).2])
      | (rw [(stands_n (by omega)).1]; rfl)
      | (rw [(stands_n (by omega)).2])
      | (rw [(stands_no (by omega) (by omega) (by omega)).1]; rfl)
      | (rw [(stands_no (by omega) (by omega) (by omega)).2])
end Go.Proofs.YtedmmgfnplbkjaaGreatDoor
