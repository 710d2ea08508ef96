/-
  Walks: the document's answer for layer 3: digit, letter, NameByte, run, Number.
  Conditions: texts no longer than the reach.
-/
import Derived.Test.YtpnbnomaaeoemaaGreatDoorLexS
namespace Go.Proofs.YtpnbnomaaeoemaaGreatDoor
open Go.RowKit

theorem isDig_eq (c : UInt8) : LX.isDig c = decide ((48 : Int) ≤ (c.toNat : Int) ∧ (c.toNat : Int) ≤ 57) := by
  rw [Bool.eq_iff_iff]; simp [LX.isDig]; omega
theorem isLet_eq (c : UInt8) : LX.isLet c = decide (((97 : Int) ≤ (c.toNat : Int) ∧ (c.toNat : Int) ≤ 122) ∨ ((65 : Int) ≤ (c.toNat : Int) ∧ (c.toNat : Int) ≤ 90)) := by
  rw [Bool.eq_iff_iff]; simp [LX.isLet]; omega

set_option maxRecDepth 100000 in
set_option maxHeartbeats 4000000 in
theorem digit_any (c : UInt8) (w : World) : Calls Tryz.prog 141 #[.int .u8 c.toNat] w fun e w' => e = .returned (.bool (LX.isDig c)) ∧ w = w' := by
  have hk := Lib.hid (isDig_eq c)
  have h0 : (0 : Int) ≤ (c.toNat : Int) := by omega
  have h1 : (c.toNat : Int) ≤ 255 := by have := c.toNat_lt; omega
  go_enter Tryz.func141, Tryz.ntmps141
  go_wp2
  all_goals
    go_ret
    refine ⟨ret_bool ?_, rfl⟩
    rw [hk.out]
    clear hk
    repeat (rename (∀ (a : Act) (w : World), _) => K0; clear K0)
    rw [Bool.eq_iff_iff]
    simp
    try omega

set_option maxRecDepth 100000 in
set_option maxHeartbeats 4000000 in
theorem letter_any (c : UInt8) (w : World) : Calls Tryz.prog 185 #[.int .u8 c.toNat] w fun e w' => e = .returned (.bool (LX.isLet c)) ∧ w = w' := by
  have hk := Lib.hid (isLet_eq c)
  have h0 : (0 : Int) ≤ (c.toNat : Int) := by omega
  have h1 : (c.toNat : Int) ≤ 255 := by have := c.toNat_lt; omega
  go_enter Tryz.func185, Tryz.ntmps185
  go_wp2
  all_goals
    go_ret
    refine ⟨ret_bool ?_, rfl⟩
    rw [hk.out]
    clear hk
    repeat (rename (∀ (a : Act) (w : World), _) => K0; clear K0)
    rw [Bool.eq_iff_iff]
    simp
    try omega

theorem nb_sign {c : UInt8} (h1 : LX.isDig c = false) (h2 : LX.isLet c = false) : LX.isNB c = decide ((c.toNat : Int) = 45 ∨ (c.toNat : Int) = 95 ∨ (c.toNat : Int) = 58 ∨ (c.toNat : Int) = 46 ∨ (c.toNat : Int) = 35 ∨ (c.toNat : Int) = 33 ∨ (c.toNat : Int) = 63) := by
  rw [Bool.eq_iff_iff]; simp [LX.isNB, h1, h2, LX.isSign]; omega

set_option maxRecDepth 100000 in
set_option maxHeartbeats 4000000 in
theorem nameByte_any (c : UInt8) (w : World) : Calls Tryz.prog 139 #[.int .u8 c.toNat] w fun e w' => e = .returned (.bool (LX.isNB c)) ∧ w = w' := by
  have H1 := Lib.hid (digit_any c w)
  have H2 := Lib.hid (letter_any c w)
  have hf : LX.isNB c = if LX.isDig c then true else if LX.isLet c then true else decide ((c.toNat : Int) = 45 ∨ (c.toNat : Int) = 95 ∨ (c.toNat : Int) = 58 ∨ (c.toNat : Int) = 46 ∨ (c.toNat : Int) = 35 ∨ (c.toNat : Int) = 33 ∨ (c.toNat : Int) = 63) := by
    cases h1 : LX.isDig c
    · cases h2 : LX.isLet c
      · simpa using nb_sign h1 h2
      · simp [LX.isNB, h2]
    · simp [LX.isNB, h1]
  have HF := Lib.hid hf
  clear hf
  have h0 : (0 : Int) ≤ (c.toNat : Int) := by omega
  have h1 : (c.toNat : Int) ≤ 255 := by have := c.toNat_lt; omega
  obtain ⟨bd, hbd⟩ : ∃ b, LX.isDig c = b := ⟨_, rfl⟩
  obtain ⟨bl, hbl⟩ : ∃ b, LX.isLet c = b := ⟨_, rfl⟩
  rw [hbd] at H1 HF
  rw [hbl] at H2 HF
  clear hbd hbl
  cases bd
  · cases bl
    · go_enter Tryz.func139, Tryz.ntmps139
      go_wp2_with (first
        | (go_at_call 141; (with_reducible refine H1.out.mono ?_); rintro e w1 ⟨rfl, rfl⟩)
        | (go_at_call 185; (with_reducible refine H2.out.mono ?_); rintro e w1 ⟨rfl, rfl⟩))
      all_goals
        go_ret
        refine ⟨ret_bool ?_, rfl⟩
        rw [HF.out, if_neg (by simp), if_neg (by simp)]
        clear HF H1 H2
        repeat (rename (∀ (a : Act) (w : World), _) => K0; clear K0)
        try simp only [beq_eq_false_iff_ne, beq_iff_eq, ne_eq] at *
        symm
        first | (rw [decide_eq_true_eq]; omega) | (rw [decide_eq_false_iff_not]; omega)
    · go_enter Tryz.func139, Tryz.ntmps139
      go_wp2_with (first
        | (go_at_call 141; (with_reducible refine H1.out.mono ?_); rintro e w1 ⟨rfl, rfl⟩)
        | (go_at_call 185; (with_reducible refine H2.out.mono ?_); rintro e w1 ⟨rfl, rfl⟩))
      go_ret
      exact ⟨ret_bool (by rw [HF.out]; rfl), rfl⟩
  · go_enter Tryz.func139, Tryz.ntmps139
    go_wp2_with (go_at_call 141; (with_reducible refine H1.out.mono ?_); rintro e w1 ⟨rfl, rfl⟩)
    go_ret
    exact ⟨ret_bool (by rw [HF.out]; rfl), rfl⟩

theorem nb_at (l : List UInt8) (k n : Nat) (h : k + n < l.length) : (n < ((l.drop k).takeWhile LX.isNB).length → LX.isNB l[k + n] = true) ∧ (n = ((l.drop k).takeWhile LX.isNB).length → LX.isNB l[k + n] = false) := by
  have := nb_run (l.drop k) n (by rw [List.length_drop]; omega)
  rw [List.getElem_drop] at this
  exact this

set_option maxRecDepth 100000 in
set_option maxHeartbeats 4000000 in
theorem run_any (s : ByteArray) (k : Nat) (w : World) (hs : s.size ≤ 140737488355328) (hk : k ≤ s.size) :
    Calls Tryz.prog 140 #[.string s, .int .i64 k] w fun e w' => e = .returned (.int .i64 (k + ((s.data.toList.drop k).takeWhile LX.isNB).length : Nat)) ∧ w = w' := by
  have hle := LX.takeWhile_le LX.isNB (s.data.toList.drop k)
  rw [List.length_drop] at hle
  have hz : s.data.toList.length = s.size := by simp
  have HNB := Lib.hid (fun n (h : k + n < s.size) => nb_at s.data.toList k n (by omega))
  have HGL := Lib.hid (fun n h => get_list s n h)
  obtain ⟨M, hM⟩ : ∃ M, ((s.data.toList.drop k).takeWhile LX.isNB).length = M := ⟨_, rfl⟩
  rw [hM] at hle ⊢
  have HNB2 : Hid (∀ n (h : k + n < s.size), (n < M → LX.isNB (s[k + n]'h) = true) ∧ (n = M → LX.isNB (s[k + n]'h) = false)) := fun n h => by
    have := HNB.out n h
    rw [hM, HGL.out (k + n) h] at this
    exact this
  have HK := Lib.hid (fun c W => nameByte_any c W)
  clear hM HNB HGL
  go_enter Tryz.func140, Tryz.ntmps140
  go_wp2
  go_loop [1] (fun i => ∃ n : Nat, n ≤ M ∧ i = .int .i64 (k + n : Nat)) (fun i => s.size - (intOf i).toNat)
  case atStart => exact ⟨0, Nat.zero_le _, rfl⟩
  case round =>
    obtain ⟨n, hn, rfl⟩ := hrel
    by_cases hlt : k + n < s.size
    · have hb := HNB2.out n hlt
      have hkn := Lib.hid (HK.out (s[k + n]'hlt) w)
      by_cases hM : n < M
      · rw [hb.1 hM] at hkn
        have HKN := hkn
        clear hb hkn
        go_wp2_with (go_at_call 139; (with_reducible refine HKN.out.mono ?_); rintro e w1 ⟨rfl, rfl⟩)
        go_round
        case rel => exact ⟨n + 1, by omega, by go_num⟩
        case measure => simp [intOf]; omega
      · rw [hb.2 (by omega)] at hkn
        have HKN := hkn
        clear hb hkn
        go_wp2_with (go_at_call 139; (with_reducible refine HKN.out.mono ?_); rintro e w1 ⟨rfl, rfl⟩)
        go_ret
        exact ⟨ret_int (by omega), rfl⟩
    · go_wp2
      go_ret
      exact ⟨ret_int (by omega), rfl⟩
end Go.Proofs.YtpnbnomaaeoemaaGreatDoor
