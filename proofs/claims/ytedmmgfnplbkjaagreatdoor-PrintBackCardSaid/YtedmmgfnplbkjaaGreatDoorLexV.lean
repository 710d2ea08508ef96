/-
  Walks: (*reader).word, by the kind of the first byte.
  Conditions: the reader lies in block R behind the package's variables; these hold what the program's text lays in them; the text is no longer than the reach, and not empty.
-/
import Derived.Test.YtedmmgfnplbkjaaGreatDoorLexM
namespace Go.Proofs.YtedmmgfnplbkjaaGreatDoor
open Go.RowKit
theorem word_k3 {c : UInt8} {t : List UInt8} (h : LX.kindN c = 3) : LX.word (c :: t) = some (⟨4, [], 0, 0⟩, 1) := by
  have hc : c.toNat = 40 := by rw [kindN_eq] at h; (repeat' split at h) <;> omega
  simp only [LX.word, hc, if_true]
theorem word_k4 {c : UInt8} {t : List UInt8} (h : LX.kindN c = 4) : LX.word (c :: t) = some (⟨5, [], 0, 0⟩, 1) := by
  have hc : c.toNat = 41 := by rw [kindN_eq] at h; (repeat' split at h) <;> omega
  simp only [LX.word, hc]; rfl
theorem word_k5 {c : UInt8} {t : List UInt8} (h : LX.kindN c = 5) : LX.word (c :: t) = txtW t := by
  have hc : c.toNat = 34 := by rw [kindN_eq] at h; (repeat' split at h) <;> omega
  simp only [LX.word, hc]; rfl
theorem word_nb {c : UInt8} {t : List UInt8} (h : LX.kindN c = 6 ∨ LX.kindN c = 7 ∨ LX.kindN c = 8) : LX.word (c :: t) = nbW (c :: t) := by
  have hb : LX.isNB c = true := by rw [kind_nb]; simpa using h
  have hn := LX.nb_not hb
  simp only [LX.word, hn.2.1, hn.2.2.1, hn.2.2.2, if_false, hb, if_true]
  rfl
theorem word_no {c : UInt8} {t : List UInt8} (h : LX.kindN c < 3) : LX.word (c :: t) = none := by
  have hb : LX.isNB c = false := by rw [kind_nb]; simp; omega
  have h1 : ¬ c.toNat = 40 ∧ ¬ c.toNat = 41 ∧ ¬ c.toNat = 34 := by rw [kindN_eq] at h; (repeat' split at h) <;> omega
  simp only [LX.word, h1.1, h1.2.1, h1.2.2, if_false, hb]
  rfl
set_option maxRecDepth 100000 in
set_option maxHeartbeats 4000000 in
theorem wordK_0 (R : Nat) (s : ByteArray) (ln : Int) (w : World) (h0 : 0 < s.size) (hk : LX.kindN (s[0]'h0) = 0) (hr : RdAt R s ln w) :
    Calls Tryz.prog 39 #[.pointer (some ⟨R, 0, none⟩)] w (PostW (LX.word s.data.toList) R s ln w) := by
  have hl := head_list s h0
  have HKd : Hid (∀ W, Calls Tryz.prog 58 #[.int .u8 (s[0]'h0).toNat] W fun e w' => e = .returned (.int .u8 0) ∧ W = w') := by
    intro W
    have := kindOf_any (s[0]'h0) W
    rw [hk] at this
    exact this
  have c0 := hr.c0
  have f0 := hr.f0
  have hRlt := hr.lt
  have HRL := Lib.hid hRlt
  have g1 : (1 : Int) ≤ (s.size : Int) := by omega
  rw [show LX.word s.data.toList = none by rw [hl]; exact word_no (by omega)]
  have HP : Hid (∀ w', RdAt R s ln w' → Kp R w w' → PostW none R s ln w (.returned (.tuple #[zAgg, .bool false])) w') := fun w' h1 h2 => ⟨rfl, ⟨_, h1⟩, h2⟩
  generalize PostW none R s ln w = post at HP ⊢
  have HAL : Hid (RdAt R s ln (w.alloc (.cells #[.int .u8 0, .string ⟨#[]⟩, .int .i64 0, .int .i64 0] 90)) ∧ K2 R w.heap.size w (w.alloc (.cells #[.int .u8 0, .string ⟨#[]⟩, .int .i64 0, .int .i64 0] 90))) :=
    ⟨by unfold RdAt at hr ⊢; rw [Below.heap_alloc _ _ _ (by simpa using hRlt)]; exact hr, K2.alloc _ (by omega) (Nat.le_refl _)⟩
  clear hl hk hr
  go_enter Tryz.func39, Tryz.ntmps39
  go_wp2_with (go_at_call 58; (with_reducible refine (HKd.out _).mono ?_); rintro e w1 ⟨rfl, rfl⟩)
  refine bodyPost_ret (v := .tuple #[zAgg, .bool false]) (by simp [results, Tryz.results39, go_sem, zAgg]) rfl (HP.out _ HAL.out.1 HAL.out.2)
set_option maxRecDepth 100000 in
set_option maxHeartbeats 4000000 in
theorem wordK_1 (R : Nat) (s : ByteArray) (ln : Int) (w : World) (h0 : 0 < s.size) (hk : LX.kindN (s[0]'h0) = 1) (hr : RdAt R s ln w) :
    Calls Tryz.prog 39 #[.pointer (some ⟨R, 0, none⟩)] w (PostW (LX.word s.data.toList) R s ln w) := by
  have hl := head_list s h0
  have HKd : Hid (∀ W, Calls Tryz.prog 58 #[.int .u8 (s[0]'h0).toNat] W fun e w' => e = .returned (.int .u8 1) ∧ W = w') := by
    intro W
    have := kindOf_any (s[0]'h0) W
    rw [hk] at this
    exact this
  have c0 := hr.c0
  have f0 := hr.f0
  have hRlt := hr.lt
  have HRL := Lib.hid hRlt
  have g1 : (1 : Int) ≤ (s.size : Int) := by omega
  rw [show LX.word s.data.toList = none by rw [hl]; exact word_no (by omega)]
  have HP : Hid (∀ w', RdAt R s ln w' → Kp R w w' → PostW none R s ln w (.returned (.tuple #[zAgg, .bool false])) w') := fun w' h1 h2 => ⟨rfl, ⟨_, h1⟩, h2⟩
  generalize PostW none R s ln w = post at HP ⊢
  have HAL : Hid (RdAt R s ln (w.alloc (.cells #[.int .u8 0, .string ⟨#[]⟩, .int .i64 0, .int .i64 0] 90)) ∧ K2 R w.heap.size w (w.alloc (.cells #[.int .u8 0, .string ⟨#[]⟩, .int .i64 0, .int .i64 0] 90))) :=
    ⟨by unfold RdAt at hr ⊢; rw [Below.heap_alloc _ _ _ (by simpa using hRlt)]; exact hr, K2.alloc _ (by omega) (Nat.le_refl _)⟩
  clear hl hk hr
  go_enter Tryz.func39, Tryz.ntmps39
  go_wp2_with (go_at_call 58; (with_reducible refine (HKd.out _).mono ?_); rintro e w1 ⟨rfl, rfl⟩)
  refine bodyPost_ret (v := .tuple #[zAgg, .bool false]) (by simp [results, Tryz.results39, go_sem, zAgg]) rfl (HP.out _ HAL.out.1 HAL.out.2)
set_option maxRecDepth 100000 in
set_option maxHeartbeats 4000000 in
theorem wordK_2 (R : Nat) (s : ByteArray) (ln : Int) (w : World) (h0 : 0 < s.size) (hk : LX.kindN (s[0]'h0) = 2) (hr : RdAt R s ln w) :
    Calls Tryz.prog 39 #[.pointer (some ⟨R, 0, none⟩)] w (PostW (LX.word s.data.toList) R s ln w) := by
  have hl := head_list s h0
  have HKd : Hid (∀ W, Calls Tryz.prog 58 #[.int .u8 (s[0]'h0).toNat] W fun e w' => e = .returned (.int .u8 2) ∧ W = w') := by
    intro W
    have := kindOf_any (s[0]'h0) W
    rw [hk] at this
    exact this
  have c0 := hr.c0
  have f0 := hr.f0
  have hRlt := hr.lt
  have HRL := Lib.hid hRlt
  have g1 : (1 : Int) ≤ (s.size : Int) := by omega
  rw [show LX.word s.data.toList = none by rw [hl]; exact word_no (by omega)]
  have HP : Hid (∀ w', RdAt R s ln w' → Kp R w w' → PostW none R s ln w (.returned (.tuple #[zAgg, .bool false])) w') := fun w' h1 h2 => ⟨rfl, ⟨_, h1⟩, h2⟩
  generalize PostW none R s ln w = post at HP ⊢
  have HAL : Hid (RdAt R s ln (w.alloc (.cells #[.int .u8 0, .string ⟨#[]⟩, .int .i64 0, .int .i64 0] 90)) ∧ K2 R w.heap.size w (w.alloc (.cells #[.int .u8 0, .string ⟨#[]⟩, .int .i64 0, .int .i64 0] 90))) :=
    ⟨by unfold RdAt at hr ⊢; rw [Below.heap_alloc _ _ _ (by simpa using hRlt)]; exact hr, K2.alloc _ (by omega) (Nat.le_refl _)⟩
  clear hl hk hr
  go_enter Tryz.func39, Tryz.ntmps39
  go_wp2_with (go_at_call 58; (with_reducible refine (HKd.out _).mono ?_); rintro e w1 ⟨rfl, rfl⟩)
  refine bodyPost_ret (v := .tuple #[zAgg, .bool false]) (by simp [results, Tryz.results39, go_sem, zAgg]) rfl (HP.out _ HAL.out.1 HAL.out.2)
set_option maxRecDepth 100000 in
set_option maxHeartbeats 4000000 in
theorem wordK_3 (R : Nat) (s : ByteArray) (ln : Int) (w : World) (h0 : 0 < s.size) (hk : LX.kindN (s[0]'h0) = 3) (hr : RdAt R s ln w) :
    Calls Tryz.prog 39 #[.pointer (some ⟨R, 0, none⟩)] w (PostW (LX.word s.data.toList) R s ln w) := by
  have hl := head_list s h0
  have HKd : Hid (∀ W, Calls Tryz.prog 58 #[.int .u8 (s[0]'h0).toNat] W fun e w' => e = .returned (.int .u8 3) ∧ W = w') := by
    intro W
    have := kindOf_any (s[0]'h0) W
    rw [hk] at this
    exact this
  have c0 := hr.c0
  have f0 := hr.f0
  have hRlt := hr.lt
  have HRL := Lib.hid hRlt
  have g1 : (1 : Int) ≤ (s.size : Int) := by omega
  rw [show LX.word s.data.toList = some (⟨4, [], 0, 0⟩, 1) by rw [hl]; exact word_k3 hk]
  have HB1 : Hid (RdAt R (s.extract 1 s.size) ln (w.setCell ⟨R, 0, none⟩ (.string (s.extract 1 s.size)))) := hr.put0
  have HK2 : Hid (K2 R w.heap.size w (w.setCell ⟨R, 0, none⟩ (.string (s.extract 1 s.size)))) := K2.setR _ _
  have HP : Hid (∀ w', RdAt R (s.extract 1 s.size) ln w' → Kp R w w' → PostW (some (⟨4, [], 0, 0⟩, 1)) R s ln w (.returned (.tuple #[.agg #[.int .u8 4, .string ⟨#[]⟩, .int .i64 0, .int .i64 0], .bool true])) w') := fun w' h1 h2 => ⟨rfl, h1, h2⟩
  generalize PostW (some (⟨4, [], 0, 0⟩, 1)) R s ln w = post at HP ⊢
  have HAL : Hid (RdAt R (s.extract 1 s.size) ln ((w.setCell ⟨R, 0, none⟩ (.string (s.extract 1 s.size))).alloc (.cells #[.int .u8 4, .string ⟨#[]⟩, .int .i64 0, .int .i64 0] 90)) ∧ K2 R w.heap.size w ((w.setCell ⟨R, 0, none⟩ (.string (s.extract 1 s.size))).alloc (.cells #[.int .u8 4, .string ⟨#[]⟩, .int .i64 0, .int .i64 0] 90))) :=
    ⟨by have h1 := HB1.out; unfold RdAt at h1 ⊢; rw [Below.heap_alloc _ _ _ (by simpa using hRlt)]; exact h1, HK2.out.trans (K2.alloc _ (by simp; omega) (by simp))⟩
  clear hl hk hr
  go_enter Tryz.func39, Tryz.ntmps39
  go_wp2_with (go_at_call 58; (with_reducible refine (HKd.out _).mono ?_); rintro e w1 ⟨rfl, rfl⟩)
  refine bodyPost_ret (v := .tuple #[.agg #[.int .u8 4, .string ⟨#[]⟩, .int .i64 0, .int .i64 0], .bool true]) (by simp [results, Tryz.results39, go_sem]) rfl (HP.out _ HAL.out.1 HAL.out.2)
set_option maxRecDepth 100000 in
set_option maxHeartbeats 4000000 in
theorem wordK_4 (R : Nat) (s : ByteArray) (ln : Int) (w : World) (h0 : 0 < s.size) (hk : LX.kindN (s[0]'h0) = 4) (hr : RdAt R s ln w) :
    Calls Tryz.prog 39 #[.pointer (some ⟨R, 0, none⟩)] w (PostW (LX.word s.data.toList) R s ln w) := by
  have hl := head_list s h0
  have HKd : Hid (∀ W, Calls Tryz.prog 58 #[.int .u8 (s[0]'h0).toNat] W fun e w' => e = .returned (.int .u8 4) ∧ W = w') := by
    intro W
    have := kindOf_any (s[0]'h0) W
    rw [hk] at this
    exact this
  have c0 := hr.c0
  have f0 := hr.f0
  have hRlt := hr.lt
  have HRL := Lib.hid hRlt
  have g1 : (1 : Int) ≤ (s.size : Int) := by omega
  rw [show LX.word s.data.toList = some (⟨5, [], 0, 0⟩, 1) by rw [hl]; exact word_k4 hk]
  have HB1 : Hid (RdAt R (s.extract 1 s.size) ln (w.setCell ⟨R, 0, none⟩ (.string (s.extract 1 s.size)))) := hr.put0
  have HK2 : Hid (K2 R w.heap.size w (w.setCell ⟨R, 0, none⟩ (.string (s.extract 1 s.size)))) := K2.setR _ _
  have HP : Hid (∀ w', RdAt R (s.extract 1 s.size) ln w' → Kp R w w' → PostW (some (⟨5, [], 0, 0⟩, 1)) R s ln w (.returned (.tuple #[.agg #[.int .u8 5, .string ⟨#[]⟩, .int .i64 0, .int .i64 0], .bool true])) w') := fun w' h1 h2 => ⟨rfl, h1, h2⟩
  generalize PostW (some (⟨5, [], 0, 0⟩, 1)) R s ln w = post at HP ⊢
  have HAL : Hid (RdAt R (s.extract 1 s.size) ln ((w.setCell ⟨R, 0, none⟩ (.string (s.extract 1 s.size))).alloc (.cells #[.int .u8 5, .string ⟨#[]⟩, .int .i64 0, .int .i64 0] 90)) ∧ K2 R w.heap.size w ((w.setCell ⟨R, 0, none⟩ (.string (s.extract 1 s.size))).alloc (.cells #[.int .u8 5, .string ⟨#[]⟩, .int .i64 0, .int .i64 0] 90))) :=
    ⟨by have h1 := HB1.out; unfold RdAt at h1 ⊢; rw [Below.heap_alloc _ _ _ (by simpa using hRlt)]; exact h1, HK2.out.trans (K2.alloc _ (by simp; omega) (by simp))⟩
  clear hl hk hr
  go_enter Tryz.func39, Tryz.ntmps39
  go_wp2_with (go_at_call 58; (with_reducible refine (HKd.out _).mono ?_); rintro e w1 ⟨rfl, rfl⟩)
  refine bodyPost_ret (v := .tuple #[.agg #[.int .u8 5, .string ⟨#[]⟩, .int .i64 0, .int .i64 0], .bool true]) (by simp [results, Tryz.results39, go_sem]) rfl (HP.out _ HAL.out.1 HAL.out.2)
set_option maxRecDepth 100000 in
set_option maxHeartbeats 4000000 in
theorem wordK_5 (R : Nat) (s : ByteArray) (ln : Int) (w : World) (hs : s.size ≤ 140737488355327) (h0 : 0 < s.size) (hk : LX.kindN (s[0]'h0) = 5) (hr : RdAt R s ln w) :
    Calls Tryz.prog 39 #[.pointer (some ⟨R, 0, none⟩)] w (PostW (LX.word s.data.toList) R s ln w) := by
  have hl := head_list s h0
  have HKd : Hid (∀ W, Calls Tryz.prog 58 #[.int .u8 (s[0]'h0).toNat] W fun e w' => e = .returned (.int .u8 5) ∧ W = w') := by
    intro W
    have := kindOf_any (s[0]'h0) W
    rw [hk] at this
    exact this
  have c0 := hr.c0
  have f0 := hr.f0
  have hRlt := hr.lt
  have HRL := Lib.hid hRlt
  have g1 : (1 : Int) ≤ (s.size : Int) := by omega
  rw [show LX.word s.data.toList = txtW (s.data.toList.drop 1) by rw [hl, word_k5 hk]; simp]
  have hc : Calls Tryz.prog 59 #[.pointer (some ⟨R, 0, none⟩)] (w.alloc (.cells #[.int .u8 0, .string ⟨#[]⟩, .int .i64 0, .int .i64 0] 90)) (PostW (txtW (s.data.toList.drop 1)) R s ln (w.alloc (.cells #[.int .u8 0, .string ⟨#[]⟩, .int .i64 0, .int .i64 0] 90))) := by
    have hr1 : RdAt R s ln (w.alloc (.cells #[.int .u8 0, .string ⟨#[]⟩, .int .i64 0, .int .i64 0] 90)) := by unfold RdAt at hr ⊢; rw [Below.heap_alloc _ _ _ (by simpa using hRlt)]; exact hr
    exact text_any R s ln _ hs (by omega) hr1
  have HX : Hid (∀ w1, Kp R (w.alloc (.cells #[.int .u8 0, .string ⟨#[]⟩, .int .i64 0, .int .i64 0] 90)) w1 → WAt w.heap.size 0 ⟨#[]⟩ 0 0 w1 ∧ K2 R w.heap.size w w1) := fun w1 hk => ⟨by have := wat_alloc w; unfold WAt at this ⊢; rw [hk.2 _ hRlt (by simp)]; exact this, (K2.alloc _ (by omega) (Nat.le_refl _)).trans (hk.k2 (by simp))⟩
  clear hl hk hr hs
  generalize txtW (s.data.toList.drop 1) = r at hc ⊢
  cases r with
  | none =>
    have HC : Hid (Calls Tryz.prog 59 #[.pointer (some ⟨R, 0, none⟩)] (w.alloc (.cells #[.int .u8 0, .string ⟨#[]⟩, .int .i64 0, .int .i64 0] 90)) fun e w' => e = .returned (.tuple #[.agg #[.int .u8 0, .string ⟨#[]⟩, .int .i64 0, .int .i64 0], .bool false]) ∧ (∃ s', RdAt R s' ln w') ∧ Kp R (w.alloc (.cells #[.int .u8 0, .string ⟨#[]⟩, .int .i64 0, .int .i64 0] 90)) w') := hc
    have HP : Hid (∀ w' s', RdAt R s' ln w' → Kp R w w' → PostW none R s ln w (.returned (.tuple #[zAgg, .bool false])) w') := fun w' s' h1 h2 => ⟨rfl, ⟨s', h1⟩, h2⟩
    clear hc
    generalize PostW none R s ln w = post at HP ⊢
    go_enter Tryz.func39, Tryz.ntmps39
    go_wp2_with (first
      | (go_at_call 58; (with_reducible refine (HKd.out _).mono ?_); rintro e w1 ⟨rfl, rfl⟩)
      | (go_at_call 59; (with_reducible refine HC.out.mono ?_); rintro e w1 ⟨rfl, ⟨s', hr'⟩, hk'⟩; (have HB := Lib.hid (And.intro hr' (HX.out _ hk'))); (obtain ⟨⟨d0, d1, d2, d3⟩, z0, z1, z2, z3⟩ := HB.out.2.1.cells); clear hr' hk'))
    refine bodyPost_ret (v := .tuple #[zAgg, .bool false]) (by simp [results, Tryz.results39, go_sem, d0, d1, d2, d3, zAgg]) rfl (HP.out _ s' ?_ ?_)
    · have := HRL.out
      iterate 4 (with_reducible refine RdAt.setO ?_ (by omega) _ _)
      exact HB.out.1
    · have := HRL.out
      refine K2.kp ?_
      iterate 4 (with_reducible refine K2.trans ?_ (K2.set (R := R) (m := w.heap.size) (b := w.heap.size) _ _ (Nat.le_refl _) (by omega)))
      exact HB.out.2.2
  | some p =>
    obtain ⟨⟨k, x, n, line⟩, m⟩ := p
    have HC : Hid (Calls Tryz.prog 59 #[.pointer (some ⟨R, 0, none⟩)] (w.alloc (.cells #[.int .u8 0, .string ⟨#[]⟩, .int .i64 0, .int .i64 0] 90)) fun e w' => e = .returned (.tuple #[.agg #[.int .u8 k, .string ⟨x.toArray⟩, .int .i64 n, .int .i64 0], .bool true]) ∧ RdAt R (s.extract m s.size) ln w' ∧ Kp R (w.alloc (.cells #[.int .u8 0, .string ⟨#[]⟩, .int .i64 0, .int .i64 0] 90)) w') := hc
    have HP : Hid (∀ w', RdAt R (s.extract m s.size) ln w' → Kp R w w' → PostW (some (⟨k, x, n, line⟩, m)) R s ln w (.returned (.tuple #[.agg #[.int .u8 k, .string ⟨x.toArray⟩, .int .i64 n, .int .i64 0], .bool true])) w') := fun w' h1 h2 => ⟨rfl, h1, h2⟩
    clear hc
    generalize PostW (some (⟨k, x, n, line⟩, m)) R s ln w = post at HP ⊢
    generalize (⟨x.toArray⟩ : ByteArray) = xs at HP HC
    go_enter Tryz.func39, Tryz.ntmps39
    go_wp2_with (first
      | (go_at_call 58; (with_reducible refine (HKd.out _).mono ?_); rintro e w1 ⟨rfl, rfl⟩)
      | (go_at_call 59; (with_reducible refine HC.out.mono ?_); rintro e w1 ⟨rfl, hr', hk'⟩; (have HB := Lib.hid (And.intro hr' (HX.out _ hk'))); (obtain ⟨⟨d0, d1, d2, d3⟩, z0, z1, z2, z3⟩ := HB.out.2.1.cells); clear hr' hk'))
    refine bodyPost_ret (v := .tuple #[.agg #[.int .u8 k, .string xs, .int .i64 n, .int .i64 0], .bool true]) (by simp [results, Tryz.results39, go_sem, d0, d1, d2, d3]) rfl (HP.out _ ?_ ?_)
    · have := HRL.out
      iterate 4 (with_reducible refine RdAt.setO ?_ (by omega) _ _)
      exact HB.out.1
    · have := HRL.out
      refine K2.kp ?_
      iterate 4 (with_reducible refine K2.trans ?_ (K2.set (R := R) (m := w.heap.size) (b := w.heap.size) _ _ (Nat.le_refl _) (by omega)))
      exact HB.out.2.2
set_option maxRecDepth 100000 in
set_option maxHeartbeats 4000000 in
theorem wordK_6 (R : Nat) (s : ByteArray) (ln : Int) (w : World) (hs : s.size ≤ 140737488355327) (h0 : 0 < s.size) (hk : LX.kindN (s[0]'h0) = 6) (hr : RdAt R s ln w) (ht : LTabs w) (hg : GB R) :
    Calls Tryz.prog 39 #[.pointer (some ⟨R, 0, none⟩)] w (PostW (LX.word s.data.toList) R s ln w) := by
  have hl := head_list s h0
  have HKd : Hid (∀ W, Calls Tryz.prog 58 #[.int .u8 (s[0]'h0).toNat] W fun e w' => e = .returned (.int .u8 6) ∧ W = w') := by
    intro W
    have := kindOf_any (s[0]'h0) W
    rw [hk] at this
    exact this
  have c0 := hr.c0
  have f0 := hr.f0
  have hRlt := hr.lt
  have HRL := Lib.hid hRlt
  have g1 : (1 : Int) ≤ (s.size : Int) := by omega
  rw [show LX.word s.data.toList = nbW s.data.toList by rw [hl, word_nb (by omega)]]
  have hc : Calls Tryz.prog 60 #[.pointer (some ⟨R, 0, none⟩)] (w.alloc (.cells #[.int .u8 0, .string ⟨#[]⟩, .int .i64 0, .int .i64 0] 90)) (PostW (nbW s.data.toList) R s ln (w.alloc (.cells #[.int .u8 0, .string ⟨#[]⟩, .int .i64 0, .int .i64 0] 90))) := by
    have hr1 : RdAt R s ln (w.alloc (.cells #[.int .u8 0, .string ⟨#[]⟩, .int .i64 0, .int .i64 0] 90)) := by unfold RdAt at hr ⊢; rw [Below.heap_alloc _ _ _ (by simpa using hRlt)]; exact hr
    exact nameOrNumber_any R s ln _ hs (by
      rw [hl, List.takeWhile_cons, show LX.isNB s[0] = true by rw [kind_nb]; simp [hk]]
      simp) hr1 (ht.below ((Below.refl _ w).alloc (by omega) _) hg) hg
  have HX : Hid (∀ w1, Kp R (w.alloc (.cells #[.int .u8 0, .string ⟨#[]⟩, .int .i64 0, .int .i64 0] 90)) w1 → WAt w.heap.size 0 ⟨#[]⟩ 0 0 w1 ∧ K2 R w.heap.size w w1) := fun w1 hk => ⟨by have := wat_alloc w; unfold WAt at this ⊢; rw [hk.2 _ hRlt (by simp)]; exact this, (K2.alloc _ (by omega) (Nat.le_refl _)).trans (hk.k2 (by simp))⟩
  clear hl hk hr ht hg hs
  generalize nbW s.data.toList = r at hc ⊢
  cases r with
  | none =>
    have HC : Hid (Calls Tryz.prog 60 #[.pointer (some ⟨R, 0, none⟩)] (w.alloc (.cells #[.int .u8 0, .string ⟨#[]⟩, .int .i64 0, .int .i64 0] 90)) fun e w' => e = .returned (.tuple #[.agg #[.int .u8 0, .string ⟨#[]⟩, .int .i64 0, .int .i64 0], .bool false]) ∧ (∃ s', RdAt R s' ln w') ∧ Kp R (w.alloc (.cells #[.int .u8 0, .string ⟨#[]⟩, .int .i64 0, .int .i64 0] 90)) w') := hc
    have HP : Hid (∀ w' s', RdAt R s' ln w' → Kp R w w' → PostW none R s ln w (.returned (.tuple #[zAgg, .bool false])) w') := fun w' s' h1 h2 => ⟨rfl, ⟨s', h1⟩, h2⟩
    clear hc
    generalize PostW none R s ln w = post at HP ⊢
    go_enter Tryz.func39, Tryz.ntmps39
    go_wp2_with (first
      | (go_at_call 58; (with_reducible refine (HKd.out _).mono ?_); rintro e w1 ⟨rfl, rfl⟩)
      | (go_at_call 60; (with_reducible refine HC.out.mono ?_); rintro e w1 ⟨rfl, ⟨s', hr'⟩, hk'⟩; (have HB := Lib.hid (And.intro hr' (HX.out _ hk'))); (obtain ⟨⟨d0, d1, d2, d3⟩, z0, z1, z2, z3⟩ := HB.out.2.1.cells); clear hr' hk'))
    refine bodyPost_ret (v := .tuple #[zAgg, .bool false]) (by simp [results, Tryz.results39, go_sem, d0, d1, d2, d3, zAgg]) rfl (HP.out _ s' ?_ ?_)
    · have := HRL.out
      iterate 4 (with_reducible refine RdAt.setO ?_ (by omega) _ _)
      exact HB.out.1
    · have := HRL.out
      refine K2.kp ?_
      iterate 4 (with_reducible refine K2.trans ?_ (K2.set (R := R) (m := w.heap.size) (b := w.heap.size) _ _ (Nat.le_refl _) (by omega)))
      exact HB.out.2.2
  | some p =>
    obtain ⟨⟨k, x, n, line⟩, m⟩ := p
    have HC : Hid (Calls Tryz.prog 60 #[.pointer (some ⟨R, 0, none⟩)] (w.alloc (.cells #[.int .u8 0, .string ⟨#[]⟩, .int .i64 0, .int .i64 0] 90)) fun e w' => e = .returned (.tuple #[.agg #[.int .u8 k, .string ⟨x.toArray⟩, .int .i64 n, .int .i64 0], .bool true]) ∧ RdAt R (s.extract m s.size) ln w' ∧ Kp R (w.alloc (.cells #[.int .u8 0, .string ⟨#[]⟩, .int .i64 0, .int .i64 0] 90)) w') := hc
    have HP : Hid (∀ w', RdAt R (s.extract m s.size) ln w' → Kp R w w' → PostW (some (⟨k, x, n, line⟩, m)) R s ln w (.returned (.tuple #[.agg #[.int .u8 k, .string ⟨x.toArray⟩, .int .i64 n, .int .i64 0], .bool true])) w') := fun w' h1 h2 => ⟨rfl, h1, h2⟩
    clear hc
    generalize PostW (some (⟨k, x, n, line⟩, m)) R s ln w = post at HP ⊢
    generalize (⟨x.toArray⟩ : ByteArray) = xs at HP HC
    go_enter Tryz.func39, Tryz.ntmps39
    go_wp2_with (first
      | (go_at_call 58; (with_reducible refine (HKd.out _).mono ?_); rintro e w1 ⟨rfl, rfl⟩)
      | (go_at_call 60; (with_reducible refine HC.out.mono ?_); rintro e w1 ⟨rfl, hr', hk'⟩; (have HB := Lib.hid (And.intro hr' (HX.out _ hk'))); (obtain ⟨⟨d0, d1, d2, d3⟩, z0, z1, z2, z3⟩ := HB.out.2.1.cells); clear hr' hk'))
    refine bodyPost_ret (v := .tuple #[.agg #[.int .u8 k, .string xs, .int .i64 n, .int .i64 0], .bool true]) (by simp [results, Tryz.results39, go_sem, d0, d1, d2, d3]) rfl (HP.out _ ?_ ?_)
    · have := HRL.out
      iterate 4 (with_reducible refine RdAt.setO ?_ (by omega) _ _)
      exact HB.out.1
    · have := HRL.out
      refine K2.kp ?_
      iterate 4 (with_reducible refine K2.trans ?_ (K2.set (R := R) (m := w.heap.size) (b := w.heap.size) _ _ (Nat.le_refl _) (by omega)))
      exact HB.out.2.2
set_option maxRecDepth 100000 in
set_option maxHeartbeats 4000000 in
theorem wordK_7 (R : Nat) (s : ByteArray) (ln : Int) (w : World) (hs : s.size ≤ 140737488355327) (h0 : 0 < s.size) (hk : LX.kindN (s[0]'h0) = 7) (hr : RdAt R s ln w) (ht : LTabs w) (hg : GB R) :
    Calls Tryz.prog 39 #[.pointer (some ⟨R, 0, none⟩)] w (PostW (LX.word s.data.toList) R s ln w) := by
  have hl := head_list s h0
  have HKd : Hid (∀ W, Calls Tryz.prog 58 #[.int .u8 (s[0]'h0).toNat] W fun e w' => e = .returned (.int .u8 7) ∧ W = w') := by
    intro W
    have := kindOf_any (s[0]'h0) W
    rw [hk] at this
    exact this
  have c0 := hr.c0
  have f0 := hr.f0
  have hRlt := hr.lt
  have HRL := Lib.hid hRlt
  have g1 : (1 : Int) ≤ (s.size : Int) := by omega
  rw [show LX.word s.data.toList = nbW s.data.toList by rw [hl, word_nb (by omega)]]
  have hc : Calls Tryz.prog 60 #[.pointer (some ⟨R, 0, none⟩)] (w.alloc (.cells #[.int .u8 0, .string ⟨#[]⟩, .int .i64 0, .int .i64 0] 90)) (PostW (nbW s.data.toList) R s ln (w.alloc (.cells #[.int .u8 0, .string ⟨#[]⟩, .int .i64 0, .int .i64 0] 90))) := by
    have hr1 : RdAt R s ln (w.alloc (.cells #[.int .u8 0, .string ⟨#[]⟩, .int .i64 0, .int .i64 0] 90)) := by unfold RdAt at hr ⊢; rw [Below.heap_alloc _ _ _ (by simpa using hRlt)]; exact hr
    exact nameOrNumber_any R s ln _ hs (by
      rw [hl, List.takeWhile_cons, show LX.isNB s[0] = true by rw [kind_nb]; simp [hk]]
      simp) hr1 (ht.below ((Below.refl _ w).alloc (by omega) _) hg) hg
  have HX : Hid (∀ w1, Kp R (w.alloc (.cells #[.int .u8 0, .string ⟨#[]⟩, .int .i64 0, .int .i64 0] 90)) w1 → WAt w.heap.size 0 ⟨#[]⟩ 0 0 w1 ∧ K2 R w.heap.size w w1) := fun w1 hk => ⟨by have := wat_alloc w; unfold WAt at this ⊢; rw [hk.2 _ hRlt (by simp)]; exact this, (K2.alloc _ (by omega) (Nat.le_refl _)).trans (hk.k2 (by simp))⟩
  clear hl hk hr ht hg hs
  generalize nbW s.data.toList = r at hc ⊢
  cases r with
  | none =>
    have HC : Hid (Calls Tryz.prog 60 #[.pointer (some ⟨R, 0, none⟩)] (w.alloc (.cells #[.int .u8 0, .string ⟨#[]⟩, .int .i64 0, .int .i64 0] 90)) fun e w' => e = .returned (.tuple #[.agg #[.int .u8 0, .string ⟨#[]⟩, .int .i64 0, .int .i64 0], .bool false]) ∧ (∃ s', RdAt R s' ln w') ∧ Kp R (w.alloc (.cells #[.int .u8 0, .string ⟨#[]⟩, .int .i64 0, .int .i64 0] 90)) w') := hc
    have HP : Hid (∀ w' s', RdAt R s' ln w' → Kp R w w' → PostW none R s ln w (.returned (.tuple #[zAgg, .bool false])) w') := fun w' s' h1 h2 => ⟨rfl, ⟨s', h1⟩, h2⟩
    clear hc
    generalize PostW none R s ln w = post at HP ⊢
    go_enter Tryz.func39, Tryz.ntmps39
    go_wp2_with (first
      | (go_at_call 58; (with_reducible refine (HKd.out _).mono ?_); rintro e w1 ⟨rfl, rfl⟩)
      | (go_at_call 60; (with_reducible refine HC.out.mono ?_); rintro e w1 ⟨rfl, ⟨s', hr'⟩, hk'⟩; (have HB := Lib.hid (And.intro hr' (HX.out _ hk'))); (obtain ⟨⟨d0, d1, d2, d3⟩, z0, z1, z2, z3⟩ := HB.out.2.1.cells); clear hr' hk'))
    refine bodyPost_ret (v := .tuple #[zAgg, .bool false]) (by simp [results, Tryz.results39, go_sem, d0, d1, d2, d3, zAgg]) rfl (HP.out _ s' ?_ ?_)
    · have := HRL.out
      iterate 4 (with_reducible refine RdAt.setO ?_ (by omega) _ _)
      exact HB.out.1
    · have := HRL.out
      refine K2.kp ?_
      iterate 4 (with_reducible refine K2.trans ?_ (K2.set (R := R) (m := w.heap.size) (b := w.heap.size) _ _ (Nat.le_refl _) (by omega)))
      exact HB.out.2.2
  | some p =>
    obtain ⟨⟨k, x, n, line⟩, m⟩ := p
    have HC : Hid (Calls Tryz.prog 60 #[.pointer (some ⟨R, 0, none⟩)] (w.alloc (.cells #[.int .u8 0, .string ⟨#[]⟩, .int .i64 0, .int .i64 0] 90)) fun e w' => e = .returned (.tuple #[.agg #[.int .u8 k, .string ⟨x.toArray⟩, .int .i64 n, .int .i64 0], .bool true]) ∧ RdAt R (s.extract m s.size) ln w' ∧ Kp R (w.alloc (.cells #[.int .u8 0, .string ⟨#[]⟩, .int .i64 0, .int .i64 0] 90)) w') := hc
    have HP : Hid (∀ w', RdAt R (s.extract m s.size) ln w' → Kp R w w' → PostW (some (⟨k, x, n, line⟩, m)) R s ln w (.returned (.tuple #[.agg #[.int .u8 k, .string ⟨x.toArray⟩, .int .i64 n, .int .i64 0], .bool true])) w') := fun w' h1 h2 => ⟨rfl, h1, h2⟩
    clear hc
    generalize PostW (some (⟨k, x, n, line⟩, m)) R s ln w = post at HP ⊢
    generalize (⟨x.toArray⟩ : ByteArray) = xs at HP HC
    go_enter Tryz.func39, Tryz.ntmps39
    go_wp2_with (first
      | (go_at_call 58; (with_reducible refine (HKd.out _).mono ?_); rintro e w1 ⟨rfl, rfl⟩)
      | (go_at_call 60; (with_reducible refine HC.out.mono ?_); rintro e w1 ⟨rfl, hr', hk'⟩; (have HB := Lib.hid (And.intro hr' (HX.out _ hk'))); (obtain ⟨⟨d0, d1, d2, d3⟩, z0, z1, z2, z3⟩ := HB.out.2.1.cells); clear hr' hk'))
    refine bodyPost_ret (v := .tuple #[.agg #[.int .u8 k, .string xs, .int .i64 n, .int .i64 0], .bool true]) (by simp [results, Tryz.results39, go_sem, d0, d1, d2, d3]) rfl (HP.out _ ?_ ?_)
    · have := HRL.out
      iterate 4 (with_reducible refine RdAt.setO ?_ (by omega) _ _)
      exact HB.out.1
    · have := HRL.out
      refine K2.kp ?_
      iterate 4 (with_reducible refine K2.trans ?_ (K2.set (R := R) (m := w.heap.size) (b := w.heap.size) _ _ (Nat.le_refl _) (by omega)))
      exact HB.out.2.2
set_option maxRecDepth 100000 in
set_option maxHeartbeats 4000000 in
theorem wordK_8 (R : Nat) (s : ByteArray) (ln : Int) (w : World) (hs : s.size ≤ 140737488355327) (h0 : 0 < s.size) (hk : LX.kindN (s[0]'h0) = 8) (hr : RdAt R s ln w) (ht : LTabs w) (hg : GB R) :
    Calls Tryz.prog 39 #[.pointer (some ⟨R, 0, none⟩)] w (PostW (LX.word s.data.toList) R s ln w) := by
  have hl := head_list s h0
  have HKd : Hid (∀ W, Calls Tryz.prog 58 #[.int .u8 (s[0]'h0).toNat] W fun e w' => e = .returned (.int .u8 8) ∧ W = w') := by
    intro W
    have := kindOf_any (s[0]'h0) W
    rw [hk] at this
    exact this
  have c0 := hr.c0
  have f0 := hr.f0
  have hRlt := hr.lt
  have HRL := Lib.hid hRlt
  have g1 : (1 : Int) ≤ (s.size : Int) := by omega
  rw [show LX.word s.data.toList = nbW s.data.toList by rw [hl, word_nb (by omega)]]
  have hc : Calls Tryz.prog 60 #[.pointer (some ⟨R, 0, none⟩)] (w.alloc (.cells #[.int .u8 0, .string ⟨#[]⟩, .int .i64 0, .int .i64 0] 90)) (PostW (nbW s.data.toList) R s ln (w.alloc (.cells #[.int .u8 0, .string ⟨#[]⟩, .int .i64 0, .int .i64 0] 90))) := by
    have hr1 : RdAt R s ln (w.alloc (.cells #[.int .u8 0, .string ⟨#[]⟩, .int .i64 0, .int .i64 0] 90)) := by unfold RdAt at hr ⊢; rw [Below.heap_alloc _ _ _ (by simpa using hRlt)]; exact hr
    exact nameOrNumber_any R s ln _ hs (by
      rw [hl, List.takeWhile_cons, show LX.isNB s[0] = true by rw [kind_nb]; simp [hk]]
      simp) hr1 (ht.below ((Below.refl _ w).alloc (by omega) _) hg) hg
  have HX : Hid (∀ w1, Kp R (w.alloc (.cells #[.int .u8 0, .string ⟨#[]⟩, .int .i64 0, .int .i64 0] 90)) w1 → WAt w.heap.size 0 ⟨#[]⟩ 0 0 w1 ∧ K2 R w.heap.size w w1) := fun w1 hk => ⟨by have := wat_alloc w; unfold WAt at this ⊢; rw [hk.2 _ hRlt (by simp)]; exact this, (K2.alloc _ (by omega) (Nat.le_refl _)).trans (hk.k2 (by simp))⟩
  clear hl hk hr ht hg hs
  generalize nbW s.data.toList = r at hc ⊢
  cases r with
  | none =>
    have HC : Hid (Calls Tryz.prog 60 #[.pointer (some ⟨R, 0, none⟩)] (w.alloc (.cells #[.int .u8 0, .string ⟨#[]⟩, .int .i64 0, .int .i64 0] 90)) fun e w' => e = .returned (.tuple #[.agg #[.int .u8 0, .string ⟨#[]⟩, .int .i64 0, .int .i64 0], .bool false]) ∧ (∃ s', RdAt R s' ln w') ∧ Kp R (w.alloc (.cells #[.int .u8 0, .string ⟨#[]⟩, .int .i64 0, .int .i64 0] 90)) w') := hc
    have HP : Hid (∀ w' s', RdAt R s' ln w' → Kp R w w' → PostW none R s ln w (.returned (.tuple #[zAgg, .bool false])) w') := fun w' s' h1 h2 => ⟨rfl, ⟨s', h1⟩, h2⟩
    clear hc
    generalize PostW none R s ln w = post at HP ⊢
    go_enter Tryz.func39, Tryz.ntmps39
    go_wp2_with (first
      | (go_at_call 58; (with_reducible refine (HKd.out _).mono ?_); rintro e w1 ⟨rfl, rfl⟩)
      | (go_at_call 60; (with_reducible refine HC.out.mono ?_); rintro e w1 ⟨rfl, ⟨s', hr'⟩, hk'⟩; (have HB := Lib.hid (And.intro hr' (HX.out _ hk'))); (obtain ⟨⟨d0, d1, d2, d3⟩, z0, z1, z2, z3⟩ := HB.out.2.1.cells); clear hr' hk'))
    refine bodyPost_ret (v := .tuple #[zAgg, .bool false]) (by simp [results, Tryz.results39, go_sem, d0, d1, d2, d3, zAgg]) rfl (HP.out _ s' ?_ ?_)
    · have := HRL.out
      iterate 4 (with_reducible refine RdAt.setO ?_ (by omega) _ _)
      exact HB.out.1
    · have := HRL.out
      refine K2.kp ?_
      iterate 4 (with_reducible refine K2.trans ?_ (K2.set (R := R) (m := w.heap.size) (b := w.heap.size) _ _ (Nat.le_refl _) (by omega)))
      exact HB.out.2.2
  | some p =>
    obtain ⟨⟨k, x, n, line⟩, m⟩ := p
    have HC : Hid (Calls Tryz.prog 60 #[.pointer (some ⟨R, 0, none⟩)] (w.alloc (.cells #[.int .u8 0, .string ⟨#[]⟩, .int .i64 0, .int .i64 0] 90)) fun e w' => e = .returned (.tuple #[.agg #[.int .u8 k, .string ⟨x.toArray⟩, .int .i64 n, .int .i64 0], .bool true]) ∧ RdAt R (s.extract m s.size) ln w' ∧ Kp R (w.alloc (.cells #[.int .u8 0, .string ⟨#[]⟩, .int .i64 0, .int .i64 0] 90)) w') := hc
    have HP : Hid (∀ w', RdAt R (s.extract m s.size) ln w' → Kp R w w' → PostW (some (⟨k, x, n, line⟩, m)) R s ln w (.returned (.tuple #[.agg #[.int .u8 k, .string ⟨x.toArray⟩, .int .i64 n, .int .i64 0], .bool true])) w') := fun w' h1 h2 => ⟨rfl, h1, h2⟩
    clear hc
    generalize PostW (some (⟨k, x, n, line⟩, m)) R s ln w = post at HP ⊢
    generalize (⟨x.toArray⟩ : ByteArray) = xs at HP HC
    go_enter Tryz.func39, Tryz.ntmps39
    go_wp2_with (first
      | (go_at_call 58; (with_reducible refine (HKd.out _).mono ?_); rintro e w1 ⟨rfl, rfl⟩)
      | (go_at_call 60; (with_reducible refine HC.out.mono ?_); rintro e w1 ⟨rfl, hr', hk'⟩; (have HB := Lib.hid (And.intro hr' (HX.out _ hk'))); (obtain ⟨⟨d0, d1, d2, d3⟩, z0, z1, z2, z3⟩ := HB.out.2.1.cells); clear hr' hk'))
    refine bodyPost_ret (v := .tuple #[.agg #[.int .u8 k, .string xs, .int .i64 n, .int .i64 0], .bool true]) (by simp [results, Tryz.results39, go_sem, d0, d1, d2, d3]) rfl (HP.out _ ?_ ?_)
    · have := HRL.out
      iterate 4 (with_reducible refine RdAt.setO ?_ (by omega) _ _)
      exact HB.out.1
    · have := HRL.out
      refine K2.kp ?_
      iterate 4 (with_reducible refine K2.trans ?_ (K2.set (R := R) (m := w.heap.size) (b := w.heap.size) _ _ (Nat.le_refl _) (by omega)))
      exact HB.out.2.2
theorem word_any (R : Nat) (s : ByteArray) (ln : Int) (w : World) (hs : s.size ≤ 140737488355327) (h0 : 0 < s.size) (hr : RdAt R s ln w) (ht : LTabs w) (hg : GB R) :
    Calls Tryz.prog 39 #[.pointer (some ⟨R, 0, none⟩)] w (PostW (LX.word s.data.toList) R s ln w) := by
  have hk := kind_lt (s[0]'h0)
  rcases (show LX.kindN s[0] = 0 ∨ LX.kindN s[0] = 1 ∨ LX.kindN s[0] = 2 ∨ LX.kindN s[0] = 3 ∨ LX.kindN s[0] = 4 ∨ LX.kindN s[0] = 5 ∨ LX.kindN s[0] = 6 ∨ LX.kindN s[0] = 7 ∨ LX.kindN s[0] = 8 by omega) with h | h | h | h | h | h | h | h | h
  · exact wordK_0 R s ln w h0 h hr
  · exact wordK_1 R s ln w h0 h hr
  · exact wordK_2 R s ln w h0 h hr
  · exact wordK_3 R s ln w h0 h hr
  · exact wordK_4 R s ln w h0 h hr
  · exact wordK_5 R s ln w hs h0 h hr
  · exact wordK_6 R s ln w hs h0 h hr ht hg
  · exact wordK_7 R s ln w hs h0 h hr ht hg
  · exact wordK_8 R s ln w hs h0 h hr ht hg
end Go.Proofs.YtedmmgfnplbkjaaGreatDoor
