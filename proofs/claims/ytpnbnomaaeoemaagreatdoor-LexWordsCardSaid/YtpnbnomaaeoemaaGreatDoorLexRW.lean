/-
  Walks: the document's answer for layer 3: word.
  Conditions: texts no longer than a program may be; a place within the text.
-/
import Derived.Test.YtpnbnomaaeoemaaGreatDoorLexRT
import Derived.Test.YtpnbnomaaeoemaaGreatDoorLexRN
namespace Go.Proofs.YtpnbnomaaeoemaaGreatDoor
open Go.RowKit

/-- What word answers. -/
def PostRW (r : Option (LX.LW × Nat)) (k : Nat) (w : World) (e : Ending) (w' : World) : Prop :=
  (match r with
  | some (x, m) => e = .returned (.tuple #[wAgg x, .int .i64 (k + m : Nat), .bool true])
  | none => ∃ kk ss nn n, e = .returned (.tuple #[.agg #[.int .u8 kk, .string ss, .int .i64 nn, .int .i64 0], .int .i64 n, .bool false])) ∧ Below w.heap.size w w'
theorem extr_list (s : ByteArray) (k m : Nat) : (s.extract k (k + m)).data.toList = (s.data.toList.drop k).take m := by
  rw [Lib.extract_data]
  congr 1
  omega
theorem begNum_at (x : ByteArray) (h0 : 0 < x.size) : LX.begNum x.data.toList = (LX.isDig (x[0]'h0) || ((x[0]'h0).toNat == 45 && if h : 1 < x.size then LX.isDig (x[1]'h) else false)) := by
  rw [head_list x h0]
  simp only [LX.begNum]
  congr 2
  by_cases h : 1 < x.size
  · rw [drop_cons x 1 h, dif_pos h]; rfl
  · rw [List.drop_of_length_le (by simp; omega), dif_neg h]; rfl

set_option maxRecDepth 100000 in
set_option maxHeartbeats 8000000 in
theorem rw_40 (s : ByteArray) (k : Nat) (w : World) (hs : s.size ≤ 65536) (hk : k < s.size) (hc : (s[k]'hk).toNat = 40) :
    Calls Tryz.prog 83 #[.string s, .int .i64 k] w (PostRW (some (⟨4, [], 0, 0⟩, 1)) k w) := by
  have hu : True := by have := hs; have := hk; have := hc; trivial
  clear hu
  have HAL : Hid (∀ o, Below w.heap.size w (w.alloc o)) := fun o => (Below.refl _ _).alloc (Nat.le_refl _) o
  have t1 : (((s[k]'hk).toNat : Int) == 40) = true := by rw [beq_iff_eq]; omega
  have HP : Hid (∀ w', Below w.heap.size w w' → PostRW (some (⟨4, [], 0, 0⟩, 1)) k w (.returned (.tuple #[.agg #[.int .u8 4, .string ⟨#[]⟩, .int .i64 0, .int .i64 0], .int .i64 ((k : Int) + 1), .bool true])) w') := fun w' h => ⟨rfl, h⟩
  generalize PostRW (some (⟨4, [], 0, 0⟩, 1)) k w = post at HP ⊢
  clear hc
  go_enter Tryz.func83, Tryz.ntmps83
  go_wp2
  refine bodyPost_ret (v := .tuple #[.agg #[.int .u8 4, .string ⟨#[]⟩, .int .i64 0, .int .i64 0], .int .i64 ((k : Int) + 1), .bool true]) (by simp [results, Tryz.results83, go_sem]) rfl (HP.out _ (HAL.out _))

set_option maxRecDepth 100000 in
set_option maxHeartbeats 8000000 in
theorem rw_41 (s : ByteArray) (k : Nat) (w : World) (hs : s.size ≤ 65536) (hk : k < s.size) (hc : (s[k]'hk).toNat = 41) :
    Calls Tryz.prog 83 #[.string s, .int .i64 k] w (PostRW (some (⟨5, [], 0, 0⟩, 1)) k w) := by
  have hu : True := by have := hs; have := hk; have := hc; trivial
  clear hu
  have HAL : Hid (∀ o, Below w.heap.size w (w.alloc o)) := fun o => (Below.refl _ _).alloc (Nat.le_refl _) o
  have t1 : (((s[k]'hk).toNat : Int) == 40) = false := by rw [beq_eq_false_iff_ne]; omega
  have t2 : (((s[k]'hk).toNat : Int) == 41) = true := by rw [beq_iff_eq]; omega
  have HP : Hid (∀ w', Below w.heap.size w w' → PostRW (some (⟨5, [], 0, 0⟩, 1)) k w (.returned (.tuple #[.agg #[.int .u8 5, .string ⟨#[]⟩, .int .i64 0, .int .i64 0], .int .i64 ((k : Int) + 1), .bool true])) w') := fun w' h => ⟨rfl, h⟩
  generalize PostRW (some (⟨5, [], 0, 0⟩, 1)) k w = post at HP ⊢
  clear hc
  go_enter Tryz.func83, Tryz.ntmps83
  go_wp2
  refine bodyPost_ret (v := .tuple #[.agg #[.int .u8 5, .string ⟨#[]⟩, .int .i64 0, .int .i64 0], .int .i64 ((k : Int) + 1), .bool true]) (by simp [results, Tryz.results83, go_sem]) rfl (HP.out _ (HAL.out _))

set_option maxRecDepth 100000 in
set_option maxHeartbeats 8000000 in
theorem rw_34 (s : ByteArray) (k : Nat) (w : World) (hs : s.size ≤ 65536) (hk : k < s.size) (hc : (s[k]'hk).toNat = 34) :
    Calls Tryz.prog 83 #[.string s, .int .i64 k] w (PostRW (txtW (s.data.toList.drop (k + 1))) k w) := by
  have hu : True := by have := hs; have := hk; have := hc; trivial
  clear hu
  have HAL : Hid (∀ o, Below w.heap.size w (w.alloc o)) := fun o => (Below.refl _ _).alloc (Nat.le_refl _) o
  have t1 : (((s[k]'hk).toNat : Int) == 40) = false := by rw [beq_eq_false_iff_ne]; omega
  have t2 : (((s[k]'hk).toNat : Int) == 41) = false := by rw [beq_eq_false_iff_ne]; omega
  have t3 : (((s[k]'hk).toNat : Int) == 34) = true := by rw [beq_iff_eq]; omega
  have hT := rtext_any s (k + 1) (w.alloc (.cells #[.int .u8 0, .string ⟨#[]⟩, .int .i64 0, .int .i64 0] 84)) hs (by omega)
  have HX : Hid (∀ w1, Below (w.alloc (.cells #[.int .u8 0, .string ⟨#[]⟩, .int .i64 0, .int .i64 0] 84)).heap.size (w.alloc (.cells #[.int .u8 0, .string ⟨#[]⟩, .int .i64 0, .int .i64 0] 84)) w1 → WAt w.heap.size 0 ⟨#[]⟩ 0 0 w1 ∧ Below w.heap.size w w1) := fun w1 hb => ⟨(wat_alloc w).below hb (by simp), (HAL.out _).trans (hb.mono (by simp))⟩
  have HQ : Hid (∀ q v w1, Below w.heap.size w w1 → Below w.heap.size w (w1.setCell ⟨w.heap.size, q, none⟩ v)) := fun q v w1 h => h.setCell (p := ⟨w.heap.size, q, none⟩) (Nat.le_refl _) v
  unfold PostTx at hT
  unfold txtW
  clear hc
  by_cases hok : ((s.data.toList.drop (k + 1)).drop (LX.txt false (s.data.toList.drop (k + 1))).1).head? = some 34 ∧ (LX.txt false (s.data.toList.drop (k + 1))).2.length ≤ 4096
  · rw [if_pos hok]
    simp only [hok, and_self, if_true] at hT
    have hT2 : Calls Tryz.prog 138 #[.string s, .int .i64 (k + 1 : Nat)] (w.alloc (.cells #[.int .u8 0, .string ⟨#[]⟩, .int .i64 0, .int .i64 0] 84)) fun e w' => e = .returned (.tuple #[.string ⟨(LX.txt false (s.data.toList.drop (k + 1))).2.toArray⟩, .int .i64 (k + ((LX.txt false (s.data.toList.drop (k + 1))).1 + 2) : Nat), .bool true]) ∧ Below (w.alloc (.cells #[.int .u8 0, .string ⟨#[]⟩, .int .i64 0, .int .i64 0] 84)).heap.size (w.alloc (.cells #[.int .u8 0, .string ⟨#[]⟩, .int .i64 0, .int .i64 0] 84)) w' := by
      rw [show k + ((LX.txt false (s.data.toList.drop (k + 1))).1 + 2) = k + 1 + (LX.txt false (s.data.toList.drop (k + 1))).1 + 1 by omega]
      exact hT
    clear hT hok
    have HP : Hid (∀ w', Below w.heap.size w w' → PostRW (some (⟨3, (LX.txt false (s.data.toList.drop (k + 1))).2, 0, 0⟩, (LX.txt false (s.data.toList.drop (k + 1))).1 + 2)) k w (.returned (.tuple #[.agg #[.int .u8 3, .string ⟨(LX.txt false (s.data.toList.drop (k + 1))).2.toArray⟩, .int .i64 0, .int .i64 0], .int .i64 (k + ((LX.txt false (s.data.toList.drop (k + 1))).1 + 2) : Nat), .bool true])) w') := fun w' h => ⟨rfl, h⟩
    generalize PostRW (some (⟨3, (LX.txt false (s.data.toList.drop (k + 1))).2, 0, 0⟩, (LX.txt false (s.data.toList.drop (k + 1))).1 + 2)) k w = post at HP ⊢
    generalize (⟨(LX.txt false (s.data.toList.drop (k + 1))).2.toArray⟩ : ByteArray) = o at HP hT2
    generalize k + ((LX.txt false (s.data.toList.drop (k + 1))).1 + 2) = E at HP hT2
    have HT2 := Lib.hid hT2
    clear hT2
    go_enter Tryz.func83, Tryz.ntmps83
    go_wp2_with fail
    refine HT2.out.mono ?_
    rintro e w1 ⟨rfl, hb⟩
    have HA := Lib.hid (HX.out _ hb)
    obtain ⟨⟨d0, d1, d2, d3⟩, z0, z1, z2, z3⟩ := HA.out.1.cells
    clear hb
    go_wp2
    refine bodyPost_ret (v := .tuple #[.agg #[.int .u8 3, .string o, .int .i64 0, .int .i64 0], .int .i64 E, .bool true]) (by simp [results, Tryz.results83, go_sem, d0, d1, d2, d3]) rfl (HP.out _ ?_)
    iterate 4 (with_reducible refine HQ.out _ _ _ ?_)
    exact HA.out.2
  · rw [if_neg hok]
    simp only [hok, if_false] at hT
    have HP : Hid (∀ w' ss n, Below w.heap.size w w' → PostRW none k w (.returned (.tuple #[.agg #[.int .u8 3, .string ss, .int .i64 0, .int .i64 0], .int .i64 n, .bool false])) w') := fun w' ss n h => ⟨⟨_, _, _, _, rfl⟩, h⟩
    generalize PostRW none k w = post at HP ⊢
    have HT2 := Lib.hid hT
    clear hT hok
    go_enter Tryz.func83, Tryz.ntmps83
    go_wp2_with fail
    refine HT2.out.mono ?_
    rintro e w1 ⟨⟨o, E, rfl⟩, hb⟩
    have HA := Lib.hid (HX.out _ hb)
    obtain ⟨⟨d0, d1, d2, d3⟩, z0, z1, z2, z3⟩ := HA.out.1.cells
    clear hb
    go_wp2
    refine bodyPost_ret (v := .tuple #[.agg #[.int .u8 3, .string o, .int .i64 0, .int .i64 0], .int .i64 E, .bool false]) (by simp [results, Tryz.results83, go_sem, d0, d1, d2, d3]) rfl (HP.out _ _ _ ?_)
    iterate 4 (with_reducible refine HQ.out _ _ _ ?_)
    exact HA.out.2

set_option maxRecDepth 100000 in
set_option maxHeartbeats 8000000 in
theorem rw_no (s : ByteArray) (k : Nat) (w : World) (hs : s.size ≤ 65536) (hk : k < s.size) (q1 : ¬ (s[k]'hk).toNat = 40) (q2 : ¬ (s[k]'hk).toNat = 41) (q3 : ¬ (s[k]'hk).toNat = 34) (hn : LX.isNB (s[k]'hk) = false) :
    Calls Tryz.prog 83 #[.string s, .int .i64 k] w (PostRW (none) k w) := by
  have hu : True := by have := hs; have := hk; have := q1; have := q2; have := q3; have := hn; trivial
  clear hu
  have HAL : Hid (∀ o, Below w.heap.size w (w.alloc o)) := fun o => (Below.refl _ _).alloc (Nat.le_refl _) o
  have t1 : (((s[k]'hk).toNat : Int) == 40) = false := by rw [beq_eq_false_iff_ne]; omega
  have t2 : (((s[k]'hk).toNat : Int) == 41) = false := by rw [beq_eq_false_iff_ne]; omega
  have t3 : (((s[k]'hk).toNat : Int) == 34) = false := by rw [beq_eq_false_iff_ne]; omega
  have HNB := Lib.hid (fun W => nameByte_any (s[k]'hk) W)
  rw [hn] at HNB
  have HP : Hid (∀ w' kk ss nn n, Below w.heap.size w w' → PostRW none k w (.returned (.tuple #[.agg #[.int .u8 kk, .string ss, .int .i64 nn, .int .i64 0], .int .i64 n, .bool false])) w') := fun w' kk ss nn n h => ⟨⟨_, _, _, _, rfl⟩, h⟩
  generalize PostRW none k w = post at HP ⊢
  clear q1 q2 q3 hn
  go_enter Tryz.func83, Tryz.ntmps83
  go_wp2_with (go_at_call 139; (with_reducible refine (HNB.out _).mono ?_); rintro e w1 ⟨rfl, rfl⟩)
  refine bodyPost_ret (v := .tuple #[.agg #[.int .u8 0, .string ⟨#[]⟩, .int .i64 0, .int .i64 0], .int .i64 k, .bool false]) (by simp [results, Tryz.results83, go_sem]) rfl (HP.out _ _ _ _ _ (HAL.out _))

set_option maxRecDepth 100000 in
set_option maxHeartbeats 8000000 in
theorem rw_num_d_some (s : ByteArray) (k : Nat) (w : World) (hs : s.size ≤ 65536) (hk : k < s.size) (q1 : ¬ (s[k]'hk).toNat = 40) (q2 : ¬ (s[k]'hk).toNat = 41) (q3 : ¬ (s[k]'hk).toNat = 34) (hn : LX.isNB (s[k]'hk) = true) (x : ByteArray) (M : Nat) (hM : ((s.data.toList.drop k).takeWhile LX.isNB).length = M) (hx : s.extract k (k + M) = x) (hxz : x.size = M) (hx0 : 0 < x.size) (b0 : LX.isDig (x[0]'hx0) = true) (v : Int) (hv : LX.numOf x.data.toList = some v) :
    Calls Tryz.prog 83 #[.string s, .int .i64 k] w (PostRW (some (⟨2, [], v, 0⟩, M)) k w) := by
  have hu : True := by have := hs; have := hk; have := q1; have := q2; have := q3; have := hn; have := hM; have := hx; have := hxz; have := hx0; have := b0; have := hv; trivial
  clear hu
  have HAL : Hid (∀ o, Below w.heap.size w (w.alloc o)) := fun o => (Below.refl _ _).alloc (Nat.le_refl _) o
  have t1 : (((s[k]'hk).toNat : Int) == 40) = false := by rw [beq_eq_false_iff_ne]; omega
  have t2 : (((s[k]'hk).toNat : Int) == 41) = false := by rw [beq_eq_false_iff_ne]; omega
  have t3 : (((s[k]'hk).toNat : Int) == 34) = false := by rw [beq_eq_false_iff_ne]; omega
  have HNB := Lib.hid (fun W => nameByte_any (s[k]'hk) W)
  rw [hn] at HNB
  have hrun := fun W => run_any s k W (by omega) (by omega)
  rw [hM] at hrun
  have HRun := Lib.hid hrun
  have gM : M ≤ s.size - k := by
    have := LX.takeWhile_le LX.isNB (s.data.toList.drop k)
    rw [hM, List.length_drop] at this
    simpa using this
  have g8 : (k : Int) + (M : Int) ≤ (s.size : Int) := by omega
  have g9 : (0 : Int) ≤ (M : Int) := by omega
  have HDg := Lib.hid (fun c W => digit_any c W)
  have hd0 := fun W => digit_any (x[0]'hx0) W
  rw [b0] at hd0
  have HD0 := Lib.hid hd0
  clear hd0
  clear b0
  have hnum := fun W => refNumber_any x W (by omega) hx0
  rw [hv] at hnum
  have HNum : Hid (∀ W, Calls Tryz.prog 142 #[.string x] W fun e w' => e = .returned (.tuple #[.int .i64 v, .bool true]) ∧ W = w') := hnum
  have HP : Hid (∀ w', Below w.heap.size w w' → PostRW (some (⟨2, [], v, 0⟩, M)) k w (.returned (.tuple #[.agg #[.int .u8 2, .string ⟨#[]⟩, .int .i64 v, .int .i64 0], .int .i64 ((k : Int) + (M : Int)), .bool true])) w') := fun w' h => ⟨rfl, h⟩
  generalize PostRW (some (⟨2, [], v, 0⟩, M)) k w = post at HP ⊢
  clear hnum hv
  clear hrun hM q1 q2 q3 hn
  go_enter Tryz.func83, Tryz.ntmps83
  go_wp2_with (first
    | (go_at_call 139; (with_reducible refine (HNB.out _).mono ?_); rintro e w1 ⟨rfl, rfl⟩)
    | (go_at_call 140; (with_reducible refine (HRun.out _).mono ?_); rintro e w1 ⟨rfl, rfl⟩)
    | (go_at_call 141; (with_reducible refine (HD0.out _).mono ?_); rintro e w1 ⟨rfl, rfl⟩)
    | (go_at_call 142; (with_reducible refine (HNum.out _).mono ?_); rintro e w1 ⟨rfl, rfl⟩)
)
  refine bodyPost_ret (v := .tuple #[.agg #[.int .u8 2, .string ⟨#[]⟩, .int .i64 v, .int .i64 0], .int .i64 ((k : Int) + (M : Int)), .bool true]) (by simp [results, Tryz.results83, go_sem]) rfl (HP.out _ (HAL.out _))

set_option maxRecDepth 100000 in
set_option maxHeartbeats 8000000 in
theorem rw_num_d_none (s : ByteArray) (k : Nat) (w : World) (hs : s.size ≤ 65536) (hk : k < s.size) (q1 : ¬ (s[k]'hk).toNat = 40) (q2 : ¬ (s[k]'hk).toNat = 41) (q3 : ¬ (s[k]'hk).toNat = 34) (hn : LX.isNB (s[k]'hk) = true) (x : ByteArray) (M : Nat) (hM : ((s.data.toList.drop k).takeWhile LX.isNB).length = M) (hx : s.extract k (k + M) = x) (hxz : x.size = M) (hx0 : 0 < x.size) (b0 : LX.isDig (x[0]'hx0) = true) (hv : LX.numOf x.data.toList = none) :
    Calls Tryz.prog 83 #[.string s, .int .i64 k] w (PostRW (none) k w) := by
  have hu : True := by have := hs; have := hk; have := q1; have := q2; have := q3; have := hn; have := hM; have := hx; have := hxz; have := hx0; have := b0; have := hv; trivial
  clear hu
  have HAL : Hid (∀ o, Below w.heap.size w (w.alloc o)) := fun o => (Below.refl _ _).alloc (Nat.le_refl _) o
  have t1 : (((s[k]'hk).toNat : Int) == 40) = false := by rw [beq_eq_false_iff_ne]; omega
  have t2 : (((s[k]'hk).toNat : Int) == 41) = false := by rw [beq_eq_false_iff_ne]; omega
  have t3 : (((s[k]'hk).toNat : Int) == 34) = false := by rw [beq_eq_false_iff_ne]; omega
  have HNB := Lib.hid (fun W => nameByte_any (s[k]'hk) W)
  rw [hn] at HNB
  have hrun := fun W => run_any s k W (by omega) (by omega)
  rw [hM] at hrun
  have HRun := Lib.hid hrun
  have gM : M ≤ s.size - k := by
    have := LX.takeWhile_le LX.isNB (s.data.toList.drop k)
    rw [hM, List.length_drop] at this
    simpa using this
  have g8 : (k : Int) + (M : Int) ≤ (s.size : Int) := by omega
  have g9 : (0 : Int) ≤ (M : Int) := by omega
  have HDg := Lib.hid (fun c W => digit_any c W)
  have hd0 := fun W => digit_any (x[0]'hx0) W
  rw [b0] at hd0
  have HD0 := Lib.hid hd0
  clear hd0
  clear b0
  have hnum := fun W => refNumber_any x W (by omega) hx0
  rw [hv] at hnum
  have HNum : Hid (∀ W, Calls Tryz.prog 142 #[.string x] W fun e w' => (∃ v, e = .returned (.tuple #[.int .i64 v, .bool false])) ∧ W = w') := hnum
  have HP : Hid (∀ w' kk ss nn n, Below w.heap.size w w' → PostRW none k w (.returned (.tuple #[.agg #[.int .u8 kk, .string ss, .int .i64 nn, .int .i64 0], .int .i64 n, .bool false])) w') := fun w' kk ss nn n h => ⟨⟨_, _, _, _, rfl⟩, h⟩
  generalize PostRW none k w = post at HP ⊢
  clear hnum hv
  clear hrun hM q1 q2 q3 hn
  go_enter Tryz.func83, Tryz.ntmps83
  go_wp2_with (first
    | (go_at_call 139; (with_reducible refine (HNB.out _).mono ?_); rintro e w1 ⟨rfl, rfl⟩)
    | (go_at_call 140; (with_reducible refine (HRun.out _).mono ?_); rintro e w1 ⟨rfl, rfl⟩)
    | (go_at_call 141; (with_reducible refine (HD0.out _).mono ?_); rintro e w1 ⟨rfl, rfl⟩)
    | (go_at_call 142; (with_reducible refine (HNum.out _).mono ?_); rintro e w1 ⟨⟨v, rfl⟩, rfl⟩)
)
  refine bodyPost_ret (v := .tuple #[.agg #[.int .u8 2, .string ⟨#[]⟩, .int .i64 v, .int .i64 0], .int .i64 ((k : Int) + (M : Int)), .bool false]) (by simp [results, Tryz.results83, go_sem]) rfl (HP.out _ _ _ _ _ (HAL.out _))

set_option maxRecDepth 100000 in
set_option maxHeartbeats 8000000 in
theorem rw_num_md_some (s : ByteArray) (k : Nat) (w : World) (hs : s.size ≤ 65536) (hk : k < s.size) (q1 : ¬ (s[k]'hk).toNat = 40) (q2 : ¬ (s[k]'hk).toNat = 41) (q3 : ¬ (s[k]'hk).toNat = 34) (hn : LX.isNB (s[k]'hk) = true) (x : ByteArray) (M : Nat) (hM : ((s.data.toList.drop k).takeWhile LX.isNB).length = M) (hx : s.extract k (k + M) = x) (hxz : x.size = M) (hx0 : 0 < x.size) (b0 : LX.isDig (x[0]'hx0) = false) (b1 : (x[0]'hx0).toNat = 45) (hx1 : 1 < x.size) (b2 : LX.isDig (x[1]'hx1) = true) (v : Int) (hv : LX.numOf x.data.toList = some v) :
    Calls Tryz.prog 83 #[.string s, .int .i64 k] w (PostRW (some (⟨2, [], v, 0⟩, M)) k w) := by
  have hu : True := by have := hs; have := hk; have := q1; have := q2; have := q3; have := hn; have := hM; have := hx; have := hxz; have := hx0; have := b0; have := b1; have := hx1; have := b2; have := hv; trivial
  clear hu
  have HAL : Hid (∀ o, Below w.heap.size w (w.alloc o)) := fun o => (Below.refl _ _).alloc (Nat.le_refl _) o
  have t1 : (((s[k]'hk).toNat : Int) == 40) = false := by rw [beq_eq_false_iff_ne]; omega
  have t2 : (((s[k]'hk).toNat : Int) == 41) = false := by rw [beq_eq_false_iff_ne]; omega
  have t3 : (((s[k]'hk).toNat : Int) == 34) = false := by rw [beq_eq_false_iff_ne]; omega
  have HNB := Lib.hid (fun W => nameByte_any (s[k]'hk) W)
  rw [hn] at HNB
  have hrun := fun W => run_any s k W (by omega) (by omega)
  rw [hM] at hrun
  have HRun := Lib.hid hrun
  have gM : M ≤ s.size - k := by
    have := LX.takeWhile_le LX.isNB (s.data.toList.drop k)
    rw [hM, List.length_drop] at this
    simpa using this
  have g8 : (k : Int) + (M : Int) ≤ (s.size : Int) := by omega
  have g9 : (0 : Int) ≤ (M : Int) := by omega
  have HDg := Lib.hid (fun c W => digit_any c W)
  have hd0 := fun W => digit_any (x[0]'hx0) W
  rw [b0] at hd0
  have HD0 := Lib.hid hd0
  have hd1 := fun W => digit_any (x[1]'hx1) W
  rw [b2] at hd1
  have HD1 := Lib.hid hd1
  have t4 : (((x[0]'hx0).toNat : Int) == 45) = true := by rw [beq_iff_eq]; omega
  have g5 : (1 : Int) < (x.size : Int) := by omega
  clear hd0 hd1
  clear b0 b1 b2
  have hnum := fun W => refNumber_any x W (by omega) hx0
  rw [hv] at hnum
  have HNum : Hid (∀ W, Calls Tryz.prog 142 #[.string x] W fun e w' => e = .returned (.tuple #[.int .i64 v, .bool true]) ∧ W = w') := hnum
  have HP : Hid (∀ w', Below w.heap.size w w' → PostRW (some (⟨2, [], v, 0⟩, M)) k w (.returned (.tuple #[.agg #[.int .u8 2, .string ⟨#[]⟩, .int .i64 v, .int .i64 0], .int .i64 ((k : Int) + (M : Int)), .bool true])) w') := fun w' h => ⟨rfl, h⟩
  generalize PostRW (some (⟨2, [], v, 0⟩, M)) k w = post at HP ⊢
  clear hnum hv
  clear hrun hM q1 q2 q3 hn
  go_enter Tryz.func83, Tryz.ntmps83
  go_wp2_with (first
    | (go_at_call 139; (with_reducible refine (HNB.out _).mono ?_); rintro e w1 ⟨rfl, rfl⟩)
    | (go_at_call 140; (with_reducible refine (HRun.out _).mono ?_); rintro e w1 ⟨rfl, rfl⟩)
    | (go_at_call 141; (with_reducible refine (HD0.out _).mono ?_); rintro e w1 ⟨rfl, rfl⟩)
    | (go_at_call 141; (with_reducible refine (HD1.out _).mono ?_); rintro e w1 ⟨rfl, rfl⟩)
    | (go_at_call 142; (with_reducible refine (HNum.out _).mono ?_); rintro e w1 ⟨rfl, rfl⟩)
)
  refine bodyPost_ret (v := .tuple #[.agg #[.int .u8 2, .string ⟨#[]⟩, .int .i64 v, .int .i64 0], .int .i64 ((k : Int) + (M : Int)), .bool true]) (by simp [results, Tryz.results83, go_sem]) rfl (HP.out _ (HAL.out _))

set_option maxRecDepth 100000 in
set_option maxHeartbeats 8000000 in
theorem rw_num_md_none (s : ByteArray) (k : Nat) (w : World) (hs : s.size ≤ 65536) (hk : k < s.size) (q1 : ¬ (s[k]'hk).toNat = 40) (q2 : ¬ (s[k]'hk).toNat = 41) (q3 : ¬ (s[k]'hk).toNat = 34) (hn : LX.isNB (s[k]'hk) = true) (x : ByteArray) (M : Nat) (hM : ((s.data.toList.drop k).takeWhile LX.isNB).length = M) (hx : s.extract k (k + M) = x) (hxz : x.size = M) (hx0 : 0 < x.size) (b0 : LX.isDig (x[0]'hx0) = false) (b1 : (x[0]'hx0).toNat = 45) (hx1 : 1 < x.size) (b2 : LX.isDig (x[1]'hx1) = true) (hv : LX.numOf x.data.toList = none) :
    Calls Tryz.prog 83 #[.string s, .int .i64 k] w (PostRW (none) k w) := by
  have hu : True := by have := hs; have := hk; have := q1; have := q2; have := q3; have := hn; have := hM; have := hx; have := hxz; have := hx0; have := b0; have := b1; have := hx1; have := b2; have := hv; trivial
  clear hu
  have HAL : Hid (∀ o, Below w.heap.size w (w.alloc o)) := fun o => (Below.refl _ _).alloc (Nat.le_refl _) o
  have t1 : (((s[k]'hk).toNat : Int) == 40) = false := by rw [beq_eq_false_iff_ne]; omega
  have t2 : (((s[k]'hk).toNat : Int) == 41) = false := by rw [beq_eq_false_iff_ne]; omega
  have t3 : (((s[k]'hk).toNat : Int) == 34) = false := by rw [beq_eq_false_iff_ne]; omega
  have HNB := Lib.hid (fun W => nameByte_any (s[k]'hk) W)
  rw [hn] at HNB
  have hrun := fun W => run_any s k W (by omega) (by omega)
  rw [hM] at hrun
  have HRun := Lib.hid hrun
  have gM : M ≤ s.size - k := by
    have := LX.takeWhile_le LX.isNB (s.data.toList.drop k)
    rw [hM, List.length_drop] at this
    simpa using this
  have g8 : (k : Int) + (M : Int) ≤ (s.size : Int) := by omega
  have g9 : (0 : Int) ≤ (M : Int) := by omega
  have HDg := Lib.hid (fun c W => digit_any c W)
  have hd0 := fun W => digit_any (x[0]'hx0) W
  rw [b0] at hd0
  have HD0 := Lib.hid hd0
  have hd1 := fun W => digit_any (x[1]'hx1) W
  rw [b2] at hd1
  have HD1 := Lib.hid hd1
  have t4 : (((x[0]'hx0).toNat : Int) == 45) = true := by rw [beq_iff_eq]; omega
  have g5 : (1 : Int) < (x.size : Int) := by omega
  clear hd0 hd1
  clear b0 b1 b2
  have hnum := fun W => refNumber_any x W (by omega) hx0
  rw [hv] at hnum
  have HNum : Hid (∀ W, Calls Tryz.prog 142 #[.string x] W fun e w' => (∃ v, e = .returned (.tuple #[.int .i64 v, .bool false])) ∧ W = w') := hnum
  have HP : Hid (∀ w' kk ss nn n, Below w.heap.size w w' → PostRW none k w (.returned (.tuple #[.agg #[.int .u8 kk, .string ss, .int .i64 nn, .int .i64 0], .int .i64 n, .bool false])) w') := fun w' kk ss nn n h => ⟨⟨_, _, _, _, rfl⟩, h⟩
  generalize PostRW none k w = post at HP ⊢
  clear hnum hv
  clear hrun hM q1 q2 q3 hn
  go_enter Tryz.func83, Tryz.ntmps83
  go_wp2_with (first
    | (go_at_call 139; (with_reducible refine (HNB.out _).mono ?_); rintro e w1 ⟨rfl, rfl⟩)
    | (go_at_call 140; (with_reducible refine (HRun.out _).mono ?_); rintro e w1 ⟨rfl, rfl⟩)
    | (go_at_call 141; (with_reducible refine (HD0.out _).mono ?_); rintro e w1 ⟨rfl, rfl⟩)
    | (go_at_call 141; (with_reducible refine (HD1.out _).mono ?_); rintro e w1 ⟨rfl, rfl⟩)
    | (go_at_call 142; (with_reducible refine (HNum.out _).mono ?_); rintro e w1 ⟨⟨v, rfl⟩, rfl⟩)
)
  refine bodyPost_ret (v := .tuple #[.agg #[.int .u8 2, .string ⟨#[]⟩, .int .i64 v, .int .i64 0], .int .i64 ((k : Int) + (M : Int)), .bool false]) (by simp [results, Tryz.results83, go_sem]) rfl (HP.out _ _ _ _ _ (HAL.out _))

set_option maxRecDepth 100000 in
set_option maxHeartbeats 8000000 in
theorem rw_name_n (s : ByteArray) (k : Nat) (w : World) (hs : s.size ≤ 65536) (hk : k < s.size) (q1 : ¬ (s[k]'hk).toNat = 40) (q2 : ¬ (s[k]'hk).toNat = 41) (q3 : ¬ (s[k]'hk).toNat = 34) (hn : LX.isNB (s[k]'hk) = true) (x : ByteArray) (M : Nat) (hM : ((s.data.toList.drop k).takeWhile LX.isNB).length = M) (hx : s.extract k (k + M) = x) (hxz : x.size = M) (hx0 : 0 < x.size) (b0 : LX.isDig (x[0]'hx0) = false) (b1 : ¬ (x[0]'hx0).toNat = 45) (hv : x.size ≤ 4096) :
    Calls Tryz.prog 83 #[.string s, .int .i64 k] w (PostRW (some (⟨1, x.data.toList, 0, 0⟩, M)) k w) := by
  have hu : True := by have := hs; have := hk; have := q1; have := q2; have := q3; have := hn; have := hM; have := hx; have := hxz; have := hx0; have := b0; have := b1; have := hv; trivial
  clear hu
  have HAL : Hid (∀ o, Below w.heap.size w (w.alloc o)) := fun o => (Below.refl _ _).alloc (Nat.le_refl _) o
  have t1 : (((s[k]'hk).toNat : Int) == 40) = false := by rw [beq_eq_false_iff_ne]; omega
  have t2 : (((s[k]'hk).toNat : Int) == 41) = false := by rw [beq_eq_false_iff_ne]; omega
  have t3 : (((s[k]'hk).toNat : Int) == 34) = false := by rw [beq_eq_false_iff_ne]; omega
  have HNB := Lib.hid (fun W => nameByte_any (s[k]'hk) W)
  rw [hn] at HNB
  have hrun := fun W => run_any s k W (by omega) (by omega)
  rw [hM] at hrun
  have HRun := Lib.hid hrun
  have gM : M ≤ s.size - k := by
    have := LX.takeWhile_le LX.isNB (s.data.toList.drop k)
    rw [hM, List.length_drop] at this
    simpa using this
  have g8 : (k : Int) + (M : Int) ≤ (s.size : Int) := by omega
  have g9 : (0 : Int) ≤ (M : Int) := by omega
  have HDg := Lib.hid (fun c W => digit_any c W)
  have hd0 := fun W => digit_any (x[0]'hx0) W
  rw [b0] at hd0
  have HD0 := Lib.hid hd0
  have t4 : (((x[0]'hx0).toNat : Int) == 45) = false := by rw [beq_eq_false_iff_ne]; omega
  clear hd0
  clear b0 b1
  have g6 : decide ((M : Int) ≤ 4096) = true := by rw [decide_eq_true_eq]; omega
  have HP : Hid (∀ w', Below w.heap.size w w' → PostRW (some (⟨1, x.data.toList, 0, 0⟩, M)) k w (.returned (.tuple #[.agg #[.int .u8 1, .string x, .int .i64 0, .int .i64 0], .int .i64 ((k : Int) + (M : Int)), .bool true])) w') := fun w' h => ⟨rfl, h⟩
  generalize PostRW (some (⟨1, x.data.toList, 0, 0⟩, M)) k w = post at HP ⊢
  clear hv
  clear hrun hM q1 q2 q3 hn
  go_enter Tryz.func83, Tryz.ntmps83
  go_wp2_with (first
    | (go_at_call 139; (with_reducible refine (HNB.out _).mono ?_); rintro e w1 ⟨rfl, rfl⟩)
    | (go_at_call 140; (with_reducible refine (HRun.out _).mono ?_); rintro e w1 ⟨rfl, rfl⟩)
    | (go_at_call 141; (with_reducible refine (HD0.out _).mono ?_); rintro e w1 ⟨rfl, rfl⟩)
)
  refine bodyPost_ret (v := .tuple #[.agg #[.int .u8 1, .string x, .int .i64 0, .int .i64 0], .int .i64 ((k : Int) + (M : Int)), .bool true]) (by simp [results, Tryz.results83, go_sem]) rfl (HP.out _ (HAL.out _))

set_option maxRecDepth 100000 in
set_option maxHeartbeats 8000000 in
theorem rw_name_n_no (s : ByteArray) (k : Nat) (w : World) (hs : s.size ≤ 65536) (hk : k < s.size) (q1 : ¬ (s[k]'hk).toNat = 40) (q2 : ¬ (s[k]'hk).toNat = 41) (q3 : ¬ (s[k]'hk).toNat = 34) (hn : LX.isNB (s[k]'hk) = true) (x : ByteArray) (M : Nat) (hM : ((s.data.toList.drop k).takeWhile LX.isNB).length = M) (hx : s.extract k (k + M) = x) (hxz : x.size = M) (hx0 : 0 < x.size) (b0 : LX.isDig (x[0]'hx0) = false) (b1 : ¬ (x[0]'hx0).toNat = 45) (hv : ¬ x.size ≤ 4096) :
    Calls Tryz.prog 83 #[.string s, .int .i64 k] w (PostRW (none) k w) := by
  have hu : True := by have := hs; have := hk; have := q1; have := q2; have := q3; have := hn; have := hM; have := hx; have := hxz; have := hx0; have := b0; have := b1; have := hv; trivial
  clear hu
  have HAL : Hid (∀ o, Below w.heap.size w (w.alloc o)) := fun o => (Below.refl _ _).alloc (Nat.le_refl _) o
  have t1 : (((s[k]'hk).toNat : Int) == 40) = false := by rw [beq_eq_false_iff_ne]; omega
  have t2 : (((s[k]'hk).toNat : Int) == 41) = false := by rw [beq_eq_false_iff_ne]; omega
  have t3 : (((s[k]'hk).toNat : Int) == 34) = false := by rw [beq_eq_false_iff_ne]; omega
  have HNB := Lib.hid (fun W => nameByte_any (s[k]'hk) W)
  rw [hn] at HNB
  have hrun := fun W => run_any s k W (by omega) (by omega)
  rw [hM] at hrun
  have HRun := Lib.hid hrun
  have gM : M ≤ s.size - k := by
    have := LX.takeWhile_le LX.isNB (s.data.toList.drop k)
    rw [hM, List.length_drop] at this
    simpa using this
  have g8 : (k : Int) + (M : Int) ≤ (s.size : Int) := by omega
  have g9 : (0 : Int) ≤ (M : Int) := by omega
  have HDg := Lib.hid (fun c W => digit_any c W)
  have hd0 := fun W => digit_any (x[0]'hx0) W
  rw [b0] at hd0
  have HD0 := Lib.hid hd0
  have t4 : (((x[0]'hx0).toNat : Int) == 45) = false := by rw [beq_eq_false_iff_ne]; omega
  clear hd0
  clear b0 b1
  have g6 : decide ((M : Int) ≤ 4096) = false := by rw [decide_eq_false_iff_not]; omega
  have HP : Hid (∀ w' kk ss nn n, Below w.heap.size w w' → PostRW none k w (.returned (.tuple #[.agg #[.int .u8 kk, .string ss, .int .i64 nn, .int .i64 0], .int .i64 n, .bool false])) w') := fun w' kk ss nn n h => ⟨⟨_, _, _, _, rfl⟩, h⟩
  generalize PostRW none k w = post at HP ⊢
  clear hv
  clear hrun hM q1 q2 q3 hn
  go_enter Tryz.func83, Tryz.ntmps83
  go_wp2_with (first
    | (go_at_call 139; (with_reducible refine (HNB.out _).mono ?_); rintro e w1 ⟨rfl, rfl⟩)
    | (go_at_call 140; (with_reducible refine (HRun.out _).mono ?_); rintro e w1 ⟨rfl, rfl⟩)
    | (go_at_call 141; (with_reducible refine (HD0.out _).mono ?_); rintro e w1 ⟨rfl, rfl⟩)
)
  refine bodyPost_ret (v := .tuple #[.agg #[.int .u8 1, .string x, .int .i64 0, .int .i64 0], .int .i64 ((k : Int) + (M : Int)), .bool false]) (by simp [results, Tryz.results83, go_sem]) rfl (HP.out _ _ _ _ _ (HAL.out _))

set_option maxRecDepth 100000 in
set_option maxHeartbeats 8000000 in
theorem rw_name_m1 (s : ByteArray) (k : Nat) (w : World) (hs : s.size ≤ 65536) (hk : k < s.size) (q1 : ¬ (s[k]'hk).toNat = 40) (q2 : ¬ (s[k]'hk).toNat = 41) (q3 : ¬ (s[k]'hk).toNat = 34) (hn : LX.isNB (s[k]'hk) = true) (x : ByteArray) (M : Nat) (hM : ((s.data.toList.drop k).takeWhile LX.isNB).length = M) (hx : s.extract k (k + M) = x) (hxz : x.size = M) (hx0 : 0 < x.size) (b0 : LX.isDig (x[0]'hx0) = false) (b1 : (x[0]'hx0).toNat = 45) (hx1 : ¬ 1 < x.size) (hv : x.size ≤ 4096) :
    Calls Tryz.prog 83 #[.string s, .int .i64 k] w (PostRW (some (⟨1, x.data.toList, 0, 0⟩, M)) k w) := by
  have hu : True := by have := hs; have := hk; have := q1; have := q2; have := q3; have := hn; have := hM; have := hx; have := hxz; have := hx0; have := b0; have := b1; have := hx1; have := hv; trivial
  clear hu
  have HAL : Hid (∀ o, Below w.heap.size w (w.alloc o)) := fun o => (Below.refl _ _).alloc (Nat.le_refl _) o
  have t1 : (((s[k]'hk).toNat : Int) == 40) = false := by rw [beq_eq_false_iff_ne]; omega
  have t2 : (((s[k]'hk).toNat : Int) == 41) = false := by rw [beq_eq_false_iff_ne]; omega
  have t3 : (((s[k]'hk).toNat : Int) == 34) = false := by rw [beq_eq_false_iff_ne]; omega
  have HNB := Lib.hid (fun W => nameByte_any (s[k]'hk) W)
  rw [hn] at HNB
  have hrun := fun W => run_any s k W (by omega) (by omega)
  rw [hM] at hrun
  have HRun := Lib.hid hrun
  have gM : M ≤ s.size - k := by
    have := LX.takeWhile_le LX.isNB (s.data.toList.drop k)
    rw [hM, List.length_drop] at this
    simpa using this
  have g8 : (k : Int) + (M : Int) ≤ (s.size : Int) := by omega
  have g9 : (0 : Int) ≤ (M : Int) := by omega
  have HDg := Lib.hid (fun c W => digit_any c W)
  have hd0 := fun W => digit_any (x[0]'hx0) W
  rw [b0] at hd0
  have HD0 := Lib.hid hd0
  have t4 : (((x[0]'hx0).toNat : Int) == 45) = true := by rw [beq_iff_eq]; omega
  have g5 : ¬ (1 : Int) < (x.size : Int) := by omega
  clear hd0
  clear b0 b1
  have g6 : decide ((M : Int) ≤ 4096) = true := by rw [decide_eq_true_eq]; omega
  have HP : Hid (∀ w', Below w.heap.size w w' → PostRW (some (⟨1, x.data.toList, 0, 0⟩, M)) k w (.returned (.tuple #[.agg #[.int .u8 1, .string x, .int .i64 0, .int .i64 0], .int .i64 ((k : Int) + (M : Int)), .bool true])) w') := fun w' h => ⟨rfl, h⟩
  generalize PostRW (some (⟨1, x.data.toList, 0, 0⟩, M)) k w = post at HP ⊢
  clear hv
  clear hrun hM q1 q2 q3 hn
  go_enter Tryz.func83, Tryz.ntmps83
  go_wp2_with (first
    | (go_at_call 139; (with_reducible refine (HNB.out _).mono ?_); rintro e w1 ⟨rfl, rfl⟩)
    | (go_at_call 140; (with_reducible refine (HRun.out _).mono ?_); rintro e w1 ⟨rfl, rfl⟩)
    | (go_at_call 141; (with_reducible refine (HD0.out _).mono ?_); rintro e w1 ⟨rfl, rfl⟩)
)
  refine bodyPost_ret (v := .tuple #[.agg #[.int .u8 1, .string x, .int .i64 0, .int .i64 0], .int .i64 ((k : Int) + (M : Int)), .bool true]) (by simp [results, Tryz.results83, go_sem]) rfl (HP.out _ (HAL.out _))

set_option maxRecDepth 100000 in
set_option maxHeartbeats 8000000 in
theorem rw_name_m1_no (s : ByteArray) (k : Nat) (w : World) (hs : s.size ≤ 65536) (hk : k < s.size) (q1 : ¬ (s[k]'hk).toNat = 40) (q2 : ¬ (s[k]'hk).toNat = 41) (q3 : ¬ (s[k]'hk).toNat = 34) (hn : LX.isNB (s[k]'hk) = true) (x : ByteArray) (M : Nat) (hM : ((s.data.toList.drop k).takeWhile LX.isNB).length = M) (hx : s.extract k (k + M) = x) (hxz : x.size = M) (hx0 : 0 < x.size) (b0 : LX.isDig (x[0]'hx0) = false) (b1 : (x[0]'hx0).toNat = 45) (hx1 : ¬ 1 < x.size) (hv : ¬ x.size ≤ 4096) :
    Calls Tryz.prog 83 #[.string s, .int .i64 k] w (PostRW (none) k w) := by
  have hu : True := by have := hs; have := hk; have := q1; have := q2; have := q3; have := hn; have := hM; have := hx; have := hxz; have := hx0; have := b0; have := b1; have := hx1; have := hv; trivial
  clear hu
  have HAL : Hid (∀ o, Below w.heap.size w (w.alloc o)) := fun o => (Below.refl _ _).alloc (Nat.le_refl _) o
  have t1 : (((s[k]'hk).toNat : Int) == 40) = false := by rw [beq_eq_false_iff_ne]; omega
  have t2 : (((s[k]'hk).toNat : Int) == 41) = false := by rw [beq_eq_false_iff_ne]; omega
  have t3 : (((s[k]'hk).toNat : Int) == 34) = false := by rw [beq_eq_false_iff_ne]; omega
  have HNB := Lib.hid (fun W => nameByte_any (s[k]'hk) W)
  rw [hn] at HNB
  have hrun := fun W => run_any s k W (by omega) (by omega)
  rw [hM] at hrun
  have HRun := Lib.hid hrun
  have gM : M ≤ s.size - k := by
    have := LX.takeWhile_le LX.isNB (s.data.toList.drop k)
    rw [hM, List.length_drop] at this
    simpa using this
  have g8 : (k : Int) + (M : Int) ≤ (s.size : Int) := by omega
  have g9 : (0 : Int) ≤ (M : Int) := by omega
  have HDg := Lib.hid (fun c W => digit_any c W)
  have hd0 := fun W => digit_any (x[0]'hx0) W
  rw [b0] at hd0
  have HD0 := Lib.hid hd0
  have t4 : (((x[0]'hx0).toNat : Int) == 45) = true := by rw [beq_iff_eq]; omega
  have g5 : ¬ (1 : Int) < (x.size : Int) := by omega
  clear hd0
  clear b0 b1
  have g6 : decide ((M : Int) ≤ 4096) = false := by rw [decide_eq_false_iff_not]; omega
  have HP : Hid (∀ w' kk ss nn n, Below w.heap.size w w' → PostRW none k w (.returned (.tuple #[.agg #[.int .u8 kk, .string ss, .int .i64 nn, .int .i64 0], .int .i64 n, .bool false])) w') := fun w' kk ss nn n h => ⟨⟨_, _, _, _, rfl⟩, h⟩
  generalize PostRW none k w = post at HP ⊢
  clear hv
  clear hrun hM q1 q2 q3 hn
  go_enter Tryz.func83, Tryz.ntmps83
  go_wp2_with (first
    | (go_at_call 139; (with_reducible refine (HNB.out _).mono ?_); rintro e w1 ⟨rfl, rfl⟩)
    | (go_at_call 140; (with_reducible refine (HRun.out _).mono ?_); rintro e w1 ⟨rfl, rfl⟩)
    | (go_at_call 141; (with_reducible refine (HD0.out _).mono ?_); rintro e w1 ⟨rfl, rfl⟩)
)
  refine bodyPost_ret (v := .tuple #[.agg #[.int .u8 1, .string x, .int .i64 0, .int .i64 0], .int .i64 ((k : Int) + (M : Int)), .bool false]) (by simp [results, Tryz.results83, go_sem]) rfl (HP.out _ _ _ _ _ (HAL.out _))

set_option maxRecDepth 100000 in
set_option maxHeartbeats 8000000 in
theorem rw_name_mn (s : ByteArray) (k : Nat) (w : World) (hs : s.size ≤ 65536) (hk : k < s.size) (q1 : ¬ (s[k]'hk).toNat = 40) (q2 : ¬ (s[k]'hk).toNat = 41) (q3 : ¬ (s[k]'hk).toNat = 34) (hn : LX.isNB (s[k]'hk) = true) (x : ByteArray) (M : Nat) (hM : ((s.data.toList.drop k).takeWhile LX.isNB).length = M) (hx : s.extract k (k + M) = x) (hxz : x.size = M) (hx0 : 0 < x.size) (b0 : LX.isDig (x[0]'hx0) = false) (b1 : (x[0]'hx0).toNat = 45) (hx1 : 1 < x.size) (b2 : LX.isDig (x[1]'hx1) = false) (hv : x.size ≤ 4096) :
    Calls Tryz.prog 83 #[.string s, .int .i64 k] w (PostRW (some (⟨1, x.data.toList, 0, 0⟩, M)) k w) := by
  have hu : True := by have := hs; have := hk; have := q1; have := q2; have := q3; have := hn; have := hM; have := hx; have := hxz; have := hx0; have := b0; have := b1; have := hx1; have := b2; have := hv; trivial
  clear hu
  have HAL : Hid (∀ o, Below w.heap.size w (w.alloc o)) := fun o => (Below.refl _ _).alloc (Nat.le_refl _) o
  have t1 : (((s[k]'hk).toNat : Int) == 40) = false := by rw [beq_eq_false_iff_ne]; omega
  have t2 : (((s[k]'hk).toNat : Int) == 41) = false := by rw [beq_eq_false_iff_ne]; omega
  have t3 : (((s[k]'hk).toNat : Int) == 34) = false := by rw [beq_eq_false_iff_ne]; omega
  have HNB := Lib.hid (fun W => nameByte_any (s[k]'hk) W)
  rw [hn] at HNB
  have hrun := fun W => run_any s k W (by omega) (by omega)
  rw [hM] at hrun
  have HRun := Lib.hid hrun
  have gM : M ≤ s.size - k := by
    have := LX.takeWhile_le LX.isNB (s.data.toList.drop k)
    rw [hM, List.length_drop] at this
    simpa using this
  have g8 : (k : Int) + (M : Int) ≤ (s.size : Int) := by omega
  have g9 : (0 : Int) ≤ (M : Int) := by omega
  have HDg := Lib.hid (fun c W => digit_any c W)
  have hd0 := fun W => digit_any (x[0]'hx0) W
  rw [b0] at hd0
  have HD0 := Lib.hid hd0
  have hd1 := fun W => digit_any (x[1]'hx1) W
  rw [b2] at hd1
  have HD1 := Lib.hid hd1
  have t4 : (((x[0]'hx0).toNat : Int) == 45) = true := by rw [beq_iff_eq]; omega
  have g5 : (1 : Int) < (x.size : Int) := by omega
  clear hd0 hd1
  clear b0 b1 b2
  have g6 : decide ((M : Int) ≤ 4096) = true := by rw [decide_eq_true_eq]; omega
  have HP : Hid (∀ w', Below w.heap.size w w' → PostRW (some (⟨1, x.data.toList, 0, 0⟩, M)) k w (.returned (.tuple #[.agg #[.int .u8 1, .string x, .int .i64 0, .int .i64 0], .int .i64 ((k : Int) + (M : Int)), .bool true])) w') := fun w' h => ⟨rfl, h⟩
  generalize PostRW (some (⟨1, x.data.toList, 0, 0⟩, M)) k w = post at HP ⊢
  clear hv
  clear hrun hM q1 q2 q3 hn
  go_enter Tryz.func83, Tryz.ntmps83
  go_wp2_with (first
    | (go_at_call 139; (with_reducible refine (HNB.out _).mono ?_); rintro e w1 ⟨rfl, rfl⟩)
    | (go_at_call 140; (with_reducible refine (HRun.out _).mono ?_); rintro e w1 ⟨rfl, rfl⟩)
    | (go_at_call 141; (with_reducible refine (HD0.out _).mono ?_); rintro e w1 ⟨rfl, rfl⟩)
    | (go_at_call 141; (with_reducible refine (HD1.out _).mono ?_); rintro e w1 ⟨rfl, rfl⟩)
)
  refine bodyPost_ret (v := .tuple #[.agg #[.int .u8 1, .string x, .int .i64 0, .int .i64 0], .int .i64 ((k : Int) + (M : Int)), .bool true]) (by simp [results, Tryz.results83, go_sem]) rfl (HP.out _ (HAL.out _))

set_option maxRecDepth 100000 in
set_option maxHeartbeats 8000000 in
theorem rw_name_mn_no (s : ByteArray) (k : Nat) (w : World) (hs : s.size ≤ 65536) (hk : k < s.size) (q1 : ¬ (s[k]'hk).toNat = 40) (q2 : ¬ (s[k]'hk).toNat = 41) (q3 : ¬ (s[k]'hk).toNat = 34) (hn : LX.isNB (s[k]'hk) = true) (x : ByteArray) (M : Nat) (hM : ((s.data.toList.drop k).takeWhile LX.isNB).length = M) (hx : s.extract k (k + M) = x) (hxz : x.size = M) (hx0 : 0 < x.size) (b0 : LX.isDig (x[0]'hx0) = false) (b1 : (x[0]'hx0).toNat = 45) (hx1 : 1 < x.size) (b2 : LX.isDig (x[1]'hx1) = false) (hv : ¬ x.size ≤ 4096) :
    Calls Tryz.prog 83 #[.string s, .int .i64 k] w (PostRW (none) k w) := by
  have hu : True := by have := hs; have := hk; have := q1; have := q2; have := q3; have := hn; have := hM; have := hx; have := hxz; have := hx0; have := b0; have := b1; have := hx1; have := b2; have := hv; trivial
  clear hu
  have HAL : Hid (∀ o, Below w.heap.size w (w.alloc o)) := fun o => (Below.refl _ _).alloc (Nat.le_refl _) o
  have t1 : (((s[k]'hk).toNat : Int) == 40) = false := by rw [beq_eq_false_iff_ne]; omega
  have t2 : (((s[k]'hk).toNat : Int) == 41) = false := by rw [beq_eq_false_iff_ne]; omega
  have t3 : (((s[k]'hk).toNat : Int) == 34) = false := by rw [beq_eq_false_iff_ne]; omega
  have HNB := Lib.hid (fun W => nameByte_any (s[k]'hk) W)
  rw [hn] at HNB
  have hrun := fun W => run_any s k W (by omega) (by omega)
  rw [hM] at hrun
  have HRun := Lib.hid hrun
  have gM : M ≤ s.size - k := by
    have := LX.takeWhile_le LX.isNB (s.data.toList.drop k)
    rw [hM, List.length_drop] at this
    simpa using this
  have g8 : (k : Int) + (M : Int) ≤ (s.size : Int) := by omega
  have g9 : (0 : Int) ≤ (M : Int) := by omega
  have HDg := Lib.hid (fun c W => digit_any c W)
  have hd0 := fun W => digit_any (x[0]'hx0) W
  rw [b0] at hd0
  have HD0 := Lib.hid hd0
  have hd1 := fun W => digit_any (x[1]'hx1) W
  rw [b2] at hd1
  have HD1 := Lib.hid hd1
  have t4 : (((x[0]'hx0).toNat : Int) == 45) = true := by rw [beq_iff_eq]; omega
  have g5 : (1 : Int) < (x.size : Int) := by omega
  clear hd0 hd1
  clear b0 b1 b2
  have g6 : decide ((M : Int) ≤ 4096) = false := by rw [decide_eq_false_iff_not]; omega
  have HP : Hid (∀ w' kk ss nn n, Below w.heap.size w w' → PostRW none k w (.returned (.tuple #[.agg #[.int .u8 kk, .string ss, .int .i64 nn, .int .i64 0], .int .i64 n, .bool false])) w') := fun w' kk ss nn n h => ⟨⟨_, _, _, _, rfl⟩, h⟩
  generalize PostRW none k w = post at HP ⊢
  clear hv
  clear hrun hM q1 q2 q3 hn
  go_enter Tryz.func83, Tryz.ntmps83
  go_wp2_with (first
    | (go_at_call 139; (with_reducible refine (HNB.out _).mono ?_); rintro e w1 ⟨rfl, rfl⟩)
    | (go_at_call 140; (with_reducible refine (HRun.out _).mono ?_); rintro e w1 ⟨rfl, rfl⟩)
    | (go_at_call 141; (with_reducible refine (HD0.out _).mono ?_); rintro e w1 ⟨rfl, rfl⟩)
    | (go_at_call 141; (with_reducible refine (HD1.out _).mono ?_); rintro e w1 ⟨rfl, rfl⟩)
)
  refine bodyPost_ret (v := .tuple #[.agg #[.int .u8 1, .string x, .int .i64 0, .int .i64 0], .int .i64 ((k : Int) + (M : Int)), .bool false]) (by simp [results, Tryz.results83, go_sem]) rfl (HP.out _ _ _ _ _ (HAL.out _))

theorem word_res (l : List UInt8) (c : UInt8) (t : List UInt8) (hl : l = c :: t) (h40 : ¬ c.toNat = 40) (h41 : ¬ c.toNat = 41) (h34 : ¬ c.toNat = 34) (hn : LX.isNB c = true) : LX.word l = nbW l := by
  subst hl
  simp only [LX.word, h40, h41, h34, if_false, hn, if_true]
  rfl
/-- The document's word, at any place within the text. -/
theorem rword_any (s : ByteArray) (k : Nat) (w : World) (hs : s.size ≤ 65536) (hk : k < s.size) :
    Calls Tryz.prog 83 #[.string s, .int .i64 k] w (PostRW (LX.word (s.data.toList.drop k)) k w) := by
  have hl := drop_cons s k hk
  by_cases h40 : (s[k]'hk).toNat = 40
  · rw [show LX.word (s.data.toList.drop k) = some (⟨4, [], 0, 0⟩, 1) by rw [hl]; simp only [LX.word, h40, if_true]]
    exact rw_40 s k w hs hk h40
  by_cases h41 : (s[k]'hk).toNat = 41
  · rw [show LX.word (s.data.toList.drop k) = some (⟨5, [], 0, 0⟩, 1) by rw [hl]; simp only [LX.word, h41]; rfl]
    exact rw_41 s k w hs hk h41
  by_cases h34 : (s[k]'hk).toNat = 34
  · rw [show LX.word (s.data.toList.drop k) = txtW (s.data.toList.drop (k + 1)) by rw [hl]; simp only [LX.word, h34]; rfl]
    exact rw_34 s k w hs hk h34
  cases hn : LX.isNB (s[k]'hk)
  · rw [show LX.word (s.data.toList.drop k) = none by rw [hl]; simp only [LX.word, h40, h41, h34, if_false, hn]; rfl]
    exact rw_no s k w hs hk h40 h41 h34 hn
  · rw [word_res _ _ _ hl h40 h41 h34 hn]
    obtain ⟨M, hM⟩ : ∃ M, ((s.data.toList.drop k).takeWhile LX.isNB).length = M := ⟨_, rfl⟩
    obtain ⟨x, hx⟩ : ∃ x, s.extract k (k + M) = x := ⟨_, rfl⟩
    have hxl : x.data.toList = (s.data.toList.drop k).takeWhile LX.isNB := by rw [← hx, extr_list, ← hM, LX.take_takeWhile]
    have hxz : x.size = M := by
      have : x.data.toList.length = x.size := by simp
      rw [← this, hxl, hM]
    have hx0 : 0 < x.size := by
      rw [hxz, ← hM, hl, List.takeWhile_cons, hn]; simp
    have hbg := begNum_at x hx0
    unfold nbW
    rw [hM, ← hxl, hbg]
    cases b0 : LX.isDig (x[0]'hx0)
    · by_cases b1 : (x[0]'hx0).toNat = 45
      · by_cases hx1 : 1 < x.size
        · cases b2 : LX.isDig (x[1]'hx1)
          · rw [dif_pos hx1, b2, if_neg (by simp)]
            by_cases hv : x.size ≤ 4096
            · rw [hxz] at hv
              rw [if_pos hv]
              exact rw_name_mn s k w hs hk h40 h41 h34 hn x M hM hx hxz hx0 b0 b1 hx1 b2 (by omega)
            · rw [hxz] at hv
              rw [if_neg hv]
              exact rw_name_mn_no s k w hs hk h40 h41 h34 hn x M hM hx hxz hx0 b0 b1 hx1 b2 (by omega)
          · rw [dif_pos hx1, b2, if_pos (by simp [b1])]
            cases hv : LX.numOf x.data.toList with
            | some v => exact rw_num_md_some s k w hs hk h40 h41 h34 hn x M hM hx hxz hx0 b0 b1 hx1 b2 v hv
            | none => exact rw_num_md_none s k w hs hk h40 h41 h34 hn x M hM hx hxz hx0 b0 b1 hx1 b2 hv
        · rw [dif_neg hx1, if_neg (by simp)]
          by_cases hv : x.size ≤ 4096
          · rw [hxz] at hv
            rw [if_pos hv]
            exact rw_name_m1 s k w hs hk h40 h41 h34 hn x M hM hx hxz hx0 b0 b1 hx1 (by omega)
          · rw [hxz] at hv
            rw [if_neg hv]
            exact rw_name_m1_no s k w hs hk h40 h41 h34 hn x M hM hx hxz hx0 b0 b1 hx1 (by omega)
      · rw [if_neg (by simp [b1])]
        by_cases hv : x.size ≤ 4096
        · rw [hxz] at hv
          rw [if_pos hv]
          exact rw_name_n s k w hs hk h40 h41 h34 hn x M hM hx hxz hx0 b0 b1 (by omega)
        · rw [hxz] at hv
          rw [if_neg hv]
          exact rw_name_n_no s k w hs hk h40 h41 h34 hn x M hM hx hxz hx0 b0 b1 (by omega)
    · rw [if_pos (by simp)]
      cases hv : LX.numOf x.data.toList with
      | some v => exact rw_num_d_some s k w hs hk h40 h41 h34 hn x M hM hx hxz hx0 b0 v hv
      | none => exact rw_num_d_none s k w hs hk h40 h41 h34 hn x M hM hx hxz hx0 b0 hv
end Go.Proofs.YtpnbnomaaeoemaaGreatDoor
