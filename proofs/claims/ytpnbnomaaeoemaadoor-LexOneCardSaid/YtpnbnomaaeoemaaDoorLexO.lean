/-
  Walks: LexOne returns true; old memory is as it was.
  Conditions: the package's variables hold what the program's text lays in them; the text is no longer than the reach.
-/
import Derived.Test.YtpnbnomaaeoemaaDoorLexD
namespace Go.Proofs.YtpnbnomaaeoemaaDoor
open Go.RowKit

theorem below_drewN {B : Nat} {w W : World} {m : Nat} (h : Below B w W) : Below B w (W.drewN m) := ⟨h.os, h.tape, h.output, h.size, h.block⟩
def aheadL : Nat → List UInt8
  | 0 => [59, 32, 115, 111, 32, 40, 105, 116, 41, 32, 34, 105, 115, 34, 10]
  | k + 1 => aheadL k ++ [9, 32, 10]
theorem aheadL_length (k : Nat) : (aheadL k).length = 15 + 3 * k := by
  induction k with
  | zero => rfl
  | succ k ih => simp only [aheadL, List.length_append, ih, List.length_cons, List.length_nil]; omega
theorem lex_ahead (k : Nat) (r : List UInt8) : LX.lex 0 (aheadL k ++ r) = LX.lex (k + 1) r := by
  induction k generalizing r with
  | zero =>
    show LX.lex 0 (59 :: ([32, 115, 111, 32, 40, 105, 116, 41, 32, 34, 105, 115, 34] ++ 10 :: r)) = _
    rw [LX.lex_rem 0 59 _ (by decide), LX.dropWhile_nl]
    show LX.lex 0 (10 :: r) = _
    rw [LX.lex_nl 0 10 _ (by decide)]
  | succ k ih =>
    rw [aheadL, List.append_assoc, ih]
    show LX.lex (k + 1) (9 :: 32 :: 10 :: r) = _
    rw [LX.lex_blank _ 9 _ (by decide), LX.lex_blank _ 32 _ (by decide), LX.lex_nl _ 10 _ (by decide)]
def wantO (n : Int) (s : List UInt8) (k : Nat) : List LX.LW := [⟨2, [], n, k⟩, ⟨3, s, 0, k⟩, ⟨4, [], 0, k⟩, ⟨2, [], n, k⟩]
theorem lex_one (n : Int) (s : List UInt8) (k : Nat) (h1 : -9223372036854775808 ≤ n) (h2 : n ≤ 9223372036854775807) (hs : s.length ≤ 4096) :
    LX.lex 0 (aheadL k ++ (Lib.itoa n ++ (LX.quotedL s ++ 40 :: (Lib.itoa n ++ [59])))) = .ok (wantO n s (k + 1)) := by
  have w1 : LX.OkW ⟨2, [], n, 0⟩ := .inr (.inr (.inr (.inl ⟨rfl, rfl, h1, by show n < _; omega⟩)))
  have w2 : LX.OkW ⟨3, s, 0, 0⟩ := .inr (.inr (.inl ⟨rfl, rfl, hs⟩))
  have e1 := LX.lex_told (k + 1) w1 (LX.quotedL s ++ 40 :: (Lib.itoa n ++ [59])) (by intro c t h; simp [LX.quotedL] at h; rw [← h.1]; rfl)
  have e2 := LX.lex_told (k + 1) w2 (40 :: (Lib.itoa n ++ [59])) (by intro c t h; simp at h; rw [← h.1]; rfl)
  have e4 := LX.lex_told (k + 1) w1 [59] (by intro c t h; simp at h; rw [← h.1]; rfl)
  have e3 : LX.lex (k + 1) (40 :: (Lib.itoa n ++ [59])) = (LX.lex (k + 1) (Lib.itoa n ++ [59])).cons ⟨4, [], 0, k + 1⟩ := LX.lex_word (k + 1) 40 _ ⟨4, [], 0, 0⟩ 1 (by decide) rfl
  have e5 : LX.lex (k + 1) [59] = .ok [] := by rw [LX.lex_rem _ 59 _ (by decide)]; rfl
  rw [lex_ahead]
  have f1 : LX.toldW ⟨2, [], n, 0⟩ = Lib.itoa n := rfl
  have f2 : LX.toldW ⟨3, s, 0, 0⟩ = LX.quotedL s := rfl
  rw [f1] at e1 e4
  rw [f2] at e2
  rw [e1, e2, e3, e4, e5]
  rfl

set_option maxRecDepth 100000 in
set_option maxHeartbeats 8000000 in
theorem one_big (n : Int) (s : ByteArray) (L : Int) (w : World) (ht : LTabs w) (hr : s.size ≤ 140737488355328) (hs : 4096 < s.size) :
    Calls Tryd.prog 4 #[.int .i64 n, .string s, .int .u8 L] w fun e w' => e = .returned (.bool true) ∧ Below w.heap.size w w' := by
  have H1 := Lib.hid (alive_any w ht)
  have H2 := Lib.hid (fun W (h : Below w.heap.size w W) => alive_any W (ht.below h ht.gb))
  have HT : Hid (∀ W W', Below w.heap.size w W → Below W.heap.size W W' → Below w.heap.size w W') := fun W W' h k => h.trans (k.mono h.size)
  have g2 : (s.size : Int) ≤ 140737488355328 := by omega
  have g5 : (4096 : Int) < (s.size : Int) := by omega
  clear ht hs hr
  go_enter Tryd.func4, Tryd.ntmps4
  go_wp2_with fail
  refine H1.out.mono ?_
  rintro e w1 ⟨rfl, hb1⟩
  have HB := Lib.hid hb1
  clear hb1
  go_wp2_with fail
  refine (H2.out _ HB.out).mono ?_
  rintro e w2 ⟨rfl, hb2⟩
  have HC := Lib.hid (HT.out _ _ HB.out hb2)
  clear hb2
  go_wp2
  go_ret
  exact ⟨rfl, HC.out⟩

set_option maxRecDepth 100000 in
set_option maxHeartbeats 8000000 in
theorem one_small (n : Int) (s : ByteArray) (L : Nat) (w : World) (ht : LTabs w) (h1 : -9223372036854775808 ≤ n) (h2 : n ≤ 9223372036854775807) (hL : L ≤ 255) (hs : s.size ≤ 4096) :
    Calls Tryd.prog 4 #[.int .i64 n, .string s, .int .u8 L] w fun e w' => e = .returned (.bool true) ∧ Below w.heap.size w w' := by
  have HAl := Lib.hid (alive_any w ht)
  have HT : Hid (∀ W W', Below w.heap.size w W → Below W.heap.size W W' → Below w.heap.size w W') := fun W W' h k => h.trans (k.mono h.size)
  have HDg := Lib.hid (fun W => digits_any n W h1 h2)
  have HQu := Lib.hid (fun W => quoted_any s W (by omega))
  obtain ⟨dn, hdn⟩ : ∃ x, (⟨(Lib.itoa n).toArray⟩ : ByteArray) = x := ⟨_, rfl⟩
  obtain ⟨qs, hqs⟩ : ∃ x, (⟨(LX.quotedL s.data.toList).toArray⟩ : ByteArray) = x := ⟨_, rfl⟩
  have ld : dn.data.toList = Lib.itoa n := by rw [← hdn]
  have lq : qs.data.toList = LX.quotedL s.data.toList := by rw [← hqs]
  have zs : s.data.toList.length = s.size := by simp
  have zd : dn.size ≤ 20 := by
    have := LX.itoa_len n h1 (by omega)
    have h3 : dn.data.toList.length = dn.size := by simp
    rw [ld] at h3; omega
  have zq : qs.size ≤ 8194 := by
    have h3 : qs.data.toList.length = qs.size := by simp
    have h4 := esc_length s.data.toList
    rw [lq, LX.quotedL, esc_flat, List.length_cons, List.length_append] at h3
    simp only [List.length_singleton] at h3
    omega
  obtain ⟨x0, hx0⟩ : ∃ x : ByteArray, x.data.toList = aheadL L ∧ x.size = 15 + 3 * L := ⟨⟨(aheadL L).toArray⟩, rfl, by show (aheadL L).toArray.size = _; simp [aheadL_length]⟩
  obtain ⟨y1, hy1⟩ : ∃ x, x0 ++ dn = x := ⟨_, rfl⟩
  obtain ⟨y2, hy2⟩ : ∃ x, y1 ++ qs = x := ⟨_, rfl⟩
  obtain ⟨y3, hy3⟩ : ∃ x, y2 ++ (⟨#[40]⟩ : ByteArray) = x := ⟨_, rfl⟩
  obtain ⟨y4, hy4⟩ : ∃ x, y3 ++ dn = x := ⟨_, rfl⟩
  obtain ⟨y5, hy5⟩ : ∃ x, y4 ++ (⟨#[59]⟩ : ByteArray) = x := ⟨_, rfl⟩
  have hsz : ∀ a b : ByteArray, (a ++ b).size = a.size + b.size := fun a b => by
    have h1 := congrArg List.length (cat_lst a b)
    have k1 : (a ++ b).data.toList.length = (a ++ b).size := by simp
    have k2 : a.data.toList.length = a.size := by simp
    have k3 : b.data.toList.length = b.size := by simp
    rw [List.length_append] at h1; omega
  have z1 : y1.size = x0.size + dn.size := by rw [← hy1, hsz]
  have z2 : y2.size = y1.size + qs.size := by rw [← hy2, hsz]
  have z3 : y3.size = y2.size + 1 := by rw [← hy3, hsz]; rfl
  have z4 : y4.size = y3.size + dn.size := by rw [← hy4, hsz]
  have z5 : y5.size = y4.size + 1 := by rw [← hy5, hsz]; rfl
  have l5 : y5.data.toList = aheadL L ++ (Lib.itoa n ++ (LX.quotedL s.data.toList ++ 40 :: (Lib.itoa n ++ [59]))) := by
    rw [← hy5, cat_lst, ← hy4, cat_lst, ← hy3, cat_lst, ← hy2, cat_lst, ← hy1, cat_lst, hx0.1, ld, lq]
    simp
  have hw := fun W (h : Below w.heap.size w W) => words_any y5 W (by omega) (ht.below h ht.gb)
  rw [l5, lex_one n s.data.toList L h1 h2 (by omega)] at hw
  have hw2 : ∀ W, Below w.heap.size w W → Calls Tryd.prog 6 #[.string y5] W fun e w' => ∃ v, e = .returned (.tuple #[v, .int .i64 0, .int .i64 0]) ∧ Wds w' v (wantO n s.data.toList (L + 1)) ∧ Below W.heap.size W w' := fun W h =>
    (hw W h).mono fun e w' hp => by
      obtain ⟨⟨v, he, ho⟩, hb⟩ := hp
      exact ⟨v, he, Wds.of_own ho, hb⟩
  have HWd := Lib.hid hw2
  have hwn : ∀ W : World, Wds (W.alloc (.cells #[.int .u8 2, .string ⟨#[]⟩, .int .i64 n, .int .i64 ((L : Int) + 1), .int .u8 3, .string s, .int .i64 0, .int .i64 ((L : Int) + 1), .int .u8 4, .string ⟨#[]⟩, .int .i64 0, .int .i64 ((L : Int) + 1), .int .u8 2, .string ⟨#[]⟩, .int .i64 n, .int .i64 ((L : Int) + 1)] 30)) (.slice (some ⟨W.heap.size, 0, none⟩) 4 4) (wantO n s.data.toList (L + 1)) := fun W => wds_new W (wantO n s.data.toList (L + 1)) (by unfold maxLen; simp [wantO])
  have HWn := Lib.hid hwn
  have HSM := Lib.hid (fun v1 v2 W k1 k2 => same_words v1 v2 (wantO n s.data.toList (L + 1)) W k1 k2)
  have K1 : ∀ W, (Op.stringOp .add x0 dn).run Tryd.prog W = .ok (.string y1) W := fun W => by rw [← hy1]; exact run_string_add_sum W _ _ (by omega)
  have K2' : ∀ W, (Op.stringOp .add y1 qs).run Tryd.prog W = .ok (.string y2) W := fun W => by rw [← hy2]; exact run_string_add_sum W _ _ (by omega)
  have K3 : ∀ W, (Op.stringOp .add y2 ⟨#[40]⟩).run Tryd.prog W = .ok (.string y3) W := fun W => by rw [← hy3]; exact run_string_add_sum W _ _ (by show _ + 1 ≤ _; omega)
  have K4 : ∀ W, (Op.stringOp .add y3 dn).run Tryd.prog W = .ok (.string y4) W := fun W => by rw [← hy4]; exact run_string_add_sum W _ _ (by omega)
  have K5 : ∀ W, (Op.stringOp .add y4 ⟨#[59]⟩).run Tryd.prog W = .ok (.string y5) W := fun W => by rw [← hy5]; exact run_string_add_sum W _ _ (by show _ + 1 ≤ _; omega)
  rw [hdn] at HDg
  rw [hqs] at HQu
  have HX0 := Lib.hid hx0
  have HZ := Lib.hid hsz
  have g2 : (0 : Int) ≤ (s.size : Int) := by omega
  have g5 : ¬ (4096 : Int) < (s.size : Int) := by omega
  have g6 : (0 : Int) ≤ (L : Int) := by omega
  have g7 : (L : Int) ≤ 255 := by omega
  clear ht hs hdn hqs ld lq zs zd zq hy1 hy2 hy3 hy4 hy5 hsz z1 z2 z3 z4 z5 l5 hw hw2 hx0 hwn
  go_enter Tryd.func4, Tryd.ntmps4
  go_wp2_with fail
  refine HAl.out.mono ?_
  rintro e w1 ⟨rfl, hb1⟩
  have HB1 := Lib.hid hb1
  clear hb1 HAl
  go_wp2_with fail
  go_loop [7, 8] (fun v i => ∃ (k : Nat) (x : ByteArray), k ≤ L ∧ i = .int .i64 k ∧ v = .string x ∧ x.data.toList = aheadL k ∧ x.size = 15 + 3 * k) (fun _ i => L - (intOf i).toNat)
  case atStart => exact ⟨0, _, Nat.zero_le _, rfl, rfl, rfl, rfl⟩
  case round =>
    obtain ⟨k, x, hk, rfl, rfl, hxl, hxz⟩ := hrel
    by_cases hlt : k < L
    · obtain ⟨y, hy⟩ : ∃ y, x ++ (⟨#[9, 32, 10]⟩ : ByteArray) = y := ⟨_, rfl⟩
      have KY : ∀ W, (Op.stringOp .add x ⟨#[9, 32, 10]⟩).run Tryd.prog W = .ok (.string y) W := fun W => by rw [← hy]; exact run_string_add_sum W _ _ (by show _ + 3 ≤ _; omega)
      have HYL : Hid (y.data.toList = aheadL (k + 1) ∧ y.size = 15 + 3 * (k + 1)) := by
        rw [← hy]
        exact ⟨by rw [cat_lst, hxl]; rfl, by rw [HZ.out, hxz]; rfl⟩
      clear hy hxl K1 K2' K3 K4 K5
      go_wp2
      go_round
      case rel => exact ⟨k + 1, y, by omega, by go_num, rfl, HYL.out.1, HYL.out.2⟩
      case measure => simp [intOf]; omega
    · obtain rfl : k = L := by omega
      obtain rfl : x = x0 := bytes_eq (hxl.trans HX0.out.1.symm)
      clear hxl HX0 HZ
      go_wp2_with (first
        | (go_at_call 9; (with_reducible refine (HDg.out _).mono ?_); rintro e w2 ⟨rfl, rfl⟩)
        | (go_at_call 10; (with_reducible refine (HQu.out _).mono ?_); rintro e w2 ⟨rfl, hb2⟩; (have HB2 := Lib.hid (HT.out _ _ HB1.out hb2)); clear hb2)
        | (go_at_call 6; (with_reducible refine (HWd.out _ HB2.out).mono ?_); rintro e w3 ⟨v, rfl, hw3, hb3⟩; (have HW3 := Lib.hid hw3); (have HB3 := Lib.hid (HT.out _ _ HB2.out hb3)); clear hw3 hb3))
      refine (HSM.out _ _ _ (HW3.out.below ((Below.refl _ _).alloc (Nat.le_refl _) _)) (HWn.out w3)).mono ?_
      rintro e w4 ⟨rfl, m, rfl⟩
      have HC : Hid (∀ o, Below w.heap.size w (w3.alloc o)) := fun o => HB3.out.alloc HB3.out.size o
      go_wp2
      go_ret
      exact ⟨rfl, below_drewN (HC.out _)⟩

theorem one_any (n : Int) (s : ByteArray) (L : Nat) (w : World) (ht : LTabs w) (h1 : -9223372036854775808 ≤ n) (h2 : n ≤ 9223372036854775807) (hL : L ≤ 255) (hr : s.size ≤ 140737488355328) :
    Calls Tryd.prog 4 #[.int .i64 n, .string s, .int .u8 L] w fun e w' => e = .returned (.bool true) ∧ Below w.heap.size w w' := by
  by_cases hs : s.size ≤ 4096
  · exact one_small n s L w ht h1 h2 hL hs
  · exact one_big n s L w ht hr (by omega)
end Go.Proofs.YtpnbnomaaeoemaaDoor
