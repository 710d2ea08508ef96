/-
  Walks: LexJoins returns true; old memory is as it was.
  Conditions: the package's variables hold what the program's text lays in them; the texts are no longer than the reach.
-/
import Derived.Test.YtpnbnomaaeoemaaDoorLexAl
import Derived.Laws.AppendOwnNone
namespace Go.Proofs.YtpnbnomaaeoemaaDoor
open Go.RowKit

def resN : LX.Res → Int
  | .err n => n
  | .ok _ => 0
def resE : LX.Res → Int
  | .err _ => 4
  | .ok _ => 0
def resW : LX.Res → List LX.LW
  | .err _ => []
  | .ok ws => ws
/-- What Words answers, of whatever text. -/
theorem words_gen (s : ByteArray) (w : World) (hs : s.size ≤ 65536) (ht : LTabs w) :
    Calls Tryd.prog 6 #[.string s] w fun e w' => ∃ v, e = .returned (.tuple #[v, .int .i64 (resN (LX.lex 0 s.data.toList)), .int .i64 (resE (LX.lex 0 s.data.toList))]) ∧
      w'.ownsRow (w.heap.size + 1) 30 4 v (resW (LX.lex 0 s.data.toList)).length (flatW (resW (LX.lex 0 s.data.toList))) ∧ Below w.heap.size w w' := by
  refine (words_any s w hs ht).mono ?_
  intro e w' hp
  unfold PostWords at hp
  cases hr : LX.lex 0 s.data.toList with
  | err n =>
    rw [hr] at hp
    exact ⟨_, hp.1, World.ownsRow_nil _ _ _ _, hp.2⟩
  | ok ws =>
    rw [hr] at hp
    obtain ⟨⟨v, he, ho⟩, hb⟩ := hp
    exact ⟨v, he, ho, hb⟩
theorem cnt_le (l : List UInt8) : LX.cnt l ≤ l.length := List.countP_le_length
theorem cnt_idle (l : List UInt8) (n : Nat) : LX.cnt (l.take n) ≤ l.length := Nat.le_trans (cnt_le _) (by rw [List.length_take]; omega)
/-- No line is greater than the text is long. -/
theorem lex_bound (line : Nat) (l : List UInt8) : match LX.lex line l with | .err n => n ≤ line + l.length | .ok ws => ∀ x ∈ ws, x.line ≤ line + l.length := by
  induction l using LX.lex_cases generalizing line with
  | hnil => simp [LX.lex_nil]
  | hnl c t hc ih =>
    rw [LX.lex_nl _ _ _ hc]
    have := ih (line + 1)
    cases h : LX.lex (line + 1) t <;> rw [h] at this <;> simp only [List.length_cons] at this ⊢
    · omega
    · exact fun x hx => by have := this x hx; omega
  | hbl c t hc ih =>
    rw [LX.lex_blank _ _ _ hc]
    have := ih line
    cases h : LX.lex line t <;> rw [h] at this <;> simp only [List.length_cons] at this ⊢
    · omega
    · exact fun x hx => by have := this x hx; omega
  | hrem c t hc ih =>
    rw [LX.lex_rem _ _ _ hc]
    have := ih line
    have hd := LX.dropWhile_le (fun b => b.toNat != 10) t
    cases h : LX.lex line (t.dropWhile fun b => b.toNat != 10) <;> rw [h] at this <;> simp only [List.length_cons] at this ⊢
    · omega
    · exact fun x hx => by have := this x hx; omega
  | herr c t hi hw => rw [LX.lex_err _ _ _ hi hw]; simp
  | hword c t w m hi hw ih =>
    rw [LX.lex_word _ _ _ _ _ hi hw]
    have := ih line
    have hl : ((c :: t).drop m).length ≤ (c :: t).length := by rw [List.length_drop]; omega
    cases h : LX.lex line ((c :: t).drop m) <;> rw [h] at this <;> simp only [LX.Res.cons] at this ⊢
    · omega
    · intro x hx
      rcases List.mem_cons.1 hx with rfl | hx
      · simp
      · have := this x hx; omega
theorem get_el (s : ByteArray) (k : Nat) (h : k < s.size) : s.get! k = s[k]'h := by
  have := get_at s k h
  rwa [Nat.add_zero] at this
theorem cat_list (a b : ByteArray) : (a ++ b).data.toList = a.data.toList ++ b.data.toList := by
  cases a; cases b; simp

set_option maxRecDepth 100000 in
set_option maxHeartbeats 8000000 in
theorem joins_big (a b : ByteArray) (w : World) (ht : LTabs w) (ha : a.size ≤ 140737488355328) (hb : b.size ≤ 140737488355328) (hs : 65535 < a.size + b.size) :
    Calls Tryd.prog 5 #[.string a, .string b] w fun e w' => e = .returned (.bool true) ∧ Below w.heap.size w w' := by
  have H1 := Lib.hid (alive_any w ht)
  have H2 := Lib.hid (fun W (h : Below w.heap.size w W) => alive_any W (ht.below h ht.gb))
  have HT : Hid (∀ W W', Below w.heap.size w W → Below W.heap.size W W' → Below w.heap.size w W') := fun W W' h k => h.trans (k.mono h.size)
  have g1 : (0 : Int) ≤ (a.size : Int) := by omega
  have g2 : (a.size : Int) ≤ 140737488355328 := by omega
  have g3 : (0 : Int) ≤ (b.size : Int) := by omega
  have g4 : (b.size : Int) ≤ 140737488355328 := by omega
  have g5 : (65535 : Int) < (a.size : Int) + (b.size : Int) := by omega
  clear ht ha hb hs
  go_enter Tryd.func5, Tryd.ntmps5
  go_wp2_with fail
  refine H1.out.mono ?_
  rintro e w1 ⟨rfl, hb1⟩
  have HB := Lib.hid hb1
  clear hb1
  go_wp2_with fail
  refine (H2.out _ HB.out).mono ?_
  rintro e w2 ⟨rfl, hb2⟩
  have HC := Lib.hid (HT.out _ _ HB.out hb2)
  clear hb2
  go_wp2
  go_ret
  exact ⟨rfl, HC.out⟩

/-- Words whose lines are counted from elsewhere. -/
def shW (c : Nat) (x : LX.LW) : LX.LW := { x with line := x.line + c }
def shTo (c k : Nat) (us : List LX.LW) : List LX.LW := (us.take k).map (shW c) ++ us.drop k
theorem shTo_len (c k : Nat) (us : List LX.LW) : (shTo c k us).length = us.length := by simp [shTo]; omega
theorem shTo_at (c k : Nat) (us : List LX.LW) (h : k < us.length) : (shTo c k us)[k]'(by rw [shTo_len]; exact h) = us[k] := by
  simp only [shTo]
  have hm : min k us.length = k := by omega
  rw [List.getElem_append_right (by simp; omega)]
  simp [hm]
theorem shTo_all (c : Nat) (us : List LX.LW) : shTo c us.length us = us.map (shW c) := by simp [shTo]
theorem shTo_zero (c : Nat) (us : List LX.LW) : shTo c 0 us = us := by simp [shTo]
theorem flatW_append (a b : List LX.LW) : flatW (a ++ b) = flatW a ++ flatW b := by simp [flatW]
theorem flatW_shTo (c k : Nat) (us : List LX.LW) (h : k < us.length) : flatW (shTo c (k + 1) us) = (flatW (shTo c k us)).set (k * 4 + 3) (.int .i64 ((us[k].line : Int) + c)) := by
  have e1 : shTo c (k + 1) us = (us.take k).map (shW c) ++ (shW c us[k] :: us.drop (k + 1)) := by
    simp only [shTo, List.take_succ_eq_append_getElem h, List.map_append]
    simp
  have e2 : shTo c k us = (us.take k).map (shW c) ++ (us[k] :: us.drop (k + 1)) := by
    simp only [shTo]
    rw [List.drop_eq_getElem_cons h]
  have hl : (flatW ((us.take k).map (shW c))).length = k * 4 := by rw [flatW_length]; simp; omega
  rw [e1, e2, flatW_append, flatW_append, List.set_append_right _ _ (by omega), hl]
  congr 1
  have : k * 4 + 3 - k * 4 = 3 := by omega
  rw [this]
  simp only [flatW, List.flatMap_cons, wCells, shW, List.cons_append, List.nil_append, List.set_cons_succ, List.set_cons_zero, Int.natCast_add]
theorem flatW_one (ws : List LX.LW) : ∀ u ∈ flatW ws, u.oneCell' = true := by
  intro u hu
  simp only [flatW, List.mem_flatMap, wCells] at hu
  obtain ⟨x, -, hx⟩ := hu
  simp at hx
  rcases hx with rfl | rfl | rfl | rfl <;> rfl

set_option maxRecDepth 100000 in
set_option maxHeartbeats 8000000 in
theorem joins_err1 (a b : ByteArray) (n1 : Nat) (w : World) (ht : LTabs w) (hs : a.size + b.size ≤ 65535) (hr1 : LX.lex 0 a.data.toList = .err n1) :
    Calls Tryd.prog 5 #[.string a, .string b] w fun e w' => e = .returned (.bool true) ∧ Below w.heap.size w w' := by
  have HAl := Lib.hid (alive_any w ht)
  obtain ⟨a1, ha1⟩ : ∃ x, a ++ (⟨#[10]⟩ : ByteArray) = x := ⟨_, rfl⟩
  obtain ⟨ab, hab⟩ : ∃ x, a1 ++ b = x := ⟨_, rfl⟩
  have la1 : a1.data.toList = a.data.toList ++ [10] := by rw [← ha1, cat_list]
  have lab : ab.data.toList = a.data.toList ++ 10 :: b.data.toList := by rw [← hab, cat_list, la1]; simp
  have za : a.data.toList.length = a.size := by simp
  have zb : b.data.toList.length = b.size := by simp
  have za1 : a1.size = a.size + 1 := by
    have h1 : a1.data.toList.length = a1.size := by simp
    rw [← h1, la1]; simp
  have zab : ab.size = a.size + 1 + b.size := by
    have h1 : ab.data.toList.length = ab.size := by simp
    rw [← h1, lab, List.length_append, List.length_cons]; omega
  have W1 := fun W (h : Below w.heap.size w W) => words_gen a W (by omega) (ht.below h ht.gb)
  have W2 := fun W (h : Below w.heap.size w W) => words_gen b W (by omega) (ht.below h ht.gb)
  have W3 := fun W (h : Below w.heap.size w W) => words_gen ab W (by omega) (ht.below h ht.gb)
  rw [lab] at W3
  have hj := LX.lex_joins 0 a.data.toList b.data.toList
  have hsh := LX.lex_shift (LX.cnt a.data.toList + 1) 0 b.data.toList
  rw [← Nat.add_assoc] at hsh
  rw [hsh] at hj
  rw [hr1] at hj
  have hj : LX.lex 0 (a.data.toList ++ 10 :: b.data.toList) = .err n1 := hj
  rw [hr1] at W1
  rw [hj] at W3
  simp only [resN, resE, resW] at W1 W3
  obtain ⟨nb, hnb⟩ : ∃ x, resN (LX.lex 0 b.data.toList) = x := ⟨_, rfl⟩
  obtain ⟨eb, heb⟩ : ∃ x, resE (LX.lex 0 b.data.toList) = x := ⟨_, rfl⟩
  rw [hnb, heb] at W2
  have HT : Hid (∀ W W', Below w.heap.size w W → Below W.heap.size W W' → Below w.heap.size w W') := fun W W' h k => h.trans (k.mono h.size)
  have K1 : ∀ W, (Op.stringOp .add a ⟨#[10]⟩).run Tryd.prog W = .ok (.string a1) W := fun W => by rw [← ha1]; exact run_string_add_sum W _ _ (by show _ + 1 ≤ _; omega)
  have K2' : ∀ W, (Op.stringOp .add a1 b).run Tryd.prog W = .ok (.string ab) W := fun W => by rw [← hab]; exact run_string_add_sum W _ _ (by omega)
  have HW1 := Lib.hid W1
  have HW2 := Lib.hid W2
  have HW3 := Lib.hid W3
  have HCN := Lib.hid (fun k (h : k < a.size) => cnt_step a k h)
  have HCL : Hid (∀ k, LX.cnt (a.data.toList.take k) ≤ a.size) := fun k => Nat.le_trans (cnt_le _) (by rw [List.length_take]; omega)
  have HGE := Lib.hid (fun k (h : k < a.size) => get_el a k h)
  have g1 : (0 : Int) ≤ (a.size : Int) := by omega
  have g2 : (a.size : Int) ≤ 65535 := by omega
  have g3 : (0 : Int) ≤ (b.size : Int) := by omega
  have g4 : (b.size : Int) ≤ 65535 := by omega
  have g5 : ¬ (65535 : Int) < (a.size : Int) + (b.size : Int) := by omega
  clear ht hs ha1 hab la1 lab za zb za1 zab W1 W2 W3 hj hsh hr1 hnb heb
  go_enter Tryd.func5, Tryd.ntmps5
  go_wp2_with fail
  refine HAl.out.mono ?_
  rintro e w1 ⟨rfl, hb1⟩
  have HB1 := Lib.hid hb1
  clear hb1
  go_wp2_with fail
  refine (HW1.out _ HB1.out).mono ?_
  rintro e w2 ⟨v1, rfl, ho1, hb2⟩
  have HO1 := Lib.hid ho1
  have HB2 := Lib.hid (And.intro (HT.out _ _ HB1.out hb2) hb2)
  clear hb2 ho1
  go_wp2_with fail
  refine (HW2.out _ HB2.out.1).mono ?_
  rintro e w3 ⟨v2, rfl, ho2, hb3⟩
  have HO2 := Lib.hid ho2
  have HB3 := Lib.hid (And.intro (HT.out _ _ HB2.out.1 hb3) hb3)
  clear hb3 ho2
  go_wp2_with fail
  refine (HW3.out _ HB3.out.1).mono ?_
  rintro e w4 ⟨v3, rfl, ho3, hb4⟩
  have HO3 := Lib.hid ho3
  have HB4 := Lib.hid (And.intro (HT.out _ _ HB3.out.1 hb4) hb4)
  clear hb4 ho3
  clear HAl HW1 HW2 HW3
  go_wp2
  go_loop [14, 15] (fun n i => ∃ k : Nat, k ≤ a.size ∧ i = .int .i64 k ∧ n = .int .i64 (1 + LX.cnt (a.data.toList.take k) : Nat)) (fun _ i => a.size - (intOf i).toNat)
  case atStart => exact ⟨0, Nat.zero_le _, rfl, rfl⟩
  case round =>
    obtain ⟨k, hk, rfl, rfl⟩ := hrel
    have hc1 := HCL.out k
    by_cases hlt : k < a.size
    · have hc2 := HCL.out (k + 1)
      have HS := Lib.hid (HCN.out k hlt)
      have hge := HGE.out k hlt
      rw [hge] at HS
      obtain ⟨c1, e1⟩ : ∃ c, LX.cnt (a.data.toList.take k) = c := ⟨_, rfl⟩
      obtain ⟨c2, e2⟩ : ∃ c, LX.cnt (a.data.toList.take (k + 1)) = c := ⟨_, rfl⟩
      rw [e1] at hc1 HS ⊢
      rw [e2] at hc2 HS
      have HE2 := Lib.hid e2
      clear e1 e2 hge
      by_cases h10 : (a[k]'hlt).toNat = 10
      · have t10 : (((a[k]'hlt).toNat : Int) == 10) = true := by rw [beq_iff_eq]; omega
        have H10 := Lib.hid h10
        clear h10
        go_wp2
        go_round
        case rel => exact ⟨k + 1, by omega, by go_num, by rw [HE2.out, HS.out, if_pos H10.out]; go_num⟩
        case measure => simp [intOf]; omega
      · have t10 : (((a[k]'hlt).toNat : Int) == 10) = false := by rw [beq_eq_false_iff_ne]; omega
        have H10 := Lib.hid h10
        clear h10
        go_wp2
        go_round
        case rel => exact ⟨k + 1, by omega, by go_num, by rw [HE2.out, HS.out, if_neg H10.out, Nat.add_zero]⟩
        case measure => simp [intOf]; omega
    · obtain rfl : k = a.size := by omega
      have htk : a.data.toList.take a.size = a.data.toList := List.take_of_length_le (by simp)
      rw [htk] at hc1 ⊢
      clear htk HCN HCL HGE
      obtain ⟨ca, hca⟩ : ∃ c, LX.cnt a.data.toList = c := ⟨_, rfl⟩
      have HCA := Lib.hid hca
      rw [hca] at hc1 ⊢
      clear hca
      go_wp2
      go_ret
      exact ⟨rfl, HB4.out.1⟩

set_option maxRecDepth 100000 in
set_option maxHeartbeats 8000000 in
theorem joins_err2 (a b : ByteArray) (n2 : Nat) (ws : List LX.LW) (w : World) (ht : LTabs w) (hs : a.size + b.size ≤ 65535) (hr1 : LX.lex 0 a.data.toList = .ok ws) (hr2 : LX.lex 0 b.data.toList = .err n2) :
    Calls Tryd.prog 5 #[.string a, .string b] w fun e w' => e = .returned (.bool true) ∧ Below w.heap.size w w' := by
  have HAl := Lib.hid (alive_any w ht)
  obtain ⟨a1, ha1⟩ : ∃ x, a ++ (⟨#[10]⟩ : ByteArray) = x := ⟨_, rfl⟩
  obtain ⟨ab, hab⟩ : ∃ x, a1 ++ b = x := ⟨_, rfl⟩
  have la1 : a1.data.toList = a.data.toList ++ [10] := by rw [← ha1, cat_list]
  have lab : ab.data.toList = a.data.toList ++ 10 :: b.data.toList := by rw [← hab, cat_list, la1]; simp
  have za : a.data.toList.length = a.size := by simp
  have zb : b.data.toList.length = b.size := by simp
  have za1 : a1.size = a.size + 1 := by
    have h1 : a1.data.toList.length = a1.size := by simp
    rw [← h1, la1]; simp
  have zab : ab.size = a.size + 1 + b.size := by
    have h1 : ab.data.toList.length = ab.size := by simp
    rw [← h1, lab, List.length_append, List.length_cons]; omega
  have W1 := fun W (h : Below w.heap.size w W) => words_gen a W (by omega) (ht.below h ht.gb)
  have W2 := fun W (h : Below w.heap.size w W) => words_gen b W (by omega) (ht.below h ht.gb)
  have W3 := fun W (h : Below w.heap.size w W) => words_gen ab W (by omega) (ht.below h ht.gb)
  rw [lab] at W3
  have hj := LX.lex_joins 0 a.data.toList b.data.toList
  have hsh := LX.lex_shift (LX.cnt a.data.toList + 1) 0 b.data.toList
  rw [← Nat.add_assoc] at hsh
  rw [hsh] at hj
  rw [hr1, hr2] at hj
  have hj : LX.lex 0 (a.data.toList ++ 10 :: b.data.toList) = .err (n2 + (LX.cnt a.data.toList + 1)) := hj
  have hn2 : (n2 : Int) ≤ 65535 := by
    have := lex_bound 0 b.data.toList
    rw [hr2] at this
    have this : n2 ≤ 0 + b.data.toList.length := this
    omega
  rw [hr1] at W1
  rw [hr2] at W2
  rw [hj] at W3
  simp only [resN, resE, resW] at W1 W2 W3
  have HT : Hid (∀ W W', Below w.heap.size w W → Below W.heap.size W W' → Below w.heap.size w W') := fun W W' h k => h.trans (k.mono h.size)
  have K1 : ∀ W, (Op.stringOp .add a ⟨#[10]⟩).run Tryd.prog W = .ok (.string a1) W := fun W => by rw [← ha1]; exact run_string_add_sum W _ _ (by show _ + 1 ≤ _; omega)
  have K2' : ∀ W, (Op.stringOp .add a1 b).run Tryd.prog W = .ok (.string ab) W := fun W => by rw [← hab]; exact run_string_add_sum W _ _ (by omega)
  have HW1 := Lib.hid W1
  have HW2 := Lib.hid W2
  have HW3 := Lib.hid W3
  have HCN := Lib.hid (fun k (h : k < a.size) => cnt_step a k h)
  have HCL : Hid (∀ k, LX.cnt (a.data.toList.take k) ≤ a.size) := fun k => Nat.le_trans (cnt_le _) (by rw [List.length_take]; omega)
  have HGE := Lib.hid (fun k (h : k < a.size) => get_el a k h)
  have g1 : (0 : Int) ≤ (a.size : Int) := by omega
  have g2 : (a.size : Int) ≤ 65535 := by omega
  have g3 : (0 : Int) ≤ (b.size : Int) := by omega
  have g4 : (b.size : Int) ≤ 65535 := by omega
  have g5 : ¬ (65535 : Int) < (a.size : Int) + (b.size : Int) := by omega
  clear ht hs ha1 hab la1 lab za zb za1 zab W1 W2 W3 hj hsh hr1 hr2
  go_enter Tryd.func5, Tryd.ntmps5
  go_wp2_with fail
  refine HAl.out.mono ?_
  rintro e w1 ⟨rfl, hb1⟩
  have HB1 := Lib.hid hb1
  clear hb1
  go_wp2_with fail
  refine (HW1.out _ HB1.out).mono ?_
  rintro e w2 ⟨v1, rfl, ho1, hb2⟩
  have HO1 := Lib.hid ho1
  have HB2 := Lib.hid (And.intro (HT.out _ _ HB1.out hb2) hb2)
  clear hb2 ho1
  go_wp2_with fail
  refine (HW2.out _ HB2.out.1).mono ?_
  rintro e w3 ⟨v2, rfl, ho2, hb3⟩
  have HO2 := Lib.hid ho2
  have HB3 := Lib.hid (And.intro (HT.out _ _ HB2.out.1 hb3) hb3)
  clear hb3 ho2
  go_wp2_with fail
  refine (HW3.out _ HB3.out.1).mono ?_
  rintro e w4 ⟨v3, rfl, ho3, hb4⟩
  have HO3 := Lib.hid ho3
  have HB4 := Lib.hid (And.intro (HT.out _ _ HB3.out.1 hb4) hb4)
  clear hb4 ho3
  clear HAl HW1 HW2 HW3
  go_wp2
  go_loop [14, 15] (fun n i => ∃ k : Nat, k ≤ a.size ∧ i = .int .i64 k ∧ n = .int .i64 (1 + LX.cnt (a.data.toList.take k) : Nat)) (fun _ i => a.size - (intOf i).toNat)
  case atStart => exact ⟨0, Nat.zero_le _, rfl, rfl⟩
  case round =>
    obtain ⟨k, hk, rfl, rfl⟩ := hrel
    have hc1 := HCL.out k
    by_cases hlt : k < a.size
    · have hc2 := HCL.out (k + 1)
      have HS := Lib.hid (HCN.out k hlt)
      have hge := HGE.out k hlt
      rw [hge] at HS
      obtain ⟨c1, e1⟩ : ∃ c, LX.cnt (a.data.toList.take k) = c := ⟨_, rfl⟩
      obtain ⟨c2, e2⟩ : ∃ c, LX.cnt (a.data.toList.take (k + 1)) = c := ⟨_, rfl⟩
      rw [e1] at hc1 HS ⊢
      rw [e2] at hc2 HS
      have HE2 := Lib.hid e2
      clear e1 e2 hge
      by_cases h10 : (a[k]'hlt).toNat = 10
      · have t10 : (((a[k]'hlt).toNat : Int) == 10) = true := by rw [beq_iff_eq]; omega
        have H10 := Lib.hid h10
        clear h10
        go_wp2
        go_round
        case rel => exact ⟨k + 1, by omega, by go_num, by rw [HE2.out, HS.out, if_pos H10.out]; go_num⟩
        case measure => simp [intOf]; omega
      · have t10 : (((a[k]'hlt).toNat : Int) == 10) = false := by rw [beq_eq_false_iff_ne]; omega
        have H10 := Lib.hid h10
        clear h10
        go_wp2
        go_round
        case rel => exact ⟨k + 1, by omega, by go_num, by rw [HE2.out, HS.out, if_neg H10.out, Nat.add_zero]⟩
        case measure => simp [intOf]; omega
    · obtain rfl : k = a.size := by omega
      have htk : a.data.toList.take a.size = a.data.toList := List.take_of_length_le (by simp)
      rw [htk] at hc1 ⊢
      clear htk HCN HCL HGE
      obtain ⟨ca, hca⟩ : ∃ c, LX.cnt a.data.toList = c := ⟨_, rfl⟩
      have HCA := Lib.hid hca
      rw [hca] at hc1 ⊢
      clear hca
      go_wp2
      go_ret
      exact ⟨ret_bool (by rw [beq_iff_eq]; omega), HB4.out.1⟩

set_option maxRecDepth 100000 in
set_option maxHeartbeats 8000000 in
theorem joins_ok (a b : ByteArray) (ws us : List LX.LW) (w : World) (ht : LTabs w) (hs : a.size + b.size ≤ 65535) (hr1 : LX.lex 0 a.data.toList = .ok ws) (hr2 : LX.lex 0 b.data.toList = .ok us) :
    Calls Tryd.prog 5 #[.string a, .string b] w fun e w' => e = .returned (.bool true) ∧ Below w.heap.size w w' := by
  have HAl := Lib.hid (alive_any w ht)
  obtain ⟨a1, ha1⟩ : ∃ x, a ++ (⟨#[10]⟩ : ByteArray) = x := ⟨_, rfl⟩
  obtain ⟨ab, hab⟩ : ∃ x, a1 ++ b = x := ⟨_, rfl⟩
  have la1 : a1.data.toList = a.data.toList ++ [10] := by rw [← ha1, cat_list]
  have lab : ab.data.toList = a.data.toList ++ 10 :: b.data.toList := by rw [← hab, cat_list, la1]; simp
  have za : a.data.toList.length = a.size := by simp
  have zb : b.data.toList.length = b.size := by simp
  have za1 : a1.size = a.size + 1 := by
    have h1 : a1.data.toList.length = a1.size := by simp
    rw [← h1, la1]; simp
  have zab : ab.size = a.size + 1 + b.size := by
    have h1 : ab.data.toList.length = ab.size := by simp
    rw [← h1, lab, List.length_append, List.length_cons]; omega
  have W1 := fun W (h : Below w.heap.size w W) => words_gen a W (by omega) (ht.below h ht.gb)
  have W2 := fun W (h : Below w.heap.size w W) => words_gen b W (by omega) (ht.below h ht.gb)
  have W3 := fun W (h : Below w.heap.size w W) => words_gen ab W (by omega) (ht.below h ht.gb)
  rw [lab] at W3
  have hj := LX.lex_joins 0 a.data.toList b.data.toList
  have hsh := LX.lex_shift (LX.cnt a.data.toList + 1) 0 b.data.toList
  rw [← Nat.add_assoc] at hsh
  rw [hsh] at hj
  rw [hr1, hr2] at hj
  have hj : LX.lex 0 (a.data.toList ++ 10 :: b.data.toList) = .ok (ws ++ us.map (shW (LX.cnt a.data.toList + 1))) := hj
  have hln := lex_bound 0 b.data.toList
  rw [hr2] at hln
  have hln : ∀ x ∈ us, x.line ≤ 0 + b.data.toList.length := hln
  have hul := (LX.lex_sound 0 _ _ hr2).2.2
  have hwl := (LX.lex_sound 0 _ _ hr1).2.2
  have HLN : Hid (∀ k (h : k < us.length), us[k].line ≤ 65535) := fun k h => by have := hln _ (List.getElem_mem h); omega
  have gu : us.length ≤ 65535 := by omega
  have gw : ws.length ≤ 65535 := by omega
  rw [hr1] at W1
  rw [hr2] at W2
  rw [hj] at W3
  simp only [resN, resE, resW] at W1 W2 W3
  have HT : Hid (∀ W W', Below w.heap.size w W → Below W.heap.size W W' → Below w.heap.size w W') := fun W W' h k => h.trans (k.mono h.size)
  have K1 : ∀ W, (Op.stringOp .add a ⟨#[10]⟩).run Tryd.prog W = .ok (.string a1) W := fun W => by rw [← ha1]; exact run_string_add_sum W _ _ (by show _ + 1 ≤ _; omega)
  have K2' : ∀ W, (Op.stringOp .add a1 b).run Tryd.prog W = .ok (.string ab) W := fun W => by rw [← hab]; exact run_string_add_sum W _ _ (by omega)
  have HW1 := Lib.hid W1
  have HW2 := Lib.hid W2
  have HW3 := Lib.hid W3
  have HCN := Lib.hid (fun k (h : k < a.size) => cnt_step a k h)
  have HCL : Hid (∀ k, LX.cnt (a.data.toList.take k) ≤ a.size) := fun k => Nat.le_trans (cnt_le _) (by rw [List.length_take]; omega)
  have HGE := Lib.hid (fun k (h : k < a.size) => get_el a k h)
  have g1 : (0 : Int) ≤ (a.size : Int) := by omega
  have g2 : (a.size : Int) ≤ 65535 := by omega
  have g3 : (0 : Int) ≤ (b.size : Int) := by omega
  have g4 : (b.size : Int) ≤ 65535 := by omega
  have g5 : ¬ (65535 : Int) < (a.size : Int) + (b.size : Int) := by omega
  clear ht hs ha1 hab la1 lab za zb za1 zab W1 W2 W3 hj hsh hr1 hr2 hln hul hwl
  go_enter Tryd.func5, Tryd.ntmps5
  go_wp2_with fail
  refine HAl.out.mono ?_
  rintro e w1 ⟨rfl, hb1⟩
  have HB1 := Lib.hid hb1
  clear hb1
  go_wp2_with fail
  refine (HW1.out _ HB1.out).mono ?_
  rintro e w2 ⟨v1, rfl, ho1, hb2⟩
  have HO1 := Lib.hid ho1
  have HB2 := Lib.hid (And.intro (HT.out _ _ HB1.out hb2) hb2)
  clear hb2 ho1
  go_wp2_with fail
  refine (HW2.out _ HB2.out.1).mono ?_
  rintro e w3 ⟨v2, rfl, ho2, hb3⟩
  have HO2 := Lib.hid ho2
  have HB3 := Lib.hid (And.intro (HT.out _ _ HB2.out.1 hb3) hb3)
  clear hb3 ho2
  go_wp2_with fail
  refine (HW3.out _ HB3.out.1).mono ?_
  rintro e w4 ⟨v3, rfl, ho3, hb4⟩
  have HO3 := Lib.hid ho3
  have HB4 := Lib.hid (And.intro (HT.out _ _ HB3.out.1 hb4) hb4)
  clear hb4 ho3
  clear HAl HW1 HW2 HW3
  obtain ⟨ao1, cp1, rfl, -, -, -⟩ := Wds.of_own HO1.out
  obtain ⟨ao3, cp3, rfl, -, -, -⟩ := Wds.of_own HO3.out
  have hl3 : (ws ++ us.map (shW (LX.cnt a.data.toList + 1))).length = ws.length + us.length := by simp
  have HL3 := Lib.hid hl3
  have HSM := Lib.hid (fun v1 v2 W h1 h2 => same_words v1 v2 (ws ++ us.map (shW (LX.cnt a.data.toList + 1))) W h1 h2)
  rw [hl3] at HO3 ⊢
  clear hl3
  obtain ⟨i0, hi, hz0, hz1, hz2⟩ := info_parts info_word
  go_wp2
  go_loop [14, 15] (fun n i => ∃ k : Nat, k ≤ a.size ∧ i = .int .i64 k ∧ n = .int .i64 (1 + LX.cnt (a.data.toList.take k) : Nat)) (fun _ i => a.size - (intOf i).toNat)
  case atStart => exact ⟨0, Nat.zero_le _, rfl, rfl⟩
  case round =>
    obtain ⟨k, hk, rfl, rfl⟩ := hrel
    have hc1 := HCL.out k
    by_cases hlt : k < a.size
    · have hc2 := HCL.out (k + 1)
      have HS := Lib.hid (HCN.out k hlt)
      have hge := HGE.out k hlt
      rw [hge] at HS
      obtain ⟨c1, e1⟩ : ∃ c, LX.cnt (a.data.toList.take k) = c := ⟨_, rfl⟩
      obtain ⟨c2, e2⟩ : ∃ c, LX.cnt (a.data.toList.take (k + 1)) = c := ⟨_, rfl⟩
      rw [e1] at hc1 HS ⊢
      rw [e2] at hc2 HS
      have HE2 := Lib.hid e2
      clear e1 e2 hge
      by_cases h10 : (a[k]'hlt).toNat = 10
      · have t10 : (((a[k]'hlt).toNat : Int) == 10) = true := by rw [beq_iff_eq]; omega
        have H10 := Lib.hid h10
        clear h10
        go_wp2
        go_round
        case rel => exact ⟨k + 1, by omega, by go_num, by rw [HE2.out, HS.out, if_pos H10.out]; go_num⟩
        case measure => simp [intOf]; omega
      · have t10 : (((a[k]'hlt).toNat : Int) == 10) = false := by rw [beq_eq_false_iff_ne]; omega
        have H10 := Lib.hid h10
        clear h10
        go_wp2
        go_round
        case rel => exact ⟨k + 1, by omega, by go_num, by rw [HE2.out, HS.out, if_neg H10.out, Nat.add_zero]⟩
        case measure => simp [intOf]; omega
    · obtain rfl : k = a.size := by omega
      have htk : a.data.toList.take a.size = a.data.toList := List.take_of_length_le (by simp)
      rw [htk] at hc1 ⊢
      clear htk HCN HCL HGE
      obtain ⟨ca, hca⟩ : ∃ c, LX.cnt a.data.toList = c := ⟨_, rfl⟩
      have HCA := Lib.hid hca
      rw [hca] at hc1 ⊢
      clear hca
      rw [HCA.out] at HSM HO3 HL3
      by_cases hu0 : v2 = .slice none 0 0
      · subst hu0
        have hun : us.length = 0 := by
          rcases HO2.out.2 with ⟨_, h⟩ | ⟨g, cap, cur, h, _⟩
          · exact h
          · simp at h
        obtain rfl : us = [] := List.eq_nil_of_length_eq_zero hun
        have h14 : w4.ownsRow (w1.heap.size + 1) 30 4 (.slice ao1 ws.length cp1) ws.length (flatW ws) := ownsRow_keep HO1.out (fun j _ j2 => (HB4.out.2.block j (Nat.lt_of_lt_of_le j2 HB3.out.2.size)).trans (HB3.out.2.block j j2))
        have H14 := Lib.hid h14
        clear h14 hun HO1 HO2
        simp only [List.map_nil, List.append_nil, List.length_nil, Nat.add_zero] at HSM HO3 ⊢
        go_wp2
        go_loop [16] (fun i => i = .int .i64 0) (fun _ => 0)
        case atStart => rfl
        case round =>
          obtain rfl := hrel
          go_wp2_with (at_builtin; refine wpList_append_own_none rfl _ _ 22 rfl (w1.heap.size + 1) 30 i0 4 Tryd.underlying22 hi _ _ _ rfl H14.out rfl ?_)
          have hb4 := HB4.out.1
          have HB5 := Lib.hid hb4
          clear hb4
          go_wp2_with (go_at_call 11; (with_reducible refine (HSM.out _ _ _ (Wds.of_own HO3.out) (Wds.of_own H14.out)).mono ?_); rintro e w6 ⟨rfl, m6, rfl⟩)
          go_ret
          exact ⟨rfl, HB5.out.os, HB5.out.tape, HB5.out.output, HB5.out.size, HB5.out.block⟩
      · obtain ⟨g2, cp2, rfl⟩ : ∃ g cap, v2 = .slice (some ⟨g, 0, none⟩) us.length cap := by
          rcases HO2.out.2 with ⟨h, _⟩ | ⟨g, cap, cur, h, _⟩
          · exact absurd h hu0
          · exact ⟨g, cap, h⟩
        clear hu0
        have hg2 := HO2.out.lt g2 rfl
        have hcp2 : us.length ≤ cp2 := by
          obtain ⟨_, _, h, h1, _⟩ := Wds.of_own HO2.out
          injection h with _ _ h3
          omega
        have hb34 := HB4.out.2.size
        have hb23 := HB3.out.2.size
        have hb12 := HB2.out.2.size
        have hb01 := HB1.out.size
        have HSZ : Hid (g2 < w4.heap.size ∧ w2.heap.size + 1 ≤ g2 ∧ g2 < w3.heap.size ∧ w.heap.size ≤ w1.heap.size ∧ w1.heap.size ≤ w2.heap.size ∧ w2.heap.size ≤ w3.heap.size ∧ w3.heap.size ≤ w4.heap.size) := ⟨by omega, by omega, by omega, by omega, by omega, by omega, by omega⟩
        have h24 : w4.ownsRow (w2.heap.size + 1) 30 4 (.slice (some ⟨g2, 0, none⟩) us.length cp2) us.length (flatW us) := ownsRow_keep HO2.out (fun j _ j2 => HB4.out.2.block j j2)
        have H24 := Lib.hid h24
        have h14 : w4.ownsRow (w1.heap.size + 1) 30 4 (.slice ao1 ws.length cp1) ws.length (flatW ws) := ownsRow_keep HO1.out (fun j _ j2 => (HB4.out.2.block j (by omega)).trans (HB3.out.2.block j j2))
        have HG1 : Hid (∀ k, (Value.slice ao1 ws.length cp1).ownBlock = some k → w1.heap.size + 1 ≤ k ∧ k < w2.heap.size) := HO1.out.lt
        have HG3 : Hid (∀ k, (Value.slice ao3 (ws.length + us.length) cp3).ownBlock = some k → w3.heap.size + 1 ≤ k ∧ k < w4.heap.size) := HO3.out.lt
        have H14 := Lib.hid h14
        clear h24 h14 hg2 hb34 hb23 hb12 hb01 HO1 HO2
        obtain ⟨n2, hn2⟩ : ∃ n, us.length = n := ⟨_, rfl⟩
        obtain ⟨n1, hn1⟩ : ∃ n, ws.length = n := ⟨_, rfl⟩
        have HN2 := Lib.hid hn2
        rw [hn2] at gu hcp2 H24 HL3 HO3 HG3 ⊢
        rw [hn1] at gw H14 HL3 HO3 HG1 HG3 ⊢
        have H1N : Hid (flatW ws ++ flatW (us.map (shW (ca + 1))) = flatW (ws ++ us.map (shW (ca + 1)))) := (flatW_append _ _).symm
        clear hn2 hn1
        go_wp2
        go_loopw [16] (fun i wr => ∃ k : Nat, k ≤ n2 ∧ i = .int .i64 k ∧ wr.ownsRow (w2.heap.size + 1) 30 4 (.slice (some ⟨g2, 0, none⟩) n2 cp2) n2 (flatW (shTo (ca + 1) k us)) ∧ w4.grownBy wr (some g2) ∧ wr.heap.size = w4.heap.size) (fun i _ => n2 - (intOf i).toNat)
        case atStart => exact ⟨0, Nat.zero_le _, rfl, by rw [shTo_zero]; exact H24.out, World.grownBy.refl _ _, rfl⟩
        case round =>
          obtain ⟨k, hk, rfl, hown, hgr, hsz⟩ := hrel
          have HOw := Lib.hid hown
          have HGr := Lib.hid hgr
          have HSz := Lib.hid hsz
          clear hgr hsz
          by_cases hlt2 : k < n2
          · have hku : k < us.length := by rw [HN2.out]; exact hlt2
            have hfl := flatW_at (shTo (ca + 1) k us) k (by rw [shTo_len]; exact hku)
            rw [shTo_at _ _ _ hku] at hfl
            have c3 : wr.cell? ⟨g2, k * 4 + 3, none⟩ = some (.int .i64 (us[k].line : Nat)) := by rw [hown.cellAt (k * 4 + 3) (by omega)]; exact hfl.2.2.2
            have f3 : wr.frozen? ⟨g2, k * 4 + 3, none⟩ = false := hown.frozenAt _
            have hln := HLN.out k hku
            have hst := hown.stored (k * 4 + 3) (.int .i64 ((us[k].line : Int) + (ca + 1 : Nat)))
            rw [← flatW_shTo (ca + 1) k us hku] at hst
            obtain ⟨ln, hl⟩ : ∃ ln, us[k].line = ln := ⟨_, rfl⟩
            rw [hl] at c3 hln hst
            have g6 : (k : Int) < (n2 : Int) := by omega
            have g7 : k < cp2 := by omega
            have hadd : (ln : Int) + (1 + (ca : Int)) = (ln : Int) + ((ca + 1 : Nat) : Int) := by omega
            have HAdd := Lib.hid hadd
            have HSt := Lib.hid hst
            clear hown hfl hl hst hadd
            go_wp2
            go_roundw
            case rel =>
              refine ⟨k + 1, by omega, by go_num, ?_⟩
              rw [HAdd.out]
              exact ⟨HSt.out.1, HGr.out.trans HSt.out.2, by simpa using HSz.out⟩
            case measure => simp [intOf]; omega
          · obtain rfl : k = n2 := by omega
            have hx : flatW (shTo (ca + 1) k us) = flatW (us.map (shW (ca + 1))) := by rw [← HN2.out, shTo_all]
            rw [hx] at HOw
            have h1r : wr.ownsRow (w1.heap.size + 1) 30 4 (.slice ao1 n1 cp1) n1 (flatW ws) := H14.out.kept HGr.out (by
              right
              intro e
              have := HG1.out _ e
              have := HSZ.out.2.1
              omega)
            have h3r : wr.ownsRow (w3.heap.size + 1) 30 4 (.slice ao3 (n1 + k) cp3) (n1 + k) (flatW (ws ++ us.map (shW (ca + 1)))) := HO3.out.kept HGr.out (by
              right
              intro e
              have := HG3.out _ e
              have := HSZ.out.2.2.1
              omega)
            have H1R := Lib.hid h1r
            have H3R := Lib.hid h3r
            have HBR : Hid (Below w.heap.size w wr) := HB4.out.1.grown HGr.out (by have := HSZ.out; omega) (fun j hj => by have := HSZ.out; injection hj with hj; omega)
            have HFL : Hid ((flatW (us.map (shW (ca + 1)))).length = k * 4) := by
              have := flatW_length (us.map (shW (ca + 1)))
              rw [List.length_map, HN2.out] at this
              exact this
            clear hx h1r h3r hown
            go_wp2_with (at_builtin; refine wpList_append_own _ rfl _ _ 22 rfl (w1.heap.size + 1) 30 i0 (.agg #[.int .u8 0, .string ⟨#[]⟩, .int .i64 0, .int .i64 0]) 4 40 Tryd.underlying22 hi hz0 hz1 hz2 rfl (by decide) _ _ _ rfl H1R.out ⟨g2, 0, none⟩ k cp2 (flatW (us.map (shW (ca + 1)))) rfl ?c0 ?c1 ?c2 ?c3 ?c4 ?c5 ?_)
            case c0 => exact HFL.out
            case c1 => exact HOw.out.cells (g := g2) rfl
            case c2 => exact flatW_one _
            case c3 => unfold maxLen; omega
            case c4 => omega
            case c5 => have := HSZ.out; have := HSz.out; omega
            intro v' w5 hown' hgrow _
            have h5 : Wds w5 v' (ws ++ us.map (shW (ca + 1))) := Wds.of_own (by rw [HL3.out, ← H1N.out]; exact hown')
            have h6 : Wds w5 (.slice ao3 (n1 + k) cp3) (ws ++ us.map (shW (ca + 1))) := Wds.of_own (base := w3.heap.size + 1) (by
              rw [HL3.out]
              refine H3R.out.kept hgrow ?_
              by_cases hn : (Value.slice ao3 (n1 + k) cp3).ownBlock = none
              · exact .inl hn
              · right
                obtain ⟨q, hq⟩ := Option.ne_none_iff_exists'.1 hn
                rw [hq]
                intro e
                have h1 := HG3.out _ hq
                have h2 := HG1.out _ e.symm
                have := HSZ.out
                omega)
            have hb5 : Below w.heap.size w w5 := HBR.out.grown hgrow (by have := HSZ.out; have := HSz.out; omega) (fun j hj => by have := HG1.out _ hj; have := HSZ.out; omega)
            have H56 := Lib.hid (And.intro h5 h6)
            have HB5 := Lib.hid hb5
            clear h5 h6 hb5 hown' hgrow
            go_wp2_with (go_at_call 11; (with_reducible refine (HSM.out _ _ _ H56.out.2 H56.out.1).mono ?_); rintro e w6 ⟨rfl, m6, rfl⟩)
            go_ret
            exact ⟨rfl, HB5.out.os, HB5.out.tape, HB5.out.output, HB5.out.size, HB5.out.block⟩

/-- LexJoins, of any two texts. -/
theorem joins_any (a b : ByteArray) (w : World) (ht : LTabs w) (ha : a.size ≤ 140737488355328) (hb : b.size ≤ 140737488355328) :
    Calls Tryd.prog 5 #[.string a, .string b] w fun e w' => e = .returned (.bool true) ∧ Below w.heap.size w w' := by
  by_cases hs : a.size + b.size ≤ 65535
  · cases hr1 : LX.lex 0 a.data.toList with
    | err n => exact joins_err1 a b n w ht hs hr1
    | ok ws =>
      cases hr2 : LX.lex 0 b.data.toList with
      | err n => exact joins_err2 a b n ws w ht hs hr1 hr2
      | ok us => exact joins_ok a b ws us w ht hs hr1 hr2
  · exact joins_big a b w ht ha hb (by omega)
end Go.Proofs.YtpnbnomaaeoemaaDoor
