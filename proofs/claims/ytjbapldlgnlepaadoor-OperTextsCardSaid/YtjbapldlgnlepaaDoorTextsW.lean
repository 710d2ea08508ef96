/-
  Walks: OperTexts returns true; old memory is as it was.
  Conditions: the three texts are no longer than the reach; the three tables hold what the program's text lays in them.
-/
import Derived.Test.YtjbapldlgnlepaaDoorBoxF
import Derived.Sort.Walk0
import Derived.Deep.DeepCutAuto
namespace Go.Proofs.YtjbapldlgnlepaaDoor
open Go.RowKit Go.Deep Go.WideShapes

theorem bcat_is (a b : ByteArray) : a ++ b = bcat a b := by
  cases a; cases b
  simp [bcat, ByteArray.ext_iff]
theorem less_tri : ∀ x y : List UInt8, bq (Op.bytesLess x y) + bq (Op.bytesLess y x) + bq (x == y) = 1
  | [], [] => rfl
  | [], _ :: _ => rfl
  | _ :: _, [] => rfl
  | a :: x, b :: y => by
    have ih := less_tri x y
    simp only [Op.bytesLess, List.cons_beq_cons]
    by_cases h1 : a < b
    · have h2 : ¬ b < a := by rw [UInt8.lt_iff_toNat_lt] at h1 ⊢; omega
      have h3 : (a == b) = false := by rw [beq_eq_false_iff_ne]; rintro rfl; exact h2 h1
      have h4 : (b == a) = false := by rw [beq_eq_false_iff_ne]; rintro rfl; exact h2 h1
      simp [h1, h2, h3, h4, bq]
    · by_cases h2 : b < a
      · have h3 : (a == b) = false := by rw [beq_eq_false_iff_ne]; rintro rfl; exact h1 h2
        have h4 : (b == a) = false := by rw [beq_eq_false_iff_ne]; rintro rfl; exact h1 h2
        simp [h1, h2, h3, h4, bq]
      · have h3 : a = b := by rw [← UInt8.toNat_inj]; rw [UInt8.lt_iff_toNat_lt] at h1 h2; omega
        subst h3
        simp only [h1, decide_false, Bool.false_or, beq_self_eq_true, Bool.true_and]
        exact ih
theorem t_lt {a b : ByteArray} {z : Int} (ha : a.size ≤ 4096) (hb : b.size ≤ 4096) (h : bq (Op.bytesLess a.toList b.toList) = z) : Fact ⟨#[108, 116]⟩ 2 (v2 (vz 3 0 a) (vz 3 0 b)) true 2 z ⟨#[]⟩ := fact_yes (by rw [← h]; exact do_lts a b ha hb)
theorem t_eq {a b : ByteArray} {z : Int} (ha : a.size ≤ 4096) (hb : b.size ≤ 4096) (h : bq (a.toList == b.toList) = z) : Fact ⟨#[101, 113]⟩ 2 (v2 (vz 3 0 a) (vz 3 0 b)) true 2 z ⟨#[]⟩ := fact_yes (by
  rw [← h]
  have h1 := do_eq (sv a) (sv b) (by rw [sv_check]; exact decide_eq_true ha) (by rw [sv_check]; exact decide_eq_true hb)
  rw [sv_eq, show decide (a = b) = (a.toList == b.toList) by
    rw [ByteArray.toList_eq, ByteArray.toList_eq]
    by_cases e : a = b
    · subst e; simp
    · have : ¬ a.data.toList = b.data.toList := fun h => e (bytes_list h)
      simp [e]
      simpa using this] at h1
  exact h1)
theorem t_cat2 {a b c : ByteArray} (hs : a.size + b.size ≤ 4096) (h : bcat a b = c) : Fact ⟨#[99, 97, 116]⟩ 2 (v2 (vz 3 0 a) (vz 3 0 b)) true 3 0 c := fact_yes (by rw [← h]; exact do_cat2 a b hs)
theorem t_cat3 {a b c d : ByteArray} (hs : a.size + b.size + c.size ≤ 4096) (h : bcat (bcat a b) c = d) : Fact ⟨#[99, 97, 116]⟩ 3 (v3 (vz 3 0 a) (vz 3 0 b) (vz 3 0 c)) true 3 0 d := fact_yes (by rw [← h]; exact do_cat3 a b c hs)
theorem t_len {a : ByteArray} (hs : a.size ≤ 4096) : Fact ⟨#[108, 101, 110]⟩ 1 (v1 (vz 3 0 a)) true 1 a.size ⟨#[]⟩ := fact_yes (do_lens a hs)
theorem t_text {a : ByteArray} (hs : a.size ≤ 4096) : Fact ⟨#[116, 101, 120, 116]⟩ 1 (v1 (vz 3 0 a)) true 3 0 a := fact_yes (do_texts a hs)

set_option maxRecDepth 100000 in
set_option maxHeartbeats 8000000 in
theorem texts_any (a b c : ByteArray) (w : World) (ht : Tabs w) (ha : a.size ≤ 140737488355328) (hb : b.size ≤ 140737488355328) (hc : c.size ≤ 140737488355328) :
    Calls Tryd.prog 4 #[.string a, .string b, .string c] w fun e w' => e = .returned (.bool true) ∧ Below w.heap.size w w' := by
  have HB := Lib.hid (bx_nil ht)
  have HA := Lib.hid (fun W (h : Tabs W) => alive2_any W h)
  have HT := Lib.hid (fun W' (h : Below w.heap.size w W') => ht.below h)
  clear ht
  by_cases hs : a.size + b.size + c.size ≤ 4096
  case neg =>
    have hs' : (4096 : Int) < (a.size : Int) + (b.size : Int) + (c.size : Int) := by omega
    have g1 : (0 : Int) ≤ (a.size : Int) ∧ (a.size : Int) ≤ 140737488355328 := by omega
    have g2 : (0 : Int) ≤ (b.size : Int) ∧ (b.size : Int) ≤ 140737488355328 := by omega
    have g3 : (0 : Int) ≤ (c.size : Int) ∧ (c.size : Int) ≤ 140737488355328 := by omega
    obtain ⟨g1a, g1b⟩ := g1
    obtain ⟨g2a, g2b⟩ := g2
    obtain ⟨g3a, g3b⟩ := g3
    clear hs ha hb hc
    go_enter Tryd.func4, Tryd.ntmps4
    go_wp2_with (go_at_call 9; (with_reducible refine (HA.out _ HB.out.tabs).mono ?_); rintro q w1 ⟨rfl, hb1⟩; replace HB := Lib.hid (HB.out.below hb1); clear hb1)
    go_ret
    exact ⟨rfl, HB.out.low⟩
  case pos =>
  have la : a.size ≤ 4096 := by omega
  have lb : b.size ≤ 4096 := by omega
  have lc : c.size ≤ 4096 := by omega
  have htri := less_tri a.toList b.toList
  obtain ⟨t1, ht1⟩ : ∃ t, Op.bytesLess a.toList b.toList = t := ⟨_, rfl⟩
  rw [ht1] at htri
  obtain ⟨l1, hl1⟩ : ∃ z, bq t1 = z := ⟨_, rfl⟩
  obtain ⟨l2, hl2⟩ : ∃ z, bq (Op.bytesLess b.toList a.toList) = z := ⟨_, rfl⟩
  obtain ⟨l3, hl3⟩ : ∃ z, bq (a.toList == b.toList) = z := ⟨_, rfl⟩
  have r1 := bq_range t1
  have r2 := bq_range (Op.bytesLess b.toList a.toList)
  have r3 := bq_range (a.toList == b.toList)
  rw [hl1, hl2, hl3] at htri
  rw [hl1] at r1
  rw [hl2] at r2
  rw [hl3] at r3
  obtain ⟨ab, hab⟩ : ∃ x, bcat a b = x := ⟨_, rfl⟩
  obtain ⟨abc, habc⟩ : ∃ x, bcat ab c = x := ⟨_, rfl⟩
  have sab : ab.size = a.size + b.size := by rw [← hab]; exact bcat_size a b
  have sabc : abc.size = a.size + b.size + c.size := by rw [← habc, bcat_size, sab]
  have F1 := Lib.hid (t_lt la lb (z := l1) (by rw [ht1]; exact hl1))
  have F2 := Lib.hid (t_lt lb la hl2)
  have F3 := Lib.hid (t_eq la lb hl3)
  have F4 := Lib.hid (t_cat2 (by omega) hab)
  have F5 := Lib.hid (t_cat2 (a := ab) (b := c) (by omega) habc)
  have F6 := Lib.hid (t_cat3 hs (d := abc) (by rw [hab]; exact habc))
  have F7 := Lib.hid (t_len (a := abc) (by omega))
  have F8 := Lib.hid (t_text (a := abc) (by omega))
  have KA := Lib.hid (ok_sv (s := a) (by unfold maxLen; omega))
  have KB := Lib.hid (ok_sv (s := b) (by unfold maxLen; omega))
  have KC := Lib.hid (ok_sv (s := c) (by unfold maxLen; omega))
  have HS1 : Hid (IntKind.i64.wrap (l1 + l2) = l1 + l2) := IntWalk.i64_in _ (by omega)
  have HS2 : Hid (IntKind.i64.wrap (l1 + l2 + l3) = 1) := by rw [htri]; rfl
  have HE1 : Hid ((l1 == 1) = t1) := by rw [← hl1]; cases t1 <;> rfl
  have HL1 := Lib.hid ht1
  have HK1 : Hid (∀ w, (Op.stringOp .add a b).run Tryd.prog w = .ok (.string ab) w) := fun w => by rw [← hab, ← bcat_is]; exact run_string_add_sum w _ _ (by omega)
  have HK2 : Hid (∀ w, (Op.stringOp .add ab c).run Tryd.prog w = .ok (.string abc) w) := fun w => by rw [← habc, ← bcat_is]; exact run_string_add_sum w _ _ (by omega)
  have hs' : ¬ (4096 : Int) < (a.size : Int) + (b.size : Int) + (c.size : Int) := by omega
  have g1a : (0 : Int) ≤ (a.size : Int) := by omega
  have g1b : (a.size : Int) ≤ 4096 := by omega
  have g2a : (0 : Int) ≤ (b.size : Int) := by omega
  have g2b : (b.size : Int) ≤ 4096 := by omega
  have g3a : (0 : Int) ≤ (c.size : Int) := by omega
  have g3b : (c.size : Int) ≤ 4096 := by omega
  clear hs ha hb hc la lb lc htri ht1 hl1 hl2 hl3 r1 r2 r3 hab habc sab sabc
  go_enter Tryd.func4, Tryd.ntmps4
  go_upto_region 3 with (go_at_call 9; (with_reducible refine (HA.out _ HB.out.tabs).mono ?_); rintro q w1 ⟨rfl, hb1⟩; replace HB := Lib.hid (HB.out.below hb1); clear hb1)
  clear hs' g1a g1b g2a g2b g3a g3b
  go_upto_region 4 with (first
      | (go_at_call 8; (with_reducible refine (doF2 _ HB.out.tabs KA.out KB.out F1.out).mono ?_); rintro q w1 ⟨lap1, lcp1, fap1, fcp1, rfl, hok, hb1⟩; (have HOp1 := Lib.hid hok); replace HB := Lib.hid (HB.out.below hb1); clear hok hb1)
      | (go_at_call 10; (with_reducible refine (text_fl _ _).mono ?_); rintro q w1 ⟨rfl, hb1⟩; replace HB := Lib.hid (HB.out.below hb1); clear hb1))
  replace HB := Lib.hid (HB.out.push [.int .u8 2, .int .i64 l1, .string ⟨#[]⟩, .slice lap1 0 lcp1, .slice fap1 0 fcp1, .int .u8 0, .string ⟨#[]⟩, .bool false] 27)
  revert HB
  generalize w1.alloc (.cells #[.int .u8 2, .int .i64 l1, .string ⟨#[]⟩, .slice lap1 0 lcp1, .slice fap1 0 fcp1, .int .u8 0, .string ⟨#[]⟩, .bool false] 27) = W
  generalize w1.heap.size = p1
  intro HB
  go_upto_region 5 with (first
      | (go_at_call 8; (with_reducible refine (doF2 _ HB.out.tabs KB.out KA.out F2.out).mono ?_); rintro q w1 ⟨lap2, lcp2, fap2, fcp2, rfl, hok, hb1⟩; (have HOp2 := Lib.hid hok); replace HB := Lib.hid (HB.out.below hb1); clear hok hb1)
      | (go_at_call 10; (with_reducible refine (text_fl _ _).mono ?_); rintro q w1 ⟨rfl, hb1⟩; replace HB := Lib.hid (HB.out.below hb1); clear hb1))
  replace HB := Lib.hid (HB.out.push [.int .u8 2, .int .i64 l2, .string ⟨#[]⟩, .slice lap2 0 lcp2, .slice fap2 0 fcp2, .int .u8 0, .string ⟨#[]⟩, .bool false] 27)
  revert HB
  generalize w1.alloc (.cells #[.int .u8 2, .int .i64 l2, .string ⟨#[]⟩, .slice lap2 0 lcp2, .slice fap2 0 fcp2, .int .u8 0, .string ⟨#[]⟩, .bool false] 27) = W
  generalize w1.heap.size = p2
  intro HB
  go_upto_region 6 with (first
      | (go_at_call 8; (with_reducible refine (doF2 _ HB.out.tabs KA.out KB.out F3.out).mono ?_); rintro q w1 ⟨lap3, lcp3, fap3, fcp3, rfl, hok, hb1⟩; (have HOp3 := Lib.hid hok); replace HB := Lib.hid (HB.out.below hb1); clear hok hb1)
      | (go_at_call 10; (with_reducible refine (text_fl _ _).mono ?_); rintro q w1 ⟨rfl, hb1⟩; replace HB := Lib.hid (HB.out.below hb1); clear hb1))
  replace HB := Lib.hid (HB.out.push [.int .u8 2, .int .i64 l3, .string ⟨#[]⟩, .slice lap3 0 lcp3, .slice fap3 0 fcp3, .int .u8 0, .string ⟨#[]⟩, .bool false] 27)
  revert HB
  generalize w1.alloc (.cells #[.int .u8 2, .int .i64 l3, .string ⟨#[]⟩, .slice lap3 0 lcp3, .slice fap3 0 fcp3, .int .u8 0, .string ⟨#[]⟩, .bool false] 27) = W
  generalize w1.heap.size = p3
  intro HB
  go_upto_region 7 with (first
      | (go_at_call 8; (with_reducible refine (doF2 _ HB.out.tabs KA.out KB.out F4.out).mono ?_); rintro q w1 ⟨lap4, lcp4, fap4, fcp4, rfl, hok, hb1⟩; (have HOp4 := Lib.hid hok); replace HB := Lib.hid (HB.out.below hb1); clear hok hb1)
      | (go_at_call 10; (with_reducible refine (text_fl _ _).mono ?_); rintro q w1 ⟨rfl, hb1⟩; replace HB := Lib.hid (HB.out.below hb1); clear hb1))
  replace HB := Lib.hid (HB.out.push [.int .u8 3, .int .i64 0, .string ab, .slice lap4 0 lcp4, .slice fap4 0 fcp4, .int .u8 0, .string ⟨#[]⟩, .bool false] 27)
  revert HB
  generalize w1.alloc (.cells #[.int .u8 3, .int .i64 0, .string ab, .slice lap4 0 lcp4, .slice fap4 0 fcp4, .int .u8 0, .string ⟨#[]⟩, .bool false] 27) = W
  generalize w1.heap.size = p4
  intro HB
  go_cut [15, 16] (fun s15 s16 wx => ∃ b la lc fa fc, s15 = .pointer (some ⟨b, 0, none⟩) ∧ s16 = .bool true ∧ FlOk 3 0 abc lc fc ∧ BX w ((b, [.int .u8 3, .int .i64 0, .string abc, .slice la 0 lc, .slice fa 0 fc, .int .u8 0, .string ⟨#[]⟩, .bool false]) :: [(p4, [.int .u8 3, .int .i64 0, .string ab, .slice lap4 0 lcp4, .slice fap4 0 fcp4, .int .u8 0, .string ⟨#[]⟩, .bool false]), (p3, [.int .u8 2, .int .i64 l3, .string ⟨#[]⟩, .slice lap3 0 lcp3, .slice fap3 0 fcp3, .int .u8 0, .string ⟨#[]⟩, .bool false]), (p2, [.int .u8 2, .int .i64 l2, .string ⟨#[]⟩, .slice lap2 0 lcp2, .slice fap2 0 fcp2, .int .u8 0, .string ⟨#[]⟩, .bool false]), (p1, [.int .u8 2, .int .i64 l1, .string ⟨#[]⟩, .slice lap1 0 lcp1, .slice fap1 0 fcp1, .int .u8 0, .string ⟨#[]⟩, .bool false])]) wx)
  case first =>
    obtain ⟨c0, c1, c2, c3, c4, c5, c6, c7⟩ := bx_get (HB.out.at' _ (.head _))
    obtain ⟨d0, d1, d2, d3, d4, d5, d6, d7⟩ := bx_get ((HB.out.alloc (.cells #[.int .u8 0, .int .i64 0, .string ⟨#[]⟩, .slice none 0 0, .slice none 0 0, .int .u8 0, .string ⟨#[]⟩, .bool false] 27)).at' _ (.head _))
    go_region_with (first
      | (go_at_call 10; (with_reducible refine (text_fl _ _).mono ?_); rintro q w1 ⟨rfl, hb1⟩; (first | (have hz1 := Lib.hid (zb_T hb1)) | skip); (first | (have HB1 := Lib.hid (HB.out.drew.below hb1)) | (have HB1 := Lib.hid ((HB.out.alloc _).drew.below hb1))); clear hb1 c0 c1 c2 c3 c4 c5 c6 c7 d0 d1 d2 d3 d4 d5 d6 d7; obtain ⟨c0, c1, c2, c3, c4, c5, c6, c7⟩ := bx_get (HB1.out.at' _ (.head _)); obtain ⟨d0, d1, d2, d3, d4, d5, d6, d7⟩ := bx_get ((HB1.out.alloc (.cells #[.int .u8 0, .int .i64 0, .string ⟨#[]⟩, .slice none 0 0, .slice none 0 0, .int .u8 0, .string ⟨#[]⟩, .bool false] 27)).at' _ (.head _)))
      | (go_at_call 8; (first
          | (with_reducible refine (doF2_at (at_new rfl (Below.refl _ _)) (HB1.out.alloc _).tabs HOp4.out KC.out F5.out).mono ?_)
          | (with_reducible refine (doF2_at (at_new (by simp) (Below.refl _ _)) ((HB1.out.alloc _).alloc _).tabs HOp4.out KC.out F5.out).mono ?_)
          | (with_reducible refine (doF2_at (At.below (below_alloc _ _) (at_new rfl (Below.refl _ _))) ((HB1.out.alloc _).alloc _).tabs HOp4.out KC.out F5.out).mono ?_)
          | (trace_state; fail)); rintro q w2 ⟨lap5, lcp5, fap5, fcp5, rfl, hok, hb2⟩; (have HOp5 := Lib.hid hok); (first | (have hz2 := Lib.hid (zb_B hb2)) | (have hz2 := Lib.hid (zb_C hb2)) | (have hz2 := Lib.hid (hz1.out.below (below_al hb2))) | skip); (first | (have HB2 := Lib.hid (HB1.out.below (below_al hb2))) | (have HB2 := Lib.hid (HB1.out.below (below_al (below_al hb2))))); clear hok hb2; (first | (obtain ⟨⟨b0, b1, b2, b3, b4, b5, b6, b7⟩, f0, f1, f2, f3, f4, f5, f6, f7⟩ := hz2.out.slots) | skip)))
    all_goals go_wp2_with fail
    all_goals go_meet
    all_goals first
    | exact ⟨_, _, _, _, _, rfl, rfl, HOp5.out, HB2.out.push _ _⟩
    | exact ⟨_, _, _, _, _, rfl, rfl, HOp5.out, HB1.out.store' HB2.out (Nat.le_refl _) hz2.out rfl HT.out _ rfl⟩
    | exact ⟨_, _, _, _, _, rfl, rfl, HOp5.out, HB1.out.store' HB2.out (Nat.le_succ _) hz2.out rfl HT.out _ rfl⟩
    | exact ⟨_, _, _, _, _, rfl, rfl, HOp5.out, HB.out.store' HB2.out (Nat.le_refl _) hz2.out rfl HT.out _ rfl⟩
    | exact ⟨_, _, _, _, _, rfl, rfl, HOp5.out, HB.out.store' HB2.out (Nat.le_succ _) hz2.out rfl HT.out _ rfl⟩
  case rest =>
    clear HB HOp4
    obtain ⟨p5, lap5, lcp5, fap5, fcp5, rfl, rfl, hok, hbx⟩ := hcut
    have HOp5 := Lib.hid hok
    have HB := Lib.hid hbx
    clear hok hbx
    go_upto_region 9 with (first
        | (go_at_call 8; (with_reducible refine (doF3 _ HB.out.tabs KA.out KB.out KC.out F6.out).mono ?_); rintro q w1 ⟨lap6, lcp6, fap6, fcp6, rfl, hok, hb1⟩; (have HOp6 := Lib.hid hok); replace HB := Lib.hid (HB.out.below hb1); clear hok hb1)
        | (go_at_call 10; (with_reducible refine (text_fl _ _).mono ?_); rintro q w1 ⟨rfl, hb1⟩; replace HB := Lib.hid (HB.out.below hb1); clear hb1))
    replace HB := Lib.hid (HB.out.push [.int .u8 3, .int .i64 0, .string abc, .slice lap6 0 lcp6, .slice fap6 0 fcp6, .int .u8 0, .string ⟨#[]⟩, .bool false] 27)
    revert HB
    generalize w1.alloc (.cells #[.int .u8 3, .int .i64 0, .string abc, .slice lap6 0 lcp6, .slice fap6 0 fcp6, .int .u8 0, .string ⟨#[]⟩, .bool false] 27) = W
    generalize w1.heap.size = p6
    intro HB
    obtain ⟨c0, c1, c2, c3, c4, c5, c6, c7⟩ := bx_get (HB.out.at' _ (.head _))
    go_upto_region 10 with (go_at_call 8; (with_reducible refine (doF1 _ HB.out.tabs HOp6.out F7.out).mono ?_); rintro q w1 ⟨lap7, lcp7, fap7, fcp7, rfl, hok, hb1⟩; (have HOp7 := Lib.hid hok); replace HB := Lib.hid (HB.out.below hb1); clear hok hb1)
    replace HB := Lib.hid (HB.out.push [.int .u8 1, .int .i64 abc.size, .string ⟨#[]⟩, .slice lap7 0 lcp7, .slice fap7 0 fcp7, .int .u8 0, .string ⟨#[]⟩, .bool false] 27)
    revert HB
    generalize w1.alloc (.cells #[.int .u8 1, .int .i64 abc.size, .string ⟨#[]⟩, .slice lap7 0 lcp7, .slice fap7 0 fcp7, .int .u8 0, .string ⟨#[]⟩, .bool false] 27) = W
    generalize w1.heap.size = p7
    intro HB
    clear c0 c1 c2 c3 c4 c5 c6 c7
    obtain ⟨c0, c1, c2, c3, c4, c5, c6, c7⟩ := bx_get (HB.out.at' _ (.tail _ (.head _)))
    go_upto_region 11 with (go_at_call 8; (with_reducible refine (doF1 _ HB.out.tabs HOp6.out F8.out).mono ?_); rintro q w1 ⟨lap8, lcp8, fap8, fcp8, rfl, hok, hb1⟩; (have HOp8 := Lib.hid hok); replace HB := Lib.hid (HB.out.below hb1); clear hok hb1)
    replace HB := Lib.hid (HB.out.push [.int .u8 3, .int .i64 0, .string abc, .slice lap8 0 lcp8, .slice fap8 0 fcp8, .int .u8 0, .string ⟨#[]⟩, .bool false] 27)
    revert HB
    generalize w1.alloc (.cells #[.int .u8 3, .int .i64 0, .string abc, .slice lap8 0 lcp8, .slice fap8 0 fcp8, .int .u8 0, .string ⟨#[]⟩, .bool false] 27) = W
    generalize w1.heap.size = p8
    intro HB
    clear c0 c1 c2 c3 c4 c5 c6 c7
    have g0 := (bx_get (HB.out.at' _ (.tail _ (.tail _ (.tail _ (.tail _ (.tail _ (.tail _ (.tail _ (.head _)))))))))).2.1
    have g1 := (bx_get (HB.out.at' _ (.tail _ (.tail _ (.tail _ (.tail _ (.tail _ (.tail _ (.head _))))))))).2.1
    have g2 := (bx_get (HB.out.at' _ (.tail _ (.tail _ (.tail _ (.tail _ (.tail _ (.head _)))))))).2.1
    have g3 := (bx_get (HB.out.at' _ (.tail _ (.head _)))).2.1
    have k0 := (bx_get (HB.out.at' _ (.tail _ (.tail _ (.tail _ (.head _)))))).2.2.1
    have k1 := (bx_get (HB.out.at' _ (.tail _ (.tail _ (.head _))))).2.2.1
    have k2 := (bx_get (HB.out.at' _ (.head _))).2.2.1
    have hs1 := HS1.out
    have hs2 := HS2.out
    have he1 := HE1.out
    have hl1 := HL1.out
    have hk1 := HK1.out
    have hk2 := HK2.out
    go_wp2_with fail
    go_ret
    exact ⟨rfl, HB.out.low⟩
end Go.Proofs.YtjbapldlgnlepaaDoor
