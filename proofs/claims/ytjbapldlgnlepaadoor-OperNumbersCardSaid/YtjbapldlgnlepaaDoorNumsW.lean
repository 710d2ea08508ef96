/-
  Walks: OperNumbers returns true; old memory is as it was.
  Conditions: the three numbers are in range; the three tables hold what the program's text lays in them.
-/
import Derived.Test.YtjbapldlgnlepaaDoorOpNum
namespace Go.Proofs.YtjbapldlgnlepaaDoor
open Go.RowKit Go.Deep Go.WideShapes

set_option maxRecDepth 100000 in
set_option maxHeartbeats 8000000 in
theorem numbers_any (a b c : Int) (w : World) (ht : Tabs w) (ha : -9223372036854775808 ≤ a ∧ a ≤ 9223372036854775807) (hb : -9223372036854775808 ≤ b ∧ b ≤ 9223372036854775807) (hc : -9223372036854775808 ≤ c ∧ c ≤ 9223372036854775807) :
    Calls Tryd.prog 3 #[.int .i64 a, .int .i64 b, .int .i64 c] w fun e w' => e = .returned (.bool true) ∧ Below w.heap.size w w' := by
  have HB := Lib.hid (bx_nil ht)
  have HA := Lib.hid (fun W (h : Tabs W) => alive2_any W h)
  obtain ⟨zs, hzs⟩ : ∃ z, wrap64 (a + b) = z := ⟨_, rfl⟩
  obtain ⟨zp, hzp⟩ : ∃ z, wrap64 (a * b) = z := ⟨_, rfl⟩
  obtain ⟨zr, hzr⟩ : ∃ z, wrap64 (b + c) = z := ⟨_, rfl⟩
  obtain ⟨zl, hzl⟩ : ∃ z, wrap64 (a * zr) = z := ⟨_, rfl⟩
  obtain ⟨zc, hzc⟩ : ∃ z, wrap64 (a * c) = z := ⟨_, rfl⟩
  obtain ⟨l1, hl1⟩ : ∃ z, bq (decide (a < b)) = z := ⟨_, rfl⟩
  obtain ⟨l2, hl2⟩ : ∃ z, bq (decide (b < a)) = z := ⟨_, rfl⟩
  obtain ⟨l3, hl3⟩ : ∃ z, bq (decide (a = b)) = z := ⟨_, rfl⟩
  have htri := tri a b
  have r1 := bq_range (decide (a < b))
  have r2 := bq_range (decide (b < a))
  have r3 := bq_range (decide (a = b))
  rw [hl1, hl2, hl3] at htri
  rw [hl1] at r1
  rw [hl2] at r2
  rw [hl3] at r3
  have F1 := Lib.hid (n_add hzs)
  have F2 := Lib.hid (n_sub (a := zs) (b := b) (z := a) (by rw [← hzs]; exact wrap_back ha))
  have F3 := Lib.hid (n_add (a := b) (b := a) (z := zs) (by rw [Int.add_comm]; exact hzs))
  have F4 := Lib.hid (n_mul hzp)
  have F5 := Lib.hid (n_mul (a := b) (b := a) (z := zp) (by rw [Int.mul_comm]; exact hzp))
  have F6 := Lib.hid (n_add hzr)
  have F7 := Lib.hid (n_mul hzl)
  have F8 := Lib.hid (n_mul hzc)
  have F9 := Lib.hid (n_add (a := zp) (b := zc) (z := zl) (by rw [← hzp, ← hzc, ← hzl, ← hzr]; exact wrap_dist a b c))
  have F10 := Lib.hid (n_lt hl1)
  have F11 := Lib.hid (n_lt hl2)
  have F12 := Lib.hid (n_eq hl3)
  have KA := Lib.hid (ok_iv ha)
  have KB := Lib.hid (ok_iv hb)
  have KC := Lib.hid (ok_iv hc)
  have HS1 : Hid (IntKind.i64.wrap (l1 + l2) = l1 + l2) := IntWalk.i64_in _ (by omega)
  have HS2 : Hid (IntKind.i64.wrap (l1 + l2 + l3) = 1) := by rw [htri]; rfl
  clear ht ha hb hc hzs hzp hzr hzl hzc hl1 hl2 hl3 htri r1 r2 r3
  go_enter Tryd.func3, Tryd.ntmps3
  go_upto_region 2 with (go_at_call 7; (with_reducible refine (number_fl _ _).mono ?_); rintro q w1 ⟨rfl, hb1⟩; replace HB := Lib.hid (HB.out.below hb1); clear hb1)
  replace HB := Lib.hid (HB.out.push3 [.int .u8 1, .int .i64 a, .string ⟨#[]⟩, .slice none 0 0, .slice none 0 0, .int .u8 0, .string ⟨#[]⟩, .bool false] [.int .u8 1, .int .i64 b, .string ⟨#[]⟩, .slice none 0 0, .slice none 0 0, .int .u8 0, .string ⟨#[]⟩, .bool false] [.int .u8 1, .int .i64 c, .string ⟨#[]⟩, .slice none 0 0, .slice none 0 0, .int .u8 0, .string ⟨#[]⟩, .bool false] 27)
  revert HB
  generalize ((w1.alloc (.cells #[.int .u8 1, .int .i64 a, .string ⟨#[]⟩, .slice none 0 0, .slice none 0 0, .int .u8 0, .string ⟨#[]⟩, .bool false] 27)).alloc (.cells #[.int .u8 1, .int .i64 b, .string ⟨#[]⟩, .slice none 0 0, .slice none 0 0, .int .u8 0, .string ⟨#[]⟩, .bool false] 27)).alloc (.cells #[.int .u8 1, .int .i64 c, .string ⟨#[]⟩, .slice none 0 0, .slice none 0 0, .int .u8 0, .string ⟨#[]⟩, .bool false] 27) = W
  generalize w1.heap.size = bb
  intro HB
  obtain ⟨c0, c1, c2, c3, c4, c5, c6, c7⟩ := bx_get (HB.out.at' _ (.tail _ (.tail _ (.head _))))
  obtain ⟨d0, d1, d2, d3, d4, d5, d6, d7⟩ := bx_get (HB.out.at' _ (.tail _ (.head _)))
  go_upto_region 3 with (go_at_call 8; (with_reducible refine (doF2 _ HB.out.tabs KA.out KB.out F1.out).mono ?_); rintro q w1 ⟨lap1, lcp1, fap1, fcp1, rfl, hok, hb1⟩; (have HOp1 := Lib.hid hok); replace HB := Lib.hid (HB.out.below hb1); clear hok hb1)
  replace HB := Lib.hid (HB.out.push [.int .u8 1, .int .i64 zs, .string ⟨#[]⟩, .slice lap1 0 lcp1, .slice fap1 0 fcp1, .int .u8 0, .string ⟨#[]⟩, .bool false] 27)
  revert HB
  generalize w1.alloc (.cells #[.int .u8 1, .int .i64 zs, .string ⟨#[]⟩, .slice lap1 0 lcp1, .slice fap1 0 fcp1, .int .u8 0, .string ⟨#[]⟩, .bool false] 27) = W
  generalize w1.heap.size = p1
  intro HB
  clear c0 c1 c2 c3 c4 c5 c6 c7 d0 d1 d2 d3 d4 d5 d6 d7
  obtain ⟨c0, c1, c2, c3, c4, c5, c6, c7⟩ := bx_get (HB.out.at' _ (.head _))
  obtain ⟨d0, d1, d2, d3, d4, d5, d6, d7⟩ := bx_get (HB.out.at' _ (.tail _ (.tail _ (.head _))))
  go_upto_region 4 with (go_at_call 8; (with_reducible refine (doF2 _ HB.out.tabs HOp1.out KB.out F2.out).mono ?_); rintro q w1 ⟨lap2, lcp2, fap2, fcp2, rfl, hok, hb1⟩; (have HOp2 := Lib.hid hok); replace HB := Lib.hid (HB.out.below hb1); clear hok hb1)
  replace HB := Lib.hid (HB.out.push [.int .u8 1, .int .i64 a, .string ⟨#[]⟩, .slice lap2 0 lcp2, .slice fap2 0 fcp2, .int .u8 0, .string ⟨#[]⟩, .bool false] 27)
  revert HB
  generalize w1.alloc (.cells #[.int .u8 1, .int .i64 a, .string ⟨#[]⟩, .slice lap2 0 lcp2, .slice fap2 0 fcp2, .int .u8 0, .string ⟨#[]⟩, .bool false] 27) = W
  generalize w1.heap.size = p2
  intro HB
  clear c0 c1 c2 c3 c4 c5 c6 c7 d0 d1 d2 d3 d4 d5 d6 d7
  obtain ⟨c0, c1, c2, c3, c4, c5, c6, c7⟩ := bx_get (HB.out.at' _ (.tail _ (.tail _ (.tail _ (.head _)))))
  obtain ⟨d0, d1, d2, d3, d4, d5, d6, d7⟩ := bx_get (HB.out.at' _ (.tail _ (.tail _ (.tail _ (.tail _ (.head _))))))
  go_upto_region 5 with (go_at_call 8; (with_reducible refine (doF2 _ HB.out.tabs KB.out KA.out F3.out).mono ?_); rintro q w1 ⟨lap3, lcp3, fap3, fcp3, rfl, hok, hb1⟩; (have HOp3 := Lib.hid hok); replace HB := Lib.hid (HB.out.below hb1); clear hok hb1)
  replace HB := Lib.hid (HB.out.push [.int .u8 1, .int .i64 zs, .string ⟨#[]⟩, .slice lap3 0 lcp3, .slice fap3 0 fcp3, .int .u8 0, .string ⟨#[]⟩, .bool false] 27)
  revert HB
  generalize w1.alloc (.cells #[.int .u8 1, .int .i64 zs, .string ⟨#[]⟩, .slice lap3 0 lcp3, .slice fap3 0 fcp3, .int .u8 0, .string ⟨#[]⟩, .bool false] 27) = W
  generalize w1.heap.size = p3
  intro HB
  clear c0 c1 c2 c3 c4 c5 c6 c7 d0 d1 d2 d3 d4 d5 d6 d7
  obtain ⟨c0, c1, c2, c3, c4, c5, c6, c7⟩ := bx_get (HB.out.at' _ (.tail _ (.tail _ (.tail _ (.tail _ (.tail _ (.head _)))))))
  obtain ⟨d0, d1, d2, d3, d4, d5, d6, d7⟩ := bx_get (HB.out.at' _ (.tail _ (.tail _ (.tail _ (.tail _ (.head _))))))
  go_upto_region 6 with (go_at_call 8; (with_reducible refine (doF2 _ HB.out.tabs KA.out KB.out F4.out).mono ?_); rintro q w1 ⟨lap4, lcp4, fap4, fcp4, rfl, hok, hb1⟩; (have HOp4 := Lib.hid hok); replace HB := Lib.hid (HB.out.below hb1); clear hok hb1)
  replace HB := Lib.hid (HB.out.push [.int .u8 1, .int .i64 zp, .string ⟨#[]⟩, .slice lap4 0 lcp4, .slice fap4 0 fcp4, .int .u8 0, .string ⟨#[]⟩, .bool false] 27)
  revert HB
  generalize w1.alloc (.cells #[.int .u8 1, .int .i64 zp, .string ⟨#[]⟩, .slice lap4 0 lcp4, .slice fap4 0 fcp4, .int .u8 0, .string ⟨#[]⟩, .bool false] 27) = W
  generalize w1.heap.size = p4
  intro HB
  clear c0 c1 c2 c3 c4 c5 c6 c7 d0 d1 d2 d3 d4 d5 d6 d7
  obtain ⟨c0, c1, c2, c3, c4, c5, c6, c7⟩ := bx_get (HB.out.at' _ (.tail _ (.tail _ (.tail _ (.tail _ (.tail _ (.head _)))))))
  obtain ⟨d0, d1, d2, d3, d4, d5, d6, d7⟩ := bx_get (HB.out.at' _ (.tail _ (.tail _ (.tail _ (.tail _ (.tail _ (.tail _ (.head _))))))))
  go_upto_region 7 with (go_at_call 8; (with_reducible refine (doF2 _ HB.out.tabs KB.out KA.out F5.out).mono ?_); rintro q w1 ⟨lap5, lcp5, fap5, fcp5, rfl, hok, hb1⟩; (have HOp5 := Lib.hid hok); replace HB := Lib.hid (HB.out.below hb1); clear hok hb1)
  replace HB := Lib.hid (HB.out.push [.int .u8 1, .int .i64 zp, .string ⟨#[]⟩, .slice lap5 0 lcp5, .slice fap5 0 fcp5, .int .u8 0, .string ⟨#[]⟩, .bool false] 27)
  revert HB
  generalize w1.alloc (.cells #[.int .u8 1, .int .i64 zp, .string ⟨#[]⟩, .slice lap5 0 lcp5, .slice fap5 0 fcp5, .int .u8 0, .string ⟨#[]⟩, .bool false] 27) = W
  generalize w1.heap.size = p5
  intro HB
  clear c0 c1 c2 c3 c4 c5 c6 c7 d0 d1 d2 d3 d4 d5 d6 d7
  go_upto_region 9 with (go_at_call 9; (with_reducible refine (HA.out _ HB.out.tabs).mono ?_); rintro q w1 ⟨rfl, hb1⟩; replace HB := Lib.hid (HB.out.below hb1); clear hb1; (have g0 := (bx_get (HB.out.at' _ (.tail _ (.tail _ (.tail _ (.tail _ (.head _))))))).2.1); (have g1 := (bx_get (HB.out.at' _ (.tail _ (.tail _ (.tail _ (.head _)))))).2.1); (have g2 := (bx_get (HB.out.at' _ (.tail _ (.tail _ (.head _))))).2.1); (have g3 := (bx_get (HB.out.at' _ (.tail _ (.head _)))).2.1); (have g4 := (bx_get (HB.out.at' _ (.head _))).2.1))
  clear g0 g1 g2 g3 g4
  obtain ⟨c0, c1, c2, c3, c4, c5, c6, c7⟩ := bx_get (HB.out.at' _ (.tail _ (.tail _ (.tail _ (.tail _ (.tail _ (.tail _ (.head _))))))))
  obtain ⟨d0, d1, d2, d3, d4, d5, d6, d7⟩ := bx_get (HB.out.at' _ (.tail _ (.tail _ (.tail _ (.tail _ (.tail _ (.head _)))))))
  go_upto_region 10 with (go_at_call 8; (with_reducible refine (doF2 _ HB.out.tabs KB.out KC.out F6.out).mono ?_); rintro q w1 ⟨lap6, lcp6, fap6, fcp6, rfl, hok, hb1⟩; (have HOp6 := Lib.hid hok); replace HB := Lib.hid (HB.out.below hb1); clear hok hb1)
  replace HB := Lib.hid (HB.out.push [.int .u8 1, .int .i64 zr, .string ⟨#[]⟩, .slice lap6 0 lcp6, .slice fap6 0 fcp6, .int .u8 0, .string ⟨#[]⟩, .bool false] 27)
  revert HB
  generalize w1.alloc (.cells #[.int .u8 1, .int .i64 zr, .string ⟨#[]⟩, .slice lap6 0 lcp6, .slice fap6 0 fcp6, .int .u8 0, .string ⟨#[]⟩, .bool false] 27) = W
  generalize w1.heap.size = p6
  intro HB
  clear c0 c1 c2 c3 c4 c5 c6 c7 d0 d1 d2 d3 d4 d5 d6 d7
  obtain ⟨c0, c1, c2, c3, c4, c5, c6, c7⟩ := bx_get (HB.out.at' _ (.tail _ (.tail _ (.tail _ (.tail _ (.tail _ (.tail _ (.tail _ (.tail _ (.head _))))))))))
  obtain ⟨d0, d1, d2, d3, d4, d5, d6, d7⟩ := bx_get (HB.out.at' _ (.head _))
  go_upto_region 11 with (go_at_call 8; (with_reducible refine (doF2 _ HB.out.tabs KA.out HOp6.out F7.out).mono ?_); rintro q w1 ⟨lap7, lcp7, fap7, fcp7, rfl, hok, hb1⟩; (have HOp7 := Lib.hid hok); replace HB := Lib.hid (HB.out.below hb1); clear hok hb1)
  replace HB := Lib.hid (HB.out.push [.int .u8 1, .int .i64 zl, .string ⟨#[]⟩, .slice lap7 0 lcp7, .slice fap7 0 fcp7, .int .u8 0, .string ⟨#[]⟩, .bool false] 27)
  revert HB
  generalize w1.alloc (.cells #[.int .u8 1, .int .i64 zl, .string ⟨#[]⟩, .slice lap7 0 lcp7, .slice fap7 0 fcp7, .int .u8 0, .string ⟨#[]⟩, .bool false] 27) = W
  generalize w1.heap.size = p7
  intro HB
  clear c0 c1 c2 c3 c4 c5 c6 c7 d0 d1 d2 d3 d4 d5 d6 d7
  obtain ⟨c0, c1, c2, c3, c4, c5, c6, c7⟩ := bx_get (HB.out.at' _ (.tail _ (.tail _ (.tail _ (.tail _ (.tail _ (.tail _ (.tail _ (.tail _ (.tail _ (.head _)))))))))))
  obtain ⟨d0, d1, d2, d3, d4, d5, d6, d7⟩ := bx_get (HB.out.at' _ (.tail _ (.tail _ (.tail _ (.tail _ (.tail _ (.tail _ (.tail _ (.head _)))))))))
  go_upto_region 12 with (go_at_call 8; (with_reducible refine (doF2 _ HB.out.tabs KA.out KC.out F8.out).mono ?_); rintro q w1 ⟨lap8, lcp8, fap8, fcp8, rfl, hok, hb1⟩; (have HOp8 := Lib.hid hok); replace HB := Lib.hid (HB.out.below hb1); clear hok hb1)
  replace HB := Lib.hid (HB.out.push [.int .u8 1, .int .i64 zc, .string ⟨#[]⟩, .slice lap8 0 lcp8, .slice fap8 0 fcp8, .int .u8 0, .string ⟨#[]⟩, .bool false] 27)
  revert HB
  generalize w1.alloc (.cells #[.int .u8 1, .int .i64 zc, .string ⟨#[]⟩, .slice lap8 0 lcp8, .slice fap8 0 fcp8, .int .u8 0, .string ⟨#[]⟩, .bool false] 27) = W
  generalize w1.heap.size = p8
  intro HB
  clear c0 c1 c2 c3 c4 c5 c6 c7 d0 d1 d2 d3 d4 d5 d6 d7
  obtain ⟨c0, c1, c2, c3, c4, c5, c6, c7⟩ := bx_get (HB.out.at' _ (.tail _ (.tail _ (.tail _ (.tail _ (.head _))))))
  obtain ⟨d0, d1, d2, d3, d4, d5, d6, d7⟩ := bx_get (HB.out.at' _ (.head _))
  go_upto_region 13 with (go_at_call 8; (with_reducible refine (doF2 _ HB.out.tabs HOp4.out HOp8.out F9.out).mono ?_); rintro q w1 ⟨lap9, lcp9, fap9, fcp9, rfl, hok, hb1⟩; (have HOp9 := Lib.hid hok); replace HB := Lib.hid (HB.out.below hb1); clear hok hb1)
  replace HB := Lib.hid (HB.out.push [.int .u8 1, .int .i64 zl, .string ⟨#[]⟩, .slice lap9 0 lcp9, .slice fap9 0 fcp9, .int .u8 0, .string ⟨#[]⟩, .bool false] 27)
  revert HB
  generalize w1.alloc (.cells #[.int .u8 1, .int .i64 zl, .string ⟨#[]⟩, .slice lap9 0 lcp9, .slice fap9 0 fcp9, .int .u8 0, .string ⟨#[]⟩, .bool false] 27) = W
  generalize w1.heap.size = p9
  intro HB
  clear c0 c1 c2 c3 c4 c5 c6 c7 d0 d1 d2 d3 d4 d5 d6 d7
  obtain ⟨c0, c1, c2, c3, c4, c5, c6, c7⟩ := bx_get (HB.out.at' _ (.tail _ (.tail _ (.tail _ (.tail _ (.tail _ (.tail _ (.tail _ (.tail _ (.tail _ (.tail _ (.tail _ (.head _)))))))))))))
  obtain ⟨d0, d1, d2, d3, d4, d5, d6, d7⟩ := bx_get (HB.out.at' _ (.tail _ (.tail _ (.tail _ (.tail _ (.tail _ (.tail _ (.tail _ (.tail _ (.tail _ (.tail _ (.head _))))))))))))
  go_upto_region 14 with (go_at_call 8; (with_reducible refine (doF2 _ HB.out.tabs KA.out KB.out F10.out).mono ?_); rintro q w1 ⟨laq1, lcq1, faq1, fcq1, rfl, hok, hb1⟩; (have HOq1 := Lib.hid hok); replace HB := Lib.hid (HB.out.below hb1); clear hok hb1)
  replace HB := Lib.hid (HB.out.push [.int .u8 2, .int .i64 l1, .string ⟨#[]⟩, .slice laq1 0 lcq1, .slice faq1 0 fcq1, .int .u8 0, .string ⟨#[]⟩, .bool false] 27)
  revert HB
  generalize w1.alloc (.cells #[.int .u8 2, .int .i64 l1, .string ⟨#[]⟩, .slice laq1 0 lcq1, .slice faq1 0 fcq1, .int .u8 0, .string ⟨#[]⟩, .bool false] 27) = W
  generalize w1.heap.size = q1
  intro HB
  clear c0 c1 c2 c3 c4 c5 c6 c7 d0 d1 d2 d3 d4 d5 d6 d7
  obtain ⟨c0, c1, c2, c3, c4, c5, c6, c7⟩ := bx_get (HB.out.at' _ (.tail _ (.tail _ (.tail _ (.tail _ (.tail _ (.tail _ (.tail _ (.tail _ (.tail _ (.tail _ (.tail _ (.head _)))))))))))))
  obtain ⟨d0, d1, d2, d3, d4, d5, d6, d7⟩ := bx_get (HB.out.at' _ (.tail _ (.tail _ (.tail _ (.tail _ (.tail _ (.tail _ (.tail _ (.tail _ (.tail _ (.tail _ (.tail _ (.tail _ (.head _))))))))))))))
  go_upto_region 15 with (go_at_call 8; (with_reducible refine (doF2 _ HB.out.tabs KB.out KA.out F11.out).mono ?_); rintro q w1 ⟨laq2, lcq2, faq2, fcq2, rfl, hok, hb1⟩; (have HOq2 := Lib.hid hok); replace HB := Lib.hid (HB.out.below hb1); clear hok hb1)
  replace HB := Lib.hid (HB.out.push [.int .u8 2, .int .i64 l2, .string ⟨#[]⟩, .slice laq2 0 lcq2, .slice faq2 0 fcq2, .int .u8 0, .string ⟨#[]⟩, .bool false] 27)
  revert HB
  generalize w1.alloc (.cells #[.int .u8 2, .int .i64 l2, .string ⟨#[]⟩, .slice laq2 0 lcq2, .slice faq2 0 fcq2, .int .u8 0, .string ⟨#[]⟩, .bool false] 27) = W
  generalize w1.heap.size = q2
  intro HB
  clear c0 c1 c2 c3 c4 c5 c6 c7 d0 d1 d2 d3 d4 d5 d6 d7
  obtain ⟨c0, c1, c2, c3, c4, c5, c6, c7⟩ := bx_get (HB.out.at' _ (.tail _ (.tail _ (.tail _ (.tail _ (.tail _ (.tail _ (.tail _ (.tail _ (.tail _ (.tail _ (.tail _ (.tail _ (.tail _ (.head _)))))))))))))))
  obtain ⟨d0, d1, d2, d3, d4, d5, d6, d7⟩ := bx_get (HB.out.at' _ (.tail _ (.tail _ (.tail _ (.tail _ (.tail _ (.tail _ (.tail _ (.tail _ (.tail _ (.tail _ (.tail _ (.tail _ (.head _))))))))))))))
  go_upto_region 16 with (go_at_call 8; (with_reducible refine (doF2 _ HB.out.tabs KA.out KB.out F12.out).mono ?_); rintro q w1 ⟨laq3, lcq3, faq3, fcq3, rfl, hok, hb1⟩; (have HOq3 := Lib.hid hok); replace HB := Lib.hid (HB.out.below hb1); clear hok hb1)
  replace HB := Lib.hid (HB.out.push [.int .u8 2, .int .i64 l3, .string ⟨#[]⟩, .slice laq3 0 lcq3, .slice faq3 0 fcq3, .int .u8 0, .string ⟨#[]⟩, .bool false] 27)
  revert HB
  generalize w1.alloc (.cells #[.int .u8 2, .int .i64 l3, .string ⟨#[]⟩, .slice laq3 0 lcq3, .slice faq3 0 fcq3, .int .u8 0, .string ⟨#[]⟩, .bool false] 27) = W
  generalize w1.heap.size = q3
  intro HB
  clear c0 c1 c2 c3 c4 c5 c6 c7 d0 d1 d2 d3 d4 d5 d6 d7
  have g0 := (bx_get (HB.out.at' _ (.tail _ (.tail _ (.tail _ (.tail _ (.tail _ (.head _)))))))).2.1
  have g1 := (bx_get (HB.out.at' _ (.tail _ (.tail _ (.tail _ (.head _)))))).2.1
  have g2 := (bx_get (HB.out.at' _ (.tail _ (.tail _ (.head _))))).2.1
  have g3 := (bx_get (HB.out.at' _ (.tail _ (.head _)))).2.1
  have g4 := (bx_get (HB.out.at' _ (.head _))).2.1
  have s1 := HS1.out
  have s2 := HS2.out
  go_wp2_with fail
  go_ret
  exact ⟨rfl, HB.out.low⟩
end Go.Proofs.YtjbapldlgnlepaaDoor
