/-
  Walks: MatchChildren returns true; old memory is as it was.
  Conditions: both lists lie in memory, hold at most 2^20 children each, and each value's lists fit.
-/
import Derived.Test.YtpmkkgndpfbkdaaGreatDoorMaB
namespace Go.Proofs.YtpmkkgndpfbkdaaGreatDoor
set_option linter.unusedVariables false
set_option linter.unusedSimpArgs false
open Go.RowKit Go.Deep Go.WideShapes

theorem cok_mono {base base' g ll : Nat} {W : World} {K : Nat → C} {L : Nat → V} (hb : base' ≤ base) (h : Tw.COk base W g ll K L) : Tw.COk base' W g ll K L := ⟨Nat.le_trans hb h.hg, h.cs, fun i hi => (h.ok i hi).mono hb, h.spr⟩
theorem mul_le_big {a b : Nat} (ha : a ≤ 1048576) (hb : b ≤ 1048576) : ∃ p : Int, (a : Int) * (b : Int) = p ∧ 0 ≤ p ∧ p ≤ 1099511627776 := by
  refine ⟨(a : Int) * (b : Int), rfl, ?_, ?_⟩
  · exact Int.mul_nonneg (Int.natCast_nonneg _) (Int.natCast_nonneg _)
  · have := Nat.mul_le_mul ha hb
    rw [← Int.natCast_mul]
    omega

set_option maxRecDepth 100000 in
set_option maxHeartbeats 4000000 in
theorem mch_any (la : Option Addr) (ll lc : Nat) (K : Nat → C) (na : Option Addr) (nl nc : Nat) (N : Nat → C) (w : World) (hK : CLst w la ll lc K) (hN : CLst w na nl nc N)
    (hl1 : ll ≤ 1048576) (hl2 : nl ≤ 1048576) (hf1 : ∀ i, i < ll → (K i).val.Fits) (hf2 : ∀ i, i < nl → (N i).val.Fits) (hz1 : ∀ i, i < ll → (K i).val.size ≤ 1099511627776) (hz2 : ∀ i, i < nl → (N i).val.size ≤ 1099511627776) :
    Calls Tryz.prog 3 #[.slice la ll lc, .slice na nl nc] w fun x w' => x = .returned (.bool true) ∧ Below w.heap.size w w' := by
  have HC1 := Lib.hid (fun W (hb : Below w.heap.size w W) => childrenSize_any la ll lc K W (hK.below hb))
  have HC2 := Lib.hid (fun W (hb : Below w.heap.size w W) => childrenSize_any na nl nc N W (hN.below hb))
  have HBY := Lib.hid (fun x hx y hy W => beyond_two x y hx hy W)
  have HT1 := Lib.hid (fun W (hb : Below w.heap.size w W) => Tw.twinChildren_any la ll lc K W (hK.below hb) (by omega) hf1)
  have HT2 := Lib.hid (fun W (hb : Below w.heap.size w W) => Tw.twinChildren_any na nl nc N W (hN.below hb) (by omega) hf2)
  have HRM := Lib.hid (fun W (hb : Below w.heap.size w W) => rmatch_any la ll lc K na nl nc N W (hK.below hb) (hN.below hb) (by omega) (by omega))
  have HCL1 := Lib.hid (fun (g : Nat) (W : World) (L : Nat → V) (h : Tw.COk w.heap.size W g ll K L) => twin_clst hK (by unfold maxLen; omega) h)
  have HCL2 := Lib.hid (fun (g : Nat) (W : World) (L : Nat → V) (h : Tw.COk w.heap.size W g nl N L) => twin_clst hN (by unfold maxLen; omega) h)
  have HMA : Hid (∀ (g1 g2 : Nat) (W : World) (L M : Nat → V), Tw.COk w.heap.size W g1 ll K L → Tw.COk w.heap.size W g2 nl N M → Calls Tryz.prog 7 #[.slice (some ⟨g1, 0, none⟩) ll (ll + 1), .slice (some ⟨g2, 0, none⟩) nl (nl + 1)] W fun x w' => ∃ g, MatPost W nl (matM K N ll) x w' g) := Lib.hid (fun g1 g2 W L M h1 h2 => by
    have := match_any (some ⟨g1, 0, none⟩) ll (ll + 1) (fun i => Tw.C.with (K i) (L i)) (some ⟨g2, 0, none⟩) nl (nl + 1) (fun i => Tw.C.with (N i) (M i)) W (HCL1.out g1 W L h1) (HCL2.out g2 W M h2) (by omega)
    rwa [matM_with] at this)
  have HLF1 := Lib.hid (fun (g : Nat) (W : World) (L : Nat → V) (hb : Below w.heap.size w W) (h : Tw.COk w.heap.size W g ll K L) => Tw.leftChildren_any la ll lc K L w.heap.size g W (by omega) hz1 (hK.below hb) h)
  have HLF2 := Lib.hid (fun (g : Nat) (W : World) (L : Nat → V) (hb : Below w.heap.size w W) (h : Tw.COk w.heap.size W g nl N L) => Tw.leftChildren_any na nl nc N L w.heap.size g W (by omega) hz2 (hN.below hb) h)
  have HNL := Lib.hid hl2
  have hnm : nl ≤ maxLen := by unfold maxLen; omega
  have HSI := Lib.hid (fun W a a' c c' h h' => same_row W a a' nl c c' (matM K N ll) hnm h h')
  generalize matM K N ll = mm at HRM HMA HSI
  obtain ⟨pr, hpr, hp0, hp1⟩ := mul_le_big hl1 hl2
  have hpw : IntKind.i64.wrap ((ll : Int) * (nl : Int)) = pr := by rw [hpr]; exact IntWalk.i64_in _ (by omega)
  clear hK hN hf1 hf2 hz1 hz2 HCL1 HCL2 hpr
  by_cases hbig : 16777216 < pr
  · have hd : decide (16777216 < pr) = true := decide_eq_true hbig
    go_enter Tryz.func3, Tryz.ntmps3
    go_wp2_with (first
      | (go_at_call 5; (with_reducible refine (HC1.out w (Below.refl _ _)).mono ?_); rintro x w1 ⟨⟨n1, hn1, rfl⟩, hb1⟩; have HB1 := Lib.hid hb1; clear hb1)
      | (go_at_call 5; (with_reducible refine (HC2.out _ HB1.out).mono ?_); rintro x w2 ⟨⟨n2, hn2, rfl⟩, hb2⟩; have HB2 : Hid (Below w.heap.size w w2) := HB1.out.trans (hb2.mono HB1.out.size); clear hb2)
      | (go_at_call 4; (with_reducible refine (HBY.out n1 hn1 n2 hn2 w2).mono ?_); rintro x w3 ⟨⟨bq, rfl⟩, hb3⟩; have HB3 : Hid (Below w.heap.size w w3) := HB2.out.trans (((below_alloc w2 _).trans (hb3.mono (by simp))).mono HB2.out.size); clear hb3; cases bq))
    all_goals go_ret
    all_goals exact ⟨rfl, HB3.out⟩
  · have hd : decide (16777216 < pr) = false := decide_eq_false hbig
    go_enter Tryz.func3, Tryz.ntmps3
    go_wp2_with (first
      | (go_at_call 5; (with_reducible refine (HC1.out w (Below.refl _ _)).mono ?_); rintro x w1 ⟨⟨n1, hn1, rfl⟩, hb1⟩; have HB1 := Lib.hid hb1; clear hb1)
      | (go_at_call 5; (with_reducible refine (HC2.out _ HB1.out).mono ?_); rintro x w2 ⟨⟨n2, hn2, rfl⟩, hb2⟩; have HB2 : Hid (Below w.heap.size w w2) := HB1.out.trans (hb2.mono HB1.out.size); clear hb2)
      | (go_at_call 4; (with_reducible refine (HBY.out n1 hn1 n2 hn2 w2).mono ?_); rintro x w3 ⟨⟨bq, rfl⟩, hb3⟩; have HB3 : Hid (Below w.heap.size w w3) := HB2.out.trans (((below_alloc w2 _).trans (hb3.mono (by simp))).mono HB2.out.size); clear hb3; cases bq)
      | (go_at_call 6; (with_reducible refine (HT1.out w3 HB3.out).mono ?_); rintro x w4 ⟨L, rfl, hco, hb⟩; have HA4 := Lib.hid (cok_mono HB3.out.size hco); have HB4 : Hid (Below w.heap.size w w4) := HB3.out.trans (hb.mono HB3.out.size); clear hco hb)
      | (go_at_call 6; (with_reducible refine (HT2.out w4 HB4.out).mono ?_); rintro x w5 ⟨M, rfl, hco, hb⟩; have HM5 := Lib.hid (cok_mono HB4.out.size hco); have HA5 := Lib.hid (HA4.out.below hb); have HB5 : Hid (Below w.heap.size w w5) := HB4.out.trans (hb.mono HB4.out.size); clear hco hb)
      | (go_at_call 7; (with_reducible refine (HMA.out _ _ w5 L M HA5.out HM5.out).mono ?_); rintro x w6 ⟨g1, rfl, hown, hlow⟩; have HO6 := Lib.hid (show OwnI w6 w.heap.size g1 nl mm from Bk.own_base HB5.out.size hown); have HA6 := Lib.hid (HA5.out.below hlow); have HM6 := Lib.hid (HM5.out.below hlow); have HB6 : Hid (Below w.heap.size w w6) := HB5.out.trans (hlow.mono HB5.out.size); clear hown hlow)
      | (go_at_call 7; (with_reducible refine (HMA.out _ _ w6 L M HA6.out HM6.out).mono ?_); rintro x w7 ⟨g2, rfl, hown, hlow⟩; have HNE := Lib.hid (show g1 ≠ g2 from by have := HO6.out.lt; have := hown.lt; omega); have HP7 := Lib.hid (show OwnI w7 w.heap.size g2 nl mm from Bk.own_base HB6.out.size hown); have HO7 := Lib.hid (HO6.out.below hlow); have HA7 := Lib.hid (HA6.out.below hlow); have HM7 := Lib.hid (HM6.out.below hlow); have HB7 : Hid (Below w.heap.size w w7) := HB6.out.trans (hlow.mono HB6.out.size); clear hown hlow)
      | (go_at_call 8; (with_reducible refine (HRM.out w7 HB7.out).mono ?_); rintro x w8 ⟨a3, c3, rfl, -, -, hil, hlow⟩; have HW8 := Lib.hid hil; have HP8 := Lib.hid (HP7.out.below hlow); have HO8 := Lib.hid (HO7.out.below hlow); have HA8 := Lib.hid (HA7.out.below hlow); have HM8 := Lib.hid (HM7.out.below hlow); have HB8 : Hid (Below w.heap.size w w8) := HB7.out.trans (hlow.mono HB7.out.size); clear hil hlow)
      | (go_at_call 9; (with_reducible refine (HSI.out w8 _ _ _ _ HO8.out.il HW8.out).mono ?_); rintro x w9 ⟨rfl, hlow⟩; have HW9 := Lib.hid (HW8.out.below hlow); have HP9 := Lib.hid (HP8.out.below hlow); have HO9 := Lib.hid (HO8.out.below hlow); have HA9 := Lib.hid (HA8.out.below hlow); have HM9 := Lib.hid (HM8.out.below hlow); have HB9 : Hid (Below w.heap.size w w9) := HB8.out.trans (hlow.mono HB8.out.size); clear hlow)
      | (go_at_call 9; (with_reducible refine (HSI.out w9 _ _ _ _ HP9.out.il HW9.out).mono ?_); rintro x w10 ⟨rfl, hlow⟩; have HP10 := Lib.hid (HP9.out.below hlow); have HO10 := Lib.hid (HO9.out.below hlow); have HA10 := Lib.hid (HA9.out.below hlow); have HM10 := Lib.hid (HM9.out.below hlow); have HB10 : Hid (Below w.heap.size w w10) := HB9.out.trans (hlow.mono HB9.out.size); clear hlow)
      | (go_at_call 10; (with_reducible refine (HLF1.out _ w10 L HB10.out HA10.out).mono ?_); rintro x w11 ⟨rfl, hlow⟩; have HP11 := Lib.hid (HP10.out.below hlow); have HO11 := Lib.hid (HO10.out.below hlow); have HM11 := Lib.hid (HM10.out.below hlow); have HB11 : Hid (Below w.heap.size w w11) := HB10.out.trans (hlow.mono HB10.out.size); clear hlow)
      | (go_at_call 10; (with_reducible refine (HLF2.out _ w11 M HB11.out HM11.out).mono ?_); rintro x w12 ⟨rfl, hlow⟩; have HP12 := Lib.hid (HP11.out.below hlow); have HO12 := Lib.hid (HO11.out.below hlow); have HB12 : Hid (Below w.heap.size w w12) := HB11.out.trans (hlow.mono HB11.out.size); clear hlow; refine Hid.out ?_))
    · refine Lib.hid ?_
      clear HC1 HC2 HBY HT1 HT2 HLF1 HLF2 HRM HMA HSI HB1 HB2 HB3 HB4 HB5 HB6 HB7 HB8 HB9 HB10 HB11 HA4 HA5 HA6 HA7 HA8 HA9 HA10 HM5 HM6 HM7 HM8 HM9 HM10 HM11 HO6 HO7 HO8 HO9 HO10 HO11 HP7 HP8 HP9 HP10 HP11 HW8 HW9 hd hpw hp0 hp1
      have HBK := Lib.hid (bm_new (wb := w12) (ht := fun _ => 74) (S := mbS g1 g2 nl) (N := mbN) (T' := 47))
      go_upto_region 9 with fail
      revert HBK
      generalize w12.alloc (.cells #[.int .i64 0, .slice none 0 0, .slice none 0 0, .slice none 0 0, .slice none 0 0, .slice none 0 0, .slice none 0 0, .slice none 0 0, .slice none 0 0, .slice none 0 0, .slice none 0 0, .slice none 0 0, .slice none 0 0, .slice none 0 0, .slice none 0 0, .slice none 0 0, .slice none 0 0] 47) = W7
      intro HBK
      have D1 := Lib.hid (Bk.ints'_any (n := 0) rfl HBK.out (by decide) (by decide) (a := some ⟨g1, 0, none⟩) (l := nl) (q := nl) rfl rfl)
      clear HBK
      have D2 := Lib.hid (fun W v (h : Bk.BM (fun _ => 74) w12 w12.heap.size (mbM 1) (mbS g1 g2 nl) mbN 1 v W) => Bk.ints'_any (n := 1) rfl h (by decide) (by decide) (a := some ⟨g2, 0, none⟩) (l := nl) (q := nl) rfl rfl)
      have D3 := Lib.hid (fun W T c h => mb_apart (w := w) (W0 := w12) (W := W) (T := T) (c := c) (g1 := g1) (g2 := g2) (n := nl) HNL.out HB12.out HO12.out HP12.out HNE.out h)
      go_wp2_with (first
        | (go_at_call 11; (with_reducible refine (D1.out).mono ?_); rintro q w13 ⟨rfl, b, c, hk⟩; have HK := Lib.hid (show Bk.BM (fun _ => 74) w12 w12.heap.size (mbM 1) (mbS g1 g2 nl) mbN 1 (Bk.at1 (fun _ => .slice none 0 0) 1 (.slice (some ⟨b, 0, none⟩) 1 c)) w13 from hk); clear hk D1)
        | (go_at_call 11; (with_reducible refine (D2.out _ _ HK.out).mono ?_); rintro q w14 ⟨rfl, b', c', hk⟩; rw [at1_two, at1_v] at hk; have HK2 := Lib.hid (show Bk.BM (fun _ => 74) w12 w12.heap.size (mbM 2) (mbS g1 g2 nl) mbN 2 (Bk.at1 (fun _ => .slice none 0 0) 1 (.slice (some ⟨b', 0, none⟩) 2 c')) w14 from hk); clear hk)
        | (go_at_call 12; (with_reducible refine (D3.out _ _ _ HK2.out).mono ?_); rintro q w15 ⟨rfl, hb⟩; have HE := Lib.hid hb; clear hb))
      go_ret
      exact ⟨rfl, HE.out⟩
    · go_ret
      exact ⟨rfl, HB3.out⟩
end Go.Proofs.YtpmkkgndpfbkdaaGreatDoor
