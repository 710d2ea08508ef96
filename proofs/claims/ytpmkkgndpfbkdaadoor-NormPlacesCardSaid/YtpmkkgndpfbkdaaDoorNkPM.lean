/-
  Walks: NormPlaces returns true: a value that is no child keeps its place.
  Conditions: the list lies in memory and is not empty or long; the three tables hold what the program's text lays in them.
-/
import Derived.Test.YtpmkkgndpfbkdaaDoorNkPW
import Derived.IntWalk
namespace Go.Proofs.YtpmkkgndpfbkdaaDoor
set_option linter.unusedVariables false
set_option linter.unusedSimpArgs false
open Go.ChangeShapes Go.WideShapes Go.ChangeAt Go.RowKit Go.Deep

set_option maxRecDepth 100000 in
set_option maxHeartbeats 8000000 in
theorem np_main (la : Option Addr) (ll lc : Nat) (L : Nat → V) (at_ : Int) (hat : 0 ≤ at_ ∧ at_ ≤ 255) (w : World) (h : Lst w la ll lc L) (h0 : 0 < ll) (h1 : ll ≤ 1000) (ht : Tabs w) :
    Calls Tryd.prog 3 #[.slice la ll lc, .int .u8 at_] w fun x w' => x = .returned (.bool true) ∧ Below w.heap.size w w' := by
  have HAL := Lib.hid (fun W (hb : Below w.heap.size w W) => alive_any W (ht.below hb))
  have HVS := Lib.hid (fun W (hb : Below w.heap.size w W) => vs_size (h.below hb))
  have HBY := Lib.hid (fun x hx W => beyond_one x hx W)
  have HKD := Lib.hid (fun la' ll' lc' L' W (hl : Lst W la' ll' lc' L') (hb : Below w.heap.size w W) => kids_any la' ll' lc' L' W hl (ht.below hb))
  have HH := Lib.hid h
  have H1000 := Lib.hid h1
  obtain ⟨p, hp, hpl, hpn⟩ := place_num ll at_ h0
  have HP := Lib.hid hpn
  have H8 : Hid (∀ i, i < ll → (L i).cells.length = 8) := fun i hi => in_cells (h.els i hi).2
  obtain ⟨⟨b, o, rfl, hat8⟩, hin⟩ := h.els p hpn
  have hcap := h.cap.1
  have hne : ¬ lc = p := by omega
  have HSUB : Hid (Lst w (some ⟨b, o + p * 8, none⟩) 1 (lc - p) (fun i => L (p + i))) := by
    have := lst_sub h p 1 (by omega)
    rw [offA, if_neg hne] at this
    exact Lib.hid (by simpa [add_plain] using this)
  obtain ⟨v, hv⟩ : ∃ v, L p = v := ⟨_, rfl⟩
  have HV := Lib.hid hv
  rw [hv] at hat8 hin
  cases v with
  | leaf => exact hin.elim
  | mk k n s va vl vc VL fa fl fc fn F e key hk =>
  have KC : Hid (∀ W, Below w.heap.size w W → W.cell? ⟨b, o + p * 8, none⟩ = some (.int .u8 k) ∧ W.cell? ⟨b, o + p * 8 + 1, none⟩ = some (.int .i64 n) ∧ W.cell? ⟨b, o + p * 8 + 2, none⟩ = some (.string s) ∧ W.cell? ⟨b, o + p * 8 + 3, none⟩ = some (.slice va vl vc) ∧ W.cell? ⟨b, o + p * 8 + 4, none⟩ = some (.slice fa fl fc) ∧ W.cell? ⟨b, o + p * 8 + 5, none⟩ = some (.int .u8 e) ∧ W.cell? ⟨b, o + p * 8 + 6, none⟩ = some (.string key) ∧ W.cell? ⟨b, o + p * 8 + 7, none⟩ = some (.bool hk)) := fun W hb => at8 (hat8.below hb)
  have hl1 : (ll : Int) ≤ 1000 := by omega
  have hl0 : (0 : Int) < (ll : Int) := by omega
  have hl2 : ((ll : Int) == 0) = false := by simp; omega
  have hp0 : (0 : Int) ≤ (p : Int) := by omega
  have hpc : (p : Int) < (lc : Int) := by omega
  have hpc2 : (p : Int) + 1 ≤ (lc : Int) := by omega
  have ha0 := hat.1
  have ha1 := hat.2
  clear h ht h1 h0 hat8 hin hv hpn hat hcap
  by_cases hb4 : k = 4
  · subst hb4
    go_enter Tryd.func3, Tryd.ntmps3
    go_wp2_with (first
    | (go_at_call 5; (with_reducible refine (HAL.out _ (Below.refl _ _)).mono ?_); rintro x w1 ⟨rfl, hb1⟩; have HB1 := Lib.hid hb1; clear hb1)
    | (go_at_call 7; (with_reducible refine (HVS.out _ HB1.out).mono ?_); rintro x w2 ⟨⟨n', hn', rfl⟩, hb2⟩; have HB2 : Hid (Below w.heap.size w w2) := HB1.out.trans (hb2.mono HB1.out.size); clear hb2)
    | (go_at_call 6; (with_reducible refine (HBY.out n' hn' w2).mono ?_); rintro x w3 ⟨⟨bq, rfl⟩, hb3⟩; have HB3 : Hid (Below w.heap.size w w3) := HB2.out.trans (((below_alloc w2 _).trans (hb3.mono (by simp))).mono HB2.out.size); clear hb3; obtain ⟨c0, c1, c2, c3, c4, c5, c6, c7⟩ := KC.out _ HB3.out)
    | (go_at_call 5; (with_reducible refine (HAL.out _ HB3.out).mono ?_); rintro x w4 ⟨rfl, hb4⟩; have HB4 : Hid (Below w.heap.size w w4) := HB3.out.trans (hb4.mono HB3.out.size); clear hb4))
    all_goals
      go_ret
      first | exact ⟨rfl, HB4.out⟩ | exact ⟨rfl, HB3.out⟩
  by_cases hb6 : k = 6 ∧ hk = true
  · obtain ⟨rfl, rfl⟩ := hb6
    go_enter Tryd.func3, Tryd.ntmps3
    go_wp2_with (first
    | (go_at_call 5; (with_reducible refine (HAL.out _ (Below.refl _ _)).mono ?_); rintro x w1 ⟨rfl, hb1⟩; have HB1 := Lib.hid hb1; clear hb1)
    | (go_at_call 7; (with_reducible refine (HVS.out _ HB1.out).mono ?_); rintro x w2 ⟨⟨n', hn', rfl⟩, hb2⟩; have HB2 : Hid (Below w.heap.size w w2) := HB1.out.trans (hb2.mono HB1.out.size); clear hb2)
    | (go_at_call 6; (with_reducible refine (HBY.out n' hn' w2).mono ?_); rintro x w3 ⟨⟨bq, rfl⟩, hb3⟩; have HB3 : Hid (Below w.heap.size w w3) := HB2.out.trans (((below_alloc w2 _).trans (hb3.mono (by simp))).mono HB2.out.size); clear hb3; obtain ⟨c0, c1, c2, c3, c4, c5, c6, c7⟩ := KC.out _ HB3.out)
    | (go_at_call 5; (with_reducible refine (HAL.out _ HB3.out).mono ?_); rintro x w4 ⟨rfl, hb4⟩; have HB4 : Hid (Below w.heap.size w w4) := HB3.out.trans (hb4.mono HB3.out.size); clear hb4))
    all_goals
      go_ret
      first | exact ⟨rfl, HB4.out⟩ | exact ⟨rfl, HB3.out⟩
  have HFREE : Hid (∀ seen q, (keyM seen (V.mk k n s va vl vc VL fa fl fc fn F e key hk) q).2 = seen) := fun seen q => key_free (fun _ _ _ _ _ _ _ _ _ _ _ _ _ _ _ e => by cases e; exact hb6) seen q
  have HFLAT : Hid ((V.mk k n s va vl vc VL fa fl fc fn F e key hk).flatV = [.mk k n s va vl vc VL fa fl fc fn F e key hk]) := by
    unfold V.flatV
    rw [if_neg hb4]
    exact Lib.hid rfl
  have hk4 : (k == 4) = false := by simpa using hb4
  have hsp : (k == 6) = false ∨ ((k == 6) = true ∧ hk = false) := by
    by_cases q : k = 6
    · exact .inr ⟨by simpa using q, by cases hk <;> simp_all⟩
    · exact .inl (by simpa using q)
  clear hb4 hb6
  obtain ⟨qh, hqh⟩ : ∃ q, hk = q := ⟨_, rfl⟩
  rcases hsp with hk6 | ⟨hk6, rfl⟩
  all_goals
    clear hqh
    go_enter Tryd.func3, Tryd.ntmps3
    go_wp2_with (first
    | (go_at_call 5; (with_reducible refine (HAL.out _ (Below.refl _ _)).mono ?_); rintro x w1 ⟨rfl, hb1⟩; have HB1 := Lib.hid hb1; clear hb1)
    | (go_at_call 7; (with_reducible refine (HVS.out _ HB1.out).mono ?_); rintro x w2 ⟨⟨n', hn', rfl⟩, hb2⟩; have HB2 : Hid (Below w.heap.size w w2) := HB1.out.trans (hb2.mono HB1.out.size); clear hb2)
    | (go_at_call 6; (with_reducible refine (HBY.out n' hn' w2).mono ?_); rintro x w3 ⟨⟨bq, rfl⟩, hb3⟩; have HB3 : Hid (Below w.heap.size w w3) := HB2.out.trans (((below_alloc w2 _).trans (hb3.mono (by simp))).mono HB2.out.size); clear hb3; obtain ⟨c0, c1, c2, c3, c4, c5, c6, c7⟩ := KC.out _ HB3.out)
    | (go_at_call 5; (with_reducible refine (HAL.out _ HB3.out).mono ?_); rintro x w4 ⟨rfl, hb4⟩; have HB4 : Hid (Below w.heap.size w w4) := HB3.out.trans (hb4.mono HB3.out.size); clear hb4)
    | (at_builtin; refine Hid.out ?_))
    · go_ret
      exact ⟨rfl, HB4.out⟩
    refine Lib.hid ?_
    refine append_new rfl _ _ 22 30 rfl rfl (some ⟨b, o, none⟩) ll lc rfl (vz 0 0 ⟨#[]⟩).agg 8 112 Tryd.underlying22 info_val rfl (by decide) (by have := H1000.out; omega) (by have := H1000.out; unfold maxLen; omega) (fun i => (L i).cells) H8.out (fun i => in_one (w := w)) (fun i hi => ((HH.out.below HB3.out).els i hi).1) ?_
    intro a5 c5' w5 hN5
    obtain ⟨g, rfl, hbg, hat5, hfz⟩ := row_slot hN5 HP.out
    rw [HV.out] at hat5
    obtain ⟨d0, d1, d2, d3, d4, d5, d6, d7⟩ := at8 hat5
    have HS5 := Lib.hid (set_row hN5 HP.out H1000.out hbg (HH.out.below HB3.out))
    clear hN5 hat5 c0 c1 c2 c3 c4 c5 c6 c7
    go_wp2_with fail
    have HX : Hid (Lst ((((((((w5.setCell ⟨g, p * 8, none⟩ (.int .u8 0)).setCell ⟨g, p * 8 + 1, none⟩ (.int .i64 0)).setCell ⟨g, p * 8 + 2, none⟩ (.string ⟨#[]⟩)).setCell ⟨g, p * 8 + 3, none⟩ (.slice none 0 0)).setCell ⟨g, p * 8 + 4, none⟩ (.slice none 0 0)).setCell ⟨g, p * 8 + 5, none⟩ (.int .u8 0)).setCell ⟨g, p * 8 + 6, none⟩ (.string ⟨#[]⟩)).setCell ⟨g, p * 8 + 7, none⟩ (.bool false)) (some ⟨g, 0, none⟩) ll c5' (setV L p nv) ∧ Below w3.heap.size w3 ((((((((w5.setCell ⟨g, p * 8, none⟩ (.int .u8 0)).setCell ⟨g, p * 8 + 1, none⟩ (.int .i64 0)).setCell ⟨g, p * 8 + 2, none⟩ (.string ⟨#[]⟩)).setCell ⟨g, p * 8 + 3, none⟩ (.slice none 0 0)).setCell ⟨g, p * 8 + 4, none⟩ (.slice none 0 0)).setCell ⟨g, p * 8 + 5, none⟩ (.int .u8 0)).setCell ⟨g, p * 8 + 6, none⟩ (.string ⟨#[]⟩)).setCell ⟨g, p * 8 + 7, none⟩ (.bool false))) := HS5.out
    revert HX
    generalize ((((((((w5.setCell ⟨g, p * 8, none⟩ (.int .u8 0)).setCell ⟨g, p * 8 + 1, none⟩ (.int .i64 0)).setCell ⟨g, p * 8 + 2, none⟩ (.string ⟨#[]⟩)).setCell ⟨g, p * 8 + 3, none⟩ (.slice none 0 0)).setCell ⟨g, p * 8 + 4, none⟩ (.slice none 0 0)).setCell ⟨g, p * 8 + 5, none⟩ (.int .u8 0)).setCell ⟨g, p * 8 + 6, none⟩ (.string ⟨#[]⟩)).setCell ⟨g, p * 8 + 7, none⟩ (.bool false)) = w6
    intro HX
    have HB6 : Hid (Below w.heap.size w w6) := HB3.out.trans (HX.out.2.mono HB3.out.size)
    have HM6 := Lib.hid HX.out.1
    clear HX HS5 d0 d1 d2 d3 d4 d5 d6 d7 hfz HAL HVS HBY
    refine (HKD.out _ _ _ L w6 (HH.out.below HB6.out) HB6.out).mono ?_
    rintro x w7 ⟨u1, cs1, rfl, hp1⟩
    obtain ⟨a1, cp1, rfl, hr1, hc1, hm1⟩ := kd_row hp1
    have HB7 : Hid (Below w.heap.size w w7) := HB6.out.trans (hp1.low.mono HB6.out.size)
    have HM7 := Lib.hid (HM6.out.below hp1.low)
    have HR1 := Lib.hid hr1
    have HS1 := Lib.hid hp1.sms
    clear hp1 hr1 HM6
    go_wp2_with fail
    refine (HKD.out _ _ _ (setV L p nv) w7 HM7.out HB7.out).mono ?_
    rintro x w8 ⟨u2, cs2, rfl, hp2⟩
    obtain ⟨a2, cp2, rfl, hr2, hc2, hm2⟩ := kd_row hp2
    have HB8 : Hid (Below w.heap.size w w8) := HB7.out.trans (hp2.low.mono HB7.out.size)
    have HR1b := Lib.hid (HR1.out.below hp2.low)
    have HR2 := Lib.hid hr2
    have HS2 := Lib.hid hp2.sms
    clear hp2 hr2 HM7 HR1
    go_wp2_with fail
    refine (HKD.out _ _ _ (fun i => L (p + i)) w8 (HSUB.out.below HB8.out) HB8.out).mono ?_
    rintro x w9 ⟨u3, cs3, rfl, hp3⟩
    obtain ⟨a3, cp3, rfl, hr3, hc3, hm3⟩ := kd_row hp3
    have HB9 : Hid (Below w.heap.size w w9) := HB8.out.trans (hp3.low.mono HB8.out.size)
    have HR1c := Lib.hid (HR1b.out.below hp3.low)
    have HR2c := Lib.hid (HR2.out.below hp3.low)
    have HF := Lib.hid (places_facts HP.out HV.out HFLAT.out HFREE.out HS1.out HS2.out hp3.sms)
    clear hp3 hr3 HR1b HR2 HS1 HS2 HSUB HKD hc1 hm1 hc2 hm2 hc3 hm3 HFLAT HFREE HV KC
    by_cases h4 : cs1.length < 4096
    · obtain ⟨X, hl⟩ := HF.out h4
      have HLI := Lib.hid hl
      have hne2 : ((cs1.length : Int) != (cs2.length : Int) + (cs3.length : Int)) = false := by have := HLI.out.len; simp; omega
      have h4I : (cs1.length : Int) < 4096 := by omega
      have h5I : (cs3.length : Int) ≤ 1 := by have := HLI.out.one; omega
      have h6I : (0 : Int) ≤ (cs3.length : Int) := by omega
      have h7I : (cs2.length : Int) < 4096 := by have := HLI.out.len; omega
      have h8I : (0 : Int) ≤ (cs2.length : Int) := by omega
      clear hl h4
      go_wp2_with fail
      go_loopw [10, 11] (fun g i wr => ∃ j : Nat, ∃ gv : Value, g = gv ∧ i = .int .i64 j ∧ j ≤ cs2.length ∧ (gv = .int .i64 0 ∨ (gv = .int .i64 1 ∧ cs3.length = 1 ∧ X ≤ j)) ∧ Below w9.heap.size w9 wr) (fun _ i _ => cs2.length - (intOf i).toNat)
      case atStart => exact ⟨0, _, rfl, rfl, Nat.zero_le _, .inl rfl, Below.refl _ _⟩
      case round =>
        obtain ⟨j, gv, rfl, rfl, hj, hgv, hbw⟩ := hrel
        have HB := Lib.hid hbw
        clear hbw
        by_cases hlt : j < cs2.length
        · have hlt' : (j : Int) < (cs2.length : Int) := by omega
          have hj0 : (0 : Int) ≤ (j : Int) := by omega
          have hjl : j < cs1.length := by have := HLI.out.len; omega
          have hjl' : (j : Int) < (cs1.length : Int) := by omega
          obtain ⟨J, hJ⟩ : ∃ J, J = j + 1 := ⟨_, rfl⟩
          have hJI : (j : Int) + 1 = (J : Int) := by omega
          have hjb : (j : Int) < 4096 := by omega
          have hJb : (J : Int) ≤ 4096 := by omega
          have HJ := Lib.hid hJ
          have hJ0 : (0 : Int) ≤ (J : Int) := by omega
          have gw0 : IntKind.i64.wrap (j : Int) = (j : Int) := IntWalk.i64_in _ (by omega)
          have gw1 : IntKind.i64.wrap (J : Int) = (J : Int) := IntWalk.i64_in _ (by omega)
          clear hJ
          rcases hgv with rfl | ⟨rfl, h31, hX⟩
          · obtain ⟨q, hq⟩ : ∃ q, (cs1[j]'hjl).smB (cs2[j]'hlt) = q := ⟨_, rfl⟩
            cases q with
            | true =>
              obtain ⟨g1, rfl, hat1⟩ := HR1c.out.at' j hjl
              obtain ⟨g2, rfl, hat2⟩ := HR2c.out.at' j hlt
              have hv1 := HR1c.out.vals _ (List.getElem_mem hjl)
              have hv2 := HR2c.out.vals _ (List.getElem_mem hlt)
              have HE : Hid (∀ W, Below w9.heap.size w9 W → Calls Tryd.prog 9 #[(cs1[j]'hjl).agg, (cs2[j]'hlt).agg] W fun x w' => x = .returned (.bool true) ∧ Below W.heap.size W w') := fun W hb => by
                have := sc_any _ _ W (hv1.below hb) (hv2.below hb)
                rw [hq] at this
                exact this
              clear hq
              obtain ⟨x1, hx1⟩ : ∃ x, cs1[j]'hjl = x := ⟨_, rfl⟩
              rw [hx1] at hat1 hv1 HE
              clear hx1
              obtain ⟨ck1, ce1, cn1, v1⟩ := x1
              cases v1 with
              | leaf => exact hv1.elim
              | mk k1 n1 s1 la1 ll1 lc1 L1 fa1 fl1 fc1 fn1 F1 e1 key1 hk1 =>
              clear hv1
              obtain ⟨x2, hx2⟩ : ∃ x, cs2[j]'hlt = x := ⟨_, rfl⟩
              rw [hx2] at hat2 hv2 HE
              clear hx2
              obtain ⟨ck2, ce2, cn2, v2⟩ := x2
              cases v2 with
              | leaf => exact hv2.elim
              | mk k2 n2 s2 la2 ll2 lc2 L2 fa2 fl2 fc2 fn2 F2 e2 key2 hk2 =>
              clear hv2
              have KS : Hid (∀ W, Below wr.heap.size wr W → (fun W => Below wr.heap.size wr W ∧ W.cell? ⟨g1, j * 11, none⟩ = some (.string ck1) ∧ W.cell? ⟨g1, j * 11 + 1, none⟩ = some (.int .u8 ce1) ∧ W.cell? ⟨g1, j * 11 + 2, none⟩ = some (.string cn1) ∧ W.cell? ⟨g1, j * 11 + 3, none⟩ = some (.int .u8 k1) ∧ W.cell? ⟨g1, j * 11 + 4, none⟩ = some (.int .i64 n1) ∧ W.cell? ⟨g1, j * 11 + 5, none⟩ = some (.string s1) ∧ W.cell? ⟨g1, j * 11 + 6, none⟩ = some (.slice la1 ll1 lc1) ∧ W.cell? ⟨g1, j * 11 + 7, none⟩ = some (.slice fa1 fl1 fc1) ∧ W.cell? ⟨g1, j * 11 + 8, none⟩ = some (.int .u8 e1) ∧ W.cell? ⟨g1, j * 11 + 9, none⟩ = some (.string key1) ∧ W.cell? ⟨g1, j * 11 + 10, none⟩ = some (.bool hk1) ∧ W.cell? ⟨g2, j * 11, none⟩ = some (.string ck2) ∧ W.cell? ⟨g2, j * 11 + 1, none⟩ = some (.int .u8 ce2) ∧ W.cell? ⟨g2, j * 11 + 2, none⟩ = some (.string cn2) ∧ W.cell? ⟨g2, j * 11 + 3, none⟩ = some (.int .u8 k2) ∧ W.cell? ⟨g2, j * 11 + 4, none⟩ = some (.int .i64 n2) ∧ W.cell? ⟨g2, j * 11 + 5, none⟩ = some (.string s2) ∧ W.cell? ⟨g2, j * 11 + 6, none⟩ = some (.slice la2 ll2 lc2) ∧ W.cell? ⟨g2, j * 11 + 7, none⟩ = some (.slice fa2 fl2 fc2) ∧ W.cell? ⟨g2, j * 11 + 8, none⟩ = some (.int .u8 e2) ∧ W.cell? ⟨g2, j * 11 + 9, none⟩ = some (.string key2) ∧ W.cell? ⟨g2, j * 11 + 10, none⟩ = some (.bool hk2)) W) := fun W hb => by
                have hat1 := hat1.below (HB.out.trans (hb.mono HB.out.size))
                have hat2 := hat2.below (HB.out.trans (hb.mono HB.out.size))
                exact ⟨hb, hat1 0 (by simp [C.cells, V.cells]), hat1 1 (by simp [C.cells, V.cells]), hat1 2 (by simp [C.cells, V.cells]), hat1 3 (by simp [C.cells, V.cells]), hat1 4 (by simp [C.cells, V.cells]), hat1 5 (by simp [C.cells, V.cells]), hat1 6 (by simp [C.cells, V.cells]), hat1 7 (by simp [C.cells, V.cells]), hat1 8 (by simp [C.cells, V.cells]), hat1 9 (by simp [C.cells, V.cells]), hat1 10 (by simp [C.cells, V.cells]), hat2 0 (by simp [C.cells, V.cells]), hat2 1 (by simp [C.cells, V.cells]), hat2 2 (by simp [C.cells, V.cells]), hat2 3 (by simp [C.cells, V.cells]), hat2 4 (by simp [C.cells, V.cells]), hat2 5 (by simp [C.cells, V.cells]), hat2 6 (by simp [C.cells, V.cells]), hat2 7 (by simp [C.cells, V.cells]), hat2 8 (by simp [C.cells, V.cells]), hat2 9 (by simp [C.cells, V.cells]), hat2 10 (by simp [C.cells, V.cells])⟩
              have hS0 := KS.out _ (Below.refl _ _)
              simp only [C.agg, C.cells, V.cells] at HE
              clear hat1 hat2
              go_wp2_with fail
              go_region_held3 (fun W => Below wr.heap.size wr W ∧ W.cell? ⟨g1, j * 11, none⟩ = some (.string ck1) ∧ W.cell? ⟨g1, j * 11 + 1, none⟩ = some (.int .u8 ce1) ∧ W.cell? ⟨g1, j * 11 + 2, none⟩ = some (.string cn1) ∧ W.cell? ⟨g1, j * 11 + 3, none⟩ = some (.int .u8 k1) ∧ W.cell? ⟨g1, j * 11 + 4, none⟩ = some (.int .i64 n1) ∧ W.cell? ⟨g1, j * 11 + 5, none⟩ = some (.string s1) ∧ W.cell? ⟨g1, j * 11 + 6, none⟩ = some (.slice la1 ll1 lc1) ∧ W.cell? ⟨g1, j * 11 + 7, none⟩ = some (.slice fa1 fl1 fc1) ∧ W.cell? ⟨g1, j * 11 + 8, none⟩ = some (.int .u8 e1) ∧ W.cell? ⟨g1, j * 11 + 9, none⟩ = some (.string key1) ∧ W.cell? ⟨g1, j * 11 + 10, none⟩ = some (.bool hk1) ∧ W.cell? ⟨g2, j * 11, none⟩ = some (.string ck2) ∧ W.cell? ⟨g2, j * 11 + 1, none⟩ = some (.int .u8 ce2) ∧ W.cell? ⟨g2, j * 11 + 2, none⟩ = some (.string cn2) ∧ W.cell? ⟨g2, j * 11 + 3, none⟩ = some (.int .u8 k2) ∧ W.cell? ⟨g2, j * 11 + 4, none⟩ = some (.int .i64 n2) ∧ W.cell? ⟨g2, j * 11 + 5, none⟩ = some (.string s2) ∧ W.cell? ⟨g2, j * 11 + 6, none⟩ = some (.slice la2 ll2 lc2) ∧ W.cell? ⟨g2, j * 11 + 7, none⟩ = some (.slice fa2 fl2 fc2) ∧ W.cell? ⟨g2, j * 11 + 8, none⟩ = some (.int .u8 e2) ∧ W.cell? ⟨g2, j * 11 + 9, none⟩ = some (.string key2) ∧ W.cell? ⟨g2, j * 11 + 10, none⟩ = some (.bool hk2))
                (first | exact KS.out _ ((Below.refl _ _).drew) | exact KS.out _ (Below.trans (And.left (by assumption)) (Below.mono (by assumption) (Below.size (And.left (by assumption))))))
                (first | (go_at_call 9; refine (HE.out _ ?_).mono ?_; (go_split_ands; exact Below.trans HB.out (Below.mono (by assumption) HB.out.size)); rintro x w1 ⟨rfl, hb1⟩))
              have hfin : Hid (Below w9.heap.size w9 _) := HB.out.trans (Below.mono (And.left (by assumption)) HB.out.size)
              go_wp2_with fail
              go_roundw
              case rel => exact ⟨J, .int .i64 0, rfl, rfl, by have := HJ.out; omega, .inl rfl, hfin.out⟩
              case measure => (have := HJ.out; simp [intOf]; omega)
            | false =>
              have hcase : X ≤ j ∧ cs3.length = 1 := by
                by_cases hc : j < X ∨ cs3.length = 0
                · have := sm_smB (HLI.out.pre j hjl hlt hc)
                  rw [hq] at this
                  cases this
                · have := HLI.out.one
                  omega
              have hX := hcase.1
              have H31 := Lib.hid hcase.2
              clear hcase
              have hJl : J < cs1.length := by have := HLI.out.len; have := HJ.out; have := H31.out; omega
              have hJl' : (J : Int) < (cs1.length : Int) := by omega
              have hd31 : decide ((cs3.length : Int) < 1) = false := decide_eq_false (by have := H31.out; omega)
              have hd32 : decide (cs3.length < 1) = false := decide_eq_false (by have := H31.out; omega)
              obtain ⟨g1, rfl, hat1⟩ := HR1c.out.at' j hjl
              obtain ⟨g2, rfl, hat2⟩ := HR2c.out.at' j hlt
              have hv1 := HR1c.out.vals _ (List.getElem_mem hjl)
              have hv2 := HR2c.out.vals _ (List.getElem_mem hlt)
              obtain ⟨g3, he3, hat3⟩ := HR1c.out.at' J hJl
              cases he3
              have hv3 := HR1c.out.vals _ (List.getElem_mem hJl)
              have hsm : (cs1[J]'hJl).smB (cs2[j]'hlt) = true := by have e := HJ.out; subst e; exact sm_smB (HLI.out.suf j hJl hlt hX H31.out)
              have HE : Hid (∀ W, Below w9.heap.size w9 W → Calls Tryd.prog 9 #[(cs1[j]'hjl).agg, (cs2[j]'hlt).agg] W fun x w' => x = .returned (.bool false) ∧ Below W.heap.size W w') := fun W hb => by
                have := sc_any _ _ W (hv1.below hb) (hv2.below hb)
                rw [hq] at this
                exact this
              have HE3 : Hid (∀ W, Below w9.heap.size w9 W → Calls Tryd.prog 9 #[(cs1[J]'hJl).agg, (cs2[j]'hlt).agg] W fun x w' => x = .returned (.bool true) ∧ Below W.heap.size W w') := fun W hb => by
                have := sc_any _ _ W (hv3.below hb) (hv2.below hb)
                rw [hsm] at this
                exact this
              clear hq hsm
              obtain ⟨x1, hx1⟩ : ∃ x, cs1[j]'hjl = x := ⟨_, rfl⟩
              rw [hx1] at hat1 hv1 HE
              clear hx1
              obtain ⟨ck1, ce1, cn1, v1⟩ := x1
              cases v1 with
              | leaf => exact hv1.elim
              | mk k1 n1 s1 la1 ll1 lc1 L1 fa1 fl1 fc1 fn1 F1 e1 key1 hk1 =>
              clear hv1
              obtain ⟨x3, hx3⟩ : ∃ x, cs1[J]'hJl = x := ⟨_, rfl⟩
              rw [hx3] at hat3 hv3 HE3
              clear hx3
              obtain ⟨ck3, ce3, cn3, v3⟩ := x3
              cases v3 with
              | leaf => exact hv3.elim
              | mk k3 n3 s3 la3 ll3 lc3 L3 fa3 fl3 fc3 fn3 F3 e3 key3 hk3 =>
              clear hv3
              obtain ⟨x2, hx2⟩ : ∃ x, cs2[j]'hlt = x := ⟨_, rfl⟩
              rw [hx2] at hat2 hv2 HE HE3
              clear hx2
              obtain ⟨ck2, ce2, cn2, v2⟩ := x2
              cases v2 with
              | leaf => exact hv2.elim
              | mk k2 n2 s2 la2 ll2 lc2 L2 fa2 fl2 fc2 fn2 F2 e2 key2 hk2 =>
              clear hv2
              have KS : Hid (∀ W, Below wr.heap.size wr W → (fun W => Below wr.heap.size wr W ∧ W.cell? ⟨g1, j * 11, none⟩ = some (.string ck1) ∧ W.cell? ⟨g1, j * 11 + 1, none⟩ = some (.int .u8 ce1) ∧ W.cell? ⟨g1, j * 11 + 2, none⟩ = some (.string cn1) ∧ W.cell? ⟨g1, j * 11 + 3, none⟩ = some (.int .u8 k1) ∧ W.cell? ⟨g1, j * 11 + 4, none⟩ = some (.int .i64 n1) ∧ W.cell? ⟨g1, j * 11 + 5, none⟩ = some (.string s1) ∧ W.cell? ⟨g1, j * 11 + 6, none⟩ = some (.slice la1 ll1 lc1) ∧ W.cell? ⟨g1, j * 11 + 7, none⟩ = some (.slice fa1 fl1 fc1) ∧ W.cell? ⟨g1, j * 11 + 8, none⟩ = some (.int .u8 e1) ∧ W.cell? ⟨g1, j * 11 + 9, none⟩ = some (.string key1) ∧ W.cell? ⟨g1, j * 11 + 10, none⟩ = some (.bool hk1) ∧ W.cell? ⟨g2, j * 11, none⟩ = some (.string ck2) ∧ W.cell? ⟨g2, j * 11 + 1, none⟩ = some (.int .u8 ce2) ∧ W.cell? ⟨g2, j * 11 + 2, none⟩ = some (.string cn2) ∧ W.cell? ⟨g2, j * 11 + 3, none⟩ = some (.int .u8 k2) ∧ W.cell? ⟨g2, j * 11 + 4, none⟩ = some (.int .i64 n2) ∧ W.cell? ⟨g2, j * 11 + 5, none⟩ = some (.string s2) ∧ W.cell? ⟨g2, j * 11 + 6, none⟩ = some (.slice la2 ll2 lc2) ∧ W.cell? ⟨g2, j * 11 + 7, none⟩ = some (.slice fa2 fl2 fc2) ∧ W.cell? ⟨g2, j * 11 + 8, none⟩ = some (.int .u8 e2) ∧ W.cell? ⟨g2, j * 11 + 9, none⟩ = some (.string key2) ∧ W.cell? ⟨g2, j * 11 + 10, none⟩ = some (.bool hk2)) W) := fun W hb => by
                have hat1 := hat1.below (HB.out.trans (hb.mono HB.out.size))
                have hat2 := hat2.below (HB.out.trans (hb.mono HB.out.size))
                exact ⟨hb, hat1 0 (by simp [C.cells, V.cells]), hat1 1 (by simp [C.cells, V.cells]), hat1 2 (by simp [C.cells, V.cells]), hat1 3 (by simp [C.cells, V.cells]), hat1 4 (by simp [C.cells, V.cells]), hat1 5 (by simp [C.cells, V.cells]), hat1 6 (by simp [C.cells, V.cells]), hat1 7 (by simp [C.cells, V.cells]), hat1 8 (by simp [C.cells, V.cells]), hat1 9 (by simp [C.cells, V.cells]), hat1 10 (by simp [C.cells, V.cells]), hat2 0 (by simp [C.cells, V.cells]), hat2 1 (by simp [C.cells, V.cells]), hat2 2 (by simp [C.cells, V.cells]), hat2 3 (by simp [C.cells, V.cells]), hat2 4 (by simp [C.cells, V.cells]), hat2 5 (by simp [C.cells, V.cells]), hat2 6 (by simp [C.cells, V.cells]), hat2 7 (by simp [C.cells, V.cells]), hat2 8 (by simp [C.cells, V.cells]), hat2 9 (by simp [C.cells, V.cells]), hat2 10 (by simp [C.cells, V.cells])⟩
              have hS0 := KS.out _ (Below.refl _ _)
              have KT : Hid (∀ W, Below wr.heap.size wr W → (fun W => Below wr.heap.size wr W ∧ W.cell? ⟨g1, J * 11, none⟩ = some (.string ck3) ∧ W.cell? ⟨g1, J * 11 + 1, none⟩ = some (.int .u8 ce3) ∧ W.cell? ⟨g1, J * 11 + 2, none⟩ = some (.string cn3) ∧ W.cell? ⟨g1, J * 11 + 3, none⟩ = some (.int .u8 k3) ∧ W.cell? ⟨g1, J * 11 + 4, none⟩ = some (.int .i64 n3) ∧ W.cell? ⟨g1, J * 11 + 5, none⟩ = some (.string s3) ∧ W.cell? ⟨g1, J * 11 + 6, none⟩ = some (.slice la3 ll3 lc3) ∧ W.cell? ⟨g1, J * 11 + 7, none⟩ = some (.slice fa3 fl3 fc3) ∧ W.cell? ⟨g1, J * 11 + 8, none⟩ = some (.int .u8 e3) ∧ W.cell? ⟨g1, J * 11 + 9, none⟩ = some (.string key3) ∧ W.cell? ⟨g1, J * 11 + 10, none⟩ = some (.bool hk3) ∧ W.cell? ⟨g2, j * 11, none⟩ = some (.string ck2) ∧ W.cell? ⟨g2, j * 11 + 1, none⟩ = some (.int .u8 ce2) ∧ W.cell? ⟨g2, j * 11 + 2, none⟩ = some (.string cn2) ∧ W.cell? ⟨g2, j * 11 + 3, none⟩ = some (.int .u8 k2) ∧ W.cell? ⟨g2, j * 11 + 4, none⟩ = some (.int .i64 n2) ∧ W.cell? ⟨g2, j * 11 + 5, none⟩ = some (.string s2) ∧ W.cell? ⟨g2, j * 11 + 6, none⟩ = some (.slice la2 ll2 lc2) ∧ W.cell? ⟨g2, j * 11 + 7, none⟩ = some (.slice fa2 fl2 fc2) ∧ W.cell? ⟨g2, j * 11 + 8, none⟩ = some (.int .u8 e2) ∧ W.cell? ⟨g2, j * 11 + 9, none⟩ = some (.string key2) ∧ W.cell? ⟨g2, j * 11 + 10, none⟩ = some (.bool hk2)) W) := fun W hb => by
                have hat3 := hat3.below (HB.out.trans (hb.mono HB.out.size))
                have hat2 := hat2.below (HB.out.trans (hb.mono HB.out.size))
                exact ⟨hb, hat3 0 (by simp [C.cells, V.cells]), hat3 1 (by simp [C.cells, V.cells]), hat3 2 (by simp [C.cells, V.cells]), hat3 3 (by simp [C.cells, V.cells]), hat3 4 (by simp [C.cells, V.cells]), hat3 5 (by simp [C.cells, V.cells]), hat3 6 (by simp [C.cells, V.cells]), hat3 7 (by simp [C.cells, V.cells]), hat3 8 (by simp [C.cells, V.cells]), hat3 9 (by simp [C.cells, V.cells]), hat3 10 (by simp [C.cells, V.cells]), hat2 0 (by simp [C.cells, V.cells]), hat2 1 (by simp [C.cells, V.cells]), hat2 2 (by simp [C.cells, V.cells]), hat2 3 (by simp [C.cells, V.cells]), hat2 4 (by simp [C.cells, V.cells]), hat2 5 (by simp [C.cells, V.cells]), hat2 6 (by simp [C.cells, V.cells]), hat2 7 (by simp [C.cells, V.cells]), hat2 8 (by simp [C.cells, V.cells]), hat2 9 (by simp [C.cells, V.cells]), hat2 10 (by simp [C.cells, V.cells])⟩
              simp only [C.agg, C.cells, V.cells] at HE HE3
              clear hat1 hat2 hat3
              go_wp2_with fail
              go_region_held3 (fun W => Below wr.heap.size wr W ∧ W.cell? ⟨g1, j * 11, none⟩ = some (.string ck1) ∧ W.cell? ⟨g1, j * 11 + 1, none⟩ = some (.int .u8 ce1) ∧ W.cell? ⟨g1, j * 11 + 2, none⟩ = some (.string cn1) ∧ W.cell? ⟨g1, j * 11 + 3, none⟩ = some (.int .u8 k1) ∧ W.cell? ⟨g1, j * 11 + 4, none⟩ = some (.int .i64 n1) ∧ W.cell? ⟨g1, j * 11 + 5, none⟩ = some (.string s1) ∧ W.cell? ⟨g1, j * 11 + 6, none⟩ = some (.slice la1 ll1 lc1) ∧ W.cell? ⟨g1, j * 11 + 7, none⟩ = some (.slice fa1 fl1 fc1) ∧ W.cell? ⟨g1, j * 11 + 8, none⟩ = some (.int .u8 e1) ∧ W.cell? ⟨g1, j * 11 + 9, none⟩ = some (.string key1) ∧ W.cell? ⟨g1, j * 11 + 10, none⟩ = some (.bool hk1) ∧ W.cell? ⟨g2, j * 11, none⟩ = some (.string ck2) ∧ W.cell? ⟨g2, j * 11 + 1, none⟩ = some (.int .u8 ce2) ∧ W.cell? ⟨g2, j * 11 + 2, none⟩ = some (.string cn2) ∧ W.cell? ⟨g2, j * 11 + 3, none⟩ = some (.int .u8 k2) ∧ W.cell? ⟨g2, j * 11 + 4, none⟩ = some (.int .i64 n2) ∧ W.cell? ⟨g2, j * 11 + 5, none⟩ = some (.string s2) ∧ W.cell? ⟨g2, j * 11 + 6, none⟩ = some (.slice la2 ll2 lc2) ∧ W.cell? ⟨g2, j * 11 + 7, none⟩ = some (.slice fa2 fl2 fc2) ∧ W.cell? ⟨g2, j * 11 + 8, none⟩ = some (.int .u8 e2) ∧ W.cell? ⟨g2, j * 11 + 9, none⟩ = some (.string key2) ∧ W.cell? ⟨g2, j * 11 + 10, none⟩ = some (.bool hk2))
                (first | exact KS.out _ ((Below.refl _ _).drew) | exact KS.out _ (Below.trans (And.left (by assumption)) (Below.mono (by assumption) (Below.size (And.left (by assumption))))))
                (first | (go_at_call 9; refine (HE.out _ ?_).mono ?_; (go_split_ands; exact Below.trans HB.out (Below.mono (by assumption) HB.out.size)); rintro x w1 ⟨rfl, hb1⟩))
              have hfin : Hid (Below w9.heap.size w9 _) := HB.out.trans (Below.mono (And.left (by assumption)) HB.out.size)
              have HX1 := Lib.hid (And.left (by assumption : (fun W => Below wr.heap.size wr W ∧ W.cell? ⟨g1, j * 11, none⟩ = some (.string ck1) ∧ W.cell? ⟨g1, j * 11 + 1, none⟩ = some (.int .u8 ce1) ∧ W.cell? ⟨g1, j * 11 + 2, none⟩ = some (.string cn1) ∧ W.cell? ⟨g1, j * 11 + 3, none⟩ = some (.int .u8 k1) ∧ W.cell? ⟨g1, j * 11 + 4, none⟩ = some (.int .i64 n1) ∧ W.cell? ⟨g1, j * 11 + 5, none⟩ = some (.string s1) ∧ W.cell? ⟨g1, j * 11 + 6, none⟩ = some (.slice la1 ll1 lc1) ∧ W.cell? ⟨g1, j * 11 + 7, none⟩ = some (.slice fa1 fl1 fc1) ∧ W.cell? ⟨g1, j * 11 + 8, none⟩ = some (.int .u8 e1) ∧ W.cell? ⟨g1, j * 11 + 9, none⟩ = some (.string key1) ∧ W.cell? ⟨g1, j * 11 + 10, none⟩ = some (.bool hk1) ∧ W.cell? ⟨g2, j * 11, none⟩ = some (.string ck2) ∧ W.cell? ⟨g2, j * 11 + 1, none⟩ = some (.int .u8 ce2) ∧ W.cell? ⟨g2, j * 11 + 2, none⟩ = some (.string cn2) ∧ W.cell? ⟨g2, j * 11 + 3, none⟩ = some (.int .u8 k2) ∧ W.cell? ⟨g2, j * 11 + 4, none⟩ = some (.int .i64 n2) ∧ W.cell? ⟨g2, j * 11 + 5, none⟩ = some (.string s2) ∧ W.cell? ⟨g2, j * 11 + 6, none⟩ = some (.slice la2 ll2 lc2) ∧ W.cell? ⟨g2, j * 11 + 7, none⟩ = some (.slice fa2 fl2 fc2) ∧ W.cell? ⟨g2, j * 11 + 8, none⟩ = some (.int .u8 e2) ∧ W.cell? ⟨g2, j * 11 + 9, none⟩ = some (.string key2) ∧ W.cell? ⟨g2, j * 11 + 10, none⟩ = some (.bool hk2)) _))
              clear hS0
              go_wp2_with fail
              have hT0 := KT.out _ HX1.out
              go_region_held3 (fun W => Below wr.heap.size wr W ∧ W.cell? ⟨g1, J * 11, none⟩ = some (.string ck3) ∧ W.cell? ⟨g1, J * 11 + 1, none⟩ = some (.int .u8 ce3) ∧ W.cell? ⟨g1, J * 11 + 2, none⟩ = some (.string cn3) ∧ W.cell? ⟨g1, J * 11 + 3, none⟩ = some (.int .u8 k3) ∧ W.cell? ⟨g1, J * 11 + 4, none⟩ = some (.int .i64 n3) ∧ W.cell? ⟨g1, J * 11 + 5, none⟩ = some (.string s3) ∧ W.cell? ⟨g1, J * 11 + 6, none⟩ = some (.slice la3 ll3 lc3) ∧ W.cell? ⟨g1, J * 11 + 7, none⟩ = some (.slice fa3 fl3 fc3) ∧ W.cell? ⟨g1, J * 11 + 8, none⟩ = some (.int .u8 e3) ∧ W.cell? ⟨g1, J * 11 + 9, none⟩ = some (.string key3) ∧ W.cell? ⟨g1, J * 11 + 10, none⟩ = some (.bool hk3) ∧ W.cell? ⟨g2, j * 11, none⟩ = some (.string ck2) ∧ W.cell? ⟨g2, j * 11 + 1, none⟩ = some (.int .u8 ce2) ∧ W.cell? ⟨g2, j * 11 + 2, none⟩ = some (.string cn2) ∧ W.cell? ⟨g2, j * 11 + 3, none⟩ = some (.int .u8 k2) ∧ W.cell? ⟨g2, j * 11 + 4, none⟩ = some (.int .i64 n2) ∧ W.cell? ⟨g2, j * 11 + 5, none⟩ = some (.string s2) ∧ W.cell? ⟨g2, j * 11 + 6, none⟩ = some (.slice la2 ll2 lc2) ∧ W.cell? ⟨g2, j * 11 + 7, none⟩ = some (.slice fa2 fl2 fc2) ∧ W.cell? ⟨g2, j * 11 + 8, none⟩ = some (.int .u8 e2) ∧ W.cell? ⟨g2, j * 11 + 9, none⟩ = some (.string key2) ∧ W.cell? ⟨g2, j * 11 + 10, none⟩ = some (.bool hk2))
                (first | exact KT.out _ (HX1.out.trans (Below.mono ((Below.refl _ _).drew) HX1.out.size)) | exact KT.out _ (Below.trans (And.left (by assumption)) (Below.mono (by assumption) (Below.size (And.left (by assumption))))))
                (first | (go_at_call 9; refine (HE3.out _ ?_).mono ?_; (go_split_ands; exact Below.trans HB.out (Below.mono (by assumption) HB.out.size)); rintro x w1 ⟨rfl, hb1⟩))
              have hfin2 : Hid (Below w9.heap.size w9 _) := HB.out.trans (Below.mono (And.left (by assumption : (fun W => Below wr.heap.size wr W ∧ W.cell? ⟨g1, J * 11, none⟩ = some (.string ck3) ∧ W.cell? ⟨g1, J * 11 + 1, none⟩ = some (.int .u8 ce3) ∧ W.cell? ⟨g1, J * 11 + 2, none⟩ = some (.string cn3) ∧ W.cell? ⟨g1, J * 11 + 3, none⟩ = some (.int .u8 k3) ∧ W.cell? ⟨g1, J * 11 + 4, none⟩ = some (.int .i64 n3) ∧ W.cell? ⟨g1, J * 11 + 5, none⟩ = some (.string s3) ∧ W.cell? ⟨g1, J * 11 + 6, none⟩ = some (.slice la3 ll3 lc3) ∧ W.cell? ⟨g1, J * 11 + 7, none⟩ = some (.slice fa3 fl3 fc3) ∧ W.cell? ⟨g1, J * 11 + 8, none⟩ = some (.int .u8 e3) ∧ W.cell? ⟨g1, J * 11 + 9, none⟩ = some (.string key3) ∧ W.cell? ⟨g1, J * 11 + 10, none⟩ = some (.bool hk3) ∧ W.cell? ⟨g2, j * 11, none⟩ = some (.string ck2) ∧ W.cell? ⟨g2, j * 11 + 1, none⟩ = some (.int .u8 ce2) ∧ W.cell? ⟨g2, j * 11 + 2, none⟩ = some (.string cn2) ∧ W.cell? ⟨g2, j * 11 + 3, none⟩ = some (.int .u8 k2) ∧ W.cell? ⟨g2, j * 11 + 4, none⟩ = some (.int .i64 n2) ∧ W.cell? ⟨g2, j * 11 + 5, none⟩ = some (.string s2) ∧ W.cell? ⟨g2, j * 11 + 6, none⟩ = some (.slice la2 ll2 lc2) ∧ W.cell? ⟨g2, j * 11 + 7, none⟩ = some (.slice fa2 fl2 fc2) ∧ W.cell? ⟨g2, j * 11 + 8, none⟩ = some (.int .u8 e2) ∧ W.cell? ⟨g2, j * 11 + 9, none⟩ = some (.string key2) ∧ W.cell? ⟨g2, j * 11 + 10, none⟩ = some (.bool hk2)) _)) HB.out.size)
              go_wp2_with fail
              go_roundw
              case rel => exact ⟨J, .int .i64 1, rfl, rfl, by have := HJ.out; omega, .inr ⟨rfl, H31.out, by have := HJ.out; omega⟩, hfin2.out⟩
              case measure => (have := HJ.out; simp [intOf]; omega)
          · have H31 := Lib.hid h31
            have hJl : J < cs1.length := by have := HLI.out.len; have := HJ.out; omega
            clear h31
            have hJl' : (J : Int) < (cs1.length : Int) := by omega
            obtain ⟨g1, rfl, hat1⟩ := HR1c.out.at' J hJl
            obtain ⟨g2, rfl, hat2⟩ := HR2c.out.at' j hlt
            have hv1 := HR1c.out.vals _ (List.getElem_mem hJl)
            have hv2 := HR2c.out.vals _ (List.getElem_mem hlt)
            have hsm : (cs1[J]'hJl).smB (cs2[j]'hlt) = true := by have e := HJ.out; subst e; exact sm_smB (HLI.out.suf j hJl hlt hX H31.out)
            have HE : Hid (∀ W, Below w9.heap.size w9 W → Calls Tryd.prog 9 #[(cs1[J]'hJl).agg, (cs2[j]'hlt).agg] W fun x w' => x = .returned (.bool true) ∧ Below W.heap.size W w') := fun W hb => by
              have := sc_any _ _ W (hv1.below hb) (hv2.below hb)
              rw [hsm] at this
              exact this
            clear hsm
            obtain ⟨x1, hx1⟩ : ∃ x, cs1[J]'hJl = x := ⟨_, rfl⟩
            rw [hx1] at hat1 hv1 HE
            clear hx1
            obtain ⟨ck1, ce1, cn1, v1⟩ := x1
            cases v1 with
            | leaf => exact hv1.elim
            | mk k1 n1 s1 la1 ll1 lc1 L1 fa1 fl1 fc1 fn1 F1 e1 key1 hk1 =>
            clear hv1
            obtain ⟨x2, hx2⟩ : ∃ x, cs2[j]'hlt = x := ⟨_, rfl⟩
            rw [hx2] at hat2 hv2 HE
            clear hx2
            obtain ⟨ck2, ce2, cn2, v2⟩ := x2
            cases v2 with
            | leaf => exact hv2.elim
            | mk k2 n2 s2 la2 ll2 lc2 L2 fa2 fl2 fc2 fn2 F2 e2 key2 hk2 =>
            clear hv2
            have KS : Hid (∀ W, Below wr.heap.size wr W → (fun W => Below wr.heap.size wr W ∧ W.cell? ⟨g1, J * 11, none⟩ = some (.string ck1) ∧ W.cell? ⟨g1, J * 11 + 1, none⟩ = some (.int .u8 ce1) ∧ W.cell? ⟨g1, J * 11 + 2, none⟩ = some (.string cn1) ∧ W.cell? ⟨g1, J * 11 + 3, none⟩ = some (.int .u8 k1) ∧ W.cell? ⟨g1, J * 11 + 4, none⟩ = some (.int .i64 n1) ∧ W.cell? ⟨g1, J * 11 + 5, none⟩ = some (.string s1) ∧ W.cell? ⟨g1, J * 11 + 6, none⟩ = some (.slice la1 ll1 lc1) ∧ W.cell? ⟨g1, J * 11 + 7, none⟩ = some (.slice fa1 fl1 fc1) ∧ W.cell? ⟨g1, J * 11 + 8, none⟩ = some (.int .u8 e1) ∧ W.cell? ⟨g1, J * 11 + 9, none⟩ = some (.string key1) ∧ W.cell? ⟨g1, J * 11 + 10, none⟩ = some (.bool hk1) ∧ W.cell? ⟨g2, j * 11, none⟩ = some (.string ck2) ∧ W.cell? ⟨g2, j * 11 + 1, none⟩ = some (.int .u8 ce2) ∧ W.cell? ⟨g2, j * 11 + 2, none⟩ = some (.string cn2) ∧ W.cell? ⟨g2, j * 11 + 3, none⟩ = some (.int .u8 k2) ∧ W.cell? ⟨g2, j * 11 + 4, none⟩ = some (.int .i64 n2) ∧ W.cell? ⟨g2, j * 11 + 5, none⟩ = some (.string s2) ∧ W.cell? ⟨g2, j * 11 + 6, none⟩ = some (.slice la2 ll2 lc2) ∧ W.cell? ⟨g2, j * 11 + 7, none⟩ = some (.slice fa2 fl2 fc2) ∧ W.cell? ⟨g2, j * 11 + 8, none⟩ = some (.int .u8 e2) ∧ W.cell? ⟨g2, j * 11 + 9, none⟩ = some (.string key2) ∧ W.cell? ⟨g2, j * 11 + 10, none⟩ = some (.bool hk2)) W) := fun W hb => by
              have hat1 := hat1.below (HB.out.trans (hb.mono HB.out.size))
              have hat2 := hat2.below (HB.out.trans (hb.mono HB.out.size))
              exact ⟨hb, hat1 0 (by simp [C.cells, V.cells]), hat1 1 (by simp [C.cells, V.cells]), hat1 2 (by simp [C.cells, V.cells]), hat1 3 (by simp [C.cells, V.cells]), hat1 4 (by simp [C.cells, V.cells]), hat1 5 (by simp [C.cells, V.cells]), hat1 6 (by simp [C.cells, V.cells]), hat1 7 (by simp [C.cells, V.cells]), hat1 8 (by simp [C.cells, V.cells]), hat1 9 (by simp [C.cells, V.cells]), hat1 10 (by simp [C.cells, V.cells]), hat2 0 (by simp [C.cells, V.cells]), hat2 1 (by simp [C.cells, V.cells]), hat2 2 (by simp [C.cells, V.cells]), hat2 3 (by simp [C.cells, V.cells]), hat2 4 (by simp [C.cells, V.cells]), hat2 5 (by simp [C.cells, V.cells]), hat2 6 (by simp [C.cells, V.cells]), hat2 7 (by simp [C.cells, V.cells]), hat2 8 (by simp [C.cells, V.cells]), hat2 9 (by simp [C.cells, V.cells]), hat2 10 (by simp [C.cells, V.cells])⟩
            have hS0 := KS.out _ (Below.refl _ _)
            simp only [C.agg, C.cells, V.cells] at HE
            clear hat1 hat2
            go_wp2_with fail
            go_region_held3 (fun W => Below wr.heap.size wr W ∧ W.cell? ⟨g1, J * 11, none⟩ = some (.string ck1) ∧ W.cell? ⟨g1, J * 11 + 1, none⟩ = some (.int .u8 ce1) ∧ W.cell? ⟨g1, J * 11 + 2, none⟩ = some (.string cn1) ∧ W.cell? ⟨g1, J * 11 + 3, none⟩ = some (.int .u8 k1) ∧ W.cell? ⟨g1, J * 11 + 4, none⟩ = some (.int .i64 n1) ∧ W.cell? ⟨g1, J * 11 + 5, none⟩ = some (.string s1) ∧ W.cell? ⟨g1, J * 11 + 6, none⟩ = some (.slice la1 ll1 lc1) ∧ W.cell? ⟨g1, J * 11 + 7, none⟩ = some (.slice fa1 fl1 fc1) ∧ W.cell? ⟨g1, J * 11 + 8, none⟩ = some (.int .u8 e1) ∧ W.cell? ⟨g1, J * 11 + 9, none⟩ = some (.string key1) ∧ W.cell? ⟨g1, J * 11 + 10, none⟩ = some (.bool hk1) ∧ W.cell? ⟨g2, j * 11, none⟩ = some (.string ck2) ∧ W.cell? ⟨g2, j * 11 + 1, none⟩ = some (.int .u8 ce2) ∧ W.cell? ⟨g2, j * 11 + 2, none⟩ = some (.string cn2) ∧ W.cell? ⟨g2, j * 11 + 3, none⟩ = some (.int .u8 k2) ∧ W.cell? ⟨g2, j * 11 + 4, none⟩ = some (.int .i64 n2) ∧ W.cell? ⟨g2, j * 11 + 5, none⟩ = some (.string s2) ∧ W.cell? ⟨g2, j * 11 + 6, none⟩ = some (.slice la2 ll2 lc2) ∧ W.cell? ⟨g2, j * 11 + 7, none⟩ = some (.slice fa2 fl2 fc2) ∧ W.cell? ⟨g2, j * 11 + 8, none⟩ = some (.int .u8 e2) ∧ W.cell? ⟨g2, j * 11 + 9, none⟩ = some (.string key2) ∧ W.cell? ⟨g2, j * 11 + 10, none⟩ = some (.bool hk2))
              (first | exact KS.out _ ((Below.refl _ _).drew) | exact KS.out _ (Below.trans (And.left (by assumption)) (Below.mono (by assumption) (Below.size (And.left (by assumption))))))
              (first | (go_at_call 9; refine (HE.out _ ?_).mono ?_; (go_split_ands; exact Below.trans HB.out (Below.mono (by assumption) HB.out.size)); rintro x w1 ⟨rfl, hb1⟩))
            have hfin : Hid (Below w9.heap.size w9 _) := HB.out.trans (Below.mono (And.left (by assumption)) HB.out.size)
            go_wp2_with fail
            go_roundw
            case rel => exact ⟨J, .int .i64 1, rfl, rfl, by have := HJ.out; omega, .inr ⟨rfl, H31.out, by have := HJ.out; omega⟩, hfin.out⟩
            case measure => (have := HJ.out; simp [intOf]; omega)
        · obtain rfl : j = cs2.length := by omega
          go_wp2_with fail
          go_ret
          exact ⟨rfl, HB9.out.trans (HB.out.mono HB9.out.size)⟩
    · have h4I : (4096 : Int) ≤ (cs1.length : Int) := by omega
      go_wp2_with fail
      go_ret
      exact ⟨rfl, HB9.out⟩
end Go.Proofs.YtpmkkgndpfbkdaaDoor
