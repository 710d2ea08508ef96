/-
  Walks: ValueParts returns true; old memory is as it was.
  Conditions: the value lies in memory, and has at most 2^20 parts; the three tables hold what the program's text lays in them.
-/
import Derived.Test.YtglhbggihdfieaaDoorPart
import Derived.Test.YtglhbggihdfieaaDoorCount
import Derived.Test.YtglhbggihdfieaaDoorBox
import Derived.Deep.RegionHeld3
import Derived.IntWalk
namespace Go.Proofs.YtglhbggihdfieaaDoor
open Go.RowKit Go.Deep Go.WideShapes

/-- A value in a box, the first block behind 'w'. -/
structure Box1 (w : World) (v : V) (W : World) : Prop where
  low : Below w.heap.size w W
  tabs : Tabs W
  vin : v.In W
  cv : At W w.heap.size 0 v.cells

theorem Box1.below {w : World} {v : V} {W W' : World} (h : Box1 w v W) (hb : Below W.heap.size W W') : Box1 w v W' :=
  ⟨h.low.trans (hb.mono h.low.size), h.tabs.below hb, h.vin.below hb, h.cv.below hb⟩

theorem box1 {w : World} {v : V} (ht : Tabs w) (hv : v.In w) (T : TypeId) : Box1 w v (w.alloc (.cells v.cells.toArray T)) :=
  ⟨below_alloc _ _, ht.below (below_alloc _ _), hv.below (below_alloc _ _), at_new rfl (Below.refl _ _)⟩

def onez (x : Int) : Nat → Int := fun _ => x
theorem beyond1 (W : World) (x : Int) (hx : -9223372036854775808 ≤ x ∧ x ≤ 9223372036854775807) (T : TypeId) :
    Calls Tryd.prog 8 #[.slice (some ⟨W.heap.size, 0, none⟩) 1 1] (W.alloc (.cells #[.int .i64 x] T)) fun e w' => e = .returned (.bool (beyB 1 (onez x))) ∧ W.alloc (.cells #[.int .i64 x] T) = w' := by
  refine beyond_is _ _ _ _ _ _ (by decide) (fun j hj => ?_) (fun _ => hx)
  obtain rfl : j = 0 := by omega
  simp [onez]

/-- Is the text empty? Just if the value may not be. -/
theorem text_empty {w : World} {v : V} (h : v.In w) : v.text.toList.isEmpty = !v.check := by
  cases hc : v.check
  · simp [V.text, hc, ByteArray.toList_eq]
  · have h1 := told_ne ((check_iff v).1 hc).1 (In_kind h)
    simp [V.text, hc, ByteArray.toList_eq, h1]

set_option maxRecDepth 100000 in
set_option maxHeartbeats 8000000 in
theorem parts_beyond (v : V) (w : World) (h : v.In w) (ht : Tabs w) (hbz : beyB 1 (onez v.vsz) = true) :
    Calls Tryd.prog 6 #[v.agg] w fun x w' => x = .returned (.bool true) ∧ Below w.heap.size w w' := by
  have OK0 := box1 ht h 27
  have C0 := Lib.hid (fun W (h : Box1 w v W) => alive_any W h.tabs)
  have Z1 := Lib.hid (fun W (h : Box1 w v W) => valueSize_is v W h.vin)
  have CB := Lib.hid (fun W T => beyond1 W v.vsz (vsz_range v) T)
  rw [hbz] at CB
  clear hbz
  cases v with
  | leaf => exact h.elim
  | mk k1 n1 s1 la1 ll1 lc1 L1 fa1 fl1 fc1 fn1 F1 e1 key1 hk1 =>
  generalize (V.mk k1 n1 s1 la1 ll1 lc1 L1 fa1 fl1 fc1 fn1 F1 e1 key1 hk1).vsz = z1 at Z1 CB
  have KS := Lib.hid (fun W (h : Box1 w (.mk k1 n1 s1 la1 ll1 lc1 L1 fa1 fl1 fc1 fn1 F1 e1 key1 hk1) W) => And.intro h (at80 h.cv))
  clear h ht
  simp only [V.agg, V.cells] at Z1 OK0 ⊢
  have OKH := Lib.hid OK0
  clear OK0
  go_enter Tryd.func6, Tryd.ntmps6
  go_upto_region 1 with fail
  have OKu := OKH.out
  generalize (w.alloc (.cells #[.int .u8 k1, .int .i64 n1, .string s1, .slice la1 ll1 lc1, .slice fa1 fl1 fc1, .int .u8 e1, .string key1, .bool hk1] 27)) = W0 at OKu ⊢
  have OK := Lib.hid (show Box1 w (.mk k1 n1 s1 la1 ll1 lc1 L1 fa1 fl1 fc1 fn1 F1 e1 key1 hk1) W0 from OKu)
  clear OKu
  go_wp2_with fail
  refine (C0.out _ OK.out).mono ?_
  rintro x w1 ⟨rfl, hb1⟩
  have OK1 := Lib.hid (OK.out.below hb1)
  clear hb1 OK
  obtain ⟨-, c0, c1, c2, c3, c4, c5, c6, c7⟩ := KS.out _ OK1.out
  go_wp2_with fail
  refine (Z1.out _ OK1.out).mono ?_
  rintro x w2 ⟨rfl, hb1⟩
  have OK2 := Lib.hid (OK1.out.below hb1)
  clear hb1 OK1 c0 c1 c2 c3 c4 c5 c6 c7
  go_wp2_with fail
  refine (CB.out _ _).mono ?_
  rintro x w3 ⟨rfl, rfl⟩
  have OK3 := Lib.hid (OK2.out.below (below_alloc _ (.cells #[.int .i64 z1] 3)))
  clear OK2
  go_wp2_with fail
  refine (C0.out _ OK3.out).mono ?_
  rintro x w9 ⟨rfl, hb9⟩
  have HZ := Lib.hid (OK3.out.below hb9).low
  clear hb9
  go_wp2_with fail
  go_ret
  exact ⟨rfl, HZ.out⟩

/-- A later world. -/
def Since (w W : World) : Prop := Below w.heap.size w W
theorem since_drew (w : World) : Since w w.drew := (Below.refl _ _).drew
theorem Since.below {w W W' : World} (h : Since w W) (hb : Below W.heap.size W W') : Since w W' := Below.trans h (hb.mono (Below.size h))

set_option maxRecDepth 100000 in
set_option maxHeartbeats 8000000 in
theorem parts_rest (v : V) (w : World) (h : v.In w) (hsz : v.size ≤ 1048576) (ht : Tabs w) (hbz : beyB 1 (onez v.vsz) = false) :
    Calls Tryd.prog 6 #[v.agg] w fun x w' => x = .returned (.bool true) ∧ Below w.heap.size w w' := by
  have OK0 := box1 ht h 27
  have C0 := Lib.hid (fun W (h : Box1 w v W) => alive_any W h.tabs)
  have Z1 := Lib.hid (fun W (h : Box1 w v W) => valueSize_is v W h.vin)
  have CB := Lib.hid (fun W T => beyond1 W v.vsz (vsz_range v) T)
  have CP := Lib.hid (fun W (h : Box1 w v W) => parts_any v W h.vin hsz)
  have CC := Lib.hid (fun W (h : Box1 w v W) => check_any v W h.vin h.tabs.1)
  have HZP := Lib.hid (fun p (hp : Pt v p) => Nat.le_trans hp.2 hsz)
  have HCP := Lib.hid (fun p (hp : Pt v p) => hp.1)
  rw [hbz] at CB
  clear hbz
  cases v with
  | leaf => exact h.elim
  | mk k1 n1 s1 la1 ll1 lc1 L1 fa1 fl1 fc1 fn1 F1 e1 key1 hk1 =>
  generalize (V.mk k1 n1 s1 la1 ll1 lc1 L1 fa1 fl1 fc1 fn1 F1 e1 key1 hk1).vsz = z1 at Z1 CB
  generalize (V.mk k1 n1 s1 la1 ll1 lc1 L1 fa1 fl1 fc1 fn1 F1 e1 key1 hk1).check = ok at CC HCP
  have KS := Lib.hid (fun W (h : Box1 w (.mk k1 n1 s1 la1 ll1 lc1 L1 fa1 fl1 fc1 fn1 F1 e1 key1 hk1) W) => And.intro h (at80 h.cv))
  clear h ht hsz
  simp only [V.agg, V.cells] at Z1 OK0 CP CC ⊢
  have OKH := Lib.hid OK0
  clear OK0
  go_enter Tryd.func6, Tryd.ntmps6
  go_upto_region 1 with fail
  have OKu := OKH.out
  generalize (w.alloc (.cells #[.int .u8 k1, .int .i64 n1, .string s1, .slice la1 ll1 lc1, .slice fa1 fl1 fc1, .int .u8 e1, .string key1, .bool hk1] 27)) = W0 at OKu ⊢
  have OK := Lib.hid (show Box1 w (.mk k1 n1 s1 la1 ll1 lc1 L1 fa1 fl1 fc1 fn1 F1 e1 key1 hk1) W0 from OKu)
  clear OKu
  go_wp2_with fail
  refine (C0.out _ OK.out).mono ?_
  rintro x w1 ⟨rfl, hb1⟩
  have OK1 := Lib.hid (OK.out.below hb1)
  clear hb1 OK
  obtain ⟨-, c0, c1, c2, c3, c4, c5, c6, c7⟩ := KS.out _ OK1.out
  go_wp2_with fail
  refine (Z1.out _ OK1.out).mono ?_
  rintro x w2 ⟨rfl, hb1⟩
  have OK2 := Lib.hid (OK1.out.below hb1)
  clear hb1 OK1 c0 c1 c2 c3 c4 c5 c6 c7
  go_wp2_with fail
  refine (CB.out _ _).mono ?_
  rintro x w3 ⟨rfl, rfl⟩
  have OK3 := Lib.hid (OK2.out.below (below_alloc _ (.cells #[.int .i64 z1] 3)))
  clear OK2
  generalize w2.alloc (.cells #[.int .i64 z1] 3) = W3 at OK3 ⊢
  obtain ⟨-, c0, c1, c2, c3, c4, c5, c6, c7⟩ := KS.out _ OK3.out
  go_wp2_with fail
  refine (CP.out _ OK3.out).mono ?_
  rintro x w4 ⟨n, P, g, cap, rfl, hn, hPL⟩
  have OK4 := Lib.hid (OK3.out.below hPL.low)
  have HP := Lib.hid hPL
  clear hPL OK3 c0 c1 c2 c3 c4 c5 c6 c7
  obtain ⟨-, c0, c1, c2, c3, c4, c5, c6, c7⟩ := KS.out _ OK4.out
  go_wp2_with fail
  refine (CC.out _ OK4.out).mono ?_
  rintro x w5 ⟨rfl, hb1⟩
  have OK5 := Lib.hid (OK4.out.below hb1)
  have HP5 := Lib.hid (HP.out.below hb1)
  clear hb1 HP OK4 c0 c1 c2 c3 c4 c5 c6 c7
  go_wp2_with fail
  go_loopw [5] (fun i wr => ∃ m : Nat, i = .int .i64 m ∧ m ≤ n ∧ Below w5.heap.size w5 wr) (fun i _ => n - (intOf i).toNat)
  case atStart => exact ⟨0, rfl, Nat.zero_le _, Below.refl _ _⟩
  case round =>
    obtain ⟨m, rfl, hmn, hb⟩ := hrel
    obtain ⟨Wo, rfl⟩ : ∃ Wo, Wo = wr := ⟨wr, rfl⟩
    have hcap := HP5.out.cap_le
    unfold maxLen at hcap
    have OKr := Lib.hid (OK5.out.below hb)
    have HBr := Lib.hid hb
    by_cases hlt : m < n
    · have hat := (HP5.out.at hlt).below hb
      have hpm := HP5.out.ok m hlt
      have hin5 := hpm.1.below HP5.out.low
      have hin := hin5.below hb
      have hpt := hpm.2
      clear hb hpm hin5
      obtain ⟨p, hp⟩ : ∃ p, P m = p := ⟨_, rfl⟩
      rw [hp] at hat hin hpt
      clear hp
      have HPT := Lib.hid hpt
      have HIN := Lib.hid hin
      have CS := Lib.hid (fun W (hb : Below Wo.heap.size Wo W) => topS p W (hin.below hb) (Nat.le_trans (HZP.out p hpt) (by decide)))
      have CD := Lib.hid (fun W (hb : Below Wo.heap.size Wo W) => topD p W (hin.below hb) (Nat.le_trans (HZP.out p hpt) (by decide)))
      have CK := Lib.hid (fun W (hb : Below Wo.heap.size Wo W) => check_any p W (hin.below hb) (OKr.out.tabs.below hb).1)
      have CT := Lib.hid (fun W (hb : Below Wo.heap.size Wo W) => text_any p W (hin.below hb) (OKr.out.tabs.below hb).1 (OKr.out.tabs.below hb).2.1 (OKr.out.tabs.below hb).2.2)
      have HTE := Lib.hid (text_empty hin)
      have hck := HCP.out p hpt
      have hzp := HZP.out p hpt
      clear hpt
      cases p with
      | leaf => exact hin.elim
      | mk k2 n2 s2 la2 ll2 lc2 L2 fa2 fl2 fc2 fn2 F2 e2 key2 hk2 =>
      have hr := hin
      obtain ⟨-, -, -, -, -, hl1, hf1, hL, hF⟩ := hr
      unfold maxLen at hl1 hf1
      have HL := Lib.hid hL
      have HF := Lib.hid hF
      clear hL hF hin
      have HCK := Lib.hid hck
      have HZ2 := Lib.hid hzp
      clear hck hzp
      obtain ⟨c0, c1, c2, c3, c4, c5, c6, c7⟩ := at80' hat
      clear hat
      have hlt' : (m : Int) < (n : Int) := by omega
      have hm0 : (0 : Int) ≤ (m : Int) := by omega
      have KX := Lib.hid (fun W (hw : Below (Wo.heap.size + 1) (Wo.alloc (.cells (V.mk k2 n2 s2 la2 ll2 lc2 L2 fa2 fl2 fc2 fn2 F2 e2 key2 hk2).cells.toArray 27)) W) => at80 (at_new (w := Wo) (T := 27) rfl hw))
      have HB0 := Lib.hid (below_alloc Wo (.cells (V.mk k2 n2 s2 la2 ll2 lc2 L2 fa2 fl2 fc2 fn2 F2 e2 key2 hk2).cells.toArray 27))
      have HZ0 := Lib.hid (size_alloc' Wo (.cells (V.mk k2 n2 s2 la2 ll2 lc2 L2 fa2 fl2 fc2 fn2 F2 e2 key2 hk2).cells.toArray 27))
      simp only [V.cells] at KX HB0 HZ0
      have sL : Hid (∀ j, j < ll2 → 1 + sumTo j (fun i => (L2 i).size) + (L2 j).size ≤ 1048576) := fun j hj => by
        have h1 : sumTo j (fun i => (L2 i).size) + (L2 j).size ≤ sumTo ll2 (fun i => (L2 i).size) := sumTo_mono (fun i => (L2 i).size) (show j + 1 ≤ ll2 from hj)
        have h2 := HZ2.out
        simp only [V.size] at h2
        omega
      have sF : Hid (∀ j, j < fl2 → 1 + sumTo ll2 (fun i => (L2 i).size) + sumTo j (fun i => (F2 i).size) + (F2 j).size ≤ 1048576) := fun j hj => by
        have h1 : sumTo j (fun i => (F2 i).size) + (F2 j).size ≤ sumTo fl2 (fun i => (F2 i).size) := sumTo_mono (fun i => (F2 i).size) (show j + 1 ≤ fl2 from hj)
        have h2 := HZ2.out
        simp only [V.size] at h2
        omega
      go_wp2_with fail
      revert KX HB0 HZ0
      generalize (Wo.alloc (.cells #[.int .u8 k2, .int .i64 n2, .string s2, .slice la2 ll2 lc2, .slice fa2 fl2 fc2, .int .u8 e2, .string key2, .bool hk2] 27)) = W1
      intro KX HB0 HZ0
      clear c0 c1 c2 c3 c4 c5 c6 c7
      go_loopw [7, 8, 9] (fun a d i W => ∃ j : Nat, i = .int .i64 j ∧ j ≤ ll2 ∧ a = .int .i64 ((1 + sumTo j (fun i => (L2 i).size) : Nat) : Int) ∧ d = .int .i64 ((maxTo j (fun i => (L2 i).depth) : Nat) : Int) ∧ Below W1.heap.size W1 W) (fun _ _ i _ => ll2 - (intOf i).toNat)
      case atStart => exact ⟨0, rfl, Nat.zero_le _, rfl, rfl, Below.refl _ _⟩
      case round =>
        rename_i W0' _
        obtain ⟨j, rfl, hj, rfl, rfl, hb⟩ := hrel
        have HB := Lib.hid hb
        clear hb
        obtain ⟨c0, c1, c2, c3, c4, c5, c6, c7⟩ := KX.out _ (by rw [← HZ0.out]; exact HB.out)
        by_cases hlt2 : j < ll2
        · obtain ⟨⟨b, o, rfl, hatq⟩, hinq⟩ := HL.out j hlt2
          have hbw := HB0.out.trans (HB.out.mono HB0.out.size)
          have hatq := hatq.below hbw
          have hinq := hinq.below hbw
          have hsq := sL.out j hlt2
          obtain ⟨q, hq⟩ : ∃ q, L2 j = q := ⟨_, rfl⟩
          have HSS := Lib.hid (show sumTo (j + 1) (fun i => (L2 i).size) = sumTo j (fun i => (L2 i).size) + q.size by rw [sumTo, hq])
          have HDD := Lib.hid (show maxTo (j + 1) (fun i => (L2 i).depth) = max (maxTo j (fun i => (L2 i).depth)) q.depth by rw [maxTo, hq])
          rw [hq] at hatq hinq hsq
          clear hq
          have CSq := Lib.hid (fun W (hb : Below wr.heap.size wr W) => topS q W (hinq.below hb) (by omega))
          have CDq := Lib.hid (fun W (hb : Below wr.heap.size wr W) => topD q W (hinq.below hb) (by omega))
          have HQ := Lib.hid (And.intro hatq hsq)
          have hl0 : (0 : Int) ≤ (j : Int) := by omega
          have hli : (j : Int) < (ll2 : Int) := by omega
          cases q with
          | leaf => exact hinq.elim
          | mk k3 n3 s3 la3 ll3 lc3 L3 fa3 fl3 fc3 fn3 F3 e3 key3 hk3 =>
          obtain ⟨d0, d1, d2, d3, d4, d5, d6, d7⟩ := at80' hatq
          clear hatq hinq hsq
          generalize hS : (V.mk k3 n3 s3 la3 ll3 lc3 L3 fa3 fl3 fc3 fn3 F3 e3 key3 hk3).size = zq at CSq HSS HQ
          generalize hD : (V.mk k3 n3 s3 la3 ll3 lc3 L3 fa3 fl3 fc3 fn3 F3 e3 key3 hk3).depth = dq at CDq HDD
          clear hS hD
          simp only [V.agg, V.cells] at CSq CDq
          go_wp2_with fail
          refine (CSq.out _ (Below.refl _ _)).mono ?_
          rintro x w6 ⟨rfl, hb6⟩
          have HB6 := Lib.hid hb6
          clear hb6 c0 c1 c2 c3 c4 c5 c6 c7 d0 d1 d2 d3 d4 d5 d6 d7
          obtain ⟨c0, c1, c2, c3, c4, c5, c6, c7⟩ := KX.out _ (by rw [← HZ0.out]; exact HB.out.trans (HB6.out.mono HB.out.size))
          obtain ⟨d0, d1, d2, d3, d4, d5, d6, d7⟩ := at80' (HQ.out.1.below HB6.out)
          go_wp2_with fail
          refine (CDq.out _ HB6.out).mono ?_
          rintro x w7 ⟨rfl, hb7⟩
          have HB7 := Lib.hid ((HB.out.trans (HB6.out.mono HB.out.size)).trans (hb7.mono (Nat.le_trans HB.out.size HB6.out.size)))
          clear hb7 c0 c1 c2 c3 c4 c5 c6 c7 d0 d1 d2 d3 d4 d5 d6 d7
          go_wp2_with fail
          go_roundw
          case rel => exact ⟨j + 1, by go_num, by omega, int_eq (by have h1 := HSS.out; have h2 := HQ.out.2; rw [w64 (by omega)]; omega), int_eq (by have h1 := HDD.out; omega), HB7.out⟩
          case measure => simp [intOf]; omega
        · obtain rfl : ll2 = j := by omega
          go_wp2_with fail
          clear c0 c1 c2 c3 c4 c5 c6 c7
          go_loopw [7, 8, 10] (fun a d i W => ∃ j : Nat, i = .int .i64 j ∧ j ≤ fl2 ∧ a = .int .i64 ((1 + sumTo ll2 (fun i => (L2 i).size) + sumTo j (fun i => (F2 i).size) : Nat) : Int) ∧ d = .int .i64 ((max (maxTo ll2 (fun i => (L2 i).depth)) (maxTo j (fun i => (F2 i).depth)) : Nat) : Int) ∧ Below W1.heap.size W1 W) (fun _ _ i _ => fl2 - (intOf i).toNat)
          case atStart => exact ⟨0, rfl, Nat.zero_le _, int_eq (by simp [sumTo]), int_eq (by simp [maxTo]), HB.out⟩
          case round =>
            rename_i W0b _ _
            obtain ⟨j, rfl, hj, rfl, rfl, hb⟩ := hrel
            have HB2 := Lib.hid hb
            clear hb HB
            obtain ⟨c0, c1, c2, c3, c4, c5, c6, c7⟩ := KX.out _ (by rw [← HZ0.out]; exact HB2.out)
            by_cases hlt3 : j < fl2
            · obtain ⟨⟨b, o, rfl, hatq⟩, -, hinq⟩ := HF.out j hlt3
              have hbw := HB0.out.trans (HB2.out.mono HB0.out.size)
              have hatq := hatq.below hbw
              have hinq := hinq.below hbw
              have hsq := sF.out j hlt3
              obtain ⟨q, hq⟩ : ∃ q, F2 j = q := ⟨_, rfl⟩
              have HSS := Lib.hid (show sumTo (j + 1) (fun i => (F2 i).size) = sumTo j (fun i => (F2 i).size) + q.size by rw [sumTo, hq])
              have HDD := Lib.hid (show maxTo (j + 1) (fun i => (F2 i).depth) = max (maxTo j (fun i => (F2 i).depth)) q.depth by rw [maxTo, hq])
              rw [hq] at hatq hinq hsq
              clear hq
              have CSq := Lib.hid (fun W (hb : Below wr.heap.size wr W) => topS q W (hinq.below hb) (by omega))
              have CDq := Lib.hid (fun W (hb : Below wr.heap.size wr W) => topD q W (hinq.below hb) (by omega))
              have HQ := Lib.hid (And.intro hatq hsq)
              have hl0 : (0 : Int) ≤ (j : Int) := by omega
              have hli : (j : Int) < (fl2 : Int) := by omega
              cases q with
              | leaf => exact hinq.elim
              | mk k3 n3 s3 la3 ll3 lc3 L3 fa3 fl3 fc3 fn3 F3 e3 key3 hk3 =>
              obtain ⟨d0, d1, d2, d3, d4, d5, d6, d7, d8⟩ := at9 hatq
              clear hatq hinq hsq
              generalize hS : (V.mk k3 n3 s3 la3 ll3 lc3 L3 fa3 fl3 fc3 fn3 F3 e3 key3 hk3).size = zq at CSq HSS HQ
              generalize hD : (V.mk k3 n3 s3 la3 ll3 lc3 L3 fa3 fl3 fc3 fn3 F3 e3 key3 hk3).depth = dq at CDq HDD
              clear hS hD
              simp only [V.agg, V.cells] at CSq CDq
              go_wp2_with fail
              refine (CSq.out _ (Below.refl _ _)).mono ?_
              rintro x w6 ⟨rfl, hb6⟩
              have HB6 := Lib.hid hb6
              clear hb6 c0 c1 c2 c3 c4 c5 c6 c7 d0 d1 d2 d3 d4 d5 d6 d7 d8
              obtain ⟨c0, c1, c2, c3, c4, c5, c6, c7⟩ := KX.out _ (by rw [← HZ0.out]; exact HB2.out.trans (HB6.out.mono HB2.out.size))
              obtain ⟨d0, d1, d2, d3, d4, d5, d6, d7, d8⟩ := at9 (HQ.out.1.below HB6.out)
              go_wp2_with fail
              refine (CDq.out _ HB6.out).mono ?_
              rintro x w7 ⟨rfl, hb7⟩
              have HB7 := Lib.hid ((HB2.out.trans (HB6.out.mono HB2.out.size)).trans (hb7.mono (Nat.le_trans HB2.out.size HB6.out.size)))
              clear hb7 c0 c1 c2 c3 c4 c5 c6 c7 d0 d1 d2 d3 d4 d5 d6 d7 d8
              go_wp2_with fail
              go_roundw
              case rel => exact ⟨j + 1, by go_num, by omega, int_eq (by have h1 := HSS.out; have h2 := HQ.out.2; rw [w64 (by omega)]; omega), int_eq (by have h1 := HDD.out; omega), HB7.out⟩
              case measure => simp [intOf]; omega
            · obtain rfl : fl2 = j := by omega
              have hbw := HB0.out.trans (HB2.out.mono HB0.out.size)
              have CS2 := Lib.hid (fun W (hb : Since wr W) => CS.out W (hbw.trans (Below.mono hb hbw.size)))
              have CD2 := Lib.hid (fun W (hb : Since wr W) => CD.out W (hbw.trans (Below.mono hb hbw.size)))
              have CK2 := Lib.hid (fun W (hb : Since wr W) => CK.out W (hbw.trans (Below.mono hb hbw.size)))
              have CT2 := Lib.hid (fun W (hb : Since wr W) => CT.out W (hbw.trans (Below.mono hb hbw.size)))
              have HEND := Lib.hid (fun W (hb : Since wr W) => HBr.out.trans ((hbw.trans (Below.mono hb hbw.size)).mono HBr.out.size))
              have KX2 := Lib.hid (fun W (hb : Since wr W) => And.intro hb (KX.out W (by rw [← HZ0.out]; exact HB2.out.trans (Below.mono hb HB2.out.size))))
              have hs := (show (V.mk k2 n2 s2 la2 ll2 lc2 L2 fa2 fl2 fc2 fn2 F2 e2 key2 hk2).size = 1 + sumTo ll2 (fun i => (L2 i).size) + sumTo fl2 (fun i => (F2 i).size) from rfl)
              have hd := (show (V.mk k2 n2 s2 la2 ll2 lc2 L2 fa2 fl2 fc2 fn2 F2 e2 key2 hk2).depth = max (maxTo ll2 (fun i => (L2 i).depth)) (maxTo fl2 (fun i => (F2 i).depth)) + 1 from rfl)
              have hdz := depth_le_size (V.mk k2 n2 s2 la2 ll2 lc2 L2 fa2 fl2 fc2 fn2 F2 e2 key2 hk2)
              have hz2 := HZ2.out
              clear CS CD CK CT KX HL HF sL sF
              revert CS2 CD2 CK2 CT2 HCK HTE hz2 hdz
              rw [hs, hd]
              generalize 1 + sumTo ll2 (fun i => (L2 i).size) + sumTo fl2 (fun i => (F2 i).size) = Z
              generalize max (maxTo ll2 (fun i => (L2 i).depth)) (maxTo fl2 (fun i => (F2 i).depth)) = D
              generalize (V.mk k2 n2 s2 la2 ll2 lc2 L2 fa2 fl2 fc2 fn2 F2 e2 key2 hk2).check = pc
              generalize (V.mk k2 n2 s2 la2 ll2 lc2 L2 fa2 fl2 fc2 fn2 F2 e2 key2 hk2).text = tx
              intro HTE HCK CS2 CD2 CK2 CT2 hdz hz2
              clear hs hd
              simp only [V.agg, V.cells] at CS2 CD2 CK2 CT2
              go_wp2_with fail
              clear c0 c1 c2 c3 c4 c5 c6 c7
              have hw1 : IntKind.i64.wrap ((D : Int) + 1) = (D : Int) + 1 := IntWalk.i64_in _ (by omega)
              have hne1 : ((Z : Int) != (Z : Int)) = false := by simp
              have hne2 : (((D + 1 : Nat) : Int) != (D : Int) + 1) = false := by simp
              have hte := HTE.out
              have hck := HCK.out
              clear HTE HCK
              cases ok
              · clear hck
                have hS0 := since_drew wr
                obtain ⟨-, c0, c1, c2, c3, c4, c5, c6, c7⟩ := KX2.out _ hS0
                cases pc
                all_goals
                  first
                  | (have hte2 : tx.toList.isEmpty = true := hte; clear hte)
                  | (have hte2 : tx.toList.isEmpty = false := hte; clear hte)
                  go_region_with ((first
                  | (go_at_call 15; refine (CS2.out _ (by assumption)).mono ?_; rintro x w1 ⟨rfl, hb1⟩; (have OK1 := Since.below (w := wr) (by assumption) hb1); clear hb1; obtain ⟨-, c0, c1, c2, c3, c4, c5, c6, c7⟩ := KX2.out _ OK1)
                  | (go_at_call 17; refine (CD2.out _ (by assumption)).mono ?_; rintro x w1 ⟨rfl, hb1⟩; (have OK1 := Since.below (w := wr) (by assumption) hb1); clear hb1; obtain ⟨-, c0, c1, c2, c3, c4, c5, c6, c7⟩ := KX2.out _ OK1)
                  | (go_at_call 11; refine (CK2.out _ (by assumption)).mono ?_; rintro x w1 ⟨rfl, hb1⟩; (have OK1 := Since.below (w := wr) (by assumption) hb1); clear hb1; obtain ⟨-, c0, c1, c2, c3, c4, c5, c6, c7⟩ := KX2.out _ OK1)
                  | (go_at_call 13; refine (CT2.out _ (by assumption)).mono ?_; rintro x w1 ⟨rfl, hb1⟩; (have OK1 := Since.below (w := wr) (by assumption) hb1); clear hb1; obtain ⟨-, c0, c1, c2, c3, c4, c5, c6, c7⟩ := KX2.out _ OK1)))
                  all_goals
                    have HS := Lib.hid (HEND.out _ (by assumption))
                    clear c0 c1 c2 c3 c4 c5 c6 c7
                    go_wp2_with fail
                    go_roundw
                    case rel => exact ⟨m + 1, by go_num, by omega, HS.out⟩
                    case measure => simp [intOf]; omega
              · obtain rfl := hck rfl
                have hte2 : tx.toList.isEmpty = false := hte
                clear hte hck
                go_region_held3 (fun W => Since wr W ∧ W.cell? ⟨Wo.heap.size, 0, none⟩ = some (.int .u8 k2) ∧ W.cell? ⟨Wo.heap.size, 1, none⟩ = some (.int .i64 n2) ∧ W.cell? ⟨Wo.heap.size, 2, none⟩ = some (.string s2) ∧ W.cell? ⟨Wo.heap.size, 3, none⟩ = some (.slice la2 ll2 lc2) ∧ W.cell? ⟨Wo.heap.size, 4, none⟩ = some (.slice fa2 fl2 fc2) ∧ W.cell? ⟨Wo.heap.size, 5, none⟩ = some (.int .u8 e2) ∧ W.cell? ⟨Wo.heap.size, 6, none⟩ = some (.string key2) ∧ W.cell? ⟨Wo.heap.size, 7, none⟩ = some (.bool hk2))
                (first | (refine KX2.out _ ?_; with_reducible exact since_drew _) | (refine KX2.out _ (Since.below ?_ (by with_reducible assumption)); go_split_ands; with_reducible assumption) | with_reducible assumption)
                (first
                | (go_at_call 15; refine (CS2.out _ ?_).mono ?_; (go_split_ands; assumption); rintro x w1 ⟨rfl, hb1⟩)
                | (go_at_call 17; refine (CD2.out _ ?_).mono ?_; (go_split_ands; assumption); rintro x w1 ⟨rfl, hb1⟩)
                | (go_at_call 11; refine (CK2.out _ ?_).mono ?_; (go_split_ands; assumption); rintro x w1 ⟨rfl, hb1⟩)
                | (go_at_call 13; refine (CT2.out _ ?_).mono ?_; (go_split_ands; assumption); rintro x w1 ⟨rfl, hb1⟩))
                rename_i hS
                have HS := Lib.hid (HEND.out _ hS.1)
                clear hS
                go_wp2_with fail
                go_roundw
                case rel => exact ⟨m + 1, by go_num, by omega, HS.out⟩
                case measure => simp [intOf]; omega
    · obtain rfl : n = m := by omega
      go_wp2_with fail
      go_ret
      exact ⟨rfl, OKr.out.low⟩
end Go.Proofs.YtglhbggihdfieaaDoor
