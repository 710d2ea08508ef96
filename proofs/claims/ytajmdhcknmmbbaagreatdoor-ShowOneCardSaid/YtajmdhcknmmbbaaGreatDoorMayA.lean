/-
  Walks: the closure in value.Check answers 'V.may' and leaves its count; old memory is as it was. This text: some cases.
  Conditions: the value lies in memory; the table of the kinds' rows holds what the program's text lays in it.
-/
import Derived.Test.YtajmdhcknmmbbaaGreatDoorMayN
namespace Go.Proofs.YtajmdhcknmmbbaaGreatDoor
open Go.RowKit

set_option maxRecDepth 100000 in
set_option maxHeartbeats 2000000 in
theorem may_nn (w0 w : World) (b o : Nat) (deep left : Int) (k n : Int) (s : ByteArray) (lc : Nat) (L : Nat → V) (fc : Nat) (fn : Nat → ByteArray) (F : Nat → V) (e : Int) (key : ByteArray) (hk : Bool) (ll lb lo : Nat) (fl fb fo : Nat)
    (ihL : ∀ i, MayOk (L i)) (ihF : ∀ i, MayOk (F i)) (h : V.In w0 (V.mk k n s (some ⟨lb, lo, none⟩) ll lc L (some ⟨fb, fo, none⟩) fl fc fn F e key hk)) (ha : At w0 b o (V.mk k n s (some ⟨lb, lo, none⟩) ll lc L (some ⟨fb, fo, none⟩) fl fc fn F e key hk).cells) (hr : RowsAt w0) (hb : Below w0.heap.size w0 w) (hc : CS w0.heap.size left w) (hleft : 0 ≤ left ∧ left ≤ 4096) (hdeep : 1 ≤ deep ∧ deep ≤ 65) :
    Calls Tryz.prog 203 #[.pointer (some ⟨b, o, none⟩), .int .i64 deep, .pointer (some ⟨w0.heap.size, 0, none⟩), .pointer (some ⟨w0.heap.size + 1, 0, none⟩)] w (MayPost w0 (V.mk k n s (some ⟨lb, lo, none⟩) ll lc L (some ⟨fb, fo, none⟩) fl fc fn F e key hk) deep left) := by
  have hle := hb.size
  have hmk := Lib.hid (may_mk k n s (some ⟨lb, lo, none⟩) ll lc L (some ⟨fb, fo, none⟩) fl fc fn F e key hk deep left)
  have HI := Lib.hid (fun W (hw : Below w0.heap.size w0 W) => inRow_any W b o k n s (some ⟨lb, lo, none⟩) ll lc L (some ⟨fb, fo, none⟩) fl fc fn F e key hk (ha.below hw) (hr.below hw) (h.below hw))
  have HM := Lib.hid (fun W (hw : Below w0.heap.size w0 W) => inLim_any W b o k n s (some ⟨lb, lo, none⟩) ll lc L (some ⟨fb, fo, none⟩) fl fc fn F e key hk (ha.below hw) h.2.2.1 h.2.2.2.2.1)
  have HR := Lib.hid (fun W (hw : Below w0.heap.size w0 W) => rising_of (some ⟨fb, fo, none⟩) fl fc fn w0 W (namesAt_of h) hw)
  have HA := Lib.hid (fun W (hw : Below w0.heap.size w0 W) => at8 (ha.below hw))
  have hS := hc
  have CSet := Lib.hid (hc.set (left - 1))
  have BSet := Lib.hid (hb.setCell (p := ⟨w0.heap.size, 0, none⟩) (Nat.le_refl _) (.int .i64 (left - 1)))
  obtain ⟨z0, z1, z2, z3⟩ := hS
  by_cases hstop : left - 1 < 0 ∨ 64 < deep
  · have R : Hid ((V.mk k n s (some ⟨lb, lo, none⟩) ll lc L (some ⟨fb, fo, none⟩) fl fc fn F e key hk).may deep left = (false, left - 1)) := by
      have := hmk.out
      rw [if_pos hstop] at this
      exact this
    clear hmk HI HM HR HA ihL ihF h ha hr hc
    by_cases h0 : left - 1 < 0
    · go_enter Tryz.func203, Tryz.ntmps203
      go_wp2_with fail
      go_ret
      exact ⟨ret_b (by rw [R.out]), BSet.out, by rw [R.out]; exact CSet.out⟩
    · have h64 : 64 < deep := by omega
      go_enter Tryz.func203, Tryz.ntmps203
      go_wp2_with fail
      go_ret
      exact ⟨ret_b (by rw [R.out]), BSet.out, by rw [R.out]; exact CSet.out⟩
  have h0 : ¬ left - 1 < 0 := by omega
  have h64 : ¬ 64 < deep := by omega
  clear hstop
  cases hq : (inRowB k n s ll fl fn e key hk && (inLimB s key && risingB fl fn)) with
  | false =>
    have R : Hid ((V.mk k n s (some ⟨lb, lo, none⟩) ll lc L (some ⟨fb, fo, none⟩) fl fc fn F e key hk).may deep left = (false, left - 1)) := by
      have := hmk.out
      rw [if_neg (by omega), if_pos hq] at this
      exact this
    clear hmk ihL ihF h ha hr hc
    cases q1 : inRowB k n s ll fl fn e key hk
    · rw [q1] at HI
      clear HM HR hq q1
      go_enter Tryz.func203, Tryz.ntmps203
      go_wp2_with fail
      refine (HI.out _ BSet.out).mono ?_
      rintro x w1 ⟨rfl, hb1⟩
      have HB1 := Lib.hid (BSet.out.trans (hb1.mono BSet.out.size))
      have HC1 := Lib.hid (CSet.out.below hb1)
      clear hb1 z0 z1 z2 z3
      go_wp2_with fail
      go_ret
      exact ⟨ret_b (by rw [R.out]), HB1.out, by rw [R.out]; exact HC1.out⟩
    · rw [q1] at HI hq
      cases q2 : inLimB s key
      · rw [q2] at HM
        clear HR hq q1 q2
        go_enter Tryz.func203, Tryz.ntmps203
        go_wp2_with fail
        refine (HI.out _ BSet.out).mono ?_
        rintro x w1 ⟨rfl, hb1⟩
        have HB1 := Lib.hid (BSet.out.trans (hb1.mono BSet.out.size))
        have HC1 := Lib.hid (CSet.out.below hb1)
        clear hb1 z0 z1 z2 z3
        go_wp2_with fail
        refine (HM.out _ HB1.out).mono ?_
        rintro x w2 ⟨rfl, rfl⟩
        go_wp2_with fail
        go_ret
        exact ⟨ret_b (by rw [R.out]), HB1.out, by rw [R.out]; exact HC1.out⟩
      · rw [q2] at HM hq
        have q3 : risingB fl fn = false := by simpa using hq
        rw [q3] at HR
        clear hq q1 q2 q3
        go_enter Tryz.func203, Tryz.ntmps203
        go_wp2_with fail
        refine (HI.out _ BSet.out).mono ?_
        rintro x w1 ⟨rfl, hb1⟩
        have HB1 := Lib.hid (BSet.out.trans (hb1.mono BSet.out.size))
        have HC1 := Lib.hid (CSet.out.below hb1)
        clear hb1 z0 z1 z2 z3
        go_wp2_with fail
        refine (HM.out _ HB1.out).mono ?_
        rintro x w2 ⟨rfl, rfl⟩
        obtain ⟨-, -, -, c3, c4, -, -, -⟩ := HA.out _ HB1.out
        go_wp2_with fail
        refine (HR.out _ HB1.out).mono ?_
        rintro x w2 ⟨rfl, rfl⟩
        clear c3 c4
        go_wp2_with fail
        go_ret
        exact ⟨ret_b (by rw [R.out]), HB1.out, by rw [R.out]; exact HC1.out⟩
  | true =>
    have RT : Hid ((V.mk k n s (some ⟨lb, lo, none⟩) ll lc L (some ⟨fb, fo, none⟩) fl fc fn F e key hk).may deep left = mayTo fl (fun i => (F i).may (deep + 1)) (mayTo ll (fun i => (L i).may (deep + 1)) (true, left - 1))) := by
      have := hmk.out
      rw [if_neg (by omega), if_neg (by rw [hq]; exact Bool.noConfusion)] at this
      exact this
    have RE1 : Hid (∀ j, j < ll → (mayTo j (fun i => (L i).may (deep + 1)) (true, left - 1)).1 = true → ((L j).may (deep + 1) (mayTo j (fun i => (L i).may (deep + 1)) (true, left - 1)).2).1 = false → (V.mk k n s (some ⟨lb, lo, none⟩) ll lc L (some ⟨fb, fo, none⟩) fl fc fn F e key hk).may deep left = (L j).may (deep + 1) (mayTo j (fun i => (L i).may (deep + 1)) (true, left - 1)).2) := fun j hj h1 h2 => by
      have e1 := mayTo_succ j (fun i => (L i).may (deep + 1)) (true, left - 1) h1
      have e2 := mayTo_stop (g := (fun i => (L i).may (deep + 1))) (a := (true, left - 1)) (j := j + 1) (by rw [e1]; exact h2) ll hj
      rw [RT.out, e2, e1, mayTo_false _ _ _ h2]
    have RE2 : Hid (∀ j, j < fl → (mayTo j (fun i => (F i).may (deep + 1)) (mayTo ll (fun i => (L i).may (deep + 1)) (true, left - 1))).1 = true → ((F j).may (deep + 1) (mayTo j (fun i => (F i).may (deep + 1)) (mayTo ll (fun i => (L i).may (deep + 1)) (true, left - 1))).2).1 = false → (V.mk k n s (some ⟨lb, lo, none⟩) ll lc L (some ⟨fb, fo, none⟩) fl fc fn F e key hk).may deep left = (F j).may (deep + 1) (mayTo j (fun i => (F i).may (deep + 1)) (mayTo ll (fun i => (L i).may (deep + 1)) (true, left - 1))).2) := fun j hj h1 h2 => by
      have e1 := mayTo_succ j (fun i => (F i).may (deep + 1)) (mayTo ll (fun i => (L i).may (deep + 1)) (true, left - 1)) h1
      have e2 := mayTo_stop (g := (fun i => (F i).may (deep + 1))) (a := (mayTo ll (fun i => (L i).may (deep + 1)) (true, left - 1))) (j := j + 1) (by rw [e1]; exact h2) fl hj
      rw [RT.out, e2, e1]
    have HL := Lib.hid h.2.2.2.2.2.2.2.1
    have HF := Lib.hid h.2.2.2.2.2.2.2.2
    have hl1 := h.2.2.2.2.2.1
    have hf1 := h.2.2.2.2.2.2.1
    have HIL := Lib.hid ihL
    have HIF := Lib.hid ihF
    have HR0 := Lib.hid hr
    have q1 : inRowB k n s ll fl fn e key hk = true := by
      cases q : inRowB k n s ll fl fn e key hk <;> simp [q] at hq ⊢
    have q2 : inLimB s key = true := by
      cases q : inLimB s key <;> simp [q] at hq ⊢
    have q3 : risingB fl fn = true := by
      cases q : risingB fl fn <;> simp [q] at hq ⊢
    rw [q1] at HI
    rw [q2] at HM
    rw [q3] at HR
    unfold maxLen at hl1 hf1
    clear hmk ihL ihF h ha hr hc hq q1 q2 q3
    go_enter Tryz.func203, Tryz.ntmps203
    go_wp2_with fail
    refine (HI.out _ BSet.out).mono ?_
    rintro x w1 ⟨rfl, hb1⟩
    have HB1 := Lib.hid (BSet.out.trans (hb1.mono BSet.out.size))
    have HC1 := Lib.hid (CSet.out.below hb1)
    clear hb1 z0 z1 z2 z3
    go_wp2_with fail
    refine (HM.out _ HB1.out).mono ?_
    rintro x w2 ⟨rfl, rfl⟩
    obtain ⟨-, -, -, c3, c4, -, -, -⟩ := HA.out _ HB1.out
    go_wp2_with fail
    refine (HR.out _ HB1.out).mono ?_
    rintro x w2 ⟨rfl, rfl⟩
    go_wp2_with fail
    clear c3 c4
    go_loopw [38] (fun i wr => ∃ j : Nat, j ≤ ll ∧ i = .int .i64 j ∧ MS w0 (mayTo j (fun i => (L i).may (deep + 1)) (true, left - 1)) wr) (fun i _ => ll - (intOf i).toNat)
    case atStart => exact ⟨0, Nat.zero_le _, rfl, ⟨rfl, ⟨show 0 ≤ left - 1 by omega, show left - 1 ≤ 4096 by omega⟩, HB1.out, HC1.out⟩⟩
    case round =>
      obtain ⟨j, hj, rfl, hms⟩ := hrel
      obtain ⟨m1, m2, mb, mc⟩ := hms
      obtain ⟨-, -, -, c3, c4, -, -, -⟩ := HA.out _ mb
      have HMC := Lib.hid mc
      have HMB := Lib.hid mb
      have hle1 := mb.size
      obtain ⟨z0, -, z2, z3⟩ := mc
      clear mb
      by_cases hlt : j < ll
      · obtain ⟨⟨b1, o1, he, hat⟩, hin⟩ := HL.out j hlt
        simp only [Option.some.injEq, Addr.mk.injEq, and_true] at he
        obtain ⟨rfl, rfl⟩ := he
        have hx := fun W (hw : Below w0.heap.size w0 W) hcs => HIL.out j w0 W _ _ (deep + 1) (mayTo j (fun i => (L i).may (deep + 1)) (true, left - 1)).2 hin hat HR0.out hw hcs m2 (by omega)
        have RE := Lib.hid (RE1.out j hlt m1)
        have RS := Lib.hid (mayTo_succ j (fun i => (L i).may (deep + 1)) (true, left - 1) m1)
        have RG := Lib.hid (may_range (L j) (deep + 1) (mayTo j (fun i => (L i).may (deep + 1)) (true, left - 1)).2 m2.1)
        have hl0 : (0 : Int) ≤ (j : Int) := by omega
        have hli : (j : Int) < (ll : Int) := by omega
        have hd1 : IntKind.i64.wrap (deep + 1) = deep + 1 := IntWalk.i64_in _ (by omega)
        have HM2 := Lib.hid m2
        clear m1 m2 hat hin
        cases hr1 : ((L j).may (deep + 1) (mayTo j (fun i => (L i).may (deep + 1)) (true, left - 1)).2).1
        · have HX := Lib.hid (fun W hw hcs => (hx W hw hcs).mono (fun x w' h => mayPost_of h hr1))
          have R := Lib.hid (RE.out hr1)
          have R1 := Lib.hid hr1
          clear hx RE RS RG hr1
          go_wp2_with fail
          go_still_tail 9, (by kernel_rfl)
          go_wp2_with fail
          refine (HX.out _ HMB.out.drew (HMC.out.below (Below.refl _ _).drew)).mono ?_
          rintro x w2 ⟨rfl, hb2, hc2⟩
          have HB2 := Lib.hid hb2
          have HC2 := Lib.hid hc2
          clear hb2 hc2 c3 c4 z0 z2 z3
          go_wp2_with fail
          go_ret
          exact ⟨ret_b (by rw [R.out, R1.out]), HB2.out, by rw [R.out]; exact HC2.out⟩
        · have HX := Lib.hid (fun W hw hcs => (hx W hw hcs).mono (fun x w' h => mayPost_of h hr1))
          have R1 := Lib.hid hr1
          clear hx RE hr1
          go_wp2_with fail
          go_still_tail 9, (by kernel_rfl)
          go_wp2_with fail
          refine (HX.out _ HMB.out.drew (HMC.out.below (Below.refl _ _).drew)).mono ?_
          rintro x w2 ⟨rfl, hb2, hc2⟩
          have HS2 : Hid (MS w0 (mayTo (j + 1) (fun i => (L i).may (deep + 1)) (true, left - 1)) w2) := by
            have e := RS.out
            have g := RG.out
            have g2 := HM2.out
            refine (show MS w0 _ w2 from ?_)
            rw [e]
            exact ⟨R1.out, ⟨g.2.2 R1.out, by omega⟩, hb2, hc2⟩
          clear hb2 hc2 c3 c4 z0 z2 z3 RS RG HM2
          go_wp2_with fail
          go_roundw
          case rel => exact ⟨j + 1, by omega, by go_num, HS2.out⟩
          case measure => simp [intOf]; omega
      · obtain rfl : ll = j := by omega
        have HM1 := Lib.hid m1
        have HM2 := Lib.hid m2
        clear m1 m2
        go_wp2_with fail
        go_loopw [58] (fun i wr => ∃ j : Nat, j ≤ fl ∧ i = .int .i64 j ∧ MS w0 (mayTo j (fun i => (F i).may (deep + 1)) (mayTo ll (fun i => (L i).may (deep + 1)) (true, left - 1))) wr) (fun i _ => fl - (intOf i).toNat)
        case atStart => exact ⟨0, Nat.zero_le _, rfl, ⟨HM1.out, HM2.out, HMB.out, HMC.out⟩⟩
        case round =>
          obtain ⟨j, hj, rfl, hms⟩ := hrel
          obtain ⟨m1, m2, mb, mc⟩ := hms
          obtain ⟨-, -, -, c3, c4, -, -, -⟩ := HA.out _ mb
          have HMC := Lib.hid mc
          have HMB := Lib.hid mb
          have hle1 := mb.size
          obtain ⟨z0, -, z2, z3⟩ := mc
          clear mb
          by_cases hlt : j < fl
          · obtain ⟨⟨b1, o1, he, hat⟩, -, hin⟩ := HF.out j hlt
            simp only [Option.some.injEq, Addr.mk.injEq, and_true] at he
            obtain ⟨rfl, rfl⟩ := he
            have hx := fun W (hw : Below w0.heap.size w0 W) hcs => HIF.out j w0 W _ _ (deep + 1) (mayTo j (fun i => (F i).may (deep + 1)) (mayTo ll (fun i => (L i).may (deep + 1)) (true, left - 1))).2 hin hat.tail HR0.out hw hcs m2 (by omega)
            have RE := Lib.hid (RE2.out j hlt m1)
            have RS := Lib.hid (mayTo_succ j (fun i => (F i).may (deep + 1)) (mayTo ll (fun i => (L i).may (deep + 1)) (true, left - 1)) m1)
            have RG := Lib.hid (may_range (F j) (deep + 1) (mayTo j (fun i => (F i).may (deep + 1)) (mayTo ll (fun i => (L i).may (deep + 1)) (true, left - 1))).2 m2.1)
            have hl0 : (0 : Int) ≤ (j : Int) := by omega
            have hli : (j : Int) < (fl : Int) := by omega
            have hd1 : IntKind.i64.wrap (deep + 1) = deep + 1 := IntWalk.i64_in _ (by omega)
            have HM2 := Lib.hid m2
            clear m1 m2 hat hin
            cases hr1 : ((F j).may (deep + 1) (mayTo j (fun i => (F i).may (deep + 1)) (mayTo ll (fun i => (L i).may (deep + 1)) (true, left - 1))).2).1
            · have HX := Lib.hid (fun W hw hcs => (hx W hw hcs).mono (fun x w' h => mayPost_of h hr1))
              have R := Lib.hid (RE.out hr1)
              have R1 := Lib.hid hr1
              clear hx RE RS RG hr1
              go_wp2_with fail
              go_still_tail 10, (by kernel_rfl)
              go_wp2_with fail
              refine (HX.out _ HMB.out.drew (HMC.out.below (Below.refl _ _).drew)).mono ?_
              rintro x w2 ⟨rfl, hb2, hc2⟩
              have HB2 := Lib.hid hb2
              have HC2 := Lib.hid hc2
              clear hb2 hc2 c3 c4 z0 z2 z3
              go_wp2_with fail
              go_ret
              exact ⟨ret_b (by rw [R.out, R1.out]), HB2.out, by rw [R.out]; exact HC2.out⟩
            · have HX := Lib.hid (fun W hw hcs => (hx W hw hcs).mono (fun x w' h => mayPost_of h hr1))
              have R1 := Lib.hid hr1
              clear hx RE hr1
              go_wp2_with fail
              go_still_tail 10, (by kernel_rfl)
              go_wp2_with fail
              refine (HX.out _ HMB.out.drew (HMC.out.below (Below.refl _ _).drew)).mono ?_
              rintro x w2 ⟨rfl, hb2, hc2⟩
              have HS2 : Hid (MS w0 (mayTo (j + 1) (fun i => (F i).may (deep + 1)) (mayTo ll (fun i => (L i).may (deep + 1)) (true, left - 1))) w2) := by
                have e := RS.out
                have g := RG.out
                have g2 := HM2.out
                refine (show MS w0 _ w2 from ?_)
                rw [e]
                exact ⟨R1.out, ⟨g.2.2 R1.out, by omega⟩, hb2, hc2⟩
              clear hb2 hc2 c3 c4 z0 z2 z3 RS RG HM2
              go_wp2_with fail
              go_roundw
              case rel => exact ⟨j + 1, by omega, by go_num, HS2.out⟩
              case measure => simp [intOf]; omega
          · obtain rfl : fl = j := by omega
            have RR : Hid ((V.mk k n s (some ⟨lb, lo, none⟩) ll lc L (some ⟨fb, fo, none⟩) fl fc fn F e key hk).may deep left = mayTo fl (fun i => (F i).may (deep + 1)) (mayTo ll (fun i => (L i).may (deep + 1)) (true, left - 1))) := RT.out
            have HM1 := Lib.hid m1
            clear m1 m2
            go_wp2_with fail
            go_ret
            exact ⟨ret_b (by rw [RR.out, HM1.out]), HMB.out, by rw [RR.out]; exact HMC.out⟩

set_option maxRecDepth 100000 in
set_option maxHeartbeats 2000000 in
theorem may_nz (w0 w : World) (b o : Nat) (deep left : Int) (k n : Int) (s : ByteArray) (lc : Nat) (L : Nat → V) (fc : Nat) (fn : Nat → ByteArray) (F : Nat → V) (e : Int) (key : ByteArray) (hk : Bool) (ll lb lo : Nat) (fa : Option Addr)
    (ihL : ∀ i, MayOk (L i)) (ihF : ∀ i, MayOk (F i)) (h : V.In w0 (V.mk k n s (some ⟨lb, lo, none⟩) ll lc L fa 0 fc fn F e key hk)) (ha : At w0 b o (V.mk k n s (some ⟨lb, lo, none⟩) ll lc L fa 0 fc fn F e key hk).cells) (hr : RowsAt w0) (hb : Below w0.heap.size w0 w) (hc : CS w0.heap.size left w) (hleft : 0 ≤ left ∧ left ≤ 4096) (hdeep : 1 ≤ deep ∧ deep ≤ 65) :
    Calls Tryz.prog 203 #[.pointer (some ⟨b, o, none⟩), .int .i64 deep, .pointer (some ⟨w0.heap.size, 0, none⟩), .pointer (some ⟨w0.heap.size + 1, 0, none⟩)] w (MayPost w0 (V.mk k n s (some ⟨lb, lo, none⟩) ll lc L fa 0 fc fn F e key hk) deep left) := by
  have hle := hb.size
  have hmk := Lib.hid (may_mk k n s (some ⟨lb, lo, none⟩) ll lc L fa 0 fc fn F e key hk deep left)
  have HI := Lib.hid (fun W (hw : Below w0.heap.size w0 W) => inRow_any W b o k n s (some ⟨lb, lo, none⟩) ll lc L fa 0 fc fn F e key hk (ha.below hw) (hr.below hw) (h.below hw))
  have HM := Lib.hid (fun W (hw : Below w0.heap.size w0 W) => inLim_any W b o k n s (some ⟨lb, lo, none⟩) ll lc L fa 0 fc fn F e key hk (ha.below hw) h.2.2.1 h.2.2.2.2.1)
  have HR := Lib.hid (fun W (hw : Below w0.heap.size w0 W) => rising_of fa 0 fc fn w0 W (namesAt_of h) hw)
  have HA := Lib.hid (fun W (hw : Below w0.heap.size w0 W) => at8 (ha.below hw))
  have hS := hc
  have CSet := Lib.hid (hc.set (left - 1))
  have BSet := Lib.hid (hb.setCell (p := ⟨w0.heap.size, 0, none⟩) (Nat.le_refl _) (.int .i64 (left - 1)))
  obtain ⟨z0, z1, z2, z3⟩ := hS
  by_cases hstop : left - 1 < 0 ∨ 64 < deep
  · have R : Hid ((V.mk k n s (some ⟨lb, lo, none⟩) ll lc L fa 0 fc fn F e key hk).may deep left = (false, left - 1)) := by
      have := hmk.out
      rw [if_pos hstop] at this
      exact this
    clear hmk HI HM HR HA ihL ihF h ha hr hc
    by_cases h0 : left - 1 < 0
    · go_enter Tryz.func203, Tryz.ntmps203
      go_wp2_with fail
      go_ret
      exact ⟨ret_b (by rw [R.out]), BSet.out, by rw [R.out]; exact CSet.out⟩
    · have h64 : 64 < deep := by omega
      go_enter Tryz.func203, Tryz.ntmps203
      go_wp2_with fail
      go_ret
      exact ⟨ret_b (by rw [R.out]), BSet.out, by rw [R.out]; exact CSet.out⟩
  have h0 : ¬ left - 1 < 0 := by omega
  have h64 : ¬ 64 < deep := by omega
  clear hstop
  cases hq : (inRowB k n s ll 0 fn e key hk && (inLimB s key && risingB 0 fn)) with
  | false =>
    have R : Hid ((V.mk k n s (some ⟨lb, lo, none⟩) ll lc L fa 0 fc fn F e key hk).may deep left = (false, left - 1)) := by
      have := hmk.out
      rw [if_neg (by omega), if_pos hq] at this
      exact this
    clear hmk ihL ihF h ha hr hc
    cases q1 : inRowB k n s ll 0 fn e key hk
    · rw [q1] at HI
      clear HM HR hq q1
      go_enter Tryz.func203, Tryz.ntmps203
      go_wp2_with fail
      refine (HI.out _ BSet.out).mono ?_
      rintro x w1 ⟨rfl, hb1⟩
      have HB1 := Lib.hid (BSet.out.trans (hb1.mono BSet.out.size))
      have HC1 := Lib.hid (CSet.out.below hb1)
      clear hb1 z0 z1 z2 z3
      go_wp2_with fail
      go_ret
      exact ⟨ret_b (by rw [R.out]), HB1.out, by rw [R.out]; exact HC1.out⟩
    · rw [q1] at HI hq
      cases q2 : inLimB s key
      · rw [q2] at HM
        clear HR hq q1 q2
        go_enter Tryz.func203, Tryz.ntmps203
        go_wp2_with fail
        refine (HI.out _ BSet.out).mono ?_
        rintro x w1 ⟨rfl, hb1⟩
        have HB1 := Lib.hid (BSet.out.trans (hb1.mono BSet.out.size))
        have HC1 := Lib.hid (CSet.out.below hb1)
        clear hb1 z0 z1 z2 z3
        go_wp2_with fail
        refine (HM.out _ HB1.out).mono ?_
        rintro x w2 ⟨rfl, rfl⟩
        go_wp2_with fail
        go_ret
        exact ⟨ret_b (by rw [R.out]), HB1.out, by rw [R.out]; exact HC1.out⟩
      · rw [q2] at HM hq
        have q3 : risingB 0 fn = false := by simpa using hq
        rw [q3] at HR
        clear hq q1 q2 q3
        go_enter Tryz.func203, Tryz.ntmps203
        go_wp2_with fail
        refine (HI.out _ BSet.out).mono ?_
        rintro x w1 ⟨rfl, hb1⟩
        have HB1 := Lib.hid (BSet.out.trans (hb1.mono BSet.out.size))
        have HC1 := Lib.hid (CSet.out.below hb1)
        clear hb1 z0 z1 z2 z3
        go_wp2_with fail
        refine (HM.out _ HB1.out).mono ?_
        rintro x w2 ⟨rfl, rfl⟩
        obtain ⟨-, -, -, c3, c4, -, -, -⟩ := HA.out _ HB1.out
        go_wp2_with fail
        refine (HR.out _ HB1.out).mono ?_
        rintro x w2 ⟨rfl, rfl⟩
        clear c3 c4
        go_wp2_with fail
        go_ret
        exact ⟨ret_b (by rw [R.out]), HB1.out, by rw [R.out]; exact HC1.out⟩
  | true =>
    have RT : Hid ((V.mk k n s (some ⟨lb, lo, none⟩) ll lc L fa 0 fc fn F e key hk).may deep left = mayTo 0 (fun i => (F i).may (deep + 1)) (mayTo ll (fun i => (L i).may (deep + 1)) (true, left - 1))) := by
      have := hmk.out
      rw [if_neg (by omega), if_neg (by rw [hq]; exact Bool.noConfusion)] at this
      exact this
    have RE1 : Hid (∀ j, j < ll → (mayTo j (fun i => (L i).may (deep + 1)) (true, left - 1)).1 = true → ((L j).may (deep + 1) (mayTo j (fun i => (L i).may (deep + 1)) (true, left - 1)).2).1 = false → (V.mk k n s (some ⟨lb, lo, none⟩) ll lc L fa 0 fc fn F e key hk).may deep left = (L j).may (deep + 1) (mayTo j (fun i => (L i).may (deep + 1)) (true, left - 1)).2) := fun j hj h1 h2 => by
      have e1 := mayTo_succ j (fun i => (L i).may (deep + 1)) (true, left - 1) h1
      have e2 := mayTo_stop (g := (fun i => (L i).may (deep + 1))) (a := (true, left - 1)) (j := j + 1) (by rw [e1]; exact h2) ll hj
      rw [RT.out, e2, e1, mayTo_false _ _ _ h2]
    have RE2 : Hid (∀ j, j < 0 → (mayTo j (fun i => (F i).may (deep + 1)) (mayTo ll (fun i => (L i).may (deep + 1)) (true, left - 1))).1 = true → ((F j).may (deep + 1) (mayTo j (fun i => (F i).may (deep + 1)) (mayTo ll (fun i => (L i).may (deep + 1)) (true, left - 1))).2).1 = false → (V.mk k n s (some ⟨lb, lo, none⟩) ll lc L fa 0 fc fn F e key hk).may deep left = (F j).may (deep + 1) (mayTo j (fun i => (F i).may (deep + 1)) (mayTo ll (fun i => (L i).may (deep + 1)) (true, left - 1))).2) := fun j hj h1 h2 => by
      have e1 := mayTo_succ j (fun i => (F i).may (deep + 1)) (mayTo ll (fun i => (L i).may (deep + 1)) (true, left - 1)) h1
      have e2 := mayTo_stop (g := (fun i => (F i).may (deep + 1))) (a := (mayTo ll (fun i => (L i).may (deep + 1)) (true, left - 1))) (j := j + 1) (by rw [e1]; exact h2) 0 hj
      rw [RT.out, e2, e1]
    have HL := Lib.hid h.2.2.2.2.2.2.2.1
    have HF := Lib.hid h.2.2.2.2.2.2.2.2
    have hl1 := h.2.2.2.2.2.1
    have hf1 := h.2.2.2.2.2.2.1
    have HIL := Lib.hid ihL
    have HIF := Lib.hid ihF
    have HR0 := Lib.hid hr
    have q1 : inRowB k n s ll 0 fn e key hk = true := by
      cases q : inRowB k n s ll 0 fn e key hk <;> simp [q] at hq ⊢
    have q2 : inLimB s key = true := by
      cases q : inLimB s key <;> simp [q] at hq ⊢
    have q3 : risingB 0 fn = true := by
      cases q : risingB 0 fn <;> simp [q] at hq ⊢
    rw [q1] at HI
    rw [q2] at HM
    rw [q3] at HR
    unfold maxLen at hl1 hf1
    clear hmk ihL ihF h ha hr hc hq q1 q2 q3
    go_enter Tryz.func203, Tryz.ntmps203
    go_wp2_with fail
    refine (HI.out _ BSet.out).mono ?_
    rintro x w1 ⟨rfl, hb1⟩
    have HB1 := Lib.hid (BSet.out.trans (hb1.mono BSet.out.size))
    have HC1 := Lib.hid (CSet.out.below hb1)
    clear hb1 z0 z1 z2 z3
    go_wp2_with fail
    refine (HM.out _ HB1.out).mono ?_
    rintro x w2 ⟨rfl, rfl⟩
    obtain ⟨-, -, -, c3, c4, -, -, -⟩ := HA.out _ HB1.out
    go_wp2_with fail
    refine (HR.out _ HB1.out).mono ?_
    rintro x w2 ⟨rfl, rfl⟩
    go_wp2_with fail
    clear c3 c4
    go_loopw [38] (fun i wr => ∃ j : Nat, j ≤ ll ∧ i = .int .i64 j ∧ MS w0 (mayTo j (fun i => (L i).may (deep + 1)) (true, left - 1)) wr) (fun i _ => ll - (intOf i).toNat)
    case atStart => exact ⟨0, Nat.zero_le _, rfl, ⟨rfl, ⟨show 0 ≤ left - 1 by omega, show left - 1 ≤ 4096 by omega⟩, HB1.out, HC1.out⟩⟩
    case round =>
      obtain ⟨j, hj, rfl, hms⟩ := hrel
      obtain ⟨m1, m2, mb, mc⟩ := hms
      obtain ⟨-, -, -, c3, c4, -, -, -⟩ := HA.out _ mb
      have HMC := Lib.hid mc
      have HMB := Lib.hid mb
      have hle1 := mb.size
      obtain ⟨z0, -, z2, z3⟩ := mc
      clear mb
      by_cases hlt : j < ll
      · obtain ⟨⟨b1, o1, he, hat⟩, hin⟩ := HL.out j hlt
        simp only [Option.some.injEq, Addr.mk.injEq, and_true] at he
        obtain ⟨rfl, rfl⟩ := he
        have hx := fun W (hw : Below w0.heap.size w0 W) hcs => HIL.out j w0 W _ _ (deep + 1) (mayTo j (fun i => (L i).may (deep + 1)) (true, left - 1)).2 hin hat HR0.out hw hcs m2 (by omega)
        have RE := Lib.hid (RE1.out j hlt m1)
        have RS := Lib.hid (mayTo_succ j (fun i => (L i).may (deep + 1)) (true, left - 1) m1)
        have RG := Lib.hid (may_range (L j) (deep + 1) (mayTo j (fun i => (L i).may (deep + 1)) (true, left - 1)).2 m2.1)
        have hl0 : (0 : Int) ≤ (j : Int) := by omega
        have hli : (j : Int) < (ll : Int) := by omega
        have hd1 : IntKind.i64.wrap (deep + 1) = deep + 1 := IntWalk.i64_in _ (by omega)
        have HM2 := Lib.hid m2
        clear m1 m2 hat hin
        cases hr1 : ((L j).may (deep + 1) (mayTo j (fun i => (L i).may (deep + 1)) (true, left - 1)).2).1
        · have HX := Lib.hid (fun W hw hcs => (hx W hw hcs).mono (fun x w' h => mayPost_of h hr1))
          have R := Lib.hid (RE.out hr1)
          have R1 := Lib.hid hr1
          clear hx RE RS RG hr1
          go_wp2_with fail
          go_still_tail 9, (by kernel_rfl)
          go_wp2_with fail
          refine (HX.out _ HMB.out.drew (HMC.out.below (Below.refl _ _).drew)).mono ?_
          rintro x w2 ⟨rfl, hb2, hc2⟩
          have HB2 := Lib.hid hb2
          have HC2 := Lib.hid hc2
          clear hb2 hc2 c3 c4 z0 z2 z3
          go_wp2_with fail
          go_ret
          exact ⟨ret_b (by rw [R.out, R1.out]), HB2.out, by rw [R.out]; exact HC2.out⟩
        · have HX := Lib.hid (fun W hw hcs => (hx W hw hcs).mono (fun x w' h => mayPost_of h hr1))
          have R1 := Lib.hid hr1
          clear hx RE hr1
          go_wp2_with fail
          go_still_tail 9, (by kernel_rfl)
          go_wp2_with fail
          refine (HX.out _ HMB.out.drew (HMC.out.below (Below.refl _ _).drew)).mono ?_
          rintro x w2 ⟨rfl, hb2, hc2⟩
          have HS2 : Hid (MS w0 (mayTo (j + 1) (fun i => (L i).may (deep + 1)) (true, left - 1)) w2) := by
            have e := RS.out
            have g := RG.out
            have g2 := HM2.out
            refine (show MS w0 _ w2 from ?_)
            rw [e]
            exact ⟨R1.out, ⟨g.2.2 R1.out, by omega⟩, hb2, hc2⟩
          clear hb2 hc2 c3 c4 z0 z2 z3 RS RG HM2
          go_wp2_with fail
          go_roundw
          case rel => exact ⟨j + 1, by omega, by go_num, HS2.out⟩
          case measure => simp [intOf]; omega
      · obtain rfl : ll = j := by omega
        have HM1 := Lib.hid m1
        have HM2 := Lib.hid m2
        clear m1 m2
        go_wp2_with fail
        go_loopw [58] (fun i wr => i = .int .i64 0 ∧ MS w0 (mayTo 0 (fun i => (F i).may (deep + 1)) (mayTo ll (fun i => (L i).may (deep + 1)) (true, left - 1))) wr) (fun _ _ => 0)
        case atStart => exact ⟨rfl, ⟨HM1.out, HM2.out, HMB.out, HMC.out⟩⟩
        case round =>
          obtain ⟨rfl, hms⟩ := hrel
          obtain ⟨m1, m2, mb, mc⟩ := hms
          obtain ⟨-, -, -, c3, c4, -, -, -⟩ := HA.out _ mb
          have HMC := Lib.hid mc
          have HMB := Lib.hid mb
          have hle1 := mb.size
          obtain ⟨z0, -, z2, z3⟩ := mc
          clear mb
          have RR : Hid ((V.mk k n s (some ⟨lb, lo, none⟩) ll lc L fa 0 fc fn F e key hk).may deep left = mayTo 0 (fun i => (F i).may (deep + 1)) (mayTo ll (fun i => (L i).may (deep + 1)) (true, left - 1))) := RT.out
          have HM1 := Lib.hid m1
          clear m1 m2
          go_wp2_with fail
          go_ret
          exact ⟨ret_b (by rw [RR.out, HM1.out]), HMB.out, by rw [RR.out]; exact HMC.out⟩

end Go.Proofs.YtajmdhcknmmbbaaGreatDoor
