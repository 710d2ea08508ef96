/-
  Walks: the reference's Same, sameFields, Shallow answer 'V.same', 'sameF', 'V.shallow'; old memory is as it was.
  Conditions: the values lie in memory.
-/
import Derived.Test.YtmhemajcnfcdmaaGreatDoorOMb
import Derived.Test.YtmhemajcnfcdmaaGreatDoorSize
import Derived.StillTailTactics
namespace Go.Proofs.YtmhemajcnfcdmaaGreatDoor
open Go.RowKit
def RefSame (v : V) : Prop := ∀ (u : V) (w : World), v.In w → u.In w → Calls Tryz.prog 153 #[v.agg, u.agg] w fun x w' => x = .returned (.bool (v.same u)) ∧ Below w.heap.size w w'
set_option maxRecDepth 100000 in
set_option maxHeartbeats 1000000 in
theorem refFields_any (fa : Option Addr) (fl fc : Nat) (fn : Nat → ByteArray) (F : Nat → V) (fa' : Option Addr) (fl' fc' : Nat) (fn' : Nat → ByteArray) (F' : Nat → V) (hv : ∀ i, i < fl → RefSame (F i)) (w : World) (hlc : fl ≤ fc ∧ fc ≤ maxLen) (hlc' : fl' ≤ fc' ∧ fc' ≤ maxLen)
    (h : ∀ i, i < fl → (∃ b o, fa = some ⟨b, o, none⟩ ∧ At w b (o + i * 9) (.string (fn i) :: (F i).cells)) ∧ (fn i).size ≤ maxLen ∧ (F i).In w)
    (h' : ∀ i, i < fl' → (∃ b o, fa' = some ⟨b, o, none⟩ ∧ At w b (o + i * 9) (.string (fn' i) :: (F' i).cells)) ∧ (fn' i).size ≤ maxLen ∧ (F' i).In w) :
    Calls Tryz.prog 172 #[.slice fa fl fc, .slice fa' fl' fc'] w fun x w' => x = .returned (.bool (sameF fl fn F fl' fn' F')) ∧ Below w.heap.size w w' := by
  unfold maxLen at hlc hlc'
  by_cases hne : fl = fl'
  · subst hne
    by_cases hz : fl = 0
    · subst hz
      have R := Lib.hid (show Ending.returned (.bool true) = .returned (.bool (sameF 0 fn F 0 fn' F')) by simp [sameF, allB])
      clear hv h h'
      go_enter Tryz.func172, Tryz.ntmps172
      go_wp2_with fail
      go_loopw [5] (fun i wr => i = .int .i64 0 ∧ w = wr) (fun _ _ => 0)
      case atStart => exact ⟨rfl, rfl⟩
      case round =>
        obtain ⟨rfl, rfl⟩ := hrel
        go_wp2_with fail
        go_ret
        exact ⟨R.out, Below.refl _ _⟩
    · obtain ⟨⟨b, o, rfl, -⟩, -⟩ := h 0 (by omega)
      obtain ⟨⟨b', o', rfl, -⟩, -⟩ := h' 0 (by omega)
      have H := Lib.hid h
      have H' := Lib.hid h'
      have H2 := Lib.hid hv
      clear h h' hv
      go_enter Tryz.func172, Tryz.ntmps172
      go_wp2_with fail
      go_loopw [5] (fun i wr => ∃ k : Nat, k ≤ fl ∧ i = .int .i64 k ∧ HeldTo k (fun i => decide (fn i = fn' i) && (F i).same (F' i)) ∧ Below w.heap.size w wr) (fun i _ => fl - (intOf i).toNat)
      case atStart => exact ⟨0, Nat.zero_le _, rfl, HeldTo.zero, Below.refl _ _⟩
      case round =>
        obtain ⟨k, hk, rfl, hheld, hb⟩ := hrel
        have HH := Lib.hid hheld
        clear hheld
        by_cases hlt : k < fl
        · obtain ⟨⟨b1, o1, he, hat⟩, hsz, hin⟩ := H.out k hlt
          simp only [Option.some.injEq, Addr.mk.injEq, and_true] at he
          obtain ⟨rfl, rfl⟩ := he
          obtain ⟨⟨b1, o1, he, hat'⟩, hsz', hin'⟩ := H'.out k hlt
          simp only [Option.some.injEq, Addr.mk.injEq, and_true] at he
          obtain ⟨rfl, rfl⟩ := he
          have hx := fun W (hw : Below w.heap.size w W) => H2.out k hlt (F' k) W (hin.below hw) (hin'.below hw)
          have hat := hat.below hb
          have hat' := hat'.below hb
          have HB := Lib.hid hb
          clear hb
          have R1 := Lib.hid (show (decide (fn k = fn' k) && (F k).same (F' k)) = false → Ending.returned (.bool false) = .returned (.bool (sameF fl fn F fl fn' F')) from fun h1 => by rw [sameF, allB_false hlt h1, Bool.and_false])
          have R2 := Lib.hid (show (decide (fn k = fn' k) && (F k).same (F' k)) = true → HeldTo (k + 1) (fun i => decide (fn i = fn' i) && (F i).same (F' i)) from fun h1 => HH.out.succ h1)
          generalize F k = v at hx hat hin R1 R2
          generalize F' k = u at hx hat' hin' R1 R2
          generalize fn k = nm at hat hsz R1 R2
          generalize fn' k = nm' at hat' hsz' R1 R2
          have HX := Lib.hid hx
          clear hx
          cases v with
          | leaf => exact hin.elim
          | mk k2 n2 s2 la2 ll2 lc2 L2 fa2 fl2 fc2 fn2 F2 e2 key2 hk2 =>
          cases u with
          | leaf => exact hin'.elim
          | mk k3 n3 s3 la3 ll3 lc3 L3 fa3 fl3 fc3 fn3 F3 e3 key3 hk3 =>
          obtain ⟨c0, c1, c2, c3, c4, c5, c6, c7, c8⟩ := at9 hat
          obtain ⟨d0, d1, d2, d3, d4, d5, d6, d7, d8⟩ := at9 hat'
          clear hat hat' hin hin' hsz hsz'
          by_cases hnm : nm = nm'
          · subst hnm
            cases hr : (V.mk k2 n2 s2 la2 ll2 lc2 L2 fa2 fl2 fc2 fn2 F2 e2 key2 hk2).same (V.mk k3 n3 s3 la3 ll3 lc3 L3 fa3 fl3 fc3 fn3 F3 e3 key3 hk3)
            · rw [hr] at HX R1 R2
              clear hr R2
              have R3 := Lib.hid (R1.out (by simp))
              clear R1
              go_wp2_with fail
              go_still_tail 22, (by kernel_rfl)
              go_wp2_with fail
              refine (HX.out _ HB.out.drew).mono ?_
              rintro x w1 ⟨rfl, hb1⟩
              have HB1 := Lib.hid (HB.out.drew.trans (hb1.mono HB.out.drew.size))
              clear hb1 c0 c1 c2 c3 c4 c5 c6 c7 c8 d0 d1 d2 d3 d4 d5 d6 d7 d8
              go_wp2_with fail
              go_ret
              exact ⟨R3.out, HB1.out⟩
            · rw [hr] at HX R1 R2
              clear hr R1
              have R3 := Lib.hid (R2.out (by simp))
              clear R2
              go_wp2_with fail
              go_still_tail 22, (by kernel_rfl)
              go_wp2_with fail
              refine (HX.out _ HB.out.drew).mono ?_
              rintro x w1 ⟨rfl, hb1⟩
              have HB1 := Lib.hid (HB.out.drew.trans (hb1.mono HB.out.drew.size))
              clear hb1 c0 c1 c2 c3 c4 c5 c6 c7 c8 d0 d1 d2 d3 d4 d5 d6 d7 d8
              go_wp2_with fail
              go_roundw
              case rel => exact ⟨k + 1, by omega, by go_num, R3.out, HB1.out⟩
              case measure => simp [intOf]; omega
          · have R3 := Lib.hid (R1.out (by simp [hnm]))
            have q := bytes_ne hnm
            clear hnm
            go_wp2_with fail
            go_quiet (fail)
            go_wp2_with fail
            go_ret
            exact ⟨R3.out, below_drewN HB.out _⟩
        · obtain rfl : k = fl := by omega
          have R := Lib.hid (show Ending.returned (.bool true) = .returned (.bool (sameF k fn F k fn' F')) by rw [sameF, HH.out.all]; simp)
          have HB := Lib.hid hb
          clear hb
          go_wp2_with fail
          go_ret
          exact ⟨R.out, HB.out⟩
  · have R := Lib.hid (show Ending.returned (.bool false) = .returned (.bool (sameF fl fn F fl' fn' F')) by simp [sameF, hne])
    have q : ((fl : Int) == (fl' : Int)) = false := by simp; omega
    clear hv h h' hne
    go_enter Tryz.func172, Tryz.ntmps172
    go_wp2_with fail
    go_ret
    exact ⟨R.out, Below.refl _ _⟩
structure Boxes (B : Nat) (la : Option Addr) (ll lc : Nat) (fa : Option Addr) (fl fc : Nat) (la' : Option Addr) (ll' lc' : Nat) (fa' : Option Addr) (fl' fc' : Nat) (w : World) : Prop where
  size : B + 1 < w.heap.size
  c3 : w.cell? ⟨B, 3, none⟩ = some (.slice la ll lc)
  c4 : w.cell? ⟨B, 4, none⟩ = some (.slice fa fl fc)
  d3 : w.cell? ⟨B + 1, 3, none⟩ = some (.slice la' ll' lc')
  d4 : w.cell? ⟨B + 1, 4, none⟩ = some (.slice fa' fl' fc')
theorem Boxes.below {B : Nat} {la : Option Addr} {ll lc : Nat} {fa : Option Addr} {fl fc : Nat} {la' : Option Addr} {ll' lc' : Nat} {fa' : Option Addr} {fl' fc' : Nat} {w w' : World} (h : Boxes B la ll lc fa fl fc la' ll' lc' fa' fl' fc' w) (hb : Below w.heap.size w w') : Boxes B la ll lc fa fl fc la' ll' lc' fa' fl' fc' w' := by
  have := h.size
  have := hb.size
  have e := (bcell hb).1
  exact ⟨by omega, by rw [e _ _ (by omega), h.c3], by rw [e _ _ (by omega), h.c4], by rw [e _ _ (by omega), h.d3], by rw [e _ _ (by omega), h.d4]⟩
set_option maxRecDepth 100000 in
set_option maxHeartbeats 2000000 in
theorem refSame_any : ∀ v : V, RefSame v := by
  intro v
  induction v with
  | leaf => exact fun u w h => h.elim
  | mk k n s la ll lc L fa fl fc fn F e key hk ihL ihF =>
  intro u w h h'
  cases u with
  | leaf => exact h'.elim
  | mk k' n' s' la' ll' lc' L' fa' fl' fc' fn' F' e' key' hk' =>
  obtain ⟨hk1, hn1, hs1, he1, hkey1, hl1, hf1, hL, hF⟩ := h
  obtain ⟨hk2, hn2, hs2, he2, hkey2, hl2, hf2, hL', hF'⟩ := h'
  have HF := Lib.hid (fun W (hb : Below w.heap.size w W) => refFields_any fa fl fc fn F fa' fl' fc' fn' F' (fun i _ => ihF i) W hf1 hf2 (fun i hi => ⟨let ⟨b, o, e1, ha⟩ := (hF i hi).1; ⟨b, o, e1, ha.below hb⟩, (hF i hi).2.1, (hF i hi).2.2.below hb⟩) (fun i hi => ⟨let ⟨b, o, e1, ha⟩ := (hF' i hi).1; ⟨b, o, e1, ha.below hb⟩, (hF' i hi).2.1, (hF' i hi).2.2.below hb⟩))
  have HL := Lib.hid hL
  have HL' := Lib.hid hL'
  clear hL hL' hF hF' ihF hf1 hf2 hs1 hs2 hkey1 hkey2 hk1 hk2 hn1 hn2 he1 he2
  unfold maxLen at hl1 hl2
  simp only [V.agg, V.cells]
  by_cases e0 : k = k'
  · subst e0
    by_cases e1 : n = n'
    · subst e1
      by_cases e2 : s = s'
      · subst e2
        by_cases e3 : e = e'
        · subst e3
          by_cases e4 : key = key'
          · subst e4
            by_cases e5 : hk = hk'
            · subst e5
              by_cases e6 : ll = ll'
              · subst e6
                by_cases hz : ll = 0
                · subst hz
                  have RF := Lib.hid (show V.same (.mk k n s la 0 lc L fa fl fc fn F e key hk) (.mk k n s la' 0 lc' L' fa' fl' fc' fn' F' e key hk) = sameF fl fn F fl' fn' F' by simp [V.same, ownB, sameF, allB])
                  clear HL HL' ihL
                  go_enter Tryz.func153, Tryz.ntmps153
                  go_wp2_with fail
                  go_loopw [5] (fun i wr => i = .int .i64 0 ∧ Boxes w.heap.size la 0 lc fa fl fc la' 0 lc' fa' fl' fc' wr ∧ Below w.heap.size w wr) (fun _ _ => 0)
                  case atStart => exact ⟨rfl, ⟨by simp, by simp, by simp, by simp, by simp⟩, (below_alloc _ _).alloc (by simp) _⟩
                  case round =>
                    obtain ⟨rfl, hbx, hb⟩ := hrel
                    obtain ⟨-, q1, q2, q3, q4⟩ := hbx
                    have HB := Lib.hid hb
                    clear hb
                    go_wp2_with fail
                    refine (HF.out _ HB.out).mono ?_
                    rintro x w1 ⟨rfl, hb1⟩
                    have HB1 := Lib.hid (HB.out.trans (hb1.mono HB.out.size))
                    clear hb1 q1 q2 q3 q4
                    go_wp2_with fail
                    go_ret
                    exact ⟨ret_b RF.out.symm, HB1.out⟩
                · obtain ⟨⟨b, o, rfl, -⟩, -⟩ := HL.out 0 (by omega)
                  obtain ⟨⟨b', o', rfl, -⟩, -⟩ := HL'.out 0 (by omega)
                  have RF := Lib.hid (show HeldTo ll (fun i => (L i).same (L' i)) → V.same (.mk k n s (some ⟨b, o, none⟩) ll lc L fa fl fc fn F e key hk) (.mk k n s (some ⟨b', o', none⟩) ll lc' L' fa' fl' fc' fn' F' e key hk) = sameF fl fn F fl' fn' F' from fun h => by simp [V.same, ownB, sameF, h.all])
                  have RN := Lib.hid (show ∀ i, i < ll → (L i).same (L' i) = false → V.same (.mk k n s (some ⟨b, o, none⟩) ll lc L fa fl fc fn F e key hk) (.mk k n s (some ⟨b', o', none⟩) ll lc' L' fa' fl' fc' fn' F' e key hk) = false from fun i hi h => by
                      have e := allB_false (p := fun i => (L i).same (L' i)) hi h
                      simp [V.same, e])
                  have HI := Lib.hid ihL
                  clear ihL
                  go_enter Tryz.func153, Tryz.ntmps153
                  go_wp2_with fail
                  go_loopw [5] (fun i wr => ∃ j : Nat, j ≤ ll ∧ i = .int .i64 j ∧ HeldTo j (fun i => (L i).same (L' i)) ∧ Boxes w.heap.size (some ⟨b, o, none⟩) ll lc fa fl fc (some ⟨b', o', none⟩) ll lc' fa' fl' fc' wr ∧ Below w.heap.size w wr) (fun i _ => ll - (intOf i).toNat)
                  case atStart => exact ⟨0, Nat.zero_le _, rfl, HeldTo.zero, ⟨by simp, by simp, by simp, by simp, by simp⟩, (below_alloc _ _).alloc (by simp) _⟩
                  case round =>
                    obtain ⟨j, hj, rfl, hheld, hbx, hb⟩ := hrel
                    have HH := Lib.hid hheld
                    have HBX := Lib.hid hbx
                    clear hheld
                    obtain ⟨-, q1, q2, q3, q4⟩ := hbx
                    by_cases hlt : j < ll
                    · obtain ⟨⟨b1, o1, he, hat⟩, hin⟩ := HL.out j hlt
                      simp only [Option.some.injEq, Addr.mk.injEq, and_true] at he
                      obtain ⟨rfl, rfl⟩ := he
                      obtain ⟨⟨b1, o1, he, hat'⟩, hin'⟩ := HL'.out j hlt
                      simp only [Option.some.injEq, Addr.mk.injEq, and_true] at he
                      obtain ⟨rfl, rfl⟩ := he
                      have hx := fun W (hw : Below w.heap.size w W) => HI.out j (L' j) W (hin.below hw) (hin'.below hw)
                      have hat := hat.below hb
                      have hat' := hat'.below hb
                      have HB := Lib.hid hb
                      clear hb
                      have R1 := Lib.hid (RN.out j hlt)
                      have R2 := Lib.hid (show (L j).same (L' j) = true → HeldTo (j + 1) (fun i => (L i).same (L' i)) from fun h1 => HH.out.succ h1)
                      generalize L j = v at hx hat hin R1 R2
                      generalize L' j = u at hx hat' hin' R1 R2
                      have HX := Lib.hid hx
                      clear hx
                      cases v with
                      | leaf => exact hin.elim
                      | mk k2 n2 s2 la2 ll2 lc2 L2 fa2 fl2 fc2 fn2 F2 e2 key2 hk2 =>
                      cases u with
                      | leaf => exact hin'.elim
                      | mk k3 n3 s3 la3 ll3 lc3 L3 fa3 fl3 fc3 fn3 F3 e3 key3 hk3 =>
                      obtain ⟨c0, c1, c2, c3, c4, c5, c6, c7⟩ := at8 hat
                      obtain ⟨d0, d1, d2, d3, d4, d5, d6, d7⟩ := at8 hat'
                      clear hat hat' hin hin'
                      cases hr : (V.mk k2 n2 s2 la2 ll2 lc2 L2 fa2 fl2 fc2 fn2 F2 e2 key2 hk2).same (V.mk k3 n3 s3 la3 ll3 lc3 L3 fa3 fl3 fc3 fn3 F3 e3 key3 hk3)
                      · rw [hr] at HX R1 R2
                        clear hr R2
                        have R3 := Lib.hid (R1.out rfl)
                        clear R1
                        go_wp2_with fail
                        go_still_tail 10, (by kernel_rfl)
                        go_wp2_with fail
                        refine (HX.out _ HB.out.drew).mono ?_
                        rintro x w1 ⟨rfl, hb1⟩
                        have HB1 := Lib.hid (HB.out.drew.trans (hb1.mono HB.out.drew.size))
                        clear hb1 c0 c1 c2 c3 c4 c5 c6 c7 d0 d1 d2 d3 d4 d5 d6 d7 q1 q2 q3 q4
                        go_wp2_with fail
                        go_ret
                        exact ⟨ret_b R3.out.symm, HB1.out⟩
                      · rw [hr] at HX R1 R2
                        clear hr R1
                        have R3 := Lib.hid (R2.out rfl)
                        clear R2
                        go_wp2_with fail
                        go_still_tail 10, (by kernel_rfl)
                        go_wp2_with fail
                        refine (HX.out _ HB.out.drew).mono ?_
                        rintro x w1 ⟨rfl, hb1⟩
                        have HB1 := Lib.hid (HB.out.drew.trans (hb1.mono HB.out.drew.size))
                        have HBX1 := Lib.hid ((HBX.out.below (Below.refl _ _).drew).below hb1)
                        clear hb1 c0 c1 c2 c3 c4 c5 c6 c7 d0 d1 d2 d3 d4 d5 d6 d7 q1 q2 q3 q4
                        go_wp2_with fail
                        go_roundw
                        case rel => exact ⟨j + 1, by omega, by go_num, R3.out, HBX1.out, HB1.out⟩
                        case measure => simp [intOf]; omega
                    · obtain rfl : j = ll := by omega
                      have R3 := Lib.hid (RF.out HH.out)
                      have HB := Lib.hid hb
                      clear hb
                      go_wp2_with fail
                      refine (HF.out _ HB.out).mono ?_
                      rintro x w1 ⟨rfl, hb1⟩
                      have HB1 := Lib.hid (HB.out.trans (hb1.mono HB.out.size))
                      clear hb1 q1 q2 q3 q4
                      go_wp2_with fail
                      go_ret
                      exact ⟨ret_b R3.out.symm, HB1.out⟩
              · have q6 : ((ll : Int) == (ll' : Int)) = false := by simp; omega
                have R := Lib.hid (show Ending.returned (.bool false) = .returned (.bool (V.same (.mk k n s la ll lc L fa fl fc fn F e key hk) (.mk k n s la' ll' lc' L' fa' fl' fc' fn' F' e key hk))) by simp [V.same, ownB, e6])
                clear e6 HL HL' HF ihL
                go_enter Tryz.func153, Tryz.ntmps153
                go_wp2_with fail
                go_ret
                exact ⟨R.out, (below_alloc _ _).alloc (by simp) _⟩
            · have q5 : (hk == hk') = false := by simp [e5]
              have R := Lib.hid (show Ending.returned (.bool false) = .returned (.bool (V.same (.mk k n s la ll lc L fa fl fc fn F e key hk) (.mk k n s la' ll' lc' L' fa' fl' fc' fn' F' e key hk'))) by simp [V.same, ownB, e5])
              clear e5 HL HL' HF ihL
              go_enter Tryz.func153, Tryz.ntmps153
              go_wp2_with fail
              go_ret
              exact ⟨R.out, (below_alloc _ _).alloc (by simp) _⟩
          · have q4 : (key.toList == key'.toList) = false := bytes_ne e4
            have R := Lib.hid (show Ending.returned (.bool false) = .returned (.bool (V.same (.mk k n s la ll lc L fa fl fc fn F e key hk) (.mk k n s la' ll' lc' L' fa' fl' fc' fn' F' e key' hk'))) by simp [V.same, ownB, e4])
            clear e4 HL HL' HF ihL
            go_enter Tryz.func153, Tryz.ntmps153
            go_wp2_with fail
            go_ret
            exact ⟨R.out, (below_alloc _ _).alloc (by simp) _⟩
        · have q3 : (e == e') = false := by simp [e3]
          have R := Lib.hid (show Ending.returned (.bool false) = .returned (.bool (V.same (.mk k n s la ll lc L fa fl fc fn F e key hk) (.mk k n s la' ll' lc' L' fa' fl' fc' fn' F' e' key' hk'))) by simp [V.same, ownB, e3])
          clear HL HL' HF ihL
          go_enter Tryz.func153, Tryz.ntmps153
          go_wp2_with fail
          go_ret
          exact ⟨R.out, (below_alloc _ _).alloc (by simp) _⟩
      · have q2 : (s.toList == s'.toList) = false := bytes_ne e2
        have R := Lib.hid (show Ending.returned (.bool false) = .returned (.bool (V.same (.mk k n s la ll lc L fa fl fc fn F e key hk) (.mk k n s' la' ll' lc' L' fa' fl' fc' fn' F' e' key' hk'))) by simp [V.same, ownB, e2])
        clear e2 HL HL' HF ihL
        go_enter Tryz.func153, Tryz.ntmps153
        go_wp2_with fail
        go_ret
        exact ⟨R.out, (below_alloc _ _).alloc (by simp) _⟩
    · have q1 : (n == n') = false := by simp [e1]
      have R := Lib.hid (show Ending.returned (.bool false) = .returned (.bool (V.same (.mk k n s la ll lc L fa fl fc fn F e key hk) (.mk k n' s' la' ll' lc' L' fa' fl' fc' fn' F' e' key' hk'))) by simp [V.same, ownB, e1])
      clear HL HL' HF ihL
      go_enter Tryz.func153, Tryz.ntmps153
      go_wp2_with fail
      go_ret
      exact ⟨R.out, (below_alloc _ _).alloc (by simp) _⟩
  · have q0 : (k == k') = false := by simp [e0]
    have R := Lib.hid (show Ending.returned (.bool false) = .returned (.bool (V.same (.mk k n s la ll lc L fa fl fc fn F e key hk) (.mk k' n' s' la' ll' lc' L' fa' fl' fc' fn' F' e' key' hk'))) by simp [V.same, ownB, e0])
    clear HL HL' HF ihL
    go_enter Tryz.func153, Tryz.ntmps153
    go_wp2_with fail
    go_ret
    exact ⟨R.out, (below_alloc _ _).alloc (by simp) _⟩
end Go.Proofs.YtmhemajcnfcdmaaGreatDoor
