/-
  Walks: the closure in value.Same answers 'V.same'; it only reads.
  Conditions: the values lie in memory.
-/
import Derived.Test.YtjbapldlgnlepaaGreatDoorSame
namespace Go.Proofs.YtjbapldlgnlepaaGreatDoor
open Go.RowKit

/-- The closure's own variable holds the closure. -/
def Clo (c : Nat) (w : World) : Prop := w.cell? ⟨c, 0, none⟩ = some (.func (Fn.func 159) #[] #[.pointer (some ⟨c, 0, none⟩)])

def SameOk (v : V) : Prop := ∀ (u : V) (w : World) (b o b' o' c : Nat), v.In w → u.In w → At w b o v.cells → At w b' o' u.cells → Clo c w →
  Calls Tryz.prog 159 #[.pointer (some ⟨b, o, none⟩), .pointer (some ⟨b', o', none⟩), .pointer (some ⟨c, 0, none⟩)] w fun x w' => x = .returned (.bool (v.same u)) ∧ ∃ m, w' = w.drewN m

theorem below_drawn (w : World) (m : Nat) : Below w.heap.size w (w.drewN m) := below_drewN (Below.refl _ _) m

theorem clo_drawn {c : Nat} {w : World} (h : Clo c w) (m : Nat) : Clo c (w.drewN m) := h

theorem quiet_more {P : Program} {f : FuncId} {args : Array Value} {w : World} {m a : Nat} {v : Value}
    (h : Calls P f args (w.drewN (m + a)) fun e w' => e = .returned v ∧ ∃ q, w' = (w.drewN (m + a)).drewN q) : Calls P f args (w.drewN (m + a)) fun e w'' => e = .returned v ∧ ∃ n, w'' = w.drewN (m + n) :=
  h.mono fun _ _ ⟨he, q, hq⟩ => ⟨he, a + q, by rw [hq, World.drewN_drewN, Nat.add_assoc]⟩

theorem At.tail {w : World} {b o : Nat} {x : Value} {cs : List Value} (h : At w b o (x :: cs)) : At w b (o + 1) cs := by
  intro i hi
  have := h (i + 1) (by simpa using hi)
  rw [show o + 1 + i = o + (i + 1) by omega, this]
  rfl

set_option maxHeartbeats 2000000 in
theorem same1_nn (w : World) (b o b' o' c : Nat) (k n : Int) (s : ByteArray) (lc : Nat) (L : Nat → V) (fc : Nat) (fn : Nat → ByteArray) (F : Nat → V) (e : Int) (key : ByteArray) (hk : Bool) (k' n' : Int) (s' : ByteArray) (lc' : Nat) (L' : Nat → V) (fc' : Nat) (fn' : Nat → ByteArray) (F' : Nat → V) (e' : Int) (key' : ByteArray) (hk' : Bool) (ll lb lo lb' lo' : Nat) (fl fb fo fb' fo' : Nat)
    (ihL : ∀ i, SameOk (L i)) (ihF : ∀ i, SameOk (F i)) (h : V.In w (V.mk k n s (some ⟨lb, lo, none⟩) ll lc L (some ⟨fb, fo, none⟩) fl fc fn F e key hk)) (h' : V.In w (V.mk k' n' s' (some ⟨lb', lo', none⟩) ll lc' L' (some ⟨fb', fo', none⟩) fl fc' fn' F' e' key' hk')) (ha : At w b o (V.mk k n s (some ⟨lb, lo, none⟩) ll lc L (some ⟨fb, fo, none⟩) fl fc fn F e key hk).cells) (ha' : At w b' o' (V.mk k' n' s' (some ⟨lb', lo', none⟩) ll lc' L' (some ⟨fb', fo', none⟩) fl fc' fn' F' e' key' hk').cells) (hclo : Clo c w) (ho : ownB k n s e key hk k' n' s' e' key' hk' = true) :
    Calls Tryz.prog 159 #[.pointer (some ⟨b, o, none⟩), .pointer (some ⟨b', o', none⟩), .pointer (some ⟨c, 0, none⟩)] w fun x w' => x = .returned (.bool ((V.mk k n s (some ⟨lb, lo, none⟩) ll lc L (some ⟨fb, fo, none⟩) fl fc fn F e key hk).same (V.mk k' n' s' (some ⟨lb', lo', none⟩) ll lc' L' (some ⟨fb', fo', none⟩) fl fc' fn' F' e' key' hk'))) ∧ ∃ m, w' = w.drewN m := by
  obtain ⟨-, -, -, -, -, hl1, hf1, hL, hF⟩ := h
  obtain ⟨-, -, -, -, -, hl2, hf2, hL', hF'⟩ := h'
  have HO := Lib.hid (fun m => sameOwn_any (w.drewN m) b o b' o' k n s (some ⟨lb, lo, none⟩) ll lc L (some ⟨fb, fo, none⟩) fl fc fn F e key hk k' n' s' (some ⟨lb', lo', none⟩) ll lc' L' (some ⟨fb', fo', none⟩) fl fc' fn' F' e' key' hk' (ha.below (below_drawn w m)) (ha'.below (below_drawn w m)))
  rw [ho] at HO
  have HC := Lib.hid (fun m => clo_drawn hclo m)
  obtain ⟨-, -, -, c3, c4, -, -, -⟩ := at8 ha
  obtain ⟨-, -, -, d3, d4, -, -, -⟩ := at8 ha'
  have RL := Lib.hid (show ∀ i, i < ll → (L i).same (L' i) = false → Ending.returned (.bool false) = .returned (.bool ((V.mk k n s (some ⟨lb, lo, none⟩) ll lc L (some ⟨fb, fo, none⟩) fl fc fn F e key hk).same (V.mk k' n' s' (some ⟨lb', lo', none⟩) ll lc' L' (some ⟨fb', fo', none⟩) fl fc' fn' F' e' key' hk'))) from fun i hi h => by
    have e := allB_false (p := fun i => (L i).same (L' i)) hi h
    simp [V.same, e])
  have RT0 := Lib.hid (show HeldTo ll (fun i => (L i).same (L' i)) → HeldTo fl (fun i => decide (fn i = fn' i) && (F i).same (F' i)) → Ending.returned (.bool true) = .returned (.bool ((V.mk k n s (some ⟨lb, lo, none⟩) ll lc L (some ⟨fb, fo, none⟩) fl fc fn F e key hk).same (V.mk k' n' s' (some ⟨lb', lo', none⟩) ll lc' L' (some ⟨fb', fo', none⟩) fl fc' fn' F' e' key' hk'))) from fun h1 h2 => by simp [V.same, ho, h1.all, h2.all])
  have RF0 := Lib.hid (show HeldTo ll (fun i => (L i).same (L' i)) → ∀ i, i < fl → (decide (fn i = fn' i) && (F i).same (F' i)) = false → Ending.returned (.bool false) = .returned (.bool ((V.mk k n s (some ⟨lb, lo, none⟩) ll lc L (some ⟨fb, fo, none⟩) fl fc fn F e key hk).same (V.mk k' n' s' (some ⟨lb', lo', none⟩) ll lc' L' (some ⟨fb', fo', none⟩) fl fc' fn' F' e' key' hk'))) from fun h1 i hi h => by
    have e := allB_false (p := (fun i => decide (fn i = fn' i) && (F i).same (F' i))) hi h
    simp only [V.same, e, Bool.and_false])
  have HL := Lib.hid hL
  have HL' := Lib.hid hL'
  have HF := Lib.hid hF
  have HF' := Lib.hid hF'
  have HIL := Lib.hid ihL
  have HIF := Lib.hid ihF
  clear ha ha' hL hL' hF hF' ihL ihF ho
  unfold Clo at hclo
  unfold maxLen at hl1 hl2 hf1 hf2
  go_enter Tryz.func159, Tryz.ntmps159
  go_wp2_with fail
  go_quiet ((go_at_call 160; exact Calls.quiet_of (HO.out _)))
  go_wp2_with fail
  go_loopw [43] (fun i wr => ∃ j : Nat, j ≤ ll ∧ i = .int .i64 j ∧ HeldTo j (fun i => (L i).same (L' i)) ∧ ∃ m, wr = w.drewN m) (fun i _ => ll - (intOf i).toNat)
  case atStart => exact ⟨0, Nat.zero_le _, rfl, HeldTo.zero, _, rfl⟩
  case round =>
    obtain ⟨j, hj, rfl, hheld, m, rfl⟩ := hrel
    have HH := Lib.hid hheld
    clear hheld
    by_cases hlt : j < ll
    · obtain ⟨⟨b1, o1, he, hat⟩, hin⟩ := HL.out j hlt
      simp only [Option.some.injEq, Addr.mk.injEq, and_true] at he
      obtain ⟨rfl, rfl⟩ := he
      obtain ⟨⟨b1, o1, he, hat'⟩, hin'⟩ := HL'.out j hlt
      simp only [Option.some.injEq, Addr.mk.injEq, and_true] at he
      obtain ⟨rfl, rfl⟩ := he
      have hx := fun W (hw : Below w.heap.size w W) (hc : Clo c W) => HIL.out j (L' j) W _ _ _ _ c (hin.below hw) (hin'.below hw) (hat.below hw) (hat'.below hw) hc
      have HX := Lib.hid hx
      have R1 := Lib.hid (RL.out j hlt)
      have R2 := Lib.hid (show (L j).same (L' j) = true → HeldTo (j + 1) (fun i => (L i).same (L' i)) from fun h1 => HH.out.succ h1)
      have hl0 : (0 : Int) ≤ (j : Int) := by omega
      have hli : (j : Int) < (ll : Int) := by omega
      clear hx hat hat' hin hin'
      cases hr : (L j).same (L' j)
      · rw [hr] at HX R1 R2
        clear hr R2
        have R := Lib.hid (R1.out rfl)
        clear R1
        go_wp2_with fail
        go_quiet ((go_at_call 159; exact quiet_more (HX.out _ (below_drawn _ _) (HC.out _))))
        go_wp2_with fail
        go_ret
        exact ⟨R.out, _, World.drewN_drewN _ _ _⟩
      · rw [hr] at HX R1 R2
        clear hr R1
        have R := Lib.hid (R2.out rfl)
        clear R2
        go_wp2_with fail
        go_quiet ((go_at_call 159; exact quiet_more (HX.out _ (below_drawn _ _) (HC.out _))))
        go_wp2_with fail
        go_roundw
        case rel => exact ⟨j + 1, by omega, by go_num, R.out, _, rfl⟩
        case measure => simp [intOf]; omega
    · obtain rfl : j = ll := by omega
      have RT := Lib.hid (RT0.out HH.out)
      have RF := Lib.hid (RF0.out HH.out)
      clear HH
      go_wp2_with fail
      go_loopw [67] (fun i wr => ∃ j : Nat, j ≤ fl ∧ i = .int .i64 j ∧ HeldTo j (fun i => decide (fn i = fn' i) && (F i).same (F' i)) ∧ ∃ m, wr = w.drewN m) (fun i _ => fl - (intOf i).toNat)
      case atStart => exact ⟨0, Nat.zero_le _, rfl, HeldTo.zero, _, rfl⟩
      case round =>
        obtain ⟨j, hj, rfl, hheld, m, rfl⟩ := hrel
        have HH := Lib.hid hheld
        clear hheld
        by_cases hlt : j < fl
        · obtain ⟨⟨b1, o1, he, hat⟩, -, hin⟩ := HF.out j hlt
          simp only [Option.some.injEq, Addr.mk.injEq, and_true] at he
          obtain ⟨rfl, rfl⟩ := he
          obtain ⟨⟨b1, o1, he, hat'⟩, -, hin'⟩ := HF'.out j hlt
          simp only [Option.some.injEq, Addr.mk.injEq, and_true] at he
          obtain ⟨rfl, rfl⟩ := he
          have hx := fun W (hw : Below w.heap.size w W) (hc : Clo c W) => HIF.out j (F' j) W _ _ _ _ c (hin.below hw) (hin'.below hw) (hat.tail.below hw) (hat'.tail.below hw) hc
          have HX := Lib.hid hx
          have n0 : w.cell? ⟨fb, fo + j * 9, none⟩ = some (.string (fn j)) := by simpa using hat 0 (by simp)
          have n0' : w.cell? ⟨fb', fo' + j * 9, none⟩ = some (.string (fn' j)) := by simpa using hat' 0 (by simp)
          have R1 := Lib.hid (RF.out j hlt)
          have R2 := Lib.hid (show (decide (fn j = fn' j) && (F j).same (F' j)) = true → HeldTo (j + 1) (fun i => decide (fn i = fn' i) && (F i).same (F' i)) from fun h1 => HH.out.succ h1)
          have hl0 : (0 : Int) ≤ (j : Int) := by omega
          have hli : (j : Int) < (fl : Int) := by omega
          clear hx hat hat' hin hin'
          generalize fn j = nm at n0 R1 R2
          generalize fn' j = nm' at n0' R1 R2
          by_cases hnm : nm = nm'
          · subst hnm
            cases hr : (F j).same (F' j)
            · rw [hr] at HX R1 R2
              clear hr R2
              have R := Lib.hid (R1.out (by simp))
              clear R1
              go_wp2_with fail
              go_quiet ((go_at_call 159; exact quiet_more (HX.out _ (below_drawn _ _) (HC.out _))))
              go_wp2_with fail
              go_ret
              exact ⟨R.out, _, World.drewN_drewN _ _ _⟩
            · rw [hr] at HX R1 R2
              clear hr R1
              have R := Lib.hid (R2.out (by simp))
              clear R2
              go_wp2_with fail
              go_quiet ((go_at_call 159; exact quiet_more (HX.out _ (below_drawn _ _) (HC.out _))))
              go_wp2_with fail
              go_roundw
              case rel => exact ⟨j + 1, by omega, by go_num, R.out, _, rfl⟩
              case measure => simp [intOf]; omega
          · have R := Lib.hid (R1.out (by simp [hnm]))
            have q := bytes_ne hnm
            clear hnm
            go_wp2_with fail
            go_quiet (fail)
            go_wp2_with fail
            go_ret
            exact ⟨R.out, _, World.drewN_drewN _ _ _⟩
        · obtain rfl : j = fl := by omega
          have R := Lib.hid (RT.out HH.out)
          go_wp2_with fail
          go_ret
          exact ⟨R.out, _, rfl⟩

set_option maxHeartbeats 2000000 in
theorem same1_nz (w : World) (b o b' o' c : Nat) (k n : Int) (s : ByteArray) (lc : Nat) (L : Nat → V) (fc : Nat) (fn : Nat → ByteArray) (F : Nat → V) (e : Int) (key : ByteArray) (hk : Bool) (k' n' : Int) (s' : ByteArray) (lc' : Nat) (L' : Nat → V) (fc' : Nat) (fn' : Nat → ByteArray) (F' : Nat → V) (e' : Int) (key' : ByteArray) (hk' : Bool) (ll lb lo lb' lo' : Nat) (fa fa' : Option Addr)
    (ihL : ∀ i, SameOk (L i)) (ihF : ∀ i, SameOk (F i)) (h : V.In w (V.mk k n s (some ⟨lb, lo, none⟩) ll lc L fa 0 fc fn F e key hk)) (h' : V.In w (V.mk k' n' s' (some ⟨lb', lo', none⟩) ll lc' L' fa' 0 fc' fn' F' e' key' hk')) (ha : At w b o (V.mk k n s (some ⟨lb, lo, none⟩) ll lc L fa 0 fc fn F e key hk).cells) (ha' : At w b' o' (V.mk k' n' s' (some ⟨lb', lo', none⟩) ll lc' L' fa' 0 fc' fn' F' e' key' hk').cells) (hclo : Clo c w) (ho : ownB k n s e key hk k' n' s' e' key' hk' = true) :
    Calls Tryz.prog 159 #[.pointer (some ⟨b, o, none⟩), .pointer (some ⟨b', o', none⟩), .pointer (some ⟨c, 0, none⟩)] w fun x w' => x = .returned (.bool ((V.mk k n s (some ⟨lb, lo, none⟩) ll lc L fa 0 fc fn F e key hk).same (V.mk k' n' s' (some ⟨lb', lo', none⟩) ll lc' L' fa' 0 fc' fn' F' e' key' hk'))) ∧ ∃ m, w' = w.drewN m := by
  obtain ⟨-, -, -, -, -, hl1, hf1, hL, hF⟩ := h
  obtain ⟨-, -, -, -, -, hl2, hf2, hL', hF'⟩ := h'
  have HO := Lib.hid (fun m => sameOwn_any (w.drewN m) b o b' o' k n s (some ⟨lb, lo, none⟩) ll lc L fa 0 fc fn F e key hk k' n' s' (some ⟨lb', lo', none⟩) ll lc' L' fa' 0 fc' fn' F' e' key' hk' (ha.below (below_drawn w m)) (ha'.below (below_drawn w m)))
  rw [ho] at HO
  have HC := Lib.hid (fun m => clo_drawn hclo m)
  obtain ⟨-, -, -, c3, c4, -, -, -⟩ := at8 ha
  obtain ⟨-, -, -, d3, d4, -, -, -⟩ := at8 ha'
  have RL := Lib.hid (show ∀ i, i < ll → (L i).same (L' i) = false → Ending.returned (.bool false) = .returned (.bool ((V.mk k n s (some ⟨lb, lo, none⟩) ll lc L fa 0 fc fn F e key hk).same (V.mk k' n' s' (some ⟨lb', lo', none⟩) ll lc' L' fa' 0 fc' fn' F' e' key' hk'))) from fun i hi h => by
    have e := allB_false (p := fun i => (L i).same (L' i)) hi h
    simp [V.same, e])
  have RT0 := Lib.hid (show HeldTo ll (fun i => (L i).same (L' i)) → HeldTo 0 (fun i => decide (fn i = fn' i) && (F i).same (F' i)) → Ending.returned (.bool true) = .returned (.bool ((V.mk k n s (some ⟨lb, lo, none⟩) ll lc L fa 0 fc fn F e key hk).same (V.mk k' n' s' (some ⟨lb', lo', none⟩) ll lc' L' fa' 0 fc' fn' F' e' key' hk'))) from fun h1 h2 => by simp [V.same, ho, h1.all, h2.all])
  have RF0 := Lib.hid (show HeldTo ll (fun i => (L i).same (L' i)) → ∀ i, i < 0 → (decide (fn i = fn' i) && (F i).same (F' i)) = false → Ending.returned (.bool false) = .returned (.bool ((V.mk k n s (some ⟨lb, lo, none⟩) ll lc L fa 0 fc fn F e key hk).same (V.mk k' n' s' (some ⟨lb', lo', none⟩) ll lc' L' fa' 0 fc' fn' F' e' key' hk'))) from fun h1 i hi h => by
    have e := allB_false (p := (fun i => decide (fn i = fn' i) && (F i).same (F' i))) hi h
    simp only [V.same, e, Bool.and_false])
  have HL := Lib.hid hL
  have HL' := Lib.hid hL'
  have HF := Lib.hid hF
  have HF' := Lib.hid hF'
  have HIL := Lib.hid ihL
  have HIF := Lib.hid ihF
  clear ha ha' hL hL' hF hF' ihL ihF ho
  unfold Clo at hclo
  unfold maxLen at hl1 hl2 hf1 hf2
  clear HF HF' HIF
  go_enter Tryz.func159, Tryz.ntmps159
  go_wp2_with fail
  go_quiet ((go_at_call 160; exact Calls.quiet_of (HO.out _)))
  go_wp2_with fail
  go_loopw [43] (fun i wr => ∃ j : Nat, j ≤ ll ∧ i = .int .i64 j ∧ HeldTo j (fun i => (L i).same (L' i)) ∧ ∃ m, wr = w.drewN m) (fun i _ => ll - (intOf i).toNat)
  case atStart => exact ⟨0, Nat.zero_le _, rfl, HeldTo.zero, _, rfl⟩
  case round =>
    obtain ⟨j, hj, rfl, hheld, m, rfl⟩ := hrel
    have HH := Lib.hid hheld
    clear hheld
    by_cases hlt : j < ll
    · obtain ⟨⟨b1, o1, he, hat⟩, hin⟩ := HL.out j hlt
      simp only [Option.some.injEq, Addr.mk.injEq, and_true] at he
      obtain ⟨rfl, rfl⟩ := he
      obtain ⟨⟨b1, o1, he, hat'⟩, hin'⟩ := HL'.out j hlt
      simp only [Option.some.injEq, Addr.mk.injEq, and_true] at he
      obtain ⟨rfl, rfl⟩ := he
      have hx := fun W (hw : Below w.heap.size w W) (hc : Clo c W) => HIL.out j (L' j) W _ _ _ _ c (hin.below hw) (hin'.below hw) (hat.below hw) (hat'.below hw) hc
      have HX := Lib.hid hx
      have R1 := Lib.hid (RL.out j hlt)
      have R2 := Lib.hid (show (L j).same (L' j) = true → HeldTo (j + 1) (fun i => (L i).same (L' i)) from fun h1 => HH.out.succ h1)
      have hl0 : (0 : Int) ≤ (j : Int) := by omega
      have hli : (j : Int) < (ll : Int) := by omega
      clear hx hat hat' hin hin'
      cases hr : (L j).same (L' j)
      · rw [hr] at HX R1 R2
        clear hr R2
        have R := Lib.hid (R1.out rfl)
        clear R1
        go_wp2_with fail
        go_quiet ((go_at_call 159; exact quiet_more (HX.out _ (below_drawn _ _) (HC.out _))))
        go_wp2_with fail
        go_ret
        exact ⟨R.out, _, World.drewN_drewN _ _ _⟩
      · rw [hr] at HX R1 R2
        clear hr R1
        have R := Lib.hid (R2.out rfl)
        clear R2
        go_wp2_with fail
        go_quiet ((go_at_call 159; exact quiet_more (HX.out _ (below_drawn _ _) (HC.out _))))
        go_wp2_with fail
        go_roundw
        case rel => exact ⟨j + 1, by omega, by go_num, R.out, _, rfl⟩
        case measure => simp [intOf]; omega
    · obtain rfl : j = ll := by omega
      have RT := Lib.hid (RT0.out HH.out)
      have RF := Lib.hid (RF0.out HH.out)
      clear HH
      go_wp2_with fail
      go_loopw [67] (fun i wr => ∃ j : Nat, j ≤ 0 ∧ i = .int .i64 j ∧ HeldTo j (fun i => decide (fn i = fn' i) && (F i).same (F' i)) ∧ ∃ m, wr = w.drewN m) (fun i _ => 0 - (intOf i).toNat)
      case atStart => exact ⟨0, Nat.zero_le _, rfl, HeldTo.zero, _, rfl⟩
      case round =>
        obtain ⟨j, hj, rfl, hheld, m, rfl⟩ := hrel
        have HH := Lib.hid hheld
        clear hheld
        obtain rfl : j = 0 := by omega
        have R := Lib.hid (RT.out HH.out)
        go_wp2_with fail
        go_ret
        exact ⟨R.out, _, rfl⟩

set_option maxHeartbeats 2000000 in
theorem same1_zn (w : World) (b o b' o' c : Nat) (k n : Int) (s : ByteArray) (lc : Nat) (L : Nat → V) (fc : Nat) (fn : Nat → ByteArray) (F : Nat → V) (e : Int) (key : ByteArray) (hk : Bool) (k' n' : Int) (s' : ByteArray) (lc' : Nat) (L' : Nat → V) (fc' : Nat) (fn' : Nat → ByteArray) (F' : Nat → V) (e' : Int) (key' : ByteArray) (hk' : Bool) (la la' : Option Addr) (fl fb fo fb' fo' : Nat)
    (ihL : ∀ i, SameOk (L i)) (ihF : ∀ i, SameOk (F i)) (h : V.In w (V.mk k n s la 0 lc L (some ⟨fb, fo, none⟩) fl fc fn F e key hk)) (h' : V.In w (V.mk k' n' s' la' 0 lc' L' (some ⟨fb', fo', none⟩) fl fc' fn' F' e' key' hk')) (ha : At w b o (V.mk k n s la 0 lc L (some ⟨fb, fo, none⟩) fl fc fn F e key hk).cells) (ha' : At w b' o' (V.mk k' n' s' la' 0 lc' L' (some ⟨fb', fo', none⟩) fl fc' fn' F' e' key' hk').cells) (hclo : Clo c w) (ho : ownB k n s e key hk k' n' s' e' key' hk' = true) :
    Calls Tryz.prog 159 #[.pointer (some ⟨b, o, none⟩), .pointer (some ⟨b', o', none⟩), .pointer (some ⟨c, 0, none⟩)] w fun x w' => x = .returned (.bool ((V.mk k n s la 0 lc L (some ⟨fb, fo, none⟩) fl fc fn F e key hk).same (V.mk k' n' s' la' 0 lc' L' (some ⟨fb', fo', none⟩) fl fc' fn' F' e' key' hk'))) ∧ ∃ m, w' = w.drewN m := by
  obtain ⟨-, -, -, -, -, hl1, hf1, hL, hF⟩ := h
  obtain ⟨-, -, -, -, -, hl2, hf2, hL', hF'⟩ := h'
  have HO := Lib.hid (fun m => sameOwn_any (w.drewN m) b o b' o' k n s la 0 lc L (some ⟨fb, fo, none⟩) fl fc fn F e key hk k' n' s' la' 0 lc' L' (some ⟨fb', fo', none⟩) fl fc' fn' F' e' key' hk' (ha.below (below_drawn w m)) (ha'.below (below_drawn w m)))
  rw [ho] at HO
  have HC := Lib.hid (fun m => clo_drawn hclo m)
  obtain ⟨-, -, -, c3, c4, -, -, -⟩ := at8 ha
  obtain ⟨-, -, -, d3, d4, -, -, -⟩ := at8 ha'
  have RL := Lib.hid (show ∀ i, i < 0 → (L i).same (L' i) = false → Ending.returned (.bool false) = .returned (.bool ((V.mk k n s la 0 lc L (some ⟨fb, fo, none⟩) fl fc fn F e key hk).same (V.mk k' n' s' la' 0 lc' L' (some ⟨fb', fo', none⟩) fl fc' fn' F' e' key' hk'))) from fun i hi h => by
    have e := allB_false (p := fun i => (L i).same (L' i)) hi h
    simp [V.same, e])
  have RT0 := Lib.hid (show HeldTo 0 (fun i => (L i).same (L' i)) → HeldTo fl (fun i => decide (fn i = fn' i) && (F i).same (F' i)) → Ending.returned (.bool true) = .returned (.bool ((V.mk k n s la 0 lc L (some ⟨fb, fo, none⟩) fl fc fn F e key hk).same (V.mk k' n' s' la' 0 lc' L' (some ⟨fb', fo', none⟩) fl fc' fn' F' e' key' hk'))) from fun h1 h2 => by simp [V.same, ho, h1.all, h2.all])
  have RF0 := Lib.hid (show HeldTo 0 (fun i => (L i).same (L' i)) → ∀ i, i < fl → (decide (fn i = fn' i) && (F i).same (F' i)) = false → Ending.returned (.bool false) = .returned (.bool ((V.mk k n s la 0 lc L (some ⟨fb, fo, none⟩) fl fc fn F e key hk).same (V.mk k' n' s' la' 0 lc' L' (some ⟨fb', fo', none⟩) fl fc' fn' F' e' key' hk'))) from fun h1 i hi h => by
    have e := allB_false (p := (fun i => decide (fn i = fn' i) && (F i).same (F' i))) hi h
    simp only [V.same, e, Bool.and_false])
  have HL := Lib.hid hL
  have HL' := Lib.hid hL'
  have HF := Lib.hid hF
  have HF' := Lib.hid hF'
  have HIL := Lib.hid ihL
  have HIF := Lib.hid ihF
  clear ha ha' hL hL' hF hF' ihL ihF ho
  unfold Clo at hclo
  unfold maxLen at hl1 hl2 hf1 hf2
  clear HL HL' HIL RL
  go_enter Tryz.func159, Tryz.ntmps159
  go_wp2_with fail
  go_quiet ((go_at_call 160; exact Calls.quiet_of (HO.out _)))
  go_wp2_with fail
  go_loopw [43] (fun i wr => ∃ j : Nat, j ≤ 0 ∧ i = .int .i64 j ∧ HeldTo j (fun i => (L i).same (L' i)) ∧ ∃ m, wr = w.drewN m) (fun i _ => 0 - (intOf i).toNat)
  case atStart => exact ⟨0, Nat.zero_le _, rfl, HeldTo.zero, _, rfl⟩
  case round =>
    obtain ⟨j, hj, rfl, hheld, m, rfl⟩ := hrel
    have HH := Lib.hid hheld
    clear hheld
    obtain rfl : j = 0 := by omega
    have RT := Lib.hid (RT0.out HH.out)
    have RF := Lib.hid (RF0.out HH.out)
    clear HH
    go_wp2_with fail
    go_loopw [67] (fun i wr => ∃ j : Nat, j ≤ fl ∧ i = .int .i64 j ∧ HeldTo j (fun i => decide (fn i = fn' i) && (F i).same (F' i)) ∧ ∃ m, wr = w.drewN m) (fun i _ => fl - (intOf i).toNat)
    case atStart => exact ⟨0, Nat.zero_le _, rfl, HeldTo.zero, _, rfl⟩
    case round =>
      obtain ⟨j, hj, rfl, hheld, m, rfl⟩ := hrel
      have HH := Lib.hid hheld
      clear hheld
      by_cases hlt : j < fl
      · obtain ⟨⟨b1, o1, he, hat⟩, -, hin⟩ := HF.out j hlt
        simp only [Option.some.injEq, Addr.mk.injEq, and_true] at he
        obtain ⟨rfl, rfl⟩ := he
        obtain ⟨⟨b1, o1, he, hat'⟩, -, hin'⟩ := HF'.out j hlt
        simp only [Option.some.injEq, Addr.mk.injEq, and_true] at he
        obtain ⟨rfl, rfl⟩ := he
        have hx := fun W (hw : Below w.heap.size w W) (hc : Clo c W) => HIF.out j (F' j) W _ _ _ _ c (hin.below hw) (hin'.below hw) (hat.tail.below hw) (hat'.tail.below hw) hc
        have HX := Lib.hid hx
        have n0 : w.cell? ⟨fb, fo + j * 9, none⟩ = some (.string (fn j)) := by simpa using hat 0 (by simp)
        have n0' : w.cell? ⟨fb', fo' + j * 9, none⟩ = some (.string (fn' j)) := by simpa using hat' 0 (by simp)
        have R1 := Lib.hid (RF.out j hlt)
        have R2 := Lib.hid (show (decide (fn j = fn' j) && (F j).same (F' j)) = true → HeldTo (j + 1) (fun i => decide (fn i = fn' i) && (F i).same (F' i)) from fun h1 => HH.out.succ h1)
        have hl0 : (0 : Int) ≤ (j : Int) := by omega
        have hli : (j : Int) < (fl : Int) := by omega
        clear hx hat hat' hin hin'
        generalize fn j = nm at n0 R1 R2
        generalize fn' j = nm' at n0' R1 R2
        by_cases hnm : nm = nm'
        · subst hnm
          cases hr : (F j).same (F' j)
          · rw [hr] at HX R1 R2
            clear hr R2
            have R := Lib.hid (R1.out (by simp))
            clear R1
            go_wp2_with fail
            go_quiet ((go_at_call 159; exact quiet_more (HX.out _ (below_drawn _ _) (HC.out _))))
            go_wp2_with fail
            go_ret
            exact ⟨R.out, _, World.drewN_drewN _ _ _⟩
          · rw [hr] at HX R1 R2
            clear hr R1
            have R := Lib.hid (R2.out (by simp))
            clear R2
            go_wp2_with fail
            go_quiet ((go_at_call 159; exact quiet_more (HX.out _ (below_drawn _ _) (HC.out _))))
            go_wp2_with fail
            go_roundw
            case rel => exact ⟨j + 1, by omega, by go_num, R.out, _, rfl⟩
            case measure => simp [intOf]; omega
        · have R := Lib.hid (R1.out (by simp [hnm]))
          have q := bytes_ne hnm
          clear hnm
          go_wp2_with fail
          go_quiet (fail)
          go_wp2_with fail
          go_ret
          exact ⟨R.out, _, World.drewN_drewN _ _ _⟩
      · obtain rfl : j = fl := by omega
        have R := Lib.hid (RT.out HH.out)
        go_wp2_with fail
        go_ret
        exact ⟨R.out, _, rfl⟩

set_option maxHeartbeats 2000000 in
theorem same1_zz (w : World) (b o b' o' c : Nat) (k n : Int) (s : ByteArray) (lc : Nat) (L : Nat → V) (fc : Nat) (fn : Nat → ByteArray) (F : Nat → V) (e : Int) (key : ByteArray) (hk : Bool) (k' n' : Int) (s' : ByteArray) (lc' : Nat) (L' : Nat → V) (fc' : Nat) (fn' : Nat → ByteArray) (F' : Nat → V) (e' : Int) (key' : ByteArray) (hk' : Bool) (la la' : Option Addr) (fa fa' : Option Addr)
    (ihL : ∀ i, SameOk (L i)) (ihF : ∀ i, SameOk (F i)) (h : V.In w (V.mk k n s la 0 lc L fa 0 fc fn F e key hk)) (h' : V.In w (V.mk k' n' s' la' 0 lc' L' fa' 0 fc' fn' F' e' key' hk')) (ha : At w b o (V.mk k n s la 0 lc L fa 0 fc fn F e key hk).cells) (ha' : At w b' o' (V.mk k' n' s' la' 0 lc' L' fa' 0 fc' fn' F' e' key' hk').cells) (hclo : Clo c w) (ho : ownB k n s e key hk k' n' s' e' key' hk' = true) :
    Calls Tryz.prog 159 #[.pointer (some ⟨b, o, none⟩), .pointer (some ⟨b', o', none⟩), .pointer (some ⟨c, 0, none⟩)] w fun x w' => x = .returned (.bool ((V.mk k n s la 0 lc L fa 0 fc fn F e key hk).same (V.mk k' n' s' la' 0 lc' L' fa' 0 fc' fn' F' e' key' hk'))) ∧ ∃ m, w' = w.drewN m := by
  obtain ⟨-, -, -, -, -, hl1, hf1, hL, hF⟩ := h
  obtain ⟨-, -, -, -, -, hl2, hf2, hL', hF'⟩ := h'
  have HO := Lib.hid (fun m => sameOwn_any (w.drewN m) b o b' o' k n s la 0 lc L fa 0 fc fn F e key hk k' n' s' la' 0 lc' L' fa' 0 fc' fn' F' e' key' hk' (ha.below (below_drawn w m)) (ha'.below (below_drawn w m)))
  rw [ho] at HO
  have HC := Lib.hid (fun m => clo_drawn hclo m)
  obtain ⟨-, -, -, c3, c4, -, -, -⟩ := at8 ha
  obtain ⟨-, -, -, d3, d4, -, -, -⟩ := at8 ha'
  have RL := Lib.hid (show ∀ i, i < 0 → (L i).same (L' i) = false → Ending.returned (.bool false) = .returned (.bool ((V.mk k n s la 0 lc L fa 0 fc fn F e key hk).same (V.mk k' n' s' la' 0 lc' L' fa' 0 fc' fn' F' e' key' hk'))) from fun i hi h => by
    have e := allB_false (p := fun i => (L i).same (L' i)) hi h
    simp [V.same, e])
  have RT0 := Lib.hid (show HeldTo 0 (fun i => (L i).same (L' i)) → HeldTo 0 (fun i => decide (fn i = fn' i) && (F i).same (F' i)) → Ending.returned (.bool true) = .returned (.bool ((V.mk k n s la 0 lc L fa 0 fc fn F e key hk).same (V.mk k' n' s' la' 0 lc' L' fa' 0 fc' fn' F' e' key' hk'))) from fun h1 h2 => by simp [V.same, ho, h1.all, h2.all])
  have RF0 := Lib.hid (show HeldTo 0 (fun i => (L i).same (L' i)) → ∀ i, i < 0 → (decide (fn i = fn' i) && (F i).same (F' i)) = false → Ending.returned (.bool false) = .returned (.bool ((V.mk k n s la 0 lc L fa 0 fc fn F e key hk).same (V.mk k' n' s' la' 0 lc' L' fa' 0 fc' fn' F' e' key' hk'))) from fun h1 i hi h => by
    have e := allB_false (p := (fun i => decide (fn i = fn' i) && (F i).same (F' i))) hi h
    simp only [V.same, e, Bool.and_false])
  have HL := Lib.hid hL
  have HL' := Lib.hid hL'
  have HF := Lib.hid hF
  have HF' := Lib.hid hF'
  have HIL := Lib.hid ihL
  have HIF := Lib.hid ihF
  clear ha ha' hL hL' hF hF' ihL ihF ho
  unfold Clo at hclo
  unfold maxLen at hl1 hl2 hf1 hf2
  clear HL HL' HIL RL
  clear HF HF' HIF
  go_enter Tryz.func159, Tryz.ntmps159
  go_wp2_with fail
  go_quiet ((go_at_call 160; exact Calls.quiet_of (HO.out _)))
  go_wp2_with fail
  go_loopw [43] (fun i wr => ∃ j : Nat, j ≤ 0 ∧ i = .int .i64 j ∧ HeldTo j (fun i => (L i).same (L' i)) ∧ ∃ m, wr = w.drewN m) (fun i _ => 0 - (intOf i).toNat)
  case atStart => exact ⟨0, Nat.zero_le _, rfl, HeldTo.zero, _, rfl⟩
  case round =>
    obtain ⟨j, hj, rfl, hheld, m, rfl⟩ := hrel
    have HH := Lib.hid hheld
    clear hheld
    obtain rfl : j = 0 := by omega
    have RT := Lib.hid (RT0.out HH.out)
    have RF := Lib.hid (RF0.out HH.out)
    clear HH
    go_wp2_with fail
    go_loopw [67] (fun i wr => ∃ j : Nat, j ≤ 0 ∧ i = .int .i64 j ∧ HeldTo j (fun i => decide (fn i = fn' i) && (F i).same (F' i)) ∧ ∃ m, wr = w.drewN m) (fun i _ => 0 - (intOf i).toNat)
    case atStart => exact ⟨0, Nat.zero_le _, rfl, HeldTo.zero, _, rfl⟩
    case round =>
      obtain ⟨j, hj, rfl, hheld, m, rfl⟩ := hrel
      have HH := Lib.hid hheld
      clear hheld
      obtain rfl : j = 0 := by omega
      have R := Lib.hid (RT.out HH.out)
      go_wp2_with fail
      go_ret
      exact ⟨R.out, _, rfl⟩

set_option maxHeartbeats 2000000 in
theorem same1_any : ∀ v : V, SameOk v := by
  intro v
  induction v with
  | leaf => exact fun u w b o b' o' c h => h.elim
  | mk k n s la ll lc L fa fl fc fn F e key hk ihL ihF =>
  intro u w b o b' o' c h h' ha ha' hclo
  cases u with
  | leaf => exact h'.elim
  | mk k' n' s' la' ll' lc' L' fa' fl' fc' fn' F' e' key' hk' =>
  cases ho : ownB k n s e key hk k' n' s' e' key' hk' with
  | false =>
    have R := Lib.hid (show Ending.returned (.bool false) = .returned (.bool ((V.mk k n s la ll lc L fa fl fc fn F e key hk).same (V.mk k' n' s' la' ll' lc' L' fa' fl' fc' fn' F' e' key' hk'))) by simp [V.same, ho])
    have HO := Lib.hid (fun m => sameOwn_any (w.drewN m) b o b' o' k n s la ll lc L fa fl fc fn F e key hk k' n' s' la' ll' lc' L' fa' fl' fc' fn' F' e' key' hk' (ha.below (below_drawn w m)) (ha'.below (below_drawn w m)))
    rw [ho] at HO
    obtain ⟨-, -, -, c3, c4, -, -, -⟩ := at8 ha
    obtain ⟨-, -, -, d3, d4, -, -, -⟩ := at8 ha'

    clear ha ha' ho ihL ihF h h' hclo
    go_enter Tryz.func159, Tryz.ntmps159
    go_wp2_with fail
    go_quiet ((go_at_call 160; exact Calls.quiet_of (HO.out _)))
    go_wp2_with fail
    go_ret
    exact ⟨R.out, _, rfl⟩
  | true =>
    by_cases ell : ll = ll'
    · by_cases efl : fl = fl'
      · subst ell efl
        have hL := h.2.2.2.2.2.2.2.1
        have hL' := h'.2.2.2.2.2.2.2.1
        have hF := h.2.2.2.2.2.2.2.2
        have hF' := h'.2.2.2.2.2.2.2.2
        by_cases zl : ll = 0 <;> by_cases zf : fl = 0
        · subst zl zf
          exact same1_zz w b o b' o' c k n s lc L fc fn F e key hk k' n' s' lc' L' fc' fn' F' e' key' hk' la la' fa fa' ihL ihF h h' ha ha' hclo ho
        · subst zl
          obtain ⟨⟨fb, fo, rfl, -⟩, -⟩ := hF 0 (by omega)
          obtain ⟨⟨fb', fo', rfl, -⟩, -⟩ := hF' 0 (by omega)
          exact same1_zn w b o b' o' c k n s lc L fc fn F e key hk k' n' s' lc' L' fc' fn' F' e' key' hk' la la' fl fb fo fb' fo' ihL ihF h h' ha ha' hclo ho
        · subst zf
          obtain ⟨⟨lb, lo, rfl, -⟩, -⟩ := hL 0 (by omega)
          obtain ⟨⟨lb', lo', rfl, -⟩, -⟩ := hL' 0 (by omega)
          exact same1_nz w b o b' o' c k n s lc L fc fn F e key hk k' n' s' lc' L' fc' fn' F' e' key' hk' ll lb lo lb' lo' fa fa' ihL ihF h h' ha ha' hclo ho
        · obtain ⟨⟨fb, fo, rfl, -⟩, -⟩ := hF 0 (by omega)
          obtain ⟨⟨fb', fo', rfl, -⟩, -⟩ := hF' 0 (by omega)
          obtain ⟨⟨lb, lo, rfl, -⟩, -⟩ := hL 0 (by omega)
          obtain ⟨⟨lb', lo', rfl, -⟩, -⟩ := hL' 0 (by omega)
          exact same1_nn w b o b' o' c k n s lc L fc fn F e key hk k' n' s' lc' L' fc' fn' F' e' key' hk' ll lb lo lb' lo' fl fb fo fb' fo' ihL ihF h h' ha ha' hclo ho
      · subst ell
        have R := Lib.hid (show Ending.returned (.bool false) = .returned (.bool ((V.mk k n s la ll lc L fa fl fc fn F e key hk).same (V.mk k' n' s' la' ll lc' L' fa' fl' fc' fn' F' e' key' hk'))) by simp [V.same, efl])
        have HO := Lib.hid (fun m => sameOwn_any (w.drewN m) b o b' o' k n s la ll lc L fa fl fc fn F e key hk k' n' s' la' ll lc' L' fa' fl' fc' fn' F' e' key' hk' (ha.below (below_drawn w m)) (ha'.below (below_drawn w m)))
        rw [ho] at HO
        obtain ⟨-, -, -, c3, c4, -, -, -⟩ := at8 ha
        obtain ⟨-, -, -, d3, d4, -, -, -⟩ := at8 ha'
        have q : ((fl : Int) == (fl' : Int)) = false := by simp; omega
        have q2 : ((fl : Int) != (fl' : Int)) = true := by rw [bne_iff_ne]; omega
        clear ha ha' ho ihL ihF h h' hclo
        go_enter Tryz.func159, Tryz.ntmps159
        go_wp2_with fail
        go_quiet ((go_at_call 160; exact Calls.quiet_of (HO.out _)))
        go_wp2_with fail
        go_ret
        exact ⟨R.out, _, rfl⟩
    · have R := Lib.hid (show Ending.returned (.bool false) = .returned (.bool ((V.mk k n s la ll lc L fa fl fc fn F e key hk).same (V.mk k' n' s' la' ll' lc' L' fa' fl' fc' fn' F' e' key' hk'))) by simp [V.same, ell])
      have HO := Lib.hid (fun m => sameOwn_any (w.drewN m) b o b' o' k n s la ll lc L fa fl fc fn F e key hk k' n' s' la' ll' lc' L' fa' fl' fc' fn' F' e' key' hk' (ha.below (below_drawn w m)) (ha'.below (below_drawn w m)))
      rw [ho] at HO
      obtain ⟨-, -, -, c3, c4, -, -, -⟩ := at8 ha
      obtain ⟨-, -, -, d3, d4, -, -, -⟩ := at8 ha'
      have q : ((ll : Int) == (ll' : Int)) = false := by simp; omega
      have q2 : ((ll : Int) != (ll' : Int)) = true := by rw [bne_iff_ne]; omega
      clear ha ha' ho ihL ihF h h' hclo
      go_enter Tryz.func159, Tryz.ntmps159
      go_wp2_with fail
      go_quiet ((go_at_call 160; exact Calls.quiet_of (HO.out _)))
      go_wp2_with fail
      go_ret
      exact ⟨R.out, _, rfl⟩

end Go.Proofs.YtjbapldlgnlepaaGreatDoor
