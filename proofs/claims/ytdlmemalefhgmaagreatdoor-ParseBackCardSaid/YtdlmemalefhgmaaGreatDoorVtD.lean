/-
  Walks: stage 1's texts of values (value.Text) in a namespace of their own: Same Same1 Same2a SizeX Beyond.
  Conditions: none.
-/
import Derived.Test.YtdlmemalefhgmaaGreatDoorVtA
import Derived.Laws.EntriesVeiled
section
namespace Go.Proofs.YtdlmemalefhgmaaGreatDoor.VT
set_option linter.unusedVariables false
set_option linter.unusedSimpArgs false
open Go.RowKit

set_option maxHeartbeats 1000000 in
theorem sameOwn_any (w : World) (b o b' o' : Nat) (k n : Int) (s : ByteArray) (la : Option Addr) (ll lc : Nat) (L : Nat → V) (fa : Option Addr) (fl fc : Nat) (fn : Nat → ByteArray) (F : Nat → V) (e : Int) (key : ByteArray) (hk : Bool)
    (k' n' : Int) (s' : ByteArray) (la' : Option Addr) (ll' lc' : Nat) (L' : Nat → V) (fa' : Option Addr) (fl' fc' : Nat) (fn' : Nat → ByteArray) (F' : Nat → V) (e' : Int) (key' : ByteArray) (hk' : Bool)
    (h : At w b o (V.mk k n s la ll lc L fa fl fc fn F e key hk).cells) (h' : At w b' o' (V.mk k' n' s' la' ll' lc' L' fa' fl' fc' fn' F' e' key' hk').cells) :
    Calls Tryz.prog 47 #[.pointer (some ⟨b, o, none⟩), .pointer (some ⟨b', o', none⟩)] w fun x w' => x = .returned (.bool (ownB k n s e key hk k' n' s' e' key' hk')) ∧ ∃ m, w' = w.drewN m := by
  obtain ⟨c0, c1, c2, c3, c4, c5, c6, c7⟩ := at8 h
  obtain ⟨d0, d1, d2, d3, d4, d5, d6, d7⟩ := at8 h'
  clear h h' c3 c4 d3 d4
  by_cases e0 : k = k'
  · subst e0
    by_cases e1 : n = n'
    · subst e1
      by_cases e2 : s = s'
      · subst e2
        by_cases e3 : e = e'
        · subst e3
          by_cases e4 : key = key'
          · subst e4
            by_cases e5 : hk = hk'
            · subst e5
              have H := Lib.hid (show Ending.returned (.bool true) = .returned (.bool (ownB k n s e key hk k n s e key hk)) by simp [ownB])
              go_enter Tryz.func47, Tryz.ntmps47
              go_wp2_with fail
              simp only [List.append_eq, List.cons_append, List.nil_append]
              go_quiet (fail)
              go_wp2
              go_ret
              exact ⟨H.out, _, rfl⟩
            · have q5 : (hk == hk') = false := by simp [e5]
              have H := Lib.hid (show Ending.returned (.bool false) = .returned (.bool (ownB k n s e key hk k n s e key hk')) by simp [ownB, e5])
              clear e5
              go_enter Tryz.func47, Tryz.ntmps47
              go_wp2_with fail
              simp only [List.append_eq, List.cons_append, List.nil_append]
              go_quiet (fail)
              go_wp2
              go_ret
              exact ⟨H.out, _, rfl⟩
          · have q4 : (key.toList == key'.toList) = false := bytes_ne e4
            have H := Lib.hid (show Ending.returned (.bool false) = .returned (.bool (ownB k n s e key hk k n s e key' hk')) by simp [ownB, e4])
            clear e4
            go_enter Tryz.func47, Tryz.ntmps47
            go_wp2_with fail
            simp only [List.append_eq, List.cons_append, List.nil_append]
            go_quiet (fail)
            go_wp2
            go_ret
            exact ⟨H.out, _, rfl⟩
        · have q3 : (e == e') = false := by simp [e3]
          have H := Lib.hid (show Ending.returned (.bool false) = .returned (.bool (ownB k n s e key hk k n s e' key' hk')) by simp [ownB, e3])
          clear e3
          go_enter Tryz.func47, Tryz.ntmps47
          go_wp2_with fail
          simp only [List.append_eq, List.cons_append, List.nil_append]
          go_quiet (fail)
          go_wp2
          go_ret
          exact ⟨H.out, _, rfl⟩
      · have q2 : (s.toList == s'.toList) = false := bytes_ne e2
        have H := Lib.hid (show Ending.returned (.bool false) = .returned (.bool (ownB k n s e key hk k n s' e' key' hk')) by simp [ownB, e2])
        clear e2
        go_enter Tryz.func47, Tryz.ntmps47
        go_wp2_with fail
        simp only [List.append_eq, List.cons_append, List.nil_append]
        go_quiet (fail)
        go_wp2
        go_ret
        exact ⟨H.out, _, rfl⟩
    · have q1 : (n == n') = false := by simp [e1]
      have H := Lib.hid (show Ending.returned (.bool false) = .returned (.bool (ownB k n s e key hk k n' s' e' key' hk')) by simp [ownB, e1])
      clear e1
      go_enter Tryz.func47, Tryz.ntmps47
      go_wp2_with fail
      simp only [List.append_eq, List.cons_append, List.nil_append]
      go_quiet (fail)
      go_wp2
      go_ret
      exact ⟨H.out, _, rfl⟩
  · have q0 : (k == k') = false := by simp [e0]
    have H := Lib.hid (show Ending.returned (.bool false) = .returned (.bool (ownB k n s e key hk k' n' s' e' key' hk')) by simp [ownB, e0])
    clear e0
    go_enter Tryz.func47, Tryz.ntmps47
    go_wp2_with fail
    simp only [List.append_eq, List.cons_append, List.nil_append]
    go_quiet (fail)
    go_wp2
    go_ret
    exact ⟨H.out, _, rfl⟩
end Go.Proofs.YtdlmemalefhgmaaGreatDoor.VT
end
section
namespace Go.Proofs.YtdlmemalefhgmaaGreatDoor.VT
set_option linter.unusedVariables false
set_option linter.unusedSimpArgs false
open Go.RowKit

/-- The closure's own variable holds the closure. -/
def Clo (c : Nat) (w : World) : Prop := w.cell? ⟨c, 0, none⟩ = some (.func (Fn.func 46) #[] #[.pointer (some ⟨c, 0, none⟩)])

def SameOk (v : V) : Prop := ∀ (u : V) (w : World) (b o b' o' c : Nat), v.In w → u.In w → At w b o v.cells → At w b' o' u.cells → Clo c w →
  Calls Tryz.prog 46 #[.pointer (some ⟨b, o, none⟩), .pointer (some ⟨b', o', none⟩), .pointer (some ⟨c, 0, none⟩)] w fun x w' => x = .returned (.bool (v.same u)) ∧ ∃ m, w' = w.drewN m

theorem below_drawn (w : World) (m : Nat) : Below w.heap.size w (w.drewN m) := below_drewN (Below.refl _ _) m

theorem clo_drawn {c : Nat} {w : World} (h : Clo c w) (m : Nat) : Clo c (w.drewN m) := h

theorem quiet_more {P : Program} {f : FuncId} {args : Array Value} {w : World} {m a : Nat} {v : Value}
    (h : Calls P f args (w.drewN (m + a)) fun e w' => e = .returned v ∧ ∃ q, w' = (w.drewN (m + a)).drewN q) : Calls P f args (w.drewN (m + a)) fun e w'' => e = .returned v ∧ ∃ n, w'' = w.drewN (m + n) :=
  h.mono fun _ _ ⟨he, q, hq⟩ => ⟨he, a + q, by rw [hq, World.drewN_drewN, Nat.add_assoc]⟩

theorem At.tail {w : World} {b o : Nat} {x : Value} {cs : List Value} (h : At w b o (x :: cs)) : At w b (o + 1) cs := by
  intro i hi
  have := h (i + 1) (by simpa using hi)
  rw [show o + 1 + i = o + (i + 1) by omega, this]
  rfl

set_option maxHeartbeats 2000000 in
theorem same1_nn (w : World) (b o b' o' c : Nat) (k n : Int) (s : ByteArray) (lc : Nat) (L : Nat → V) (fc : Nat) (fn : Nat → ByteArray) (F : Nat → V) (e : Int) (key : ByteArray) (hk : Bool) (k' n' : Int) (s' : ByteArray) (lc' : Nat) (L' : Nat → V) (fc' : Nat) (fn' : Nat → ByteArray) (F' : Nat → V) (e' : Int) (key' : ByteArray) (hk' : Bool) (ll lb lo lb' lo' : Nat) (fl fb fo fb' fo' : Nat)
    (ihL : ∀ i, SameOk (L i)) (ihF : ∀ i, SameOk (F i)) (h : V.In w (V.mk k n s (some ⟨lb, lo, none⟩) ll lc L (some ⟨fb, fo, none⟩) fl fc fn F e key hk)) (h' : V.In w (V.mk k' n' s' (some ⟨lb', lo', none⟩) ll lc' L' (some ⟨fb', fo', none⟩) fl fc' fn' F' e' key' hk')) (ha : At w b o (V.mk k n s (some ⟨lb, lo, none⟩) ll lc L (some ⟨fb, fo, none⟩) fl fc fn F e key hk).cells) (ha' : At w b' o' (V.mk k' n' s' (some ⟨lb', lo', none⟩) ll lc' L' (some ⟨fb', fo', none⟩) fl fc' fn' F' e' key' hk').cells) (hclo : Clo c w) (ho : ownB k n s e key hk k' n' s' e' key' hk' = true) :
    Calls Tryz.prog 46 #[.pointer (some ⟨b, o, none⟩), .pointer (some ⟨b', o', none⟩), .pointer (some ⟨c, 0, none⟩)] w fun x w' => x = .returned (.bool ((V.mk k n s (some ⟨lb, lo, none⟩) ll lc L (some ⟨fb, fo, none⟩) fl fc fn F e key hk).same (V.mk k' n' s' (some ⟨lb', lo', none⟩) ll lc' L' (some ⟨fb', fo', none⟩) fl fc' fn' F' e' key' hk'))) ∧ ∃ m, w' = w.drewN m := by
  obtain ⟨-, -, -, -, -, hl1, hf1, hL, hF⟩ := h
  obtain ⟨-, -, -, -, -, hl2, hf2, hL', hF'⟩ := h'
  have HO := Lib.hid (fun m => sameOwn_any (w.drewN m) b o b' o' k n s (some ⟨lb, lo, none⟩) ll lc L (some ⟨fb, fo, none⟩) fl fc fn F e key hk k' n' s' (some ⟨lb', lo', none⟩) ll lc' L' (some ⟨fb', fo', none⟩) fl fc' fn' F' e' key' hk' (ha.below (below_drawn w m)) (ha'.below (below_drawn w m)))
  rw [ho] at HO
  have HC := Lib.hid (fun m => clo_drawn hclo m)
  obtain ⟨-, -, -, c3, c4, -, -, -⟩ := at8 ha
  obtain ⟨-, -, -, d3, d4, -, -, -⟩ := at8 ha'
  have RL := Lib.hid (show ∀ i, i < ll → (L i).same (L' i) = false → Ending.returned (.bool false) = .returned (.bool ((V.mk k n s (some ⟨lb, lo, none⟩) ll lc L (some ⟨fb, fo, none⟩) fl fc fn F e key hk).same (V.mk k' n' s' (some ⟨lb', lo', none⟩) ll lc' L' (some ⟨fb', fo', none⟩) fl fc' fn' F' e' key' hk'))) from fun i hi h => by
    have e := allB_false (p := fun i => (L i).same (L' i)) hi h
    simp [V.same, e])
  have RT0 := Lib.hid (show HeldTo ll (fun i => (L i).same (L' i)) → HeldTo fl (fun i => decide (fn i = fn' i) && (F i).same (F' i)) → Ending.returned (.bool true) = .returned (.bool ((V.mk k n s (some ⟨lb, lo, none⟩) ll lc L (some ⟨fb, fo, none⟩) fl fc fn F e key hk).same (V.mk k' n' s' (some ⟨lb', lo', none⟩) ll lc' L' (some ⟨fb', fo', none⟩) fl fc' fn' F' e' key' hk'))) from fun h1 h2 => by simp [V.same, ho, h1.all, h2.all])
  have RF0 := Lib.hid (show HeldTo ll (fun i => (L i).same (L' i)) → ∀ i, i < fl → (decide (fn i = fn' i) && (F i).same (F' i)) = false → Ending.returned (.bool false) = .returned (.bool ((V.mk k n s (some ⟨lb, lo, none⟩) ll lc L (some ⟨fb, fo, none⟩) fl fc fn F e key hk).same (V.mk k' n' s' (some ⟨lb', lo', none⟩) ll lc' L' (some ⟨fb', fo', none⟩) fl fc' fn' F' e' key' hk'))) from fun h1 i hi h => by
    have e := allB_false (p := (fun i => decide (fn i = fn' i) && (F i).same (F' i))) hi h
    simp only [V.same, e, Bool.and_false])
  have HL := Lib.hid hL
  have HL' := Lib.hid hL'
  have HF := Lib.hid hF
  have HF' := Lib.hid hF'
  have HIL := Lib.hid ihL
  have HIF := Lib.hid ihF
  clear ha ha' hL hL' hF hF' ihL ihF ho
  unfold Clo at hclo
  unfold maxLen at hl1 hl2 hf1 hf2
  go_enter Tryz.func46, Tryz.ntmps46
  go_wp2_with fail
  go_quiet ((go_at_call 47; exact Calls.quiet_of (HO.out _)))
  go_wp2_with fail
  go_loopw [43] (fun i wr => ∃ j : Nat, j ≤ ll ∧ i = .int .i64 j ∧ HeldTo j (fun i => (L i).same (L' i)) ∧ ∃ m, wr = w.drewN m) (fun i _ => ll - (intOf i).toNat)
  case atStart => exact ⟨0, Nat.zero_le _, rfl, HeldTo.zero, _, rfl⟩
  case round =>
    obtain ⟨j, hj, rfl, hheld, m, rfl⟩ := hrel
    have HH := Lib.hid hheld
    clear hheld
    by_cases hlt : j < ll
    · obtain ⟨⟨b1, o1, he, hat⟩, hin⟩ := HL.out j hlt
      simp only [Option.some.injEq, Addr.mk.injEq, and_true] at he
      obtain ⟨rfl, rfl⟩ := he
      obtain ⟨⟨b1, o1, he, hat'⟩, hin'⟩ := HL'.out j hlt
      simp only [Option.some.injEq, Addr.mk.injEq, and_true] at he
      obtain ⟨rfl, rfl⟩ := he
      have hx := fun W (hw : Below w.heap.size w W) (hc : Clo c W) => HIL.out j (L' j) W _ _ _ _ c (hin.below hw) (hin'.below hw) (hat.below hw) (hat'.below hw) hc
      have HX := Lib.hid hx
      have R1 := Lib.hid (RL.out j hlt)
      have R2 := Lib.hid (show (L j).same (L' j) = true → HeldTo (j + 1) (fun i => (L i).same (L' i)) from fun h1 => HH.out.succ h1)
      have hl0 : (0 : Int) ≤ (j : Int) := by omega
      have hli : (j : Int) < (ll : Int) := by omega
      clear hx hat hat' hin hin'
      cases hr : (L j).same (L' j)
      · rw [hr] at HX R1 R2
        clear hr R2
        have R := Lib.hid (R1.out rfl)
        clear R1
        go_wp2_with fail
        go_quiet ((go_at_call 46; exact quiet_more (HX.out _ (below_drawn _ _) (HC.out _))))
        go_wp2_with fail
        go_ret
        exact ⟨R.out, _, World.drewN_drewN _ _ _⟩
      · rw [hr] at HX R1 R2
        clear hr R1
        have R := Lib.hid (R2.out rfl)
        clear R2
        go_wp2_with fail
        go_quiet ((go_at_call 46; exact quiet_more (HX.out _ (below_drawn _ _) (HC.out _))))
        go_wp2_with fail
        go_roundw
        case rel => exact ⟨j + 1, by omega, by go_num, R.out, _, rfl⟩
        case measure => simp [intOf]; omega
    · obtain rfl : j = ll := by omega
      have RT := Lib.hid (RT0.out HH.out)
      have RF := Lib.hid (RF0.out HH.out)
      clear HH
      go_wp2_with fail
      go_loopw [67] (fun i wr => ∃ j : Nat, j ≤ fl ∧ i = .int .i64 j ∧ HeldTo j (fun i => decide (fn i = fn' i) && (F i).same (F' i)) ∧ ∃ m, wr = w.drewN m) (fun i _ => fl - (intOf i).toNat)
      case atStart => exact ⟨0, Nat.zero_le _, rfl, HeldTo.zero, _, rfl⟩
      case round =>
        obtain ⟨j, hj, rfl, hheld, m, rfl⟩ := hrel
        have HH := Lib.hid hheld
        clear hheld
        by_cases hlt : j < fl
        · obtain ⟨⟨b1, o1, he, hat⟩, -, hin⟩ := HF.out j hlt
          simp only [Option.some.injEq, Addr.mk.injEq, and_true] at he
          obtain ⟨rfl, rfl⟩ := he
          obtain ⟨⟨b1, o1, he, hat'⟩, -, hin'⟩ := HF'.out j hlt
          simp only [Option.some.injEq, Addr.mk.injEq, and_true] at he
          obtain ⟨rfl, rfl⟩ := he
          have hx := fun W (hw : Below w.heap.size w W) (hc : Clo c W) => HIF.out j (F' j) W _ _ _ _ c (hin.below hw) (hin'.below hw) (hat.tail.below hw) (hat'.tail.below hw) hc
          have HX := Lib.hid hx
          have n0 : w.cell? ⟨fb, fo + j * 9, none⟩ = some (.string (fn j)) := by simpa using hat 0 (by simp)
          have n0' : w.cell? ⟨fb', fo' + j * 9, none⟩ = some (.string (fn' j)) := by simpa using hat' 0 (by simp)
          have R1 := Lib.hid (RF.out j hlt)
          have R2 := Lib.hid (show (decide (fn j = fn' j) && (F j).same (F' j)) = true → HeldTo (j + 1) (fun i => decide (fn i = fn' i) && (F i).same (F' i)) from fun h1 => HH.out.succ h1)
          have hl0 : (0 : Int) ≤ (j : Int) := by omega
          have hli : (j : Int) < (fl : Int) := by omega
          clear hx hat hat' hin hin'
          generalize fn j = nm at n0 R1 R2
          generalize fn' j = nm' at n0' R1 R2
          by_cases hnm : nm = nm'
          · subst hnm
            cases hr : (F j).same (F' j)
            · rw [hr] at HX R1 R2
              clear hr R2
              have R := Lib.hid (R1.out (by simp))
              clear R1
              go_wp2_with fail
              go_quiet ((go_at_call 46; exact quiet_more (HX.out _ (below_drawn _ _) (HC.out _))))
              go_wp2_with fail
              go_ret
              exact ⟨R.out, _, World.drewN_drewN _ _ _⟩
            · rw [hr] at HX R1 R2
              clear hr R1
              have R := Lib.hid (R2.out (by simp))
              clear R2
              go_wp2_with fail
              go_quiet ((go_at_call 46; exact quiet_more (HX.out _ (below_drawn _ _) (HC.out _))))
              go_wp2_with fail
              go_roundw
              case rel => exact ⟨j + 1, by omega, by go_num, R.out, _, rfl⟩
              case measure => simp [intOf]; omega
          · have R := Lib.hid (R1.out (by simp [hnm]))
            have q := bytes_ne hnm
            clear hnm
            go_wp2_with fail
            go_quiet (fail)
            go_wp2_with fail
            go_ret
            exact ⟨R.out, _, World.drewN_drewN _ _ _⟩
        · obtain rfl : j = fl := by omega
          have R := Lib.hid (RT.out HH.out)
          go_wp2_with fail
          go_ret
          exact ⟨R.out, _, rfl⟩

set_option maxHeartbeats 2000000 in
theorem same1_nz (w : World) (b o b' o' c : Nat) (k n : Int) (s : ByteArray) (lc : Nat) (L : Nat → V) (fc : Nat) (fn : Nat → ByteArray) (F : Nat → V) (e : Int) (key : ByteArray) (hk : Bool) (k' n' : Int) (s' : ByteArray) (lc' : Nat) (L' : Nat → V) (fc' : Nat) (fn' : Nat → ByteArray) (F' : Nat → V) (e' : Int) (key' : ByteArray) (hk' : Bool) (ll lb lo lb' lo' : Nat) (fa fa' : Option Addr)
    (ihL : ∀ i, SameOk (L i)) (ihF : ∀ i, SameOk (F i)) (h : V.In w (V.mk k n s (some ⟨lb, lo, none⟩) ll lc L fa 0 fc fn F e key hk)) (h' : V.In w (V.mk k' n' s' (some ⟨lb', lo', none⟩) ll lc' L' fa' 0 fc' fn' F' e' key' hk')) (ha : At w b o (V.mk k n s (some ⟨lb, lo, none⟩) ll lc L fa 0 fc fn F e key hk).cells) (ha' : At w b' o' (V.mk k' n' s' (some ⟨lb', lo', none⟩) ll lc' L' fa' 0 fc' fn' F' e' key' hk').cells) (hclo : Clo c w) (ho : ownB k n s e key hk k' n' s' e' key' hk' = true) :
    Calls Tryz.prog 46 #[.pointer (some ⟨b, o, none⟩), .pointer (some ⟨b', o', none⟩), .pointer (some ⟨c, 0, none⟩)] w fun x w' => x = .returned (.bool ((V.mk k n s (some ⟨lb, lo, none⟩) ll lc L fa 0 fc fn F e key hk).same (V.mk k' n' s' (some ⟨lb', lo', none⟩) ll lc' L' fa' 0 fc' fn' F' e' key' hk'))) ∧ ∃ m, w' = w.drewN m := by
  obtain ⟨-, -, -, -, -, hl1, hf1, hL, hF⟩ := h
  obtain ⟨-, -, -, -, -, hl2, hf2, hL', hF'⟩ := h'
  have HO := Lib.hid (fun m => sameOwn_any (w.drewN m) b o b' o' k n s (some ⟨lb, lo, none⟩) ll lc L fa 0 fc fn F e key hk k' n' s' (some ⟨lb', lo', none⟩) ll lc' L' fa' 0 fc' fn' F' e' key' hk' (ha.below (below_drawn w m)) (ha'.below (below_drawn w m)))
  rw [ho] at HO
  have HC := Lib.hid (fun m => clo_drawn hclo m)
  obtain ⟨-, -, -, c3, c4, -, -, -⟩ := at8 ha
  obtain ⟨-, -, -, d3, d4, -, -, -⟩ := at8 ha'
  have RL := Lib.hid (show ∀ i, i < ll → (L i).same (L' i) = false → Ending.returned (.bool false) = .returned (.bool ((V.mk k n s (some ⟨lb, lo, none⟩) ll lc L fa 0 fc fn F e key hk).same (V.mk k' n' s' (some ⟨lb', lo', none⟩) ll lc' L' fa' 0 fc' fn' F' e' key' hk'))) from fun i hi h => by
    have e := allB_false (p := fun i => (L i).same (L' i)) hi h
    simp [V.same, e])
  have RT0 := Lib.hid (show HeldTo ll (fun i => (L i).same (L' i)) → HeldTo 0 (fun i => decide (fn i = fn' i) && (F i).same (F' i)) → Ending.returned (.bool true) = .returned (.bool ((V.mk k n s (some ⟨lb, lo, none⟩) ll lc L fa 0 fc fn F e key hk).same (V.mk k' n' s' (some ⟨lb', lo', none⟩) ll lc' L' fa' 0 fc' fn' F' e' key' hk'))) from fun h1 h2 => by simp [V.same, ho, h1.all, h2.all])
  have RF0 := Lib.hid (show HeldTo ll (fun i => (L i).same (L' i)) → ∀ i, i < 0 → (decide (fn i = fn' i) && (F i).same (F' i)) = false → Ending.returned (.bool false) = .returned (.bool ((V.mk k n s (some ⟨lb, lo, none⟩) ll lc L fa 0 fc fn F e key hk).same (V.mk k' n' s' (some ⟨lb', lo', none⟩) ll lc' L' fa' 0 fc' fn' F' e' key' hk'))) from fun h1 i hi h => by
    have e := allB_false (p := (fun i => decide (fn i = fn' i) && (F i).same (F' i))) hi h
    simp only [V.same, e, Bool.and_false])
  have HL := Lib.hid hL
  have HL' := Lib.hid hL'
  have HF := Lib.hid hF
  have HF' := Lib.hid hF'
  have HIL := Lib.hid ihL
  have HIF := Lib.hid ihF
  clear ha ha' hL hL' hF hF' ihL ihF ho
  unfold Clo at hclo
  unfold maxLen at hl1 hl2 hf1 hf2
  clear HF HF' HIF
  go_enter Tryz.func46, Tryz.ntmps46
  go_wp2_with fail
  go_quiet ((go_at_call 47; exact Calls.quiet_of (HO.out _)))
  go_wp2_with fail
  go_loopw [43] (fun i wr => ∃ j : Nat, j ≤ ll ∧ i = .int .i64 j ∧ HeldTo j (fun i => (L i).same (L' i)) ∧ ∃ m, wr = w.drewN m) (fun i _ => ll - (intOf i).toNat)
  case atStart => exact ⟨0, Nat.zero_le _, rfl, HeldTo.zero, _, rfl⟩
  case round =>
    obtain ⟨j, hj, rfl, hheld, m, rfl⟩ := hrel
    have HH := Lib.hid hheld
    clear hheld
    by_cases hlt : j < ll
    · obtain ⟨⟨b1, o1, he, hat⟩, hin⟩ := HL.out j hlt
      simp only [Option.some.injEq, Addr.mk.injEq, and_true] at he
      obtain ⟨rfl, rfl⟩ := he
      obtain ⟨⟨b1, o1, he, hat'⟩, hin'⟩ := HL'.out j hlt
      simp only [Option.some.injEq, Addr.mk.injEq, and_true] at he
      obtain ⟨rfl, rfl⟩ := he
      have hx := fun W (hw : Below w.heap.size w W) (hc : Clo c W) => HIL.out j (L' j) W _ _ _ _ c (hin.below hw) (hin'.below hw) (hat.below hw) (hat'.below hw) hc
      have HX := Lib.hid hx
      have R1 := Lib.hid (RL.out j hlt)
      have R2 := Lib.hid (show (L j).same (L' j) = true → HeldTo (j + 1) (fun i => (L i).same (L' i)) from fun h1 => HH.out.succ h1)
      have hl0 : (0 : Int) ≤ (j : Int) := by omega
      have hli : (j : Int) < (ll : Int) := by omega
      clear hx hat hat' hin hin'
      cases hr : (L j).same (L' j)
      · rw [hr] at HX R1 R2
        clear hr R2
        have R := Lib.hid (R1.out rfl)
        clear R1
        go_wp2_with fail
        go_quiet ((go_at_call 46; exact quiet_more (HX.out _ (below_drawn _ _) (HC.out _))))
        go_wp2_with fail
        go_ret
        exact ⟨R.out, _, World.drewN_drewN _ _ _⟩
      · rw [hr] at HX R1 R2
        clear hr R1
        have R := Lib.hid (R2.out rfl)
        clear R2
        go_wp2_with fail
        go_quiet ((go_at_call 46; exact quiet_more (HX.out _ (below_drawn _ _) (HC.out _))))
        go_wp2_with fail
        go_roundw
        case rel => exact ⟨j + 1, by omega, by go_num, R.out, _, rfl⟩
        case measure => simp [intOf]; omega
    · obtain rfl : j = ll := by omega
      have RT := Lib.hid (RT0.out HH.out)
      have RF := Lib.hid (RF0.out HH.out)
      clear HH
      go_wp2_with fail
      go_loopw [67] (fun i wr => ∃ j : Nat, j ≤ 0 ∧ i = .int .i64 j ∧ HeldTo j (fun i => decide (fn i = fn' i) && (F i).same (F' i)) ∧ ∃ m, wr = w.drewN m) (fun i _ => 0 - (intOf i).toNat)
      case atStart => exact ⟨0, Nat.zero_le _, rfl, HeldTo.zero, _, rfl⟩
      case round =>
        obtain ⟨j, hj, rfl, hheld, m, rfl⟩ := hrel
        have HH := Lib.hid hheld
        clear hheld
        obtain rfl : j = 0 := by omega
        have R := Lib.hid (RT.out HH.out)
        go_wp2_with fail
        go_ret
        exact ⟨R.out, _, rfl⟩

set_option maxHeartbeats 2000000 in
theorem same1_zn (w : World) (b o b' o' c : Nat) (k n : Int) (s : ByteArray) (lc : Nat) (L : Nat → V) (fc : Nat) (fn : Nat → ByteArray) (F : Nat → V) (e : Int) (key : ByteArray) (hk : Bool) (k' n' : Int) (s' : ByteArray) (lc' : Nat) (L' : Nat → V) (fc' : Nat) (fn' : Nat → ByteArray) (F' : Nat → V) (e' : Int) (key' : ByteArray) (hk' : Bool) (la la' : Option Addr) (fl fb fo fb' fo' : Nat)
    (ihL : ∀ i, SameOk (L i)) (ihF : ∀ i, SameOk (F i)) (h : V.In w (V.mk k n s la 0 lc L (some ⟨fb, fo, none⟩) fl fc fn F e key hk)) (h' : V.In w (V.mk k' n' s' la' 0 lc' L' (some ⟨fb', fo', none⟩) fl fc' fn' F' e' key' hk')) (ha : At w b o (V.mk k n s la 0 lc L (some ⟨fb, fo, none⟩) fl fc fn F e key hk).cells) (ha' : At w b' o' (V.mk k' n' s' la' 0 lc' L' (some ⟨fb', fo', none⟩) fl fc' fn' F' e' key' hk').cells) (hclo : Clo c w) (ho : ownB k n s e key hk k' n' s' e' key' hk' = true) :
    Calls Tryz.prog 46 #[.pointer (some ⟨b, o, none⟩), .pointer (some ⟨b', o', none⟩), .pointer (some ⟨c, 0, none⟩)] w fun x w' => x = .returned (.bool ((V.mk k n s la 0 lc L (some ⟨fb, fo, none⟩) fl fc fn F e key hk).same (V.mk k' n' s' la' 0 lc' L' (some ⟨fb', fo', none⟩) fl fc' fn' F' e' key' hk'))) ∧ ∃ m, w' = w.drewN m := by
  obtain ⟨-, -, -, -, -, hl1, hf1, hL, hF⟩ := h
  obtain ⟨-, -, -, -, -, hl2, hf2, hL', hF'⟩ := h'
  have HO := Lib.hid (fun m => sameOwn_any (w.drewN m) b o b' o' k n s la 0 lc L (some ⟨fb, fo, none⟩) fl fc fn F e key hk k' n' s' la' 0 lc' L' (some ⟨fb', fo', none⟩) fl fc' fn' F' e' key' hk' (ha.below (below_drawn w m)) (ha'.below (below_drawn w m)))
  rw [ho] at HO
  have HC := Lib.hid (fun m => clo_drawn hclo m)
  obtain ⟨-, -, -, c3, c4, -, -, -⟩ := at8 ha
  obtain ⟨-, -, -, d3, d4, -, -, -⟩ := at8 ha'
  have RL := Lib.hid (show ∀ i, i < 0 → (L i).same (L' i) = false → Ending.returned (.bool false) = .returned (.bool ((V.mk k n s la 0 lc L (some ⟨fb, fo, none⟩) fl fc fn F e key hk).same (V.mk k' n' s' la' 0 lc' L' (some ⟨fb', fo', none⟩) fl fc' fn' F' e' key' hk'))) from fun i hi h => by
    have e := allB_false (p := fun i => (L i).same (L' i)) hi h
    simp [V.same, e])
  have RT0 := Lib.hid (show HeldTo 0 (fun i => (L i).same (L' i)) → HeldTo fl (fun i => decide (fn i = fn' i) && (F i).same (F' i)) → Ending.returned (.bool true) = .returned (.bool ((V.mk k n s la 0 lc L (some ⟨fb, fo, none⟩) fl fc fn F e key hk).same (V.mk k' n' s' la' 0 lc' L' (some ⟨fb', fo', none⟩) fl fc' fn' F' e' key' hk'))) from fun h1 h2 => by simp [V.same, ho, h1.all, h2.all])
  have RF0 := Lib.hid (show HeldTo 0 (fun i => (L i).same (L' i)) → ∀ i, i < fl → (decide (fn i = fn' i) && (F i).same (F' i)) = false → Ending.returned (.bool false) = .returned (.bool ((V.mk k n s la 0 lc L (some ⟨fb, fo, none⟩) fl fc fn F e key hk).same (V.mk k' n' s' la' 0 lc' L' (some ⟨fb', fo', none⟩) fl fc' fn' F' e' key' hk'))) from fun h1 i hi h => by
    have e := allB_false (p := (fun i => decide (fn i = fn' i) && (F i).same (F' i))) hi h
    simp only [V.same, e, Bool.and_false])
  have HL := Lib.hid hL
  have HL' := Lib.hid hL'
  have HF := Lib.hid hF
  have HF' := Lib.hid hF'
  have HIL := Lib.hid ihL
  have HIF := Lib.hid ihF
  clear ha ha' hL hL' hF hF' ihL ihF ho
  unfold Clo at hclo
  unfold maxLen at hl1 hl2 hf1 hf2
  clear HL HL' HIL RL
  go_enter Tryz.func46, Tryz.ntmps46
  go_wp2_with fail
  go_quiet ((go_at_call 47; exact Calls.quiet_of (HO.out _)))
  go_wp2_with fail
  go_loopw [43] (fun i wr => ∃ j : Nat, j ≤ 0 ∧ i = .int .i64 j ∧ HeldTo j (fun i => (L i).same (L' i)) ∧ ∃ m, wr = w.drewN m) (fun i _ => 0 - (intOf i).toNat)
  case atStart => exact ⟨0, Nat.zero_le _, rfl, HeldTo.zero, _, rfl⟩
  case round =>
    obtain ⟨j, hj, rfl, hheld, m, rfl⟩ := hrel
    have HH := Lib.hid hheld
    clear hheld
    obtain rfl : j = 0 := by omega
    have RT := Lib.hid (RT0.out HH.out)
    have RF := Lib.hid (RF0.out HH.out)
    clear HH
    go_wp2_with fail
    go_loopw [67] (fun i wr => ∃ j : Nat, j ≤ fl ∧ i = .int .i64 j ∧ HeldTo j (fun i => decide (fn i = fn' i) && (F i).same (F' i)) ∧ ∃ m, wr = w.drewN m) (fun i _ => fl - (intOf i).toNat)
    case atStart => exact ⟨0, Nat.zero_le _, rfl, HeldTo.zero, _, rfl⟩
    case round =>
      obtain ⟨j, hj, rfl, hheld, m, rfl⟩ := hrel
      have HH := Lib.hid hheld
      clear hheld
      by_cases hlt : j < fl
      · obtain ⟨⟨b1, o1, he, hat⟩, -, hin⟩ := HF.out j hlt
        simp only [Option.some.injEq, Addr.mk.injEq, and_true] at he
        obtain ⟨rfl, rfl⟩ := he
        obtain ⟨⟨b1, o1, he, hat'⟩, -, hin'⟩ := HF'.out j hlt
        simp only [Option.some.injEq, Addr.mk.injEq, and_true] at he
        obtain ⟨rfl, rfl⟩ := he
        have hx := fun W (hw : Below w.heap.size w W) (hc : Clo c W) => HIF.out j (F' j) W _ _ _ _ c (hin.below hw) (hin'.below hw) (hat.tail.below hw) (hat'.tail.below hw) hc
        have HX := Lib.hid hx
        have n0 : w.cell? ⟨fb, fo + j * 9, none⟩ = some (.string (fn j)) := by simpa using hat 0 (by simp)
        have n0' : w.cell? ⟨fb', fo' + j * 9, none⟩ = some (.string (fn' j)) := by simpa using hat' 0 (by simp)
        have R1 := Lib.hid (RF.out j hlt)
        have R2 := Lib.hid (show (decide (fn j = fn' j) && (F j).same (F' j)) = true → HeldTo (j + 1) (fun i => decide (fn i = fn' i) && (F i).same (F' i)) from fun h1 => HH.out.succ h1)
        have hl0 : (0 : Int) ≤ (j : Int) := by omega
        have hli : (j : Int) < (fl : Int) := by omega
        clear hx hat hat' hin hin'
        generalize fn j = nm at n0 R1 R2
        generalize fn' j = nm' at n0' R1 R2
        by_cases hnm : nm = nm'
        · subst hnm
          cases hr : (F j).same (F' j)
          · rw [hr] at HX R1 R2
            clear hr R2
            have R := Lib.hid (R1.out (by simp))
            clear R1
            go_wp2_with fail
            go_quiet ((go_at_call 46; exact quiet_more (HX.out _ (below_drawn _ _) (HC.out _))))
            go_wp2_with fail
            go_ret
            exact ⟨R.out, _, World.drewN_drewN _ _ _⟩
          · rw [hr] at HX R1 R2
            clear hr R1
            have R := Lib.hid (R2.out (by simp))
            clear R2
            go_wp2_with fail
            go_quiet ((go_at_call 46; exact quiet_more (HX.out _ (below_drawn _ _) (HC.out _))))
            go_wp2_with fail
            go_roundw
            case rel => exact ⟨j + 1, by omega, by go_num, R.out, _, rfl⟩
            case measure => simp [intOf]; omega
        · have R := Lib.hid (R1.out (by simp [hnm]))
          have q := bytes_ne hnm
          clear hnm
          go_wp2_with fail
          go_quiet (fail)
          go_wp2_with fail
          go_ret
          exact ⟨R.out, _, World.drewN_drewN _ _ _⟩
      · obtain rfl : j = fl := by omega
        have R := Lib.hid (RT.out HH.out)
        go_wp2_with fail
        go_ret
        exact ⟨R.out, _, rfl⟩

set_option maxHeartbeats 2000000 in
theorem same1_zz (w : World) (b o b' o' c : Nat) (k n : Int) (s : ByteArray) (lc : Nat) (L : Nat → V) (fc : Nat) (fn : Nat → ByteArray) (F : Nat → V) (e : Int) (key : ByteArray) (hk : Bool) (k' n' : Int) (s' : ByteArray) (lc' : Nat) (L' : Nat → V) (fc' : Nat) (fn' : Nat → ByteArray) (F' : Nat → V) (e' : Int) (key' : ByteArray) (hk' : Bool) (la la' : Option Addr) (fa fa' : Option Addr)
    (ihL : ∀ i, SameOk (L i)) (ihF : ∀ i, SameOk (F i)) (h : V.In w (V.mk k n s la 0 lc L fa 0 fc fn F e key hk)) (h' : V.In w (V.mk k' n' s' la' 0 lc' L' fa' 0 fc' fn' F' e' key' hk')) (ha : At w b o (V.mk k n s la 0 lc L fa 0 fc fn F e key hk).cells) (ha' : At w b' o' (V.mk k' n' s' la' 0 lc' L' fa' 0 fc' fn' F' e' key' hk').cells) (hclo : Clo c w) (ho : ownB k n s e key hk k' n' s' e' key' hk' = true) :
    Calls Tryz.prog 46 #[.pointer (some ⟨b, o, none⟩), .pointer (some ⟨b', o', none⟩), .pointer (some ⟨c, 0, none⟩)] w fun x w' => x = .returned (.bool ((V.mk k n s la 0 lc L fa 0 fc fn F e key hk).same (V.mk k' n' s' la' 0 lc' L' fa' 0 fc' fn' F' e' key' hk'))) ∧ ∃ m, w' = w.drewN m := by
  obtain ⟨-, -, -, -, -, hl1, hf1, hL, hF⟩ := h
  obtain ⟨-, -, -, -, -, hl2, hf2, hL', hF'⟩ := h'
  have HO := Lib.hid (fun m => sameOwn_any (w.drewN m) b o b' o' k n s la 0 lc L fa 0 fc fn F e key hk k' n' s' la' 0 lc' L' fa' 0 fc' fn' F' e' key' hk' (ha.below (below_drawn w m)) (ha'.below (below_drawn w m)))
  rw [ho] at HO
  have HC := Lib.hid (fun m => clo_drawn hclo m)
  obtain ⟨-, -, -, c3, c4, -, -, -⟩ := at8 ha
  obtain ⟨-, -, -, d3, d4, -, -, -⟩ := at8 ha'
  have RL := Lib.hid (show ∀ i, i < 0 → (L i).same (L' i) = false → Ending.returned (.bool false) = .returned (.bool ((V.mk k n s la 0 lc L fa 0 fc fn F e key hk).same (V.mk k' n' s' la' 0 lc' L' fa' 0 fc' fn' F' e' key' hk'))) from fun i hi h => by
    have e := allB_false (p := fun i => (L i).same (L' i)) hi h
    simp [V.same, e])
  have RT0 := Lib.hid (show HeldTo 0 (fun i => (L i).same (L' i)) → HeldTo 0 (fun i => decide (fn i = fn' i) && (F i).same (F' i)) → Ending.returned (.bool true) = .returned (.bool ((V.mk k n s la 0 lc L fa 0 fc fn F e key hk).same (V.mk k' n' s' la' 0 lc' L' fa' 0 fc' fn' F' e' key' hk'))) from fun h1 h2 => by simp [V.same, ho, h1.all, h2.all])
  have RF0 := Lib.hid (show HeldTo 0 (fun i => (L i).same (L' i)) → ∀ i, i < 0 → (decide (fn i = fn' i) && (F i).same (F' i)) = false → Ending.returned (.bool false) = .returned (.bool ((V.mk k n s la 0 lc L fa 0 fc fn F e key hk).same (V.mk k' n' s' la' 0 lc' L' fa' 0 fc' fn' F' e' key' hk'))) from fun h1 i hi h => by
    have e := allB_false (p := (fun i => decide (fn i = fn' i) && (F i).same (F' i))) hi h
    simp only [V.same, e, Bool.and_false])
  have HL := Lib.hid hL
  have HL' := Lib.hid hL'
  have HF := Lib.hid hF
  have HF' := Lib.hid hF'
  have HIL := Lib.hid ihL
  have HIF := Lib.hid ihF
  clear ha ha' hL hL' hF hF' ihL ihF ho
  unfold Clo at hclo
  unfold maxLen at hl1 hl2 hf1 hf2
  clear HL HL' HIL RL
  clear HF HF' HIF
  go_enter Tryz.func46, Tryz.ntmps46
  go_wp2_with fail
  go_quiet ((go_at_call 47; exact Calls.quiet_of (HO.out _)))
  go_wp2_with fail
  go_loopw [43] (fun i wr => ∃ j : Nat, j ≤ 0 ∧ i = .int .i64 j ∧ HeldTo j (fun i => (L i).same (L' i)) ∧ ∃ m, wr = w.drewN m) (fun i _ => 0 - (intOf i).toNat)
  case atStart => exact ⟨0, Nat.zero_le _, rfl, HeldTo.zero, _, rfl⟩
  case round =>
    obtain ⟨j, hj, rfl, hheld, m, rfl⟩ := hrel
    have HH := Lib.hid hheld
    clear hheld
    obtain rfl : j = 0 := by omega
    have RT := Lib.hid (RT0.out HH.out)
    have RF := Lib.hid (RF0.out HH.out)
    clear HH
    go_wp2_with fail
    go_loopw [67] (fun i wr => ∃ j : Nat, j ≤ 0 ∧ i = .int .i64 j ∧ HeldTo j (fun i => decide (fn i = fn' i) && (F i).same (F' i)) ∧ ∃ m, wr = w.drewN m) (fun i _ => 0 - (intOf i).toNat)
    case atStart => exact ⟨0, Nat.zero_le _, rfl, HeldTo.zero, _, rfl⟩
    case round =>
      obtain ⟨j, hj, rfl, hheld, m, rfl⟩ := hrel
      have HH := Lib.hid hheld
      clear hheld
      obtain rfl : j = 0 := by omega
      have R := Lib.hid (RT.out HH.out)
      go_wp2_with fail
      go_ret
      exact ⟨R.out, _, rfl⟩

set_option maxHeartbeats 2000000 in
theorem same1_any : ∀ v : V, SameOk v := by
  intro v
  induction v with
  | leaf => exact fun u w b o b' o' c h => h.elim
  | mk k n s la ll lc L fa fl fc fn F e key hk ihL ihF =>
  intro u w b o b' o' c h h' ha ha' hclo
  cases u with
  | leaf => exact h'.elim
  | mk k' n' s' la' ll' lc' L' fa' fl' fc' fn' F' e' key' hk' =>
  cases ho : ownB k n s e key hk k' n' s' e' key' hk' with
  | false =>
    have R := Lib.hid (show Ending.returned (.bool false) = .returned (.bool ((V.mk k n s la ll lc L fa fl fc fn F e key hk).same (V.mk k' n' s' la' ll' lc' L' fa' fl' fc' fn' F' e' key' hk'))) by simp [V.same, ho])
    have HO := Lib.hid (fun m => sameOwn_any (w.drewN m) b o b' o' k n s la ll lc L fa fl fc fn F e key hk k' n' s' la' ll' lc' L' fa' fl' fc' fn' F' e' key' hk' (ha.below (below_drawn w m)) (ha'.below (below_drawn w m)))
    rw [ho] at HO
    obtain ⟨-, -, -, c3, c4, -, -, -⟩ := at8 ha
    obtain ⟨-, -, -, d3, d4, -, -, -⟩ := at8 ha'

    clear ha ha' ho ihL ihF h h' hclo
    go_enter Tryz.func46, Tryz.ntmps46
    go_wp2_with fail
    go_quiet ((go_at_call 47; exact Calls.quiet_of (HO.out _)))
    go_wp2_with fail
    go_ret
    exact ⟨R.out, _, rfl⟩
  | true =>
    by_cases ell : ll = ll'
    · by_cases efl : fl = fl'
      · subst ell efl
        have hL := h.2.2.2.2.2.2.2.1
        have hL' := h'.2.2.2.2.2.2.2.1
        have hF := h.2.2.2.2.2.2.2.2
        have hF' := h'.2.2.2.2.2.2.2.2
        by_cases zl : ll = 0 <;> by_cases zf : fl = 0
        · subst zl zf
          exact same1_zz w b o b' o' c k n s lc L fc fn F e key hk k' n' s' lc' L' fc' fn' F' e' key' hk' la la' fa fa' ihL ihF h h' ha ha' hclo ho
        · subst zl
          obtain ⟨⟨fb, fo, rfl, -⟩, -⟩ := hF 0 (by omega)
          obtain ⟨⟨fb', fo', rfl, -⟩, -⟩ := hF' 0 (by omega)
          exact same1_zn w b o b' o' c k n s lc L fc fn F e key hk k' n' s' lc' L' fc' fn' F' e' key' hk' la la' fl fb fo fb' fo' ihL ihF h h' ha ha' hclo ho
        · subst zf
          obtain ⟨⟨lb, lo, rfl, -⟩, -⟩ := hL 0 (by omega)
          obtain ⟨⟨lb', lo', rfl, -⟩, -⟩ := hL' 0 (by omega)
          exact same1_nz w b o b' o' c k n s lc L fc fn F e key hk k' n' s' lc' L' fc' fn' F' e' key' hk' ll lb lo lb' lo' fa fa' ihL ihF h h' ha ha' hclo ho
        · obtain ⟨⟨fb, fo, rfl, -⟩, -⟩ := hF 0 (by omega)
          obtain ⟨⟨fb', fo', rfl, -⟩, -⟩ := hF' 0 (by omega)
          obtain ⟨⟨lb, lo, rfl, -⟩, -⟩ := hL 0 (by omega)
          obtain ⟨⟨lb', lo', rfl, -⟩, -⟩ := hL' 0 (by omega)
          exact same1_nn w b o b' o' c k n s lc L fc fn F e key hk k' n' s' lc' L' fc' fn' F' e' key' hk' ll lb lo lb' lo' fl fb fo fb' fo' ihL ihF h h' ha ha' hclo ho
      · subst ell
        have R := Lib.hid (show Ending.returned (.bool false) = .returned (.bool ((V.mk k n s la ll lc L fa fl fc fn F e key hk).same (V.mk k' n' s' la' ll lc' L' fa' fl' fc' fn' F' e' key' hk'))) by simp [V.same, efl])
        have HO := Lib.hid (fun m => sameOwn_any (w.drewN m) b o b' o' k n s la ll lc L fa fl fc fn F e key hk k' n' s' la' ll lc' L' fa' fl' fc' fn' F' e' key' hk' (ha.below (below_drawn w m)) (ha'.below (below_drawn w m)))
        rw [ho] at HO
        obtain ⟨-, -, -, c3, c4, -, -, -⟩ := at8 ha
        obtain ⟨-, -, -, d3, d4, -, -, -⟩ := at8 ha'
        have q : ((fl : Int) == (fl' : Int)) = false := by simp; omega
        have q2 : ((fl : Int) != (fl' : Int)) = true := by rw [bne_iff_ne]; omega
        clear ha ha' ho ihL ihF h h' hclo
        go_enter Tryz.func46, Tryz.ntmps46
        go_wp2_with fail
        go_quiet ((go_at_call 47; exact Calls.quiet_of (HO.out _)))
        go_wp2_with fail
        go_ret
        exact ⟨R.out, _, rfl⟩
    · have R := Lib.hid (show Ending.returned (.bool false) = .returned (.bool ((V.mk k n s la ll lc L fa fl fc fn F e key hk).same (V.mk k' n' s' la' ll' lc' L' fa' fl' fc' fn' F' e' key' hk'))) by simp [V.same, ell])
      have HO := Lib.hid (fun m => sameOwn_any (w.drewN m) b o b' o' k n s la ll lc L fa fl fc fn F e key hk k' n' s' la' ll' lc' L' fa' fl' fc' fn' F' e' key' hk' (ha.below (below_drawn w m)) (ha'.below (below_drawn w m)))
      rw [ho] at HO
      obtain ⟨-, -, -, c3, c4, -, -, -⟩ := at8 ha
      obtain ⟨-, -, -, d3, d4, -, -, -⟩ := at8 ha'
      have q : ((ll : Int) == (ll' : Int)) = false := by simp; omega
      have q2 : ((ll : Int) != (ll' : Int)) = true := by rw [bne_iff_ne]; omega
      clear ha ha' ho ihL ihF h h' hclo
      go_enter Tryz.func46, Tryz.ntmps46
      go_wp2_with fail
      go_quiet ((go_at_call 47; exact Calls.quiet_of (HO.out _)))
      go_wp2_with fail
      go_ret
      exact ⟨R.out, _, rfl⟩

end Go.Proofs.YtdlmemalefhgmaaGreatDoor.VT
end
section
namespace Go.Proofs.YtdlmemalefhgmaaGreatDoor.VT
set_option linter.unusedVariables false
set_option linter.unusedSimpArgs false
open Go.RowKit

/-- The cells of a new block. -/
theorem at_new {w w' : World} {B : Nat} {cs : List Value} {T : TypeId} (hB : B = w.heap.size) (hb : Below (B + 1) (w.alloc (.cells cs.toArray T)) w') : At w' B 0 cs := by
  subst hB
  intro i hi
  rw [hb.cell (p := ⟨w.heap.size, 0 + i, none⟩) (by simp)]
  simp [hi]

set_option maxHeartbeats 1000000 in
theorem same_any (v u : V) (w : World) (h : v.In w) (h' : u.In w) :
    Calls Tryz.prog 20 #[v.agg, u.agg] w fun x w' => x = .returned (.bool (v.same u)) ∧ Below w.heap.size w w' := by
  have H := Lib.hid (fun W (hw : Below w.heap.size w W) b o b' o' c => same1_any v u W b o b' o' c (h.below hw) (h'.below hw))
  cases v with
  | leaf => exact h.elim
  | mk k n s la ll lc L fa fl fc fn F e key hk =>
  cases u with
  | leaf => exact h'.elim
  | mk k' n' s' la' ll' lc' L' fa' fl' fc' fn' F' e' key' hk' =>
  clear h h'
  have hmf : ∀ (fn : Fn) (first cap : Array Value) (w : World), (Instr.makeFunc fn first cap).run Tryz.prog w = .ok (.func fn first cap) w := fun _ _ _ _ => rfl
  simp only [V.agg, V.cells]
  go_enter Tryz.func20, Tryz.ntmps20
  go_wp2_with fail
  refine (H.out _ ?_ _ _ _ _ _ ?_ ?_ ?_).mono ?_
  · exact (((Below.refl _ _).alloc (Nat.le_refl _) _).alloc (by simp) _).alloc (by simp; omega) _
  · exact at_new rfl (((Below.refl _ _).alloc (by simp) _).alloc (by simp) _)
  · exact at_new (by simp) ((Below.refl _ _).alloc (by simp) _)
  · exact at_new (cs := [_]) (by simp) (Below.refl _ _) 0 (by simp)
  · rintro x w1 ⟨rfl, m, rfl⟩
    go_wp2_with fail
    go_ret
    exact ⟨ret_b rfl, below_drewN ((((Below.refl _ _).alloc (Nat.le_refl _) _).alloc (by simp) _).alloc (by simp; omega) _) _⟩
end Go.Proofs.YtdlmemalefhgmaaGreatDoor.VT
end
section
namespace Go.Proofs.YtdlmemalefhgmaaGreatDoor.VT
set_option linter.unusedVariables false
set_option linter.unusedSimpArgs false
open Go.RowKit

/-- A count, with more to it, unless it is beyond what is counted. -/
def addS (n m : Int) : Int := if n ≤ 1048576 then wrap64 (n + m) else n

/-- A field's count. -/
def fsz (nm : ByteArray) (m : Int) : Int := addS (wrap64 (1 + nm.size)) m

/-- What ValueSize counts. -/
def V.vsz : V → Int
  | .leaf => 0
  | .mk _ _ s _ ll _ L _ fl _ fn F _ key _ => addS (addS (wrap64 (wrap64 (1 + s.size) + key.size)) (foldTo ll (fun i a => addS a ((L i).vsz)) ll)) (foldTo fl (fun i a => addS a (fsz (fn i) ((F i).vsz))) fl)

theorem addS_range {n m : Int} (h : -9223372036854775808 ≤ n ∧ n ≤ 9223372036854775807) : -9223372036854775808 ≤ addS n m ∧ addS n m ≤ 9223372036854775807 := by
  unfold addS
  split
  · exact wrap64_range _
  · exact h
theorem foldS_range {n : Nat} {g : Nat → Int} {x : Int} (h : -9223372036854775808 ≤ x ∧ x ≤ 9223372036854775807) : ∀ j, -9223372036854775808 ≤ foldTo j (fun i a => addS a (g i)) x ∧ foldTo j (fun i a => addS a (g i)) x ≤ 9223372036854775807
  | 0 => h
  | j + 1 => addS_range (foldS_range (n := n) h j)
theorem foldS_stop {g : Nat → Int} {x : Int} {j : Nat} (h : ¬ foldTo j (fun i a => addS a (g i)) x ≤ 1048576) : ∀ n, j ≤ n → foldTo n (fun i a => addS a (g i)) x = foldTo j (fun i a => addS a (g i)) x := by
  intro n
  induction n with
  | zero => intro hj; obtain rfl : j = 0 := by omega
            rfl
  | succ n ih =>
    intro hj
    rcases Nat.lt_or_ge n j with h1 | h1
    · obtain rfl : j = n + 1 := by omega
      rfl
    · have e := ih h1
      show addS (foldTo n _ x) (g n) = _
      rw [e, addS, if_neg h]
theorem addS_add {n m : Int} (h : n ≤ 1048576) : addS n m = wrap64 (n + m) := if_pos h
theorem addS_not {n m : Int} (h : ¬ n ≤ 1048576) : addS n m = n := if_neg h
theorem vsz_range : ∀ v : V, -9223372036854775808 ≤ v.vsz ∧ v.vsz ≤ 9223372036854775807 := by
  intro v
  cases v with
  | leaf => exact ⟨by decide, by decide⟩
  | mk => exact addS_range (addS_range (wrap64_range _))
theorem fsz_range (nm : ByteArray) (m : Int) : -9223372036854775808 ≤ fsz nm m ∧ fsz nm m ≤ 9223372036854775807 := addS_range (wrap64_range _)

theorem list8 {l : List Value} (h : l.length = 8) : ∃ e0 e1 e2 e3 e4 e5 e6 e7, l = [e0, e1, e2, e3, e4, e5, e6, e7] := by
  match l, h with
  | [e0, e1, e2, e3, e4, e5, e6, e7], _ => exact ⟨_, _, _, _, _, _, _, _, rfl⟩

theorem list9 {l : List Value} (h : l.length = 9) : ∃ e0 e1 e2 e3 e4 e5 e6 e7 e8, l = [e0, e1, e2, e3, e4, e5, e6, e7, e8] := by
  match l, h with
  | [e0, e1, e2, e3, e4, e5, e6, e7, e8], _ => exact ⟨_, _, _, _, _, _, _, _, _, rfl⟩

/-- What a size function's contract says of one value. -/
def SizeIs (v : V) : Prop := ∀ w : World, v.In w → Calls Tryz.prog 16 #[v.agg] w fun e w' => e = .returned (.int .i64 v.vsz) ∧ Below w.heap.size w w'
theorem int_is {a b : Int} (h : a = b) : Value.int .i64 a = .int .i64 b := by rw [h]
theorem ret_is {a b : Int} (h : a = b) : Ending.returned (.int .i64 a) = .returned (.int .i64 b) := by rw [h]

set_option maxHeartbeats 400000 in
theorem fieldSize_is (nm : ByteArray) (v : V) (hv : SizeIs v) (w : World) (_hn : nm.size ≤ maxLen) (h : v.In w) :
    Calls Tryz.prog 60 #[.agg (Value.string nm :: v.cells).toArray] w fun e w' => e = .returned (.int .i64 (fsz nm v.vsz)) ∧ Below w.heap.size w w' := by
  have H := Lib.hid (fun O => hv (w.alloc O) (h.below (below_alloc w O)))
  have hr := vsz_range v
  clear hv
  cases v with
  | leaf => exact h.elim
  | mk k n s la ll lc L fa fl fc fn F e key hk =>
  clear h
  revert H hr
  generalize (V.mk k n s la ll lc L fa fl fc fn F e key hk).vsz = q
  intro H hr
  unfold maxLen at _hn
  have HR := Lib.hid (show fsz nm q = addS (wrap64 (1 + nm.size)) q from rfl)
  simp only [V.agg, V.cells] at H ⊢
  by_cases h1 : wrap64 (1 + (nm.size : Int)) ≤ 1048576
  · have HA := Lib.hid (addS_add (m := q) h1)
    go_enter Tryz.func60, Tryz.ntmps60
    go_wp2_with fail
    refine (H.out _).mono ?_
    rintro e w1 ⟨rfl, hb⟩
    have HB := Lib.hid ((below_alloc w _).trans (hb.mono (by simp)))
    clear hb
    go_wp2_with fail
    go_ret
    exact ⟨ret_is (by rw [HR.out, HA.out]), HB.out⟩
  · have HA := Lib.hid (addS_not (m := q) h1)
    go_enter Tryz.func60, Tryz.ntmps60
    go_wp2_with fail
    go_ret
    exact ⟨ret_is (by rw [HR.out, HA.out]), below_alloc _ _⟩

set_option maxHeartbeats 400000 in
theorem valuesSize_is (la : Option Addr) (ll lc : Nat) (L : Nat → V) (g : Nat → Int) (w : World) (hlc : ll ≤ lc ∧ lc ≤ maxLen) (hg : ∀ i, -9223372036854775808 ≤ g i ∧ g i ≤ 9223372036854775807)
    (h : ∀ i, i < ll → (∃ b o, la = some ⟨b, o, none⟩ ∧ At w b (o + i * 8) (L i).cells) ∧ ∀ W, Below w.heap.size w W → Calls Tryz.prog 16 #[.agg ((L i).cells).toArray] W fun e W' => e = .returned (.int .i64 (g i)) ∧ Below W.heap.size W W') (h8 : ∀ i, i < ll → ((L i).cells).length = 8) :
    Calls Tryz.prog 38 #[.slice la ll lc] w fun e w' => e = .returned (.int .i64 (foldTo ll (fun i a => addS a (g i)) ll)) ∧ Below w.heap.size w w' := by
  unfold maxLen at hlc
  obtain ⟨f, hf⟩ : ∃ f : Nat → Int, f = fun j => foldTo j (fun i a => addS a (g i)) (ll : Int) := ⟨_, rfl⟩
  have HR := Lib.hid (show foldTo ll (fun i a => addS a (g i)) ll = f ll by rw [hf])
  have HF : Hid (∀ j, -9223372036854775808 ≤ f j ∧ f j ≤ 9223372036854775807) := by rw [hf]; exact foldS_range (n := 0) (by omega)
  have HS : Hid (∀ j, f (j + 1) = addS (f j) (g j)) := by rw [hf]; exact fun _ => rfl
  have HE : Hid (∀ j, j ≤ ll → 1048576 < f j → f ll = f j) := by rw [hf]; exact fun j hj h => foldS_stop (Int.not_le.2 h) _ hj
  have H0 := Lib.hid (show f 0 = (ll : Int) by rw [hf]; rfl)
  clear hf
  rw [HR.out]
  clear HR
  by_cases hz : ll = 0
  · subst hz
    clear h hg h8
    go_enter Tryz.func38, Tryz.ntmps38
    go_wp2_with fail
    go_loopw [3, 4] (fun n i wr => i = .int .i64 0 ∧ n = .int .i64 0 ∧ w = wr) (fun _ _ _ => 0)
    case atStart => exact ⟨rfl, rfl, rfl⟩
    case round =>
      obtain ⟨rfl, rfl, rfl⟩ := hrel
      go_wp2_with fail
      go_ret
      exact ⟨ret_is (by rw [H0.out]; rfl), Below.refl _ _⟩
  · obtain ⟨⟨b, o, rfl, -⟩, -⟩ := h 0 (by omega)
    have H := Lib.hid h
    have HG := Lib.hid hg
    have H8 := Lib.hid h8
    clear h hg h8
    go_enter Tryz.func38, Tryz.ntmps38
    go_wp2_with fail
    go_loopw [3, 4] (fun n i wr => ∃ k : Nat, k ≤ ll ∧ i = .int .i64 k ∧ n = .int .i64 (f k) ∧ Below w.heap.size w wr) (fun _ i _ => ll - (intOf i).toNat)
    case atStart => exact ⟨0, Nat.zero_le _, rfl, int_is H0.out.symm, Below.refl _ _⟩
    case round =>
      obtain ⟨k, hk, rfl, rfl, hb⟩ := hrel
      have hm := HF.out k
      by_cases hlt : k < ll
      · by_cases h1 : f k ≤ 1048576
        · obtain ⟨⟨b', o', he, hat⟩, hx⟩ := H.out k hlt
          simp only [Option.some.injEq, Addr.mk.injEq, and_true] at he
          obtain ⟨rfl, rfl⟩ := he
          have hat := hat.below hb
          have hm2 := HG.out k
          have HX := Lib.hid (hx wr hb)
          have HB := Lib.hid hb
          have HA := Lib.hid ((HS.out k).trans (addS_add h1))
          have hl8 := H8.out k hlt
          clear hb hx
          generalize f k = m at HA hm h1 ⊢
          generalize g k = y at HA hm2 HX
          generalize (L k).cells = cs at hat HX hl8
          obtain ⟨e0, e1, e2, e3, e4, e5, e6, e7, rfl⟩ : ∃ e0 e1 e2 e3 e4 e5 e6 e7, cs = [e0, e1, e2, e3, e4, e5, e6, e7] := list8 hl8
          have c0 : wr.cell? ⟨b, o + k * 8, none⟩ = some e0 := hat 0 (by simp)
          have c1 : wr.cell? ⟨b, o + k * 8 + 1, none⟩ = some e1 := hat 1 (by simp)
          have c2 : wr.cell? ⟨b, o + k * 8 + 2, none⟩ = some e2 := hat 2 (by simp)
          have c3 : wr.cell? ⟨b, o + k * 8 + 3, none⟩ = some e3 := hat 3 (by simp)
          have c4 : wr.cell? ⟨b, o + k * 8 + 4, none⟩ = some e4 := hat 4 (by simp)
          have c5 : wr.cell? ⟨b, o + k * 8 + 5, none⟩ = some e5 := hat 5 (by simp)
          have c6 : wr.cell? ⟨b, o + k * 8 + 6, none⟩ = some e6 := hat 6 (by simp)
          have c7 : wr.cell? ⟨b, o + k * 8 + 7, none⟩ = some e7 := hat 7 (by simp)
          clear hat hl8
          go_wp2_with fail
          refine HX.out.mono ?_
          rintro e w1 ⟨rfl, hb1⟩
          have HB1 := Lib.hid (HB.out.trans (hb1.mono HB.out.size))
          clear hb1 c0 c1 c2 c3 c4 c5 c6 c7
          go_wp2_with fail
          go_roundw
          case rel => exact ⟨k + 1, by omega, by go_num, int_is HA.out.symm, HB1.out⟩
          case measure => simp [intOf]; omega
        · have HB := Lib.hid hb
          have HA := Lib.hid (HE.out k hk (by omega))
          clear hb
          generalize f k = m at HA hm h1 ⊢
          go_wp2_with fail
          go_ret
          exact ⟨ret_is HA.out.symm, HB.out⟩
      · obtain rfl : ll = k := by omega
        have HB := Lib.hid hb
        clear hb
        generalize hfm : f ll = m at hm ⊢
        have HFM := Lib.hid hfm
        clear hfm
        go_wp2_with fail
        go_ret
        exact ⟨ret_is HFM.out.symm, HB.out⟩

set_option maxHeartbeats 400000 in
theorem fieldsSize_is (fa : Option Addr) (fl fc : Nat) (fn : Nat → ByteArray) (F : Nat → V) (g : Nat → Int) (w : World) (hlc : fl ≤ fc ∧ fc ≤ maxLen) (hg : ∀ i, -9223372036854775808 ≤ g i ∧ g i ≤ 9223372036854775807)
    (h : ∀ i, i < fl → (∃ b o, fa = some ⟨b, o, none⟩ ∧ At w b (o + i * 9) (Value.string (fn i) :: (F i).cells)) ∧ ∀ W, Below w.heap.size w W → Calls Tryz.prog 60 #[.agg (Value.string (fn i) :: (F i).cells).toArray] W fun e W' => e = .returned (.int .i64 (g i)) ∧ Below W.heap.size W W') (h8 : ∀ i, i < fl → (Value.string (fn i) :: (F i).cells).length = 9) :
    Calls Tryz.prog 39 #[.slice fa fl fc] w fun e w' => e = .returned (.int .i64 (foldTo fl (fun i a => addS a (g i)) fl)) ∧ Below w.heap.size w w' := by
  unfold maxLen at hlc
  obtain ⟨f, hf⟩ : ∃ f : Nat → Int, f = fun j => foldTo j (fun i a => addS a (g i)) (fl : Int) := ⟨_, rfl⟩
  have HR := Lib.hid (show foldTo fl (fun i a => addS a (g i)) fl = f fl by rw [hf])
  have HF : Hid (∀ j, -9223372036854775808 ≤ f j ∧ f j ≤ 9223372036854775807) := by rw [hf]; exact foldS_range (n := 0) (by omega)
  have HS : Hid (∀ j, f (j + 1) = addS (f j) (g j)) := by rw [hf]; exact fun _ => rfl
  have HE : Hid (∀ j, j ≤ fl → 1048576 < f j → f fl = f j) := by rw [hf]; exact fun j hj h => foldS_stop (Int.not_le.2 h) _ hj
  have H0 := Lib.hid (show f 0 = (fl : Int) by rw [hf]; rfl)
  clear hf
  rw [HR.out]
  clear HR
  by_cases hz : fl = 0
  · subst hz
    clear h hg h8
    go_enter Tryz.func39, Tryz.ntmps39
    go_wp2_with fail
    go_loopw [3, 4] (fun n i wr => i = .int .i64 0 ∧ n = .int .i64 0 ∧ w = wr) (fun _ _ _ => 0)
    case atStart => exact ⟨rfl, rfl, rfl⟩
    case round =>
      obtain ⟨rfl, rfl, rfl⟩ := hrel
      go_wp2_with fail
      go_ret
      exact ⟨ret_is (by rw [H0.out]; rfl), Below.refl _ _⟩
  · obtain ⟨⟨b, o, rfl, -⟩, -⟩ := h 0 (by omega)
    have H := Lib.hid h
    have HG := Lib.hid hg
    have H8 := Lib.hid h8
    clear h hg h8
    go_enter Tryz.func39, Tryz.ntmps39
    go_wp2_with fail
    go_loopw [3, 4] (fun n i wr => ∃ k : Nat, k ≤ fl ∧ i = .int .i64 k ∧ n = .int .i64 (f k) ∧ Below w.heap.size w wr) (fun _ i _ => fl - (intOf i).toNat)
    case atStart => exact ⟨0, Nat.zero_le _, rfl, int_is H0.out.symm, Below.refl _ _⟩
    case round =>
      obtain ⟨k, hk, rfl, rfl, hb⟩ := hrel
      have hm := HF.out k
      by_cases hlt : k < fl
      · by_cases h1 : f k ≤ 1048576
        · obtain ⟨⟨b', o', he, hat⟩, hx⟩ := H.out k hlt
          simp only [Option.some.injEq, Addr.mk.injEq, and_true] at he
          obtain ⟨rfl, rfl⟩ := he
          have hat := hat.below hb
          have hm2 := HG.out k
          have HX := Lib.hid (hx wr hb)
          have HB := Lib.hid hb
          have HA := Lib.hid ((HS.out k).trans (addS_add h1))
          have hl8 := H8.out k hlt
          clear hb hx
          generalize f k = m at HA hm h1 ⊢
          generalize g k = y at HA hm2 HX
          generalize (Value.string (fn k) :: (F k).cells) = cs at hat HX hl8
          obtain ⟨e0, e1, e2, e3, e4, e5, e6, e7, e8, rfl⟩ : ∃ e0 e1 e2 e3 e4 e5 e6 e7 e8, cs = [e0, e1, e2, e3, e4, e5, e6, e7, e8] := list9 hl8
          have c0 : wr.cell? ⟨b, o + k * 9, none⟩ = some e0 := hat 0 (by simp)
          have c1 : wr.cell? ⟨b, o + k * 9 + 1, none⟩ = some e1 := hat 1 (by simp)
          have c2 : wr.cell? ⟨b, o + k * 9 + 2, none⟩ = some e2 := hat 2 (by simp)
          have c3 : wr.cell? ⟨b, o + k * 9 + 3, none⟩ = some e3 := hat 3 (by simp)
          have c4 : wr.cell? ⟨b, o + k * 9 + 4, none⟩ = some e4 := hat 4 (by simp)
          have c5 : wr.cell? ⟨b, o + k * 9 + 5, none⟩ = some e5 := hat 5 (by simp)
          have c6 : wr.cell? ⟨b, o + k * 9 + 6, none⟩ = some e6 := hat 6 (by simp)
          have c7 : wr.cell? ⟨b, o + k * 9 + 7, none⟩ = some e7 := hat 7 (by simp)
          have c8 : wr.cell? ⟨b, o + k * 9 + 8, none⟩ = some e8 := hat 8 (by simp)
          clear hat hl8
          go_wp2_with fail
          refine HX.out.mono ?_
          rintro e w1 ⟨rfl, hb1⟩
          have HB1 := Lib.hid (HB.out.trans (hb1.mono HB.out.size))
          clear hb1 c0 c1 c2 c3 c4 c5 c6 c7 c8
          go_wp2_with fail
          go_roundw
          case rel => exact ⟨k + 1, by omega, by go_num, int_is HA.out.symm, HB1.out⟩
          case measure => simp [intOf]; omega
        · have HB := Lib.hid hb
          have HA := Lib.hid (HE.out k hk (by omega))
          clear hb
          generalize f k = m at HA hm h1 ⊢
          go_wp2_with fail
          go_ret
          exact ⟨ret_is HA.out.symm, HB.out⟩
      · obtain rfl : fl = k := by omega
        have HB := Lib.hid hb
        clear hb
        generalize hfm : f fl = m at hm ⊢
        have HFM := Lib.hid hfm
        clear hfm
        go_wp2_with fail
        go_ret
        exact ⟨ret_is HFM.out.symm, HB.out⟩

theorem cells8 {w : World} {v : V} (h : v.In w) : v.cells.length = 8 := by
  cases v with
  | leaf => exact h.elim
  | mk => rfl

set_option maxHeartbeats 400000 in
theorem valueSize_is : ∀ v : V, SizeIs v := by
  intro v
  induction v with
  | leaf => exact fun w h => h.elim
  | mk k n s la ll lc L fa fl fc fn F e key hk ihL ihF =>
  intro w h
  obtain ⟨hk1, hn1, hs1, he1, hkey1, hl1, hf1, hL, hF⟩ := h
  have HL := Lib.hid (fun W (hb : Below w.heap.size w W) => valuesSize_is la ll lc L (fun i => (L i).vsz) W hl1 (fun i => vsz_range _) (fun i hi => ⟨let ⟨b, o, e1, ha⟩ := (hL i hi).1; ⟨b, o, e1, ha.below hb⟩, fun W2 hb2 => ihL i W2 (((hL i hi).2.below hb).below hb2)⟩) (fun i hi => cells8 (hL i hi).2))
  have HF := Lib.hid (fun W (hb : Below w.heap.size w W) => fieldsSize_is fa fl fc fn F (fun i => fsz (fn i) (F i).vsz) W hf1 (fun i => fsz_range _ _) (fun i hi => ⟨let ⟨b, o, e1, ha⟩ := (hF i hi).1; ⟨b, o, e1, ha.below hb⟩, fun W2 hb2 => fieldSize_is _ _ (ihF i) W2 (hF i hi).2.1 (((hF i hi).2.2.below hb).below hb2)⟩) (fun i hi => by rw [List.length_cons, cells8 (hF i hi).2.2]))
  unfold maxLen at hs1 hkey1
  have HR := Lib.hid (show (V.mk k n s la ll lc L fa fl fc fn F e key hk).vsz = addS (addS (wrap64 (wrap64 (1 + s.size) + key.size)) (foldTo ll (fun i a => addS a ((L i).vsz)) ll)) (foldTo fl (fun i a => addS a (fsz (fn i) ((F i).vsz))) fl) from rfl)
  have r1 := foldS_range (n := 0) (g := fun i => (L i).vsz) (x := (ll : Int)) (by have := hl1.1; have := hl1.2; unfold maxLen at this; omega) ll
  have r2 := foldS_range (n := 0) (g := fun i => fsz (fn i) (F i).vsz) (x := (fl : Int)) (by have := hf1.1; have := hf1.2; unfold maxLen at this; omega) fl
  rw [HR.out]
  clear HR hL hF ihL ihF hl1 hf1
  revert HL HF r1 r2
  generalize foldTo ll (fun i a => addS a ((L i).vsz)) ll = x1
  generalize foldTo fl (fun i a => addS a (fsz (fn i) ((F i).vsz))) fl = x2
  intro HL HF r1 r2
  simp only [V.agg, V.cells]
  by_cases h1 : wrap64 (wrap64 (1 + (s.size : Int)) + (key.size : Int)) ≤ 1048576
  · have HA := Lib.hid (addS_add (m := x1) h1)
    by_cases h2 : wrap64 (wrap64 (wrap64 (1 + (s.size : Int)) + (key.size : Int)) + x1) ≤ 1048576
    · have HC := Lib.hid (addS_add (m := x2) h2)
      go_enter Tryz.func16, Tryz.ntmps16
      go_wp2_with fail
      refine (HL.out _ (below_alloc _ _)).mono ?_
      rintro e w1 ⟨rfl, hb1⟩
      obtain ⟨hc, hf⟩ := bcell hb1
      have HB1 := Lib.hid ((below_alloc _ _).trans (hb1.mono (by simp)))
      clear hb1
      go_wp2_with fail
      refine (HF.out _ HB1.out).mono ?_
      rintro e w2 ⟨rfl, hb2⟩
      have HB2 := Lib.hid (HB1.out.trans (hb2.mono HB1.out.size))
      clear hb2 hc hf
      go_wp2_with fail
      go_ret
      exact ⟨ret_is (by rw [HA.out, HC.out]), HB2.out⟩
    · have HC := Lib.hid (addS_not (m := x2) h2)
      go_enter Tryz.func16, Tryz.ntmps16
      go_wp2_with fail
      refine (HL.out _ (below_alloc _ _)).mono ?_
      rintro e w1 ⟨rfl, hb1⟩
      have HB1 := Lib.hid ((below_alloc _ _).trans (hb1.mono (by simp)))
      clear hb1
      go_wp2_with fail
      go_ret
      exact ⟨ret_is (by rw [HA.out, HC.out]), HB1.out⟩
  · have HA := Lib.hid (addS_not (m := x1) h1)
    have HC := Lib.hid (addS_not (m := x2) h1)
    go_enter Tryz.func16, Tryz.ntmps16
    go_wp2_with fail
    go_ret
    exact ⟨ret_is (by rw [HA.out, HC.out]), below_alloc _ _⟩
end Go.Proofs.YtdlmemalefhgmaaGreatDoor.VT
end
section
namespace Go.Proofs.YtdlmemalefhgmaaGreatDoor.VT
set_option linter.unusedVariables false
set_option linter.unusedSimpArgs false
open Go.RowKit

/-- The first j numbers, added up as Go does. -/
def sumW (j : Nat) (g : Nat → Int) : Int := foldTo j (fun i a => wrap64 (a + g i)) 0

/-- Are they beyond? -/
def beyB (n : Nat) (g : Nat → Int) : Bool := decide (∃ j, j < n ∧ 1048576 < sumW (j + 1) g)

theorem beyB_true {n k : Nat} {g : Nat → Int} (hk : k < n) (h : 1048576 < sumW (k + 1) g) : beyB n g = true := decide_eq_true ⟨k, hk, h⟩
theorem beyB_false {n : Nat} {g : Nat → Int} (h : ∀ j, j < n → ¬ 1048576 < sumW (j + 1) g) : beyB n g = false := decide_eq_false (fun ⟨j, hj, h1⟩ => h j hj h1)

/-- n ints stand one behind the other. -/
def IntsIs (w : World) (b o n : Nat) (g : Nat → Int) : Prop := ∀ j, j < n → w.cell? ⟨b, o + j, none⟩ = some (.int .i64 (g j))

def KeepB (k : Nat) (f : Nat → Int) : Prop := ∀ j, j < k → ¬ 1048576 < f (j + 1)

set_option maxHeartbeats 400000 in
theorem beyond_is (w : World) (b o n c : Nat) (g : Nat → Int) (hn : n ≤ 1000) (h : IntsIs w b o n g) (hg : ∀ i, -9223372036854775808 ≤ g i ∧ g i ≤ 9223372036854775807) :
    Calls Tryz.prog 15 #[.slice (some ⟨b, o, none⟩) n c] w fun e w' => e = .returned (.bool (beyB n g)) ∧ w = w' := by
  obtain ⟨f, hf⟩ : ∃ f : Nat → Int, f = fun j => sumW j g := ⟨_, rfl⟩
  have HT : Hid (∀ k, k < n → 1048576 < f (k + 1) → beyB n g = true) := by rw [hf]; exact fun k => beyB_true
  have HFa : Hid (KeepB n f → beyB n g = false) := by rw [hf]; exact fun h => beyB_false h
  have HF : Hid (∀ j, -9223372036854775808 ≤ f j ∧ f j ≤ 9223372036854775807) := by
    rw [hf]
    intro j
    cases j with
    | zero => exact ⟨(by decide : (-9223372036854775808 : Int) ≤ 0), (by decide : (0 : Int) ≤ 9223372036854775807)⟩
    | succ j => exact wrap64_range _
  have HS : Hid (∀ j, f (j + 1) = wrap64 (f j + g j)) := by rw [hf]; exact fun _ => rfl
  have H0 := Lib.hid (show f 0 = 0 by rw [hf]; rfl)
  clear hf
  have H := Lib.hid h
  have HG := Lib.hid hg
  clear h hg
  generalize beyB n g = q at HT HFa ⊢
  go_enter Tryz.func15, Tryz.ntmps15
  go_wp2_with fail
  go_loopw [3, 4] (fun m i wr => ∃ k : Nat, k ≤ n ∧ i = .int .i64 k ∧ m = .int .i64 (f k) ∧ KeepB k f ∧ w = wr) (fun _ i _ => n - (intOf i).toNat)
  case atStart => exact ⟨0, Nat.zero_le _, rfl, int_is H0.out.symm, fun j hj => absurd hj (Nat.not_lt_zero _), rfl⟩
  case round =>
    obtain ⟨k, hk, rfl, rfl, hkb, rfl⟩ := hrel
    have HK := Lib.hid hkb
    clear hkb
    have hm := HF.out k
    by_cases hlt : k < n
    · have hy := H.out k hlt
      have hm2 := HG.out k
      have HA := Lib.hid (HS.out k)
      by_cases h1 : 1048576 < wrap64 (f k + g k)
      · have HQ := Lib.hid (HT.out k hlt (by rw [HA.out]; exact h1))
        generalize f k = m at HA hm h1 ⊢
        generalize g k = y at HA hm2 hy h1
        go_wp2_with fail
        go_ret
        exact ⟨ret_b HQ.out.symm, rfl⟩
      · have HQ := Lib.hid (show ¬ 1048576 < f (k + 1) by rw [HA.out]; exact h1)
        generalize f k = m at HA hm h1 ⊢
        generalize g k = y at HA hm2 hy h1
        go_wp2_with fail
        go_roundw
        case rel =>
          refine ⟨k + 1, by omega, by go_num, int_is HA.out.symm, fun j hj => ?_, trivial⟩
          rcases Nat.lt_succ_iff_lt_or_eq.1 hj with h | rfl
          · exact HK.out j h
          · exact HQ.out
        case measure => simp [intOf]; omega
    · obtain rfl : n = k := by omega
      have HQ := Lib.hid (HFa.out HK.out)
      generalize hfm : f n = m at hm ⊢
      have HFM := Lib.hid hfm
      clear hfm
      go_wp2_with fail
      go_ret
      exact ⟨ret_b HQ.out.symm, rfl⟩
end Go.Proofs.YtdlmemalefhgmaaGreatDoor.VT
end
