/-
  Walks: ChildSize, ChildrenSize of the laws return some int; old memory is as it was.
  Conditions: what is looked at lies in memory.
-/
import Derived.Test.YtpmkkgndpfbkdaaGreatDoorMaS
namespace Go.Proofs.YtpmkkgndpfbkdaaGreatDoor
set_option linter.unusedVariables false
set_option linter.unusedSimpArgs false
open Go.RowKit Go.Deep Go.WideShapes

set_option maxHeartbeats 1000000 in
theorem childSize_any (c : C) (w : World) (h : c.In w) : Calls Tryz.prog 13 #[c.agg] w (AnyI w) := by
  obtain ⟨key, k, s, v⟩ := c
  obtain ⟨hk1, -, hs1, hv1⟩ := h
  have hk1 : key.size ≤ maxLen := hk1
  have hs1 : s.size ≤ maxLen := hs1
  have hv1 : v.In w := hv1
  have H := Lib.hid (fun O => valueSize_any v (w.alloc O) (hv1.below (below_alloc w O)))
  cases v with
  | leaf => exact hv1.elim
  | mk vk vn vs la ll lc L fa fl fc fn F e vkey hk =>
  clear hv1
  unfold maxLen at hk1 hs1
  simp only [C.agg, C.cells, V.cells]
  simp only [V.agg, V.cells] at H
  go_enter Tryz.func13, Tryz.ntmps13
  go_wp2_with fail
  · refine (H.out _).mono ?_
    rintro e w1 ⟨⟨m, hm, rfl⟩, hb⟩
    have HB := Lib.hid ((below_alloc _ _).trans (hb.mono (by simp)))
    clear hb
    go_wp2_with fail
    go_ret
    exact anyI_ret HB.out
  · go_ret
    exact anyI_ret (below_alloc _ _)

set_option maxHeartbeats 1000000 in
theorem childrenSize_any (la : Option Addr) (ll lc : Nat) (K : Nat → C) (w : World) (h : CLst w la ll lc K) :
    Calls Tryz.prog 5 #[.slice la ll lc] w (AnyI w) := by
  have hlc := h.cap
  unfold maxLen at hlc
  have H := Lib.hid (fun W (hb : Below w.heap.size w W) => h.below hb)
  clear h
  by_cases hz : ll = 0
  · subst hz
    go_enter Tryz.func5, Tryz.ntmps5
    go_wp2_with fail
    go_loopw [3, 4] (fun n i wr => i = .int .i64 0 ∧ n = .int .i64 0 ∧ w = wr) (fun _ _ _ => 0)
    case atStart => exact ⟨rfl, rfl, rfl⟩
    case round =>
      obtain ⟨rfl, rfl, rfl⟩ := hrel
      go_wp2_with fail
      go_ret
      exact ⟨⟨0, by omega, rfl⟩, Below.refl _ _⟩
  · go_enter Tryz.func5, Tryz.ntmps5
    go_wp2_with fail
    go_loopw [3, 4] (fun n i wr => ∃ k : Nat, k ≤ ll ∧ i = .int .i64 k ∧ (∃ m : Int, (-9223372036854775808 ≤ m ∧ m ≤ 9223372036854775807) ∧ n = .int .i64 m) ∧ Below w.heap.size w wr) (fun _ i _ => ll - (intOf i).toNat)
    case atStart => exact ⟨0, Nat.zero_le _, rfl, ⟨_, by omega, rfl⟩, Below.refl _ _⟩
    case round =>
      obtain ⟨k, hk, rfl, ⟨m, hm, rfl⟩, hb⟩ := hrel
      have HB := Lib.hid hb
      clear hb
      by_cases hlt : k < ll
      · obtain ⟨⟨b, o, rfl, hat⟩, hin⟩ := (H.out _ HB.out).els k hlt
        generalize K k = c at hat hin
        have HX := Lib.hid (childSize_any c wr hin)
        obtain ⟨key, ck, s, v⟩ := c
        have hv1 : v.In wr := hin.2.2.2
        cases v with
        | leaf => exact hv1.elim
        | mk k2 n2 s2 la2 ll2 lc2 L2 fa2 fl2 fc2 fn2 F2 e2 key2 hk2 =>
        obtain ⟨c0, c1, c2, c3, c4, c5, c6, c7, c8, c9, c10⟩ := mt11 hat
        simp only [C.agg, C.cells, V.cells] at HX
        clear hat hin hv1
        go_wp2_with fail
        · refine HX.out.mono ?_
          rintro e w1 ⟨⟨m1, hm1, rfl⟩, hb1⟩
          have HB1 := Lib.hid (HB.out.trans (hb1.mono HB.out.size))
          clear hb1 c0 c1 c2 c3 c4 c5 c6 c7 c8 c9 c10
          go_wp2_with fail
          go_roundw
          case rel => exact ⟨k + 1, by omega, by go_num, ⟨_, wrap64_range _, rfl⟩, HB1.out⟩
          case measure => simp [intOf]; omega
        · go_ret
          exact ⟨⟨m, hm, rfl⟩, HB.out⟩
      · go_wp2_with fail
        go_ret
        exact ⟨⟨m, hm, rfl⟩, HB.out⟩

end Go.Proofs.YtpmkkgndpfbkdaaGreatDoor
