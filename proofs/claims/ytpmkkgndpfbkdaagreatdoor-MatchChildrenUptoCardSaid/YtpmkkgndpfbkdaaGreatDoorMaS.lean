/-
  Walks: norm.Alike answers 'C.alike'; SameInts; old memory is as it was.
  Conditions: what is looked at lies in memory.
-/
import Derived.Test.YtpmkkgndpfbkdaaGreatDoorSize
import Derived.Test.YtpmkkgndpfbkdaaGreatDoorCh
import Derived.Test.YtpmkkgndpfbkdaaGreatDoorSameP
import Derived.Deep.RegionHeld3
import Derived.Deep.Cut
namespace Go.Proofs.YtpmkkgndpfbkdaaGreatDoor
set_option linter.unusedVariables false
set_option linter.unusedSimpArgs false
open Go.RowKit Go.Deep Go.WideShapes

theorem below_drewM {B : Nat} {w W : World} {m : Nat} (h : Below B w W) : Below B w (W.drewN m) := ⟨h.os, h.tape, h.output, h.size, h.block⟩
theorem below_drawM (w : World) (m : Nat) : Below w.heap.size w (w.drewN m) := below_drewM (Below.refl _ _)
/-- Eleven cells. -/
theorem mt11 {w : World} {b o : Nat} {c0 c1 c2 c3 c4 c5 c6 c7 c8 c9 c10 : Value} (h : At w b o [c0, c1, c2, c3, c4, c5, c6, c7, c8, c9, c10]) :
    w.cell? ⟨b, o, none⟩ = some c0 ∧ w.cell? ⟨b, o + 1, none⟩ = some c1 ∧ w.cell? ⟨b, o + 2, none⟩ = some c2 ∧ w.cell? ⟨b, o + 3, none⟩ = some c3 ∧ w.cell? ⟨b, o + 4, none⟩ = some c4 ∧ w.cell? ⟨b, o + 5, none⟩ = some c5 ∧ w.cell? ⟨b, o + 6, none⟩ = some c6 ∧ w.cell? ⟨b, o + 7, none⟩ = some c7 ∧ w.cell? ⟨b, o + 8, none⟩ = some c8 ∧ w.cell? ⟨b, o + 9, none⟩ = some c9 ∧ w.cell? ⟨b, o + 10, none⟩ = some c10 :=
  ⟨h 0 (by simp), h 1 (by simp), h 2 (by simp), h 3 (by simp), h 4 (by simp), h 5 (by simp), h 6 (by simp), h 7 (by simp), h 8 (by simp), h 9 (by simp), h 10 (by simp)⟩

set_option maxHeartbeats 1000000 in
theorem alike_all (c d : C) (w : World) (hc : c.val.In w) (hd : d.val.In w) :
    Calls Tryz.prog 71 #[c.agg, d.agg] w fun x w' => x = .returned (.bool (c.alike d)) ∧ Below w.heap.size w w' := by
  obtain ⟨key, k, s, v⟩ := c
  obtain ⟨key', k', s', u⟩ := d
  cases v with
  | leaf => exact hc.elim
  | mk vk vn vs la ll lc L fa fl fc fn F e vkey hk =>
  cases u with
  | leaf => exact hd.elim
  | mk vk' vn' vs' la' ll' lc' L' fa' fl' fc' fn' F' e' vkey' hk' =>
  clear hc hd
  have hlow : Hid (∀ (O O' : Obj) (m : Nat), Below w.heap.size w (((w.alloc O).alloc O').drewN m)) := fun O O' m => below_drewM (((Below.refl _ _).alloc (Nat.le_refl _) _).alloc (by simp) _)
  simp only [C.agg, C.cells, V.cells]
  by_cases e0 : k = k'
  · subst e0
    by_cases e1 : s = s'
    · subst e1
      have H := Lib.hid (show Ending.returned (.bool true) = .returned (.bool (C.alike ⟨key, k, s, (V.mk vk vn vs la ll lc L fa fl fc fn F e vkey hk)⟩ ⟨key', k, s, (V.mk vk' vn' vs' la' ll' lc' L' fa' fl' fc' fn' F' e' vkey' hk')⟩)) by simp [C.alike])
      go_enter Tryz.func71, Tryz.ntmps71
      go_wp2_with fail
      go_ret
      exact ⟨H.out, hlow.out _ _ 0⟩
    · have q4 : (s.toList == s'.toList) = false := bytes_ne e1
      have H := Lib.hid (show Ending.returned (.bool false) = .returned (.bool (C.alike ⟨key, k, s, (V.mk vk vn vs la ll lc L fa fl fc fn F e vkey hk)⟩ ⟨key', k, s', (V.mk vk' vn' vs' la' ll' lc' L' fa' fl' fc' fn' F' e' vkey' hk')⟩)) by simp [C.alike, e1])
      clear e1
      go_enter Tryz.func71, Tryz.ntmps71
      go_wp2_with fail
      go_ret
      exact ⟨H.out, hlow.out _ _ 0⟩
  · have q3 : (k == k') = false := by simp [e0]
    have H := Lib.hid (show Ending.returned (.bool false) = .returned (.bool (C.alike ⟨key, k, s, (V.mk vk vn vs la ll lc L fa fl fc fn F e vkey hk)⟩ ⟨key', k', s', (V.mk vk' vn' vs' la' ll' lc' L' fa' fl' fc' fn' F' e' vkey' hk')⟩)) by simp [C.alike, e0])
    clear e0
    go_enter Tryz.func71, Tryz.ntmps71
    go_wp2_with fail
    go_ret
    exact ⟨H.out, hlow.out _ _ 0⟩

/-- Numbers stand one behind the other. -/
def IL (w : World) (a : Option Addr) (n : Nat) (g : Nat → Int) : Prop := ∀ j, j < n → ∃ b o, a = some ⟨b, o, none⟩ ∧ w.cell? ⟨b, o + j, none⟩ = some (.int .i64 (g j))
theorem IL.below {w w' : World} {a : Option Addr} {n : Nat} {g : Nat → Int} (h : IL w a n g) (hb : Below w.heap.size w w') : IL w' a n g := fun j hj =>
  let ⟨b, o, e, hc⟩ := h j hj
  ⟨b, o, e, by rw [hb.cell (p := ⟨b, o + j, none⟩) (World.block_lt_of_cell? _ _ hc)]; exact hc⟩

set_option maxHeartbeats 1000000 in
theorem sameInts_any (w : World) (a a' : Option Addr) (n c n' c' : Nat) (g g' : Nat → Int) (hn : n ≤ maxLen) (hn' : n' ≤ maxLen) (h : IL w a n g) (h' : IL w a' n' g') :
    Calls Tryz.prog 9 #[.slice a n c, .slice a' n' c'] w fun x w' => x = .returned (.bool (decide (n = n') && allB n (fun i => decide (g i = g' i)))) ∧ Below w.heap.size w w' := by
  unfold maxLen at hn hn'
  by_cases hl : n = n'
  · subst hl
    have R1 : Hid (HeldTo n (fun i => decide (g i = g' i)) → Ending.returned (.bool true) = .returned (.bool (decide (n = n) && allB n (fun i => decide (g i = g' i))))) := fun q => by rw [decide_eq_true rfl, q.all]; rfl
    have R0 : Hid (∀ i, i < n → ¬ g i = g' i → Ending.returned (.bool false) = .returned (.bool (decide (n = n) && allB n (fun i => decide (g i = g' i))))) := fun i hi q => by rw [allB_false hi (by simp [q]), Bool.and_false]
    have HL := Lib.hid (fun W (hb : Below w.heap.size w W) => And.intro (h.below hb) (h'.below hb))
    clear h h'
    generalize (decide (n = n) && allB n (fun i => decide (g i = g' i))) = ans at R1 R0 ⊢
    go_enter Tryz.func9, Tryz.ntmps9
    go_wp2_with fail
    go_loopw [5] (fun i wr => ∃ j : Nat, j ≤ n ∧ i = .int .i64 j ∧ HeldTo j (fun i => decide (g i = g' i)) ∧ Below w.heap.size w wr) (fun i _ => n - (intOf i).toNat)
    case atStart => exact ⟨0, Nat.zero_le _, rfl, HeldTo.zero, Below.refl _ _⟩
    case round =>
    obtain ⟨j, hj, rfl, hheld, hbw⟩ := hrel
    have HH := Lib.hid hheld
    have HB := Lib.hid hbw
    clear hheld hbw
    by_cases hlt : j < n
    · have hlt' : (j : Int) < (n : Int) := by omega
      have hj0 : (0 : Int) ≤ (j : Int) := by omega
      obtain ⟨b1, o1, rfl, m1⟩ := (HL.out _ HB.out).1 j hlt
      obtain ⟨b2, o2, rfl, m2⟩ := (HL.out _ HB.out).2 j hlt
      have R0j := Lib.hid (R0.out j hlt)
      have HHs := Lib.hid (fun q => HH.out.succ (k := j) q)
      generalize g j = x at m1 R0j HHs
      generalize g' j = y at m2 R0j HHs
      by_cases e : x = y
      · have hne : (x != y) = false := by simp [e]
        have HHs2 := Lib.hid (HHs.out (by simp [e]))
        clear R0j HHs e
        go_upto_region 6 with fail
        go_quiet (fail)
        have HL2 := Lib.hid (HB.out.trans ((below_drawM _ nq).mono HB.out.size))
        go_wp2_with fail
        refine ⟨⟨j + 1, hlt, by go_num, HHs2.out, HL2.out⟩, by simp [intOf]; omega⟩
      · have hne : (x != y) = true := by simp [e]
        have R0k := Lib.hid (R0j.out e)
        clear R0j HHs e
        go_upto_region 6 with fail
        go_quiet (fail)
        have HL2 := Lib.hid (HB.out.trans ((below_drawM _ nq).mono HB.out.size))
        go_wp2_with fail
        go_ret
        exact ⟨R0k.out, HL2.out⟩
    · obtain rfl : j = n := by omega
      have R := Lib.hid (R1.out HH.out)
      go_wp2_with fail
      go_ret
      exact ⟨R.out, HB.out⟩
  · have R : Hid (Ending.returned (.bool false) = .returned (.bool (decide (n = n') && allB n (fun i => decide (g i = g' i))))) := by rw [decide_eq_false hl]; exact rfl
    have hl' : ((n : Int) != (n' : Int)) = true := by simp; omega
    clear h h' hl
    generalize (decide (n = n') && allB n (fun i => decide (g i = g' i))) = ans at R ⊢
    go_enter Tryz.func9, Tryz.ntmps9
    go_wp2_with fail
    go_ret
    exact ⟨R.out, Below.refl _ _⟩
end Go.Proofs.YtpmkkgndpfbkdaaGreatDoor
