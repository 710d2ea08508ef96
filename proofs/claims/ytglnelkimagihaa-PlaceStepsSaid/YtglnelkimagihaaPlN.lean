/-
  Walks: TwinInts, LeftInts, Beyond of one number.
  Conditions: the numbers lie in memory, 1048576 at most.
-/
import Derived.Test.YtglnelkimagihaaPlB
namespace Go.Proofs.Ytglnelkimagihaa
set_option linter.unusedVariables false
set_option linter.unusedSimpArgs false
open Go.RowKit Go.Deep Go.WideShapes
open Go.Maps hiding size

/-- A copy with one place more, that is marked. -/
structure TwI (w0 w : World) (g : Nat) (L : List Int) : Prop where
  row : w.ownsRow w0.heap.size 3 1 (.slice (some ⟨g, 0, none⟩) (L.length + 1) (L.length + 1)) (L.length + 1) (cellsI (L ++ [7777]))
  low : Below w0.heap.size w0 w
theorem TwI.below {w0 w w' : World} {g : Nat} {L : List Int} (h : TwI w0 w g L) (hb : Below w.heap.size w w') : TwI w0 w' g L := ⟨own_below h.row hb, h.low.trans (hb.mono h.low.size)⟩
theorem TwI.cell {w0 w : World} {g : Nat} {L : List Int} (h : TwI w0 w g L) {j : Nat} (hj : j < L.length + 1) : w.cell? ⟨g, j, none⟩ = some (.int .i64 (Pl.nth (L ++ [7777]) j)) := by
  have := World.ownsRow.cells h.row (g := g) rfl j (.int .i64 (Pl.nth (L ++ [7777]) j)) (by rw [cellsI_row, rowI_get (by simpa using hj)])
  rw [add_plain, Nat.zero_add] at this
  exact this
theorem TwI.rl {w0 w : World} {g : Nat} {L : List Int} (h : TwI w0 w g L) : RL w (some ⟨g, 0, none⟩) L := fun j hj => ⟨g, 0, rfl, by rw [Nat.zero_add, h.cell (by omega), Pl.nth_append_left hj]⟩
theorem TwI.mark {w0 w : World} {g : Nat} {L : List Int} (h : TwI w0 w g L) : w.cell? ⟨g, L.length, none⟩ = some (.int .i64 7777) := by rw [h.cell (by omega), Pl.nth_append_len]
theorem TwI.lt {w0 w : World} {g : Nat} {L : List Int} (h : TwI w0 w g L) : w0.heap.size ≤ g ∧ g < w.heap.size := World.ownsRow.lt h.row g rfl
theorem cellsI_snoc (l : List Int) (x : Int) : cellsI l ++ [.int .i64 x] = cellsI (l ++ [x]) := by simp [cellsI]

set_option maxRecDepth 100000 in
set_option maxHeartbeats 2000000 in
theorem twinInts_any (a : Option Addr) (L : List Int) (cap : Nat) (w : World) (h : RL w a L) (hn : L.length ≤ 1048576) :
    Calls Try.prog 9 #[.slice a L.length cap] w fun e w' => e = .returned (.slice (some ⟨w.heap.size, 0, none⟩) L.length (L.length + 1)) ∧ TwI w w' w.heap.size L := by
  obtain ⟨i0, hi, hz0, hz1, hz2⟩ := info_parts info_int
  have HR := Lib.hid (fun W (hb : Below w.heap.size w W) => h.below hb)
  have HT := Lib.hid (fun j (hj : j < L.length) => Pl.take_snoc hj)
  have HTA := Lib.hid (List.take_length (l := L))
  have HQ : Hid (∀ W, W.ownsRow w.heap.size 3 1 (.slice (some ⟨w.heap.size, 0, none⟩) (L.length + 1) (L.length + 1)) (L.length + 1) (cellsI (L ++ [7777])) → Below w.heap.size w W → TwI w W w.heap.size L) := Lib.hid (fun W h1 h2 => ⟨h1, h2⟩)
  clear h
  unfold RL at HR
  obtain ⟨n, hnE⟩ : ∃ n, L.length = n := ⟨_, rfl⟩
  rw [hnE] at HR HT HTA HQ hn ⊢
  clear hnE
  have hn0 : (0 : Int) ≤ (n : Int) := by omega
  have hn1 : (n : Int) ≤ 1048576 := by omega
  go_enter Try.func9, Try.ntmps9
  go_wp2_with (refine wpList_make_own _ rfl _ _ 22 rfl w.heap.size 3 i0 (.int .i64 0) 1 Try.underlying22 hi hz0 hz1 _ _ _ (n + 1) rfl rfl (by push_cast; rfl) (by rw [hz2]; omega) (by unfold maxLen; omega) (Nat.le_refl _) ?_)
  intro w0 hown0 hg0
  have HO0 := Lib.hid hown0
  have HB0 : Hid (Below w.heap.size w w0) := Lib.hid ((Below.refl _ _).grown hg0 (Nat.le_refl _) (fun k e => by cases e))
  clear hown0 hg0
  go_wp2_with fail
  go_loopw [3, 4] (fun t i wr => ∃ k : Nat, k ≤ n ∧ i = .int .i64 k ∧ t = .slice (some ⟨w.heap.size, 0, none⟩) k (n + 1) ∧ wr.ownsRow w.heap.size 3 1 (.slice (some ⟨w.heap.size, 0, none⟩) k (n + 1)) k (cellsI (L.take k)) ∧ Below w.heap.size w wr) (fun _ i _ => n - (intOf i).toNat)
  case atStart => exact ⟨0, Nat.zero_le _, rfl, rfl, HO0.out, HB0.out⟩
  case round =>
    obtain ⟨k, hk, rfl, rfl, hown, hb⟩ := hrel
    have HO := Lib.hid hown
    have HB := Lib.hid hb
    clear hb
    by_cases hlt : k < n
    · have hk0 : (0 : Int) ≤ (k : Int) := by omega
      have hk1 : (k : Int) < (n : Int) := by omega
      obtain ⟨b, o, rfl, hc⟩ := HR.out _ HB.out k hlt
      have HTK := Lib.hid (HT.out k hlt)
      generalize Pl.nth L k = x at hc HTK
      go_wp2_with (at_builtin; refine wpList_append_fits _ rfl _ _ 22 rfl w.heap.size 3 i0 1 Try.underlying22 hi hz1 w.heap.size k (n + 1) _ rfl (hown.alloc _) ⟨wr.heap.size, 0, none⟩ 1 1 [.int .i64 x] rfl rfl (cell_one_new (cs := [.int .i64 x]) wr) (by simp [Value.oneCell']) (by omega) ?_)
      intro w2 hown2 hg2
      rw [cellsI_snoc, ← HTK.out] at hown2
      have HO2 := Lib.hid hown2
      have HB2 : Hid (Below w.heap.size w w2) := Lib.hid (HB.out.grown (grownBy_trans (World.grownBy_alloc _ _ _) hg2) HB.out.size (fun k e => by cases e; exact Nat.le_refl _))
      clear hown2 hg2 hown
      go_wp2_with fail
      go_roundw
      case rel => exact ⟨k + 1, by omega, by go_num, rfl, HO2.out, HB2.out⟩
      case measure => simp [intOf]; omega
    · obtain rfl : k = n := by omega
      go_wp2_with (at_builtin; refine wpList_append_fits _ rfl _ _ 22 rfl w.heap.size 3 i0 1 Try.underlying22 hi hz1 w.heap.size k (k + 1) _ rfl (hown.alloc _) ⟨wr.heap.size, 0, none⟩ 1 1 [.int .i64 7777] rfl rfl (cell_one_new (cs := [.int .i64 7777]) wr) (by simp [Value.oneCell']) (by omega) ?_)
      intro w2 hown2 hg2
      rw [cellsI_snoc, HTA.out] at hown2
      have HE := Lib.hid (HQ.out _ hown2 (HB.out.grown (grownBy_trans (World.grownBy_alloc _ _ _) hg2) HB.out.size (fun k e => by cases e; exact Nat.le_refl _)))
      clear hown2 hg2 hown
      go_wp2_with fail
      go_ret
      exact ⟨rfl, HE.out⟩

set_option maxRecDepth 100000 in
set_option maxHeartbeats 2000000 in
theorem leftInts_any (w0 : World) (g : Nat) (a : Option Addr) (L : List Int) (cap : Nat) (w : World) (h : RL w a L) (ht : TwI w0 w g L) (hn : L.length ≤ 1048576) :
    Calls Try.prog 12 #[.slice (some ⟨g, 0, none⟩) L.length (L.length + 1), .slice a L.length cap] w fun e w' => e = .returned (.bool true) ∧ Below w.heap.size w w' := by
  have HR := Lib.hid (fun W (hb : Below w.heap.size w W) => And.intro (h.below hb) (And.intro (ht.below hb).rl (ht.below hb).mark))
  clear h ht
  unfold RL at HR
  obtain ⟨n, hnE⟩ : ∃ n, L.length = n := ⟨_, rfl⟩
  rw [hnE] at HR hn ⊢
  clear hnE
  have hn0 : (0 : Int) ≤ (n : Int) := by omega
  have hn1 : (n : Int) ≤ 1048576 := by omega
  go_enter Try.func12, Try.ntmps12
  go_wp2_with fail
  go_loopw [5] (fun i wr => ∃ j : Nat, j ≤ n ∧ i = .int .i64 j ∧ Below w.heap.size w wr) (fun i _ => n - (intOf i).toNat)
  case atStart => exact ⟨0, Nat.zero_le _, rfl, Below.refl _ _⟩
  case round =>
    obtain ⟨j, hj, rfl, hbw⟩ := hrel
    have HB := Lib.hid hbw
    clear hbw
    obtain ⟨q1, q2, q3⟩ := HR.out _ HB.out
    by_cases hlt : j < n
    · have hlt' : (j : Int) < (n : Int) := by omega
      have hj0 : (0 : Int) ≤ (j : Int) := by omega
      obtain ⟨b1, o1, rfl, m1⟩ := q1 j hlt
      obtain ⟨b2, o2, e2, m2⟩ := q2 j hlt
      simp only [Option.some.injEq, Addr.mk.injEq, and_true] at e2
      obtain ⟨rfl, rfl⟩ := e2
      rw [Nat.zero_add] at m2
      clear q1 q2 q3
      generalize Pl.nth L j = x at m1 m2
      have hne : (x != x) = false := by simp
      go_wp2_with fail
      go_quiet (fail)
      have HL2 := Lib.hid (HB.out.trans ((below_drawM _ nq).mono HB.out.size))
      go_wp2_with fail
      go_roundw
      case rel => exact ⟨j + 1, by omega, by go_num, HL2.out⟩
      case measure => simp [intOf]; omega
    · obtain rfl : j = n := by omega
      clear q1 q2
      have hs1 : (0 : Int) ≤ (j : Int) + 1 := by omega
      go_wp2_with fail
      go_ret
      exact ⟨rfl, HB.out⟩

set_option maxHeartbeats 400000 in
theorem beyond_one (x : Nat) (hx : x ≤ maxLen) (w : World) : Calls Try.prog 8 #[.slice (some ⟨w.heap.size, 0, none⟩) 1 1] (w.alloc (.cells #[.int .i64 x] 3)) fun e w' => e = .returned (.bool (decide (1048576 < x))) ∧ w' = w.alloc (.cells #[.int .i64 x] 3) := by
  unfold maxLen at hx
  have hx0 : (0 : Int) ≤ (x : Int) := by omega
  have hx1 : (x : Int) ≤ 9223372036854775807 := by omega
  obtain ⟨w0, hw0⟩ : ∃ w0, w.alloc (.cells #[.int .i64 x] 3) = w0 := ⟨_, rfl⟩
  have hc : w0.cell? ⟨w.heap.size, 0, none⟩ = some (.int .i64 x) := by rw [← hw0]; exact World.cell?_alloc_new _ _ _ 0
  rw [hw0]
  clear hw0
  generalize w.heap.size = g at hc ⊢
  by_cases hb : 1048576 < x
  · have hb1 : (1048576 : Int) < (x : Int) := by omega
    rw [decide_eq_true hb]
    go_enter Try.func8, Try.ntmps8
    go_wp2_with fail
    go_loopw [3, 4] (fun m i wr => m = .int .i64 0 ∧ i = .int .i64 0 ∧ wr = w0) (fun _ _ _ => 0)
    case atStart => exact ⟨rfl, rfl, rfl⟩
    case round =>
      obtain ⟨rfl, rfl, rfl⟩ := hrel
      go_wp2_with fail
      go_ret
      exact ⟨rfl, rfl⟩
  · have hb1 : ¬ (1048576 : Int) < (x : Int) := by omega
    rw [decide_eq_false hb]
    go_enter Try.func8, Try.ntmps8
    go_wp2_with fail
    go_loopw [3, 4] (fun m i wr => ∃ k : Nat, k ≤ 1 ∧ i = .int .i64 k ∧ (k = 0 → m = .int .i64 0) ∧ wr = w0) (fun _ i _ => 1 - (intOf i).toNat)
    case atStart => exact ⟨0, by omega, rfl, fun _ => rfl, rfl⟩
    case round =>
      obtain ⟨k, hk, rfl, hm, rfl⟩ := hrel
      by_cases hk0 : k = 0
      · subst hk0
        obtain rfl := hm rfl
        clear hm
        go_wp2_with fail
        go_roundw
        case rel => exact ⟨1, by omega, rfl, fun e => by omega, trivial⟩
        case measure => simp [intOf]
      · obtain rfl : k = 1 := by omega
        clear hm
        go_wp2_with fail
        go_ret
        exact ⟨rfl, rfl⟩
end Go.Proofs.Ytglnelkimagihaa
