/-
  Walks: the laws' row (unlike numbers above 0, 200 at most), alive, and what the laws of layer 9 share.
  Conditions: the bytes lie in memory.
-/
import Derived.Test.YtglnelkimagihaaPlL
import Derived.Test.YtglnelkimagihaaPlS
namespace Go.Proofs.Ytglnelkimagihaa
set_option linter.unusedVariables false
set_option linter.unusedSimpArgs false
open Go.RowKit Go.Deep Go.WideShapes
open Go.Maps hiding size

/-- Bytes stand one behind the other. -/
def BLs (w : World) (a : Option Addr) (n : Nat) (h : Nat → Int) : Prop := ∀ j, j < n → ∃ b o, a = some ⟨b, o, none⟩ ∧ w.cell? ⟨b, o + j, none⟩ = some (.int .u8 (h j))
theorem BLs.below {w w' : World} {a : Option Addr} {n : Nat} {g : Nat → Int} (h : BLs w a n g) (hb : Below w.heap.size w w') : BLs w' a n g := fun j hj =>
  let ⟨b, o, e, hc⟩ := h j hj
  ⟨b, o, e, by rw [hb.cell (p := ⟨b, o + j, none⟩) (World.block_lt_of_cell? _ _ hc)]; exact hc⟩
/-- A row as the laws want it. -/
structure GoodRow (L : List Int) : Prop where
  nodup : L.Nodup
  pos : ∀ x ∈ L, 1 ≤ x ∧ x ≤ 256
  len : L.length ≤ 200
theorem GoodRow.rb {L : List Int} (h : GoodRow L) : RB L := fun x hx => by have := h.pos x hx; omega
theorem GoodRow.no0 {L : List Int} (h : GoodRow L) : (0 : Int) ∉ L := fun hm => by have := h.pos 0 hm; omega

set_option maxRecDepth 100000 in
set_option maxHeartbeats 2000000 in
theorem rowu_any (a : Option Addr) (n cap : Nat) (h : Nat → Int) (w : World) (hn : n ≤ cap ∧ cap ≤ maxLen) (hh : BLs w a n h) (hv : ∀ j, 0 ≤ h j ∧ h j ≤ 255) :
    Calls Try.prog 15 #[.slice a n cap] w fun e w' => ∃ v, e = .returned v ∧ ∃ L, OR w' w.heap.size v L ∧ GoodRow L ∧ Below w.heap.size w w' := by
  have HK := Lib.hid (fun W (hb : Below w.heap.size w W) => hh.below hb)
  have HV := Lib.hid hv
  unfold maxLen at hn
  have hn1 : (n : Int) ≤ 9223372036854775807 := by omega
  clear hh hv
  go_enter Try.func15, Try.ntmps15
  go_wp2_with fail
  go_loopw [3, 4] (fun o i wr => ∃ (j : Nat) (L : List Int), j ≤ n ∧ i = .int .i64 j ∧ OR wr w.heap.size o L ∧ GoodRow L ∧ Below w.heap.size w wr) (fun _ i _ => n - (intOf i).toNat)
  case atStart => exact ⟨0, [], Nat.zero_le _, rfl, OR.nil _ _, ⟨List.nodup_nil, fun x hx => (by cases hx), by simp⟩, Below.refl _ _⟩
  case round =>
    obtain ⟨j, L, hj, rfl, ho, hg, hb⟩ := hrel
    have HO := Lib.hid ho
    have HB := Lib.hid hb
    have HG := Lib.hid hg
    have hb0 := hb.size
    have hL := hg.len
    clear hb hg
    obtain ⟨ga, gc, rfl, -, -, hrl⟩ := ho.rl
    have HRL := Lib.hid hrl
    clear ho hrl
    by_cases hlt : j < n
    · have hj0 : (0 : Int) ≤ (j : Int) := by omega
      have hj1 : (j : Int) < (n : Int) := by omega
      obtain ⟨b, o, rfl, hc⟩ := HK.out _ HB.out j hlt
      by_cases hl2 : L.length < 200
      · have hl3 : (L.length : Int) < 200 := by omega
        have hq := HV.out j
        generalize h j = q at hc hq
        have HH := Lib.hid (has_any ga L gc (q + 1) wr HRL.out (by omega))
        by_cases hm : q + 1 ∈ L
        · rw [decide_eq_true hm] at HH
          clear hm
          go_wp2_with (first
            | (go_at_call 19; (with_reducible refine HH.out.mono ?_); rintro x2 w2 ⟨rfl, rfl⟩))
          go_roundw
          case rel => exact ⟨j + 1, L, by omega, by go_num, HO.out, HG.out, HB.out⟩
          case measure => simp [intOf]; omega
        · rw [decide_eq_false hm] at HH
          have HN : Hid (GoodRow (L ++ [q + 1])) := Lib.hid ⟨by rw [List.nodup_append]; exact ⟨HG.out.nodup, by simp, fun x hx y hy e => by rw [List.mem_singleton] at hy; exact hm (by rw [← hy, ← e]; exact hx)⟩, fun x hx => by
            rcases List.mem_append.1 hx with h | h
            · exact HG.out.pos x h
            · rw [List.mem_singleton] at h; omega, by rw [List.length_append]; simp only [List.length_singleton]; omega⟩
          clear hm
          go_wp2_with (first
            | (go_at_call 19; (with_reducible refine HH.out.mono ?_); rintro x2 w2 ⟨rfl, rfl⟩)
            | (at_builtin; refine app_int rfl _ _ rfl wr w.heap.size L (q + 1) _ HO.out rfl rfl (by omega) hb0 ?_; intro v' w8 hor8 ha8; have HAP := Lib.hid ha8; have HO8 := Lib.hid hor8; clear ha8 hor8))
          go_roundw
          case rel => exact ⟨j + 1, _, by omega, by go_num, HO8.out, HN.out, HAP.out.below HO.out HB.out (Nat.le_refl _) hb0⟩
          case measure => simp [intOf]; omega
      · have hl3 : ¬ (L.length : Int) < 200 := by omega
        go_wp2_with fail
        go_ret
        exact ⟨_, rfl, L, HO.out, HG.out, HB.out⟩
    · have hj2 : ¬ (j : Int) < (n : Int) := by omega
      go_wp2_with fail
      go_ret
      exact ⟨_, rfl, L, HO.out, HG.out, HB.out⟩

/-! ### alive -/
theorem new_rl {w w' : World} {l : List Int} (hb : Below (w.heap.size + 1) (w.alloc (.cells (cellsI l).toArray 3)) w') : RL w' (some ⟨w.heap.size, 0, none⟩) l := fun j hj => by
  refine ⟨w.heap.size, 0, rfl, ?_⟩
  rw [hb.cell (p := ⟨w.heap.size, 0 + j, none⟩) (by simp)]
  have := cell_one_new (cs := cellsI l) (T := 3) w j (.int .i64 (Pl.nth l j)) (by rw [cellsI_row, rowI_get hj])
  rw [add_plain] at this
  exact this
theorem SR.one {w : World} {base : Nat} {v : Value} {s : Int × Int} (h : SR w base v [s]) : ∃ g cap, v = .slice (some ⟨g, 0, none⟩) 1 cap ∧ base ≤ g ∧ g < w.heap.size ∧ w.cell? ⟨g, 0, none⟩ = some (.int .i64 s.1) ∧ w.cell? ⟨g, 1, none⟩ = some (.int .i64 s.2) := by
  obtain ⟨g, cap, rfl⟩ := ownsRow_succ (k := 0) h
  have hl := World.ownsRow.lt h g rfl
  have h' : SR w base (.slice (some ⟨g, 0, none⟩) 1 cap) [s] := h
  have := h'.cells (j := 0) (by simp)
  exact ⟨g, cap, rfl, hl.1, hl.2, this.1, this.2⟩
theorem alive_m : (fun i => Value.bool (Pl.plc [2, 0, -1, 5] i)) 0 = .bool false ∧ (fun i => Value.bool (Pl.plc [2, 0, -1, 5] i)) 1 = .bool true ∧ (fun i => Value.bool (Pl.plc [2, 0, -1, 5] i)) 2 = .bool true ∧ (fun i => Value.bool (Pl.plc [2, 0, -1, 5] i)) 3 = .bool false := by
  have h : ∀ i, Pl.plc [2, 0, -1, 5] i = decide (Pl.nth [2, 0, -1, 5] i < Pl.grt 0 [2, 0, -1, 5] i) := fun i => (Pl.plc_grt _ i).symm
  refine ⟨?_, ?_, ?_, ?_⟩ <;> (simp only [h]; rfl)
theorem alive_s : Pl.steps [1, 2, 3] [1, 4, 3] = [(4, 3)] := by
  have h : ∀ f i, Pl.plc f i = decide (Pl.nth f i < Pl.grt 0 f i) := fun f i => (Pl.plc_grt f i).symm
  unfold Pl.steps
  rw [show Pl.plc (Pl.frm [1, 2, 3] (Pl.uq [1, 4, 3])) = fun i => decide (Pl.nth (Pl.frm [1, 2, 3] (Pl.uq [1, 4, 3])) i < Pl.grt 0 (Pl.frm [1, 2, 3] (Pl.uq [1, 4, 3])) i) from funext (h _)]
  rfl
theorem alive_t : Pl.steps [1, 2] [2, 1] = [(1, 0)] := by
  have h : ∀ f i, Pl.plc f i = decide (Pl.nth f i < Pl.grt 0 f i) := fun f i => (Pl.plc_grt f i).symm
  unfold Pl.steps
  rw [show Pl.plc (Pl.frm [1, 2] (Pl.uq [2, 1])) = fun i => decide (Pl.nth (Pl.frm [1, 2] (Pl.uq [2, 1])) i < Pl.grt 0 (Pl.frm [1, 2] (Pl.uq [2, 1])) i) from funext (h _)]
  rfl
theorem rb_small {l : List Int} (h : l.all (fun x => decide (-9 ≤ x) && decide (x ≤ 9)) = true) : RB l := fun x hx => by
  have := List.all_eq_true.1 h x hx
  simp only [Bool.and_eq_true, decide_eq_true_eq] at this
  omega

theorem steps_new (l1 l2 : List Int) (w : World) (h1 : RB l1) (h2 : RB l2) (n1 : l1.length ≤ 1000) (n2 : l2.length ≤ 1000) :
    Calls Try.prog 13 #[.slice (some ⟨w.heap.size, 0, none⟩) l1.length l1.length, .slice (some ⟨w.heap.size + 1, 0, none⟩) l2.length l2.length] ((w.alloc (.cells (cellsI l1).toArray 3)).alloc (.cells (cellsI l2).toArray 3)) fun e w' => ∃ v, e = .returned v ∧ SR w' (w.heap.size + 2) v (Pl.steps l1 l2) ∧ Below w.heap.size w w' := by
  have hr1 : RL ((w.alloc (.cells (cellsI l1).toArray 3)).alloc (.cells (cellsI l2).toArray 3)) (some ⟨w.heap.size, 0, none⟩) l1 := new_rl ((Below.refl _ _).alloc (by simp) _)
  have hr2 : RL ((w.alloc (.cells (cellsI l1).toArray 3)).alloc (.cells (cellsI l2).toArray 3)) (some ⟨w.heap.size + 1, 0, none⟩) l2 := by
    have := new_rl (w := w.alloc (.cells (cellsI l1).toArray 3)) (l := l2) (Below.refl _ _)
    rwa [World.size_alloc] at this
  refine (steps_any (some ⟨w.heap.size, 0, none⟩) l1 l1.length (some ⟨w.heap.size + 1, 0, none⟩) l2 l2.length _ hr1 h1 n1 hr2 h2 n2).mono ?_
  rintro e w' ⟨v, rfl, hs, hb⟩
  have e2 : ((w.alloc (.cells (cellsI l1).toArray 3)).alloc (.cells (cellsI l2).toArray 3)).heap.size = w.heap.size + 2 := by simp
  rw [e2] at hs hb
  exact ⟨v, rfl, hs, ((below_alloc w _).alloc (by simp) _).trans (hb.mono (by omega))⟩

set_option maxRecDepth 100000 in
set_option maxHeartbeats 2000000 in
theorem alive9_any (w : World) : Calls Try.prog 17 #[] w fun e w' => e = .returned (.bool true) ∧ Below w.heap.size w w' := by
  have HM : Hid (Calls Try.prog 10 #[.slice (some ⟨w.heap.size, 0, none⟩) 4 4] (w.alloc (.cells #[.int .i64 2, .int .i64 0, .int .i64 (-1), .int .i64 5] 3)) fun x w' => ∃ g, x = .returned (.slice (some ⟨g, 0, none⟩) 4 4) ∧ OwnV w' (w.alloc (.cells #[.int .i64 2, .int .i64 0, .int .i64 (-1), .int .i64 5] 3)).heap.size g 4 4 (fun i => .bool (Pl.plc [2, 0, -1, 5] i)) ∧ Below (w.alloc (.cells #[.int .i64 2, .int .i64 0, .int .i64 (-1), .int .i64 5] 3)).heap.size (w.alloc (.cells #[.int .i64 2, .int .i64 0, .int .i64 (-1), .int .i64 5] 3)) w') :=
    Lib.hid (moves_any (some ⟨w.heap.size, 0, none⟩) [2, 0, -1, 5] 4 _ (new_rl (l := [2, 0, -1, 5]) (Below.refl _ _)) (by simp))
  have HS : Hid (∀ W : World, Calls Try.prog 13 #[.slice (some ⟨W.heap.size, 0, none⟩) 3 3, .slice (some ⟨W.heap.size + 1, 0, none⟩) 3 3] ((W.alloc (.cells #[.int .i64 1, .int .i64 2, .int .i64 3] 3)).alloc (.cells #[.int .i64 1, .int .i64 4, .int .i64 3] 3)) fun e w' => ∃ v, e = .returned v ∧ SR w' (W.heap.size + 2) v [(4, 3)] ∧ Below W.heap.size W w') :=
    Lib.hid (fun W => by rw [← alive_s]; exact steps_new [1, 2, 3] [1, 4, 3] W (rb_small rfl) (rb_small rfl) (by simp) (by simp))
  have HT : Hid (∀ W : World, Calls Try.prog 13 #[.slice (some ⟨W.heap.size, 0, none⟩) 2 2, .slice (some ⟨W.heap.size + 1, 0, none⟩) 2 2] ((W.alloc (.cells #[.int .i64 1, .int .i64 2] 3)).alloc (.cells #[.int .i64 2, .int .i64 1] 3)) fun e w' => ∃ v, e = .returned v ∧ SR w' (W.heap.size + 2) v [(1, 0)] ∧ Below W.heap.size W w') :=
    Lib.hid (fun W => by rw [← alive_t]; exact steps_new [1, 2] [2, 1] W (rb_small rfl) (rb_small rfl) (by simp) (by simp))
  have HB0 := Lib.hid (below_alloc w (.cells #[.int .i64 2, .int .i64 0, .int .i64 (-1), .int .i64 5] 3))
  go_enter Try.func17, Try.ntmps17
  go_wp2_with (first
    | (go_at_call 10; (with_reducible refine HM.out.mono ?_); rintro x w1 ⟨gm, rfl, ho1, hb1⟩; have HO1 := Lib.hid ho1; have HB1 := Lib.hid (HB0.out.trans (hb1.mono HB0.out.size)); clear ho1 hb1)
    | (go_at_call 13; (with_reducible refine (HS.out w1).mono ?_); rintro x w2 ⟨vs, rfl, hs2, hb2⟩; obtain ⟨gs, cs, rfl, hg1, hg2, c1, c2⟩ := hs2.one; have HC2 := Lib.hid (And.intro hg2 (And.intro c1 c2)); have HB2 := Lib.hid hb2; clear hs2 hb2 hg1 hg2 c1 c2)
    | (go_at_call 13; (with_reducible refine (HT.out w2).mono ?_); rintro x w3 ⟨vt, rfl, hs3, hb3⟩; obtain ⟨gt, ct, rfl, -, -, t1, t2⟩ := hs3.one; have HB3 := Lib.hid hb3; have ho3 := HO1.out.below (HB2.out.trans (hb3.mono HB2.out.size)); obtain ⟨y0, y1, y2, y3⟩ := alive_m; have m0 := (ho3.cell (j := 0) (by omega)).trans (congrArg some y0); have m1 := (ho3.cell (j := 1) (by omega)).trans (congrArg some y1); have m2 := (ho3.cell (j := 2) (by omega)).trans (congrArg some y2); have m3 := (ho3.cell (j := 3) (by omega)).trans (congrArg some y3);
       have s1 := (hb3.cell (p := ⟨gs, 0, none⟩) HC2.out.1).trans HC2.out.2.1; have s2 := (hb3.cell (p := ⟨gs, 1, none⟩) HC2.out.1).trans HC2.out.2.2; clear hs3 hb3 ho3 y0 y1 y2 y3))
  go_ret
  exact ⟨rfl, HB1.out.trans ((HB2.out.trans (HB3.out.mono HB2.out.size)).mono HB1.out.size)⟩
end Go.Proofs.Ytglnelkimagihaa
