/-
  Walks: ValueLimits returns true; old memory is as it was.
  Conditions: the three tables hold what the program's text lays in them.
-/
import Derived.Test.YtglhbggihdfieaaDoorLimP
import Derived.Test.YtglhbggihdfieaaDoorAliveW
import Derived.Test.YtglhbggihdfieaaDoorFrom
import Derived.OwnWalk
import Derived.Laws.OwnMore
import Derived.IntWalk
import Derived.Laws.BytesArg
import Derived.Deep.RegionHeld3
namespace Go.Proofs.YtglhbggihdfieaaDoor
open Go.RowKit Go.Deep Go.WideShapes

theorem info_val : (Tryd.prog.info? 27).map (fun i => (i.zero, i.size, i.bytes)) = some (some (vz 0 0 ⟨#[]⟩).agg, 8, 112) := by kernel_rfl

/-- The cells of k zero values. -/
def zs : Nat → List Value
  | 0 => []
  | k + 1 => zs k ++ (vz 0 0 ⟨#[]⟩).cells

theorem zs_length (k : Nat) : (zs k).length = k * 8 := by
  induction k with
  | zero => rfl
  | succ k ih => rw [zs, List.length_append, ih]; show k * 8 + 8 = _; omega

/-- The list that is built: so many values are in it. -/
def L1 (w : World) (k : Nat) (wr : World) : Prop := ∃ la lc, ∃ v, v = Value.slice la k lc ∧ wr.heap[w.heap.size]? = some (.cells #[.int .u8 4, .int .i64 0, .string ⟨#[]⟩, v, .slice none 0 0, .int .u8 0, .string ⟨#[]⟩, .bool false] 27 (0, 0)) ∧
  wr.ownsRow (w.heap.size + 1) 27 8 v k (zs k) ∧ Below w.heap.size w wr

theorem L1.put {w w1 : World} {k lc : Nat} {la : Option Addr} {v v' : Value} {cs : Array Value} (hv : v' = .slice la k lc) (hcs : cs = #[.int .u8 4, .int .i64 0, .string ⟨#[]⟩, v, .slice none 0 0, .int .u8 0, .string ⟨#[]⟩, .bool false])
    (hh : w1.heap[w.heap.size]? = some (.cells cs 27 (0, 0))) (hown : w1.ownsRow (w.heap.size + 1) 27 8 v' k (zs k)) (hb : Below w.heap.size w w1) :
    L1 w k (w1.setCell ⟨w.heap.size, 3, none⟩ v') := by
  subst hcs
  refine ⟨la, lc, v', hv, ?_, ownsRow_setCell_below hown (by show w.heap.size < _; omega) v', hb.setCell (p := ⟨w.heap.size, 3, none⟩) (Nat.le_refl _) v'⟩
  simp [World.setCell, Array.getElem?_modify, hh]

/-- A new block's cells. -/
theorem new_cells {w : World} {cs : List Value} {T : TypeId} : ∀ j u, cs[j]? = some u → (w.alloc (.cells cs.toArray T)).cell? ((⟨w.heap.size, 0, none⟩ : Addr).add j) = some u := by
  intro j u hu
  have : ((⟨w.heap.size, 0, none⟩ : Addr).add j) = ⟨w.heap.size, j, none⟩ := by simpa using add_plain w.heap.size 0 j
  rw [this]
  have h0 := at_new (w := w) (w' := w.alloc (.cells cs.toArray T)) (cs := cs) (T := T) rfl (Below.refl _ _)
  have hj : j < cs.length := (List.getElem?_eq_some_iff.1 hu).1
  have := h0 j hj
  rwa [Nat.zero_add, hu] at this

/-- The value that is put into lists, one within another. -/
def NestAt (wr : World) (k : Nat) (W : World) : Prop := ∃ x : V, Deep1 x k ∧ x.In W ∧ x.From (wr.heap.size + 1) ∧ W.heap[wr.heap.size]? = some (.cells x.cells.toArray 27 (0, 0)) ∧ Below wr.heap.size wr W

theorem cell_alloc {w : World} {a : Addr} {v : Value} (O : Obj) (h : w.cell? a = some v) : (w.alloc O).cell? a = some v := by
  rw [(below_alloc w O).cell (World.block_lt_of_cell? _ _ h), h]
theorem frozen_alloc {w : World} {a : Addr} {b : Bool} (O : Obj) (hlt : a.block < w.heap.size) (h : w.frozen? a = b) : (w.alloc O).frozen? a = b := by
  rw [(below_alloc w O).frozen hlt, h]

theorem NestAt.put {W1 wr : World} {j : Nat} {x : V} (hx1 : Deep1 x j) (hx2 : x.In wr) (hx3 : x.From (W1.heap.size + 1)) (hx4 : wr.heap[W1.heap.size]? = some (.cells x.cells.toArray 27 (0, 0))) (hx5 : Below W1.heap.size W1 wr) :
    NestAt W1 (j + 1) (((((((((wr.alloc (.cells x.cells.toArray 27)).setCell ⟨W1.heap.size, 0, none⟩ (.int .u8 4)).setCell ⟨W1.heap.size, 1, none⟩ (.int .i64 0)).setCell ⟨W1.heap.size, 2, none⟩ (.string ⟨#[]⟩)).setCell ⟨W1.heap.size, 3, none⟩ (.slice (some ⟨wr.heap.size, 0, none⟩) 1 1)).setCell ⟨W1.heap.size, 4, none⟩ (.slice none 0 0)).setCell ⟨W1.heap.size, 5, none⟩ (.int .u8 0)).setCell ⟨W1.heap.size, 6, none⟩ (.string ⟨#[]⟩)).setCell ⟨W1.heap.size, 7, none⟩ (.bool false)) := by
  have hlt : W1.heap.size < wr.heap.size := (Array.getElem?_eq_some_iff.1 hx4).1
  have hc : x.cells.length = 8 := by
    cases x with
    | leaf => exact hx2.elim
    | mk => rfl
  generalize hW : ((((((((wr.alloc (.cells x.cells.toArray 27)).setCell ⟨W1.heap.size, 0, none⟩ (.int .u8 4)).setCell ⟨W1.heap.size, 1, none⟩ (.int .i64 0)).setCell ⟨W1.heap.size, 2, none⟩ (.string ⟨#[]⟩)).setCell ⟨W1.heap.size, 3, none⟩ (.slice (some ⟨wr.heap.size, 0, none⟩) 1 1)).setCell ⟨W1.heap.size, 4, none⟩ (.slice none 0 0)).setCell ⟨W1.heap.size, 5, none⟩ (.int .u8 0)).setCell ⟨W1.heap.size, 6, none⟩ (.string ⟨#[]⟩)).setCell ⟨W1.heap.size, 7, none⟩ (.bool false) = W
  have hh : ∀ a : Addr, W1.heap.size + 1 ≤ a.block → a.block < (wr.alloc (.cells x.cells.toArray 27)).heap.size → W.cell? a = (wr.alloc (.cells x.cells.toArray 27)).cell? a := by
    intro a ha _
    refine World.cell?_of_block ?_
    have hne : W1.heap.size ≠ a.block := by omega
    subst hW
    simp [World.setCell, Array.getElem?_modify, hne]
  have hold : (wr.alloc (.cells x.cells.toArray 27)).heap[W1.heap.size]? = some (.cells x.cells.toArray 27 (0, 0)) := by
    rw [(below_alloc wr _).block _ hlt, hx4]
  refine ⟨l1 (some ⟨wr.heap.size, 0, none⟩) 1 x, deep1_succ _ _ hx1, ?_, ?_, ?_, ?_⟩
  · refine ⟨by omega, by omega, by decide, by omega, by decide, ⟨by omega, by decide⟩, ⟨Nat.le_refl _, by decide⟩, fun i hi => ?_, fun i hi => absurd hi (Nat.not_lt_zero _)⟩
    obtain rfl : i = 0 := by omega
    exact ⟨⟨wr.heap.size, 0, rfl, At.from (by omega) hh (at_new rfl (Below.refl _ _))⟩, V.In.from hh hx3 (hx2.below (below_alloc _ _))⟩
  · refine ⟨fun a h => ?_, (fun a h => by cases h), fun i hi => hx3, fun i hi => absurd hi (Nat.not_lt_zero _)⟩
    cases h
    show W1.heap.size + 1 ≤ wr.heap.size
    omega
  · subst hW
    match hxc : x.cells, hc with
    | [b0, b1, b2, b3, b4, b5, b6, b7], _ =>
      rw [hxc] at hold
      simp [World.setCell, Array.getElem?_modify, l1, V.cells, hold]
  · subst hW
    refine Below.setCell (Below.setCell (Below.setCell (Below.setCell (Below.setCell (Below.setCell (Below.setCell (Below.setCell (hx5.trans ((below_alloc wr _).mono hx5.size)) ?_ _) ?_ _) ?_ _) ?_ _) ?_ _) ?_ _) ?_ _) ?_ _ <;> exact Nat.le_refl _

theorem zs_get : ∀ (k i j : Nat), i < k → j < 8 → (zs k)[i * 8 + j]? = (vz 0 0 ⟨#[]⟩).cells[j]? := by
  intro k
  induction k with
  | zero => exact fun i j hi _ => absurd hi (Nat.not_lt_zero _)
  | succ k ih =>
    intro i j hi hj
    rw [zs]
    rcases Nat.lt_succ_iff_lt_or_eq.1 hi with h | rfl
    · rw [List.getElem?_append_left (by rw [zs_length]; omega)]
      exact ih i j h hj
    · rw [List.getElem?_append_right (by rw [zs_length]; omega), zs_length]
      congr 1
      omega

theorem lz_in {w : World} {B k lc : Nat} {la : Option Addr} (hk : k ≤ 5000) (h : w.ownsRow B 27 8 (.slice la k lc) k (zs k)) : (lz la k lc).In w := by
  have hl : k ≤ lc ∧ lc ≤ maxLen := by
    rcases h.2 with ⟨h0, h1⟩ | ⟨g, cap, cur, h0, _, _, h1, h2, _⟩
    · cases h0; exact ⟨Nat.le_refl _, by decide⟩
    · cases h0; exact ⟨h1, h2⟩
  refine ⟨by omega, by omega, by decide, by omega, by decide, hl, ⟨Nat.le_refl _, by decide⟩, fun i hi => ⟨?_, vz_in w (by omega) (by omega) (by decide)⟩, fun i hi => absurd hi (Nat.not_lt_zero _)⟩
  rcases h.2 with ⟨h0, h1⟩ | ⟨g, cap, cur, h0, _⟩
  · omega
  · cases h0
    refine ⟨g, 0, rfl, fun j hj => ?_⟩
    have h8 : j < 8 := hj
    have hz := zs_get k i j hi h8
    have := h.cells (g := g) rfl (i * 8 + j) _ (by rw [hz]; exact List.getElem?_eq_getElem hj)
    rw [add_plain, Nat.zero_add] at this
    rw [Nat.zero_add, this]
    exact (List.getElem?_eq_getElem hj).symm

/-- What is known at the end: the four values lie in memory. -/
structure LimOk (w : World) (B D E : Nat) (la : Option Addr) (k lc : Nat) (x : V) (S : ByteArray) (W : World) : Prop where
  low : Below w.heap.size w W
  tabs : Tabs W
  l : (lz la k lc).In W
  xin : x.In W
  s : S.size ≤ 5000
  cl : At W B 0 (lz la k lc).cells
  cx : At W D 0 x.cells
  ct : At W E 0 (vz 3 0 S).cells
  ck : At W (E + 1) 0 (kx S).cells

theorem LimOk.below {w W W' : World} {B D E : Nat} {la : Option Addr} {k lc : Nat} {x : V} {S : ByteArray} (h : LimOk w B D E la k lc x S W) (hb : Below W.heap.size W W') : LimOk w B D E la k lc x S W' :=
  ⟨h.low.trans (hb.mono h.low.size), h.tabs.below hb, h.l.below hb, h.xin.below hb, h.s, h.cl.below hb, h.cx.below hb, h.ct.below hb, h.ck.below hb⟩

theorem kx_in (w : World) {s : ByteArray} (hs : s.size ≤ 5000) : (kx s).In w :=
  ⟨by omega, by omega, by decide, by omega, by unfold maxLen; omega, ⟨Nat.le_refl _, by decide⟩, ⟨Nat.le_refl _, by decide⟩, fun i hi => absurd hi (Nat.not_lt_zero _), fun i hi => absurd hi (Nat.not_lt_zero _)⟩

theorem lim_ok {w W1 wr w3 : World} {k lc : Nat} {la : Option Addr} {v : Value} {x : V} {S : ByteArray} (ht : Tabs w) (hv : v = .slice la k lc) (hk : k ≤ 5000)
    (hh : W1.heap[w.heap.size]? = some (.cells #[.int .u8 4, .int .i64 0, .string ⟨#[]⟩, v, .slice none 0 0, .int .u8 0, .string ⟨#[]⟩, .bool false] 27 (0, 0))) (hown : W1.ownsRow (w.heap.size + 1) 27 8 v k (zs k))
    (hb : Below w.heap.size w W1) (hx1 : x.In wr) (hx4 : wr.heap[W1.heap.size]? = some (.cells x.cells.toArray 27 (0, 0))) (hx5 : Below W1.heap.size W1 wr) (hg : wr.grownBy w3 none) (hS : S.size ≤ 5000) :
    LimOk w w.heap.size W1.heap.size w3.heap.size la k lc x S ((w3.alloc (.cells (vz 3 0 S).cells.toArray 27)).alloc (.cells (kx S).cells.toArray 27)) := by
  subst hv
  have b3 : Below wr.heap.size wr w3 := (Below.refl _ _).grown hg (Nat.le_refl _) (fun k e => by cases e)
  have b4 : Below w3.heap.size w3 ((w3.alloc (.cells (vz 3 0 S).cells.toArray 27)).alloc (.cells (kx S).cells.toArray 27)) := (below_alloc _ _).alloc (by simp) _
  have b5 : Below wr.heap.size wr ((w3.alloc (.cells (vz 3 0 S).cells.toArray 27)).alloc (.cells (kx S).cells.toArray 27)) := b3.trans (b4.mono b3.size)
  have b6 : Below W1.heap.size W1 ((w3.alloc (.cells (vz 3 0 S).cells.toArray 27)).alloc (.cells (kx S).cells.toArray 27)) := hx5.trans (b5.mono hx5.size)
  have b7 := hb.trans (b6.mono hb.size)
  refine ⟨b7, ht.below b7, (lz_in hk hown).below b6, hx1.below b5, hS, At.below b6 (at_heap (T := 27) (r := (0, 0)) hh), At.below b5 (at_heap hx4), ?_, ?_⟩
  · exact At.below (below_alloc _ _) (at_new rfl (Below.refl _ _))
  · exact at_new (by simp) (Below.refl _ _)

theorem spell {x : Int} {b : Bool} (c d : Int) (h : decide (x + 1 ≤ d) = b) (hc : d = c + 1) : decide (x < d) = b ∧ decide (x ≤ c) = b := by
  subst h
  constructor <;> rw [Bool.eq_iff_iff, decide_eq_true_iff, decide_eq_true_iff] <;> omega
theorem spellN {x d : Nat} {b : Bool} (h : decide (x ≤ d) = b) : decide ((x : Int) ≤ (d : Int)) = b := by
  subst h
  rw [Bool.eq_iff_iff, decide_eq_true_iff, decide_eq_true_iff]; omega

theorem vz_one : ∀ u ∈ (vz 0 0 ⟨#[]⟩).cells, u.oneCell' = true := by
  intro u hu
  simp [vz, V.cells] at hu
  rcases hu with rfl | rfl | rfl | rfl | rfl | rfl | rfl <;> rfl

theorem grown_trans {a b c : World} {row : Option Nat} (h : a.grownBy b row) (k : b.grownBy c row) : a.grownBy c row :=
  ⟨k.os.trans h.os, k.tape.trans h.tape, k.output.trans h.output, Nat.le_trans h.size k.size, fun i hi hne => (k.block i (Nat.lt_of_lt_of_le hi h.size) hne).trans (h.block i hi hne)⟩

theorem grown_heap {w w' : World} {row : Option Nat} {B : Nat} {o : Obj} (hg : w.grownBy w' row) (h : w.heap[B]? = some o) (hne : some B ≠ row) : w'.heap[B]? = some o := by
  rw [hg.block B (Array.getElem?_eq_some_iff.1 h).1 hne, h]

set_option maxRecDepth 100000 in
set_option maxHeartbeats 2000000 in
theorem limits_any (w : World) (n d l : Int) (hn : 0 ≤ n ∧ n ≤ 65535) (hd : 0 ≤ d ∧ d ≤ 255) (hl : 0 ≤ l ∧ l ≤ 65535) (ht : Tabs w) :
    Calls Tryd.prog 7 #[.int .u16 n, .int .u8 d, .int .u16 l] w fun x w' => x = .returned (.bool true) ∧ Below w.heap.size w w' := by
  obtain ⟨i0, hi, hz0, hz1, hz2⟩ := info_parts info_val
  have HI := Lib.hid (And.intro hi (And.intro hz0 (And.intro hz1 hz2)))
  clear hi hz0 hz1 hz2
  have HT := Lib.hid ht
  clear ht
  go_enter Tryd.func7, Tryd.ntmps7
  go_wp2_with fail
  go_loopw [8] (fun i wr => ∃ k : Nat, (k : Int) ≤ n % 5000 ∧ i = .int .i64 k ∧ L1 w k wr) (fun i _ => (n % 5000).toNat - (intOf i).toNat)
  case atStart =>
    refine ⟨0, by omega, rfl, none, 0, .slice none 0 0, rfl, ?_, World.ownsRow_nil _ _ _ _, below_alloc _ _⟩
    show (w.heap.push _)[_]? = _
    rw [Array.getElem?_push, if_pos rfl]
  case round =>
    obtain ⟨k, hk, rfl, la, lc, v, hv, hh, hown, hb⟩ := hrel
    have HV := Lib.hid hv
    clear hv
    have hBlt : w.heap.size < wr.heap.size := (Array.getElem?_eq_some_iff.1 hh).1
    by_cases hlt : (k : Int) < n % 5000
    · have c3 : wr.cell? ⟨w.heap.size, 3, none⟩ = some v := by rw [Lib.cell_of_heap hh]; rfl
      obtain ⟨hi, hz0, hz1, hz2⟩ := HI.out
      have HH := Lib.hid hh
      have HB := Lib.hid hb
      clear hh hb
      have HW := Lib.hid hown
      have HLT := Lib.hid hBlt
      clear hBlt
      go_wp2_with (at_builtin; refine wpList_append_own _ rfl _ _ 23 rfl (w.heap.size + 1) 27 i0 _ 8 112 Tryd.underlying23 hi hz0 hz1 hz2 rfl (by decide) _ _ _ rfl (hown.alloc _) ⟨wr.heap.size, 0, none⟩ 1 1 (vz 0 0 ⟨#[]⟩).cells rfl rfl new_cells vz_one (by unfold maxLen; omega) (by omega) (by have := HLT.out; simp; omega) ?_)
      intro v' w1 hown' hgrow _
      obtain ⟨g, cap, rfl⟩ : ∃ g cap, v' = .slice (some ⟨g, 0, none⟩) (k + 1) cap := by
        rcases hown'.2 with ⟨_, h0⟩ | ⟨g, cap, cur, e, _⟩
        · omega
        · exact ⟨g, cap, e⟩
      have hg0 : wr.grownBy w1 v.ownBlock := grown_trans (World.grownBy_alloc wr _ _) hgrow
      have HH1 := Lib.hid (grown_heap hg0 HH.out (fun e => by have := (hown.lt _ e.symm).1; omega))
      have HO := Lib.hid hown'
      have HB1 := Lib.hid (HB.out.grown hg0 HB.out.size (fun k e => by have := (hown.lt _ e).1; omega))
      have d3 : w1.cell? ⟨w.heap.size, 3, none⟩ = some v := by rw [Lib.cell_of_heap HH1.out]; rfl
      have d4 : w1.frozen? ⟨w.heap.size, 3, none⟩ = false := Lib.frozen_of_heap HH1.out 3
      clear hown' hgrow hown c3 hi hz0 hz1 hz2 hg0
      go_wp2_with fail
      go_roundw
      case rel => exact ⟨k + 1, by omega, by go_num, L1.put rfl rfl HH1.out HO.out HB1.out⟩
      case measure => simp [intOf]; omega
    · obtain ⟨W1, rfl⟩ : ∃ W1, W1 = wr := ⟨wr, rfl⟩
      have HH := Lib.hid hh
      clear hh
      go_wp2_with fail
      go_loopw [10] (fun i W => ∃ j : Nat, (j : Int) ≤ d ∧ i = .int .i64 j ∧ NestAt W1 j W) (fun i _ => d.toNat - (intOf i).toNat)
      case atStart =>
        refine ⟨0, by omega, rfl, vz 0 0 ⟨#[]⟩, deep1_zero, vz_in _ (by omega) (by omega) (by decide), ⟨(fun a h => by cases h), (fun a h => by cases h), fun i hi => absurd hi (Nat.not_lt_zero _), fun i hi => absurd hi (Nat.not_lt_zero _)⟩, ?_, below_alloc _ _⟩
        show (W1.heap.push _)[_]? = _
        rw [Array.getElem?_push, if_pos rfl]
        rfl
      case round =>
        rename_i W2 _
        obtain ⟨j, hj, rfl, x, hx1, hx2, hx3, hx4, hx5⟩ := hrel
        by_cases hlt2 : (j : Int) < d
        · have hat := at_heap hx4
          have hfz := fun o => Lib.frozen_of_heap hx4 o
          have HX := Lib.hid (And.intro hx1 (And.intro hx2 (And.intro hx3 (And.intro hx4 hx5))))
          clear hx1 hx2 hx3 hx4 hx5
          cases x with
          | leaf => exact HX.out.2.1.elim
          | mk k2 n2 s2 la2 ll2 lc2 L2 fa2 fl2 fc2 fn2 F2 e2 key2 hk2 =>
          obtain ⟨c0, c1, c2, c3, c4, c5, c6, c7⟩ := at80 hat
          have hlt3 : W1.heap.size < wr.heap.size := (Array.getElem?_eq_some_iff.1 HX.out.2.2.2.1).1
          have a0 := fun O => cell_alloc O c0
          have f0 := fun O => frozen_alloc O hlt3 (hfz 0)
          have a1 := fun O => cell_alloc O c1
          have f1 := fun O => frozen_alloc O hlt3 (hfz 1)
          have a2 := fun O => cell_alloc O c2
          have f2 := fun O => frozen_alloc O hlt3 (hfz 2)
          have a3 := fun O => cell_alloc O c3
          have f3 := fun O => frozen_alloc O hlt3 (hfz 3)
          have a4 := fun O => cell_alloc O c4
          have f4 := fun O => frozen_alloc O hlt3 (hfz 4)
          have a5 := fun O => cell_alloc O c5
          have f5 := fun O => frozen_alloc O hlt3 (hfz 5)
          have a6 := fun O => cell_alloc O c6
          have f6 := fun O => frozen_alloc O hlt3 (hfz 6)
          have a7 := fun O => cell_alloc O c7
          have f7 := fun O => frozen_alloc O hlt3 (hfz 7)
          have HL3 := Lib.hid hlt3
          clear hlt3
          clear hat hfz
          go_wp2_with fail
          go_roundw
          case rel =>
            have HP := NestAt.put HX.out.1 HX.out.2.1 HX.out.2.2.1 HX.out.2.2.2.1 HX.out.2.2.2.2
            simp only [V.cells] at HP
            exact ⟨j + 1, by omega, by go_num, HP⟩
          case measure => simp [intOf]; omega
        · have HX := Lib.hid (And.intro hx1 (And.intro hx2 (And.intro hx3 (And.intro hx4 hx5))))
          clear hx1 hx2 hx3 hx4 hx5
          obtain ⟨m, hm, hm2⟩ : ∃ m : Nat, l % 5000 = (m : Int) ∧ m < 5000 := ⟨(l % 5000).toNat, by omega, by omega⟩
          obtain ⟨i1, hi1, hy0, hy1, hy2⟩ := info_parts info_byte
          have HM := Lib.hid hm
          clear hm
          go_wp2_with (refine wpList_make_full _ rfl _ _ 40 rfl (wr.heap.size) 5 i1 _ 1 Tryd.underlying40 hi1 hy0 hy1 _ _ _ _ m rfl rfl HM.out HM.out (by rw [hy2]; omega) (by unfold maxLen; omega) (Nat.le_refl _) ?_)
          intro w3 hown3 hgr3
          have kc := run_convert_bytes_arg (w := w3) 40 5 Tryd.underlying40 Tryd.underlying5 wr.heap.size 0 m m (List.replicate m 0) (by simp) (fun i hi => by
            have := hown3.cells (g := wr.heap.size) rfl i (.int .u8 0) (by simp [toList_madeCells_one, hi])
            rw [add_plain] at this
            rw [this]
            simp [hi]) 9 Tryd.underlying9
          have hS : (strOfNums (List.replicate m 0)).size = m := by rw [strOfNums_size]; simp
          generalize strOfNums (List.replicate m 0) = S at kc hS
          have HG3 := Lib.hid (And.intro hown3 hgr3)
          have HS := Lib.hid hS
          clear hown3 hgr3 hi1 hy0 hy1 hy2 hS
          go_wp2_with fail
          clear kc
          have OK := lim_ok HT.out HV.out (by omega) HH.out hown hb HX.out.2.1 HX.out.2.2.2.1 HX.out.2.2.2.2 HG3.out.2 (S := S) (by have := HS.out; omega)
          cases x with
          | leaf => exact HX.out.2.1.elim
          | mk k2 n2 s2 la2 ll2 lc2 L2 fa2 fl2 fc2 fn2 F2 e2 key2 hk2 =>
          have C0 := Lib.hid (fun W (h : LimOk w w.heap.size W1.heap.size w3.heap.size la k lc (.mk k2 n2 s2 la2 ll2 lc2 L2 fa2 fl2 fc2 fn2 F2 e2 key2 hk2) S W) => alive_any W h.tabs)
          have C1 := Lib.hid (fun W (h : LimOk w w.heap.size W1.heap.size w3.heap.size la k lc (.mk k2 n2 s2 la2 ll2 lc2 L2 fa2 fl2 fc2 fn2 F2 e2 key2 hk2) S W) => check_any (lz la k lc) W h.l h.tabs.1)
          have C2 := Lib.hid (fun W (h : LimOk w w.heap.size W1.heap.size w3.heap.size la k lc (.mk k2 n2 s2 la2 ll2 lc2 L2 fa2 fl2 fc2 fn2 F2 e2 key2 hk2) S W) => check_any (.mk k2 n2 s2 la2 ll2 lc2 L2 fa2 fl2 fc2 fn2 F2 e2 key2 hk2) W h.xin h.tabs.1)
          have C3 := Lib.hid (fun W (h : LimOk w w.heap.size W1.heap.size w3.heap.size la k lc (.mk k2 n2 s2 la2 ll2 lc2 L2 fa2 fl2 fc2 fn2 F2 e2 key2 hk2) S W) => check_any (vz 3 0 S) W (vz_in W (by omega) (by omega) (by have := h.s; unfold maxLen; omega)) h.tabs.1)
          have C4 := Lib.hid (fun W (h : LimOk w w.heap.size W1.heap.size w3.heap.size la k lc (.mk k2 n2 s2 la2 ll2 lc2 L2 fa2 fl2 fc2 fn2 F2 e2 key2 hk2) S W) => check_any (kx S) W (kx_in W h.s) h.tabs.1)
          rw [deep1_check (by omega) HX.out.1] at C2
          simp only [lz_check, tx_check, kx_check] at C1 C3 C4
          have hjd : (j : Int) = d := by omega
          have hkn : (k : Int) = n % 5000 := by omega
          have e1 : decide (k + 1 ≤ 4096) = decide (n % 5000 + 1 ≤ 4096) := by rw [Bool.eq_iff_iff, decide_eq_true_iff, decide_eq_true_iff]; omega
          have e2' : decide (j + 1 ≤ 64) = decide (d + 1 ≤ 64) := by rw [Bool.eq_iff_iff, decide_eq_true_iff, decide_eq_true_iff]; omega
          rw [e1] at C1
          rw [e2'] at C2
          simp only [lz, vz, kx, V.agg, V.cells] at C1 C2 C3 C4
          have KS : Hid (∀ W, LimOk w w.heap.size W1.heap.size w3.heap.size la k lc (.mk k2 n2 s2 la2 ll2 lc2 L2 fa2 fl2 fc2 fn2 F2 e2 key2 hk2) S W → _) := fun W h => (And.intro h (And.intro (at80 h.cl) (And.intro (at80 h.cx) (And.intro (at80 h.ct) (at80 h.ck)))))
          simp only [vz, kx, V.cells] at OK
          have sw1 : IntKind.i64.wrap (n % 5000 + 1) = n % 5000 + 1 := IntWalk.i64_in _ (by omega)
          have sw2 : IntKind.i64.wrap (d + 1) = d + 1 := IntWalk.i64_in _ (by omega)
          have sw3 : Int.tmod n 5000 = n % 5000 := Int.tmod_eq_emod_of_nonneg (by omega)
          have sw4 : IntKind.i64.wrap n = n := IntWalk.i64_in _ (by omega)
          have sw5 : IntKind.i64.wrap d = d := IntWalk.i64_in _ (by omega)
          have SW := Lib.hid (And.intro sw1 (And.intro sw2 (And.intro sw3 (And.intro sw4 sw5))))
          clear sw1 sw2 sw3 sw4 sw5 hjd hkn e1 e2' hown hb hBlt
          obtain ⟨b1, q1⟩ : ∃ b, decide (n % 5000 + 1 ≤ 4096) = b := ⟨_, rfl⟩
          obtain ⟨b2, q2⟩ : ∃ b, decide (d + 1 ≤ 64) = b := ⟨_, rfl⟩
          obtain ⟨b3, q3⟩ : ∃ b, decide (S.size ≤ 4096) = b := ⟨_, rfl⟩
          · rw [q1] at C1
            rw [q2] at C2
            rw [q3] at C3 C4
            obtain ⟨sw1, sw2, sw3, sw4, sw5⟩ := SW.out
            obtain ⟨q1a, q1b⟩ := spell 4095 4096 q1 rfl
            obtain ⟨q2a, q2b⟩ := spell 63 64 q2 rfl
            have q3a : decide ((S.size : Int) ≤ 4096) = _ := spellN q3
            go_region_held3 (fun W => LimOk w w.heap.size W1.heap.size w3.heap.size la k lc (.mk k2 n2 s2 la2 ll2 lc2 L2 fa2 fl2 fc2 fn2 F2 e2 key2 hk2) S W ∧
            (W.cell? ⟨w.heap.size, 0, none⟩ = some (.int .u8 4) ∧ W.cell? ⟨w.heap.size, 1, none⟩ = some (.int .i64 0) ∧ W.cell? ⟨w.heap.size, 2, none⟩ = some (.string ⟨#[]⟩) ∧ W.cell? ⟨w.heap.size, 3, none⟩ = some (.slice la k lc) ∧ W.cell? ⟨w.heap.size, 4, none⟩ = some (.slice none 0 0) ∧ W.cell? ⟨w.heap.size, 5, none⟩ = some (.int .u8 0) ∧ W.cell? ⟨w.heap.size, 6, none⟩ = some (.string ⟨#[]⟩) ∧ W.cell? ⟨w.heap.size, 7, none⟩ = some (.bool false)) ∧
            (W.cell? ⟨W1.heap.size, 0, none⟩ = some (.int .u8 k2) ∧ W.cell? ⟨W1.heap.size, 1, none⟩ = some (.int .i64 n2) ∧ W.cell? ⟨W1.heap.size, 2, none⟩ = some (.string s2) ∧ W.cell? ⟨W1.heap.size, 3, none⟩ = some (.slice la2 ll2 lc2) ∧ W.cell? ⟨W1.heap.size, 4, none⟩ = some (.slice fa2 fl2 fc2) ∧ W.cell? ⟨W1.heap.size, 5, none⟩ = some (.int .u8 e2) ∧ W.cell? ⟨W1.heap.size, 6, none⟩ = some (.string key2) ∧ W.cell? ⟨W1.heap.size, 7, none⟩ = some (.bool hk2)) ∧
            (W.cell? ⟨w3.heap.size, 0, none⟩ = some (.int .u8 3) ∧ W.cell? ⟨w3.heap.size, 1, none⟩ = some (.int .i64 0) ∧ W.cell? ⟨w3.heap.size, 2, none⟩ = some (.string S) ∧ W.cell? ⟨w3.heap.size, 3, none⟩ = some (.slice none 0 0) ∧ W.cell? ⟨w3.heap.size, 4, none⟩ = some (.slice none 0 0) ∧ W.cell? ⟨w3.heap.size, 5, none⟩ = some (.int .u8 0) ∧ W.cell? ⟨w3.heap.size, 6, none⟩ = some (.string ⟨#[]⟩) ∧ W.cell? ⟨w3.heap.size, 7, none⟩ = some (.bool false)) ∧
            (W.cell? ⟨w3.heap.size + 1, 0, none⟩ = some (.int .u8 6) ∧ W.cell? ⟨w3.heap.size + 1, 1, none⟩ = some (.int .i64 0) ∧ W.cell? ⟨w3.heap.size + 1, 2, none⟩ = some (.string ⟨#[]⟩) ∧ W.cell? ⟨w3.heap.size + 1, 3, none⟩ = some (.slice none 0 0) ∧ W.cell? ⟨w3.heap.size + 1, 4, none⟩ = some (.slice none 0 0) ∧ W.cell? ⟨w3.heap.size + 1, 5, none⟩ = some (.int .u8 4) ∧ W.cell? ⟨w3.heap.size + 1, 6, none⟩ = some (.string S) ∧ W.cell? ⟨w3.heap.size + 1, 7, none⟩ = some (.bool true)))
              (first | exact KS.out _ (OK.below (Below.refl _ _).drew) | exact KS.out _ (LimOk.below (by go_split_ands; assumption) (by assumption)))
              (first
                | (go_at_call 20; refine (C0.out _ ?_).mono ?_; (go_split_ands; assumption); rintro x w1 ⟨rfl, hb1⟩)
                | (go_at_call 11; refine (C1.out _ ?_).mono ?_; (go_split_ands; assumption); rintro x w1 ⟨rfl, hb1⟩)
                | (go_at_call 11; refine (C2.out _ ?_).mono ?_; (go_split_ands; assumption); rintro x w1 ⟨rfl, hb1⟩)
                | (go_at_call 11; refine (C3.out _ ?_).mono ?_; (go_split_ands; assumption); rintro x w1 ⟨rfl, hb1⟩)
                | (go_at_call 11; refine (C4.out _ ?_).mono ?_; (go_split_ands; assumption); rintro x w1 ⟨rfl, hb1⟩))
            go_wp2_with fail
            go_ret
            exact ⟨rfl, by go_split_ands; exact LimOk.low (by assumption)⟩
end Go.Proofs.YtglhbggihdfieaaDoor
