/-
  Walks: the closures in value.Size and value.Deep, and the two, answer 'V.size', 'V.depth'; old memory is as it was.
  Conditions: the value lies in memory; it has at most 2^40 parts.
  Walks: alive() answers true; old memory is as it was.
  Conditions: the three tables hold what the program's text lays in them.
  Walks: alive() answers true; old memory is as it was.
  Conditions: the three tables hold what the program's text lays in them.
  Walks: ValueLimits returns true; old memory is as it was.
  Conditions: the three tables hold what the program's text lays in them.
-/
import Derived.Test.YtmhemajcnfcdmaaGreatDoorOMb
import Derived.Test.YtmhemajcnfcdmaaGreatDoorSize
import Derived.Test.YtmhemajcnfcdmaaGreatDoorCheck
import Derived.Test.YtmhemajcnfcdmaaGreatDoorOMd
import Derived.Lib.MinMax
import Derived.Test.YtmhemajcnfcdmaaGreatDoorTabs
import Derived.OwnWalk
import Derived.Laws.OwnMore
import Derived.IntWalk
import Derived.Laws.BytesArg
import Derived.Deep.RegionHeld3
namespace Go.Proofs.YtmhemajcnfcdmaaGreatDoor
open Go.RowKit
theorem sumTo_mono (f : Nat → Nat) {j n : Nat} (h : j ≤ n) : sumTo j f ≤ sumTo n f := by
  induction n with
  | zero => obtain rfl : j = 0 := by omega
            exact Nat.le_refl _
  | succ n ih =>
    rcases Nat.lt_or_ge n j with hj | hj
    · obtain rfl : j = n + 1 := by omega
      exact Nat.le_refl _
    · have := ih hj
      rw [sumTo]; omega
theorem maxTo_le_sumTo (n : Nat) (f g : Nat → Nat) (h : ∀ i, i < n → f i ≤ g i) : maxTo n f ≤ sumTo n g := by
  rw [maxTo_le]
  exact fun i hi => Nat.le_trans (h i hi) (le_sumTo hi)
theorem depth_le_size : ∀ v : V, v.depth ≤ v.size := by
  intro v
  induction v with
  | leaf => exact Nat.le_refl _
  | mk k n s la ll lc L fa fl fc fn F e key hk ihL ihF =>
    have h1 := maxTo_le_sumTo ll (fun i => (L i).depth) (fun i => (L i).size) (fun i _ => ihL i)
    have h2 := maxTo_le_sumTo fl (fun i => (F i).depth) (fun i => (F i).size) (fun i _ => ihF i)
    simp only [V.depth, V.size]
    omega
theorem w64 {n : Int} (h : -9223372036854775808 ≤ n ∧ n ≤ 9223372036854775807) : wrap64 n = n := by unfold wrap64; omega
theorem int_eq {a b : Int} (h : a = b) : Value.int .i64 a = .int .i64 b := by rw [h]
theorem ret_i {a b : Int} (h : a = b) : Ending.returned (.int .i64 a) = .returned (.int .i64 b) := by rw [h]
end Go.Proofs.YtmhemajcnfcdmaaGreatDoor
namespace Go.Proofs.YtmhemajcnfcdmaaGreatDoor
open Go.RowKit
structure AlOk (w W : World) : Prop where
  low : Below w.heap.size w W
  l : (alL w.heap.size).In W
  h : (alH (w.heap.size + 1 + 1) (w.heap.size + 1 + 1 + 1)).In W
  tabs : Tabs W
  cl : At W (w.heap.size + 1) 0 (alL w.heap.size).cells
  ch : At W (w.heap.size + 1 + 1 + 1 + 1) 0 (alH (w.heap.size + 1 + 1) (w.heap.size + 1 + 1 + 1)).cells
theorem AlOk.below {w W W' : World} (h : AlOk w W) (hb : Below W.heap.size W W') : AlOk w W' :=
  ⟨h.low.trans (hb.mono h.low.size), h.l.below hb, h.h.below hb, h.tabs.below hb, h.cl.below hb, h.ch.below hb⟩
theorem at80 {w : World} {b : Nat} {k n : Int} {s : ByteArray} {la : Option Addr} {ll lc : Nat} {L : Nat → V} {fa : Option Addr} {fl fc : Nat} {fn : Nat → ByteArray} {F : Nat → V} {e : Int} {key : ByteArray} {hk : Bool}
    (h : At w b 0 (V.mk k n s la ll lc L fa fl fc fn F e key hk).cells) :
    w.cell? ⟨b, 0, none⟩ = some (.int .u8 k) ∧ w.cell? ⟨b, 1, none⟩ = some (.int .i64 n) ∧ w.cell? ⟨b, 2, none⟩ = some (.string s) ∧ w.cell? ⟨b, 3, none⟩ = some (.slice la ll lc) ∧ w.cell? ⟨b, 4, none⟩ = some (.slice fa fl fc) ∧
      w.cell? ⟨b, 5, none⟩ = some (.int .u8 e) ∧ w.cell? ⟨b, 6, none⟩ = some (.string key) ∧ w.cell? ⟨b, 7, none⟩ = some (.bool hk) := by
  have := at8 h
  simpa using this
end Go.Proofs.YtmhemajcnfcdmaaGreatDoor

namespace Go.Proofs.YtmhemajcnfcdmaaGreatDoor
open Go.RowKit Go.Deep Go.WideShapes
theorem info_val : (Tryz.prog.info? 30).map (fun i => (i.zero, i.size, i.bytes)) = some (some (vz 0 0 ⟨#[]⟩).agg, 8, 112) := by kernel_rfl
def zs : Nat → List Value
  | 0 => []
  | k + 1 => zs k ++ (vz 0 0 ⟨#[]⟩).cells
def L1 (w : World) (k : Nat) (wr : World) : Prop := ∃ la lc, ∃ v, v = Value.slice la k lc ∧ wr.heap[w.heap.size]? = some (.cells #[.int .u8 4, .int .i64 0, .string ⟨#[]⟩, v, .slice none 0 0, .int .u8 0, .string ⟨#[]⟩, .bool false] 30 (0, 0)) ∧
  wr.ownsRow (w.heap.size + 1) 30 8 v k (zs k) ∧ Below w.heap.size w wr
theorem L1.put {w w1 : World} {k lc : Nat} {la : Option Addr} {v v' : Value} {cs : Array Value} (hv : v' = .slice la k lc) (hcs : cs = #[.int .u8 4, .int .i64 0, .string ⟨#[]⟩, v, .slice none 0 0, .int .u8 0, .string ⟨#[]⟩, .bool false])
    (hh : w1.heap[w.heap.size]? = some (.cells cs 30 (0, 0))) (hown : w1.ownsRow (w.heap.size + 1) 30 8 v' k (zs k)) (hb : Below w.heap.size w w1) :
    L1 w k (w1.setCell ⟨w.heap.size, 3, none⟩ v') := by
  subst hcs
  refine ⟨la, lc, v', hv, ?_, ownsRow_setCell_below hown (by show w.heap.size < _; omega) v', hb.setCell (p := ⟨w.heap.size, 3, none⟩) (Nat.le_refl _) v'⟩
  simp [World.setCell, Array.getElem?_modify, hh]
theorem new_cells {w : World} {cs : List Value} {T : TypeId} : ∀ j u, cs[j]? = some u → (w.alloc (.cells cs.toArray T)).cell? ((⟨w.heap.size, 0, none⟩ : Addr).add j) = some u := by
  intro j u hu
  have : ((⟨w.heap.size, 0, none⟩ : Addr).add j) = ⟨w.heap.size, j, none⟩ := by simpa using add_plain w.heap.size 0 j
  rw [this]
  have h0 := at_new (w := w) (w' := w.alloc (.cells cs.toArray T)) (cs := cs) (T := T) rfl (Below.refl _ _)
  have hj : j < cs.length := (List.getElem?_eq_some_iff.1 hu).1
  have := h0 j hj
  rwa [Nat.zero_add, hu] at this
def NestAt (wr : World) (k : Nat) (W : World) : Prop := ∃ x : V, Deep1 x k ∧ x.In W ∧ x.From (wr.heap.size + 1) ∧ W.heap[wr.heap.size]? = some (.cells x.cells.toArray 30 (0, 0)) ∧ Below wr.heap.size wr W
theorem NestAt.put {W1 wr : World} {j : Nat} {x : V} (hx1 : Deep1 x j) (hx2 : x.In wr) (hx3 : x.From (W1.heap.size + 1)) (hx4 : wr.heap[W1.heap.size]? = some (.cells x.cells.toArray 30 (0, 0))) (hx5 : Below W1.heap.size W1 wr) :
    NestAt W1 (j + 1) (((((((((wr.alloc (.cells x.cells.toArray 30)).setCell ⟨W1.heap.size, 0, none⟩ (.int .u8 4)).setCell ⟨W1.heap.size, 1, none⟩ (.int .i64 0)).setCell ⟨W1.heap.size, 2, none⟩ (.string ⟨#[]⟩)).setCell ⟨W1.heap.size, 3, none⟩ (.slice (some ⟨wr.heap.size, 0, none⟩) 1 1)).setCell ⟨W1.heap.size, 4, none⟩ (.slice none 0 0)).setCell ⟨W1.heap.size, 5, none⟩ (.int .u8 0)).setCell ⟨W1.heap.size, 6, none⟩ (.string ⟨#[]⟩)).setCell ⟨W1.heap.size, 7, none⟩ (.bool false)) := by
  have hlt : W1.heap.size < wr.heap.size := (Array.getElem?_eq_some_iff.1 hx4).1
  have hc : x.cells.length = 8 := by
    cases x with
    | leaf => exact hx2.elim
    | mk => rfl
  generalize hW : ((((((((wr.alloc (.cells x.cells.toArray 30)).setCell ⟨W1.heap.size, 0, none⟩ (.int .u8 4)).setCell ⟨W1.heap.size, 1, none⟩ (.int .i64 0)).setCell ⟨W1.heap.size, 2, none⟩ (.string ⟨#[]⟩)).setCell ⟨W1.heap.size, 3, none⟩ (.slice (some ⟨wr.heap.size, 0, none⟩) 1 1)).setCell ⟨W1.heap.size, 4, none⟩ (.slice none 0 0)).setCell ⟨W1.heap.size, 5, none⟩ (.int .u8 0)).setCell ⟨W1.heap.size, 6, none⟩ (.string ⟨#[]⟩)).setCell ⟨W1.heap.size, 7, none⟩ (.bool false) = W
  have hh : ∀ a : Addr, W1.heap.size + 1 ≤ a.block → a.block < (wr.alloc (.cells x.cells.toArray 30)).heap.size → W.cell? a = (wr.alloc (.cells x.cells.toArray 30)).cell? a := by
    intro a ha _
    refine World.cell?_of_block ?_
    have hne : W1.heap.size ≠ a.block := by omega
    subst hW
    simp [World.setCell, Array.getElem?_modify, hne]
  have hold : (wr.alloc (.cells x.cells.toArray 30)).heap[W1.heap.size]? = some (.cells x.cells.toArray 30 (0, 0)) := by
    rw [(below_alloc wr _).block _ hlt, hx4]
  refine ⟨l1 (some ⟨wr.heap.size, 0, none⟩) 1 x, deep1_succ _ _ hx1, ?_, ?_, ?_, ?_⟩
  · refine ⟨by omega, by omega, by decide, by omega, by decide, ⟨by omega, by decide⟩, ⟨Nat.le_refl _, by decide⟩, fun i hi => ?_, fun i hi => absurd hi (Nat.not_lt_zero _)⟩
    obtain rfl : i = 0 := by omega
    exact ⟨⟨wr.heap.size, 0, rfl, At.from (by omega) hh (at_new rfl (Below.refl _ _))⟩, V.In.from hh hx3 (hx2.below (below_alloc _ _))⟩
  · refine ⟨fun a h => ?_, (fun a h => by cases h), fun i hi => hx3, fun i hi => absurd hi (Nat.not_lt_zero _)⟩
    cases h
    show W1.heap.size + 1 ≤ wr.heap.size
    omega
  · subst hW
    match hxc : x.cells, hc with
    | [b0, b1, b2, b3, b4, b5, b6, b7], _ =>
      rw [hxc] at hold
      simp [World.setCell, Array.getElem?_modify, l1, V.cells, hold]
  · subst hW
    refine Below.setCell (Below.setCell (Below.setCell (Below.setCell (Below.setCell (Below.setCell (Below.setCell (Below.setCell (hx5.trans ((below_alloc wr _).mono hx5.size)) ?_ _) ?_ _) ?_ _) ?_ _) ?_ _) ?_ _) ?_ _) ?_ _ <;> exact Nat.le_refl _
structure LimOk (w : World) (B D E : Nat) (la : Option Addr) (k lc : Nat) (x : V) (S : ByteArray) (W : World) : Prop where
  low : Below w.heap.size w W
  tabs : Tabs W
  l : (lz la k lc).In W
  xin : x.In W
  s : S.size ≤ 5000
  cl : At W B 0 (lz la k lc).cells
  cx : At W D 0 x.cells
  ct : At W E 0 (vz 3 0 S).cells
  ck : At W (E + 1) 0 (kx S).cells
theorem LimOk.below {w W W' : World} {B D E : Nat} {la : Option Addr} {k lc : Nat} {x : V} {S : ByteArray} (h : LimOk w B D E la k lc x S W) (hb : Below W.heap.size W W') : LimOk w B D E la k lc x S W' :=
  ⟨h.low.trans (hb.mono h.low.size), h.tabs.below hb, h.l.below hb, h.xin.below hb, h.s, h.cl.below hb, h.cx.below hb, h.ct.below hb, h.ck.below hb⟩
theorem grown_trans {a b c : World} {row : Option Nat} (h : a.grownBy b row) (k : b.grownBy c row) : a.grownBy c row :=
  ⟨k.os.trans h.os, k.tape.trans h.tape, k.output.trans h.output, Nat.le_trans h.size k.size, fun i hi hne => (k.block i (Nat.lt_of_lt_of_le hi h.size) hne).trans (h.block i hi hne)⟩
end Go.Proofs.YtmhemajcnfcdmaaGreatDoor
