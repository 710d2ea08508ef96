/-
  Walks: alive() answers true; old memory is as it was.
  Conditions: the three tables hold what the program's text lays in them.
-/
import Derived.Test.YtglhbggihdfieaaDoorAliveP
import Derived.Test.YtglhbggihdfieaaDoorText
import Derived.Test.YtglhbggihdfieaaDoorCount
import Derived.Test.YtglhbggihdfieaaDoorSame2
namespace Go.Proofs.YtglhbggihdfieaaDoor
open Go.RowKit

/-- What the program's three tables hold. -/
def Tabs (w : World) : Prop := RowsAt w ∧ WordsAt w ∧ Lib.TabIs Tryd.prog w "internal/strconv.uint64pow10" .u64 Lib.pow10Tab

theorem Tabs.below {w w' : World} (h : Tabs w) (hb : Below w.heap.size w w') : Tabs w' := ⟨h.1.below hb, h.2.1.below hb, tab_below h.2.2 hb⟩

theorem vz_in (w : World) {k n : Int} {s : ByteArray} (hk : 0 ≤ k ∧ k ≤ 255) (hn : -9223372036854775808 ≤ n ∧ n ≤ 9223372036854775807) (hs : s.size ≤ maxLen) : (vz k n s).In w :=
  ⟨hk, hn, hs, by omega, by decide, ⟨Nat.le_refl _, by decide⟩, ⟨Nat.le_refl _, by decide⟩, fun i hi => absurd hi (Nat.not_lt_zero _), fun i hi => absurd hi (Nat.not_lt_zero _)⟩

/-- Cells within cells. -/
theorem At.sub {w : World} {b o : Nat} {cs ds tl : List Value} (h : At w b o cs) (k : Nat) (hk : cs.drop k = ds ++ tl) : At w b (o + k) ds := by
  intro i hi
  have hki : cs[k + i]? = ds[i]? := by rw [← List.getElem?_drop, hk, List.getElem?_append_left hi]
  have hlt : k + i < cs.length := by
    rw [List.getElem?_eq_getElem hi] at hki
    exact (List.getElem?_eq_some_iff.1 hki).1
  rw [Nat.add_assoc, h _ hlt, hki]

/-- The cells of a block that is known. -/
theorem at_heap {w : World} {B : Nat} {cs : List Value} {T : TypeId} {r : Nat × Nat} (h : w.heap[B]? = some (.cells cs.toArray T r)) : At w B 0 cs := by
  intro i hi
  rw [Lib.cell_of_heap h]
  simp

theorem alL_in (w : World) (B : Nat) (h : At w B 0 ((vz 0 0 ⟨#[]⟩).cells ++ ((vz 1 (-5) ⟨#[]⟩).cells ++ ((vz 2 1 ⟨#[]⟩).cells ++ (vz 3 0 ⟨#[97, 34, 98]⟩).cells)))) : (alL B).In w := by
  refine ⟨by omega, by omega, by decide, by omega, by decide, ⟨by omega, by decide⟩, ⟨Nat.le_refl _, by decide⟩, fun i hi => ?_, fun i hi => absurd hi (Nat.not_lt_zero _)⟩
  match i, hi with
  | 0, _ => exact ⟨⟨B, 0, rfl, h.sub 0 (tl := _) rfl⟩, vz_in w (by omega) (by omega) (by decide)⟩
  | 1, _ => exact ⟨⟨B, 0, rfl, h.sub 8 (tl := _) rfl⟩, vz_in w (by omega) (by omega) (by decide)⟩
  | 2, _ => exact ⟨⟨B, 0, rfl, h.sub 16 (tl := _) rfl⟩, vz_in w (by omega) (by omega) (by decide)⟩
  | 3, _ => exact ⟨⟨B, 0, rfl, h.sub 24 (tl := _) rfl⟩, vz_in w (by omega) (by omega) (by decide)⟩

theorem alH_in (w : World) (B C : Nat) (h : At w B 0 (.string ⟨#[105, 100]⟩ :: (vz 1 5 ⟨#[]⟩).cells)) (h' : At w C 0 (vz 3 0 ⟨#[104, 105]⟩).cells) : (alH B C).In w := by
  refine ⟨by omega, by omega, by decide, by omega, by decide, ⟨by omega, by decide⟩, ⟨Nat.le_refl _, by decide⟩, fun i hi => ?_, fun i hi => ?_⟩
  · obtain rfl : i = 0 := by omega
    exact ⟨⟨C, 0, rfl, h'⟩, vz_in w (by omega) (by omega) (by decide)⟩
  · obtain rfl : i = 0 := by omega
    exact ⟨⟨B, 0, rfl, h⟩, by decide, vz_in w (by omega) (by omega) (by decide)⟩

/-- What alive() lays in memory. -/
def alW (w : World) : World :=
  ((((w.alloc (.cells ((vz 0 0 ⟨#[]⟩).cells ++ ((vz 1 (-5) ⟨#[]⟩).cells ++ ((vz 2 1 ⟨#[]⟩).cells ++ (vz 3 0 ⟨#[97, 34, 98]⟩).cells))).toArray 27)).alloc
    (.cells (alL w.heap.size).cells.toArray 27)).alloc (.cells (Value.string ⟨#[105, 100]⟩ :: (vz 1 5 ⟨#[]⟩).cells).toArray 38)).alloc
    (.cells (vz 3 0 ⟨#[104, 105]⟩).cells.toArray 27)).alloc (.cells (alH (w.heap.size + 1 + 1) (w.heap.size + 1 + 1 + 1)).cells.toArray 27)

/-- What is known of a world behind alive()'s memory. -/
structure AlOk (w W : World) : Prop where
  low : Below w.heap.size w W
  l : (alL w.heap.size).In W
  h : (alH (w.heap.size + 1 + 1) (w.heap.size + 1 + 1 + 1)).In W
  tabs : Tabs W
  cl : At W (w.heap.size + 1) 0 (alL w.heap.size).cells
  ch : At W (w.heap.size + 1 + 1 + 1 + 1) 0 (alH (w.heap.size + 1 + 1) (w.heap.size + 1 + 1 + 1)).cells

theorem AlOk.below {w W W' : World} (h : AlOk w W) (hb : Below W.heap.size W W') : AlOk w W' :=
  ⟨h.low.trans (hb.mono h.low.size), h.l.below hb, h.h.below hb, h.tabs.below hb, h.cl.below hb, h.ch.below hb⟩

theorem alOk (w : World) (ht : Tabs w) : AlOk w (alW w) := by
  have hl : Below w.heap.size w (alW w) := by
    refine Below.alloc (Below.alloc (Below.alloc (Below.alloc (Below.alloc (Below.refl _ _) ?_ _) ?_ _) ?_ _) ?_ _) ?_ _ <;> simp <;> omega
  refine ⟨hl, alL_in _ _ (at_heap (T := 27) (r := (0, 0)) ?_), alH_in _ _ _ (at_heap (T := 38) (r := (0, 0)) ?_) (at_heap (T := 27) (r := (0, 0)) ?_), ht.below hl, at_heap (T := 27) (r := (0, 0)) ?_, at_heap (T := 27) (r := (0, 0)) ?_⟩ <;>
  · show (((((w.heap.push _).push _).push _).push _).push _)[_]? = _
    repeat' (first | rw [Array.getElem?_push, if_pos (by first | (simp; done) | (simp; omega))] | rw [Array.getElem?_push, if_neg (by first | (simp; done) | (simp; omega))])

theorem at80 {w : World} {b : Nat} {k n : Int} {s : ByteArray} {la : Option Addr} {ll lc : Nat} {L : Nat → V} {fa : Option Addr} {fl fc : Nat} {fn : Nat → ByteArray} {F : Nat → V} {e : Int} {key : ByteArray} {hk : Bool}
    (h : At w b 0 (V.mk k n s la ll lc L fa fl fc fn F e key hk).cells) :
    w.cell? ⟨b, 0, none⟩ = some (.int .u8 k) ∧ w.cell? ⟨b, 1, none⟩ = some (.int .i64 n) ∧ w.cell? ⟨b, 2, none⟩ = some (.string s) ∧ w.cell? ⟨b, 3, none⟩ = some (.slice la ll lc) ∧ w.cell? ⟨b, 4, none⟩ = some (.slice fa fl fc) ∧
      w.cell? ⟨b, 5, none⟩ = some (.int .u8 e) ∧ w.cell? ⟨b, 6, none⟩ = some (.string key) ∧ w.cell? ⟨b, 7, none⟩ = some (.bool hk) := by
  have := at8 h
  simpa using this
end Go.Proofs.YtglhbggihdfieaaDoor
