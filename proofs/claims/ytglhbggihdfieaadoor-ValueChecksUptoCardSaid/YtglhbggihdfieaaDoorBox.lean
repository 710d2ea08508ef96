/-
  Two values in boxes of their own, as a law's arguments lie: what is known of them in every later world.
  Conditions: none.
-/
import Derived.Test.YtglhbggihdfieaaDoorBeyond
import Derived.Test.YtglhbggihdfieaaDoorAliveW
import Derived.Deep.RegionHeld3
namespace Go.Proofs.YtglhbggihdfieaaDoor
open Go.RowKit Go.Deep Go.WideShapes

/-- Two values, each in a box, the first two blocks behind 'w'. -/
structure Box2 (w : World) (v u : V) (W : World) : Prop where
  low : Below w.heap.size w W
  tabs : Tabs W
  vin : v.In W
  uin : u.In W
  cv : At W w.heap.size 0 v.cells
  cu : At W (w.heap.size + 1) 0 u.cells

theorem Box2.below {w : World} {v u : V} {W W' : World} (h : Box2 w v u W) (hb : Below W.heap.size W W') : Box2 w v u W' :=
  ⟨h.low.trans (hb.mono h.low.size), h.tabs.below hb, h.vin.below hb, h.uin.below hb, h.cv.below hb, h.cu.below hb⟩

theorem size_alloc' (w : World) (O : Obj) : (w.alloc O).heap.size = w.heap.size + 1 := by simp

theorem box2 {w : World} {v u : V} (ht : Tabs w) (hv : v.In w) (hu : u.In w) (T : TypeId) : Box2 w v u ((w.alloc (.cells v.cells.toArray T)).alloc (.cells u.cells.toArray T)) := by
  have b : Below w.heap.size w ((w.alloc (.cells v.cells.toArray T)).alloc (.cells u.cells.toArray T)) := (below_alloc _ _).alloc (by rw [size_alloc']; omega) _
  refine ⟨b, ht.below b, hv.below b, hu.below b, ?_, ?_⟩
  · exact At.below (below_alloc _ _) (at_new rfl (Below.refl _ _))
  · exact at_new (size_alloc' _ _).symm (Below.refl _ _)

/-- Two numbers as a row. -/
def two (x y : Int) : Nat → Int := fun i => if i = 0 then x else y
theorem two_range {x y : Int} (hx : -9223372036854775808 ≤ x ∧ x ≤ 9223372036854775807) (hy : -9223372036854775808 ≤ y ∧ y ≤ 9223372036854775807) : ∀ i, -9223372036854775808 ≤ two x y i ∧ two x y i ≤ 9223372036854775807 := by
  intro i
  unfold two
  split
  · exact hx
  · exact hy
theorem ints2_is (W : World) (x y : Int) (T : TypeId) : IntsIs (W.alloc (.cells #[.int .i64 x, .int .i64 y] T)) W.heap.size 0 2 (two x y) := by
  intro j hj
  match j, hj with
  | 0, _ => simp [two]
  | 1, _ => simp [two]
theorem beyond2 (W : World) (x y : Int) (hx : -9223372036854775808 ≤ x ∧ x ≤ 9223372036854775807) (hy : -9223372036854775808 ≤ y ∧ y ≤ 9223372036854775807) (T : TypeId) :
    Calls Tryd.prog 8 #[.slice (some ⟨W.heap.size, 0, none⟩) 2 2] (W.alloc (.cells #[.int .i64 x, .int .i64 y] T)) fun e w' => e = .returned (.bool (beyB 2 (two x y))) ∧ W.alloc (.cells #[.int .i64 x, .int .i64 y] T) = w' :=
  beyond_is _ _ _ _ _ _ (by decide) (ints2_is _ _ _ _) (two_range hx hy)
end Go.Proofs.YtglhbggihdfieaaDoor
