/-
  Lists of values beside boxes of values, in a later world; what push, len, at answer of them, wherever the list of their values stands.
  Conditions: the values lie in memory; the three tables hold what the program's text lays in them.
-/
import Derived.Test.YtjbapldlgnlepaaGreatDoorBoxF
import Derived.Test.YtjbapldlgnlepaaGreatDoorSizeX
namespace Go.Proofs.YtjbapldlgnlepaaGreatDoor
open Go.RowKit Go.Deep Go.WideShapes

def lsz (ll : Nat) (L : Nat → V) : Int := foldTo ll (fun i a => addS a (L i).vsz) ll
theorem lsz_range {ll : Nat} {L : Nat → V} (h : ll ≤ maxLen) : -9223372036854775808 ≤ lsz ll L ∧ lsz ll L ≤ 9223372036854775807 :=
  foldS_range (n := ll) (by unfold maxLen at h; omega) ll
theorem valuesVsz_any (la : Option Addr) (ll lc : Nat) (L : Nat → V) (w : World) (h : Vals w la ll lc L) :
    Calls Tryz.prog 14 #[.slice la ll lc] w fun e w' => e = .returned (.int .i64 (lsz ll L)) ∧ Below w.heap.size w w' :=
  valuesSize_is la ll lc L (fun i => (L i).vsz) w h.hlc (fun _ => vsz_range _) (fun i hi => ⟨(h.el i hi).1, fun W hb => valueSize_is (L i) W ((h.el i hi).2.below hb)⟩) (fun i hi => in_cells (h.el i hi).2)

/-- A list and boxes of values, in a later world. -/
structure LX (w : World) (la : Option Addr) (ll lc : Nat) (L : Nat → V) (bs : List (Nat × V)) (W : World) : Prop where
  low : Below w.heap.size w W
  tabs : Tabs W
  vals : Vals W la ll lc L
  boxes : ∀ p ∈ bs, w.heap.size ≤ p.1 ∧ At W p.1 0 p.2.cells ∧ p.2.In W
variable {w W W' : World} {la : Option Addr} {ll lc : Nat} {L : Nat → V} {bs : List (Nat × V)}
theorem LX.below (h : LX w la ll lc L bs W) (hb : Below W.heap.size W W') : LX w la ll lc L bs W' :=
  ⟨h.low.trans (hb.mono h.low.size), h.tabs.below hb, h.vals.below hb, fun p hp => ⟨(h.boxes p hp).1, (h.boxes p hp).2.1.below hb, (h.boxes p hp).2.2.below hb⟩⟩
theorem LX.alloc (h : LX w la ll lc L bs W) (O : Obj) : LX w la ll lc L bs (W.alloc O) := h.below (below_alloc _ _)
theorem LX.drew (h : LX w la ll lc L bs W) : LX w la ll lc L bs W.drew := h.below (Below.refl _ _).drew
theorem LX.push {u : V} {T : TypeId} (h : LX w la ll lc L bs W) (hu : u.In W) : LX w la ll lc L ((W.heap.size, u) :: bs) (W.alloc (.cells u.cells.toArray T)) := by
  have h1 := h.alloc (.cells u.cells.toArray T)
  refine ⟨h1.low, h1.tabs, h1.vals, fun p hp => ?_⟩
  rcases List.mem_cons.1 hp with rfl | hp
  · exact ⟨h.low.size, at_new rfl (Below.refl _ _), hu.below (below_alloc _ _)⟩
  · exact h1.boxes p hp
theorem LX.tail {p : Nat × V} (h : LX w la ll lc L (p :: bs) W) : LX w la ll lc L bs W := ⟨h.low, h.tabs, h.vals, fun q hq => h.boxes q (.tail _ hq)⟩
/-- The box is filled: it was laid behind 'W1'. -/
theorem LX.store {W1 : World} {b B : Nat} {u : V} (h1 : LX w la ll lc L bs W1) (hl : Below W1.heap.size W1 W) (hb : W1.heap.size ≤ b) (hz : ZB b W) (hf : u.From B) (hlt : b < B) (hin : u.In W) : LX w la ll lc L ((b, u) :: bs) (putL W b 0 u.cells) := by
  have h2 := h1.below (putL_low hl b 0 u.cells hb)
  refine ⟨h2.low, h2.tabs, h2.vals, fun p hp => ?_⟩
  rcases List.mem_cons.1 hp with rfl | hp
  · refine ⟨Nat.le_trans h1.low.size hb, putL_at _ _ _ _ fun i hi => ?_, in_putL hf hin hlt⟩
    have h8 : i < nv.cells.length := by
      have := in_cells hin
      rw [this] at hi
      exact hi
    exact ⟨_, (hz.at' i h8).trans (List.getElem?_eq_getElem h8)⟩
  · exact h2.boxes p hp
theorem ZB.lt' {b : Nat} {W : World} (h : ZB b W) : b < W.heap.size := World.block_lt_of_cell? _ _ (h.at' 0 (by decide))
theorem dr_low (h : Below W.drew.heap.size W.drew W') : Below W.heap.size W W' := (Below.refl W.heap.size W).drew.trans (h.mono (Nat.le_refl _))
theorem dr_low2 {O : Obj} (h : Below (W.alloc O).drew.heap.size (W.alloc O).drew W') : Below W.heap.size W W' := below_al (dr_low h)

/-- What a region of 'do' leaves: its answer in a box of its own. -/
def BoxCut (w : World) (la : Option Addr) (ll lc : Nat) (L : Nat → V) (bs : List (Nat × V)) (x : V) (s : Value) (p : Nat) (W : World) : Prop := ∃ u : V, s = .bool true ∧ x.same u = true ∧ LX w la ll lc L ((p, u) :: bs) W
theorem boxcut_alloc {x u : V} {T : TypeId} (h : LX w la ll lc L bs W) (hu : u.In W) (hs : x.same u = true) : BoxCut w la ll lc L bs x (.bool true) W.heap.size (W.alloc (.cells u.cells.toArray T)) := ⟨u, rfl, hs, h.push hu⟩
theorem boxcut_store {W1 : World} {b B : Nat} {x u : V} (h1 : LX w la ll lc L bs W1) (hl : Below W1.heap.size W1 W) (hb : W1.heap.size ≤ b) (hz : ZB b W) (hf : u.From B) (hlt : b < B) (hin : u.In W) (hs : x.same u = true) : BoxCut w la ll lc L bs x (.bool true) b (putL W b 0 u.cells) := ⟨u, rfl, hs, h1.store hl hb hz hf hlt hin⟩

theorem putL8 (W : World) (b : Nat) (a0 a1 a2 a3 a4 a5 a6 a7 : Value) : ((((((((W.setCell ⟨b, 0, none⟩ a0).setCell ⟨b, 1, none⟩ a1).setCell ⟨b, 2, none⟩ a2).setCell ⟨b, 3, none⟩ a3).setCell ⟨b, 4, none⟩ a4).setCell ⟨b, 5, none⟩ a5).setCell ⟨b, 6, none⟩ a6).setCell ⟨b, 7, none⟩ a7) = putL W b 0 [a0, a1, a2, a3, a4, a5, a6, a7] := rfl
theorem boxcut_alloc8 {x : V} {T : TypeId} {k' n' : Int} {s' : ByteArray} {la' : Option Addr} {ll' lc' : Nat} {L' : Nat → V} {fa' : Option Addr} {fl' fc' : Nat} {fn' : Nat → ByteArray} {F' : Nat → V} {e' : Int} {key' : ByteArray} {hk' : Bool} (h : LX w la ll lc L bs W) (hu : V.In W (V.mk k' n' s' la' ll' lc' L' fa' fl' fc' fn' F' e' key' hk')) (hs : x.same (V.mk k' n' s' la' ll' lc' L' fa' fl' fc' fn' F' e' key' hk') = true) : BoxCut w la ll lc L bs x (.bool true) W.heap.size (W.alloc (.cells #[.int .u8 k', .int .i64 n', .string s', .slice la' ll' lc', .slice fa' fl' fc', .int .u8 e', .string key', .bool hk'] T)) := boxcut_alloc h hu hs
theorem boxcut_store8 {W1 : World} {b B : Nat} {x : V} {k' n' : Int} {s' : ByteArray} {la' : Option Addr} {ll' lc' : Nat} {L' : Nat → V} {fa' : Option Addr} {fl' fc' : Nat} {fn' : Nat → ByteArray} {F' : Nat → V} {e' : Int} {key' : ByteArray} {hk' : Bool} (h1 : LX w la ll lc L bs W1) (hl : Below W1.heap.size W1 W) (hb : W1.heap.size ≤ b) (hz : ZB b W) (hf : (V.mk k' n' s' la' ll' lc' L' fa' fl' fc' fn' F' e' key' hk').From B) (hlt : b < B) (hin : V.In W (V.mk k' n' s' la' ll' lc' L' fa' fl' fc' fn' F' e' key' hk')) (hs : x.same (V.mk k' n' s' la' ll' lc' L' fa' fl' fc' fn' F' e' key' hk') = true) : BoxCut w la ll lc L bs x (.bool true) b ((((((((W.setCell ⟨b, 0, none⟩ (.int .u8 k')).setCell ⟨b, 1, none⟩ (.int .i64 n')).setCell ⟨b, 2, none⟩ (.string s')).setCell ⟨b, 3, none⟩ (.slice la' ll' lc')).setCell ⟨b, 4, none⟩ (.slice fa' fl' fc')).setCell ⟨b, 5, none⟩ (.int .u8 e')).setCell ⟨b, 6, none⟩ (.string key')).setCell ⟨b, 7, none⟩ (.bool hk')) := by
  have h := boxcut_store h1 hl hb hz hf hlt hin hs
  simp only [V.cells] at h
  rw [putL8]
  exact h

/-! ### What is answered -/
theorem lists_facts {v x y : V} (hv : v.same v = true) (h1 : doB ⟨#[108, 105, 115, 116]⟩ ll L = true) (hx : doB ⟨#[108, 105, 115, 116]⟩ ll L = true → (doV ⟨#[108, 105, 115, 116]⟩ ll L).same x = true) (h2 : doB ⟨#[112, 117, 115, 104]⟩ 2 (v2 x v) = true) (hy : doB ⟨#[112, 117, 115, 104]⟩ 2 (v2 x v) = true → (doV ⟨#[112, 117, 115, 104]⟩ 2 (v2 x v)).same y = true) :
    (lv none (ll + 1) (ll + 1) (snocV ll L v)).check = true ∧ (lv none (ll + 1) (ll + 1) (snocV ll L v)).same y = true := by
  have hx' := hx h1
  have hy' := hy h2
  rw [do_list.2] at hx'
  have hs : ∀ i, i < 2 → (v2 (lv none ll ll L) v i).same (v2 x v i) = true := fun i hi => by
    match i, hi with
    | 0, _ => exact hx'
    | 1, _ => exact hv
  have he := do_ext (name := ⟨#[112, 117, 115, 104]⟩) hs
  rw [he.1] at h2
  have h4 := he.2 h2
  rw [do_push.2] at h4
  have h3 := h2
  rw [do_push.1, Bool.and_eq_true] at h3
  exact ⟨h3.2, same_trans _ _ _ h4 hy'⟩
theorem at_facts {m : Nat} {M : Nat → V} {y : V} (hc : (lv none m m M).check = true) (hs : (lv none m m M).same y = true) (i : Nat) :
    doB ⟨#[97, 116]⟩ 2 (v2 y (iv i)) = true ∧ (if i < m then M i else nv).same (doV ⟨#[97, 116]⟩ 2 (v2 y (iv i))) = true := by
  have h := do_at hc i
  have hx : ∀ j, j < 2 → (v2 (lv none m m M) (iv i) j).same (v2 y (iv i) j) = true := fun j hj => by
    match j, hj with
    | 0, _ => exact hs
    | 1, _ => exact iv_same _
  have he := do_ext (name := ⟨#[97, 116]⟩) hx
  have h2 := he.2 h.1
  rw [h.2] at h2
  exact ⟨he.1.trans h.1, h2⟩
theorem len_facts {m : Nat} {M : Nat → V} {y : V} (hc : (lv none m m M).check = true) (hs : (lv none m m M).same y = true) :
    doB ⟨#[108, 101, 110]⟩ 1 (v1 y) = true ∧ (iv m).same (doV ⟨#[108, 101, 110]⟩ 1 (v1 y)) = true := by
  have h := do_lenl hc
  have hx : ∀ j, j < 1 → (v1 (lv none m m M) j).same (v1 y j) = true := fun j hj => hs
  have he := do_ext (name := ⟨#[108, 101, 110]⟩) hx
  have h2 := he.2 h.1
  rw [h.2] at h2
  exact ⟨he.1.trans h.1, h2⟩

/-- 'push', wherever the list of its two values stands. -/
theorem doPush_at {x v : V} {sb : Nat} (ha : At W sb 0 (x.cells ++ v.cells)) (ht : Tabs W) (hx : x.In W) (hv : v.In W) :
    Calls Tryz.prog 70 #[.string ⟨#[112, 117, 115, 104]⟩, .slice (some ⟨sb, 0, none⟩) 2 2] W fun q w' => ∃ u : V, q = .returned (.tuple #[u.agg, .bool (doB ⟨#[112, 117, 115, 104]⟩ 2 (v2 x v))]) ∧ u.In w' ∧ (doB ⟨#[112, 117, 115, 104]⟩ 2 (v2 x v) = true → (doV ⟨#[112, 117, 115, 104]⟩ 2 (v2 x v)).same u = true) ∧ Below W.heap.size W w' := by
  refine (lDo_new _ _ 2 2 _ W (vals_two ha hx hv) ht).mono ?_
  rintro q w' ⟨u, rfl, h1, h2, -, -, h5⟩
  exact ⟨u, rfl, h1, h2, h5⟩
/-- 'len', wherever the list of its value stands. -/
theorem doLen_at {m : Nat} {M : Nat → V} {y : V} {sb : Nat} {z : Int} (ha : At W sb 0 y.cells) (ht : Tabs W) (hy : y.In W) (hc : (lv none m m M).check = true) (hs : (lv none m m M).same y = true) (hz : (m : Int) = z) :
    Calls Tryz.prog 70 #[.string ⟨#[108, 101, 110]⟩, .slice (some ⟨sb, 0, none⟩) 1 1] W fun q w' => ∃ u : V, q = .returned (.tuple #[u.agg, .bool true]) ∧ u.In w' ∧ (iv z).same u = true ∧ Below W.heap.size W w' := by
  have hf := len_facts hc hs
  rw [hz] at hf
  refine (lDo_new _ _ 1 1 _ W (vals_one ha hy) ht).mono ?_
  rintro q w' ⟨u, rfl, h1, h2, -, -, h5⟩
  rw [hf.1] at h2 ⊢
  exact ⟨u, rfl, h1, same_trans _ _ _ hf.2 (h2 rfl), h5⟩
/-- 'at', wherever the list of its two values stands. -/
theorem doAt_at {m i : Nat} {M : Nat → V} {y x : V} {sb : Nat} {z : Int} (ha : At W sb 0 (y.cells ++ (iv z).cells)) (ht : Tabs W) (hy : y.In W) (hc : (lv none m m M).check = true) (hs : (lv none m m M).same y = true) (hz : (i : Int) = z) (hi : z ≤ 9223372036854775807) (hx : (if i < m then M i else nv) = x) :
    Calls Tryz.prog 70 #[.string ⟨#[97, 116]⟩, .slice (some ⟨sb, 0, none⟩) 2 2] W fun q w' => ∃ u : V, q = .returned (.tuple #[u.agg, .bool true]) ∧ u.In w' ∧ x.same u = true ∧ u.From W.heap.size ∧ Below W.heap.size W w' := by
  have hf := at_facts hc hs i
  rw [hx, hz] at hf
  refine (lDo_new _ _ 2 2 _ W (vals_two ha hy (iv_in _ _ (by omega))) ht).mono ?_
  rintro q w' ⟨u, rfl, h1, h2, -, h4, h5⟩
  rw [hf.1] at h2 ⊢
  exact ⟨u, rfl, h1, same_trans _ _ _ hf.2 (h2 rfl), h4, h5⟩
end Go.Proofs.YtjbapldlgnlepaaGreatDoor
