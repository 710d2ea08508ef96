/-
  A region that draws its order and lays a box of its own: the box empty ('ZB'), and filled behind the call ('BX.store').
  Conditions: none.
-/
import Derived.Test.YtalckcmjmpobeaaDoorOpNum
namespace Go.Proofs.YtalckcmjmpobeaaDoor
open Go.RowKit Go.Deep Go.WideShapes

/-- An empty box. -/
structure ZB (b : Nat) (W : World) : Prop where
  at' : At W b 0 nv.cells
  fz : ∀ i, W.frozen? ⟨b, i, none⟩ = false
theorem ZB.below {b : Nat} {W W' : World} (h : ZB b W) (hb : Below W.heap.size W W') : ZB b W' := by
  have hlt : b < W.heap.size := World.block_lt_of_cell? _ _ (h.at' 0 (by decide))
  exact ⟨h.at'.below hb, fun i => by rw [hb.frozen (p := ⟨b, i, none⟩) hlt]; exact h.fz i⟩
theorem zb_new (W : World) (T : TypeId) : ZB W.heap.size (W.alloc (.cells #[.int .u8 0, .int .i64 0, .string ⟨#[]⟩, .slice none 0 0, .slice none 0 0, .int .u8 0, .string ⟨#[]⟩, .bool false] T)) :=
  ⟨at_new (cs := nv.cells) rfl (Below.refl _ _), fun i => by simp⟩
/-- The box was laid behind the slice, or ahead of it, or ahead of what came first. -/
theorem zb_B {W w' : World} {S : Obj} {T : TypeId} (h : Below ((W.alloc S).alloc (.cells #[.int .u8 0, .int .i64 0, .string ⟨#[]⟩, .slice none 0 0, .slice none 0 0, .int .u8 0, .string ⟨#[]⟩, .bool false] T)).heap.size ((W.alloc S).alloc (.cells #[.int .u8 0, .int .i64 0, .string ⟨#[]⟩, .slice none 0 0, .slice none 0 0, .int .u8 0, .string ⟨#[]⟩, .bool false] T)) w') : ZB (W.heap.size + 1) w' := by
  have h1 := (zb_new (W.alloc S) T).below h
  simpa using h1
theorem zb_C {W w' : World} {S : Obj} {T : TypeId} (h : Below ((W.alloc (.cells #[.int .u8 0, .int .i64 0, .string ⟨#[]⟩, .slice none 0 0, .slice none 0 0, .int .u8 0, .string ⟨#[]⟩, .bool false] T)).alloc S).heap.size ((W.alloc (.cells #[.int .u8 0, .int .i64 0, .string ⟨#[]⟩, .slice none 0 0, .slice none 0 0, .int .u8 0, .string ⟨#[]⟩, .bool false] T)).alloc S) w') : ZB W.heap.size w' :=
  ((zb_new W T).below (below_alloc _ _)).below h
theorem zb_T {W w' : World} {T : TypeId} (h : Below (W.alloc (.cells #[.int .u8 0, .int .i64 0, .string ⟨#[]⟩, .slice none 0 0, .slice none 0 0, .int .u8 0, .string ⟨#[]⟩, .bool false] T)).drew.heap.size (W.alloc (.cells #[.int .u8 0, .int .i64 0, .string ⟨#[]⟩, .slice none 0 0, .slice none 0 0, .int .u8 0, .string ⟨#[]⟩, .bool false] T)).drew w') : ZB W.heap.size w' :=
  ((zb_new W T).below (Below.refl _ _).drew).below h
theorem ZB.slots {b : Nat} {W : World} (h : ZB b W) :
    (W.cell? ⟨b, 0, none⟩ = some (.int .u8 0) ∧ W.cell? ⟨b, 1, none⟩ = some (.int .i64 0) ∧ W.cell? ⟨b, 2, none⟩ = some (.string ⟨#[]⟩) ∧ W.cell? ⟨b, 3, none⟩ = some (.slice none 0 0) ∧ W.cell? ⟨b, 4, none⟩ = some (.slice none 0 0) ∧ W.cell? ⟨b, 5, none⟩ = some (.int .u8 0) ∧ W.cell? ⟨b, 6, none⟩ = some (.string ⟨#[]⟩) ∧ W.cell? ⟨b, 7, none⟩ = some (.bool false)) ∧
    (W.frozen? ⟨b, 0, none⟩ = false ∧ W.frozen? ⟨b, 1, none⟩ = false ∧ W.frozen? ⟨b, 2, none⟩ = false ∧ W.frozen? ⟨b, 3, none⟩ = false ∧ W.frozen? ⟨b, 4, none⟩ = false ∧ W.frozen? ⟨b, 5, none⟩ = false ∧ W.frozen? ⟨b, 6, none⟩ = false ∧ W.frozen? ⟨b, 7, none⟩ = false) :=
  ⟨bx_get h.at', h.fz 0, h.fz 1, h.fz 2, h.fz 3, h.fz 4, h.fz 5, h.fz 6, h.fz 7⟩

theorem BX.alloc {w0 W : World} {l : List (Nat × List Value)} (h : BX w0 l W) (O : Obj) : BX w0 l (W.alloc O) := h.below (below_alloc _ _)
theorem BX.drew {w0 W : World} {l : List (Nat × List Value)} (h : BX w0 l W) : BX w0 l W.drew := h.below (Below.refl _ _).drew
/-- The box is filled. -/
theorem BX.store {w0 W : World} {l : List (Nat × List Value)} {b : Nat} (h : BX w0 l W) (hz : ZB b W) (hne : ∀ p ∈ l, p.1 ≠ b) (hb : w0.heap.size ≤ b) (hg : ∀ W', Below w0.heap.size w0 W' → Tabs W') (cs : List Value) (h8 : cs.length = 8) : BX w0 ((b, cs) :: l) (putL W b 0 cs) := by
  have hl := putL_low h.low b 0 cs hb
  refine ⟨hl, hg _ hl, fun p hp => ?_⟩
  rcases List.mem_cons.1 hp with rfl | hp
  · refine putL_at _ _ _ _ fun i hi => ?_
    rw [h8] at hi
    have := hz.at' i hi
    exact ⟨_, this.trans (List.getElem?_eq_getElem hi)⟩
  · intro i hi
    rw [World.cell?_of_block (w := W) (putL_block _ _ _ _ _ (hne p hp))]
    exact h.at' p hp i hi

/-- The statements' do, wherever its list of values stands. -/
theorem lDo_at {nm : ByteArray} {n sb : Nat} {W : World} {L : Nat → V} (hV : Vals W (some ⟨sb, 0, none⟩) n n L) (ht : Tabs W) :
    Calls Tryd.prog 8 #[.string nm, .slice (some ⟨sb, 0, none⟩) n n] W fun e w' => ∃ u : V, e = .returned (.tuple #[u.agg, .bool (doB nm n L)]) ∧ u.In w' ∧ (doB nm n L = true → (doV nm n L).same u = true) ∧ (doB nm n L = false → u = nv) ∧ Below W.heap.size W w' := lDo_any nm _ n n L W hV ht

theorem vals_two {W : World} {b : Nat} {x y : V} (ha : At W b 0 (x.cells ++ y.cells)) (hx : x.In W) (hy : y.In W) : Vals W (some ⟨b, 0, none⟩) 2 2 (v2 x y) := by
  refine ⟨⟨Nat.le_refl _, by decide⟩, fun i hi => ?_⟩
  have h8 := in_cells hx
  match i, hi with
  | 0, _ => exact ⟨⟨b, 0, rfl, fun j hj => by
      have hj8 : j < 8 := by rw [← h8]; exact hj
      have := ha j (by rw [List.length_append]; omega)
      rw [List.getElem?_append_left (by omega)] at this
      rw [Nat.zero_mul, Nat.add_zero]; exact this⟩, hx⟩
  | 1, _ => exact ⟨⟨b, 0, rfl, fun j hj => by
      have hj' : j < y.cells.length := hj
      have := ha (8 + j) (by rw [List.length_append]; omega)
      rw [List.getElem?_append_right (by omega), h8, Nat.add_sub_cancel_left] at this
      rw [show 0 + 1 * 8 + j = 0 + (8 + j) by omega]; exact this⟩, hy⟩
/-- Behind what was laid. -/
theorem below_al {W w' : World} {O : Obj} (h : Below (W.alloc O).heap.size (W.alloc O) w') : Below W.heap.size W w' := (below_alloc W O).trans (h.mono (by simp))
theorem BX.lt {w0 W : World} {l : List (Nat × List Value)} (h : BX w0 l W) : ∀ p ∈ l, 0 < p.2.length → p.1 < W.heap.size := fun p hp h0 => World.block_lt_of_cell? _ _ ((h.at' p hp 0 h0).trans (List.getElem?_eq_getElem h0))
theorem BX.ne {w0 W : World} {l : List (Nat × List Value)} {b : Nat} (h : BX w0 l W) (hl : l.all (fun p => decide (0 < p.2.length)) = true) (hb : W.heap.size ≤ b) : ∀ p ∈ l, p.1 ≠ b := fun p hp => Nat.ne_of_lt (Nat.lt_of_lt_of_le (h.lt p hp (of_decide_eq_true (List.all_eq_true.1 hl p hp))) hb)
theorem BX.grew {w0 W : World} {l : List (Nat × List Value)} (h : BX w0 l W) : w0.heap.size ≤ W.heap.size := h.low.size
/-- The box is filled: it was laid behind 'W1'. -/
theorem BX.store' {w0 W1 W : World} {l : List (Nat × List Value)} {b : Nat} (h1 : BX w0 l W1) (h : BX w0 l W) (hb : W1.heap.size ≤ b) (hz : ZB b W) (hl : l.all (fun p => decide (0 < p.2.length)) = true) (hg : ∀ W', Below w0.heap.size w0 W' → Tabs W') (cs : List Value) (h8 : cs.length = 8) : BX w0 ((b, cs) :: l) (putL W b 0 cs) :=
  h.store hz (h1.ne hl hb) (Nat.le_trans h1.low.size hb) hg cs h8

theorem doF2_at {nm : ByteArray} {ok : Bool} {k z : Int} {s : ByteArray} {k1 z1 : Int} {s1 : ByteArray} {la1 : Option Addr} {lc1 : Nat} {fa1 : Option Addr} {fc1 : Nat} {k2 z2 : Int} {s2 : ByteArray} {la2 : Option Addr} {lc2 : Nat} {fa2 : Option Addr} {fc2 : Nat} {sb : Nat} {W : World} (ha : At W sb 0 [.int .u8 k1, .int .i64 z1, .string s1, .slice la1 0 lc1, .slice fa1 0 fc1, .int .u8 0, .string ⟨#[]⟩, .bool false, .int .u8 k2, .int .i64 z2, .string s2, .slice la2 0 lc2, .slice fa2 0 fc2, .int .u8 0, .string ⟨#[]⟩, .bool false]) (ht : Tabs W) (h1 : FlOk k1 z1 s1 lc1 fc1) (h2 : FlOk k2 z2 s2 lc2 fc2)
    (hf : Fact nm 2 (v2 (vz k1 z1 s1) (vz k2 z2 s2)) ok k z s) :
    Calls Tryd.prog 8 #[.string nm, .slice (some ⟨sb, 0, none⟩) 2 2] W (FlPost ok k z s W) := by
  have hV := vals_two (x := (fl k1 z1 s1 la1 lc1 (fun _ => .leaf) fa1 fc1 (fun _ => ⟨#[]⟩) (fun _ => .leaf))) (y := (fl k2 z2 s2 la2 lc2 (fun _ => .leaf) fa2 fc2 (fun _ => ⟨#[]⟩) (fun _ => .leaf))) ha (fl_in h1 W) (fl_in h2 W)
  have hs : ∀ i, i < 2 → (v2 (vz k1 z1 s1) (vz k2 z2 s2) i).same (v2 (fl k1 z1 s1 la1 lc1 (fun _ => .leaf) fa1 fc1 (fun _ => ⟨#[]⟩) (fun _ => .leaf)) (fl k2 z2 s2 la2 lc2 (fun _ => .leaf) fa2 fc2 (fun _ => ⟨#[]⟩) (fun _ => .leaf)) i) = true := by
    intro i hi
    match i, hi with
    | 0, _ => exact fl_same _ _ _ _ _ _ _ _ _ _
    | 1, _ => exact fl_same _ _ _ _ _ _ _ _ _ _
  have hx := do_ext (name := nm) hs
  obtain ⟨hb, hv, hv'⟩ := hf
  refine (lDo_at (nm := nm) hV ht).mono ?_
  rintro e w' ⟨u, rfl, hin, hy, hn, hl⟩
  rw [hx.1, hb] at hy hn ⊢
  have hsu : (vz k z s).same u = true := by
    cases ok with
    | false => rw [hv' rfl, hn rfl]; exact vz_same _ _ _
    | true => rw [← hv rfl]; exact same_trans _ _ _ (hx.2 (by rw [hb])) (hy rfl)
  obtain ⟨la, lc, L, fa, fc, fn, F, rfl, hok⟩ := fl_of_same hsu hin
  exact ⟨la, lc, fa, fc, rfl, hok, hl⟩
end Go.Proofs.YtalckcmjmpobeaaDoor
