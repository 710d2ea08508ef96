/-
  Walks: the shapes of expressions, acts, pairs, statements and components in registers; what a result's block holds; closed, is.
  Conditions: the reader lies as 'RD' says; its words are at most 65536.
-/
import Derived.Test.YtedmmgfnplbkjaaGreatDoorParB
namespace Go.Proofs.YtedmmgfnplbkjaaGreatDoor
set_option linter.unusedVariables false
set_option linter.unusedSimpArgs false
open Go.RowKit G
structure Put (g : Nat) (w w' : World) : Prop where
  os : w'.os = w.os
  tape : w'.tape = w.tape
  output : w'.output = w.output
  size : w'.heap.size = w.heap.size
  block : ∀ b, b ≠ g → w'.heap[b]? = w.heap[b]?
theorem Put.refl (g : Nat) (w : World) : Put g w w := ⟨rfl, rfl, rfl, rfl, fun _ _ => rfl⟩
theorem Put.set {g : Nat} {w w' : World} (h : Put g w w') (q : Nat) (v : Value) : Put g w (w'.setCell ⟨g, q, none⟩ v) :=
  ⟨h.os, h.tape, h.output, by simpa [World.setCell] using h.size, fun b hb => (Below.heap_setCell _ _ _ _ (by show b ≠ g; exact hb)).trans (h.block b hb)⟩
theorem Put.row' {g : Nat} {w w' : World} (h : Put g w w') (cs : Array Value) : Put g w (w'.setRow g cs) :=
  ⟨h.os, h.tape, h.output, by simpa [World.setRow] using h.size, fun b hb => (setRow_other _ _ _ _ hb).trans (h.block b hb)⟩
theorem put_row (g : Nat) (w : World) (cs : Array Value) : Put g w (w.setRow g cs) := (Put.refl g w).row' cs
theorem Put.gr {W1 a b c : World} {g : Nat} (k : Put g b c) (h : Gr W1 a b) (hg : a.heap.size ≤ g) : Gr W1 a c :=
  ⟨k.os.trans h.os, k.tape.trans h.tape, k.output.trans h.output, Nat.le_trans h.size (Nat.le_of_eq k.size.symm), fun i hi hne => (k.block i (by omega)).trans (h.block i hi hne)⟩
theorem Put.rd {W1 : World} {wv : Value} {ws : List LX.LW} {c : Str} {t d g : Nat} {w w' : World} (k : Put g w w') (h : RD' W1 wv ws c t d w) (hg : W1.heap.size < g) : RD' W1 wv ws c t d w' :=
  ⟨⟨(k.block _ (by omega)).trans h.1.at_, h.1.wds, h.1.low.trans ⟨k.os, k.tape, k.output, Nat.le_of_eq k.size.symm, fun b hb => k.block b (by omega)⟩⟩, h.2⟩
theorem Put.row {B g : Nat} {w w' : World} (k : Put g w w') (hg : g < B) {ts : List T} {vs : List Value} (h : Row w (B ≤ ·) ts vs) : Row w' (B ≤ ·) ts vs :=
  h.keep (Nat.le_of_eq k.size.symm) (fun _ _ h => h) (fun b hb _ => k.block b (by omega))
theorem Row.gr {W1 : World} {B : Nat} {w w' : World} (k : Gr W1 w w') (hg : W1.heap.size < B) {ts : List T} {vs : List Value} (h : Row w (B ≤ ·) ts vs) : Row w' (B ≤ ·) ts vs :=
  h.keep k.size (fun _ _ h => h) (fun b hb h2 => k.block b h2 (by intro e; cases e; omega))
theorem Row.low {B C : Nat} {w : World} (hC : C ≤ B) {ts : List T} {vs : List Value} (h : Row w (B ≤ ·) ts vs) : Row w (C ≤ ·) ts vs :=
  h.keep (Nat.le_refl _) (fun _ _ h => Nat.le_trans hC h) (fun _ _ _ => rfl)
theorem gr_block {W1 a b : World} {g : Nat} {o : Obj} (h : Gr W1 a b) (hg : W1.heap.size < g) (e : a.heap[g]? = some o) : b.heap[g]? = some o := by
  rw [h.block g (tr_lt_of_block e) (by intro x; cases x; omega), e]
theorem new2a (w : World) (a b : Array Value) (s t : TypeId) : ((w.alloc (.cells a s)).alloc (.cells b t)).heap[w.heap.size]? = some (.cells a s (0, 0)) := by
  rw [Below.heap_alloc _ _ _ (by simp)]; exact heap_alloc_new _ _
theorem new2b {w : World} (a b : Array Value) (s t : TypeId) : ((w.alloc (.cells a s)).alloc (.cells b t)).heap[w.heap.size + 1]? = some (.cells b t (0, 0)) := by
  have h := heap_alloc_new (w.alloc (.cells a s)) (.cells b t)
  simpa using h
theorem all_one {vs : List Value} (h : ∀ u ∈ vs, u.oneCell' = true) : vs.toArray.all (·.oneCell') = true := by simpa using h
theorem row_one {w : World} {ok : Nat → Prop} (v : Value) {ts : List T} {vs : List Value} (h : Row w ok ts vs) : Row w ok (.sc v :: ts) (v :: vs) := .cons rfl h
theorem row_rows {w : World} {ok : Nat → Prop} {u : T} {v : Value} (h : u.Rep w ok v) {ts : List T} {vs : List Value} (g : Row w ok ts vs) : Row w ok (u :: ts) (v :: vs) := .cons h g
theorem row_app {w : World} {ok : Nat → Prop} {ts us : List T} {vs xs : List Value} (h : Row w ok ts vs) (g : Row w ok us xs) : Row w ok (ts ++ us) (vs ++ xs) := All2.append h g
theorem rep_nil {w : World} {ok : Nat → Prop} (k : Nat) : (ofRows k []).Rep w ok (.slice none 0 0) := ⟨none, 0, rfl, Nat.le_refl _, by unfold maxLen; omega, fun i hi => absurd hi (Nat.not_lt_zero i)⟩
def ShE (vs : List Value) : Prop := ∃ (xa0 : Int) (xa1 : Int) (xs2 : ByteArray) (xp3 : Option Addr) (xl3 xq3 : Nat) (xp4 : Option Addr) (xl4 xq4 : Nat) (xp5 : Option Addr) (xl5 xq5 : Nat) (xa6 : Int) (xp7 : Option Addr) (xl7 xq7 : Nat) (xp8 : Option Addr) (xl8 xq8 : Nat) (xs9 : ByteArray), vs = [.int .u8 xa0, .int .i64 xa1, .string xs2, .slice xp3 xl3 xq3, .slice xp4 xl4 xq4, .slice xp5 xl5 xq5, .int .u8 xa6, .slice xp7 xl7 xq7, .slice xp8 xl8 xq8, .string xs9]
theorem shE_one {vs : List Value} (h : ShE vs) : (∀ u ∈ vs, u.oneCell' = true) ∧ vs.length = 10 := by
  obtain ⟨xa0, xa1, xs2, xp3, xl3, xq3, xp4, xl4, xq4, xp5, xl5, xq5, xa6, xp7, xl7, xq7, xp8, xl8, xq8, xs9, rfl⟩ := h
  refine ⟨fun u hu => ?_, rfl⟩
  simp at hu
  rcases hu with rfl | rfl | rfl | rfl | rfl | rfl | rfl | rfl | rfl | rfl <;> rfl
def ShA (vs : List Value) : Prop := ∃ (xa0 : Int) (xs1 : ByteArray) (xa2 : Int) (xa3 : Int) (xs4 : ByteArray) (xp5 : Option Addr) (xl5 xq5 : Nat) (xp6 : Option Addr) (xl6 xq6 : Nat) (xp7 : Option Addr) (xl7 xq7 : Nat) (xa8 : Int) (xp9 : Option Addr) (xl9 xq9 : Nat) (xp10 : Option Addr) (xl10 xq10 : Nat) (xs11 : ByteArray), vs = [.int .u8 xa0, .string xs1, .int .u8 xa2, .int .i64 xa3, .string xs4, .slice xp5 xl5 xq5, .slice xp6 xl6 xq6, .slice xp7 xl7 xq7, .int .u8 xa8, .slice xp9 xl9 xq9, .slice xp10 xl10 xq10, .string xs11]
theorem shA_one {vs : List Value} (h : ShA vs) : (∀ u ∈ vs, u.oneCell' = true) ∧ vs.length = 12 := by
  obtain ⟨xa0, xs1, xa2, xa3, xs4, xp5, xl5, xq5, xp6, xl6, xq6, xp7, xl7, xq7, xa8, xp9, xl9, xq9, xp10, xl10, xq10, xs11, rfl⟩ := h
  refine ⟨fun u hu => ?_, rfl⟩
  simp at hu
  rcases hu with rfl | rfl | rfl | rfl | rfl | rfl | rfl | rfl | rfl | rfl | rfl | rfl <;> rfl
def ShP (vs : List Value) : Prop := ∃ (xs0 : ByteArray) (xa1 : Int) (xa2 : Int) (xs3 : ByteArray) (xp4 : Option Addr) (xl4 xq4 : Nat) (xp5 : Option Addr) (xl5 xq5 : Nat) (xp6 : Option Addr) (xl6 xq6 : Nat) (xa7 : Int) (xp8 : Option Addr) (xl8 xq8 : Nat) (xp9 : Option Addr) (xl9 xq9 : Nat) (xs10 : ByteArray), vs = [.string xs0, .int .u8 xa1, .int .i64 xa2, .string xs3, .slice xp4 xl4 xq4, .slice xp5 xl5 xq5, .slice xp6 xl6 xq6, .int .u8 xa7, .slice xp8 xl8 xq8, .slice xp9 xl9 xq9, .string xs10]
theorem shP_one {vs : List Value} (h : ShP vs) : (∀ u ∈ vs, u.oneCell' = true) ∧ vs.length = 11 := by
  obtain ⟨xs0, xa1, xa2, xs3, xp4, xl4, xq4, xp5, xl5, xq5, xp6, xl6, xq6, xa7, xp8, xl8, xq8, xp9, xl9, xq9, xs10, rfl⟩ := h
  refine ⟨fun u hu => ?_, rfl⟩
  simp at hu
  rcases hu with rfl | rfl | rfl | rfl | rfl | rfl | rfl | rfl | rfl | rfl | rfl <;> rfl
def ShS (vs : List Value) : Prop := ∃ (xa0 : Int) (xs1 : ByteArray) (xs2 : ByteArray) (xa3 : Int) (xa4 : Int) (xs5 : ByteArray) (xp6 : Option Addr) (xl6 xq6 : Nat) (xp7 : Option Addr) (xl7 xq7 : Nat) (xp8 : Option Addr) (xl8 xq8 : Nat) (xa9 : Int) (xp10 : Option Addr) (xl10 xq10 : Nat) (xp11 : Option Addr) (xl11 xq11 : Nat) (xs12 : ByteArray) (xp13 : Option Addr) (xl13 xq13 : Nat) (xp14 : Option Addr) (xl14 xq14 : Nat) (xp15 : Option Addr) (xl15 xq15 : Nat) (xp16 : Option Addr) (xl16 xq16 : Nat), vs = [.int .u8 xa0, .string xs1, .string xs2, .int .u8 xa3, .int .i64 xa4, .string xs5, .slice xp6 xl6 xq6, .slice xp7 xl7 xq7, .slice xp8 xl8 xq8, .int .u8 xa9, .slice xp10 xl10 xq10, .slice xp11 xl11 xq11, .string xs12, .slice xp13 xl13 xq13, .slice xp14 xl14 xq14, .slice xp15 xl15 xq15, .slice xp16 xl16 xq16]
theorem shS_one {vs : List Value} (h : ShS vs) : (∀ u ∈ vs, u.oneCell' = true) ∧ vs.length = 17 := by
  obtain ⟨xa0, xs1, xs2, xa3, xa4, xs5, xp6, xl6, xq6, xp7, xl7, xq7, xp8, xl8, xq8, xa9, xp10, xl10, xq10, xp11, xl11, xq11, xs12, xp13, xl13, xq13, xp14, xl14, xq14, xp15, xl15, xq15, xp16, xl16, xq16, rfl⟩ := h
  refine ⟨fun u hu => ?_, rfl⟩
  simp at hu
  rcases hu with rfl | rfl | rfl | rfl | rfl | rfl | rfl | rfl | rfl | rfl | rfl | rfl | rfl | rfl | rfl | rfl | rfl <;> rfl
def ShC (vs : List Value) : Prop := ∃ (xs0 : ByteArray) (xs1 : ByteArray) (xp2 : Option Addr) (xl2 xq2 : Nat) (xa3 : Int) (xa4 : Int) (xs5 : ByteArray) (xp6 : Option Addr) (xl6 xq6 : Nat) (xp7 : Option Addr) (xl7 xq7 : Nat) (xp8 : Option Addr) (xl8 xq8 : Nat) (xa9 : Int) (xp10 : Option Addr) (xl10 xq10 : Nat) (xp11 : Option Addr) (xl11 xq11 : Nat) (xs12 : ByteArray), vs = [.string xs0, .string xs1, .slice xp2 xl2 xq2, .int .u8 xa3, .int .i64 xa4, .string xs5, .slice xp6 xl6 xq6, .slice xp7 xl7 xq7, .slice xp8 xl8 xq8, .int .u8 xa9, .slice xp10 xl10 xq10, .slice xp11 xl11 xq11, .string xs12]
theorem shC_one {vs : List Value} (h : ShC vs) : (∀ u ∈ vs, u.oneCell' = true) ∧ vs.length = 13 := by
  obtain ⟨xs0, xs1, xp2, xl2, xq2, xa3, xa4, xs5, xp6, xl6, xq6, xp7, xl7, xq7, xp8, xl8, xq8, xa9, xp10, xl10, xq10, xp11, xl11, xq11, xs12, rfl⟩ := h
  refine ⟨fun u hu => ?_, rfl⟩
  simp at hu
  rcases hu with rfl | rfl | rfl | rfl | rfl | rfl | rfl | rfl | rfl | rfl | rfl | rfl | rfl <;> rfl
theorem blk4 {b : Nat} {w : World} {x0 x1 x2 x3 : Value} {ty : TypeId} (h : w.heap[b]? = some (.cells #[x0, x1, x2, x3] ty (0, 0))) :
    (w.cell? ⟨b, 0, none⟩ = some x0 ∧ w.cell? ⟨b, 1, none⟩ = some x1 ∧ w.cell? ⟨b, 2, none⟩ = some x2 ∧ w.cell? ⟨b, 3, none⟩ = some x3) ∧ (w.frozen? ⟨b, 0, none⟩ = false ∧ w.frozen? ⟨b, 1, none⟩ = false ∧ w.frozen? ⟨b, 2, none⟩ = false ∧ w.frozen? ⟨b, 3, none⟩ = false) :=
  ⟨⟨(by rw [Lib.cell_of_heap h]; rfl), (by rw [Lib.cell_of_heap h]; rfl), (by rw [Lib.cell_of_heap h]; rfl), (by rw [Lib.cell_of_heap h]; rfl)⟩, ⟨Lib.frozen_of_heap h 0, Lib.frozen_of_heap h 1, Lib.frozen_of_heap h 2, Lib.frozen_of_heap h 3⟩⟩
theorem blk10 {b : Nat} {w : World} {x0 x1 x2 x3 x4 x5 x6 x7 x8 x9 : Value} {ty : TypeId} (h : w.heap[b]? = some (.cells #[x0, x1, x2, x3, x4, x5, x6, x7, x8, x9] ty (0, 0))) :
    (w.cell? ⟨b, 0, none⟩ = some x0 ∧ w.cell? ⟨b, 1, none⟩ = some x1 ∧ w.cell? ⟨b, 2, none⟩ = some x2 ∧ w.cell? ⟨b, 3, none⟩ = some x3 ∧ w.cell? ⟨b, 4, none⟩ = some x4 ∧ w.cell? ⟨b, 5, none⟩ = some x5 ∧ w.cell? ⟨b, 6, none⟩ = some x6 ∧ w.cell? ⟨b, 7, none⟩ = some x7 ∧ w.cell? ⟨b, 8, none⟩ = some x8 ∧ w.cell? ⟨b, 9, none⟩ = some x9) ∧ (w.frozen? ⟨b, 0, none⟩ = false ∧ w.frozen? ⟨b, 1, none⟩ = false ∧ w.frozen? ⟨b, 2, none⟩ = false ∧ w.frozen? ⟨b, 3, none⟩ = false ∧ w.frozen? ⟨b, 4, none⟩ = false ∧ w.frozen? ⟨b, 5, none⟩ = false ∧ w.frozen? ⟨b, 6, none⟩ = false ∧ w.frozen? ⟨b, 7, none⟩ = false ∧ w.frozen? ⟨b, 8, none⟩ = false ∧ w.frozen? ⟨b, 9, none⟩ = false) :=
  ⟨⟨(by rw [Lib.cell_of_heap h]; rfl), (by rw [Lib.cell_of_heap h]; rfl), (by rw [Lib.cell_of_heap h]; rfl), (by rw [Lib.cell_of_heap h]; rfl), (by rw [Lib.cell_of_heap h]; rfl), (by rw [Lib.cell_of_heap h]; rfl), (by rw [Lib.cell_of_heap h]; rfl), (by rw [Lib.cell_of_heap h]; rfl), (by rw [Lib.cell_of_heap h]; rfl), (by rw [Lib.cell_of_heap h]; rfl)⟩, ⟨Lib.frozen_of_heap h 0, Lib.frozen_of_heap h 1, Lib.frozen_of_heap h 2, Lib.frozen_of_heap h 3, Lib.frozen_of_heap h 4, Lib.frozen_of_heap h 5, Lib.frozen_of_heap h 6, Lib.frozen_of_heap h 7, Lib.frozen_of_heap h 8, Lib.frozen_of_heap h 9⟩⟩
theorem blk11 {b : Nat} {w : World} {x0 x1 x2 x3 x4 x5 x6 x7 x8 x9 x10 : Value} {ty : TypeId} (h : w.heap[b]? = some (.cells #[x0, x1, x2, x3, x4, x5, x6, x7, x8, x9, x10] ty (0, 0))) :
    (w.cell? ⟨b, 0, none⟩ = some x0 ∧ w.cell? ⟨b, 1, none⟩ = some x1 ∧ w.cell? ⟨b, 2, none⟩ = some x2 ∧ w.cell? ⟨b, 3, none⟩ = some x3 ∧ w.cell? ⟨b, 4, none⟩ = some x4 ∧ w.cell? ⟨b, 5, none⟩ = some x5 ∧ w.cell? ⟨b, 6, none⟩ = some x6 ∧ w.cell? ⟨b, 7, none⟩ = some x7 ∧ w.cell? ⟨b, 8, none⟩ = some x8 ∧ w.cell? ⟨b, 9, none⟩ = some x9 ∧ w.cell? ⟨b, 10, none⟩ = some x10) ∧ (w.frozen? ⟨b, 0, none⟩ = false ∧ w.frozen? ⟨b, 1, none⟩ = false ∧ w.frozen? ⟨b, 2, none⟩ = false ∧ w.frozen? ⟨b, 3, none⟩ = false ∧ w.frozen? ⟨b, 4, none⟩ = false ∧ w.frozen? ⟨b, 5, none⟩ = false ∧ w.frozen? ⟨b, 6, none⟩ = false ∧ w.frozen? ⟨b, 7, none⟩ = false ∧ w.frozen? ⟨b, 8, none⟩ = false ∧ w.frozen? ⟨b, 9, none⟩ = false ∧ w.frozen? ⟨b, 10, none⟩ = false) :=
  ⟨⟨(by rw [Lib.cell_of_heap h]; rfl), (by rw [Lib.cell_of_heap h]; rfl), (by rw [Lib.cell_of_heap h]; rfl), (by rw [Lib.cell_of_heap h]; rfl), (by rw [Lib.cell_of_heap h]; rfl), (by rw [Lib.cell_of_heap h]; rfl), (by rw [Lib.cell_of_heap h]; rfl), (by rw [Lib.cell_of_heap h]; rfl), (by rw [Lib.cell_of_heap h]; rfl), (by rw [Lib.cell_of_heap h]; rfl), (by rw [Lib.cell_of_heap h]; rfl)⟩, ⟨Lib.frozen_of_heap h 0, Lib.frozen_of_heap h 1, Lib.frozen_of_heap h 2, Lib.frozen_of_heap h 3, Lib.frozen_of_heap h 4, Lib.frozen_of_heap h 5, Lib.frozen_of_heap h 6, Lib.frozen_of_heap h 7, Lib.frozen_of_heap h 8, Lib.frozen_of_heap h 9, Lib.frozen_of_heap h 10⟩⟩
theorem blk12 {b : Nat} {w : World} {x0 x1 x2 x3 x4 x5 x6 x7 x8 x9 x10 x11 : Value} {ty : TypeId} (h : w.heap[b]? = some (.cells #[x0, x1, x2, x3, x4, x5, x6, x7, x8, x9, x10, x11] ty (0, 0))) :
    (w.cell? ⟨b, 0, none⟩ = some x0 ∧ w.cell? ⟨b, 1, none⟩ = some x1 ∧ w.cell? ⟨b, 2, none⟩ = some x2 ∧ w.cell? ⟨b, 3, none⟩ = some x3 ∧ w.cell? ⟨b, 4, none⟩ = some x4 ∧ w.cell? ⟨b, 5, none⟩ = some x5 ∧ w.cell? ⟨b, 6, none⟩ = some x6 ∧ w.cell? ⟨b, 7, none⟩ = some x7 ∧ w.cell? ⟨b, 8, none⟩ = some x8 ∧ w.cell? ⟨b, 9, none⟩ = some x9 ∧ w.cell? ⟨b, 10, none⟩ = some x10 ∧ w.cell? ⟨b, 11, none⟩ = some x11) ∧ (w.frozen? ⟨b, 0, none⟩ = false ∧ w.frozen? ⟨b, 1, none⟩ = false ∧ w.frozen? ⟨b, 2, none⟩ = false ∧ w.frozen? ⟨b, 3, none⟩ = false ∧ w.frozen? ⟨b, 4, none⟩ = false ∧ w.frozen? ⟨b, 5, none⟩ = false ∧ w.frozen? ⟨b, 6, none⟩ = false ∧ w.frozen? ⟨b, 7, none⟩ = false ∧ w.frozen? ⟨b, 8, none⟩ = false ∧ w.frozen? ⟨b, 9, none⟩ = false ∧ w.frozen? ⟨b, 10, none⟩ = false ∧ w.frozen? ⟨b, 11, none⟩ = false) :=
  ⟨⟨(by rw [Lib.cell_of_heap h]; rfl), (by rw [Lib.cell_of_heap h]; rfl), (by rw [Lib.cell_of_heap h]; rfl), (by rw [Lib.cell_of_heap h]; rfl), (by rw [Lib.cell_of_heap h]; rfl), (by rw [Lib.cell_of_heap h]; rfl), (by rw [Lib.cell_of_heap h]; rfl), (by rw [Lib.cell_of_heap h]; rfl), (by rw [Lib.cell_of_heap h]; rfl), (by rw [Lib.cell_of_heap h]; rfl), (by rw [Lib.cell_of_heap h]; rfl), (by rw [Lib.cell_of_heap h]; rfl)⟩, ⟨Lib.frozen_of_heap h 0, Lib.frozen_of_heap h 1, Lib.frozen_of_heap h 2, Lib.frozen_of_heap h 3, Lib.frozen_of_heap h 4, Lib.frozen_of_heap h 5, Lib.frozen_of_heap h 6, Lib.frozen_of_heap h 7, Lib.frozen_of_heap h 8, Lib.frozen_of_heap h 9, Lib.frozen_of_heap h 10, Lib.frozen_of_heap h 11⟩⟩
theorem blk13 {b : Nat} {w : World} {x0 x1 x2 x3 x4 x5 x6 x7 x8 x9 x10 x11 x12 : Value} {ty : TypeId} (h : w.heap[b]? = some (.cells #[x0, x1, x2, x3, x4, x5, x6, x7, x8, x9, x10, x11, x12] ty (0, 0))) :
    (w.cell? ⟨b, 0, none⟩ = some x0 ∧ w.cell? ⟨b, 1, none⟩ = some x1 ∧ w.cell? ⟨b, 2, none⟩ = some x2 ∧ w.cell? ⟨b, 3, none⟩ = some x3 ∧ w.cell? ⟨b, 4, none⟩ = some x4 ∧ w.cell? ⟨b, 5, none⟩ = some x5 ∧ w.cell? ⟨b, 6, none⟩ = some x6 ∧ w.cell? ⟨b, 7, none⟩ = some x7 ∧ w.cell? ⟨b, 8, none⟩ = some x8 ∧ w.cell? ⟨b, 9, none⟩ = some x9 ∧ w.cell? ⟨b, 10, none⟩ = some x10 ∧ w.cell? ⟨b, 11, none⟩ = some x11 ∧ w.cell? ⟨b, 12, none⟩ = some x12) ∧ (w.frozen? ⟨b, 0, none⟩ = false ∧ w.frozen? ⟨b, 1, none⟩ = false ∧ w.frozen? ⟨b, 2, none⟩ = false ∧ w.frozen? ⟨b, 3, none⟩ = false ∧ w.frozen? ⟨b, 4, none⟩ = false ∧ w.frozen? ⟨b, 5, none⟩ = false ∧ w.frozen? ⟨b, 6, none⟩ = false ∧ w.frozen? ⟨b, 7, none⟩ = false ∧ w.frozen? ⟨b, 8, none⟩ = false ∧ w.frozen? ⟨b, 9, none⟩ = false ∧ w.frozen? ⟨b, 10, none⟩ = false ∧ w.frozen? ⟨b, 11, none⟩ = false ∧ w.frozen? ⟨b, 12, none⟩ = false) :=
  ⟨⟨(by rw [Lib.cell_of_heap h]; rfl), (by rw [Lib.cell_of_heap h]; rfl), (by rw [Lib.cell_of_heap h]; rfl), (by rw [Lib.cell_of_heap h]; rfl), (by rw [Lib.cell_of_heap h]; rfl), (by rw [Lib.cell_of_heap h]; rfl), (by rw [Lib.cell_of_heap h]; rfl), (by rw [Lib.cell_of_heap h]; rfl), (by rw [Lib.cell_of_heap h]; rfl), (by rw [Lib.cell_of_heap h]; rfl), (by rw [Lib.cell_of_heap h]; rfl), (by rw [Lib.cell_of_heap h]; rfl), (by rw [Lib.cell_of_heap h]; rfl)⟩, ⟨Lib.frozen_of_heap h 0, Lib.frozen_of_heap h 1, Lib.frozen_of_heap h 2, Lib.frozen_of_heap h 3, Lib.frozen_of_heap h 4, Lib.frozen_of_heap h 5, Lib.frozen_of_heap h 6, Lib.frozen_of_heap h 7, Lib.frozen_of_heap h 8, Lib.frozen_of_heap h 9, Lib.frozen_of_heap h 10, Lib.frozen_of_heap h 11, Lib.frozen_of_heap h 12⟩⟩
theorem blk17 {b : Nat} {w : World} {x0 x1 x2 x3 x4 x5 x6 x7 x8 x9 x10 x11 x12 x13 x14 x15 x16 : Value} {ty : TypeId} (h : w.heap[b]? = some (.cells #[x0, x1, x2, x3, x4, x5, x6, x7, x8, x9, x10, x11, x12, x13, x14, x15, x16] ty (0, 0))) :
    (w.cell? ⟨b, 0, none⟩ = some x0 ∧ w.cell? ⟨b, 1, none⟩ = some x1 ∧ w.cell? ⟨b, 2, none⟩ = some x2 ∧ w.cell? ⟨b, 3, none⟩ = some x3 ∧ w.cell? ⟨b, 4, none⟩ = some x4 ∧ w.cell? ⟨b, 5, none⟩ = some x5 ∧ w.cell? ⟨b, 6, none⟩ = some x6 ∧ w.cell? ⟨b, 7, none⟩ = some x7 ∧ w.cell? ⟨b, 8, none⟩ = some x8 ∧ w.cell? ⟨b, 9, none⟩ = some x9 ∧ w.cell? ⟨b, 10, none⟩ = some x10 ∧ w.cell? ⟨b, 11, none⟩ = some x11 ∧ w.cell? ⟨b, 12, none⟩ = some x12 ∧ w.cell? ⟨b, 13, none⟩ = some x13 ∧ w.cell? ⟨b, 14, none⟩ = some x14 ∧ w.cell? ⟨b, 15, none⟩ = some x15 ∧ w.cell? ⟨b, 16, none⟩ = some x16) ∧ (w.frozen? ⟨b, 0, none⟩ = false ∧ w.frozen? ⟨b, 1, none⟩ = false ∧ w.frozen? ⟨b, 2, none⟩ = false ∧ w.frozen? ⟨b, 3, none⟩ = false ∧ w.frozen? ⟨b, 4, none⟩ = false ∧ w.frozen? ⟨b, 5, none⟩ = false ∧ w.frozen? ⟨b, 6, none⟩ = false ∧ w.frozen? ⟨b, 7, none⟩ = false ∧ w.frozen? ⟨b, 8, none⟩ = false ∧ w.frozen? ⟨b, 9, none⟩ = false ∧ w.frozen? ⟨b, 10, none⟩ = false ∧ w.frozen? ⟨b, 11, none⟩ = false ∧ w.frozen? ⟨b, 12, none⟩ = false ∧ w.frozen? ⟨b, 13, none⟩ = false ∧ w.frozen? ⟨b, 14, none⟩ = false ∧ w.frozen? ⟨b, 15, none⟩ = false ∧ w.frozen? ⟨b, 16, none⟩ = false) :=
  ⟨⟨(by rw [Lib.cell_of_heap h]; rfl), (by rw [Lib.cell_of_heap h]; rfl), (by rw [Lib.cell_of_heap h]; rfl), (by rw [Lib.cell_of_heap h]; rfl), (by rw [Lib.cell_of_heap h]; rfl), (by rw [Lib.cell_of_heap h]; rfl), (by rw [Lib.cell_of_heap h]; rfl), (by rw [Lib.cell_of_heap h]; rfl), (by rw [Lib.cell_of_heap h]; rfl), (by rw [Lib.cell_of_heap h]; rfl), (by rw [Lib.cell_of_heap h]; rfl), (by rw [Lib.cell_of_heap h]; rfl), (by rw [Lib.cell_of_heap h]; rfl), (by rw [Lib.cell_of_heap h]; rfl), (by rw [Lib.cell_of_heap h]; rfl), (by rw [Lib.cell_of_heap h]; rfl), (by rw [Lib.cell_of_heap h]; rfl)⟩, ⟨Lib.frozen_of_heap h 0, Lib.frozen_of_heap h 1, Lib.frozen_of_heap h 2, Lib.frozen_of_heap h 3, Lib.frozen_of_heap h 4, Lib.frozen_of_heap h 5, Lib.frozen_of_heap h 6, Lib.frozen_of_heap h 7, Lib.frozen_of_heap h 8, Lib.frozen_of_heap h 9, Lib.frozen_of_heap h 10, Lib.frozen_of_heap h 11, Lib.frozen_of_heap h 12, Lib.frozen_of_heap h 13, Lib.frozen_of_heap h 14, Lib.frozen_of_heap h 15, Lib.frozen_of_heap h 16⟩⟩
theorem iszE : (Tryz.prog.info? 42).map (·.size) = some 10 := by kernel_rfl
theorem iszA : (Tryz.prog.info? 112).map (·.size) = some 12 := by kernel_rfl
theorem iszP : (Tryz.prog.info? 231).map (·.size) = some 11 := by kernel_rfl
theorem iszS : (Tryz.prog.info? 55).map (·.size) = some 17 := by kernel_rfl
theorem iszC : (Tryz.prog.info? 46).map (·.size) = some 13 := by kernel_rfl
set_option maxRecDepth 100000 in
set_option maxHeartbeats 4000000 in
theorem closedP_any {W1 : World} {wv : Value} {ws : List LX.LW} {c : Str} {t d : Nat} {W : World} (h : RD' W1 wv ws c t d W) (hn : ws.length ≤ 65536) (vs : List Value) (hsh : ShP vs) :
    Calls Tryz.prog 223 #[rp W1, .agg vs.toArray] W (PostR W1 wv ws c (t + 1) W (fun _ v _ => v = .agg vs.toArray) (shutP (ws.map nol) t d)) := by
  have hcs : vs.toArray.size = 11 := (shP_one hsh).2
  have hc1 := all_one (shP_one hsh).1
  clear hsh
  generalize vs.toArray = cs at hcs hc1 ⊢
  obtain ⟨W0, hW0⟩ : ∃ W0, (W.alloc (.cells cs 231)).alloc (.cells #[.string ⟨#[]⟩, .int .u8 0, .int .i64 0, .string ⟨#[]⟩, .slice none 0 0, .slice none 0 0, .slice none 0 0, .int .u8 0, .slice none 0 0, .slice none 0 0, .string ⟨#[]⟩] 231) = W0 := ⟨_, rfl⟩
  have hlt := h.1.lt
  have hr0 : RD' W1 wv ws c t d W0 := by rw [← hW0]; exact (h.alloc _).alloc _
  have hg0 : Gr W1 W W0 := by rw [← hW0]; exact ((gr_refl W1 W).alloc _).alloc _
  have hb0 : W0.heap[W.heap.size]? = some (.cells cs 231 (0, 0)) := by rw [← hW0]; exact new2a _ _ _ _ _
  have hb1 : W0.heap[W.heap.size + 1]? = some (.cells #[.string ⟨#[]⟩, .int .u8 0, .int .i64 0, .string ⟨#[]⟩, .slice none 0 0, .slice none 0 0, .slice none 0 0, .int .u8 0, .slice none 0 0, .slice none 0 0, .string ⟨#[]⟩] 231 (0, 0)) := by rw [← hW0]; exact new2b _ _ _ _
  have HK0 := Lib.hid hb0
  have HK1 := Lib.hid hb1
  have HSZ := Lib.hid (show (Tryz.prog.info? 231).map (·.size) = some cs.size by rw [hcs]; exact iszP)
  have HCS := Lib.hid hcs
  have HC1 := Lib.hid hc1
  have HT := Lib.hid (shut_any hr0 hn)
  obtain ⟨rs, hrs⟩ : ∃ r, (shutP (ws.map nol) t d) = r := ⟨_, rfl⟩
  rw [hrs]
  obtain ⟨post, hpost⟩ : ∃ p, PostR W1 wv ws c (t + 1) W (fun _ v _ => v = .agg cs) rs = p := ⟨_, rfl⟩
  have HB : Hid (∀ t' w', rs = .bad t' → (∃ d, RD W1 wv ws c t' d w') → Gr W1 W w' → post (.panicked [pz]) w') := fun t' w' h1 h2 h3 => by rw [← hpost]; exact .inl ⟨t', h1, rfl, h2, h3⟩
  have HO : Hid (∀ x t' d' v w', rs = .ok x t' d' → (fun _ v _ => v = .agg cs) x v w' → t + 1 ≤ t' → RD' W1 wv ws c t' d' w' → Gr W1 W w' → post (.returned v) w') := fun x t' d' v w' h1 h2 h3 h4 h5 => by rw [← hpost]; exact .inr ⟨x, t', d', v, h1, rfl, h2, h3, h4, h5⟩
  rw [hpost]
  have HRS := Lib.hid hrs
  clear hrs hpost
  clear h hr0 hb0 hb1 hcs hc1
  go_enter Tryz.func223, Tryz.ntmps223
  go_wp2_with (first
    | (go_at_call 65; (with_reducible refine HT.out.mono ?_); rintro e w' (⟨t', hp, rfl, hb, hk⟩ | ⟨x, t', d', v, hp, rfl, rfl, hl, hr, hk⟩))
    | (refine wpList_load_row rfl 231 _ rfl W.heap.size rfl 231 cs (0, 0) _ (gr_block hk hlt HK0.out) Tryz.underlying231 rfl HSZ.out ?_)
    | (refine wpList_store_row rfl 231 _ _ rfl (W.heap.size + 1) cs rfl rfl 231 #[.string ⟨#[]⟩, .int .u8 0, .int .i64 0, .string ⟨#[]⟩, .slice none 0 0, .slice none 0 0, .slice none 0 0, .int .u8 0, .slice none 0 0, .slice none 0 0, .string ⟨#[]⟩] (gr_block hk (by omega) HK1.out) HSZ.out HCS.out.symm HC1.out ?_))
  · exact ⟨rfl, HB.out _ _ (by rw [← HRS.out]; exact hp) hb (hg0.trans hk)⟩
  · refine bodyPost_ret (v := .agg cs) (results_cell_row Tryz.results223 _ _ (W.heap.size + 1) 231 cs (0, 0) _ rfl (setRow_heap _ _ _ _ _ _ (gr_block hk (by omega) HK1.out)) Tryz.underlying231 rfl HSZ.out) rfl ?_
    exact HO.out () _ _ _ _ (by rw [← HRS.out]; exact hp) rfl hl ((put_row _ _ _).rd hr (by omega)) ((put_row _ _ _).gr (hg0.trans hk) (by omega))
set_option maxRecDepth 100000 in
set_option maxHeartbeats 4000000 in
theorem closedA_any {W1 : World} {wv : Value} {ws : List LX.LW} {c : Str} {t d : Nat} {W : World} (h : RD' W1 wv ws c t d W) (hn : ws.length ≤ 65536) (vs : List Value) (hsh : ShA vs) :
    Calls Tryz.prog 164 #[rp W1, .agg vs.toArray] W (PostR W1 wv ws c (t + 1) W (fun _ v _ => v = .agg vs.toArray) (shutP (ws.map nol) t d)) := by
  have hcs : vs.toArray.size = 12 := (shA_one hsh).2
  have hc1 := all_one (shA_one hsh).1
  clear hsh
  generalize vs.toArray = cs at hcs hc1 ⊢
  obtain ⟨W0, hW0⟩ : ∃ W0, (W.alloc (.cells cs 112)).alloc (.cells #[.int .u8 0, .string ⟨#[]⟩, .int .u8 0, .int .i64 0, .string ⟨#[]⟩, .slice none 0 0, .slice none 0 0, .slice none 0 0, .int .u8 0, .slice none 0 0, .slice none 0 0, .string ⟨#[]⟩] 112) = W0 := ⟨_, rfl⟩
  have hlt := h.1.lt
  have hr0 : RD' W1 wv ws c t d W0 := by rw [← hW0]; exact (h.alloc _).alloc _
  have hg0 : Gr W1 W W0 := by rw [← hW0]; exact ((gr_refl W1 W).alloc _).alloc _
  have hb0 : W0.heap[W.heap.size]? = some (.cells cs 112 (0, 0)) := by rw [← hW0]; exact new2a _ _ _ _ _
  have hb1 : W0.heap[W.heap.size + 1]? = some (.cells #[.int .u8 0, .string ⟨#[]⟩, .int .u8 0, .int .i64 0, .string ⟨#[]⟩, .slice none 0 0, .slice none 0 0, .slice none 0 0, .int .u8 0, .slice none 0 0, .slice none 0 0, .string ⟨#[]⟩] 112 (0, 0)) := by rw [← hW0]; exact new2b _ _ _ _
  have HK0 := Lib.hid hb0
  have HK1 := Lib.hid hb1
  have HSZ := Lib.hid (show (Tryz.prog.info? 112).map (·.size) = some cs.size by rw [hcs]; exact iszA)
  have HCS := Lib.hid hcs
  have HC1 := Lib.hid hc1
  have HT := Lib.hid (shut_any hr0 hn)
  obtain ⟨rs, hrs⟩ : ∃ r, (shutP (ws.map nol) t d) = r := ⟨_, rfl⟩
  rw [hrs]
  obtain ⟨post, hpost⟩ : ∃ p, PostR W1 wv ws c (t + 1) W (fun _ v _ => v = .agg cs) rs = p := ⟨_, rfl⟩
  have HB : Hid (∀ t' w', rs = .bad t' → (∃ d, RD W1 wv ws c t' d w') → Gr W1 W w' → post (.panicked [pz]) w') := fun t' w' h1 h2 h3 => by rw [← hpost]; exact .inl ⟨t', h1, rfl, h2, h3⟩
  have HO : Hid (∀ x t' d' v w', rs = .ok x t' d' → (fun _ v _ => v = .agg cs) x v w' → t + 1 ≤ t' → RD' W1 wv ws c t' d' w' → Gr W1 W w' → post (.returned v) w') := fun x t' d' v w' h1 h2 h3 h4 h5 => by rw [← hpost]; exact .inr ⟨x, t', d', v, h1, rfl, h2, h3, h4, h5⟩
  rw [hpost]
  have HRS := Lib.hid hrs
  clear hrs hpost
  clear h hr0 hb0 hb1 hcs hc1
  go_enter Tryz.func164, Tryz.ntmps164
  go_wp2_with (first
    | (go_at_call 65; (with_reducible refine HT.out.mono ?_); rintro e w' (⟨t', hp, rfl, hb, hk⟩ | ⟨x, t', d', v, hp, rfl, rfl, hl, hr, hk⟩))
    | (refine wpList_load_row rfl 112 _ rfl W.heap.size rfl 112 cs (0, 0) _ (gr_block hk hlt HK0.out) Tryz.underlying112 rfl HSZ.out ?_)
    | (refine wpList_store_row rfl 112 _ _ rfl (W.heap.size + 1) cs rfl rfl 112 #[.int .u8 0, .string ⟨#[]⟩, .int .u8 0, .int .i64 0, .string ⟨#[]⟩, .slice none 0 0, .slice none 0 0, .slice none 0 0, .int .u8 0, .slice none 0 0, .slice none 0 0, .string ⟨#[]⟩] (gr_block hk (by omega) HK1.out) HSZ.out HCS.out.symm HC1.out ?_))
  · exact ⟨rfl, HB.out _ _ (by rw [← HRS.out]; exact hp) hb (hg0.trans hk)⟩
  · refine bodyPost_ret (v := .agg cs) (results_cell_row Tryz.results164 _ _ (W.heap.size + 1) 112 cs (0, 0) _ rfl (setRow_heap _ _ _ _ _ _ (gr_block hk (by omega) HK1.out)) Tryz.underlying112 rfl HSZ.out) rfl ?_
    exact HO.out () _ _ _ _ (by rw [← HRS.out]; exact hp) rfl hl ((put_row _ _ _).rd hr (by omega)) ((put_row _ _ _).gr (hg0.trans hk) (by omega))
set_option maxRecDepth 100000 in
set_option maxHeartbeats 4000000 in
theorem closedE_any {W1 : World} {wv : Value} {ws : List LX.LW} {c : Str} {t d : Nat} {W : World} (h : RD' W1 wv ws c t d W) (hn : ws.length ≤ 65536) (vs : List Value) (hsh : ShE vs) :
    Calls Tryz.prog 193 #[rp W1, .agg vs.toArray] W (PostR W1 wv ws c (t + 1) W (fun _ v _ => v = .agg vs.toArray) (shutP (ws.map nol) t d)) := by
  have hcs : vs.toArray.size = 10 := (shE_one hsh).2
  have hc1 := all_one (shE_one hsh).1
  clear hsh
  generalize vs.toArray = cs at hcs hc1 ⊢
  obtain ⟨W0, hW0⟩ : ∃ W0, (W.alloc (.cells cs 42)).alloc (.cells #[.int .u8 0, .int .i64 0, .string ⟨#[]⟩, .slice none 0 0, .slice none 0 0, .slice none 0 0, .int .u8 0, .slice none 0 0, .slice none 0 0, .string ⟨#[]⟩] 42) = W0 := ⟨_, rfl⟩
  have hlt := h.1.lt
  have hr0 : RD' W1 wv ws c t d W0 := by rw [← hW0]; exact (h.alloc _).alloc _
  have hg0 : Gr W1 W W0 := by rw [← hW0]; exact ((gr_refl W1 W).alloc _).alloc _
  have hb0 : W0.heap[W.heap.size]? = some (.cells cs 42 (0, 0)) := by rw [← hW0]; exact new2a _ _ _ _ _
  have hb1 : W0.heap[W.heap.size + 1]? = some (.cells #[.int .u8 0, .int .i64 0, .string ⟨#[]⟩, .slice none 0 0, .slice none 0 0, .slice none 0 0, .int .u8 0, .slice none 0 0, .slice none 0 0, .string ⟨#[]⟩] 42 (0, 0)) := by rw [← hW0]; exact new2b _ _ _ _
  have HK0 := Lib.hid hb0
  have HK1 := Lib.hid hb1
  have HSZ := Lib.hid (show (Tryz.prog.info? 42).map (·.size) = some cs.size by rw [hcs]; exact iszE)
  have HCS := Lib.hid hcs
  have HC1 := Lib.hid hc1
  have HT := Lib.hid (shut_any hr0 hn)
  obtain ⟨rs, hrs⟩ : ∃ r, (shutP (ws.map nol) t d) = r := ⟨_, rfl⟩
  rw [hrs]
  obtain ⟨post, hpost⟩ : ∃ p, PostR W1 wv ws c (t + 1) W (fun _ v _ => v = .agg cs) rs = p := ⟨_, rfl⟩
  have HB : Hid (∀ t' w', rs = .bad t' → (∃ d, RD W1 wv ws c t' d w') → Gr W1 W w' → post (.panicked [pz]) w') := fun t' w' h1 h2 h3 => by rw [← hpost]; exact .inl ⟨t', h1, rfl, h2, h3⟩
  have HO : Hid (∀ x t' d' v w', rs = .ok x t' d' → (fun _ v _ => v = .agg cs) x v w' → t + 1 ≤ t' → RD' W1 wv ws c t' d' w' → Gr W1 W w' → post (.returned v) w') := fun x t' d' v w' h1 h2 h3 h4 h5 => by rw [← hpost]; exact .inr ⟨x, t', d', v, h1, rfl, h2, h3, h4, h5⟩
  rw [hpost]
  have HRS := Lib.hid hrs
  clear hrs hpost
  clear h hr0 hb0 hb1 hcs hc1
  go_enter Tryz.func193, Tryz.ntmps193
  go_wp2_with (first
    | (go_at_call 65; (with_reducible refine HT.out.mono ?_); rintro e w' (⟨t', hp, rfl, hb, hk⟩ | ⟨x, t', d', v, hp, rfl, rfl, hl, hr, hk⟩))
    | (refine wpList_load_row rfl 42 _ rfl W.heap.size rfl 42 cs (0, 0) _ (gr_block hk hlt HK0.out) Tryz.underlying42 rfl HSZ.out ?_)
    | (refine wpList_store_row rfl 42 _ _ rfl (W.heap.size + 1) cs rfl rfl 42 #[.int .u8 0, .int .i64 0, .string ⟨#[]⟩, .slice none 0 0, .slice none 0 0, .slice none 0 0, .int .u8 0, .slice none 0 0, .slice none 0 0, .string ⟨#[]⟩] (gr_block hk (by omega) HK1.out) HSZ.out HCS.out.symm HC1.out ?_))
  · exact ⟨rfl, HB.out _ _ (by rw [← HRS.out]; exact hp) hb (hg0.trans hk)⟩
  · refine bodyPost_ret (v := .agg cs) (results_cell_row Tryz.results193 _ _ (W.heap.size + 1) 42 cs (0, 0) _ rfl (setRow_heap _ _ _ _ _ _ (gr_block hk (by omega) HK1.out)) Tryz.underlying42 rfl HSZ.out) rfl ?_
    exact HO.out () _ _ _ _ (by rw [← HRS.out]; exact hp) rfl hl ((put_row _ _ _).rd hr (by omega)) ((put_row _ _ _).gr (hg0.trans hk) (by omega))
set_option maxRecDepth 100000 in
set_option maxHeartbeats 4000000 in
theorem closedS_any {W1 : World} {wv : Value} {ws : List LX.LW} {c : Str} {t d : Nat} {W : World} (h : RD' W1 wv ws c t d W) (hn : ws.length ≤ 65536) (vs : List Value) (hsh : ShS vs) :
    Calls Tryz.prog 109 #[rp W1, .agg vs.toArray] W (PostR W1 wv ws c (t + 1) W (fun _ v _ => v = .agg vs.toArray) (shutP (ws.map nol) t d)) := by
  have hcs : vs.toArray.size = 17 := (shS_one hsh).2
  have hc1 := all_one (shS_one hsh).1
  clear hsh
  generalize vs.toArray = cs at hcs hc1 ⊢
  obtain ⟨W0, hW0⟩ : ∃ W0, (W.alloc (.cells cs 55)).alloc (.cells #[.int .u8 0, .string ⟨#[]⟩, .string ⟨#[]⟩, .int .u8 0, .int .i64 0, .string ⟨#[]⟩, .slice none 0 0, .slice none 0 0, .slice none 0 0, .int .u8 0, .slice none 0 0, .slice none 0 0, .string ⟨#[]⟩, .slice none 0 0, .slice none 0 0, .slice none 0 0, .slice none 0 0] 55) = W0 := ⟨_, rfl⟩
  have hlt := h.1.lt
  have hr0 : RD' W1 wv ws c t d W0 := by rw [← hW0]; exact (h.alloc _).alloc _
  have hg0 : Gr W1 W W0 := by rw [← hW0]; exact ((gr_refl W1 W).alloc _).alloc _
  have hb0 : W0.heap[W.heap.size]? = some (.cells cs 55 (0, 0)) := by rw [← hW0]; exact new2a _ _ _ _ _
  have hb1 : W0.heap[W.heap.size + 1]? = some (.cells #[.int .u8 0, .string ⟨#[]⟩, .string ⟨#[]⟩, .int .u8 0, .int .i64 0, .string ⟨#[]⟩, .slice none 0 0, .slice none 0 0, .slice none 0 0, .int .u8 0, .slice none 0 0, .slice none 0 0, .string ⟨#[]⟩, .slice none 0 0, .slice none 0 0, .slice none 0 0, .slice none 0 0] 55 (0, 0)) := by rw [← hW0]; exact new2b _ _ _ _
  have HK0 := Lib.hid hb0
  have HK1 := Lib.hid hb1
  have HSZ := Lib.hid (show (Tryz.prog.info? 55).map (·.size) = some cs.size by rw [hcs]; exact iszS)
  have HCS := Lib.hid hcs
  have HC1 := Lib.hid hc1
  have HT := Lib.hid (shut_any hr0 hn)
  obtain ⟨rs, hrs⟩ : ∃ r, (shutP (ws.map nol) t d) = r := ⟨_, rfl⟩
  rw [hrs]
  obtain ⟨post, hpost⟩ : ∃ p, PostR W1 wv ws c (t + 1) W (fun _ v _ => v = .agg cs) rs = p := ⟨_, rfl⟩
  have HB : Hid (∀ t' w', rs = .bad t' → (∃ d, RD W1 wv ws c t' d w') → Gr W1 W w' → post (.panicked [pz]) w') := fun t' w' h1 h2 h3 => by rw [← hpost]; exact .inl ⟨t', h1, rfl, h2, h3⟩
  have HO : Hid (∀ x t' d' v w', rs = .ok x t' d' → (fun _ v _ => v = .agg cs) x v w' → t + 1 ≤ t' → RD' W1 wv ws c t' d' w' → Gr W1 W w' → post (.returned v) w') := fun x t' d' v w' h1 h2 h3 h4 h5 => by rw [← hpost]; exact .inr ⟨x, t', d', v, h1, rfl, h2, h3, h4, h5⟩
  rw [hpost]
  have HRS := Lib.hid hrs
  clear hrs hpost
  clear h hr0 hb0 hb1 hcs hc1
  go_enter Tryz.func109, Tryz.ntmps109
  go_wp2_with (first
    | (go_at_call 65; (with_reducible refine HT.out.mono ?_); rintro e w' (⟨t', hp, rfl, hb, hk⟩ | ⟨x, t', d', v, hp, rfl, rfl, hl, hr, hk⟩))
    | (refine wpList_load_row rfl 55 _ rfl W.heap.size rfl 55 cs (0, 0) _ (gr_block hk hlt HK0.out) Tryz.underlying55 rfl HSZ.out ?_)
    | (refine wpList_store_row rfl 55 _ _ rfl (W.heap.size + 1) cs rfl rfl 55 #[.int .u8 0, .string ⟨#[]⟩, .string ⟨#[]⟩, .int .u8 0, .int .i64 0, .string ⟨#[]⟩, .slice none 0 0, .slice none 0 0, .slice none 0 0, .int .u8 0, .slice none 0 0, .slice none 0 0, .string ⟨#[]⟩, .slice none 0 0, .slice none 0 0, .slice none 0 0, .slice none 0 0] (gr_block hk (by omega) HK1.out) HSZ.out HCS.out.symm HC1.out ?_))
  · exact ⟨rfl, HB.out _ _ (by rw [← HRS.out]; exact hp) hb (hg0.trans hk)⟩
  · refine bodyPost_ret (v := .agg cs) (results_cell_row Tryz.results109 _ _ (W.heap.size + 1) 55 cs (0, 0) _ rfl (setRow_heap _ _ _ _ _ _ (gr_block hk (by omega) HK1.out)) Tryz.underlying55 rfl HSZ.out) rfl ?_
    exact HO.out () _ _ _ _ (by rw [← HRS.out]; exact hp) rfl hl ((put_row _ _ _).rd hr (by omega)) ((put_row _ _ _).gr (hg0.trans hk) (by omega))
def tk (W1 : World) (W : World) : Nat := match W.cell? ⟨W1.heap.size, 1, none⟩ with
  | some (.int _ n) => n.toNat
  | _ => 0
theorem RD.tk {W1 : World} {wv : Value} {ws : List LX.LW} {c : Str} {t d : Nat} {W : World} (h : RD W1 wv ws c t d W) : tk W1 W = t := by
  unfold Go.Proofs.YtedmmgfnplbkjaaGreatDoor.tk
  rw [h.cells.1.2.1]
  simp
end Go.Proofs.YtedmmgfnplbkjaaGreatDoor
