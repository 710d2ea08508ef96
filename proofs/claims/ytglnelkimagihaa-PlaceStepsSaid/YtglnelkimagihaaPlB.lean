/-
  Helpers: rows of numbers and of truths in memory, maps from numbers to numbers.
  Conditions: each its own.
-/
import Derived.Test.YtglnelkimagihaaRows
import Derived.Test.YtglnelkimagihaaPlP
import Derived.Deep.Slices
import Derived.Below
import Derived.WalkKit
import Derived.WalkSpells
import Derived.WalkLawsBesides
import Derived.Lib.Hide
import Derived.Deep.QuietTactic
import Derived.BigQuiet
import Derived.Maps.OwnSet
import Derived.Deep.Cut
import Derived.Deep.RegionHeld3
import Derived.IntWalk
import Derived.WalkMore
import Derived.Deep.AppendLies
import Derived.Maps.AppendAt
namespace Go.Proofs.Ytglnelkimagihaa
set_option linter.unusedVariables false
set_option linter.unusedSimpArgs false
open Go.RowKit Go.Deep Go.WideShapes
open Go.Maps hiding size
/-- Holds it at every index below n? -/
def allB (n : Nat) (p : Nat → Bool) : Bool := (List.range n).all p

theorem allB_true {n : Nat} {p : Nat → Bool} : allB n p = true ↔ ∀ i, i < n → p i = true := by simp [allB]

/-- It holds below k. -/
def HeldTo (k : Nat) (p : Nat → Bool) : Prop := ∀ i, i < k → p i = true

theorem HeldTo.zero {p : Nat → Bool} : HeldTo 0 p := fun _ h => absurd h (Nat.not_lt_zero _)
theorem HeldTo.succ {k : Nat} {p : Nat → Bool} (h : HeldTo k p) (hk : p k = true) : HeldTo (k + 1) p := fun i hi => by
  rcases Nat.lt_succ_iff_lt_or_eq.1 hi with h1 | rfl
  · exact h i h1
  · exact hk
theorem HeldTo.all {n : Nat} {p : Nat → Bool} (h : HeldTo n p) : allB n p = true := allB_true.2 h
theorem allB_false {n k : Nat} {p : Nat → Bool} (hk : k < n) (h : p k = false) : allB n p = false := by
  rw [Bool.eq_false_iff]
  intro h1
  rw [allB_true] at h1
  rw [h1 k hk] at h
  exact Bool.noConfusion h

theorem wf_i64 {n : Int} (h : (Lit.int .i64 n).wf = true) : -9223372036854775808 ≤ n ∧ n ≤ 9223372036854775807 := by
  simp [Lit.wf, IntKind.min, IntKind.max, IntKind.signed, IntKind.bits] at h
  omega
theorem int_wf {n : Int} (h : -9223372036854775808 ≤ n ∧ n ≤ 9223372036854775807) : (Lit.int .i64 n).wf = true := by
  simp [Lit.wf, IntKind.min, IntKind.max, IntKind.signed, IntKind.bits]
  omega
theorem ret_b {a b : Bool} (h : a = b) : Ending.returned (.bool a) = .returned (.bool b) := by rw [h]
theorem int_is {a b : Int} (h : a = b) : Value.int .i64 a = .int .i64 b := by rw [h]
theorem below_alloc (w : World) (O : Obj) : Below w.heap.size w (w.alloc O) := (Below.refl _ _).alloc (Nat.le_refl _) _
theorem below_drewM {B : Nat} {w W : World} {m : Nat} (h : Below B w W) : Below B w (W.drewN m) := ⟨h.os, h.tape, h.output, h.size, h.block⟩
theorem below_drawM (w : World) (m : Nat) : Below w.heap.size w (w.drewN m) := below_drewM (Below.refl _ _)
/-- Numbers stand one behind the other. -/
def IL (w : World) (a : Option Addr) (n : Nat) (g : Nat → Int) : Prop := ∀ j, j < n → ∃ b o, a = some ⟨b, o, none⟩ ∧ w.cell? ⟨b, o + j, none⟩ = some (.int .i64 (g j))
theorem IL.below {w w' : World} {a : Option Addr} {n : Nat} {g : Nat → Int} (h : IL w a n g) (hb : Below w.heap.size w w') : IL w' a n g := fun j hj =>
  let ⟨b, o, e, hc⟩ := h j hj
  ⟨b, o, e, by rw [hb.cell (p := ⟨b, o + j, none⟩) (World.block_lt_of_cell? _ _ hc)]; exact hc⟩

theorem grownBy_of_below {w w' : World} (hb : Below w.heap.size w w') (r : Option Nat) : w.grownBy w' r := ⟨hb.os, hb.tape, hb.output, hb.size, fun k hk _ => hb.block k hk⟩
theorem zero_int (w : World) : (zeroValue 3).run Try.prog w = .ok (.int .i64 0) w := by kernel_rfl
theorem grownBy_trans {a b c : World} {row : Option Nat} (h : a.grownBy b row) (k : b.grownBy c row) : a.grownBy c row :=
  ⟨k.os.trans h.os, k.tape.trans h.tape, k.output.trans h.output, Nat.le_trans h.size k.size, fun i hi hr => (k.block i (Nat.lt_of_lt_of_le hi h.size) hr).trans (h.block i hi hr)⟩

/-- Numbers as cells. -/
def rowI (n : Nat) (h : Nat → Int) : List Value := (List.range n).map (fun i => .int .i64 (h i))
theorem rowI_len (n : Nat) (h : Nat → Int) : (rowI n h).length = n := by simp [rowI]
theorem rowI_get {n : Nat} {h : Nat → Int} {j : Nat} (hj : j < n) : (rowI n h)[j]? = some (.int .i64 (h j)) := by simp [rowI, hj]
theorem rowI_ext {n : Nat} {h h' : Nat → Int} (e : ∀ i, i < n → h i = h' i) : rowI n h = rowI n h' := by
  unfold rowI
  exact List.map_congr_left fun i hi => by rw [e i (List.mem_range.1 hi)]
theorem rowI_set {n : Nat} {h : Nat → Int} {j : Nat} (x : Int) : (rowI n h).set j (.int .i64 x) = rowI n (fun i => if i = j then x else h i) := by
  apply List.ext_getElem?
  intro i
  rw [List.getElem?_set]
  by_cases hi : i < n
  · by_cases e : j = i
    · subst e
      rw [if_pos rfl, if_pos (by rw [rowI_len]; exact hi), rowI_get hi, if_pos rfl]
    · rw [if_neg e, rowI_get hi, rowI_get hi, if_neg (Ne.symm e)]
  · have e1 : (rowI n h)[i]? = none := List.getElem?_eq_none (by rw [rowI_len]; omega)
    have e2 : (rowI n (fun i => if i = j then x else h i))[i]? = none := List.getElem?_eq_none (by rw [rowI_len]; omega)
    rw [e1, e2]
    by_cases e : j = i
    · subst e; simp [rowI_len, hi]
    · rw [if_neg e]
/-- A row of one's own: numbers. -/
def OwnI (w : World) (base g n : Nat) (h : Nat → Int) : Prop := w.ownsRow base 3 1 (.slice (some ⟨g, 0, none⟩) n n) n (rowI n h)
theorem OwnI.cell {w : World} {base g n : Nat} {h : Nat → Int} (ho : OwnI w base g n h) {j : Nat} (hj : j < n) : w.cell? ⟨g, j, none⟩ = some (.int .i64 (h j)) := by
  rw [World.ownsRow.cellAt ho j (by omega), rowI_get hj]
theorem OwnI.frozen {w : World} {base g n : Nat} {h : Nat → Int} (ho : OwnI w base g n h) (j : Nat) : w.frozen? ⟨g, j, none⟩ = false := World.ownsRow.frozenAt ho j
theorem OwnI.lt {w : World} {base g n : Nat} {h : Nat → Int} (ho : OwnI w base g n h) : base ≤ g ∧ g < w.heap.size := World.ownsRow.lt ho g rfl
theorem OwnI.kept {w w' : World} {base g n : Nat} {h : Nat → Int} {row : Option Nat} (ho : OwnI w base g n h) (hg : w.grownBy w' row) (hne : some g ≠ row) : OwnI w' base g n h := World.ownsRow.kept ho hg (.inr hne)
theorem OwnI.below {w w' : World} {base g n : Nat} {h : Nat → Int} (ho : OwnI w base g n h) (hb : Below w.heap.size w w') : OwnI w' base g n h := ho.kept (grownBy_of_below hb none) (by simp)
theorem OwnI.il {w : World} {base g n : Nat} {h : Nat → Int} (ho : OwnI w base g n h) : IL w (some ⟨g, 0, none⟩) n h := fun j hj => ⟨g, 0, rfl, by rw [Nat.zero_add]; exact ho.cell hj⟩
theorem OwnI.set {w : World} {base g n : Nat} {h h' : Nat → Int} (ho : OwnI w base g n h) (j : Nat) (x : Int) (e : ∀ i, i < n → h' i = if i = j then x else h i) : OwnI (w.setCell ⟨g, j, none⟩ (.int .i64 x)) base g n h' ∧ w.grownBy (w.setCell ⟨g, j, none⟩ (.int .i64 x)) (some g) := by
  have := World.ownsRow.stored ho j (.int .i64 x)
  rw [rowI_set] at this
  refine ⟨?_, this.2⟩
  unfold OwnI
  rw [rowI_ext e]
  exact this.1
theorem info_int : (Try.prog.info? 3).map (fun i => (i.zero, i.size, i.bytes)) = some (some (.int .i64 0), 1, 8) := by kernel_rfl
theorem replicate_rowI (n : Nat) : List.replicate n (Value.int .i64 0) = rowI n (fun _ => 0) := by
  apply List.ext_getElem?
  intro i
  by_cases hi : i < n
  · rw [rowI_get hi]; simp [hi]
  · have e1 : (rowI n (fun _ => 0))[i]? = none := List.getElem?_eq_none (by rw [rowI_len]; omega)
    rw [e1, List.getElem?_eq_none (by simp; omega)]
theorem make_ints (w : World) (n : Nat) (hn : n * 8 ≤ 281474976710656) (base : Nat) (hb : base ≤ w.heap.size) : ∃ w', (Instr.makeSlice 22 (.int .i64 n) (.int .i64 n)).run Try.prog w = .ok (.slice (some ⟨w.heap.size, 0, none⟩) n n) w' ∧ OwnI w' base w.heap.size n (fun _ => 0) ∧ Below w.heap.size w w' := by
  obtain ⟨i0, hi, hz0, hz1, hz2⟩ := info_parts info_int
  obtain ⟨w', h1, h2, h3⟩ := run_make_full (P := Try.prog) w base 22 3 i0 (.int .i64 0) 1 Try.underlying22 hi hz0 hz1 .i64 .i64 n (by rw [hz2]; omega) (by unfold maxLen; omega) hb
  refine ⟨w', h1, ?_, ⟨h3.os, h3.tape, h3.output, h3.size, fun k hk => h3.block k hk (by simp)⟩⟩
  have e : (madeCells (Value.int .i64 0).cells (n * 1)).toList = List.replicate n (Value.int .i64 0) := by rw [Nat.mul_one]; exact toList_madeCells_one _ _
  rw [e, replicate_rowI] at h2
  exact h2

/-! ### Rows of one's own, of cells -/
def rowV (n : Nat) (h : Nat → Value) : List Value := (List.range n).map h
theorem rowV_len (n : Nat) (h : Nat → Value) : (rowV n h).length = n := by simp [rowV]
theorem rowV_get {n : Nat} {h : Nat → Value} {j : Nat} (hj : j < n) : (rowV n h)[j]? = some (h j) := by simp [rowV, hj]
theorem rowV_ext {n : Nat} {h h' : Nat → Value} (e : ∀ i, i < n → h i = h' i) : rowV n h = rowV n h' := by
  unfold rowV
  exact List.map_congr_left fun i hi => by rw [e i (List.mem_range.1 hi)]
theorem rowV_set {n : Nat} {h : Nat → Value} {j : Nat} (x : Value) : (rowV n h).set j x = rowV n (fun i => if i = j then x else h i) := by
  apply List.ext_getElem?
  intro i
  rw [List.getElem?_set]
  by_cases hi : i < n
  · by_cases e : j = i
    · subst e
      rw [if_pos rfl, if_pos (by rw [rowV_len]; exact hi), rowV_get hi, if_pos rfl]
    · rw [if_neg e, rowV_get hi, rowV_get hi, if_neg (Ne.symm e)]
  · have e1 : (rowV n h)[i]? = none := List.getElem?_eq_none (by rw [rowV_len]; omega)
    have e2 : (rowV n (fun i => if i = j then x else h i))[i]? = none := List.getElem?_eq_none (by rw [rowV_len]; omega)
    rw [e1, e2]
    by_cases e : j = i
    · subst e; simp [rowV_len, hi]
    · rw [if_neg e]
def OwnV (w : World) (base g n T : Nat) (h : Nat → Value) : Prop := w.ownsRow base T 1 (.slice (some ⟨g, 0, none⟩) n n) n (rowV n h)
theorem OwnV.cell {w : World} {base g n T : Nat} {h : Nat → Value} (ho : OwnV w base g n T h) {j : Nat} (hj : j < n) : w.cell? ⟨g, j, none⟩ = some (h j) := by
  rw [World.ownsRow.cellAt ho j (by omega), rowV_get hj]
theorem OwnV.frozen {w : World} {base g n T : Nat} {h : Nat → Value} (ho : OwnV w base g n T h) (j : Nat) : w.frozen? ⟨g, j, none⟩ = false := World.ownsRow.frozenAt ho j
theorem OwnV.lt {w : World} {base g n T : Nat} {h : Nat → Value} (ho : OwnV w base g n T h) : base ≤ g ∧ g < w.heap.size := World.ownsRow.lt ho g rfl
theorem OwnV.kept {w w' : World} {base g n T : Nat} {h : Nat → Value} {row : Option Nat} (ho : OwnV w base g n T h) (hg : w.grownBy w' row) (hne : some g ≠ row) : OwnV w' base g n T h := World.ownsRow.kept ho hg (.inr hne)
theorem OwnV.below {w w' : World} {base g n T : Nat} {h : Nat → Value} (ho : OwnV w base g n T h) (hb : Below w.heap.size w w') : OwnV w' base g n T h := ho.kept (grownBy_of_below hb none) (by simp)
theorem OwnV.set {w : World} {base g n T : Nat} {h h' : Nat → Value} (ho : OwnV w base g n T h) (j : Nat) (x : Value) (e : ∀ i, i < n → h' i = if i = j then x else h i) : OwnV (w.setCell ⟨g, j, none⟩ x) base g n T h' ∧ w.grownBy (w.setCell ⟨g, j, none⟩ x) (some g) := by
  have := World.ownsRow.stored ho j x
  rw [rowV_set] at this
  refine ⟨?_, this.2⟩
  unfold OwnV
  rw [rowV_ext e]
  exact this.1
theorem info_bool : (Try.prog.info? 4).map (fun i => (i.zero, i.size, i.bytes)) = some (some (.bool false), 1, 1) := by kernel_rfl
theorem make_bools (w : World) (n : Nat) (hn : n ≤ 281474976710656) (base : Nat) (hb : base ≤ w.heap.size) : ∃ w', (Instr.makeSlice 25 (.int .i64 n) (.int .i64 n)).run Try.prog w = .ok (.slice (some ⟨w.heap.size, 0, none⟩) n n) w' ∧ OwnV w' base w.heap.size n 4 (fun _ => .bool false) ∧ Below w.heap.size w w' := by
  obtain ⟨i0, hi, hz0, hz1, hz2⟩ := info_parts info_bool
  obtain ⟨w', h1, h2, h3⟩ := run_make_full (P := Try.prog) w base 25 4 i0 (.bool false) 1 Try.underlying25 hi hz0 hz1 .i64 .i64 n (by rw [hz2]; omega) (by unfold maxLen; omega) hb
  refine ⟨w', h1, ?_, ⟨h3.os, h3.tape, h3.output, h3.size, fun k hk => h3.block k hk (by simp)⟩⟩
  have e : (madeCells (Value.bool false).cells (n * 1)).toList = rowV n (fun _ => .bool false) := by
    rw [Nat.mul_one]
    refine (toList_madeCells_one _ _).trans ?_
    apply List.ext_getElem?
    intro i
    by_cases hi : i < n
    · rw [rowV_get hi]; simp [hi]
    · have e1 : (rowV n (fun _ => Value.bool false))[i]? = none := List.getElem?_eq_none (by rw [rowV_len]; omega)
      rw [e1, List.getElem?_eq_none (by simp; omega)]
  rw [e] at h2
  exact h2

theorem own_below {w w' : World} {base e n : Nat} {v : Value} {xs : List Value} (ho : w.ownsRow base e 1 v n xs) (hb : Below w.heap.size w w') : w'.ownsRow base e 1 v n xs := World.ownsRow.kept ho (grownBy_of_below hb (some w.heap.size)) (.inr (fun e => absurd (ho.lt _ e).2 (Nat.lt_irrefl _)))
theorem rowI_snoc (n : Nat) (h : Nat → Int) : rowI (n + 1) h = rowI n h ++ [.int .i64 (h n)] := by
  unfold rowI
  rw [List.range_succ, List.map_append]
  rfl
theorem il_row {w : World} {base n : Nat} {v : Value} {h : Nat → Int} (ho : w.ownsRow base 3 1 v n (rowI n h)) : ∃ a cap, v = .slice a n cap ∧ n ≤ cap ∧ cap ≤ maxLen ∧ IL w a n h := by
  have hh := ho
  rcases ho.2 with ⟨rfl, h0⟩ | ⟨g, cap, cur, rfl, _, _, h1, h2, _⟩
  · exact ⟨none, 0, by rw [h0], by omega, Nat.zero_le _, fun j hj => absurd hj (by omega)⟩
  · refine ⟨some ⟨g, 0, none⟩, cap, rfl, h1, h2, fun j hj => ⟨g, 0, rfl, ?_⟩⟩
    have := World.ownsRow.cells hh (g := g) rfl j _ (rowI_get hj)
    rw [add_plain] at this
    exact this


/-- A row's numbers lie in memory. -/
def RL (w : World) (a : Option Addr) (l : List Int) : Prop := IL w a l.length (Pl.nth l)
theorem RL.below {w w' : World} {a : Option Addr} {l : List Int} (h : RL w a l) (hb : Below w.heap.size w w') : RL w' a l := IL.below h hb
/-- Numbers that an int can be. -/
def RB (l : List Int) : Prop := ∀ x ∈ l, -9223372036854775808 ≤ x ∧ x ≤ 9223372036854775807
theorem RB.nth {l : List Int} (h : RB l) {j : Nat} (hj : j < l.length) : -9223372036854775808 ≤ Pl.nth l j ∧ Pl.nth l j ≤ 9223372036854775807 := h _ (Pl.nth_mem hj)
/-- A row of cells that are a list's. -/
def cellsI (l : List Int) : List Value := l.map (Value.int .i64)
theorem cellsI_row (l : List Int) : cellsI l = rowI l.length (Pl.nth l) := by
  apply List.ext_getElem?
  intro i
  unfold cellsI
  by_cases hi : i < l.length
  · rw [rowI_get hi, Pl.nth_get hi]; simp [hi]
  · have e2 : (rowI l.length (Pl.nth l))[i]? = none := List.getElem?_eq_none (by rw [rowI_len]; omega)
    rw [e2]; simp; omega
/-- A row that is appended to. -/
def OR (w : World) (base : Nat) (v : Value) (l : List Int) : Prop := w.ownsRow base 3 1 v l.length (cellsI l)
theorem OR.nil (w : World) (base : Nat) : OR w base (.slice none 0 0) [] := World.ownsRow_nil _ _ _ _
theorem OR.rl {w : World} {base : Nat} {v : Value} {l : List Int} (h : OR w base v l) : ∃ a cap, v = .slice a l.length cap ∧ l.length ≤ cap ∧ cap ≤ maxLen ∧ RL w a l := by
  unfold OR at h
  rw [cellsI_row] at h
  exact il_row h
theorem OR.below {w w' : World} {base : Nat} {v : Value} {l : List Int} (h : OR w base v l) (hb : Below w.heap.size w w') : OR w' base v l := own_below h hb
theorem OR.kept {w w' : World} {base : Nat} {v : Value} {l : List Int} {row : Option Nat} (h : OR w base v l) (hg : w.grownBy w' row) (hne : v.ownBlock = none ∨ v.ownBlock ≠ row) : OR w' base v l := World.ownsRow.kept h hg hne
theorem OR.drewN {w : World} {base : Nat} {v : Value} {l : List Int} (h : OR w base v l) (m : Nat) : OR (w.drewN m) base v l := h.below (below_drawM w m)
/-- What was appended to. -/
structure App (w0 : World) (base : Nat) (T size : Nat) (v v' : Value) (k : Nat) (xs : List Value) (w' : World) : Prop where
  own : w'.ownsRow base T size v' k xs
  grown : w0.grownBy w' v.ownBlock
  lies : v'.ownBlock = v.ownBlock ∨ ∃ q, v'.ownBlock = some q ∧ w0.heap.size ≤ q
theorem App.below {w0 w' : World} {base T size k B : Nat} {v v' : Value} {xs : List Value} {wa : World} (h : App w0 base T size v v' k xs w') {n : Nat} {ys : List Value} (ho : w0.ownsRow base T size v n ys) (hb : Below B wa w0) (hB : B ≤ base) (hs : B ≤ w0.heap.size) : Below B wa w' :=
  hb.grown h.grown hs (fun g e => Nat.le_trans hB (ho.lt g e).1)
theorem cell_one_new {cs : List Value} {T : TypeId} (W : World) : ∀ j u, cs[j]? = some u → (W.alloc (.cells cs.toArray T)).cell? ((⟨W.heap.size, 0, none⟩ : Addr).add j) = some u := fun j u h => by
  rw [add_plain]
  have := World.cell?_alloc_new (w := W) cs.toArray T (0 + j)
  rw [this]
  simpa using h
/-- One more number at a row's end. -/
theorem app_int {ops : Array Oper} {rest : List Oper} {o : Oper} {a : Act} {Q : Exit → Act → World → Prop} (hgd : o.guard = none) (s x : Operand) (ho : o.op = .call { callee := .builtin .append, args := #[s, x], argTypes := #[22, 22] })
    (W0 : World) (base : Nat) (l : List Int) (y : Int) (v : Value) (hown : OR W0 base v l) (hs : a.eval s = v) (hx : a.eval x = .slice (some ⟨W0.heap.size, 0, none⟩) 1 1) (hlen : l.length ≤ 2000000) (hbase : base ≤ W0.heap.size)
    (h : ∀ v' w', OR w' base v' (l ++ [y]) → App W0 base 3 1 v v' (l.length + 1) (cellsI (l ++ [y])) w' → wpList Try.prog ops Q rest (a.put o.dst v') w') : wpList Try.prog ops Q (o :: rest) a (W0.alloc (.cells #[.int .i64 y] 3)) := by
  obtain ⟨i0, hi, hz0, hz1, hz2⟩ := info_parts info_int
  refine wpList_append_own_at _ hgd s x 22 ho base 3 i0 (.int .i64 0) 1 8 Try.underlying22 hi hz0 hz1 hz2 rfl (by decide) v l.length (cellsI l) hs (World.ownsRow.alloc hown _) ⟨W0.heap.size, 0, none⟩ 1 1 [.int .i64 y] hx rfl (cell_one_new (cs := [.int .i64 y]) W0) (by simp [Value.oneCell']) (by unfold maxLen; omega) (by omega) (Nat.le_trans hbase (below_alloc _ _).size) ?_
  intro v' w' h1 h2 _ h4
  have e : cellsI l ++ [Value.int .i64 y] = cellsI (l ++ [y]) := by simp [cellsI]
  rw [e] at h1
  refine h v' w' (by unfold OR; rw [List.length_append]; exact h1) ⟨h1, grownBy_trans (World.grownBy_alloc _ _ _) h2, h4.imp id (fun q => ⟨_, q, (below_alloc _ _).size⟩)⟩
/-- One more truth at a row's end. -/
theorem app_bool {ops : Array Oper} {rest : List Oper} {o : Oper} {a : Act} {Q : Exit → Act → World → Prop} (hgd : o.guard = none) (s x : Operand) (ho : o.op = .call { callee := .builtin .append, args := #[s, x], argTypes := #[25, 25] })
    (W0 : World) (base n : Nat) (xs : List Value) (y : Bool) (v : Value) (hown : W0.ownsRow base 4 1 v n xs) (hs : a.eval s = v) (hx : a.eval x = .slice (some ⟨W0.heap.size, 0, none⟩) 1 1) (hlen : n ≤ 2000000) (hbase : base ≤ W0.heap.size)
    (h : ∀ v' w', App W0 base 4 1 v v' (n + 1) (xs ++ [.bool y]) w' → wpList Try.prog ops Q rest (a.put o.dst v') w') : wpList Try.prog ops Q (o :: rest) a (W0.alloc (.cells #[.bool y] 4)) := by
  obtain ⟨i0, hi, hz0, hz1, hz2⟩ := info_parts info_bool
  refine wpList_append_own_at _ hgd s x 25 ho base 4 i0 (.bool false) 1 1 Try.underlying25 hi hz0 hz1 hz2 rfl (by decide) v n xs hs (World.ownsRow.alloc hown _) ⟨W0.heap.size, 0, none⟩ 1 1 [.bool y] hx rfl (cell_one_new (cs := [.bool y]) W0) (by simp [Value.oneCell']) (by unfold maxLen; omega) (by omega) (Nat.le_trans hbase (below_alloc _ _).size) ?_
  intro v' w' h1 h2 _ h4
  exact h v' w' ⟨h1, grownBy_trans (World.grownBy_alloc _ _ _) h2, h4.imp id (fun q => ⟨_, q, (below_alloc _ _).size⟩)⟩
theorem OwnI.rl {w : World} {base g : Nat} {l : List Int} (h : OwnI w base g l.length (Pl.nth l)) : RL w (some ⟨g, 0, none⟩) l := h.il
end Go.Proofs.Ytglnelkimagihaa
