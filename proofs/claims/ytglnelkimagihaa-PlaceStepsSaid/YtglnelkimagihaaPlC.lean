/-
  Walks: the closure that place.Steps puts steps together with ('put_true', 'put_false'); slices.Reverse of a row of steps.
  Conditions: what it keeps lies in boxes of its own.
-/
import Derived.Test.YtglnelkimagihaaPlU
namespace Go.Proofs.Ytglnelkimagihaa
set_option linter.unusedVariables false
set_option linter.unusedSimpArgs false
open Go.RowKit Go.Deep Go.WideShapes
open Go.Maps hiding size

/-- Steps as cells. -/
def cellsS (l : List (Int × Int)) : List Value := l.flatMap (fun s => [.int .i64 s.1, .int .i64 s.2])
theorem cellsS_snoc (l : List (Int × Int)) (s : Int × Int) : cellsS (l ++ [s]) = cellsS l ++ [.int .i64 s.1, .int .i64 s.2] := by simp [cellsS]
theorem cellsS_len (l : List (Int × Int)) : (cellsS l).length = l.length * 2 := by
  induction l with
  | nil => rfl
  | cons a r ih => unfold cellsS at ih ⊢; rw [List.flatMap_cons, List.length_append, ih]; simp; omega
theorem cellsS_get {l : List (Int × Int)} {j : Nat} {s : Int × Int} (h : l[j]? = some s) : (cellsS l)[j * 2]? = some (.int .i64 s.1) ∧ (cellsS l)[j * 2 + 1]? = some (.int .i64 s.2) := by
  induction l generalizing j with
  | nil => cases h
  | cons a r ih =>
    unfold cellsS
    rw [List.flatMap_cons]
    cases j with
    | zero => cases h; exact ⟨rfl, rfl⟩
    | succ j =>
      have := ih (j := j) h
      unfold cellsS at this
      have e1 : (j + 1) * 2 = j * 2 + 2 := by omega
      have e2 : (j + 1) * 2 + 1 = (j * 2 + 1) + 2 := by omega
      rw [e1, show j * 2 + 2 + 1 = (j * 2 + 1) + 2 by omega, List.getElem?_append_right (by simp), List.getElem?_append_right (by simp)]
      simpa using this
/-- A row of steps. -/
def SR (w : World) (base : Nat) (v : Value) (l : List (Int × Int)) : Prop := w.ownsRow base 34 2 v l.length (cellsS l)
theorem SR.nil (w : World) (base : Nat) : SR w base (.slice none 0 0) [] := World.ownsRow_nil _ _ _ _
theorem info_step : (Try.prog.info? 34).map (fun i => (i.zero, i.size, i.bytes)) = some (some (.agg #[.int .i64 0, .int .i64 0]), 2, 16) := by kernel_rfl
/-- One more step at a row's end. -/
theorem app_step {ops : Array Oper} {rest : List Oper} {o : Oper} {a : Act} {Q : Exit → Act → World → Prop} (hgd : o.guard = none) (s x : Operand) (ho : o.op = .call { callee := .builtin .append, args := #[s, x], argTypes := #[29, 29] })
    (W0 : World) (base : Nat) (l : List (Int × Int)) (p q : Int) (v : Value) (hown : SR W0 base v l) (hs : a.eval s = v) (hx : a.eval x = .slice (some ⟨W0.heap.size, 0, none⟩) 1 1) (hlen : l.length ≤ 2000000) (hbase : base ≤ W0.heap.size)
    (h : ∀ v' w', App W0 base 34 2 v v' (l ++ [(p, q)]).length (cellsS (l ++ [(p, q)])) w' → wpList Try.prog ops Q rest (a.put o.dst v') w') : wpList Try.prog ops Q (o :: rest) a (W0.alloc (.cells #[.int .i64 p, .int .i64 q] 34)) := by
  obtain ⟨i0, hi, hz0, hz1, hz2⟩ := info_parts info_step
  refine wpList_append_own_at _ hgd s x 29 ho base 34 i0 (.agg #[.int .i64 0, .int .i64 0]) 2 16 Try.underlying29 hi hz0 hz1 hz2 rfl (by decide) v l.length (cellsS l) hs (World.ownsRow.alloc hown _) ⟨W0.heap.size, 0, none⟩ 1 1 [.int .i64 p, .int .i64 q] hx rfl (cell_one_new (cs := [.int .i64 p, .int .i64 q]) W0) (by simp [Value.oneCell']) (by unfold maxLen; omega) (by omega) (Nat.le_trans hbase (below_alloc _ _).size) ?_
  intro v' w' h1 h2 _ h4
  have e : cellsS l ++ [Value.int .i64 p, .int .i64 q] = cellsS (l ++ [(p, q)]) := by rw [cellsS_snoc]
  rw [e] at h1
  exact h v' w' ⟨by rw [List.length_append]; exact h1, grownBy_trans (World.grownBy_alloc _ _ _) h2, h4.imp id (fun q => ⟨_, q, (below_alloc _ _).size⟩)⟩

theorem box1 {W : World} {b : Nat} {v : Value} {T : TypeId} (h : W.heap[b]? = some (.cells #[v] T (0, 0))) : W.cell? ⟨b, 0, none⟩ = some v ∧ W.frozen? ⟨b, 0, none⟩ = false :=
  ⟨by rw [Lib.cell_of_heap h]; rfl, Lib.frozen_of_heap h 0⟩

set_option maxHeartbeats 1000000 in
theorem put_false (x : Int) (b1 b2 : Nat) (y : Int) (W : World) (h : W.heap[b2]? = some (.cells #[.int .i64 y] 3 (0, 0))) :
    Calls Try.prog 23 #[.int .i64 x, .bool false, .pointer (some ⟨b1, 0, none⟩), .pointer (some ⟨b2, 0, none⟩)] W fun e W' => (∃ u, e = .returned u) ∧ W' = W.setCell ⟨b2, 0, none⟩ (.int .i64 x) := by
  obtain ⟨h1, h2⟩ := box1 h
  clear h
  go_enter Try.func23, Try.ntmps23
  go_wp2_with fail
  go_end0
  exact ⟨⟨_, rfl⟩, rfl⟩
set_option maxHeartbeats 1000000 in
theorem put_true (x : Int) (b1 b2 : Nat) (y : Int) (base : Nat) (v : Value) (l : List (Int × Int)) (W : World) (h : W.heap[b2]? = some (.cells #[.int .i64 y] 3 (0, 0))) (hb1 : W.heap[b1]? = some (.cells #[v] 29 (0, 0))) (hr : SR W base v l) (hl : l.length ≤ 2000000) (hbs : base ≤ W.heap.size) (hlt : b1 < base) :
    Calls Try.prog 23 #[.int .i64 x, .bool true, .pointer (some ⟨b1, 0, none⟩), .pointer (some ⟨b2, 0, none⟩)] W fun e W' => (∃ u, e = .returned u) ∧ ∃ v' w8, App W base 34 2 v v' (l ++ [(x, y)]).length (cellsS (l ++ [(x, y)])) w8 ∧ W' = w8.setCell ⟨b1, 0, none⟩ v' := by
  obtain ⟨h1, h2⟩ := box1 h
  obtain ⟨h3, h4⟩ := box1 hb1
  have HB1 := Lib.hid hb1
  have HR := Lib.hid hr
  clear h hb1
  go_enter Try.func23, Try.ntmps23
  go_wp2_with (at_builtin; refine app_step rfl _ _ rfl W base l x y _ hr rfl rfl hl hbs ?_; intro v' w8 ha8; have HA := Lib.hid ha8; have hw1 : w8.heap[b1]? = some (.cells #[v] 29 (0, 0)) := (ha8.grown.block b1 (by omega) (fun e => by have := (hr.lt _ e.symm).1; omega)).trans HB1.out; obtain ⟨h5, h6⟩ := box1 hw1; obtain ⟨g, cp, rfl⟩ := ownsRow_succ (k := l.length) (by have := ha8.own; rwa [List.length_append] at this); clear ha8 hw1)
  go_end0
  exact ⟨⟨_, rfl⟩, _, _, HA.out, rfl⟩
end Go.Proofs.Ytglnelkimagihaa
