/-
  Walks: the closures that put one node more behind a row of nodes: of a host (node's), of all (Read's).
  Conditions: the row is an own one; so many nodes as Go lets a row have.
-/
import Derived.Test.YtajmdhcknmmbbaaGreatDoorSMc
import Derived.Deep.AppendLies
import Derived.Deep.RegionLaw
namespace Go.Proofs.YtajmdhcknmmbbaaGreatDoor.Sh
set_option linter.unusedVariables false
set_option linter.unusedSimpArgs false
open Go.Proofs.YtajmdhcknmmbbaaGreatDoor Go.ChangeShapes Go.WideShapes Go.RowKit Go.Deep

abbrev zeroN : Array Value := #[.int .i64 0, .string ⟨#[]⟩, .string ⟨#[]⟩, .slice none 0 0, .slice none 0 0]
theorem inf_node : (Tryz.prog.info? 58).map (fun i => (i.zero, i.size, i.bytes)) = some (some (.agg zeroN), 5, 88) := by kernel_rfl
theorem step_z {B n : Nat} {xs : List Value} {v : Value} {W : World} (h : W.ownsRow B 58 5 v n xs) (hB : B ≤ W.heap.size) (hby : (n + 1) * 88 ≤ 140737488355328)
    {ops : Array Oper} {o : Oper} {a : Act} {K : Act → World → Prop} {Q : Exit → Act → World → Prop} {E : Prop} (hgd : o.guard = none) (s x : Operand) (ho : o.op = .call { callee := .builtin .append, args := #[s, x], argTypes := #[22, 22] }) (hs : a.eval s = v)
    (T' : TypeId) (hx : a.eval x = .slice (some ⟨W.heap.size, 0, none⟩) 1 1)
    (hK : ∀ g c W', W'.ownsRow B 58 5 (.slice (some ⟨g, 0, none⟩) (n + 1) c) (n + 1) (xs ++ zeroN.toList) → W.grownBy W' v.ownBlock → (v.ownBlock = some g ∨ W.heap.size ≤ g) → K (a.put o.dst (.slice (some ⟨g, 0, none⟩) (n + 1) c)) W') :
    if Region.wanted o (yielded ops a.tmps) = true then Oper.wp Tryz.prog o a (W.alloc (.cells zeroN T')) K Q else E := by
  obtain ⟨i0, hi, hz0, hz1, hz2⟩ := info_parts inf_node
  have hn : n + 1 ≤ 140737488355328 := by omega
  refine step_append_lies _ hgd s x _ ho B 58 i0 (.agg zeroN) 5 88 Tryz.underlying22 hi hz0 hz1 hz2 rfl (by decide) v n xs hs (h.alloc _) ⟨W.heap.size, 0, none⟩ 1 1 zeroN.toList hx rfl
    (fun j u hu => World.news_of_block (heap_alloc_new W (.cells zeroN T' (0, 0))) j u hu) (by intro u hu; simp at hu; rcases hu with rfl | rfl | rfl <;> rfl) (by decide) (by unfold maxLen; omega) hby (by simp; omega) _ rfl ?_
  intro g c w' h1 h2 h3 _
  exact hK g c w' h1 (grow_al h2) (h3.imp id fun e => by simp at e; omega)


/-- What a row of nodes that is under way comes to, when a node is put behind it; the rest of the block that holds it is R. -/
theorem own_cell {W : World} {B n g c : Nat} {xs ys : List Value} (h : W.ownsRow B 58 5 (.slice (some ⟨g, 0, none⟩) (n + 1) c) (n + 1) (xs ++ ys)) (hx : xs.length = n * 5) (j : Nat) (u : Value) (hj : ys[j]? = some u) : W.cell? ⟨g, n * 5 + j, none⟩ = some u ∧ W.frozen? ⟨g, n * 5 + j, none⟩ = false := by
  constructor
  · have := h.cells (g := g) rfl (n * 5 + j) u (by rw [← hx, List.getElem?_append_right (Nat.le_add_right _ _), Nat.add_sub_cancel_left]; exact hj)
    rwa [add_plain, Nat.zero_add] at this
  · rcases h.2 with ⟨e, -⟩ | ⟨g', cap, cur, e, -, hg, -⟩
    · cases e
    · injection e with e1 _ _
      injection e1 with e1
      injection e1 with e1 _ _
      subst e1
      exact Lib.frozen_of_heap hg _
theorem own_set1 {w : World} {B n g c k sz : Nat} {e : TypeId} {xs : List Value} {u : Value} (h : w.ownsRow B e sz (.slice (some ⟨g, 0, none⟩) n c) n xs) (hk : k < n * sz) : (w.setCell ⟨g, k, none⟩ u).ownsRow B e sz (.slice (some ⟨g, 0, none⟩) n c) n (xs.set k u) := by
  refine ⟨by rw [List.length_set]; exact h.1, ?_⟩
  rcases h.2 with ⟨hv, -⟩ | ⟨g', cap, cur, hv, hb, hg, h1, h2, h3, h4⟩
  · cases hv
  · injection hv with e1 e2 e3
    injection e1 with e1
    injection e1 with e1 _ _
    subst e1 e3
    refine .inr ⟨g, c, cur.setIfInBounds k u, rfl, hb, ?_, h1, h2, by simpa using h3, ?_⟩
    · simp [World.setCell, Array.getElem?_modify, hg]
    · rw [Array.toList_setIfInBounds, List.take_set, h4]
theorem own_set5 {w : World} {B n g c : Nat} {e : TypeId} {xs : List Value} {z0 z1 z2 z3 z4 u0 u1 u2 u3 u4 : Value} (h : w.ownsRow B e 5 (.slice (some ⟨g, 0, none⟩) (n + 1) c) (n + 1) (xs ++ [z0, z1, z2, z3, z4])) (hx : xs.length = n * 5) :
    (((((w.setCell ⟨g, n * 5, none⟩ u0).setCell ⟨g, n * 5 + 1, none⟩ u1).setCell ⟨g, n * 5 + 2, none⟩ u2).setCell ⟨g, n * 5 + 3, none⟩ u3).setCell ⟨g, n * 5 + 4, none⟩ u4).ownsRow B e 5 (.slice (some ⟨g, 0, none⟩) (n + 1) c) (n + 1) (xs ++ [u0, u1, u2, u3, u4]) := by
  have h5 := own_set1 (u := u4) (k := n * 5 + 4) (own_set1 (u := u3) (k := n * 5 + 3) (own_set1 (u := u2) (k := n * 5 + 2) (own_set1 (u := u1) (k := n * 5 + 1) (own_set1 (u := u0) (k := n * 5) h (by omega)) (by omega)) (by omega)) (by omega)) (by omega)
  have e : ((((((xs ++ [z0, z1, z2, z3, z4]).set (n * 5) u0).set (n * 5 + 1) u1).set (n * 5 + 2) u2).set (n * 5 + 3) u3).set (n * 5 + 4) u4) = xs ++ [u0, u1, u2, u3, u4] := by
    rw [← hx]
    simp [List.set_append]
  rw [e] at h5
  exact h5
/-- Two ways in which the element and the row are stored. -/
theorem tell_end {W W1 w2 : World} {q j B n g c : Nat} {xs : List Value} {v : Value} {cs : Array Value} {ty : TypeId} {u0 u1 u2 u3 u4 : Value} (hq : W.heap[q]? = some (.cells cs ty (0, 0))) (hne : v.ownBlock ≠ some q) (hb : Below W.heap.size W W1) (hz : W1.heap.size = W.heap.size + 1) (hxl : xs.length = n * 5)
    (h2 : w2.ownsRow B 58 5 (.slice (some ⟨g, 0, none⟩) (n + 1) c) (n + 1) (xs ++ zeroN.toList)) (hg : W1.grownBy w2 v.ownBlock) (hgq : ¬ q = g) (hgg : v.ownBlock = some g ∨ W1.heap.size ≤ g) (w5 : World)
    (h : w5 = (((((w2.setCell ⟨g, n * 5, none⟩ u0).setCell ⟨g, n * 5 + 1, none⟩ u1).setCell ⟨g, n * 5 + 2, none⟩ u2).setCell ⟨g, n * 5 + 3, none⟩ u3).setCell ⟨g, n * 5 + 4, none⟩ u4).setCell ⟨q, j, none⟩ (.slice (some ⟨g, 0, none⟩) (n + 1) c) ∨
      w5 = (((((w2.setCell ⟨q, j, none⟩ (.slice (some ⟨g, 0, none⟩) (n + 1) c)).setCell ⟨g, n * 5, none⟩ u0).setCell ⟨g, n * 5 + 1, none⟩ u1).setCell ⟨g, n * 5 + 2, none⟩ u2).setCell ⟨g, n * 5 + 3, none⟩ u3).setCell ⟨g, n * 5 + 4, none⟩ u4) :
    ∃ v', w5.heap[q]? = some (.cells (cs.setIfInBounds j v') ty (0, 0)) ∧ w5.ownsRow B 58 5 v' (n + 1) (xs ++ [u0, u1, u2, u3, u4]) ∧ v'.ownBlock ≠ some q ∧
        Kp (fun i => i = q ∨ v.ownBlock = some i) W w5 ∧ (∀ g, v'.ownBlock = some g → v.ownBlock = some g ∨ W.heap.size ≤ g) ∧ v' = .slice (some ⟨g, 0, none⟩) (n + 1) c := by
  have hlt := tr_lt_of_block hq
  have hq2 : w2.heap[q]? = some (.cells cs ty (0, 0)) := ((hg.block q (by omega) (fun e => hne e.symm)).trans (hb.block q hlt)).trans hq
  have hk : Kp (fun i => i = q ∨ v.ownBlock = some i) W w2 := (Kp.of_below hb).grown hg (fun g e => .inr (.inr e))
  have hX : W.heap.size ≤ g ∨ (fun i => i = q ∨ v.ownBlock = some i) g := hgg.elim (fun h => .inr (.inr h)) (fun h => .inl (by omega))
  have hsq : ∀ (w : World) (k : Nat) (u : Value), (w.setCell ⟨g, k, none⟩ u).heap[q]? = w.heap[q]? := fun w k u => Below.heap_setCell _ _ _ _ hgq
  have hne' : (Value.slice (some ⟨g, 0, none⟩) (n + 1) c).ownBlock ≠ some q := fun e => hgq (by injection e with e; exact e.symm)
  have hst : ∀ w : World, w.heap[q]? = some (.cells cs ty (0, 0)) → (w.setCell ⟨q, j, none⟩ (.slice (some ⟨g, 0, none⟩) (n + 1) c)).heap[q]? = some (.cells (cs.setIfInBounds j (.slice (some ⟨g, 0, none⟩) (n + 1) c)) ty (0, 0)) := fun w hw => by
    simp [World.setCell, Array.getElem?_modify, hw]
  refine ⟨.slice (some ⟨g, 0, none⟩) (n + 1) c, ?_, ?_, hne', ?_, ?_, rfl⟩
  · rcases h with rfl | rfl
    · exact hst _ (by rw [hsq, hsq, hsq, hsq, hsq]; exact hq2)
    · rw [hsq, hsq, hsq, hsq, hsq]; exact hst _ hq2
  · rcases h with rfl | rfl
    · exact ownsRow_setCell_other (own_set5 h2 hxl) hne' _
    · exact own_set5 (ownsRow_setCell_other h2 hne' _) hxl
  · rcases h with rfl | rfl
    · exact (((((hk.set hX _ _).set hX _ _).set hX _ _).set hX _ _).set hX _ _).set (.inr (.inl rfl)) _ _
    · exact (((((hk.set (.inr (.inl rfl)) _ _).set hX _ _).set hX _ _).set hX _ _).set hX _ _).set hX _ _
  · intro g' e
    injection e with e
    have e : g = g' := e
    subst e
    exact hgg.imp id fun h => by omega
theorem tell_A {W W1 w2 : World} {q j B n g c : Nat} {xs : List Value} {v : Value} {cs cs' : Array Value} {ty : TypeId} {u0 u1 u2 u3 u4 : Value} {post : Value → World → Prop} (hq : W.heap[q]? = some (.cells cs ty (0, 0))) (hne : v.ownBlock ≠ some q) (hb : Below W.heap.size W W1) (hz : W1.heap.size = W.heap.size + 1) (hxl : xs.length = n * 5)
    (h2 : w2.ownsRow B 58 5 (.slice (some ⟨g, 0, none⟩) (n + 1) c) (n + 1) (xs ++ zeroN.toList)) (hg : W1.grownBy w2 v.ownBlock) (hgq : ¬ q = g) (hgg : v.ownBlock = some g ∨ W1.heap.size ≤ g) (hcs : cs.setIfInBounds j (.slice (some ⟨g, 0, none⟩) (n + 1) c) = cs')
    (hp : ∀ w5, w5.heap[q]? = some (.cells cs' ty (0, 0)) → w5.ownsRow B 58 5 (.slice (some ⟨g, 0, none⟩) (n + 1) c) (n + 1) (xs ++ [u0, u1, u2, u3, u4]) → (Value.slice (some ⟨g, 0, none⟩) (n + 1) c).ownBlock ≠ some q → Kp (fun i => i = q ∨ v.ownBlock = some i) W w5 → (∀ g', (Value.slice (some ⟨g, 0, none⟩) (n + 1) c).ownBlock = some g' → v.ownBlock = some g' ∨ W.heap.size ≤ g') → post (.tuple #[]) w5) :
    post (.tuple #[]) ((((((w2.setCell ⟨g, n * 5, none⟩ u0).setCell ⟨g, n * 5 + 1, none⟩ u1).setCell ⟨g, n * 5 + 2, none⟩ u2).setCell ⟨g, n * 5 + 3, none⟩ u3).setCell ⟨g, n * 5 + 4, none⟩ u4).setCell ⟨q, j, none⟩ (.slice (some ⟨g, 0, none⟩) (n + 1) c)) := by
  obtain ⟨v', r1, r2, r3, r4, r5, r6⟩ := tell_end (j := j) (u0 := u0) (u1 := u1) (u2 := u2) (u3 := u3) (u4 := u4) hq hne hb hz hxl h2 hg hgq hgg _ (.inl rfl)
  subst r6
  exact hp _ (by rw [← hcs]; exact r1) r2 r3 r4 r5
theorem tell_B {W W1 w2 : World} {q j B n g c : Nat} {xs : List Value} {v : Value} {cs cs' : Array Value} {ty : TypeId} {u0 u1 u2 u3 u4 : Value} {post : Value → World → Prop} (hq : W.heap[q]? = some (.cells cs ty (0, 0))) (hne : v.ownBlock ≠ some q) (hb : Below W.heap.size W W1) (hz : W1.heap.size = W.heap.size + 1) (hxl : xs.length = n * 5)
    (h2 : w2.ownsRow B 58 5 (.slice (some ⟨g, 0, none⟩) (n + 1) c) (n + 1) (xs ++ zeroN.toList)) (hg : W1.grownBy w2 v.ownBlock) (hgq : ¬ q = g) (hgg : v.ownBlock = some g ∨ W1.heap.size ≤ g) (hcs : cs.setIfInBounds j (.slice (some ⟨g, 0, none⟩) (n + 1) c) = cs')
    (hp : ∀ w5, w5.heap[q]? = some (.cells cs' ty (0, 0)) → w5.ownsRow B 58 5 (.slice (some ⟨g, 0, none⟩) (n + 1) c) (n + 1) (xs ++ [u0, u1, u2, u3, u4]) → (Value.slice (some ⟨g, 0, none⟩) (n + 1) c).ownBlock ≠ some q → Kp (fun i => i = q ∨ v.ownBlock = some i) W w5 → (∀ g', (Value.slice (some ⟨g, 0, none⟩) (n + 1) c).ownBlock = some g' → v.ownBlock = some g' ∨ W.heap.size ≤ g') → post (.tuple #[]) w5) :
    post (.tuple #[]) ((((((w2.setCell ⟨q, j, none⟩ (.slice (some ⟨g, 0, none⟩) (n + 1) c)).setCell ⟨g, n * 5, none⟩ u0).setCell ⟨g, n * 5 + 1, none⟩ u1).setCell ⟨g, n * 5 + 2, none⟩ u2).setCell ⟨g, n * 5 + 3, none⟩ u3).setCell ⟨g, n * 5 + 4, none⟩ u4) := by
  obtain ⟨v', r1, r2, r3, r4, r5, r6⟩ := tell_end (j := j) (u0 := u0) (u1 := u1) (u2 := u2) (u3 := u3) (u4 := u4) hq hne hb hz hxl h2 hg hgq hgg _ (.inr rfl)
  subst r6
  exact hp _ (by rw [← hcs]; exact r1) r2 r3 r4 r5

set_option maxRecDepth 100000 in
set_option maxHeartbeats 4000000 in
theorem tellN_any {q B n : Nat} {xs : List Value} {v : Value} {W : World} (p0 p1 p2 p3 : Value) (hq : W.heap[q]? = some (.cells #[p0, p1, p2, p3, v] 58 (0, 0))) (ho : W.ownsRow B 58 5 v n xs) (hne : v.ownBlock ≠ some q) (hB : B ≤ W.heap.size) (hby : n ≤ 1073741824)
    (i0 : Int) (s1 s2 : ByteArray) (a3 a4 : Option Addr) (n3 n4 c3 c4 : Nat) :
    Calls Tryz.prog 161 #[.agg #[.int .i64 i0, .string s1, .string s2, .slice a3 n3 c3, .slice a4 n4 c4], .pointer (some ⟨q, 0, none⟩)] W fun e W' => e = .returned (.tuple #[]) ∧
      ∃ v', W'.heap[q]? = some (.cells #[p0, p1, p2, p3, v'] 58 (0, 0)) ∧ W'.ownsRow B 58 5 v' (n + 1) (xs ++ [.int .i64 i0, .string s1, .string s2, .slice a3 n3 c3, .slice a4 n4 c4]) ∧ v'.ownBlock ≠ some q ∧
        Kp (fun i => i = q ∨ v.ownBlock = some i) W W' ∧ ∀ g, v'.ownBlock = some g → v.ownBlock = some g ∨ W.heap.size ≤ g := by
  obtain ⟨a, c, rfl, hc1, hc2⟩ := own_slice ho
  obtain ⟨W1, hW1⟩ : ∃ W1, W.alloc (.cells #[.int .i64 i0, .string s1, .string s2, .slice a3 n3 c3, .slice a4 n4 c4] 58) = W1 := ⟨_, rfl⟩
  have hlt := tr_lt_of_block hq
  have hb1 : Below W.heap.size W W1 := by rw [← hW1]; exact (Below.refl _ _).alloc (Nat.le_refl _) _
  have hz1 : W1.heap.size = W.heap.size + 1 := by rw [← hW1]; simp
  have hq1 : W1.heap[q]? = some (.cells #[p0, p1, p2, p3, .slice a n c] 58 (0, 0)) := (hb1.block _ hlt).trans hq
  have ho1 : W1.ownsRow B 58 5 (.slice a n c) n xs := by rw [← hW1]; exact ho.alloc _
  have hn1 : W1.heap[W.heap.size]? = some (.cells #[.int .i64 i0, .string s1, .string s2, .slice a3 n3 c3, .slice a4 n4 c4] 58 (0, 0)) := by rw [← hW1]; exact heap_alloc_new _ _
  have F : ∀ w : World, (∀ i, i < W1.heap.size → ¬ (Value.slice a n c).ownBlock = some i → w.heap[i]? = W1.heap[i]?) → (w.cell? ⟨q, 4, none⟩ = some (.slice a n c) ∧ w.frozen? ⟨q, 4, none⟩ = false) ∧ w.cell? ⟨W.heap.size, 0, none⟩ = some (.int .i64 i0) ∧ w.cell? ⟨W.heap.size, 1, none⟩ = some (.string s1) ∧ w.cell? ⟨W.heap.size, 2, none⟩ = some (.string s2) ∧ w.cell? ⟨W.heap.size, 3, none⟩ = some (.slice a3 n3 c3) ∧ w.cell? ⟨W.heap.size, 4, none⟩ = some (.slice a4 n4 c4) := fun w hw => by
    have e1 := (hw q (by omega) hne).trans hq1
    have e2 := (hw W.heap.size (by omega) (fun e => by have := (ho.lt _ e).2; omega)).trans hn1
    exact ⟨⟨(by rw [Lib.cell_of_heap e1]; rfl), Lib.frozen_of_heap e1 4⟩, (by rw [Lib.cell_of_heap e2]; rfl), (by rw [Lib.cell_of_heap e2]; rfl), (by rw [Lib.cell_of_heap e2]; rfl), (by rw [Lib.cell_of_heap e2]; rfl), (by rw [Lib.cell_of_heap e2]; rfl)⟩
  obtain ⟨⟨c0, f0⟩, x0, x1, x2, x3, x4⟩ := F W1 (fun _ _ _ => rfl)
  have A1 := fun (O : Obj) => F (W1.alloc O) (fun i hi _ => Below.heap_alloc _ _ _ hi)
  have y0 := fun (O : Obj) => (A1 O).1.1
  have y1 := fun (O : Obj) => (A1 O).2.1
  have y2 := fun (O : Obj) => (A1 O).2.2.1
  have y3 := fun (O : Obj) => (A1 O).2.2.2.1
  have y4 := fun (O : Obj) => (A1 O).2.2.2.2.1
  have y5 := fun (O : Obj) => (A1 O).2.2.2.2.2
  have HF := Lib.hid F
  have HW : Hid (W1.ownsRow B 58 5 (.slice a n c) n xs ∧ B ≤ W1.heap.size) := Lib.hid ⟨ho1, by omega⟩
  have hxl := ho.1
  have HZ := Lib.hid hz1
  obtain ⟨POST, hPOST⟩ : ∃ p, (fun (e : Ending) (W' : World) => e = .returned (.tuple #[]) ∧
      ∃ v', W'.heap[q]? = some (.cells #[p0, p1, p2, p3, v'] 58 (0, 0)) ∧ W'.ownsRow B 58 5 v' (n + 1) (xs ++ [.int .i64 i0, .string s1, .string s2, .slice a3 n3 c3, .slice a4 n4 c4]) ∧ v'.ownBlock ≠ some q ∧
        Kp (fun i => i = q ∨ (Value.slice a n c).ownBlock = some i) W W' ∧ ∀ g, v'.ownBlock = some g → (Value.slice a n c).ownBlock = some g ∨ W.heap.size ≤ g) = p := ⟨_, rfl⟩
  rw [hPOST]
  have HPO : Hid (∀ g cg w5, w5.heap[q]? = some (.cells #[p0, p1, p2, p3, .slice (some ⟨g, 0, none⟩) (n + 1) cg] 58 (0, 0)) → w5.ownsRow B 58 5 (.slice (some ⟨g, 0, none⟩) (n + 1) cg) (n + 1) (xs ++ [.int .i64 i0, .string s1, .string s2, .slice a3 n3 c3, .slice a4 n4 c4]) → (Value.slice (some ⟨g, 0, none⟩) (n + 1) cg).ownBlock ≠ some q → Kp (fun i => i = q ∨ (Value.slice a n c).ownBlock = some i) W w5 → (∀ g', (Value.slice (some ⟨g, 0, none⟩) (n + 1) cg).ownBlock = some g' → (Value.slice a n c).ownBlock = some g' ∨ W.heap.size ≤ g') → POST (.returned (.tuple #[])) w5) :=
    Lib.hid fun g cg w5 h1 h2 h3 h4 h5 => by rw [← hPOST]; exact ⟨rfl, _, h1, h2, h3, h4, h5⟩
  clear F A1 hq1 hn1 hz1 hPOST
  go_enter Tryz.func161, Tryz.ntmps161
  go_upto_region 1 with fail
  try rw [hW1]
  have HH := Lib.hid hW1
  clear hW1
  have hg1 : (n : Int) < (n : Int) + 1 := by omega
  have hg0 : (0 : Int) ≤ (n : Int) := by omega
  have hgn : ((n + 1 : Nat) : Int) = (n : Int) + 1 := by omega
  go_region_law ((first | (refine step_z HW.out.1 HW.out.2 (by omega) (by rfl) _ _ (by rfl) (by rfl) _ (by rfl) ?_) | (refine step_z (W := W1.drew) HW.out.1 HW.out.2 (by omega) (by rfl) _ _ (by rfl) (by rfl) _ (by rfl) ?_)); intro g cg w2 hown2 hgr2 hgg2; obtain ⟨⟨e0, ef0⟩, e1, e2, e3, e4, e5⟩ := HF.out w2 (fun i hi hn => hgr2.block i hi (fun e => hn e.symm)); have z0 := own_cell hown2 hxl 0 _ rfl; have z1 := own_cell hown2 hxl 1 _ rfl; have z2 := own_cell hown2 hxl 2 _ rfl; have z3 := own_cell hown2 hxl 3 _ rfl; have z4 := own_cell hown2 hxl 4 _ rfl; obtain ⟨z0, zf0⟩ := z0; obtain ⟨z1, zf1⟩ := z1; obtain ⟨z2, zf2⟩ := z2; obtain ⟨z3, zf3⟩ := z3; obtain ⟨z4, zf4⟩ := z4; rw [Nat.add_zero] at z0 zf0; have HO2 := Lib.hid hown2; have HG2 := Lib.hid hgr2; have hgq : ¬ q = g := (fun e => hgg2.elim (fun h => hne (by rw [h, e])) (fun h => by have z1 := HZ.out; have z2 : W1.drew.heap.size = W1.heap.size := rfl; omega)); have HGG := Lib.hid hgg2; clear hown2 hgr2 hgg2)
  all_goals go_wp2_with fail
  all_goals go_end0
  all_goals (
    have hg3 : W1.grownBy w2 (Value.slice a n c).ownBlock := ⟨HG2.out.os, HG2.out.tape, HG2.out.output, HG2.out.size, HG2.out.block⟩
    have hgg3 : (Value.slice a n c).ownBlock = some g ∨ W1.heap.size ≤ g := HGG.out
    have hp := HPO.out g cg
    have hcs : (#[p0, p1, p2, p3, Value.slice a n c] : Array Value).setIfInBounds 4 (.slice (some ⟨g, 0, none⟩) (n + 1) cg) = #[p0, p1, p2, p3, .slice (some ⟨g, 0, none⟩) (n + 1) cg] := rfl
    first
      | (with_reducible refine tell_A (post := fun v w => POST (.returned v) w) hq hne hb1 HZ.out hxl HO2.out hg3 hgq hgg3 hcs hp)
      | (with_reducible refine tell_B (post := fun v w => POST (.returned v) w) hq hne hb1 HZ.out hxl HO2.out hg3 hgq hgg3 hcs hp))
set_option maxRecDepth 100000 in
set_option maxHeartbeats 4000000 in
theorem tellR_any {q B n : Nat} {xs : List Value} {v : Value} {W : World} (hq : W.heap[q]? = some (.cells #[v] 22 (0, 0))) (ho : W.ownsRow B 58 5 v n xs) (hne : v.ownBlock ≠ some q) (hB : B ≤ W.heap.size) (hby : n ≤ 1073741824)
    (i0 : Int) (s1 s2 : ByteArray) (a3 a4 : Option Addr) (n3 n4 c3 c4 : Nat) :
    Calls Tryz.prog 86 #[.agg #[.int .i64 i0, .string s1, .string s2, .slice a3 n3 c3, .slice a4 n4 c4], .pointer (some ⟨q, 0, none⟩)] W fun e W' => e = .returned (.tuple #[]) ∧
      ∃ v', W'.heap[q]? = some (.cells #[v'] 22 (0, 0)) ∧ W'.ownsRow B 58 5 v' (n + 1) (xs ++ [.int .i64 i0, .string s1, .string s2, .slice a3 n3 c3, .slice a4 n4 c4]) ∧ v'.ownBlock ≠ some q ∧
        Kp (fun i => i = q ∨ v.ownBlock = some i) W W' ∧ ∀ g, v'.ownBlock = some g → v.ownBlock = some g ∨ W.heap.size ≤ g := by
  obtain ⟨a, c, rfl, hc1, hc2⟩ := own_slice ho
  obtain ⟨W1, hW1⟩ : ∃ W1, W.alloc (.cells #[.int .i64 i0, .string s1, .string s2, .slice a3 n3 c3, .slice a4 n4 c4] 58) = W1 := ⟨_, rfl⟩
  have hlt := tr_lt_of_block hq
  have hb1 : Below W.heap.size W W1 := by rw [← hW1]; exact (Below.refl _ _).alloc (Nat.le_refl _) _
  have hz1 : W1.heap.size = W.heap.size + 1 := by rw [← hW1]; simp
  have hq1 : W1.heap[q]? = some (.cells #[.slice a n c] 22 (0, 0)) := (hb1.block _ hlt).trans hq
  have ho1 : W1.ownsRow B 58 5 (.slice a n c) n xs := by rw [← hW1]; exact ho.alloc _
  have hn1 : W1.heap[W.heap.size]? = some (.cells #[.int .i64 i0, .string s1, .string s2, .slice a3 n3 c3, .slice a4 n4 c4] 58 (0, 0)) := by rw [← hW1]; exact heap_alloc_new _ _
  have F : ∀ w : World, (∀ i, i < W1.heap.size → ¬ (Value.slice a n c).ownBlock = some i → w.heap[i]? = W1.heap[i]?) → (w.cell? ⟨q, 0, none⟩ = some (.slice a n c) ∧ w.frozen? ⟨q, 0, none⟩ = false) ∧ w.cell? ⟨W.heap.size, 0, none⟩ = some (.int .i64 i0) ∧ w.cell? ⟨W.heap.size, 1, none⟩ = some (.string s1) ∧ w.cell? ⟨W.heap.size, 2, none⟩ = some (.string s2) ∧ w.cell? ⟨W.heap.size, 3, none⟩ = some (.slice a3 n3 c3) ∧ w.cell? ⟨W.heap.size, 4, none⟩ = some (.slice a4 n4 c4) := fun w hw => by
    have e1 := (hw q (by omega) hne).trans hq1
    have e2 := (hw W.heap.size (by omega) (fun e => by have := (ho.lt _ e).2; omega)).trans hn1
    exact ⟨⟨(by rw [Lib.cell_of_heap e1]; rfl), Lib.frozen_of_heap e1 0⟩, (by rw [Lib.cell_of_heap e2]; rfl), (by rw [Lib.cell_of_heap e2]; rfl), (by rw [Lib.cell_of_heap e2]; rfl), (by rw [Lib.cell_of_heap e2]; rfl), (by rw [Lib.cell_of_heap e2]; rfl)⟩
  obtain ⟨⟨c0, f0⟩, x0, x1, x2, x3, x4⟩ := F W1 (fun _ _ _ => rfl)
  have A1 := fun (O : Obj) => F (W1.alloc O) (fun i hi _ => Below.heap_alloc _ _ _ hi)
  have y0 := fun (O : Obj) => (A1 O).1.1
  have y1 := fun (O : Obj) => (A1 O).2.1
  have y2 := fun (O : Obj) => (A1 O).2.2.1
  have y3 := fun (O : Obj) => (A1 O).2.2.2.1
  have y4 := fun (O : Obj) => (A1 O).2.2.2.2.1
  have y5 := fun (O : Obj) => (A1 O).2.2.2.2.2
  have HF := Lib.hid F
  have HW : Hid (W1.ownsRow B 58 5 (.slice a n c) n xs ∧ B ≤ W1.heap.size) := Lib.hid ⟨ho1, by omega⟩
  have hxl := ho.1
  have HZ := Lib.hid hz1
  obtain ⟨POST, hPOST⟩ : ∃ p, (fun (e : Ending) (W' : World) => e = .returned (.tuple #[]) ∧
      ∃ v', W'.heap[q]? = some (.cells #[v'] 22 (0, 0)) ∧ W'.ownsRow B 58 5 v' (n + 1) (xs ++ [.int .i64 i0, .string s1, .string s2, .slice a3 n3 c3, .slice a4 n4 c4]) ∧ v'.ownBlock ≠ some q ∧
        Kp (fun i => i = q ∨ (Value.slice a n c).ownBlock = some i) W W' ∧ ∀ g, v'.ownBlock = some g → (Value.slice a n c).ownBlock = some g ∨ W.heap.size ≤ g) = p := ⟨_, rfl⟩
  rw [hPOST]
  have HPO : Hid (∀ g cg w5, w5.heap[q]? = some (.cells #[.slice (some ⟨g, 0, none⟩) (n + 1) cg] 22 (0, 0)) → w5.ownsRow B 58 5 (.slice (some ⟨g, 0, none⟩) (n + 1) cg) (n + 1) (xs ++ [.int .i64 i0, .string s1, .string s2, .slice a3 n3 c3, .slice a4 n4 c4]) → (Value.slice (some ⟨g, 0, none⟩) (n + 1) cg).ownBlock ≠ some q → Kp (fun i => i = q ∨ (Value.slice a n c).ownBlock = some i) W w5 → (∀ g', (Value.slice (some ⟨g, 0, none⟩) (n + 1) cg).ownBlock = some g' → (Value.slice a n c).ownBlock = some g' ∨ W.heap.size ≤ g') → POST (.returned (.tuple #[])) w5) :=
    Lib.hid fun g cg w5 h1 h2 h3 h4 h5 => by rw [← hPOST]; exact ⟨rfl, _, h1, h2, h3, h4, h5⟩
  clear F A1 hq1 hn1 hz1 hPOST
  go_enter Tryz.func86, Tryz.ntmps86
  go_upto_region 1 with fail
  try rw [hW1]
  have HH := Lib.hid hW1
  clear hW1
  have hg1 : (n : Int) < (n : Int) + 1 := by omega
  have hg0 : (0 : Int) ≤ (n : Int) := by omega
  have hgn : ((n + 1 : Nat) : Int) = (n : Int) + 1 := by omega
  go_region_law ((first | (refine step_z HW.out.1 HW.out.2 (by omega) (by rfl) _ _ (by rfl) (by rfl) _ (by rfl) ?_) | (refine step_z (W := W1.drew) HW.out.1 HW.out.2 (by omega) (by rfl) _ _ (by rfl) (by rfl) _ (by rfl) ?_)); intro g cg w2 hown2 hgr2 hgg2; obtain ⟨⟨e0, ef0⟩, e1, e2, e3, e4, e5⟩ := HF.out w2 (fun i hi hn => hgr2.block i hi (fun e => hn e.symm)); have z0 := own_cell hown2 hxl 0 _ rfl; have z1 := own_cell hown2 hxl 1 _ rfl; have z2 := own_cell hown2 hxl 2 _ rfl; have z3 := own_cell hown2 hxl 3 _ rfl; have z4 := own_cell hown2 hxl 4 _ rfl; obtain ⟨z0, zf0⟩ := z0; obtain ⟨z1, zf1⟩ := z1; obtain ⟨z2, zf2⟩ := z2; obtain ⟨z3, zf3⟩ := z3; obtain ⟨z4, zf4⟩ := z4; rw [Nat.add_zero] at z0 zf0; have HO2 := Lib.hid hown2; have HG2 := Lib.hid hgr2; have hgq : ¬ q = g := (fun e => hgg2.elim (fun h => hne (by rw [h, e])) (fun h => by have z1 := HZ.out; have z2 : W1.drew.heap.size = W1.heap.size := rfl; omega)); have HGG := Lib.hid hgg2; clear hown2 hgr2 hgg2)
  all_goals go_wp2_with fail
  all_goals go_end0
  all_goals (
    have hg3 : W1.grownBy w2 (Value.slice a n c).ownBlock := ⟨HG2.out.os, HG2.out.tape, HG2.out.output, HG2.out.size, HG2.out.block⟩
    have hgg3 : (Value.slice a n c).ownBlock = some g ∨ W1.heap.size ≤ g := HGG.out
    have hp := HPO.out g cg
    have hcs : (#[Value.slice a n c] : Array Value).setIfInBounds 0 (.slice (some ⟨g, 0, none⟩) (n + 1) cg) = #[.slice (some ⟨g, 0, none⟩) (n + 1) cg] := rfl
    first
      | (with_reducible refine tell_A (post := fun v w => POST (.returned v) w) hq hne hb1 HZ.out hxl HO2.out hg3 hgq hgg3 hcs hp)
      | (with_reducible refine tell_B (post := fun v w => POST (.returned v) w) hq hne hb1 HZ.out hxl HO2.out hg3 hgq hgg3 hcs hp))
end Go.Proofs.YtajmdhcknmmbbaaGreatDoor.Sh
