/-
  NormKinds: for any three children the law returns true and leaves its arguments as they were: being alike is an equivalence, and looks at kind and name alone.
  Conditions: none beyond the row's own; the listed variables are tied to the program's text by the card.
-/
import Derived.Test.YtecmghfofcofpaaDoorNkL
import Derived.Test.YtecmghfofcofpaaDoorNkDoor
namespace Go.Proofs.YtecmghfofcofpaaDoor
set_option linter.unusedVariables false
set_option linter.unusedSimpArgs false
open Go.ChangeShapes Go.WideShapes Go.ChangeAt Go.RowKit Go.Deep

theorem alike_refl (c : C) : c.alike c = true := by simp [C.alike]
theorem alike_symm (c d : C) : c.alike d = d.alike c := by
  unfold C.alike
  congr 1
  · exact decide_eq_decide.2 eq_comm
  · exact decide_eq_decide.2 eq_comm
theorem alike_trans (a b c : C) (h : a.alike b = true) (k : b.alike c = true) : a.alike c = true := by
  simp only [C.alike, Bool.and_eq_true, decide_eq_true_eq] at h k ⊢
  exact ⟨h.1.trans k.1, h.2.trans k.2⟩

/-- Three boxes behind w. -/
structure ThreeIn (w : World) (A B D : Array Value) (T : TypeId) (W : World) : Prop where
  low : Below w.heap.size w W
  a : W.heap[w.heap.size]? = some (.cells A T (0, 0))
  b : W.heap[w.heap.size + 1]? = some (.cells B T (0, 0))
  d : W.heap[w.heap.size + 1 + 1]? = some (.cells D T (0, 0))
theorem ThreeIn.start (w : World) (A B D : Array Value) (T : TypeId) : ThreeIn w A B D T (((w.alloc (.cells A T)).alloc (.cells B T)).alloc (.cells D T)) :=
  ⟨(((Below.refl _ _).alloc (Nat.le_refl _) _).alloc (by simp) _).alloc (by simp; omega) _, al_old _ (al_old _ (al_new _ rfl)), al_old _ (al_new _ (by simp)), al_new _ (by simp)⟩
theorem ThreeIn.below {w W W' : World} {A B D : Array Value} {T : TypeId} (h : ThreeIn w A B D T W) (hb : Below W.heap.size W W') : ThreeIn w A B D T W' :=
  ⟨h.low.trans (hb.mono h.low.size), (hb.block _ (Array.getElem?_eq_some_iff.1 h.a).1).trans h.a, (hb.block _ (Array.getElem?_eq_some_iff.1 h.b).1).trans h.b, (hb.block _ (Array.getElem?_eq_some_iff.1 h.d).1).trans h.d⟩
theorem ThreeIn.cells {w W : World} {A B D : Array Value} {T : TypeId} (h : ThreeIn w A B D T W) : (∀ j, W.cell? ⟨w.heap.size, j, none⟩ = A[j]?) ∧ (∀ j, W.cell? ⟨w.heap.size + 1, j, none⟩ = B[j]?) ∧ ∀ j, W.cell? ⟨w.heap.size + 1 + 1, j, none⟩ = D[j]? :=
  ⟨fun j => Lib.cell_of_heap h.a j, fun j => Lib.cell_of_heap h.b j, fun j => Lib.cell_of_heap h.d j⟩

set_option maxRecDepth 100000 in
set_option maxHeartbeats 4000000 in
theorem kinds_any (a b c : C) (w : World) (ha : a.val.In w) (hb : b.val.In w) (hc : c.val.In w) (ht : Tabs w) : Calls Tryd.prog 6 #[a.agg, b.agg, c.agg] w fun x w' => x = .returned (.bool true) ∧ Below w.heap.size w w' := by
  have HAB := Lib.hid (fun W (h : Below w.heap.size w W) => alike_any a b W (ha.below h) (hb.below h))
  have HBC := Lib.hid (fun W (h : Below w.heap.size w W) => alike_any b c W (hb.below h) (hc.below h))
  have HAC := Lib.hid (fun W (h : Below w.heap.size w W) => alike_any a c W (ha.below h) (hc.below h))
  have HAA := Lib.hid (fun W (h : Below w.heap.size w W) => alike_any a a W (ha.below h) (ha.below h))
  have HBA := Lib.hid (fun W (h : Below w.heap.size w W) => alike_any b a W (hb.below h) (ha.below h))
  have HAD := Lib.hid (fun W (h : Below w.heap.size w W) => alike_any a ⟨c.key, a.kind, a.name, c.val⟩ W (ha.below h) (hc.below h))
  have HAL := Lib.hid (fun W (h : Below w.heap.size w W) => alive_any W (ht.below h))
  rw [alike_refl] at HAA
  rw [alike_symm b a] at HBA
  rw [show a.alike ⟨c.key, a.kind, a.name, c.val⟩ = true from alike_refl a] at HAD
  have htr := Lib.hid (alike_trans a b c)
  generalize a.alike b = x at HAB HBA htr
  generalize b.alike c = y at HBC htr
  generalize a.alike c = z at HAC htr
  obtain ⟨key1, ek1, nm1, v1⟩ := a
  cases v1 with
  | leaf => exact ha.elim
  | mk k1 n1 s1 la1 ll1 lc1 L1 fa1 fl1 fc1 fn1 F1 e1 vk1 hk1 =>
  obtain ⟨key2, ek2, nm2, v2⟩ := b
  cases v2 with
  | leaf => exact hb.elim
  | mk k2 n2 s2 la2 ll2 lc2 L2 fa2 fl2 fc2 fn2 F2 e2 vk2 hk2 =>
  obtain ⟨key3, ek3, nm3, v3⟩ := c
  cases v3 with
  | leaf => exact hc.elim
  | mk k3 n3 s3 la3 ll3 lc3 L3 fa3 fl3 fc3 fn3 F3 e3 vk3 hk3 =>
  clear ha hb hc ht
  simp only [C.agg, C.cells, V.cells] at HAB HBC HAC HAA HBA HAD ⊢
  go_enter Tryd.func6, Tryd.ntmps6
  go_wp2_with fail
  have KS : Hid (∀ W, ThreeIn w #[.string key1, .int .u8 ek1, .string nm1, .int .u8 k1, .int .i64 n1, .string s1, .slice la1 ll1 lc1, .slice fa1 fl1 fc1, .int .u8 e1, .string vk1, .bool hk1] #[.string key2, .int .u8 ek2, .string nm2, .int .u8 k2, .int .i64 n2, .string s2, .slice la2 ll2 lc2, .slice fa2 fl2 fc2, .int .u8 e2, .string vk2, .bool hk2] #[.string key3, .int .u8 ek3, .string nm3, .int .u8 k3, .int .i64 n3, .string s3, .slice la3 ll3 lc3, .slice fa3 fl3 fc3, .int .u8 e3, .string vk3, .bool hk3] 34 W → (fun W => ThreeIn w #[.string key1, .int .u8 ek1, .string nm1, .int .u8 k1, .int .i64 n1, .string s1, .slice la1 ll1 lc1, .slice fa1 fl1 fc1, .int .u8 e1, .string vk1, .bool hk1] #[.string key2, .int .u8 ek2, .string nm2, .int .u8 k2, .int .i64 n2, .string s2, .slice la2 ll2 lc2, .slice fa2 fl2 fc2, .int .u8 e2, .string vk2, .bool hk2] #[.string key3, .int .u8 ek3, .string nm3, .int .u8 k3, .int .i64 n3, .string s3, .slice la3 ll3 lc3, .slice fa3 fl3 fc3, .int .u8 e3, .string vk3, .bool hk3] 34 W ∧ W.cell? ⟨w.heap.size, 0, none⟩ = some (.string key1) ∧ W.cell? ⟨w.heap.size, 1, none⟩ = some (.int .u8 ek1) ∧ W.cell? ⟨w.heap.size, 2, none⟩ = some (.string nm1) ∧ W.cell? ⟨w.heap.size, 3, none⟩ = some (.int .u8 k1) ∧ W.cell? ⟨w.heap.size, 4, none⟩ = some (.int .i64 n1) ∧ W.cell? ⟨w.heap.size, 5, none⟩ = some (.string s1) ∧ W.cell? ⟨w.heap.size, 6, none⟩ = some (.slice la1 ll1 lc1) ∧ W.cell? ⟨w.heap.size, 7, none⟩ = some (.slice fa1 fl1 fc1) ∧ W.cell? ⟨w.heap.size, 8, none⟩ = some (.int .u8 e1) ∧ W.cell? ⟨w.heap.size, 9, none⟩ = some (.string vk1) ∧ W.cell? ⟨w.heap.size, 10, none⟩ = some (.bool hk1) ∧ W.cell? ⟨w.heap.size + 1, 0, none⟩ = some (.string key2) ∧ W.cell? ⟨w.heap.size + 1, 1, none⟩ = some (.int .u8 ek2) ∧ W.cell? ⟨w.heap.size + 1, 2, none⟩ = some (.string nm2) ∧ W.cell? ⟨w.heap.size + 1, 3, none⟩ = some (.int .u8 k2) ∧ W.cell? ⟨w.heap.size + 1, 4, none⟩ = some (.int .i64 n2) ∧ W.cell? ⟨w.heap.size + 1, 5, none⟩ = some (.string s2) ∧ W.cell? ⟨w.heap.size + 1, 6, none⟩ = some (.slice la2 ll2 lc2) ∧ W.cell? ⟨w.heap.size + 1, 7, none⟩ = some (.slice fa2 fl2 fc2) ∧ W.cell? ⟨w.heap.size + 1, 8, none⟩ = some (.int .u8 e2) ∧ W.cell? ⟨w.heap.size + 1, 9, none⟩ = some (.string vk2) ∧ W.cell? ⟨w.heap.size + 1, 10, none⟩ = some (.bool hk2) ∧ W.cell? ⟨w.heap.size + 1 + 1, 0, none⟩ = some (.string key3) ∧ W.cell? ⟨w.heap.size + 1 + 1, 1, none⟩ = some (.int .u8 ek3) ∧ W.cell? ⟨w.heap.size + 1 + 1, 2, none⟩ = some (.string nm3) ∧ W.cell? ⟨w.heap.size + 1 + 1, 3, none⟩ = some (.int .u8 k3) ∧ W.cell? ⟨w.heap.size + 1 + 1, 4, none⟩ = some (.int .i64 n3) ∧ W.cell? ⟨w.heap.size + 1 + 1, 5, none⟩ = some (.string s3) ∧ W.cell? ⟨w.heap.size + 1 + 1, 6, none⟩ = some (.slice la3 ll3 lc3) ∧ W.cell? ⟨w.heap.size + 1 + 1, 7, none⟩ = some (.slice fa3 fl3 fc3) ∧ W.cell? ⟨w.heap.size + 1 + 1, 8, none⟩ = some (.int .u8 e3) ∧ W.cell? ⟨w.heap.size + 1 + 1, 9, none⟩ = some (.string vk3) ∧ W.cell? ⟨w.heap.size + 1 + 1, 10, none⟩ = some (.bool hk3)) W) := fun W h => ⟨h, by rw [h.cells.1]; rfl, by rw [h.cells.1]; rfl, by rw [h.cells.1]; rfl, by rw [h.cells.1]; rfl, by rw [h.cells.1]; rfl, by rw [h.cells.1]; rfl, by rw [h.cells.1]; rfl, by rw [h.cells.1]; rfl, by rw [h.cells.1]; rfl, by rw [h.cells.1]; rfl, by rw [h.cells.1]; rfl, by rw [h.cells.2.1]; rfl, by rw [h.cells.2.1]; rfl, by rw [h.cells.2.1]; rfl, by rw [h.cells.2.1]; rfl, by rw [h.cells.2.1]; rfl, by rw [h.cells.2.1]; rfl, by rw [h.cells.2.1]; rfl, by rw [h.cells.2.1]; rfl, by rw [h.cells.2.1]; rfl, by rw [h.cells.2.1]; rfl, by rw [h.cells.2.1]; rfl, by rw [h.cells.2.2]; rfl, by rw [h.cells.2.2]; rfl, by rw [h.cells.2.2]; rfl, by rw [h.cells.2.2]; rfl, by rw [h.cells.2.2]; rfl, by rw [h.cells.2.2]; rfl, by rw [h.cells.2.2]; rfl, by rw [h.cells.2.2]; rfl, by rw [h.cells.2.2]; rfl, by rw [h.cells.2.2]; rfl, by rw [h.cells.2.2]; rfl⟩
  have hS0 := KS.out _ (ThreeIn.start w #[.string key1, .int .u8 ek1, .string nm1, .int .u8 k1, .int .i64 n1, .string s1, .slice la1 ll1 lc1, .slice fa1 fl1 fc1, .int .u8 e1, .string vk1, .bool hk1] #[.string key2, .int .u8 ek2, .string nm2, .int .u8 k2, .int .i64 n2, .string s2, .slice la2 ll2 lc2, .slice fa2 fl2 fc2, .int .u8 e2, .string vk2, .bool hk2] #[.string key3, .int .u8 ek3, .string nm3, .int .u8 k3, .int .i64 n3, .string s3, .slice la3 ll3 lc3, .slice fa3 fl3 fc3, .int .u8 e3, .string vk3, .bool hk3] 34)
  generalize ((w.alloc (.cells #[.string key1, .int .u8 ek1, .string nm1, .int .u8 k1, .int .i64 n1, .string s1, .slice la1 ll1 lc1, .slice fa1 fl1 fc1, .int .u8 e1, .string vk1, .bool hk1] 34)).alloc (.cells #[.string key2, .int .u8 ek2, .string nm2, .int .u8 k2, .int .i64 n2, .string s2, .slice la2 ll2 lc2, .slice fa2 fl2 fc2, .int .u8 e2, .string vk2, .bool hk2] 34)).alloc (.cells #[.string key3, .int .u8 ek3, .string nm3, .int .u8 k3, .int .i64 n3, .string s3, .slice la3 ll3 lc3, .slice fa3 fl3 fc3, .int .u8 e3, .string vk3, .bool hk3] 34) = W0 at hS0 ⊢
  go_region_held3 (fun W => ThreeIn w #[.string key1, .int .u8 ek1, .string nm1, .int .u8 k1, .int .i64 n1, .string s1, .slice la1 ll1 lc1, .slice fa1 fl1 fc1, .int .u8 e1, .string vk1, .bool hk1] #[.string key2, .int .u8 ek2, .string nm2, .int .u8 k2, .int .i64 n2, .string s2, .slice la2 ll2 lc2, .slice fa2 fl2 fc2, .int .u8 e2, .string vk2, .bool hk2] #[.string key3, .int .u8 ek3, .string nm3, .int .u8 k3, .int .i64 n3, .string s3, .slice la3 ll3 lc3, .slice fa3 fl3 fc3, .int .u8 e3, .string vk3, .bool hk3] 34 W ∧ W.cell? ⟨w.heap.size, 0, none⟩ = some (.string key1) ∧ W.cell? ⟨w.heap.size, 1, none⟩ = some (.int .u8 ek1) ∧ W.cell? ⟨w.heap.size, 2, none⟩ = some (.string nm1) ∧ W.cell? ⟨w.heap.size, 3, none⟩ = some (.int .u8 k1) ∧ W.cell? ⟨w.heap.size, 4, none⟩ = some (.int .i64 n1) ∧ W.cell? ⟨w.heap.size, 5, none⟩ = some (.string s1) ∧ W.cell? ⟨w.heap.size, 6, none⟩ = some (.slice la1 ll1 lc1) ∧ W.cell? ⟨w.heap.size, 7, none⟩ = some (.slice fa1 fl1 fc1) ∧ W.cell? ⟨w.heap.size, 8, none⟩ = some (.int .u8 e1) ∧ W.cell? ⟨w.heap.size, 9, none⟩ = some (.string vk1) ∧ W.cell? ⟨w.heap.size, 10, none⟩ = some (.bool hk1) ∧ W.cell? ⟨w.heap.size + 1, 0, none⟩ = some (.string key2) ∧ W.cell? ⟨w.heap.size + 1, 1, none⟩ = some (.int .u8 ek2) ∧ W.cell? ⟨w.heap.size + 1, 2, none⟩ = some (.string nm2) ∧ W.cell? ⟨w.heap.size + 1, 3, none⟩ = some (.int .u8 k2) ∧ W.cell? ⟨w.heap.size + 1, 4, none⟩ = some (.int .i64 n2) ∧ W.cell? ⟨w.heap.size + 1, 5, none⟩ = some (.string s2) ∧ W.cell? ⟨w.heap.size + 1, 6, none⟩ = some (.slice la2 ll2 lc2) ∧ W.cell? ⟨w.heap.size + 1, 7, none⟩ = some (.slice fa2 fl2 fc2) ∧ W.cell? ⟨w.heap.size + 1, 8, none⟩ = some (.int .u8 e2) ∧ W.cell? ⟨w.heap.size + 1, 9, none⟩ = some (.string vk2) ∧ W.cell? ⟨w.heap.size + 1, 10, none⟩ = some (.bool hk2) ∧ W.cell? ⟨w.heap.size + 1 + 1, 0, none⟩ = some (.string key3) ∧ W.cell? ⟨w.heap.size + 1 + 1, 1, none⟩ = some (.int .u8 ek3) ∧ W.cell? ⟨w.heap.size + 1 + 1, 2, none⟩ = some (.string nm3) ∧ W.cell? ⟨w.heap.size + 1 + 1, 3, none⟩ = some (.int .u8 k3) ∧ W.cell? ⟨w.heap.size + 1 + 1, 4, none⟩ = some (.int .i64 n3) ∧ W.cell? ⟨w.heap.size + 1 + 1, 5, none⟩ = some (.string s3) ∧ W.cell? ⟨w.heap.size + 1 + 1, 6, none⟩ = some (.slice la3 ll3 lc3) ∧ W.cell? ⟨w.heap.size + 1 + 1, 7, none⟩ = some (.slice fa3 fl3 fc3) ∧ W.cell? ⟨w.heap.size + 1 + 1, 8, none⟩ = some (.int .u8 e3) ∧ W.cell? ⟨w.heap.size + 1 + 1, 9, none⟩ = some (.string vk3) ∧ W.cell? ⟨w.heap.size + 1 + 1, 10, none⟩ = some (.bool hk3))
    (first | exact KS.out _ (ThreeIn.below (And.left (by assumption)) (Below.refl _ _).drew) | exact KS.out _ (ThreeIn.below (And.left (by assumption)) (by assumption)))
    (first
      | (go_at_call 13; (with_reducible refine (HAB.out _ ?_).mono ?_); (go_split_ands; exact ThreeIn.low (by assumption)); rintro x1 w1 ⟨rfl, hb1⟩)
      | (go_at_call 13; (with_reducible refine (HBC.out _ ?_).mono ?_); (go_split_ands; exact ThreeIn.low (by assumption)); rintro x1 w1 ⟨rfl, hb1⟩)
      | (go_at_call 13; (with_reducible refine (HAC.out _ ?_).mono ?_); (go_split_ands; exact ThreeIn.low (by assumption)); rintro x1 w1 ⟨rfl, hb1⟩))
  rename_i hS1
  obtain ⟨ht3, a0, a1, a2, a3, a4, a5, a6, a7, a8, a9, a10, b0, b1, b2, b3, b4, b5, b6, b7, b8, b9, b10, c0, c1, c2, c3, c4, c5, c6, c7, c8, c9, c10⟩ := hS1
  have HT3 := Lib.hid ht3
  clear ht3
  have HB4 : Hid (Below w.heap.size w (w1.alloc (.cells #[.string key3, .int .u8 ek1, .string nm1, .int .u8 k3, .int .i64 n3, .string s3, .slice la3 ll3 lc3, .slice fa3 fl3 fc3, .int .u8 e3, .string vk3, .bool hk3] 34))) := HT3.out.low.trans ((below_alloc w1 _).mono HT3.out.low.size)
  have K2 : Hid (∀ W, Below (w1.alloc (.cells #[.string key3, .int .u8 ek1, .string nm1, .int .u8 k3, .int .i64 n3, .string s3, .slice la3 ll3 lc3, .slice fa3 fl3 fc3, .int .u8 e3, .string vk3, .bool hk3] 34)).heap.size (w1.alloc (.cells #[.string key3, .int .u8 ek1, .string nm1, .int .u8 k3, .int .i64 n3, .string s3, .slice la3 ll3 lc3, .slice fa3 fl3 fc3, .int .u8 e3, .string vk3, .bool hk3] 34)) W → Below w.heap.size w W ∧ W.cell? ⟨w.heap.size, 0, none⟩ = some (.string key1) ∧ W.cell? ⟨w.heap.size, 1, none⟩ = some (.int .u8 ek1) ∧ W.cell? ⟨w.heap.size, 2, none⟩ = some (.string nm1) ∧ W.cell? ⟨w.heap.size, 3, none⟩ = some (.int .u8 k1) ∧ W.cell? ⟨w.heap.size, 4, none⟩ = some (.int .i64 n1) ∧ W.cell? ⟨w.heap.size, 5, none⟩ = some (.string s1) ∧ W.cell? ⟨w.heap.size, 6, none⟩ = some (.slice la1 ll1 lc1) ∧ W.cell? ⟨w.heap.size, 7, none⟩ = some (.slice fa1 fl1 fc1) ∧ W.cell? ⟨w.heap.size, 8, none⟩ = some (.int .u8 e1) ∧ W.cell? ⟨w.heap.size, 9, none⟩ = some (.string vk1) ∧ W.cell? ⟨w.heap.size, 10, none⟩ = some (.bool hk1) ∧ W.cell? ⟨w.heap.size + 1, 0, none⟩ = some (.string key2) ∧ W.cell? ⟨w.heap.size + 1, 1, none⟩ = some (.int .u8 ek2) ∧ W.cell? ⟨w.heap.size + 1, 2, none⟩ = some (.string nm2) ∧ W.cell? ⟨w.heap.size + 1, 3, none⟩ = some (.int .u8 k2) ∧ W.cell? ⟨w.heap.size + 1, 4, none⟩ = some (.int .i64 n2) ∧ W.cell? ⟨w.heap.size + 1, 5, none⟩ = some (.string s2) ∧ W.cell? ⟨w.heap.size + 1, 6, none⟩ = some (.slice la2 ll2 lc2) ∧ W.cell? ⟨w.heap.size + 1, 7, none⟩ = some (.slice fa2 fl2 fc2) ∧ W.cell? ⟨w.heap.size + 1, 8, none⟩ = some (.int .u8 e2) ∧ W.cell? ⟨w.heap.size + 1, 9, none⟩ = some (.string vk2) ∧ W.cell? ⟨w.heap.size + 1, 10, none⟩ = some (.bool hk2) ∧ W.cell? ⟨w1.heap.size, 0, none⟩ = some (.string key3) ∧ W.cell? ⟨w1.heap.size, 1, none⟩ = some (.int .u8 ek1) ∧ W.cell? ⟨w1.heap.size, 2, none⟩ = some (.string nm1) ∧ W.cell? ⟨w1.heap.size, 3, none⟩ = some (.int .u8 k3) ∧ W.cell? ⟨w1.heap.size, 4, none⟩ = some (.int .i64 n3) ∧ W.cell? ⟨w1.heap.size, 5, none⟩ = some (.string s3) ∧ W.cell? ⟨w1.heap.size, 6, none⟩ = some (.slice la3 ll3 lc3) ∧ W.cell? ⟨w1.heap.size, 7, none⟩ = some (.slice fa3 fl3 fc3) ∧ W.cell? ⟨w1.heap.size, 8, none⟩ = some (.int .u8 e3) ∧ W.cell? ⟨w1.heap.size, 9, none⟩ = some (.string vk3) ∧ W.cell? ⟨w1.heap.size, 10, none⟩ = some (.bool hk3)) := fun W hb => by
    have hT := HT3.out.below ((below_alloc w1 _).trans (hb.mono (by simp)))
    exact ⟨HB4.out.trans (hb.mono HB4.out.size), by rw [hT.cells.1]; rfl, by rw [hT.cells.1]; rfl, by rw [hT.cells.1]; rfl, by rw [hT.cells.1]; rfl, by rw [hT.cells.1]; rfl, by rw [hT.cells.1]; rfl, by rw [hT.cells.1]; rfl, by rw [hT.cells.1]; rfl, by rw [hT.cells.1]; rfl, by rw [hT.cells.1]; rfl, by rw [hT.cells.1]; rfl, by rw [hT.cells.2.1]; rfl, by rw [hT.cells.2.1]; rfl, by rw [hT.cells.2.1]; rfl, by rw [hT.cells.2.1]; rfl, by rw [hT.cells.2.1]; rfl, by rw [hT.cells.2.1]; rfl, by rw [hT.cells.2.1]; rfl, by rw [hT.cells.2.1]; rfl, by rw [hT.cells.2.1]; rfl, by rw [hT.cells.2.1]; rfl, by rw [hT.cells.2.1]; rfl, laid_cell hb 0, laid_cell hb 1, laid_cell hb 2, laid_cell hb 3, laid_cell hb 4, laid_cell hb 5, laid_cell hb 6, laid_cell hb 7, laid_cell hb 8, laid_cell hb 9, laid_cell hb 10⟩
  cases x <;> cases y <;> cases z
  all_goals first
    | exact Bool.noConfusion (htr.out rfl rfl : false = true)
    | skip
  all_goals
    go_wp2_with (first
      | (go_at_call 7; (with_reducible refine (HAL.out _ HB4.out).mono ?_); rintro x1 w5 ⟨rfl, hb5⟩; (have HB5 := Lib.hid hb5); clear hb5 a0 a1 a2 a3 a4 a5 a6 a7 a8 a9 a10 b0 b1 b2 b3 b4 b5 b6 b7 b8 b9 b10 c0 c1 c2 c3 c4 c5 c6 c7 c8 c9 c10; obtain ⟨hlo5, a0, a1, a2, a3, a4, a5, a6, a7, a8, a9, a10, b0, b1, b2, b3, b4, b5, b6, b7, b8, b9, b10, d0, d1, d2, d3, d4, d5, d6, d7, d8, d9, d10⟩ := K2.out _ HB5.out)
      | (go_at_call 13; (with_reducible refine (HAA.out _ hlo5).mono ?_); rintro x1 w6 ⟨rfl, hb6⟩; (have HB6 := Lib.hid (HB5.out.trans (hb6.mono HB5.out.size))); clear hb6 a0 a1 a2 a3 a4 a5 a6 a7 a8 a9 a10 b0 b1 b2 b3 b4 b5 b6 b7 b8 b9 b10 d0 d1 d2 d3 d4 d5 d6 d7 d8 d9 d10; obtain ⟨hlo6, a0, a1, a2, a3, a4, a5, a6, a7, a8, a9, a10, b0, b1, b2, b3, b4, b5, b6, b7, b8, b9, b10, d0, d1, d2, d3, d4, d5, d6, d7, d8, d9, d10⟩ := K2.out _ HB6.out)
      | (go_at_call 13; (with_reducible refine (HBA.out _ hlo6).mono ?_); rintro x1 w7 ⟨rfl, hb7⟩; (have HB7 := Lib.hid (HB6.out.trans (hb7.mono HB6.out.size))); clear hb7 a0 a1 a2 a3 a4 a5 a6 a7 a8 a9 a10 b0 b1 b2 b3 b4 b5 b6 b7 b8 b9 b10 d0 d1 d2 d3 d4 d5 d6 d7 d8 d9 d10; obtain ⟨hlo7, a0, a1, a2, a3, a4, a5, a6, a7, a8, a9, a10, b0, b1, b2, b3, b4, b5, b6, b7, b8, b9, b10, d0, d1, d2, d3, d4, d5, d6, d7, d8, d9, d10⟩ := K2.out _ HB7.out)
      | (go_at_call 13; (with_reducible refine (HAD.out _ hlo7).mono ?_); rintro x1 w8 ⟨rfl, hb8⟩; (have HB8 := Lib.hid (HB7.out.trans (hb8.mono HB7.out.size))); clear hb8))
    go_ret
    exact ⟨rfl, HB4.out.trans (HB8.out.mono HB4.out.size)⟩
end Go.Proofs.YtecmghfofcofpaaDoor
