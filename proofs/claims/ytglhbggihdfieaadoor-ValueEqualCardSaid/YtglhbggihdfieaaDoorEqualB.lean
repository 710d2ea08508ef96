/-
  Walks: ValueEqual returns true; old memory is as it was.
  Conditions: the values lie in memory; each list of the first takes no more than the reach; the three tables hold what the program's text lays in them.
-/
import Derived.Test.YtglhbggihdfieaaDoorEqualP
import Derived.Test.YtglhbggihdfieaaDoorTwinW
import Derived.Test.YtglhbggihdfieaaDoorBox
namespace Go.Proofs.YtglhbggihdfieaaDoor
open Go.RowKit Go.Deep Go.WideShapes

/-- Three values, each in a box, the first three blocks behind 'w'. -/
structure Box3 (w : World) (a b c : V) (W : World) : Prop where
  low : Below w.heap.size w W
  tabs : Tabs W
  ain : a.In W
  bin : b.In W
  cin : c.In W
  ca : At W w.heap.size 0 a.cells
  cb : At W (w.heap.size + 1) 0 b.cells
  cc : At W (w.heap.size + 1 + 1) 0 c.cells

theorem Box3.below {w : World} {a b c : V} {W W' : World} (h : Box3 w a b c W) (hb : Below W.heap.size W W') : Box3 w a b c W' :=
  ⟨h.low.trans (hb.mono h.low.size), h.tabs.below hb, h.ain.below hb, h.bin.below hb, h.cin.below hb, h.ca.below hb, h.cb.below hb, h.cc.below hb⟩

theorem box3 {w : World} {a b c : V} (ht : Tabs w) (ha : a.In w) (hb : b.In w) (hc : c.In w) (T : TypeId) : Box3 w a b c (((w.alloc (.cells a.cells.toArray T)).alloc (.cells b.cells.toArray T)).alloc (.cells c.cells.toArray T)) := by
  have h2 : Below (w.alloc (.cells a.cells.toArray T)).heap.size (w.alloc (.cells a.cells.toArray T)) (((w.alloc (.cells a.cells.toArray T)).alloc (.cells b.cells.toArray T)).alloc (.cells c.cells.toArray T)) := (below_alloc _ _).alloc (below_alloc _ _).size _
  have h1 : Below w.heap.size w (((w.alloc (.cells a.cells.toArray T)).alloc (.cells b.cells.toArray T)).alloc (.cells c.cells.toArray T)) := (below_alloc _ _).trans (h2.mono (below_alloc w _).size)
  refine ⟨h1, ht.below h1, ha.below h1, hb.below h1, hc.below h1, At.below h2 (at_new rfl (Below.refl _ _)), ?_, ?_⟩
  · exact At.below (below_alloc _ _) (at_new (size_alloc' _ _).symm (Below.refl _ _))
  · exact at_new (by rw [size_alloc', size_alloc']) (Below.refl _ _)

def three (x y z : Int) : Nat → Int := fun i => if i = 0 then x else if i = 1 then y else z
theorem ints3_is (W : World) (x y z : Int) (T : TypeId) : IntsIs (W.alloc (.cells #[.int .i64 x, .int .i64 y, .int .i64 z] T)) W.heap.size 0 3 (three x y z) := by
  intro j hj
  match j, hj with
  | 0, _ => simp [three]
  | 1, _ => simp [three]
  | 2, _ => simp [three]
theorem beyond3 (W : World) (x y z : Int) (hx : -9223372036854775808 ≤ x ∧ x ≤ 9223372036854775807) (hy : -9223372036854775808 ≤ y ∧ y ≤ 9223372036854775807) (hz : -9223372036854775808 ≤ z ∧ z ≤ 9223372036854775807) (T : TypeId) :
    Calls Tryd.prog 8 #[.slice (some ⟨W.heap.size, 0, none⟩) 3 3] (W.alloc (.cells #[.int .i64 x, .int .i64 y, .int .i64 z] T)) fun e w' => e = .returned (.bool (beyB 3 (three x y z))) ∧ W.alloc (.cells #[.int .i64 x, .int .i64 y, .int .i64 z] T) = w' := by
  refine beyond_is _ _ _ _ _ _ (by decide) (ints3_is _ _ _ _ _) (fun i => ?_)
  unfold three
  split
  · exact hx
  · split
    · exact hy
    · exact hz

set_option maxRecDepth 100000 in
set_option maxHeartbeats 8000000 in
theorem equal_beyond (a b c : V) (w : World) (ha : a.In w) (hb : b.In w) (hc : c.In w) (ht : Tabs w) (hbz : beyB 3 (three a.vsz b.vsz c.vsz) = true) :
    Calls Tryd.prog 5 #[a.agg, b.agg, c.agg] w fun x w' => x = .returned (.bool true) ∧ Below w.heap.size w w' := by
  have OK0 := box3 ht ha hb hc 27
  have C0 := Lib.hid (fun W (h : Box3 w a b c W) => alive_any W h.tabs)
  have Z1 := Lib.hid (fun W (h : Box3 w a b c W) => valueSize_is a W h.ain)
  have Z2 := Lib.hid (fun W (h : Box3 w a b c W) => valueSize_is b W h.bin)
  have Z3 := Lib.hid (fun W (h : Box3 w a b c W) => valueSize_is c W h.cin)
  have CB := Lib.hid (fun W T => beyond3 W a.vsz b.vsz c.vsz (vsz_range a) (vsz_range b) (vsz_range c) T)
  rw [hbz] at CB
  clear hbz
  cases a with
  | leaf => exact ha.elim
  | mk k1 n1 s1 la1 ll1 lc1 L1 fa1 fl1 fc1 fn1 F1 e1 key1 hk1 =>
  cases b with
  | leaf => exact hb.elim
  | mk k2 n2 s2 la2 ll2 lc2 L2 fa2 fl2 fc2 fn2 F2 e2 key2 hk2 =>
  cases c with
  | leaf => exact hc.elim
  | mk k3 n3 s3 la3 ll3 lc3 L3 fa3 fl3 fc3 fn3 F3 e3 key3 hk3 =>
  generalize (V.mk k1 n1 s1 la1 ll1 lc1 L1 fa1 fl1 fc1 fn1 F1 e1 key1 hk1).vsz = z1 at Z1 CB
  generalize (V.mk k2 n2 s2 la2 ll2 lc2 L2 fa2 fl2 fc2 fn2 F2 e2 key2 hk2).vsz = z2 at Z2 CB
  generalize (V.mk k3 n3 s3 la3 ll3 lc3 L3 fa3 fl3 fc3 fn3 F3 e3 key3 hk3).vsz = z3 at Z3 CB
  have KS := Lib.hid (fun W (h : Box3 w (.mk k1 n1 s1 la1 ll1 lc1 L1 fa1 fl1 fc1 fn1 F1 e1 key1 hk1) (.mk k2 n2 s2 la2 ll2 lc2 L2 fa2 fl2 fc2 fn2 F2 e2 key2 hk2) (.mk k3 n3 s3 la3 ll3 lc3 L3 fa3 fl3 fc3 fn3 F3 e3 key3 hk3) W) => And.intro h (And.intro (at80 h.ca) (And.intro (at80 h.cb) (at80 h.cc))))
  clear ha hb hc ht
  simp only [V.agg, V.cells] at Z1 Z2 Z3 OK0 ⊢
  have OKH := Lib.hid OK0
  clear OK0
  go_enter Tryd.func5, Tryd.ntmps5
  go_wp2_with fail
  have OKu := OKH.out
  generalize ((w.alloc (.cells #[.int .u8 k1, .int .i64 n1, .string s1, .slice la1 ll1 lc1, .slice fa1 fl1 fc1, .int .u8 e1, .string key1, .bool hk1] 27)).alloc (.cells #[.int .u8 k2, .int .i64 n2, .string s2, .slice la2 ll2 lc2, .slice fa2 fl2 fc2, .int .u8 e2, .string key2, .bool hk2] 27)).alloc (.cells #[.int .u8 k3, .int .i64 n3, .string s3, .slice la3 ll3 lc3, .slice fa3 fl3 fc3, .int .u8 e3, .string key3, .bool hk3] 27) = W0 at OKu ⊢
  have OK : Box3 w (.mk k1 n1 s1 la1 ll1 lc1 L1 fa1 fl1 fc1 fn1 F1 e1 key1 hk1) (.mk k2 n2 s2 la2 ll2 lc2 L2 fa2 fl2 fc2 fn2 F2 e2 key2 hk2) (.mk k3 n3 s3 la3 ll3 lc3 L3 fa3 fl3 fc3 fn3 F3 e3 key3 hk3) W0 := OKu
  clear OKu
  go_region_held3 (fun W => Box3 w (.mk k1 n1 s1 la1 ll1 lc1 L1 fa1 fl1 fc1 fn1 F1 e1 key1 hk1) (.mk k2 n2 s2 la2 ll2 lc2 L2 fa2 fl2 fc2 fn2 F2 e2 key2 hk2) (.mk k3 n3 s3 la3 ll3 lc3 L3 fa3 fl3 fc3 fn3 F3 e3 key3 hk3) W ∧
      (W.cell? ⟨w.heap.size, 0, none⟩ = some (.int .u8 k1) ∧ W.cell? ⟨w.heap.size, 1, none⟩ = some (.int .i64 n1) ∧ W.cell? ⟨w.heap.size, 2, none⟩ = some (.string s1) ∧ W.cell? ⟨w.heap.size, 3, none⟩ = some (.slice la1 ll1 lc1) ∧ W.cell? ⟨w.heap.size, 4, none⟩ = some (.slice fa1 fl1 fc1) ∧ W.cell? ⟨w.heap.size, 5, none⟩ = some (.int .u8 e1) ∧ W.cell? ⟨w.heap.size, 6, none⟩ = some (.string key1) ∧ W.cell? ⟨w.heap.size, 7, none⟩ = some (.bool hk1)) ∧
      (W.cell? ⟨w.heap.size + 1, 0, none⟩ = some (.int .u8 k2) ∧ W.cell? ⟨w.heap.size + 1, 1, none⟩ = some (.int .i64 n2) ∧ W.cell? ⟨w.heap.size + 1, 2, none⟩ = some (.string s2) ∧ W.cell? ⟨w.heap.size + 1, 3, none⟩ = some (.slice la2 ll2 lc2) ∧ W.cell? ⟨w.heap.size + 1, 4, none⟩ = some (.slice fa2 fl2 fc2) ∧ W.cell? ⟨w.heap.size + 1, 5, none⟩ = some (.int .u8 e2) ∧ W.cell? ⟨w.heap.size + 1, 6, none⟩ = some (.string key2) ∧ W.cell? ⟨w.heap.size + 1, 7, none⟩ = some (.bool hk2)) ∧
      (W.cell? ⟨w.heap.size + 1 + 1, 0, none⟩ = some (.int .u8 k3) ∧ W.cell? ⟨w.heap.size + 1 + 1, 1, none⟩ = some (.int .i64 n3) ∧ W.cell? ⟨w.heap.size + 1 + 1, 2, none⟩ = some (.string s3) ∧ W.cell? ⟨w.heap.size + 1 + 1, 3, none⟩ = some (.slice la3 ll3 lc3) ∧ W.cell? ⟨w.heap.size + 1 + 1, 4, none⟩ = some (.slice fa3 fl3 fc3) ∧ W.cell? ⟨w.heap.size + 1 + 1, 5, none⟩ = some (.int .u8 e3) ∧ W.cell? ⟨w.heap.size + 1 + 1, 6, none⟩ = some (.string key3) ∧ W.cell? ⟨w.heap.size + 1 + 1, 7, none⟩ = some (.bool hk3)))
    (first | (refine KS.out _ (Box3.below (W := W0) OK ?_); with_reducible exact (Below.refl _ _).drew) | (refine KS.out _ (Box3.below ?_ (by with_reducible assumption)); go_split_ands; with_reducible assumption) | (refine KS.out _ (Box3.below ?_ (below_alloc _ _)); go_split_ands; with_reducible assumption) | with_reducible assumption)
    (first
      | (go_at_call 20; refine (C0.out _ ?_).mono ?_; (go_split_ands; assumption); rintro x w1 ⟨rfl, hb1⟩)
      | (go_at_call_of 9 s1; refine (Z1.out _ ?_).mono ?_; (go_split_ands; assumption); rintro x w1 ⟨rfl, hb1⟩)
      | (go_at_call_of 9 s2; refine (Z2.out _ ?_).mono ?_; (go_split_ands; assumption); rintro x w1 ⟨rfl, hb1⟩)
      | (go_at_call_of 9 s3; refine (Z3.out _ ?_).mono ?_; (go_split_ands; assumption); rintro x w1 ⟨rfl, hb1⟩)
      | (go_at_call 8; refine (CB.out _ _).mono ?_; rintro x w1 ⟨rfl, rfl⟩))
  rename_i hS1
  have HS1 := Lib.hid hS1.1
  clear hS1 OK
  go_wp2_with fail
  refine (C0.out _ HS1.out).mono ?_
  rintro x w9 ⟨rfl, hb9⟩
  have HZ := Lib.hid (HS1.out.below hb9).low
  clear hb9
  go_wp2_with fail
  go_ret
  exact ⟨rfl, HZ.out⟩
end Go.Proofs.YtglhbggihdfieaaDoor
