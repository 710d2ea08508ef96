/-
  Walks: ValueEqual returns true where the values are not beyond what is counted; old memory is as it was.
  Conditions: the values lie in memory; each list of the first takes no more than the reach; the three tables hold what the program's text lays in them.
-/
import Derived.Test.YtglhbggihdfieaaDoorEqualB
namespace Go.Proofs.YtglhbggihdfieaaDoor
open Go.RowKit Go.Deep Go.WideShapes

set_option maxRecDepth 100000 in
set_option maxHeartbeats 8000000 in
theorem equal_rest (a b c : V) (w : World) (ha : a.In w) (hb : b.In w) (hc : c.In w) (hfit : a.Fits) (ht : Tabs w) (hbz : beyB 3 (three a.vsz b.vsz c.vsz) = false) :
    Calls Tryd.prog 5 #[a.agg, b.agg, c.agg] w fun x w' => x = .returned (.bool true) ∧ Below w.heap.size w w' := by
  have OK0 := box3 ht ha hb hc 27
  have C0 := Lib.hid (fun W (h : Box3 w a b c W) => alive_any W h.tabs)
  have Z1 := Lib.hid (fun W (h : Box3 w a b c W) => valueSize_is a W h.ain)
  have Z2 := Lib.hid (fun W (h : Box3 w a b c W) => valueSize_is b W h.bin)
  have Z3 := Lib.hid (fun W (h : Box3 w a b c W) => valueSize_is c W h.cin)
  have CB := Lib.hid (fun W T => beyond3 W a.vsz b.vsz c.vsz (vsz_range a) (vsz_range b) (vsz_range c) T)
  have S12 := Lib.hid (fun W (h : Box3 w a b c W) => same_any a b W h.ain h.bin)
  have S23 := Lib.hid (fun W (h : Box3 w a b c W) => same_any b c W h.bin h.cin)
  have S13 := Lib.hid (fun W (h : Box3 w a b c W) => same_any a c W h.ain h.cin)
  have S21 := Lib.hid (fun W (h : Box3 w a b c W) => same_any b a W h.bin h.ain)
  have TW := Lib.hid (fun W (h : Box3 w a b c W) => twinValue_any a W h.ain hfit)
  have SAT := Lib.hid (fun (W1 W : World) (t : V) (base : Nat) (htk : TOk base W1 a t) (hb : Below W1.heap.size W1 W) (h : Box3 w a b c W) => (same_any a t W h.ain (htk.inn.below hb)).mono (R' := fun x w' => x = .returned (.bool true) ∧ Below W.heap.size W w') (fun x w' ⟨h1, h2⟩ => ⟨by rw [h1, twin_same a t htk.tw], h2⟩))
  have H12 := Lib.hid (fun W (h : Box3 w a b c W) => shallow_any a b W h.ain h.bin)
  have H21 := Lib.hid (fun W (h : Box3 w a b c W) => shallow_any b a W h.bin h.ain)
  have CA := Lib.hid (fun W (h : Box3 w a b c W) => check_any a W h.ain h.tabs.1)
  have CBB := Lib.hid (fun W (h : Box3 w a b c W) => check_any b W h.bin h.tabs.1)
  rw [hbz] at CB
  rw [same_symm a b] at S21
  rw [shallow_symm a b] at H21
  have X1 := Lib.hid (same_trans a b c)
  have X2 := Lib.hid (shallow_no (v := a) (u := b))
  have X3 := Lib.hid (shallow_same (v := a) (u := b))
  clear hbz
  cases a with
  | leaf => exact ha.elim
  | mk k1 n1 s1 la1 ll1 lc1 L1 fa1 fl1 fc1 fn1 F1 e1 key1 hk1 =>
  cases b with
  | leaf => exact hb.elim
  | mk k2 n2 s2 la2 ll2 lc2 L2 fa2 fl2 fc2 fn2 F2 e2 key2 hk2 =>
  cases c with
  | leaf => exact hc.elim
  | mk k3 n3 s3 la3 ll3 lc3 L3 fa3 fl3 fc3 fn3 F3 e3 key3 hk3 =>
  have KR := Lib.hid (And.intro ha.1 hb.1)
  generalize (V.mk k1 n1 s1 la1 ll1 lc1 L1 fa1 fl1 fc1 fn1 F1 e1 key1 hk1).vsz = z1 at Z1 CB
  generalize (V.mk k2 n2 s2 la2 ll2 lc2 L2 fa2 fl2 fc2 fn2 F2 e2 key2 hk2).vsz = z2 at Z2 CB
  generalize (V.mk k3 n3 s3 la3 ll3 lc3 L3 fa3 fl3 fc3 fn3 F3 e3 key3 hk3).vsz = z3 at Z3 CB
  generalize (V.mk k1 n1 s1 la1 ll1 lc1 L1 fa1 fl1 fc1 fn1 F1 e1 key1 hk1).same (V.mk k2 n2 s2 la2 ll2 lc2 L2 fa2 fl2 fc2 fn2 F2 e2 key2 hk2) = x at S12 S21 X1 X3
  generalize (V.mk k2 n2 s2 la2 ll2 lc2 L2 fa2 fl2 fc2 fn2 F2 e2 key2 hk2).same (V.mk k3 n3 s3 la3 ll3 lc3 L3 fa3 fl3 fc3 fn3 F3 e3 key3 hk3) = y at S23 X1
  generalize (V.mk k1 n1 s1 la1 ll1 lc1 L1 fa1 fl1 fc1 fn1 F1 e1 key1 hk1).same (V.mk k3 n3 s3 la3 ll3 lc3 L3 fa3 fl3 fc3 fn3 F3 e3 key3 hk3) = z at S13 X1
  generalize (V.mk k1 n1 s1 la1 ll1 lc1 L1 fa1 fl1 fc1 fn1 F1 e1 key1 hk1).shallow (V.mk k2 n2 s2 la2 ll2 lc2 L2 fa2 fl2 fc2 fn2 F2 e2 key2 hk2) = sh at H12 H21 X2 X3
  generalize (V.mk k1 n1 s1 la1 ll1 lc1 L1 fa1 fl1 fc1 fn1 F1 e1 key1 hk1).check = va at CA X3
  generalize (V.mk k2 n2 s2 la2 ll2 lc2 L2 fa2 fl2 fc2 fn2 F2 e2 key2 hk2).check = vb at CBB X3
  simp only [V.kind] at X2 X3
  have KS := Lib.hid (fun W (h : Box3 w (.mk k1 n1 s1 la1 ll1 lc1 L1 fa1 fl1 fc1 fn1 F1 e1 key1 hk1) (.mk k2 n2 s2 la2 ll2 lc2 L2 fa2 fl2 fc2 fn2 F2 e2 key2 hk2) (.mk k3 n3 s3 la3 ll3 lc3 L3 fa3 fl3 fc3 fn3 F3 e3 key3 hk3) W) => And.intro h (And.intro (at80 h.ca) (And.intro (at80 h.cb) (at80 h.cc))))
  clear ha hb hc ht hfit
  simp only [V.agg, V.cells] at Z1 Z2 Z3 S12 S23 S13 S21 H12 H21 CA CBB OK0 ⊢
  have TW2 : Hid (∀ W, Box3 w (.mk k1 n1 s1 la1 ll1 lc1 L1 fa1 fl1 fc1 fn1 F1 e1 key1 hk1) (.mk k2 n2 s2 la2 ll2 lc2 L2 fa2 fl2 fc2 fn2 F2 e2 key2 hk2) (.mk k3 n3 s3 la3 ll3 lc3 L3 fa3 fl3 fc3 fn3 F3 e3 key3 hk3) W → Calls Tryd.prog 10 #[.agg #[.int .u8 k1, .int .i64 n1, .string s1, .slice la1 ll1 lc1, .slice fa1 fl1 fc1, .int .u8 e1, .string key1, .bool hk1]] W _) := TW.out
  clear TW
  have OKH := Lib.hid OK0
  clear OK0
  go_enter Tryd.func5, Tryd.ntmps5
  go_wp2_with fail
  have OKu := OKH.out
  generalize ((w.alloc (.cells #[.int .u8 k1, .int .i64 n1, .string s1, .slice la1 ll1 lc1, .slice fa1 fl1 fc1, .int .u8 e1, .string key1, .bool hk1] 27)).alloc (.cells #[.int .u8 k2, .int .i64 n2, .string s2, .slice la2 ll2 lc2, .slice fa2 fl2 fc2, .int .u8 e2, .string key2, .bool hk2] 27)).alloc (.cells #[.int .u8 k3, .int .i64 n3, .string s3, .slice la3 ll3 lc3, .slice fa3 fl3 fc3, .int .u8 e3, .string key3, .bool hk3] 27) = W0 at OKu ⊢
  have OK : Box3 w (.mk k1 n1 s1 la1 ll1 lc1 L1 fa1 fl1 fc1 fn1 F1 e1 key1 hk1) (.mk k2 n2 s2 la2 ll2 lc2 L2 fa2 fl2 fc2 fn2 F2 e2 key2 hk2) (.mk k3 n3 s3 la3 ll3 lc3 L3 fa3 fl3 fc3 fn3 F3 e3 key3 hk3) W0 := OKu
  clear OKu
  go_region_held3 (fun W => Box3 w (.mk k1 n1 s1 la1 ll1 lc1 L1 fa1 fl1 fc1 fn1 F1 e1 key1 hk1) (.mk k2 n2 s2 la2 ll2 lc2 L2 fa2 fl2 fc2 fn2 F2 e2 key2 hk2) (.mk k3 n3 s3 la3 ll3 lc3 L3 fa3 fl3 fc3 fn3 F3 e3 key3 hk3) W ∧
      (W.cell? ⟨w.heap.size, 0, none⟩ = some (.int .u8 k1) ∧ W.cell? ⟨w.heap.size, 1, none⟩ = some (.int .i64 n1) ∧ W.cell? ⟨w.heap.size, 2, none⟩ = some (.string s1) ∧ W.cell? ⟨w.heap.size, 3, none⟩ = some (.slice la1 ll1 lc1) ∧ W.cell? ⟨w.heap.size, 4, none⟩ = some (.slice fa1 fl1 fc1) ∧ W.cell? ⟨w.heap.size, 5, none⟩ = some (.int .u8 e1) ∧ W.cell? ⟨w.heap.size, 6, none⟩ = some (.string key1) ∧ W.cell? ⟨w.heap.size, 7, none⟩ = some (.bool hk1)) ∧
      (W.cell? ⟨w.heap.size + 1, 0, none⟩ = some (.int .u8 k2) ∧ W.cell? ⟨w.heap.size + 1, 1, none⟩ = some (.int .i64 n2) ∧ W.cell? ⟨w.heap.size + 1, 2, none⟩ = some (.string s2) ∧ W.cell? ⟨w.heap.size + 1, 3, none⟩ = some (.slice la2 ll2 lc2) ∧ W.cell? ⟨w.heap.size + 1, 4, none⟩ = some (.slice fa2 fl2 fc2) ∧ W.cell? ⟨w.heap.size + 1, 5, none⟩ = some (.int .u8 e2) ∧ W.cell? ⟨w.heap.size + 1, 6, none⟩ = some (.string key2) ∧ W.cell? ⟨w.heap.size + 1, 7, none⟩ = some (.bool hk2)) ∧
      (W.cell? ⟨w.heap.size + 1 + 1, 0, none⟩ = some (.int .u8 k3) ∧ W.cell? ⟨w.heap.size + 1 + 1, 1, none⟩ = some (.int .i64 n3) ∧ W.cell? ⟨w.heap.size + 1 + 1, 2, none⟩ = some (.string s3) ∧ W.cell? ⟨w.heap.size + 1 + 1, 3, none⟩ = some (.slice la3 ll3 lc3) ∧ W.cell? ⟨w.heap.size + 1 + 1, 4, none⟩ = some (.slice fa3 fl3 fc3) ∧ W.cell? ⟨w.heap.size + 1 + 1, 5, none⟩ = some (.int .u8 e3) ∧ W.cell? ⟨w.heap.size + 1 + 1, 6, none⟩ = some (.string key3) ∧ W.cell? ⟨w.heap.size + 1 + 1, 7, none⟩ = some (.bool hk3)))
    (first | (refine KS.out _ (Box3.below (W := W0) OK ?_); with_reducible exact (Below.refl _ _).drew) | (refine KS.out _ (Box3.below ?_ (by with_reducible assumption)); go_split_ands; with_reducible assumption) | (refine KS.out _ (Box3.below ?_ (below_alloc _ _)); go_split_ands; with_reducible assumption) | with_reducible assumption)
    (first
      | (go_at_call 20; refine (C0.out _ ?_).mono ?_; (go_split_ands; assumption); rintro x w1 ⟨rfl, hb1⟩)
      | (go_at_call_of 9 s1; refine (Z1.out _ ?_).mono ?_; (go_split_ands; assumption); rintro x w1 ⟨rfl, hb1⟩)
      | (go_at_call_of 9 s2; refine (Z2.out _ ?_).mono ?_; (go_split_ands; assumption); rintro x w1 ⟨rfl, hb1⟩)
      | (go_at_call_of 9 s3; refine (Z3.out _ ?_).mono ?_; (go_split_ands; assumption); rintro x w1 ⟨rfl, hb1⟩)
      | (go_at_call 8; refine (CB.out _ _).mono ?_; rintro x w1 ⟨rfl, rfl⟩))
  rename_i hS1
  have HS1 := Lib.hid hS1.1
  clear hS1 OK
  go_wp2_with fail
  have OKb := HS1.out
  go_region_held3 (fun W => Box3 w (.mk k1 n1 s1 la1 ll1 lc1 L1 fa1 fl1 fc1 fn1 F1 e1 key1 hk1) (.mk k2 n2 s2 la2 ll2 lc2 L2 fa2 fl2 fc2 fn2 F2 e2 key2 hk2) (.mk k3 n3 s3 la3 ll3 lc3 L3 fa3 fl3 fc3 fn3 F3 e3 key3 hk3) W ∧
      (W.cell? ⟨w.heap.size, 0, none⟩ = some (.int .u8 k1) ∧ W.cell? ⟨w.heap.size, 1, none⟩ = some (.int .i64 n1) ∧ W.cell? ⟨w.heap.size, 2, none⟩ = some (.string s1) ∧ W.cell? ⟨w.heap.size, 3, none⟩ = some (.slice la1 ll1 lc1) ∧ W.cell? ⟨w.heap.size, 4, none⟩ = some (.slice fa1 fl1 fc1) ∧ W.cell? ⟨w.heap.size, 5, none⟩ = some (.int .u8 e1) ∧ W.cell? ⟨w.heap.size, 6, none⟩ = some (.string key1) ∧ W.cell? ⟨w.heap.size, 7, none⟩ = some (.bool hk1)) ∧
      (W.cell? ⟨w.heap.size + 1, 0, none⟩ = some (.int .u8 k2) ∧ W.cell? ⟨w.heap.size + 1, 1, none⟩ = some (.int .i64 n2) ∧ W.cell? ⟨w.heap.size + 1, 2, none⟩ = some (.string s2) ∧ W.cell? ⟨w.heap.size + 1, 3, none⟩ = some (.slice la2 ll2 lc2) ∧ W.cell? ⟨w.heap.size + 1, 4, none⟩ = some (.slice fa2 fl2 fc2) ∧ W.cell? ⟨w.heap.size + 1, 5, none⟩ = some (.int .u8 e2) ∧ W.cell? ⟨w.heap.size + 1, 6, none⟩ = some (.string key2) ∧ W.cell? ⟨w.heap.size + 1, 7, none⟩ = some (.bool hk2)) ∧
      (W.cell? ⟨w.heap.size + 1 + 1, 0, none⟩ = some (.int .u8 k3) ∧ W.cell? ⟨w.heap.size + 1 + 1, 1, none⟩ = some (.int .i64 n3) ∧ W.cell? ⟨w.heap.size + 1 + 1, 2, none⟩ = some (.string s3) ∧ W.cell? ⟨w.heap.size + 1 + 1, 3, none⟩ = some (.slice la3 ll3 lc3) ∧ W.cell? ⟨w.heap.size + 1 + 1, 4, none⟩ = some (.slice fa3 fl3 fc3) ∧ W.cell? ⟨w.heap.size + 1 + 1, 5, none⟩ = some (.int .u8 e3) ∧ W.cell? ⟨w.heap.size + 1 + 1, 6, none⟩ = some (.string key3) ∧ W.cell? ⟨w.heap.size + 1 + 1, 7, none⟩ = some (.bool hk3)))
    (first | (refine KS.out _ (Box3.below OKb ?_); with_reducible exact (Below.refl _ _).drew) | (refine KS.out _ (Box3.below ?_ (by with_reducible assumption)); go_split_ands; with_reducible assumption) | (refine KS.out _ (Box3.below ?_ (below_alloc _ _)); go_split_ands; with_reducible assumption) | with_reducible assumption)
    (first
      | ((go_at_call 21; (with_reducible refine (S12.out _ ?_).mono ?_); (go_split_ands; assumption); rintro x w1 ⟨rfl, hb1⟩))
      | ((go_at_call 21; (with_reducible refine (S23.out _ ?_).mono ?_); (go_split_ands; assumption); rintro x w1 ⟨rfl, hb1⟩))
      | ((go_at_call 21; (with_reducible refine (S13.out _ ?_).mono ?_); (go_split_ands; assumption); rintro x w1 ⟨rfl, hb1⟩)))
  rename_i hS2
  have HS2 := Lib.hid hS2.1
  clear hS2 OKb
  go_wp2_with fail
  have OKc := HS2.out
  have hc3 : (x = true ∧ y = true ∧ z = true) ∨ (x = true ∧ y = false) ∨ x = false := by
    have := X1.out
    cases x <;> cases y <;> cases z <;> simp at this ⊢
  rcases hc3 with ⟨rfl, rfl, rfl⟩ | ⟨rfl, rfl⟩ | rfl
  all_goals
    first
    | (refine wp_region_noPanic ?_; go_region_held (fun W => Box3 w (.mk k1 n1 s1 la1 ll1 lc1 L1 fa1 fl1 fc1 fn1 F1 e1 key1 hk1) (.mk k2 n2 s2 la2 ll2 lc2 L2 fa2 fl2 fc2 fn2 F2 e2 key2 hk2) (.mk k3 n3 s3 la3 ll3 lc3 L3 fa3 fl3 fc3 fn3 F3 e3 key3 hk3) W ∧
    (W.cell? ⟨w.heap.size, 0, none⟩ = some (.int .u8 k1) ∧ W.cell? ⟨w.heap.size, 1, none⟩ = some (.int .i64 n1) ∧ W.cell? ⟨w.heap.size, 2, none⟩ = some (.string s1) ∧ W.cell? ⟨w.heap.size, 3, none⟩ = some (.slice la1 ll1 lc1) ∧ W.cell? ⟨w.heap.size, 4, none⟩ = some (.slice fa1 fl1 fc1) ∧ W.cell? ⟨w.heap.size, 5, none⟩ = some (.int .u8 e1) ∧ W.cell? ⟨w.heap.size, 6, none⟩ = some (.string key1) ∧ W.cell? ⟨w.heap.size, 7, none⟩ = some (.bool hk1)) ∧
    (W.cell? ⟨w.heap.size + 1, 0, none⟩ = some (.int .u8 k2) ∧ W.cell? ⟨w.heap.size + 1, 1, none⟩ = some (.int .i64 n2) ∧ W.cell? ⟨w.heap.size + 1, 2, none⟩ = some (.string s2) ∧ W.cell? ⟨w.heap.size + 1, 3, none⟩ = some (.slice la2 ll2 lc2) ∧ W.cell? ⟨w.heap.size + 1, 4, none⟩ = some (.slice fa2 fl2 fc2) ∧ W.cell? ⟨w.heap.size + 1, 5, none⟩ = some (.int .u8 e2) ∧ W.cell? ⟨w.heap.size + 1, 6, none⟩ = some (.string key2) ∧ W.cell? ⟨w.heap.size + 1, 7, none⟩ = some (.bool hk2)) ∧
    (W.cell? ⟨w.heap.size + 1 + 1, 0, none⟩ = some (.int .u8 k3) ∧ W.cell? ⟨w.heap.size + 1 + 1, 1, none⟩ = some (.int .i64 n3) ∧ W.cell? ⟨w.heap.size + 1 + 1, 2, none⟩ = some (.string s3) ∧ W.cell? ⟨w.heap.size + 1 + 1, 3, none⟩ = some (.slice la3 ll3 lc3) ∧ W.cell? ⟨w.heap.size + 1 + 1, 4, none⟩ = some (.slice fa3 fl3 fc3) ∧ W.cell? ⟨w.heap.size + 1 + 1, 5, none⟩ = some (.int .u8 e3) ∧ W.cell? ⟨w.heap.size + 1 + 1, 6, none⟩ = some (.string key3) ∧ W.cell? ⟨w.heap.size + 1 + 1, 7, none⟩ = some (.bool hk3)))
      (first | (refine KS.out _ (Box3.below OKc ?_); with_reducible exact (Below.refl _ _).drew) | (refine KS.out _ (Box3.below ?_ (by with_reducible assumption)); go_split_ands; with_reducible assumption) | (refine KS.out _ (Box3.below ?_ (below_alloc _ _)); go_split_ands; with_reducible assumption) | with_reducible assumption)
      (first
    | ((go_at_call 10; refine (TW2.out _ ?_).mono ?_; (go_split_ands; assumption); rintro x w1 ⟨t, rfl, htk, hb1⟩; have ht8 := htk.inn; rcases t with _ | ⟨k4, n4, s4, la4, ll4, lc4, L4, fa4, fl4, fc4, fn4, F4, e4, key4, hk4⟩; (exact ht8.elim); simp only [V.agg, V.cells]; have HTK := Lib.hid htk; clear htk ht8))
    | ((go_at_call 21; (with_reducible refine (S21.out _ ?_).mono ?_); (go_split_ands; assumption); rintro x w1 ⟨rfl, hb1⟩))
    | ((go_at_call 21; (refine (SAT.out _ _ _ _ HTK.out (Below.refl _ _) ?_).mono ?_); (go_split_ands; assumption); rintro x w1 ⟨rfl, hb1⟩))
    | ((go_at_call 22; (with_reducible refine (H12.out _ ?_).mono ?_); (go_split_ands; assumption); rintro x w1 ⟨rfl, hb1⟩))
    | ((go_at_call 22; (with_reducible refine (H21.out _ ?_).mono ?_); (go_split_ands; assumption); rintro x w1 ⟨rfl, hb1⟩))); (refine NoPanic.normal ?_))
    | fail
  all_goals
    rename_i hS4
    have HS4 := Lib.hid hS4.1
    clear hS4 OKc
    obtain ⟨-, ⟨c0, c1, c2, c3, c4, c5, c6, c7⟩, ⟨d0, d1, d2, d3, d4, d5, d6, d7⟩, f0, f1, f2, f3, f4, f5, f6, f7⟩ := KS.out _ HS4.out
  all_goals
    by_cases g1 : k1 = 5
    · subst g1
      by_cases g2 : k2 = 5
      · subst g2
        go_wp2_with fail
        refine (CA.out _ HS4.out).mono ?_
        rintro x w1 ⟨rfl, hb1⟩
        have HS5 := Lib.hid (HS4.out.below hb1)
        clear hb1
        clear c0 c1 c2 c3 c4 c5 c6 c7 d0 d1 d2 d3 d4 d5 d6 d7 f0 f1 f2 f3 f4 f5 f6 f7
        obtain ⟨-, ⟨c0, c1, c2, c3, c4, c5, c6, c7⟩, ⟨d0, d1, d2, d3, d4, d5, d6, d7⟩, f0, f1, f2, f3, f4, f5, f6, f7⟩ := KS.out _ HS5.out
        have X4 := Lib.hid (X3.out (by simp) (by simp))
        cases va
        · go_wp2_with fail
          go_ret
          exact ⟨rfl, HS5.out.low⟩
        · go_wp2_with fail
          refine (CBB.out _ HS5.out).mono ?_
          rintro x w1 ⟨rfl, hb1⟩
          have HS6 := Lib.hid (HS5.out.below hb1)
          clear hb1
          clear c0 c1 c2 c3 c4 c5 c6 c7 d0 d1 d2 d3 d4 d5 d6 d7 f0 f1 f2 f3 f4 f5 f6 f7
          obtain ⟨-, ⟨c0, c1, c2, c3, c4, c5, c6, c7⟩, ⟨d0, d1, d2, d3, d4, d5, d6, d7⟩, f0, f1, f2, f3, f4, f5, f6, f7⟩ := KS.out _ HS6.out
          cases vb
          · go_wp2_with fail
            go_ret
            exact ⟨rfl, HS6.out.low⟩
          · obtain rfl := X4.out (by simp) (by simp)
            go_wp2_with fail
            refine (H12.out _ HS6.out).mono ?_
            rintro x w1 ⟨rfl, hb1⟩
            have HS7 := Lib.hid (HS6.out.below hb1)
            clear hb1
            clear c0 c1 c2 c3 c4 c5 c6 c7 d0 d1 d2 d3 d4 d5 d6 d7 f0 f1 f2 f3 f4 f5 f6 f7
            go_wp2_with fail
            go_ret
            exact ⟨rfl, HS7.out.low⟩
      · have hsh := X2.out (fun h => g2 h.2)
        subst hsh
        go_wp2_with fail
        refine (H12.out _ HS4.out).mono ?_
        rintro x w1 ⟨rfl, hb1⟩
        have HS5 := Lib.hid (HS4.out.below hb1)
        clear hb1
        clear c0 c1 c2 c3 c4 c5 c6 c7 d0 d1 d2 d3 d4 d5 d6 d7 f0 f1 f2 f3 f4 f5 f6 f7
        go_wp2_with fail
        go_ret
        exact ⟨rfl, HS5.out.low⟩
    · have hsh := X2.out (fun h => g1 h.1)
      subst hsh
      go_wp2_with fail
      refine (H12.out _ HS4.out).mono ?_
      rintro x w1 ⟨rfl, hb1⟩
      have HS5 := Lib.hid (HS4.out.below hb1)
      clear hb1
      clear c0 c1 c2 c3 c4 c5 c6 c7 d0 d1 d2 d3 d4 d5 d6 d7 f0 f1 f2 f3 f4 f5 f6 f7
      go_wp2_with fail
      go_ret
      exact ⟨rfl, HS5.out.low⟩
end Go.Proofs.YtglhbggihdfieaaDoor
