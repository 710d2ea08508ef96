/-
  Walks: anew of package oper: the same value, in memory of its own.
  Conditions: the value lies in memory, and may be.
  Walks: Do of package oper answers 'doB', 'doV', in memory of its own.
  Conditions: the values lie in memory; the three tables hold what the program's text lays in them.
-/
import Derived.Test.YtjbapldlgnlepaaGreatDoorOpOwn
import Derived.Test.YtjbapldlgnlepaaGreatDoorOpPush
import Derived.Deep.RegionWith
import Derived.Test.YtjbapldlgnlepaaGreatDoorOpFind
namespace Go.Proofs.YtjbapldlgnlepaaGreatDoor
open Go.RowKit Go.Deep Go.WideShapes

/-- What anew's contract says of one value. -/
def AnewIs (v : V) : Prop := ∀ w : World, v.In w → v.check = true → Calls Tryz.prog 76 #[v.agg] w fun e w' => ∃ t : V, e = .returned t.agg ∧ NewOf w v t w'

theorem info_fld' : (Tryz.prog.info? 82).map (fun i => (i.zero, i.size, i.bytes)) = some (some (.agg (.string ⟨#[]⟩ :: nv.cells).toArray), 9, 128) := by kernel_rfl
theorem f_one' (nm : ByteArray) (v : V) : ∀ u ∈ Value.string nm :: v.cells, u.oneCell' = true := by
  intro u hu
  rcases List.mem_cons.1 hu with rfl | hu
  · rfl
  · exact v_one v u hu

/-- The parameter's box and the result's variable, the first two blocks behind 'w'. -/
structure AB (w : World) (cs : List Value) (W : World) : Prop where
  low : Below w.heap.size w W
  box : At W w.heap.size 0 cs
  bfz : ∀ i, W.frozen? ⟨w.heap.size, i, none⟩ = false
  res : ∀ i, i < 8 → (∃ v, W.cell? ⟨w.heap.size + 1, i, none⟩ = some v) ∧ W.frozen? ⟨w.heap.size + 1, i, none⟩ = false
  big : w.heap.size + 2 ≤ W.heap.size

theorem atZ {w : World} {b : Nat} {k n : Int} {s : ByteArray} {la : Option Addr} {ll lc : Nat} {L : Nat → V} {fa : Option Addr} {fl fc : Nat} {fn : Nat → ByteArray} {F : Nat → V} {e : Int} {key : ByteArray} {hk : Bool}
    (h : At w b 0 (V.mk k n s la ll lc L fa fl fc fn F e key hk).cells) :
    w.cell? ⟨b, 0, none⟩ = some (.int .u8 k) ∧ w.cell? ⟨b, 1, none⟩ = some (.int .i64 n) ∧ w.cell? ⟨b, 2, none⟩ = some (.string s) ∧ w.cell? ⟨b, 3, none⟩ = some (.slice la ll lc) ∧ w.cell? ⟨b, 4, none⟩ = some (.slice fa fl fc) ∧
      w.cell? ⟨b, 5, none⟩ = some (.int .u8 e) ∧ w.cell? ⟨b, 6, none⟩ = some (.string key) ∧ w.cell? ⟨b, 7, none⟩ = some (.bool hk) := by
  simpa using at8 h

theorem AB.keep {w W W' : World} {cs : List Value} (h : AB w cs W) (hs : W.heap.size ≤ W'.heap.size) (hl : Below w.heap.size W W') (h0 : W'.heap[w.heap.size]? = W.heap[w.heap.size]?) (h1 : W'.heap[w.heap.size + 1]? = W.heap[w.heap.size + 1]?) : AB w cs W' := by
  refine ⟨h.low.trans hl, fun i hi => ?_, fun i => ?_, fun i hi => ?_, Nat.le_trans h.big hs⟩
  · rw [World.cell?_of_block h0]; exact h.box i hi
  · rw [World.frozen?_of_block h0]; exact h.bfz i
  · obtain ⟨⟨v, q1⟩, q2⟩ := h.res i hi
    exact ⟨⟨v, by rw [World.cell?_of_block h1]; exact q1⟩, by rw [World.frozen?_of_block h1]; exact q2⟩
theorem AB.below {w W W' : World} {cs : List Value} (h : AB w cs W) (hb : Below W.heap.size W W') : AB w cs W' :=
  h.keep hb.size (hb.mono h.low.size) (hb.block _ (by have := h.big; omega)) (hb.block _ (by have := h.big; omega))
theorem AB.put {w W : World} {cs : List Value} (h : AB w cs W) (g o : Nat) (vs : List Value) (hg : w.heap.size + 2 ≤ g) : AB w cs (putL W g o vs) :=
  h.keep (by rw [putL_size]; exact Nat.le_refl _) (putL_low (Below.refl _ _) g o vs (by omega)) (putL_block _ _ _ _ _ (by omega)) (putL_block _ _ _ _ _ (by omega))

theorem AB.start (w : World) (cs : List Value) (T T' : TypeId) : AB w cs ((w.alloc (.cells cs.toArray T)).alloc (.cells nv.cells.toArray T')) := by
  have hs : (w.alloc (.cells cs.toArray T)).heap.size = w.heap.size + 1 := by simp
  refine ⟨(below_alloc _ _).alloc (by rw [hs]; omega) _, At.below (below_alloc _ _) (at_new rfl (Below.refl _ _)), fun i => by simp, fun i hi => ⟨⟨nv.cells[i]'hi, ?_⟩, by simp⟩, by simp⟩
  have := at_new (w := w.alloc (.cells cs.toArray T)) (cs := nv.cells) (T := T') (B := w.heap.size + 1) hs.symm (Below.refl _ _) i hi
  rw [Nat.zero_add] at this
  rw [this]
  exact List.getElem?_eq_getElem hi

theorem AB.box3 {w W : World} {k n : Int} {s : ByteArray} {la : Option Addr} {ll lc : Nat} {L : Nat → V} {fa : Option Addr} {fl fc : Nat} {fn : Nat → ByteArray} {F : Nat → V} {e : Int} {key : ByteArray} {hk : Bool} (h : AB w (V.mk k n s la ll lc L fa fl fc fn F e key hk).cells W) (a : Option Addr) (c : Nat) (P : Nat → V) :
    AB w (V.mk k n s a ll c P fa fl fc fn F e key hk).cells (W.setCell ⟨w.heap.size, 3, none⟩ (.slice a ll c)) := by
  obtain ⟨c0, c1, c2, c3, c4, c5, c6, c7⟩ := atZ h.box
  have ho : ∀ j, j ≠ 3 → (W.setCell ⟨w.heap.size, 3, none⟩ (.slice a ll c)).cell? ⟨w.heap.size, j, none⟩ = W.cell? ⟨w.heap.size, j, none⟩ := fun j hj => World.cell?_setCell_other _ _ _ _ (fun e => hj (congrArg (fun a : Addr => a.off) e).symm)
  have hb1 : (W.setCell ⟨w.heap.size, 3, none⟩ (.slice a ll c)).heap[w.heap.size + 1]? = W.heap[w.heap.size + 1]? := by simp [World.setCell, Array.getElem?_modify]
  refine ⟨h.low.setCell (p := ⟨w.heap.size, 3, none⟩) (Nat.le_refl _) _, fun i hi => ?_, fun i => by rw [World.frozen?_setCell]; exact h.bfz i, fun i hi => ?_, by simpa using h.big⟩
  · rw [Nat.zero_add]
    match i, hi with
    | 0, _ => rw [ho 0 (by decide)]; exact c0
    | 1, _ => rw [ho 1 (by decide)]; exact c1
    | 2, _ => rw [ho 2 (by decide)]; exact c2
    | 3, _ => exact World.cell?_setCell_same _ _ _ c3
    | 4, _ => rw [ho 4 (by decide)]; exact c4
    | 5, _ => rw [ho 5 (by decide)]; exact c5
    | 6, _ => rw [ho 6 (by decide)]; exact c6
    | 7, _ => rw [ho 7 (by decide)]; exact c7
  · obtain ⟨⟨v, q1⟩, q2⟩ := h.res i hi
    exact ⟨⟨v, by rw [World.cell?_of_block hb1]; exact q1⟩, by rw [World.frozen?_of_block hb1]; exact q2⟩

theorem AB.box4 {w W : World} {k n : Int} {s : ByteArray} {la : Option Addr} {ll lc : Nat} {L : Nat → V} {fa : Option Addr} {fl fc : Nat} {fn : Nat → ByteArray} {F : Nat → V} {e : Int} {key : ByteArray} {hk : Bool} (h : AB w (V.mk k n s la ll lc L fa fl fc fn F e key hk).cells W) (a : Option Addr) (c : Nat) (P : Nat → V) :
    AB w (V.mk k n s la ll lc L a fl c fn P e key hk).cells (W.setCell ⟨w.heap.size, 4, none⟩ (.slice a fl c)) := by
  obtain ⟨c0, c1, c2, c3, c4, c5, c6, c7⟩ := atZ h.box
  have ho : ∀ j, j ≠ 4 → (W.setCell ⟨w.heap.size, 4, none⟩ (.slice a fl c)).cell? ⟨w.heap.size, j, none⟩ = W.cell? ⟨w.heap.size, j, none⟩ := fun j hj => World.cell?_setCell_other _ _ _ _ (fun e => hj (congrArg (fun a : Addr => a.off) e).symm)
  have hb1 : (W.setCell ⟨w.heap.size, 4, none⟩ (.slice a fl c)).heap[w.heap.size + 1]? = W.heap[w.heap.size + 1]? := by simp [World.setCell, Array.getElem?_modify]
  refine ⟨h.low.setCell (p := ⟨w.heap.size, 4, none⟩) (Nat.le_refl _) _, fun i hi => ?_, fun i => by rw [World.frozen?_setCell]; exact h.bfz i, fun i hi => ?_, by simpa using h.big⟩
  · rw [Nat.zero_add]
    match i, hi with
    | 0, _ => rw [ho 0 (by decide)]; exact c0
    | 1, _ => rw [ho 1 (by decide)]; exact c1
    | 2, _ => rw [ho 2 (by decide)]; exact c2
    | 3, _ => rw [ho 3 (by decide)]; exact c3
    | 4, _ => exact World.cell?_setCell_same _ _ _ c4
    | 5, _ => rw [ho 5 (by decide)]; exact c5
    | 6, _ => rw [ho 6 (by decide)]; exact c6
    | 7, _ => rw [ho 7 (by decide)]; exact c7
  · obtain ⟨⟨v, q1⟩, q2⟩ := h.res i hi
    exact ⟨⟨v, by rw [World.cell?_of_block hb1]; exact q1⟩, by rw [World.frozen?_of_block hb1]; exact q2⟩

theorem AB.rcells {w W : World} {cs : List Value} (h : AB w cs W) :
    (W.cell? ⟨w.heap.size + 1, 0, none⟩ = some (rs W (w.heap.size + 1) 0) ∧ W.cell? ⟨w.heap.size + 1, 1, none⟩ = some (rs W (w.heap.size + 1) 1) ∧ W.cell? ⟨w.heap.size + 1, 2, none⟩ = some (rs W (w.heap.size + 1) 2) ∧ W.cell? ⟨w.heap.size + 1, 3, none⟩ = some (rs W (w.heap.size + 1) 3) ∧
      W.cell? ⟨w.heap.size + 1, 4, none⟩ = some (rs W (w.heap.size + 1) 4) ∧ W.cell? ⟨w.heap.size + 1, 5, none⟩ = some (rs W (w.heap.size + 1) 5) ∧ W.cell? ⟨w.heap.size + 1, 6, none⟩ = some (rs W (w.heap.size + 1) 6) ∧ W.cell? ⟨w.heap.size + 1, 7, none⟩ = some (rs W (w.heap.size + 1) 7)) ∧
    (W.frozen? ⟨w.heap.size + 1, 0, none⟩ = false ∧ W.frozen? ⟨w.heap.size + 1, 1, none⟩ = false ∧ W.frozen? ⟨w.heap.size + 1, 2, none⟩ = false ∧ W.frozen? ⟨w.heap.size + 1, 3, none⟩ = false ∧ W.frozen? ⟨w.heap.size + 1, 4, none⟩ = false ∧ W.frozen? ⟨w.heap.size + 1, 5, none⟩ = false ∧
      W.frozen? ⟨w.heap.size + 1, 6, none⟩ = false ∧ W.frozen? ⟨w.heap.size + 1, 7, none⟩ = false) :=
  ⟨⟨rs_some (h.res 0 (by decide)).1.choose_spec, rs_some (h.res 1 (by decide)).1.choose_spec, rs_some (h.res 2 (by decide)).1.choose_spec, rs_some (h.res 3 (by decide)).1.choose_spec, rs_some (h.res 4 (by decide)).1.choose_spec, rs_some (h.res 5 (by decide)).1.choose_spec, rs_some (h.res 6 (by decide)).1.choose_spec, rs_some (h.res 7 (by decide)).1.choose_spec⟩,
    (h.res 0 (by decide)).2, (h.res 1 (by decide)).2, (h.res 2 (by decide)).2, (h.res 3 (by decide)).2, (h.res 4 (by decide)).2, (h.res 5 (by decide)).2, (h.res 6 (by decide)).2, (h.res 7 (by decide)).2⟩

theorem check_flen {k n : Int} {s : ByteArray} {la : Option Addr} {ll lc : Nat} {L : Nat → V} {fa : Option Addr} {fl fc : Nat} {fn : Nat → ByteArray} {F : Nat → V} {e : Int} {key : ByteArray} {hk : Bool} (h : (V.mk k n s la ll lc L fa fl fc fn F e key hk).check = true) : fl ≤ 4096 := by
  have h1 := ((check_iff _).1 h).2.1
  have h2 : ∀ m, m ≤ fl → m ≤ sumTo m (fun i => (F i).size) := by
    intro m
    induction m with
    | zero => exact fun _ => Nat.zero_le _
    | succ m ih =>
      intro hm
      have a := ih (by omega)
      have b := V.size_pos (((check_iff _).1 h).1.2.2 m (by omega))
      rw [sumTo]
      omega
  have h3 := h2 fl (Nat.le_refl _)
  simp only [V.size] at h1
  omega
theorem check_el {v : V} (h : v.check = true) : ∀ i, i < v.len → (v.el i).check = true := by
  intro i hi
  cases v with
  | leaf => simp [V.len] at hi
  | mk k n s la ll lc L fa fl fc fn F e key hk =>
  replace hi : i < ll := hi
  rw [check_iff] at h ⊢
  obtain ⟨⟨h1, h2, h3⟩, h4, h5⟩ := h
  simp only [V.size, V.depth] at h4 h5
  have a := le_sumTo (f := fun i => (L i).size) hi
  have b := maxTo_le.1 (Nat.le_refl (maxTo ll (fun i => (L i).depth))) i hi
  exact ⟨h2 i hi, by show (L i).size ≤ 4096; omega, by show (L i).depth ≤ 64; omega⟩

/-- The slots of the element that is stored next: a value's. -/
theorem Kids.slotV {lb : Nat} {pre : Nat → List Value} {n : Nat} {K : Nat → V} {c : Nat} {P : Nat → V} {m g : Nat} {W : World} (h : Kids lb 55 8 0 pre n K (some ⟨g, 0, none⟩) c P m W) (hm : m < n) :
    (W.cell? ⟨g, m * 8, none⟩ = some (rs W g (m * 8)) ∧ W.cell? ⟨g, m * 8 + 1, none⟩ = some (rs W g (m * 8 + 1)) ∧ W.cell? ⟨g, m * 8 + 2, none⟩ = some (rs W g (m * 8 + 2)) ∧ W.cell? ⟨g, m * 8 + 3, none⟩ = some (rs W g (m * 8 + 3)) ∧
      W.cell? ⟨g, m * 8 + 4, none⟩ = some (rs W g (m * 8 + 4)) ∧ W.cell? ⟨g, m * 8 + 5, none⟩ = some (rs W g (m * 8 + 5)) ∧ W.cell? ⟨g, m * 8 + 6, none⟩ = some (rs W g (m * 8 + 6)) ∧ W.cell? ⟨g, m * 8 + 7, none⟩ = some (rs W g (m * 8 + 7))) ∧
    (∀ j, W.frozen? ⟨g, j, none⟩ = false) := by
  obtain ⟨g', e, ha⟩ := h.at' m hm
  cases e
  have hp : pre m = [] := List.length_eq_zero_iff.1 (h.psz.2 m)
  rw [hp, List.nil_append] at ha
  have h8 : (P m).cells.length = 8 := by rw [h.rest m (Nat.le_refl _) hm]; exact h.k8 m hm
  have q : ∀ j, j < 8 → W.cell? ⟨g, m * 8 + j, none⟩ = some (rs W g (m * 8 + j)) := fun j hj => rs_some ((ha j (by rw [h8]; exact hj)).trans (List.getElem?_eq_getElem (by rw [h8]; exact hj)))
  refine ⟨⟨q 0 (by decide), q 1 (by decide), q 2 (by decide), q 3 (by decide), q 4 (by decide), q 5 (by decide), q 6 (by decide), q 7 (by decide)⟩, fun j => ?_⟩
  rcases h.row with ⟨e, -⟩ | ⟨g', cur, e, h2, -⟩
  · cases e
  · cases e
    exact Lib.frozen_of_heap h2 j

/-- The slots of the element that is stored next: a field's. -/
theorem Kids.slotF {lb : Nat} {fn : Nat → ByteArray} {n : Nat} {K : Nat → V} {c : Nat} {P : Nat → V} {m g : Nat} {W : World} (h : Kids lb 82 9 1 (fun i => [.string (fn i)]) n K (some ⟨g, 0, none⟩) c P m W) (hm : m < n) :
    (W.cell? ⟨g, m * 9 + 1, none⟩ = some (rs W g (m * 9 + 1)) ∧ W.cell? ⟨g, m * 9 + 2, none⟩ = some (rs W g (m * 9 + 2)) ∧ W.cell? ⟨g, m * 9 + 3, none⟩ = some (rs W g (m * 9 + 3)) ∧ W.cell? ⟨g, m * 9 + 4, none⟩ = some (rs W g (m * 9 + 4)) ∧
      W.cell? ⟨g, m * 9 + 5, none⟩ = some (rs W g (m * 9 + 5)) ∧ W.cell? ⟨g, m * 9 + 6, none⟩ = some (rs W g (m * 9 + 6)) ∧ W.cell? ⟨g, m * 9 + 7, none⟩ = some (rs W g (m * 9 + 7)) ∧ W.cell? ⟨g, m * 9 + 8, none⟩ = some (rs W g (m * 9 + 8))) ∧
    (∀ j, W.frozen? ⟨g, j, none⟩ = false) := by
  obtain ⟨g', e, ha⟩ := h.at' m hm
  cases e
  have h8 : (P m).cells.length = 8 := by rw [h.rest m (Nat.le_refl _) hm]; exact h.k8 m hm
  have q : ∀ j, j < 8 → W.cell? ⟨g, m * 9 + (j + 1), none⟩ = some (rs W g (m * 9 + (j + 1))) := fun j hj => rs_some ((ha (j + 1) (by rw [List.length_append, h8]; simp only [List.length_singleton]; omega)).trans (List.getElem?_eq_getElem (by rw [List.length_append, h8]; simp only [List.length_singleton]; omega)))
  refine ⟨⟨q 0 (by decide), q 1 (by decide), q 2 (by decide), q 3 (by decide), q 4 (by decide), q 5 (by decide), q 6 (by decide), q 7 (by decide)⟩, fun j => ?_⟩
  rcases h.row with ⟨e, -⟩ | ⟨g', cur, e, h2, -⟩
  · cases e
  · cases e
    exact Lib.frozen_of_heap h2 j

set_option maxRecDepth 100000 in
set_option maxHeartbeats 8000000 in
theorem anew_any : ∀ v : V, AnewIs v := by
  intro v
  induction v with
  | leaf => exact fun w h => h.elim
  | mk k n s la ll lc L fa fl fc fn F e key hk ihL ihF =>
  intro w h hck
  have hll : ll ≤ 4096 := check_len hck h
  have hfl := check_flen hck
  have HCL : Hid (∀ i, i < ll → ∀ W, Below w.heap.size w W → Calls Tryz.prog 76 #[(L i).agg] W fun e w' => ∃ t : V, e = .returned t.agg ∧ NewOf W (L i) t w') :=
    fun i hi W hb => ihL i W ((h.2.2.2.2.2.2.2.1 i hi).2.below hb) (check_el hck i hi)
  have HCF : Hid (∀ i, i < fl → ∀ W, Below w.heap.size w W → Calls Tryz.prog 76 #[(F i).agg] W fun e w' => ∃ t : V, e = .returned t.agg ∧ NewOf W (F i) t w') :=
    fun i hi W hb => ihF i W ((h.2.2.2.2.2.2.2.2 i hi).2.2.below hb) (check_fld hck i hi)
  have HIN := Lib.hid h
  clear ihL ihF h hck
  have OK0 := AB.start w (V.mk k n s la ll lc L fa fl fc fn F e key hk).cells 55 55
  simp only [V.agg, nv, vz, V.cells] at OK0 ⊢
  have OKH := Lib.hid OK0
  clear OK0
  go_enter Tryz.func76, Tryz.ntmps76
  go_upto_region 1 with fail
  have OKu := OKH.out
  generalize (w.alloc (.cells #[.int .u8 k, .int .i64 n, .string s, .slice la ll lc, .slice fa fl fc, .int .u8 e, .string key, .bool hk] 55)).alloc (.cells #[.int .u8 0, .int .i64 0, .string ⟨#[]⟩, .slice none 0 0, .slice none 0 0, .int .u8 0, .string ⟨#[]⟩, .bool false] 55) = W0 at OKu ⊢
  have OK : AB w (V.mk k n s la ll lc L fa fl fc fn F e key hk).cells W0 := OKu
  clear OKu OKH
  obtain ⟨c0, c1, c2, c3, c4, c5, c6, c7⟩ := atZ OK.box
  have z3 := OK.bfz 3
  have HAB := Lib.hid OK
  have HBIG := Lib.hid OK.big
  have HAT : Hid (∀ i, i < ll → ∃ b o', la = some ⟨b, o', none⟩ ∧ At W0 b (o' + i * 8) (L i).cells) := fun i hi => let ⟨b, o, q1, q2⟩ := (HIN.out.2.2.2.2.2.2.2.1 i hi).1; ⟨b, o, q1, q2.below OK.low⟩
  have H8 : Hid (∀ i, i < ll → (L i).cells.length = 8) := fun i hi => in_cells (HIN.out.2.2.2.2.2.2.2.1 i hi).2
  clear OK
  go_wp2_with (at_builtin; refine append_new rfl _ _ 48 55 rfl rfl la ll lc rfl (vz 0 0 ⟨#[]⟩).agg 8 112 Tryz.underlying48 info_val rfl (by decide) (by omega) (by omega) (fun i => (L i).cells) H8.out (fun i => v_one (L i)) HAT.out ?_)
  intro a1 cp1 W1 hN1
  have HN1 := Lib.hid hN1
  have HAB1 := Lib.hid (HAB.out.below hN1.low)
  clear hN1 HAB HAT c0 c1 c2 c3 c4 c5 c6 c7 z3
  obtain ⟨c0, c1, c2, c3, c4, c5, c6, c7⟩ := atZ HAB1.out.box
  have z3 := HAB1.out.bfz 3
  have HAB2 := Lib.hid (HAB1.out.box3 a1 cp1 L)
  have HK0 : Hid (Kids (w.heap.size + 2) 55 8 0 (fun _ => []) ll L a1 cp1 L 0 (W1.setCell ⟨w.heap.size, 3, none⟩ (.slice a1 ll cp1))) := by
    have h1 : NewRow W0 W1 55 8 ll (fun i => [] ++ (L i).cells) a1 cp1 := HN1.out
    refine Kids.from (W := W1) (fun g hg _ => by simp [World.setCell, Array.getElem?_modify]; intro e; omega) (h1.kids (pre := fun _ => []) ?_ ⟨rfl, fun _ => rfl⟩ H8.out)
    exact HBIG.out
  have hcap1 := HN1.out.cap
  unfold maxLen at hcap1
  go_wp2_with fail
  revert HAB2 HK0
  generalize W1.setCell ⟨w.heap.size, 3, none⟩ (.slice a1 ll cp1) = W2
  intro HAB2 HK0
  clear c0 c1 c2 c3 c4 c5 c6 c7 z3 HAB1 HN1
  have hll' : (ll : Int) ≤ 4096 := by omega
  go_loopw [12] (fun i W => ∃ (m : Nat) (P : Nat → V), i = .int .i64 m ∧ m ≤ ll ∧ AB w (V.mk k n s a1 ll cp1 L fa fl fc fn F e key hk).cells W ∧ Kids (w.heap.size + 2) 55 8 0 (fun _ => []) ll L a1 cp1 P m W) (fun i _ => ll - (intOf i).toNat)
  case atStart => exact ⟨0, L, rfl, Nat.zero_le _, HAB2.out, HK0.out⟩
  case round =>
    obtain ⟨m, P, rfl, hm, hab, hkids⟩ := hrel
    have HAB := Lib.hid hab
    have HKI := Lib.hid hkids
    clear hab hkids HAB2 HK0
    obtain ⟨c0, c1, c2, c3, c4, c5, c6, c7⟩ := atZ HAB.out.box
    by_cases hlt : m < ll
    · have hlt' : (m : Int) < (ll : Int) := by omega
      have hm0 : (0 : Int) ≤ (m : Int) := by omega
      obtain ⟨g, rfl, hat⟩ := HKI.out.at' m hlt
      rw [HKI.out.rest m (Nat.le_refl _) hlt, List.nil_append] at hat
      have HCM := Lib.hid (HCL.out m hlt)
      have hin : (L m).In w := (HIN.out.2.2.2.2.2.2.2.1 m hlt).2
      have HINM := Lib.hid hin
      clear hin
      have hx8 := H8.out m hlt
      obtain ⟨x, hx⟩ : ∃ x, L m = x := ⟨_, rfl⟩
      rw [hx] at hat HCM HINM hx8
      have HXX := Lib.hid hx
      clear hx
      cases x with
      | leaf => exact HINM.out.elim
      | mk k3 n3 s3 la3 ll3 lc3 L3 fa3 fl3 fc3 fn3 F3 e3 key3 hk3 =>
      clear hx8
      obtain ⟨g0, g1, g2, g3, g4, g5, g6, g7⟩ := at8 hat
      clear hat
      simp only [V.agg, V.cells] at HCM
      go_wp2_with fail
      have HD := Lib.hid (And.intro (HAB.out.below (Below.refl _ _).drew) (HKI.out.below (Below.refl _ _).drew))
      go_region_with ((go_at_call 76; (with_reducible refine (HCM.out _ HD.out.1.low).mono ?_); rintro x w3 ⟨t, rfl, hnew⟩; (have HN3 := Lib.hid hnew); (have HB3 := Lib.hid (HD.out.1.below hnew.low)); (have hsl := ((HD.out.2).below hnew.low).slotV hlt); clear hnew c0 c1 c2 c3 c4 c5 c6 c7 g0 g1 g2 g3 g4 g5 g6 g7; obtain ⟨c0, c1, c2, c3, c4, c5, c6, c7⟩ := atZ HB3.out.box; obtain ⟨⟨g0, g1, g2, g3, g4, g5, g6, g7⟩, hfz⟩ := hsl; (have ht8 := HN3.out.inn); rcases t with _ | ⟨k4, n4, s4, la4, ll4, lc4, L4, fa4, fl4, fc4, fn4, F4, e4, key4, hk4⟩; (exact ht8.elim); clear ht8))
      all_goals
        have hst := HD.out.2.step hlt (by rw [HXX.out]; exact HINM.out.below HD.out.1.low) (by rw [HXX.out]; exact HN3.out)
        have HST := Lib.hid hst
        have hpu := HB3.out.put g (m * 8 + 0) (V.mk k4 n4 s4 la4 ll4 lc4 L4 fa4 fl4 fc4 fn4 F4 e4 key4 hk4).cells (HKI.out.frm _ rfl)
        have HPU := Lib.hid hpu
        clear hst hpu
        go_wp2_with fail
        go_roundw
        case rel => exact ⟨m + 1, _, by go_num, by omega, HPU.out, HST.out⟩
        case measure => simp [intOf]; omega
    · obtain rfl : ll = m := by omega
      obtain ⟨WR, rfl⟩ : ∃ WR, WR = wr := ⟨_, rfl⟩
      clear HCL hlt
      have z4 := HAB.out.bfz 4
      have HAT : Hid (∀ i, i < fl → ∃ b o', fa = some ⟨b, o', none⟩ ∧ At WR b (o' + i * 9) (.string (fn i) :: (F i).cells)) := fun i hi => let ⟨b, o, q1, q2⟩ := (HIN.out.2.2.2.2.2.2.2.2 i hi).1; ⟨b, o, q1, q2.below HAB.out.low⟩
      have H9 : Hid (∀ i, i < fl → (F i).cells.length = 8) := fun i hi => in_cells (HIN.out.2.2.2.2.2.2.2.2 i hi).2.2
      have H9' : Hid (∀ i, i < fl → (Value.string (fn i) :: (F i).cells).length = 9) := fun i hi => by rw [List.length_cons, H9.out i hi]
      go_wp2_with (at_builtin; refine append_new rfl _ _ 52 82 rfl rfl fa fl fc rfl (.agg (.string ⟨#[]⟩ :: nv.cells).toArray) 9 128 Tryz.underlying52 info_fld' rfl (by decide) (by omega) (by omega) (fun i => .string (fn i) :: (F i).cells) H9'.out (fun i => f_one' (fn i) (F i)) HAT.out ?_)
      intro a2 cp2 W3 hN2
      have HN2 := Lib.hid hN2
      have HAB3 := Lib.hid (HAB.out.below hN2.low)
      clear hN2 HAT c0 c1 c2 c3 c4 c5 c6 c7 z4
      obtain ⟨c0, c1, c2, c3, c4, c5, c6, c7⟩ := atZ HAB3.out.box
      have z4 := HAB3.out.bfz 4
      have HAB4 := Lib.hid (HAB3.out.box4 a2 cp2 F)
      have HBG := Lib.hid HAB.out.big
      have HK1 : Hid (Kids WR.heap.size 82 9 1 (fun i => [.string (fn i)]) fl F a2 cp2 F 0 (W3.setCell ⟨w.heap.size, 4, none⟩ (.slice a2 fl cp2))) := by
        have h1 : NewRow WR W3 82 9 fl (fun i => [.string (fn i)] ++ (F i).cells) a2 cp2 := HN2.out
        have hbg := HBG.out
        refine Kids.from (W := W3) (fun g hg _ => by simp [World.setCell, Array.getElem?_modify]; intro e; omega) (h1.kids (pre := fun i => [.string (fn i)]) (Nat.le_refl _) ⟨rfl, fun _ => rfl⟩ H9.out)
      have HMID : Hid (∀ g, w.heap.size + 2 ≤ g → g < WR.heap.size → (W3.setCell ⟨w.heap.size, 4, none⟩ (.slice a2 fl cp2)).heap[g]? = WR.heap[g]?) := fun g hg hlt => by
        rw [← HN2.out.low.block g hlt]
        simp [World.setCell, Array.getElem?_modify]; intro e; omega
      have hcap2 := HN2.out.cap
      unfold maxLen at hcap2
      go_wp2_with fail
      revert HAB4 HK1 HMID
      generalize W3.setCell ⟨w.heap.size, 4, none⟩ (.slice a2 fl cp2) = W4
      intro HAB4 HK1 HMID
      clear c0 c1 c2 c3 c4 c5 c6 c7 z4 HAB3 HN2 HAB
      have hfl' : (fl : Int) ≤ 4096 := by omega
      go_loopw [33] (fun i W => ∃ (m : Nat) (P : Nat → V), i = .int .i64 m ∧ m ≤ fl ∧ AB w (V.mk k n s a1 ll cp1 L a2 fl cp2 fn F e key hk).cells W ∧ Kids WR.heap.size 82 9 1 (fun i => [.string (fn i)]) fl F a2 cp2 P m W ∧ (∀ g, w.heap.size + 2 ≤ g → g < WR.heap.size → W.heap[g]? = WR.heap[g]?)) (fun i _ => fl - (intOf i).toNat)
      case atStart => exact ⟨0, F, rfl, Nat.zero_le _, HAB4.out, HK1.out, HMID.out⟩
      case round =>
        obtain ⟨m, P2, rfl, hm, hab, hkids, hmid⟩ := hrel
        have HAB := Lib.hid hab
        have HK2 := Lib.hid hkids
        have HMI := Lib.hid hmid
        clear hab hkids hmid HAB4 HK1 HMID
        obtain ⟨c0, c1, c2, c3, c4, c5, c6, c7⟩ := atZ HAB.out.box
        by_cases hlt : m < fl
        · have hlt' : (m : Int) < (fl : Int) := by omega
          have hm0 : (0 : Int) ≤ (m : Int) := by omega
          obtain ⟨g, rfl, hat⟩ := HK2.out.at' m hlt
          rw [HK2.out.rest m (Nat.le_refl _) hlt] at hat
          have HCM := Lib.hid (HCF.out m hlt)
          have hin : (F m).In w := (HIN.out.2.2.2.2.2.2.2.2 m hlt).2.2
          have HINM := Lib.hid hin
          clear hin
          obtain ⟨x, hx⟩ : ∃ x, F m = x := ⟨_, rfl⟩
          obtain ⟨nm, hnm⟩ : ∃ nm, fn m = nm := ⟨_, rfl⟩
          rw [hx, hnm] at hat
          rw [hx] at HCM HINM
          have HXX := Lib.hid hx
          clear hx hnm
          cases x with
          | leaf => exact HINM.out.elim
          | mk k3 n3 s3 la3 ll3 lc3 L3 fa3 fl3 fc3 fn3 F3 e3 key3 hk3 =>
          obtain ⟨g0, g1, g2, g3, g4, g5, g6, g7, g8⟩ := at9 hat
          clear hat
          simp only [V.agg, V.cells] at HCM
          go_wp2_with fail
          have HD := Lib.hid (And.intro (HAB.out.below (Below.refl _ _).drew) (HK2.out.below (Below.refl _ _).drew))
          go_region_with ((go_at_call 76; (with_reducible refine (HCM.out _ HD.out.1.low).mono ?_); rintro x w3 ⟨t, rfl, hnew⟩; (have HN3 := Lib.hid hnew); (have HB3 := Lib.hid (HD.out.1.below hnew.low)); (have hsl := ((HD.out.2).below hnew.low).slotF hlt); clear hnew c0 c1 c2 c3 c4 c5 c6 c7 g0 g1 g2 g3 g4 g5 g6 g7 g8; obtain ⟨c0, c1, c2, c3, c4, c5, c6, c7⟩ := atZ HB3.out.box; obtain ⟨⟨g1, g2, g3, g4, g5, g6, g7, g8⟩, hfz⟩ := hsl; (have ht8 := HN3.out.inn); rcases t with _ | ⟨k4, n4, s4, la4, ll4, lc4, L4, fa4, fl4, fc4, fn4, F4, e4, key4, hk4⟩; (exact ht8.elim); clear ht8))
          all_goals
            have hst := HD.out.2.step hlt (by rw [HXX.out]; exact HINM.out.below HD.out.1.low) (by rw [HXX.out]; exact HN3.out)
            have HST := Lib.hid hst
            have hgf : WR.heap.size ≤ g := HK2.out.frm _ rfl
            have hgl : g < wr.drew.heap.size := by
              rcases HD.out.2.row with ⟨e, -⟩ | ⟨g', cur, e, h2, -⟩
              · cases e
              · cases e; exact (Array.getElem?_eq_some_iff.1 h2).1
            have hpu := HB3.out.put g (m * 9 + 1) (V.mk k4 n4 s4 la4 ll4 lc4 L4 fa4 fl4 fc4 fn4 F4 e4 key4 hk4).cells (Nat.le_trans HBG.out hgf)
            have HPU := Lib.hid hpu
            have hmi : ∀ q, w.heap.size + 2 ≤ q → q < WR.heap.size → (putL w3 g (m * 9 + 1) (V.mk k4 n4 s4 la4 ll4 lc4 L4 fa4 fl4 fc4 fn4 F4 e4 key4 hk4).cells).heap[q]? = WR.heap[q]? := fun q hq hql => by
              rw [putL_block _ _ _ _ _ (by omega), HN3.out.low.block q (by omega)]
              exact HMI.out q hq hql
            have HMJ := Lib.hid hmi
            clear hst hpu hmi hgf hgl
            go_wp2_with fail
            go_roundw
            case rel => exact ⟨m + 1, _, by go_num, by omega, HPU.out, HST.out, HMJ.out⟩
            case measure => simp [intOf]; omega
        · obtain rfl : fl = m := by omega
          obtain ⟨⟨d0, d1, d2, d3, d4, d5, d6, d7⟩, z0, z1, z2, z3, z4, z5, z6, z7⟩ := HAB.out.rcells
          have hnew : NewOf w _ _ (putL wr (w.heap.size + 1) 0 (V.mk k n s a1 ll cp1 P a2 fl cp2 fn P2 e key hk).cells) := new_mk rfl rfl HIN.out (putL_low HAB.out.low _ _ _ (by omega)) HKI.out HBG.out
            (fun q hq hql => by rw [putL_block _ _ _ _ _ (by omega)]; exact HMI.out q hq hql)
            (HK2.out.from (fun q hq _ => putL_block _ _ _ _ _ (by have := HBG.out; omega)))
          have HNEW := Lib.hid hnew
          clear hnew
          go_wp2_with fail
          refine bodyPost_ret (v := .agg #[.int .u8 k, .int .i64 n, .string s, .slice a1 ll cp1, .slice a2 fl cp2, .int .u8 e, .string key, .bool hk]) (by simp [results, Tryz.results76, go_sem, d0, d1, d2, d3, d4, d5, d6, d7]) rfl ⟨V.mk k n s a1 ll cp1 P a2 fl cp2 fn P2 e key hk, rfl, HNEW.out⟩
end Go.Proofs.YtjbapldlgnlepaaGreatDoor
namespace Go.Proofs.YtjbapldlgnlepaaGreatDoor
open Go.RowKit Go.Deep Go.WideShapes

/-- What Do leaves: an answer in memory of its own. -/
structure DoneV (w : World) (ok : Bool) (v u : V) (w' : World) : Prop where
  inn : u.In w'
  low : Below w.heap.size w w'
  yes : ok = true → v.same u = true
  no : ok = false → u = nv
  frm : u.From w.heap.size
  own : u.Own w'
  nod : u.blocks.Nodup
def DoPost (ok : Bool) (v : V) (w : World) (e : Ending) (w' : World) : Prop := ∃ u : V, e = .returned (.tuple #[u.agg, .bool ok]) ∧ DoneV w ok v u w'

theorem OW.below' {w W W' : World} {la : Option Addr} {ll lc : Nat} {L : Nat → V} (h : OW w la ll lc L W) (hb : Below W.heap.size W W') : OW w la ll lc L W' := h.below hb
theorem nv_from (B : Nat) : nv.From B := ⟨(fun _ h => by cases h), (fun _ h => by cases h), fun _ hi => absurd hi (Nat.not_lt_zero _), fun _ hi => absurd hi (Nat.not_lt_zero _)⟩
theorem nv_own (W : World) : nv.Own W := ⟨.inl ⟨rfl, rfl, rfl⟩, .inl ⟨rfl, rfl, rfl⟩, fun _ hi => absurd hi (Nat.not_lt_zero _), fun _ hi => absurd hi (Nat.not_lt_zero _)⟩

theorem done_no {w w' : World} {ok : Bool} {v : V} {e : Ending} (hok : ok = false) (he : e = .returned (.tuple #[nv.agg, .bool false])) (hl : Below w.heap.size w w') : DoPost ok v w e w' := by
  subst hok
  exact ⟨nv, he, nv_in _, hl, (fun h => by cases h), fun _ => rfl, nv_from _, nv_own _, List.nodup_nil⟩

/-- The answer, ahead of its being stored. -/
structure TS (w : World) (t : V) (W : World) : Prop where
  inn : t.In W
  frm : t.From (w.heap.size + 1)
  own : t.Own W
  low : Below w.heap.size w W
theorem TS.set {w : World} {t : V} {W : World} (h : TS w t W) (i : Nat) (u : Value) : TS w t (W.setCell ⟨w.heap.size, i, none⟩ u) := by
  have hh : ∀ g, w.heap.size + 1 ≤ g → g < W.heap.size → (W.setCell ⟨w.heap.size, i, none⟩ u).heap[g]? = W.heap[g]? := fun g hg _ => by simp [World.setCell, Array.getElem?_modify]; intro e; omega
  exact ⟨V.In.from (fun a h1 h2 => World.cell?_of_block (hh _ h1 h2)) h.frm h.inn, h.frm, V.Own.from hh h.frm h.own, low_set h.low i u⟩

/-- The row in its box. -/
def RBox (b : Nat) (nm : ByteArray) (x y : Int) (f : FuncId) (W : World) : Prop := At W b 0 (rowCells nm x y f)
theorem RBox.below {b : Nat} {nm : ByteArray} {x y : Int} {f : FuncId} {W W' : World} (h : RBox b nm x y f W) (hb : Below W.heap.size W W') : RBox b nm x y f W' := At.below hb h

theorem vals_one {W : World} {b : Nat} {u : V} (ha : At W b 0 u.cells) (hu : u.In W) : Vals W (some ⟨b, 0, none⟩) 1 1 (v1 u) :=
  ⟨⟨Nat.le_refl _, by decide⟩, fun i hi => by
    obtain rfl : i = 0 := by omega
    exact ⟨⟨b, 0, rfl, ha⟩, hu⟩⟩

/-- What has been found out so far. -/
theorem doB_none {name : ByteArray} {n : Nat} {L : Nat → V} (h : opAt name = none) : doB name n L = false := by rw [doB, h]
theorem doB_some {name : ByteArray} {n k : Nat} {L : Nat → V} (h : opAt name = some k) : doB name n L = (takesB (opLeast k) (opMost k) n && (allB n (fun i => (L i).check) && (opOk k n L && (opV k n L).check))) := by rw [doB, h]
theorem doV_some {name : ByteArray} {n k : Nat} {L : Nat → V} (h : opAt name = some k) : doV name n L = opV k n L := by rw [doV, h]

set_option maxRecDepth 100000 in
set_option maxHeartbeats 4000000 in
theorem do_none (name : ByteArray) (la : Option Addr) (ll lc : Nat) (L : Nat → V) (w : World) (h : Vals w la ll lc L) (hn : opAt name = none) :
    Calls Tryz.prog 15 #[.string name, .slice la ll lc] w (DoPost (doB name ll L) (doV name ll L) w) := by
  have OK0 := OW.start h 55
  have hlc := h.hlc
  unfold maxLen at hlc
  have HP : Hid (∀ e w', e = .returned (.tuple #[nv.agg, .bool false]) → Below w.heap.size w w' → DoPost (doB name ll L) (doV name ll L) w e w') := fun e w' he hl => done_no (doB_none hn) he hl
  have HF : Hid (∀ W, OW w la ll lc L W → Calls Tryz.prog 18 #[.string name] W fun e w' => e = .returned (.tuple #[.agg #[.string ⟨#[]⟩, .int .i64 0, .int .i64 0, .nilFunc], .bool false]) ∧ OW w la ll lc L w') := fun W hW => (find_any name W).mono fun e w' ⟨h1, h2⟩ => by
    unfold Found at h1
    rw [hn] at h1
    exact ⟨h1, hW.below h2⟩
  have KS := Lib.hid (fun W (h : OW w la ll lc L W) => And.intro h h.rcells)
  clear hn h
  simp only [nv, vz, V.cells] at OK0
  have OKH := Lib.hid OK0
  clear OK0
  go_enter Tryz.func15, Tryz.ntmps15
  go_upto_region 1 with fail
  have OKu := OKH.out
  generalize w.alloc (.cells #[.int .u8 0, .int .i64 0, .string ⟨#[]⟩, .slice none 0 0, .slice none 0 0, .int .u8 0, .string ⟨#[]⟩, .bool false] 55) = W0 at OKu ⊢
  have OK : OW w la ll lc L W0 := OKu
  clear OKu OKH
  go_upto_region 2 with (go_at_call 18; (with_reducible refine (HF.out _ OK).mono ?_); rintro x w1 ⟨rfl, hw1⟩; have HW1 := Lib.hid hw1)
  have HOW := Lib.hid (HW1.out.alloc (.cells #[.string ⟨#[]⟩, .int .i64 0, .int .i64 0, .nilFunc] 63))
  clear OK hw1 HW1
  revert HOW
  generalize w1.alloc (.cells #[.string ⟨#[]⟩, .int .i64 0, .int .i64 0, .nilFunc] 63) = W1
  intro HOW
  obtain ⟨-, ⟨d0, d1, d2, d3, d4, d5, d6, d7⟩, z0, z1, z2, z3, z4, z5, z6, z7⟩ := KS.out _ HOW.out
  go_wp2_with fail
  refine bodyPost_ret (v := .tuple #[(nv).agg, .bool false]) (by simp [results, Tryz.results15, go_sem, d0, d1, d2, d3, d4, d5, d6, d7, nv, vz, V.agg, V.cells]) rfl (HP.out _ _ rfl ?_)
  iterate 8 (with_reducible refine low_set ?_ _ _)
  exact HOW.out.low

set_option maxRecDepth 100000 in
set_option maxHeartbeats 4000000 in
theorem do_some (name : ByteArray) (k : Nat) (la : Option Addr) (ll lc : Nat) (L : Nat → V) (w : World) (h : Vals w la ll lc L) (ht : Tabs w) (hk : opAt name = some k) :
    Calls Tryz.prog 15 #[.string name, .slice la ll lc] w (DoPost (doB name ll L) (doV name ll L) w) := by
  have OK0 := OW.start h 55
  have hlc := h.hlc
  unfold maxLen at hlc
  have hk13 : k < 13 := (findF_lt hk).1
  have HF : Hid (∀ W, OW w la ll lc L W → Calls Tryz.prog 18 #[.string name] W fun e w' => e = .returned (.tuple #[.agg (rowOf k).toArray, .bool true]) ∧ OW w la ll lc L w') := fun W hW => (find_any name W).mono fun e w' ⟨h1, h2⟩ => by
    unfold Found at h1
    rw [hk] at h1
    exact ⟨h1, hW.below h2⟩
  have HTK : Hid (∀ W, Calls Tryz.prog 74 #[.agg (rowOf k).toArray, .int .i64 ll] W fun e w' => e = .returned (.bool (takesB (opLeast k) (opMost k) ll)) ∧ Below W.heap.size W w') := fun W => takes_any _ _ _ _ _ W
  have HMB := Lib.hid (fun W (hW : OW w la ll lc L W) => mayBe_any la ll lc L W hW.vals (ht.below hW.low))
  have HOP := Lib.hid (fun (htk : takesB (opLeast k) (opMost k) ll = true) (hmb : allB ll (fun i => (L i).check) = true) W (hW : OW w la ll lc L W) => op_any hk13 la ll lc L W hW.vals (allB_true.1 hmb) (ht.below hW.low) htk)
  have HCF := Lib.hid (fun W => enter_op hk13 #[.slice la ll lc] W)
  have HM1 := Lib.hid (fun W (hW : OW w la ll lc L W) b (u : V) (ha : At W b 0 u.cells) (hu : u.In W) => mayBe_any (some ⟨b, 0, none⟩) 1 1 (v1 u) W (vals_one ha hu) (ht.below hW.low))
  have hdb := doB_some (n := ll) (L := L) hk
  have HN : Hid (∀ e w', doB name ll L = false → e = .returned (.tuple #[nv.agg, .bool false]) → Below w.heap.size w w' → DoPost (doB name ll L) (doV name ll L) w e w') := fun e w' hf he hl => done_no hf he hl
  have HY : Hid (∀ t e w', doB name ll L = true → (opV k ll L).same t = true → t.blocks.Nodup → TS w t w' → e = .returned (.tuple #[t.agg, .bool true]) → DoPost (doB name ll L) (doV name ll L) w e w') := by
    intro t e w' hb hs hn h he
    exact ⟨t, by rw [hb]; exact he, h.inn, h.low, (fun _ => by rw [doV_some hk]; exact hs), (fun h => by rw [hb] at h; cases h), h.frm.mono (by omega), h.own, hn⟩
  have KS := Lib.hid (fun W (h : OW w la ll lc L W) => And.intro h h.rcells)
  generalize doB name ll L = db at HN HY hdb ⊢
  generalize doV name ll L = dv at HN HY ⊢
  obtain ⟨tk, htk⟩ : ∃ q, takesB (opLeast k) (opMost k) ll = q := ⟨_, rfl⟩
  obtain ⟨mb, hmb⟩ : ∃ q, allB ll (fun i => (L i).check) = q := ⟨_, rfl⟩
  rw [htk] at HTK HOP hdb
  rw [hmb] at HMB HOP hdb
  unfold OpPost at HOP
  generalize opOk k ll L = ok at HOP hdb
  generalize opV k ll L = ov at HOP hdb HY
  obtain ⟨nm, hnm⟩ : ∃ nm, opName k = nm := ⟨_, rfl⟩
  obtain ⟨x, hx⟩ : ∃ x, opLeast k = x := ⟨_, rfl⟩
  obtain ⟨y, hy⟩ : ∃ y, opMost k = y := ⟨_, rfl⟩
  obtain ⟨f, hf⟩ : ∃ f, opFn k = f := ⟨_, rfl⟩
  have hro : rowOf k = rowCells nm x y f := by rw [rowOf, hnm, hx, hy, hf]
  rw [hro] at HF HTK
  rw [hf] at HOP HCF
  clear htk hmb hnm hx hy hf hro hk hk13 h ht
  simp only [rowCells] at HF HTK
  simp only [nv, vz, V.cells] at OK0
  have HDB := Lib.hid hdb
  have OKH := Lib.hid OK0
  clear OK0 hdb
  go_enter Tryz.func15, Tryz.ntmps15
  go_upto_region 1 with fail
  have OKu := OKH.out
  generalize w.alloc (.cells #[.int .u8 0, .int .i64 0, .string ⟨#[]⟩, .slice none 0 0, .slice none 0 0, .int .u8 0, .string ⟨#[]⟩, .bool false] 55) = W0 at OKu ⊢
  have OK : OW w la ll lc L W0 := OKu
  clear OKu OKH
  go_upto_region 2 with (go_at_call 18; (with_reducible refine (HF.out _ OK).mono ?_); rintro x w1 ⟨rfl, hw1⟩; have HW1 := Lib.hid hw1)
  have HOW := Lib.hid (And.intro (HW1.out.alloc (.cells #[.string nm, .int .i64 x, .int .i64 y, .func (Fn.func f) #[] #[]] 63)) (at_new (w := w1) (cs := rowCells nm x y f) (T := 63) rfl (Below.refl _ _)))
  simp only [rowCells] at HOW
  clear OK hw1 HW1 HF
  revert HOW
  generalize w1.alloc (.cells #[.string nm, .int .i64 x, .int .i64 y, .func (Fn.func f) #[] #[]] 63) = W1
  generalize w1.heap.size = rb
  intro HOW
  obtain ⟨-, ⟨d0, d1, d2, d3, d4, d5, d6, d7⟩, z0, z1, z2, z3, z4, z5, z6, z7⟩ := KS.out _ HOW.out.1
  obtain ⟨r0, r1, r2, r3⟩ := at4' HOW.out.2
  cases tk
  · go_wp2_with (go_at_call 74; (with_reducible refine (HTK.out _).mono ?_); rintro x w2 ⟨rfl, hb2⟩; (have HO2 := Lib.hid (And.intro (HOW.out.1.below hb2) (At.below hb2 HOW.out.2))); clear d0 d1 d2 d3 d4 d5 d6 d7 z0 z1 z2 z3 z4 z5 z6 z7 r0 r1 r2 r3 hb2; obtain ⟨-, ⟨d0, d1, d2, d3, d4, d5, d6, d7⟩, z0, z1, z2, z3, z4, z5, z6, z7⟩ := KS.out _ HO2.out.1; obtain ⟨r0, r1, r2, r3⟩ := at4' HO2.out.2)
    refine bodyPost_ret (v := .tuple #[(nv).agg, .bool false]) (by simp [results, Tryz.results15, go_sem, d0, d1, d2, d3, d4, d5, d6, d7, nv, vz, V.agg, V.cells]) rfl (HN.out _ _ (by rw [HDB.out]; rfl) rfl ?_)
    iterate 8 (with_reducible refine low_set ?_ _ _)
    exact HO2.out.1.low
  cases mb
  · go_wp2_with (first
      | (go_at_call 74; (with_reducible refine (HTK.out _).mono ?_); rintro x w2 ⟨rfl, hb2⟩; (have HO2 := Lib.hid (And.intro (HOW.out.1.below hb2) (At.below hb2 HOW.out.2))); clear d0 d1 d2 d3 d4 d5 d6 d7 z0 z1 z2 z3 z4 z5 z6 z7 r0 r1 r2 r3 hb2; obtain ⟨-, ⟨d0, d1, d2, d3, d4, d5, d6, d7⟩, z0, z1, z2, z3, z4, z5, z6, z7⟩ := KS.out _ HO2.out.1; obtain ⟨r0, r1, r2, r3⟩ := at4' HO2.out.2)
      | (go_at_call 75; (with_reducible refine (HMB.out _ HO2.out.1).mono ?_); rintro x w3 ⟨rfl, hb3⟩; (have HO3 := Lib.hid (And.intro (HO2.out.1.below hb3) (At.below hb3 HO2.out.2))); clear d0 d1 d2 d3 d4 d5 d6 d7 z0 z1 z2 z3 z4 z5 z6 z7 r0 r1 r2 r3 hb3; obtain ⟨-, ⟨d0, d1, d2, d3, d4, d5, d6, d7⟩, z0, z1, z2, z3, z4, z5, z6, z7⟩ := KS.out _ HO3.out.1; obtain ⟨r0, r1, r2, r3⟩ := at4' HO3.out.2))
    refine bodyPost_ret (v := .tuple #[(nv).agg, .bool false]) (by simp [results, Tryz.results15, go_sem, d0, d1, d2, d3, d4, d5, d6, d7, nv, vz, V.agg, V.cells]) rfl (HN.out _ _ (by rw [HDB.out]; rfl) rfl ?_)
    iterate 8 (with_reducible refine low_set ?_ _ _)
    exact HO3.out.1.low
  go_wp2_with (first
    | (go_at_call 74; (with_reducible refine (HTK.out _).mono ?_); rintro x w2 ⟨rfl, hb2⟩; (have HO2 := Lib.hid (And.intro (HOW.out.1.below hb2) (At.below hb2 HOW.out.2))); clear d0 d1 d2 d3 d4 d5 d6 d7 z0 z1 z2 z3 z4 z5 z6 z7 r0 r1 r2 r3 hb2; obtain ⟨-, ⟨d0, d1, d2, d3, d4, d5, d6, d7⟩, z0, z1, z2, z3, z4, z5, z6, z7⟩ := KS.out _ HO2.out.1; obtain ⟨r0, r1, r2, r3⟩ := at4' HO2.out.2)
    | (go_at_call 75; (with_reducible refine (HMB.out _ HO2.out.1).mono ?_); rintro x w3 ⟨rfl, hb3⟩; (have HO3 := Lib.hid (And.intro (HO2.out.1.below hb3) (At.below hb3 HO2.out.2))); clear d0 d1 d2 d3 d4 d5 d6 d7 z0 z1 z2 z3 z4 z5 z6 z7 r0 r1 r2 r3 hb3; obtain ⟨-, ⟨d0, d1, d2, d3, d4, d5, d6, d7⟩, z0, z1, z2, z3, z4, z5, z6, z7⟩ := KS.out _ HO3.out.1; obtain ⟨r0, r1, r2, r3⟩ := at4' HO3.out.2))
  rw [HCF.out, Oper.upon_enter]
  refine (HOP.out (by trivial) (by trivial) _ HO3.out.1).mono ?_
  rintro x w4 ⟨u, rfl, hb4, hin, hsm⟩
  have HSM := Lib.hid hsm
  have hw4 : OW w la ll lc L w4 := HO3.out.1.below hb4
  clear d0 d1 d2 d3 d4 d5 d6 d7 z0 z1 z2 z3 z4 z5 z6 z7 r0 r1 r2 r3 hb4 hsm HOW HO2 HO3 HCF
  rcases u with _ | ⟨k4, n4, s4, la4, ll4, lc4, L4, fa4, fl4, fc4, fn4, F4, e4, key4, hk4⟩
  · exact hin.elim
  have HO4 := Lib.hid (And.intro (And.intro (hw4.alloc (.cells (V.mk k4 n4 s4 la4 ll4 lc4 L4 fa4 fl4 fc4 fn4 F4 e4 key4 hk4).cells.toArray 55)) (hin.below (below_alloc w4 (.cells (V.mk k4 n4 s4 la4 ll4 lc4 L4 fa4 fl4 fc4 fn4 F4 e4 key4 hk4).cells.toArray 55)))) (at_new (w := w4) (cs := (V.mk k4 n4 s4 la4 ll4 lc4 L4 fa4 fl4 fc4 fn4 F4 e4 key4 hk4).cells) (T := 55) rfl (Below.refl _ _)))
  clear hin hw4
  simp only [V.agg, V.cells] at HO4 ⊢
  go_upto_region 5 with fail
  revert HO4
  generalize w4.alloc (.cells #[.int .u8 k4, .int .i64 n4, .string s4, .slice la4 ll4 lc4, .slice fa4 fl4 fc4, .int .u8 e4, .string key4, .bool hk4] 55) = W4
  generalize w4.heap.size = ub
  intro HO4
  have HO4 : Hid ((OW w la ll lc L W4 ∧ (V.mk k4 n4 s4 la4 ll4 lc4 L4 fa4 fl4 fc4 fn4 F4 e4 key4 hk4).In W4) ∧ At W4 ub 0 (V.mk k4 n4 s4 la4 ll4 lc4 L4 fa4 fl4 fc4 fn4 F4 e4 key4 hk4).cells) := HO4
  have HC4 := Lib.hid (same_check (v := V.mk k4 n4 s4 la4 ll4 lc4 L4 fa4 fl4 fc4 fn4 F4 e4 key4 hk4) (t := ov))
  have HMV := Lib.hid (fun O W (hO : W = W4.alloc O) (ha : At W W4.heap.size 0 (V.mk k4 n4 s4 la4 ll4 lc4 L4 fa4 fl4 fc4 fn4 F4 e4 key4 hk4).cells) => HM1.out W (by rw [hO]; exact HO4.out.1.1.alloc O) W4.heap.size (V.mk k4 n4 s4 la4 ll4 lc4 L4 fa4 fl4 fc4 fn4 F4 e4 key4 hk4) ha (by rw [hO]; exact HO4.out.1.2.below (below_alloc _ _)))
  clear HM1 HTK HMB HOP
  have HAT4 := Lib.hid (at_new (w := W4) (cs := (V.mk k4 n4 s4 la4 ll4 lc4 L4 fa4 fl4 fc4 fn4 F4 e4 key4 hk4).cells) (T := 55) rfl (Below.refl _ _))
  have HAN := Lib.hid (fun W h hc => anew_any (V.mk k4 n4 s4 la4 ll4 lc4 L4 fa4 fl4 fc4 fn4 F4 e4 key4 hk4) W h hc)
  rw [allB1] at HMV
  simp only [v1] at HMV
  obtain ⟨-, ⟨d0, d1, d2, d3, d4, d5, d6, d7⟩, z0, z1, z2, z3, z4, z5, z6, z7⟩ := KS.out _ HO4.out.1.1
  obtain ⟨u0, u1, u2, u3, u4, u5, u6, u7⟩ := atZ HO4.out.2
  cases ok
  · go_wp2_with fail
    refine bodyPost_ret (v := .tuple #[(nv).agg, .bool false]) (by simp [results, Tryz.results15, go_sem, d0, d1, d2, d3, d4, d5, d6, d7, nv, vz, V.agg, V.cells]) rfl (HN.out _ _ (by rw [HDB.out]; rfl) rfl ?_)
    iterate 8 (with_reducible refine low_set ?_ _ _)
    exact HO4.out.1.1.low
  obtain ⟨cu, hcu⟩ : ∃ c, (V.mk k4 n4 s4 la4 ll4 lc4 L4 fa4 fl4 fc4 fn4 F4 e4 key4 hk4).check = c := ⟨_, rfl⟩
  have HCU := Lib.hid hcu
  rw [hcu] at HMV
  clear hcu
  simp only [V.agg, V.cells] at HMV HAT4 HAN
  have M2 : Hid (Calls Tryz.prog 75 #[.slice (some ⟨W4.heap.size, 0, none⟩) 1 1] (W4.alloc (.cells #[.int .u8 k4, .int .i64 n4, .string s4, .slice la4 ll4 lc4, .slice fa4 fl4 fc4, .int .u8 e4, .string key4, .bool hk4] 55)) fun e w' => e = .returned (.bool cu) ∧ Below (W4.alloc (.cells #[.int .u8 k4, .int .i64 n4, .string s4, .slice la4 ll4 lc4, .slice fa4 fl4 fc4, .int .u8 e4, .string key4, .bool hk4] 55)).heap.size (W4.alloc (.cells #[.int .u8 k4, .int .i64 n4, .string s4, .slice la4 ll4 lc4, .slice fa4 fl4 fc4, .int .u8 e4, .string key4, .bool hk4] 55)) w') := HMV.out _ _ rfl HAT4.out
  have HB5 := Lib.hid (fun w' (h : Below (W4.alloc (.cells #[.int .u8 k4, .int .i64 n4, .string s4, .slice la4 ll4 lc4, .slice fa4 fl4 fc4, .int .u8 e4, .string key4, .bool hk4] 55)).heap.size (W4.alloc (.cells #[.int .u8 k4, .int .i64 n4, .string s4, .slice la4 ll4 lc4, .slice fa4 fl4 fc4, .int .u8 e4, .string key4, .bool hk4] 55)) w') => (below_alloc W4 _).trans (h.mono (by simp)))
  clear HMV HAT4
  cases cu
  · go_wp2_with (go_at_call 75; (with_reducible refine M2.out.mono ?_); rintro x w5 ⟨rfl, hb5⟩; have HO5 := Lib.hid (HO4.out.1.1.below (HB5.out _ hb5)); clear d0 d1 d2 d3 d4 d5 d6 d7 z0 z1 z2 z3 z4 z5 z6 z7 u0 u1 u2 u3 u4 u5 u6 u7 hb5; obtain ⟨-, ⟨d0, d1, d2, d3, d4, d5, d6, d7⟩, z0, z1, z2, z3, z4, z5, z6, z7⟩ := KS.out _ HO5.out)
    refine bodyPost_ret (v := .tuple #[(nv).agg, .bool false]) (by simp [results, Tryz.results15, go_sem, d0, d1, d2, d3, d4, d5, d6, d7, nv, vz, V.agg, V.cells]) rfl (HN.out _ _ (by rw [HDB.out, HC4.out (HSM.out (by trivial)), HCU.out]; rfl) rfl ?_)
    iterate 8 (with_reducible refine low_set ?_ _ _)
    exact HO5.out.low
  · go_wp2_with (first
      | (go_at_call 75; (with_reducible refine M2.out.mono ?_); rintro x w5 ⟨rfl, hb5⟩; have HO5 := Lib.hid (And.intro (HO4.out.1.1.below (HB5.out _ hb5)) (And.intro (HO4.out.1.2.below (HB5.out _ hb5)) (HO4.out.2.below (HB5.out _ hb5)))); clear u0 u1 u2 u3 u4 u5 u6 u7 hb5; obtain ⟨u0, u1, u2, u3, u4, u5, u6, u7⟩ := atZ HO5.out.2.2)
      | (go_at_call 76; (with_reducible refine (HAN.out _ HO5.out.2.1 HCU.out).mono ?_); rintro x w6 ⟨t, rfl, hnew⟩; have HNW := Lib.hid hnew; have HO6 := Lib.hid (HO5.out.1.below hnew.low); clear d0 d1 d2 d3 d4 d5 d6 d7 z0 z1 z2 z3 z4 z5 z6 z7 u0 u1 u2 u3 u4 u5 u6 u7 hnew; obtain ⟨-, ⟨d0, d1, d2, d3, d4, d5, d6, d7⟩, z0, z1, z2, z3, z4, z5, z6, z7⟩ := KS.out _ HO6.out; (have ht8 := HNW.out.inn); rcases t with _ | ⟨k5, n5, s5, la5, ll5, lc5, L5, fa5, fl5, fc5, fn5, F5, e5, key5, hk5⟩; (exact ht8.elim); clear ht8))
    refine bodyPost_ret (v := .tuple #[(V.mk k5 n5 s5 la5 ll5 lc5 L5 fa5 fl5 fc5 fn5 F5 e5 key5 hk5).agg, .bool true]) (by simp [results, Tryz.results15, go_sem, d0, d1, d2, d3, d4, d5, d6, d7, V.agg, V.cells]) rfl (HY.out (V.mk k5 n5 s5 la5 ll5 lc5 L5 fa5 fl5 fc5 fn5 F5 e5 key5 hk5) _ _ (by rw [HDB.out, HC4.out (HSM.out (by trivial)), HCU.out]; rfl) (same_trans _ _ _ (by rw [same_symm]; exact HSM.out (by trivial)) HNW.out.sm) HNW.out.nod ?_ rfl)
    iterate 8 (with_reducible refine TS.set ?_ _ _)
    exact ⟨HNW.out.inn, HNW.out.frm.mono HO5.out.1.big, HNW.out.own, HO6.out.low⟩


/-- Do, of any name and any values. -/
theorem oDo_any (name : ByteArray) (la : Option Addr) (ll lc : Nat) (L : Nat → V) (w : World) (h : Vals w la ll lc L) (ht : Tabs w) :
    Calls Tryz.prog 15 #[.string name, .slice la ll lc] w (DoPost (doB name ll L) (doV name ll L) w) := by
  cases hk : opAt name with
  | none => exact do_none name la ll lc L w h hk
  | some k => exact do_some name k la ll lc L w h ht hk
end Go.Proofs.YtjbapldlgnlepaaGreatDoor
