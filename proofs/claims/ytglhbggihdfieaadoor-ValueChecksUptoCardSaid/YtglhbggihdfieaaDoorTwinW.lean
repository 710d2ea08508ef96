/-
  Walks: TwinField, TwinValue copy a field, a value, each list with a mark behind it.
  Conditions: the value lies in memory; each list takes no more than the reach.
-/
import Derived.Test.YtglhbggihdfieaaDoorTwinL
import Derived.Deep.RegionHeld3
namespace Go.Proofs.YtglhbggihdfieaaDoor
open Go.RowKit Go.Deep Go.WideShapes

theorem size_alloc'' (w : World) (O : Obj) : (w.alloc O).heap.size = w.heap.size + 1 := by simp

/-- What stands in a cell that is there. -/
def rs (W : World) (b i : Nat) : Value := (W.cell? ⟨b, i, none⟩).getD undef
theorem rs_some {W : World} {b i : Nat} {v : Value} (h : W.cell? ⟨b, i, none⟩ = some v) : W.cell? ⟨b, i, none⟩ = some (rs W b i) := by
  rw [rs, h]; rfl

/-- The box of an argument, and the variable of the result behind it. -/
structure BoxR (w : World) (cs : List Value) (n : Nat) (W : World) : Prop where
  low : Below w.heap.size w W
  box : At W w.heap.size 0 cs
  res : ∀ i, i < n → (∃ v, W.cell? ⟨w.heap.size + 1, i, none⟩ = some v) ∧ W.frozen? ⟨w.heap.size + 1, i, none⟩ = false
  big : w.heap.size + 2 ≤ W.heap.size

theorem BoxR.below {w W W' : World} {cs : List Value} {n : Nat} (h : BoxR w cs n W) (hb : Below W.heap.size W W') : BoxR w cs n W' := by
  refine ⟨h.low.trans (hb.mono h.low.size), h.box.below hb, fun i hi => ?_, Nat.le_trans h.big hb.size⟩
  obtain ⟨⟨v, h1⟩, h2⟩ := h.res i hi
  exact ⟨⟨v, by rw [hb.cell (World.block_lt_of_cell? _ _ h1), h1]⟩, by rw [hb.frozen (World.block_lt_of_cell? _ _ h1), h2]⟩

theorem BoxR.set {w W : World} {cs : List Value} {n : Nat} (h : BoxR w cs n W) (i : Nat) (u : Value) : BoxR w cs n (W.setCell ⟨w.heap.size + 1, i, none⟩ u) := by
  refine ⟨h.low.setCell (p := ⟨w.heap.size + 1, i, none⟩) (by show w.heap.size ≤ w.heap.size + 1; omega) u, fun j hj => ?_, fun j hj => ?_, by simpa using h.big⟩
  · rw [World.cell?_of_block (w := W) (by simp [World.setCell, Array.getElem?_modify]), h.box j hj]
  · obtain ⟨⟨v, h1⟩, h2⟩ := h.res j hj
    refine ⟨?_, ?_⟩
    · by_cases hij : i = j
      · subst hij
        exact ⟨u, World.cell?_setCell_same _ _ _ h1⟩
      · exact ⟨v, by rw [World.cell?_setCell_other _ _ _ _ (fun e => hij (congrArg (fun a : Addr => a.off) e)), h1]⟩
    · rw [World.frozen?_setCell, h2]

theorem set_far (w W : World) (i : Nat) (u : Value) : ∀ a : Addr, w.heap.size + 2 ≤ a.block → a.block < W.heap.size → (W.setCell ⟨w.heap.size + 1, i, none⟩ u).cell? a = W.cell? a :=
  fun a ha _ => World.cell?_of_block (by simp [World.setCell, Array.getElem?_modify]; intro e; omega)
theorem TOk.set {w W : World} {v t : V} (h : TOk (w.heap.size + 2) W v t) (i : Nat) (u : Value) : TOk (w.heap.size + 2) (W.setCell ⟨w.heap.size + 1, i, none⟩ u) v t := h.from (set_far w W i u)
theorem LOk.set {w W : World} {g ll : Nat} {L L' : Nat → V} (h : LOk (w.heap.size + 2) W g ll L L') (i : Nat) (u : Value) : LOk (w.heap.size + 2) (W.setCell ⟨w.heap.size + 1, i, none⟩ u) g ll L L' := h.from (set_far w W i u)
theorem FOk.set {w W : World} {g fl : Nat} {fn fn' : Nat → ByteArray} {F F' : Nat → V} (h : FOk (w.heap.size + 2) W g fl fn fn' F F') (i : Nat) (u : Value) : FOk (w.heap.size + 2) (W.setCell ⟨w.heap.size + 1, i, none⟩ u) g fl fn fn' F F' := h.from (set_far w W i u)
theorem LOk.mono {base base' : Nat} {W : World} {g ll : Nat} {L L' : Nat → V} (hb : base' ≤ base) (h : LOk base W g ll L L') : LOk base' W g ll L L' := ⟨Nat.le_trans hb h.hg, h.cs, fun i hi => (h.ok i hi).mono hb, h.spr⟩
theorem FOk.mono {base base' : Nat} {W : World} {g fl : Nat} {fn fn' : Nat → ByteArray} {F F' : Nat → V} (hb : base' ≤ base) (h : FOk base W g fl fn fn' F F') : FOk base' W g fl fn fn' F F' := ⟨Nat.le_trans hb h.hg, h.cs, h.nm, fun i hi => (h.ok i hi).mono hb, h.spr⟩
theorem LOk.below {base : Nat} {W W' : World} {g ll : Nat} {L L' : Nat → V} (hb : Below W.heap.size W W') (h : LOk base W g ll L L') : LOk base W' g ll L L' := h.from fun _ _ hlt => hb.cell hlt
theorem FOk.below {base : Nat} {W W' : World} {g fl : Nat} {fn fn' : Nat → ByteArray} {F F' : Nat → V} (hb : Below W.heap.size W W') (h : FOk base W g fl fn fn' F F') : FOk base W' g fl fn fn' F F' := h.from fun _ _ hlt => hb.cell hlt

/-- A value of two copied lists. -/
theorem tok_mk {base : Nat} {W : World} {k n : Int} {s : ByteArray} {la : Option Addr} {ll lc : Nat} {L L' : Nat → V} {fa : Option Addr} {fl fc : Nat} {fn fn' : Nat → ByteArray} {F F' : Nat → V} {e : Int} {key : ByteArray} {hk : Bool} {g g' : Nat}
    (hr : (0 ≤ k ∧ k ≤ 255) ∧ (-9223372036854775808 ≤ n ∧ n ≤ 9223372036854775807) ∧ s.size ≤ maxLen ∧ (0 ≤ e ∧ e ≤ 255) ∧ key.size ≤ maxLen) (hz : ll * 112 ≤ 140737488351232 ∧ fl * 128 ≤ 140737488351232) (hnm : ∀ i, i < fl → (fn i).size ≤ maxLen)
    (hL : LOk base W g ll L L') (hF : FOk base W g' fl fn fn' F F') :
    TOk base W (.mk k n s la ll lc L fa fl fc fn F e key hk) (.mk k n s (some ⟨g, 0, none⟩) ll (ll + 1) L' (some ⟨g', 0, none⟩) fl (fl + 1) fn' F' e key hk) := by
  obtain ⟨r1, r2, r3, r4, r5⟩ := hr
  refine ⟨⟨r1, r2, r3, r4, r5, ⟨by omega, by unfold maxLen; omega⟩, ⟨by omega, by unfold maxLen; omega⟩, fun i hi => ⟨⟨g, 0, rfl, ?_⟩, (hL.ok i hi).inn⟩, fun i hi => ⟨⟨g', 0, rfl, ?_⟩, ?_, (hF.ok i hi).inn⟩⟩, ⟨fun a h => ?_, fun a h => ?_, fun i hi => (hL.ok i hi).frm, fun i hi => (hF.ok i hi).frm⟩,
    ⟨⟨rfl, rfl, rfl, rfl, rfl, rfl⟩, ⟨rfl, rfl⟩, ⟨rfl, rfl⟩, fun i hi => (hL.ok i hi).tw, fun i hi => ⟨hF.nm i hi, (hF.ok i hi).tw⟩⟩, ⟨⟨g, rfl, hL.spr⟩, ⟨g', rfl, hF.spr⟩, fun i hi => (hL.ok i hi).mks, fun i hi => (hF.ok i hi).mks⟩⟩
  · rw [Nat.zero_add]; exact hL.cs i hi
  · rw [Nat.zero_add]; exact hF.cs i hi
  · rw [← hF.nm i hi]; exact hnm i hi
  · cases h; exact hL.hg
  · cases h; exact hF.hg

theorem boxR (w : World) (cs ds : List Value) (T T' : TypeId) : BoxR w cs ds.length ((w.alloc (.cells cs.toArray T)).alloc (.cells ds.toArray T')) := by
  refine ⟨(below_alloc _ _).alloc (by rw [size_alloc'']; omega) _, At.below (below_alloc _ _) (at_new rfl (Below.refl _ _)), fun i hi => ⟨⟨ds[i], ?_⟩, ?_⟩, by rw [size_alloc'', size_alloc'']; omega⟩
  · have := at_new (w := w.alloc (.cells cs.toArray T)) (cs := ds) (T := T') (B := w.heap.size + 1) (size_alloc'' _ _).symm (Below.refl _ _) i hi
    rw [Nat.zero_add] at this
    rw [this]
    exact List.getElem?_eq_getElem hi
  · refine Lib.frozen_of_heap (cs := ds.toArray) (T := T') (b := w.heap.size + 1) ?_ i
    have := heap_alloc_new (w.alloc (.cells cs.toArray T)) (.cells ds.toArray T')
    rwa [size_alloc''] at this

theorem at90 {w : World} {b : Nat} {nm : ByteArray} {k n : Int} {s : ByteArray} {la : Option Addr} {ll lc : Nat} {L : Nat → V} {fa : Option Addr} {fl fc : Nat} {fn : Nat → ByteArray} {F : Nat → V} {e : Int} {key : ByteArray} {hk : Bool}
    (h : At w b 0 (.string nm :: (V.mk k n s la ll lc L fa fl fc fn F e key hk).cells)) :
    w.cell? ⟨b, 0, none⟩ = some (.string nm) ∧ w.cell? ⟨b, 1, none⟩ = some (.int .u8 k) ∧ w.cell? ⟨b, 2, none⟩ = some (.int .i64 n) ∧ w.cell? ⟨b, 3, none⟩ = some (.string s) ∧ w.cell? ⟨b, 4, none⟩ = some (.slice la ll lc) ∧ w.cell? ⟨b, 5, none⟩ = some (.slice fa fl fc) ∧
      w.cell? ⟨b, 6, none⟩ = some (.int .u8 e) ∧ w.cell? ⟨b, 7, none⟩ = some (.string key) ∧ w.cell? ⟨b, 8, none⟩ = some (.bool hk) := by
  have := at9 h
  simpa using this

set_option maxRecDepth 100000 in
set_option maxHeartbeats 4000000 in
theorem twinField_any (nm : ByteArray) (v : V) (hv : TwinIs v) : TwinFIs nm v := by
  intro w h hf _hn
  have OK0 := boxR w (.string nm :: v.cells) (.string ⟨#[]⟩ :: (vz 0 0 ⟨#[]⟩).cells) 38 38
  have CT := Lib.hid (fun W (hb : BoxR w (.string nm :: v.cells) 9 W) => (hv W (h.below hb.low) hf).mono (R' := fun e w' => ∃ t : V, e = .returned t.agg ∧ TOk (w.heap.size + 2) w' v t ∧ Below W.heap.size W w') (fun e w' ⟨t, h1, h2, h3⟩ => ⟨t, h1, h2.mono hb.big, h3⟩))
  cases v with
  | leaf => exact h.elim
  | mk k n s la ll lc L fa fl fc fn F e key hk =>
  clear hv h hf
  have KS := Lib.hid (fun W (h : BoxR w (.string nm :: (V.mk k n s la ll lc L fa fl fc fn F e key hk).cells) 9 W) => And.intro h (And.intro (at90 h.box) (And.intro (And.intro (rs_some (h.res 0 (by decide)).1.choose_spec) (And.intro (rs_some (h.res 1 (by decide)).1.choose_spec) (And.intro (rs_some (h.res 2 (by decide)).1.choose_spec) (And.intro (rs_some (h.res 3 (by decide)).1.choose_spec) (And.intro (rs_some (h.res 4 (by decide)).1.choose_spec) (And.intro (rs_some (h.res 5 (by decide)).1.choose_spec) (And.intro (rs_some (h.res 6 (by decide)).1.choose_spec) (And.intro (rs_some (h.res 7 (by decide)).1.choose_spec) (rs_some (h.res 8 (by decide)).1.choose_spec))))))))) (And.intro ((h.res 0 (by decide)).2) (And.intro ((h.res 1 (by decide)).2) (And.intro ((h.res 2 (by decide)).2) (And.intro ((h.res 3 (by decide)).2) (And.intro ((h.res 4 (by decide)).2) (And.intro ((h.res 5 (by decide)).2) (And.intro ((h.res 6 (by decide)).2) (And.intro ((h.res 7 (by decide)).2) ((h.res 8 (by decide)).2))))))))))))
  simp only [vz, V.cells] at OK0 ⊢
  have CT2 : Hid (∀ W, BoxR w (.string nm :: (V.mk k n s la ll lc L fa fl fc fn F e key hk).cells) 9 W → Calls Tryd.prog 10 #[.agg #[.int .u8 k, .int .i64 n, .string s, .slice la ll lc, .slice fa fl fc, .int .u8 e, .string key, .bool hk]] W _) := CT.out
  clear CT
  have OKH := Lib.hid OK0
  clear OK0
  go_enter Tryd.func51, Tryd.ntmps51
  go_wp2_with fail
  have OKu := OKH.out
  generalize (w.alloc (.cells #[.string nm, .int .u8 k, .int .i64 n, .string s, .slice la ll lc, .slice fa fl fc, .int .u8 e, .string key, .bool hk] 38)).alloc (.cells #[.string ⟨#[]⟩, .int .u8 0, .int .i64 0, .string ⟨#[]⟩, .slice none 0 0, .slice none 0 0, .int .u8 0, .string ⟨#[]⟩, .bool false] 38) = W0 at OKu ⊢
  have OK : BoxR w (.string nm :: (V.mk k n s la ll lc L fa fl fc fn F e key hk).cells) 9 W0 := OKu
  clear OKu
  go_region_held3 (fun W => BoxR w (.string nm :: (V.mk k n s la ll lc L fa fl fc fn F e key hk).cells) 9 W ∧
      (W.cell? ⟨w.heap.size, 0, none⟩ = some (.string nm) ∧ W.cell? ⟨w.heap.size, 1, none⟩ = some (.int .u8 k) ∧ W.cell? ⟨w.heap.size, 2, none⟩ = some (.int .i64 n) ∧ W.cell? ⟨w.heap.size, 3, none⟩ = some (.string s) ∧ W.cell? ⟨w.heap.size, 4, none⟩ = some (.slice la ll lc) ∧ W.cell? ⟨w.heap.size, 5, none⟩ = some (.slice fa fl fc) ∧ W.cell? ⟨w.heap.size, 6, none⟩ = some (.int .u8 e) ∧ W.cell? ⟨w.heap.size, 7, none⟩ = some (.string key) ∧ W.cell? ⟨w.heap.size, 8, none⟩ = some (.bool hk)) ∧
      (W.cell? ⟨w.heap.size + 1, 0, none⟩ = some (rs W (w.heap.size + 1) 0) ∧ W.cell? ⟨w.heap.size + 1, 1, none⟩ = some (rs W (w.heap.size + 1) 1) ∧ W.cell? ⟨w.heap.size + 1, 2, none⟩ = some (rs W (w.heap.size + 1) 2) ∧ W.cell? ⟨w.heap.size + 1, 3, none⟩ = some (rs W (w.heap.size + 1) 3) ∧ W.cell? ⟨w.heap.size + 1, 4, none⟩ = some (rs W (w.heap.size + 1) 4) ∧ W.cell? ⟨w.heap.size + 1, 5, none⟩ = some (rs W (w.heap.size + 1) 5) ∧ W.cell? ⟨w.heap.size + 1, 6, none⟩ = some (rs W (w.heap.size + 1) 6) ∧ W.cell? ⟨w.heap.size + 1, 7, none⟩ = some (rs W (w.heap.size + 1) 7) ∧ W.cell? ⟨w.heap.size + 1, 8, none⟩ = some (rs W (w.heap.size + 1) 8)) ∧
      (W.frozen? ⟨w.heap.size + 1, 0, none⟩ = false ∧ W.frozen? ⟨w.heap.size + 1, 1, none⟩ = false ∧ W.frozen? ⟨w.heap.size + 1, 2, none⟩ = false ∧ W.frozen? ⟨w.heap.size + 1, 3, none⟩ = false ∧ W.frozen? ⟨w.heap.size + 1, 4, none⟩ = false ∧ W.frozen? ⟨w.heap.size + 1, 5, none⟩ = false ∧ W.frozen? ⟨w.heap.size + 1, 6, none⟩ = false ∧ W.frozen? ⟨w.heap.size + 1, 7, none⟩ = false ∧ W.frozen? ⟨w.heap.size + 1, 8, none⟩ = false))
    (first | (refine KS.out _ ?_; ((with_reducible refine BoxR.set ?_ _ _); (repeat' (with_reducible refine BoxR.set ?_ _ _)); go_split_ands; with_reducible assumption)) | (refine KS.out _ (BoxR.below (W := W0) OK ?_); with_reducible exact (Below.refl _ _).drew) | (refine KS.out _ (BoxR.below ?_ (by with_reducible assumption)); go_split_ands; with_reducible assumption))
    ((go_at_call 10; refine (CT2.out _ ?_).mono ?_; (go_split_ands; assumption); rintro x w1 ⟨t, rfl, htk, hb1⟩; have ht8 := htk.inn; rcases t with _ | ⟨k3, n3, s3, la3, ll3, lc3, L3, fa3, fl3, fc3, fn3, F3, e3, key3, hk3⟩; (exact ht8.elim); simp only [V.agg, V.cells]))
  go_wp2_with fail
  rename_i hS
  have HS := Lib.hid hS.1
  clear hS
  have OK1 := (OK.below (Below.refl _ _).drew).below hb1
  obtain ⟨-, -, ⟨d0, d1, d2, d3, d4, d5, d6, d7, d8⟩, -⟩ := KS.out _ OK1
  have HK := Lib.hid (And.intro htk OK1)
  clear OK1 htk hb1 ht8 OK KS CT2
  refine bodyPost_ret (v := .agg #[.string nm, .int .u8 k3, .int .i64 n3, .string s3, .slice la3 ll3 lc3, .slice fa3 fl3 fc3, .int .u8 e3, .string key3, .bool hk3]) (by simp [results, Tryd.results51, go_sem, d0, d1, d2, d3, d4, d5, d6, d7, d8]) rfl ⟨.mk k3 n3 s3 la3 ll3 lc3 L3 fa3 fl3 fc3 fn3 F3 e3 key3 hk3, rfl, ?_, HS.out.low⟩
  refine TOk.mono (base := w.heap.size + 2) (by omega) ?_
  iterate 9 (with_reducible refine TOk.set ?_ _ _)
  exact HK.out.1

set_option maxRecDepth 100000 in
set_option maxHeartbeats 4000000 in
theorem twinValue_any : ∀ v : V, TwinIs v := by
  intro v
  induction v with
  | leaf => exact fun w h => h.elim
  | mk k n s la ll lc L fa fl fc fn F e key hk ihL ihF =>
  intro w h hf
  obtain ⟨hk1, hn1, hs1, he1, hkey1, hl1, hf1, hL, hF⟩ := h
  obtain ⟨z1, z2, fL, fF⟩ := hf
  have OK0 := boxR w (V.mk k n s la ll lc L fa fl fc fn F e key hk).cells (vz 0 0 ⟨#[]⟩).cells 27 27
  have CL := Lib.hid (fun W (hb : BoxR w (V.mk k n s la ll lc L fa fl fc fn F e key hk).cells 8 W) => (twinValues_any la ll lc L (fun i _ => ihL i) W hl1 z1 fL (fun i hi => ⟨let ⟨b, o, e1, ha⟩ := (hL i hi).1; ⟨b, o, e1, ha.below hb.low⟩, (hL i hi).2.below hb.low⟩)).mono
    (R' := fun e w' => ∃ L' : Nat → V, e = .returned (.slice (some ⟨W.heap.size, 0, none⟩) ll (ll + 1)) ∧ LOk (w.heap.size + 2) w' W.heap.size ll L L' ∧ Below W.heap.size W w') (fun e w' ⟨t, h1, h2, h3⟩ => ⟨t, h1, h2.mono hb.big, h3⟩))
  have CF := Lib.hid (fun W (hb : BoxR w (V.mk k n s la ll lc L fa fl fc fn F e key hk).cells 8 W) => (twinFields_any fa fl fc fn F (fun i _ => twinField_any _ _ (ihF i)) W hf1 z2 fF (fun i hi => ⟨let ⟨b, o, e1, ha⟩ := (hF i hi).1; ⟨b, o, e1, ha.below hb.low⟩, (hF i hi).2.1, (hF i hi).2.2.below hb.low⟩)).mono
    (R' := fun e w' => ∃ F' : Nat → V, e = .returned (.slice (some ⟨W.heap.size, 0, none⟩) fl (fl + 1)) ∧ FOk (w.heap.size + 2) w' W.heap.size fl fn fn F F' ∧ Below W.heap.size W w') (fun e w' ⟨t, h1, h2, h3⟩ => ⟨t, h1, h2.mono hb.big, h3⟩))
  have HT := Lib.hid (fun W g g' L' F' (h1 : LOk (w.heap.size + 2) W g ll L L') (h2 : FOk (w.heap.size + 2) W g' fl fn fn F F') => tok_mk (la := la) (lc := lc) (fa := fa) (fc := fc) (hk := hk) ⟨hk1, hn1, hs1, he1, hkey1⟩ ⟨z1, z2⟩ (fun i hi => (hF i hi).2.1) h1 h2)
  clear hk1 hn1 hs1 he1 hkey1 hl1 hf1 hL hF z1 z2 fL fF ihL ihF
  have KS := Lib.hid (fun W (h : BoxR w (V.mk k n s la ll lc L fa fl fc fn F e key hk).cells 8 W) => And.intro h (And.intro (at80 h.box) (And.intro (And.intro (rs_some (h.res 0 (by decide)).1.choose_spec) (And.intro (rs_some (h.res 1 (by decide)).1.choose_spec) (And.intro (rs_some (h.res 2 (by decide)).1.choose_spec) (And.intro (rs_some (h.res 3 (by decide)).1.choose_spec) (And.intro (rs_some (h.res 4 (by decide)).1.choose_spec) (And.intro (rs_some (h.res 5 (by decide)).1.choose_spec) (And.intro (rs_some (h.res 6 (by decide)).1.choose_spec) (rs_some (h.res 7 (by decide)).1.choose_spec)))))))) (And.intro ((h.res 0 (by decide)).2) (And.intro ((h.res 1 (by decide)).2) (And.intro ((h.res 2 (by decide)).2) (And.intro ((h.res 3 (by decide)).2) (And.intro ((h.res 4 (by decide)).2) (And.intro ((h.res 5 (by decide)).2) (And.intro ((h.res 6 (by decide)).2) ((h.res 7 (by decide)).2)))))))))))
  simp only [V.agg, vz, V.cells] at OK0 ⊢
  have OKH := Lib.hid OK0
  clear OK0
  go_enter Tryd.func10, Tryd.ntmps10
  go_wp2_with fail
  have OKu := OKH.out
  generalize (w.alloc (.cells #[.int .u8 k, .int .i64 n, .string s, .slice la ll lc, .slice fa fl fc, .int .u8 e, .string key, .bool hk] 27)).alloc (.cells #[.int .u8 0, .int .i64 0, .string ⟨#[]⟩, .slice none 0 0, .slice none 0 0, .int .u8 0, .string ⟨#[]⟩, .bool false] 27) = W0 at OKu ⊢
  have OK : BoxR w (V.mk k n s la ll lc L fa fl fc fn F e key hk).cells 8 W0 := OKu
  clear OKu
  go_region_held3 (fun W => BoxR w (V.mk k n s la ll lc L fa fl fc fn F e key hk).cells 8 W ∧
      (W.cell? ⟨w.heap.size, 0, none⟩ = some (.int .u8 k) ∧ W.cell? ⟨w.heap.size, 1, none⟩ = some (.int .i64 n) ∧ W.cell? ⟨w.heap.size, 2, none⟩ = some (.string s) ∧ W.cell? ⟨w.heap.size, 3, none⟩ = some (.slice la ll lc) ∧ W.cell? ⟨w.heap.size, 4, none⟩ = some (.slice fa fl fc) ∧ W.cell? ⟨w.heap.size, 5, none⟩ = some (.int .u8 e) ∧ W.cell? ⟨w.heap.size, 6, none⟩ = some (.string key) ∧ W.cell? ⟨w.heap.size, 7, none⟩ = some (.bool hk)) ∧
      (W.cell? ⟨w.heap.size + 1, 0, none⟩ = some (rs W (w.heap.size + 1) 0) ∧ W.cell? ⟨w.heap.size + 1, 1, none⟩ = some (rs W (w.heap.size + 1) 1) ∧ W.cell? ⟨w.heap.size + 1, 2, none⟩ = some (rs W (w.heap.size + 1) 2) ∧ W.cell? ⟨w.heap.size + 1, 3, none⟩ = some (rs W (w.heap.size + 1) 3) ∧ W.cell? ⟨w.heap.size + 1, 4, none⟩ = some (rs W (w.heap.size + 1) 4) ∧ W.cell? ⟨w.heap.size + 1, 5, none⟩ = some (rs W (w.heap.size + 1) 5) ∧ W.cell? ⟨w.heap.size + 1, 6, none⟩ = some (rs W (w.heap.size + 1) 6) ∧ W.cell? ⟨w.heap.size + 1, 7, none⟩ = some (rs W (w.heap.size + 1) 7)) ∧
      (W.frozen? ⟨w.heap.size + 1, 0, none⟩ = false ∧ W.frozen? ⟨w.heap.size + 1, 1, none⟩ = false ∧ W.frozen? ⟨w.heap.size + 1, 2, none⟩ = false ∧ W.frozen? ⟨w.heap.size + 1, 3, none⟩ = false ∧ W.frozen? ⟨w.heap.size + 1, 4, none⟩ = false ∧ W.frozen? ⟨w.heap.size + 1, 5, none⟩ = false ∧ W.frozen? ⟨w.heap.size + 1, 6, none⟩ = false ∧ W.frozen? ⟨w.heap.size + 1, 7, none⟩ = false))
    (first | (refine KS.out _ ?_; ((with_reducible refine BoxR.set ?_ _ _); (repeat' (with_reducible refine BoxR.set ?_ _ _)); go_split_ands; with_reducible assumption)) | (refine KS.out _ (BoxR.below (W := W0) OK ?_); with_reducible exact (Below.refl _ _).drew) | (refine KS.out _ (BoxR.below ?_ (by with_reducible assumption)); go_split_ands; with_reducible assumption))
    (first
      | (go_at_call 26; refine (CL.out _ ?_).mono ?_; (go_split_ands; assumption); rintro x w1 ⟨L', rfl, hl1, hbl⟩)
      | (go_at_call 27; refine (CF.out _ ?_).mono ?_; (go_split_ands; assumption); rintro x w1 ⟨F', rfl, hf1, hbf⟩))
  go_wp2_with fail
  rename_i hS
  have HS := Lib.hid hS.1
  clear hS
  have OK1 := ((OK.below (Below.refl _ _).drew).below hbl).below hbf
  obtain ⟨-, -, ⟨d0, d1, d2, d3, d4, d5, d6, d7⟩, -⟩ := KS.out _ OK1
  have HK := Lib.hid (HT.out _ _ _ _ _ (hl1.below hbf) hf1)
  clear OK1 hl1 hf1 hbl hbf OK KS CL CF HT
  refine bodyPost_ret (v := .agg #[.int .u8 k, .int .i64 n, .string s, .slice (some ⟨_, 0, none⟩) ll (ll + 1), .slice (some ⟨_, 0, none⟩) fl (fl + 1), .int .u8 e, .string key, .bool hk]) (by simp [results, Tryd.results10, go_sem, d0, d1, d2, d3, d4, d5, d6, d7]; exact ⟨rfl, rfl⟩) rfl ⟨.mk k n s (some ⟨_, 0, none⟩) ll (ll + 1) L' (some ⟨_, 0, none⟩) fl (fl + 1) fn F' e key hk, rfl, ?_, HS.out.low⟩
  refine TOk.mono (base := w.heap.size + 2) (by omega) ?_
  iterate 8 (with_reducible refine TOk.set ?_ _ _)
  exact HK.out
end Go.Proofs.YtglhbggihdfieaaDoor
