/-
  Walks: TwinChild, TwinChildren copy children, with a mark behind them; LeftChild, LeftChildren find the copies and the marks as they were.
  Conditions: the children lie in memory; each list takes no more than the reach.
-/
import Derived.Test.YtpmkkgndpfbkdaaGreatDoorTw
import Derived.Test.YtpmkkgndpfbkdaaGreatDoorMaS
namespace Go.Proofs.YtpmkkgndpfbkdaaGreatDoor.Tw
set_option linter.unusedVariables false
set_option linter.unusedSimpArgs false
open Go.RowKit Go.Deep Go.WideShapes Go.Proofs.YtpmkkgndpfbkdaaGreatDoor.Bk

theorem info_chi : (Tryz.prog.info? 58).map (fun i => (i.zero, i.size, i.bytes)) = some (some (.agg #[.string ⟨#[]⟩, .int .u8 0, .string ⟨#[]⟩, .int .u8 0, .int .i64 0, .string ⟨#[]⟩, .slice none 0 0, .slice none 0 0, .int .u8 0, .string ⟨#[]⟩, .bool false]), 11, 152) := by kernel_rfl
/-- The copy of a child, its value's copy given. -/
def C.with (c : C) (t : V) : C := ⟨c.key, c.kind, c.name, t⟩
theorem at110 {w : World} {b : Nat} {c0 c1 c2 c3 c4 c5 c6 c7 c8 c9 c10 : Value} (h : At w b 0 [c0, c1, c2, c3, c4, c5, c6, c7, c8, c9, c10]) :
    w.cell? ⟨b, 0, none⟩ = some c0 ∧ w.cell? ⟨b, 1, none⟩ = some c1 ∧ w.cell? ⟨b, 2, none⟩ = some c2 ∧ w.cell? ⟨b, 3, none⟩ = some c3 ∧ w.cell? ⟨b, 4, none⟩ = some c4 ∧ w.cell? ⟨b, 5, none⟩ = some c5 ∧ w.cell? ⟨b, 6, none⟩ = some c6 ∧ w.cell? ⟨b, 7, none⟩ = some c7 ∧ w.cell? ⟨b, 8, none⟩ = some c8 ∧ w.cell? ⟨b, 9, none⟩ = some c9 ∧ w.cell? ⟨b, 10, none⟩ = some c10 := by
  have := mt11 h
  simpa using this

set_option maxRecDepth 100000 in
set_option maxHeartbeats 4000000 in
theorem twinChild_any (c : C) (w : World) (h : c.In w) (hf : c.val.Fits) : Calls Tryz.prog 14 #[c.agg] w fun x w' => ∃ t : V, x = .returned (C.with c t).agg ∧ TOk w.heap.size w' c.val t ∧ Below w.heap.size w w' := by
  obtain ⟨ck, ce, cn, v⟩ := c
  have hv : v.In w := h.2.2.2
  have hf : v.Fits := hf
  have OK0 := boxR w (⟨ck, ce, cn, v⟩ : C).cells [.string ⟨#[]⟩, .int .u8 0, .string ⟨#[]⟩, .int .u8 0, .int .i64 0, .string ⟨#[]⟩, .slice none 0 0, .slice none 0 0, .int .u8 0, .string ⟨#[]⟩, .bool false] 58 58
  have CT := Lib.hid (fun W (hb : BoxR w (⟨ck, ce, cn, v⟩ : C).cells 11 W) => (twinValue_any v W (hv.below hb.low) hf).mono (R' := fun e w' => ∃ t : V, e = .returned t.agg ∧ TOk (w.heap.size + 2) w' v t ∧ Below W.heap.size W w') (fun e w' ⟨t, h1, h2, h3⟩ => ⟨t, h1, h2.mono hb.big, h3⟩))
  cases v with
  | leaf => exact hv.elim
  | mk k n s la ll lc L fa fl fc fn F e key hk =>
  clear hv h hf
  have KS := Lib.hid (fun W (h : BoxR w (⟨ck, ce, cn, V.mk k n s la ll lc L fa fl fc fn F e key hk⟩ : C).cells 11 W) => And.intro h (And.intro (at110 h.box) (And.intro (And.intro (rs_some (h.res 0 (by decide)).1.choose_spec) (And.intro (rs_some (h.res 1 (by decide)).1.choose_spec) (And.intro (rs_some (h.res 2 (by decide)).1.choose_spec) (And.intro (rs_some (h.res 3 (by decide)).1.choose_spec) (And.intro (rs_some (h.res 4 (by decide)).1.choose_spec) (And.intro (rs_some (h.res 5 (by decide)).1.choose_spec) (And.intro (rs_some (h.res 6 (by decide)).1.choose_spec) (And.intro (rs_some (h.res 7 (by decide)).1.choose_spec) (And.intro (rs_some (h.res 8 (by decide)).1.choose_spec) (And.intro (rs_some (h.res 9 (by decide)).1.choose_spec) (rs_some (h.res 10 (by decide)).1.choose_spec))))))))))) (And.intro ((h.res 0 (by decide)).2) (And.intro ((h.res 1 (by decide)).2) (And.intro ((h.res 2 (by decide)).2) (And.intro ((h.res 3 (by decide)).2) (And.intro ((h.res 4 (by decide)).2) (And.intro ((h.res 5 (by decide)).2) (And.intro ((h.res 6 (by decide)).2) (And.intro ((h.res 7 (by decide)).2) (And.intro ((h.res 8 (by decide)).2) (And.intro ((h.res 9 (by decide)).2) ((h.res 10 (by decide)).2))))))))))))))
  simp only [C.agg, C.with, C.cells, V.cells] at OK0 ⊢
  have CT2 : Hid (∀ W, BoxR w (⟨ck, ce, cn, V.mk k n s la ll lc L fa fl fc fn F e key hk⟩ : C).cells 11 W → Calls Tryz.prog 70 #[.agg #[.int .u8 k, .int .i64 n, .string s, .slice la ll lc, .slice fa fl fc, .int .u8 e, .string key, .bool hk]] W _) := CT.out
  clear CT
  have OKH := Lib.hid OK0
  clear OK0
  go_enter Tryz.func14, Tryz.ntmps14
  go_wp2_with fail
  have OKu := OKH.out
  generalize (w.alloc (.cells #[.string ck, .int .u8 ce, .string cn, .int .u8 k, .int .i64 n, .string s, .slice la ll lc, .slice fa fl fc, .int .u8 e, .string key, .bool hk] 58)).alloc (.cells #[.string ⟨#[]⟩, .int .u8 0, .string ⟨#[]⟩, .int .u8 0, .int .i64 0, .string ⟨#[]⟩, .slice none 0 0, .slice none 0 0, .int .u8 0, .string ⟨#[]⟩, .bool false] 58) = W0 at OKu ⊢
  have OK : BoxR w (⟨ck, ce, cn, V.mk k n s la ll lc L fa fl fc fn F e key hk⟩ : C).cells 11 W0 := OKu
  clear OKu
  go_region_held3 (fun W => BoxR w (⟨ck, ce, cn, V.mk k n s la ll lc L fa fl fc fn F e key hk⟩ : C).cells 11 W ∧
      (W.cell? ⟨w.heap.size, 0, none⟩ = some (.string ck) ∧ W.cell? ⟨w.heap.size, 1, none⟩ = some (.int .u8 ce) ∧ W.cell? ⟨w.heap.size, 2, none⟩ = some (.string cn) ∧ W.cell? ⟨w.heap.size, 3, none⟩ = some (.int .u8 k) ∧ W.cell? ⟨w.heap.size, 4, none⟩ = some (.int .i64 n) ∧ W.cell? ⟨w.heap.size, 5, none⟩ = some (.string s) ∧ W.cell? ⟨w.heap.size, 6, none⟩ = some (.slice la ll lc) ∧ W.cell? ⟨w.heap.size, 7, none⟩ = some (.slice fa fl fc) ∧ W.cell? ⟨w.heap.size, 8, none⟩ = some (.int .u8 e) ∧ W.cell? ⟨w.heap.size, 9, none⟩ = some (.string key) ∧ W.cell? ⟨w.heap.size, 10, none⟩ = some (.bool hk)) ∧
      (W.cell? ⟨w.heap.size + 1, 0, none⟩ = some (rs W (w.heap.size + 1) 0) ∧ W.cell? ⟨w.heap.size + 1, 1, none⟩ = some (rs W (w.heap.size + 1) 1) ∧ W.cell? ⟨w.heap.size + 1, 2, none⟩ = some (rs W (w.heap.size + 1) 2) ∧ W.cell? ⟨w.heap.size + 1, 3, none⟩ = some (rs W (w.heap.size + 1) 3) ∧ W.cell? ⟨w.heap.size + 1, 4, none⟩ = some (rs W (w.heap.size + 1) 4) ∧ W.cell? ⟨w.heap.size + 1, 5, none⟩ = some (rs W (w.heap.size + 1) 5) ∧ W.cell? ⟨w.heap.size + 1, 6, none⟩ = some (rs W (w.heap.size + 1) 6) ∧ W.cell? ⟨w.heap.size + 1, 7, none⟩ = some (rs W (w.heap.size + 1) 7) ∧ W.cell? ⟨w.heap.size + 1, 8, none⟩ = some (rs W (w.heap.size + 1) 8) ∧ W.cell? ⟨w.heap.size + 1, 9, none⟩ = some (rs W (w.heap.size + 1) 9) ∧ W.cell? ⟨w.heap.size + 1, 10, none⟩ = some (rs W (w.heap.size + 1) 10)) ∧
      (W.frozen? ⟨w.heap.size + 1, 0, none⟩ = false ∧ W.frozen? ⟨w.heap.size + 1, 1, none⟩ = false ∧ W.frozen? ⟨w.heap.size + 1, 2, none⟩ = false ∧ W.frozen? ⟨w.heap.size + 1, 3, none⟩ = false ∧ W.frozen? ⟨w.heap.size + 1, 4, none⟩ = false ∧ W.frozen? ⟨w.heap.size + 1, 5, none⟩ = false ∧ W.frozen? ⟨w.heap.size + 1, 6, none⟩ = false ∧ W.frozen? ⟨w.heap.size + 1, 7, none⟩ = false ∧ W.frozen? ⟨w.heap.size + 1, 8, none⟩ = false ∧ W.frozen? ⟨w.heap.size + 1, 9, none⟩ = false ∧ W.frozen? ⟨w.heap.size + 1, 10, none⟩ = false))
    (first | (refine KS.out _ ?_; ((with_reducible refine BoxR.set ?_ _ _); (repeat' (with_reducible refine BoxR.set ?_ _ _)); go_split_ands; with_reducible assumption)) | (refine KS.out _ (BoxR.below (W := W0) OK ?_); with_reducible exact (Below.refl _ _).drew) | (refine KS.out _ (BoxR.below ?_ (by with_reducible assumption)); go_split_ands; with_reducible assumption))
    ((go_at_call 70; refine (CT2.out _ ?_).mono ?_; (go_split_ands; assumption); rintro x w1 ⟨t, rfl, htk, hb1⟩; have ht8 := htk.inn; rcases t with _ | ⟨k3, n3, s3, la3, ll3, lc3, L3, fa3, fl3, fc3, fn3, F3, e3, key3, hk3⟩; (exact ht8.elim); simp only [V.agg, V.cells]))
  go_wp2_with fail
  rename_i hS
  have HS := Lib.hid hS.1
  clear hS
  have OK1 := (OK.below (Below.refl _ _).drew).below hb1
  obtain ⟨-, -, ⟨d0, d1, d2, d3, d4, d5, d6, d7, d8, d9, d10⟩, -⟩ := KS.out _ OK1
  have HK := Lib.hid (And.intro htk OK1)
  clear OK1 htk hb1 ht8 OK KS CT2
  refine bodyPost_ret (v := .agg #[.string ck, .int .u8 ce, .string cn, .int .u8 k3, .int .i64 n3, .string s3, .slice la3 ll3 lc3, .slice fa3 fl3 fc3, .int .u8 e3, .string key3, .bool hk3]) (by simp [results, Tryz.results14, go_sem, d0, d1, d2, d3, d4, d5, d6, d7, d8, d9, d10]) rfl ⟨.mk k3 n3 s3 la3 ll3 lc3 L3 fa3 fl3 fc3 fn3 F3 e3 key3 hk3, rfl, ?_, HS.out.low⟩
  refine TOk.mono (base := w.heap.size + 2) (by omega) ?_
  iterate 11 (with_reducible refine TOk.set ?_ _ _)
  exact HK.out.1

/-- The mark behind a list of children. -/
def spareC : List Value := [.string ⟨#[115, 112, 97, 114, 101]⟩, .int .u8 0, .string ⟨#[]⟩, .int .u8 0, .int .i64 0, .string ⟨#[]⟩, .slice none 0 0, .slice none 0 0, .int .u8 0, .string ⟨#[]⟩, .bool false]
/-- The copy of a list of children, and the mark behind it. -/
structure COk (base : Nat) (W : World) (g ll : Nat) (K : Nat → C) (K' : Nat → V) : Prop where
  hg : base ≤ g
  cs : ∀ i, i < ll → At W g (i * 11) (C.with (K i) (K' i)).cells
  ok : ∀ i, i < ll → TOk base W (K i).val (K' i)
  spr : At W g (ll * 11) spareC
theorem COk.from {base : Nat} {W W' : World} {g ll : Nat} {K : Nat → C} {K' : Nat → V} (hh : ∀ a : Addr, base ≤ a.block → a.block < W.heap.size → W'.cell? a = W.cell? a) (h : COk base W g ll K K') : COk base W' g ll K K' :=
  ⟨h.hg, fun i hi => (h.cs i hi).from h.hg hh, fun i hi => (h.ok i hi).from hh, h.spr.from h.hg hh⟩
theorem COk.below {base : Nat} {W W' : World} {g ll : Nat} {K : Nat → C} {K' : Nat → V} (hb : Below W.heap.size W W') (h : COk base W g ll K K') : COk base W' g ll K K' := h.from fun _ _ hlt => hb.cell hlt

def flatK : Nat → (Nat → C) → (Nat → V) → List Value
  | 0, _, _ => []
  | k + 1, K, K' => flatK k K K' ++ (C.with (K k) (K' k)).cells
theorem flatK_ext {k : Nat} {K : Nat → C} {L L' : Nat → V} (h : ∀ i, i < k → L i = L' i) : flatK k K L = flatK k K L' := by
  induction k with
  | zero => rfl
  | succ k ih => rw [flatK, flatK, ih (fun i hi => h i (Nat.lt_succ_of_lt hi)), h k (Nat.lt_succ_self _)]
theorem with_len {c : C} {t : V} (h : c.val.twin t) : (C.with c t).cells.length = 11 := by
  have := twin_cells h
  simp [C.with, C.cells, this]
theorem flatK_length {k : Nat} {K : Nat → C} {L : Nat → V} (h : ∀ i, i < k → (C.with (K i) (L i)).cells.length = 11) : (flatK k K L).length = k * 11 := by
  induction k with
  | zero => rfl
  | succ k ih => rw [flatK, List.length_append, ih (fun i hi => h i (Nat.lt_succ_of_lt hi)), h k (Nat.lt_succ_self _)]; omega
theorem flatK_get {k : Nat} {K : Nat → C} {L : Nat → V} (h : ∀ i, i < k → (C.with (K i) (L i)).cells.length = 11) : ∀ i, i < k → ∀ j, j < 11 → (flatK k K L)[i * 11 + j]? = (C.with (K i) (L i)).cells[j]? := by
  induction k with
  | zero => intro i hi; exact absurd hi (Nat.not_lt_zero _)
  | succ k ih =>
    intro i hi j hj
    have hl := flatK_length (k := k) (fun i hi => h i (Nat.lt_succ_of_lt hi))
    rw [flatK]
    by_cases hk : i < k
    · rw [List.getElem?_append_left (by omega)]
      exact ih (fun i hi => h i (Nat.lt_succ_of_lt hi)) i hk j hj
    · obtain rfl : i = k := by omega
      rw [List.getElem?_append_right (by omega), hl, show i * 11 + j - i * 11 = j by omega]
theorem with_one (c : C) (t : V) : ∀ u ∈ (C.with c t).cells, u.oneCell' = true := by
  intro u hu
  simp only [C.with, C.cells, List.mem_cons] at hu
  rcases hu with rfl | rfl | rfl | hu
  · rfl
  · rfl
  · rfl
  · exact v_one t u hu

/-- So far: k children are copied. -/
def TCs (w : World) (K : Nat → C) (ll : Nat) (k : Nat) (W : World) : Prop := ∃ L' : Nat → V, W.ownsRow w.heap.size 58 11 (.slice (some ⟨w.heap.size, 0, none⟩) k (ll + 1)) k (flatK k K L') ∧ (∀ i, i < k → TOk (w.heap.size + 1) W (K i).val (L' i)) ∧ Below w.heap.size w W
theorem TCs.succ {w W W1 W2 : World} {K : Nat → C} {ll k : Nat} {t : V} {L' : Nat → V}
    (hown : W2.ownsRow w.heap.size 58 11 (.slice (some ⟨w.heap.size, 0, none⟩) (k + 1) (ll + 1)) (k + 1) (flatK k K L' ++ (C.with (K k) t).cells)) (hk : ∀ i, i < k → TOk (w.heap.size + 1) W (K i).val (L' i)) (hb : Below w.heap.size w W) (hW : w.heap.size < W.heap.size)
    (ht : TOk W.heap.size W1 (K k).val t) (hb1 : Below W.heap.size W W1) (hg : W1.grownBy W2 (some w.heap.size)) : TCs w K ll (k + 1) W2 := by
  have hh : ∀ a : Addr, w.heap.size + 1 ≤ a.block → a.block < W1.heap.size → W2.cell? a = W1.cell? a := fun a ha hlt => World.cell?_of_block (hg.block _ hlt (by intro e; have := Option.some.inj e; omega))
  refine ⟨fun i => if i = k then t else L' i, ?_, fun i hi => ?_, (hb.trans (hb1.mono hb.size)).grown hg (Nat.le_trans hb.size hb1.size) (fun j e => by cases e; omega)⟩
  · rw [flatK, if_pos rfl, flatK_ext (L' := L') (fun i hi => if_neg (by omega))]
    exact hown
  · by_cases h : i = k
    · subst h
      simp only [if_true]
      exact (ht.mono (by omega)).from hh
    · simp only [if_neg h]
      exact ((hk i (by omega)).below hb1).from hh
theorem TCs.done {w W W2 : World} {K : Nat → C} {ll : Nat} {L' : Nat → V}
    (hown : W2.ownsRow w.heap.size 58 11 (.slice (some ⟨w.heap.size, 0, none⟩) (ll + 1) (ll + 1)) (ll + 1) (flatK ll K L' ++ spareC)) (hk : ∀ i, i < ll → TOk (w.heap.size + 1) W (K i).val (L' i)) (hb : Below w.heap.size w W) (_hW : w.heap.size < W.heap.size)
    (hg : W.grownBy W2 (some w.heap.size)) : COk w.heap.size W2 w.heap.size ll K L' ∧ Below w.heap.size w W2 := by
  have hh : ∀ a : Addr, w.heap.size + 1 ≤ a.block → a.block < W.heap.size → W2.cell? a = W.cell? a := fun a ha hlt => World.cell?_of_block (hg.block _ hlt (by intro e; have := Option.some.inj e; omega))
  have h8 : ∀ i, i < ll → (C.with (K i) (L' i)).cells.length = 11 := fun i hi => with_len (hk i hi).tw
  have hl := flatK_length h8
  have hc := hown.cells (g := w.heap.size) rfl
  refine ⟨⟨Nat.le_refl _, fun i hi j hj => ?_, fun i hi => ((hk i hi).from hh).mono (by omega), fun j hj => ?_⟩, hb.grown hg hb.size (fun j e => by cases e; omega)⟩
  · have hj8 : j < 11 := by rw [h8 i hi] at hj; exact hj
    have hz := flatK_get h8 i hi j hj8
    have := hc (i * 11 + j) _ (by rw [List.getElem?_append_left (by omega), hz]; exact List.getElem?_eq_getElem hj)
    rw [add_plain, Nat.zero_add] at this
    rw [this]
    exact (List.getElem?_eq_getElem hj).symm
  · have := hc (ll * 11 + j) _ (by rw [List.getElem?_append_right (by omega), hl, Nat.add_sub_cancel_left]; exact List.getElem?_eq_getElem hj)
    rw [add_plain, Nat.zero_add] at this
    rw [this]
    exact (List.getElem?_eq_getElem hj).symm

set_option maxRecDepth 100000 in
set_option maxHeartbeats 2000000 in
theorem twinChildren_any (la : Option Addr) (ll lc : Nat) (K : Nat → C) (w : World) (h : CLst w la ll lc K) (hf : ll * 152 ≤ 140737488351232) (hfs : ∀ i, i < ll → (K i).val.Fits) :
    Calls Tryz.prog 6 #[.slice la ll lc] w fun e w' => ∃ L' : Nat → V, e = .returned (.slice (some ⟨w.heap.size, 0, none⟩) ll (ll + 1)) ∧ COk w.heap.size w' w.heap.size ll K L' ∧ Below w.heap.size w w' := by
  obtain ⟨i0, hi, hz0, hz1, hz2⟩ := info_parts info_chi
  have HI := Lib.hid (And.intro hi (And.intro hz0 (And.intro hz1 hz2)))
  clear hi hz0 hz1 hz2
  have hlc := h.cap
  unfold maxLen at hlc
  have H := Lib.hid (fun W (hb : Below w.heap.size w W) => (h.below hb).els)
  have HF := Lib.hid hfs
  clear h hfs
  go_enter Tryz.func6, Tryz.ntmps6
  obtain ⟨hi, hz0, hz1, hz2⟩ := HI.out
  go_wp2_with (refine wpList_make_own _ rfl _ _ 22 rfl w.heap.size 58 i0 _ 11 Tryz.underlying22 hi hz0 hz1 _ _ _ (ll + 1) rfl rfl (by push_cast; rfl) (by rw [hz2]; omega) (by unfold maxLen; omega) (Nat.le_refl _) ?_)
  intro w0 hown0 hg0
  have hT0 : TCs w K ll 0 w0 := ⟨fun _ => .leaf, hown0, fun i hi => absurd hi (Nat.not_lt_zero _), (Below.refl _ _).grown hg0 (Nat.le_refl _) (fun k e => by cases e)⟩
  have HT0 := Lib.hid hT0
  clear hown0 hg0 hT0 hi hz0 hz1 hz2
  go_wp2_with fail
  go_loopw [3, 4] (fun t i wr => ∃ k : Nat, k ≤ ll ∧ i = .int .i64 k ∧ t = .slice (some ⟨w.heap.size, 0, none⟩) k (ll + 1) ∧ TCs w K ll k wr) (fun _ i _ => ll - (intOf i).toNat)
  case atStart => exact ⟨0, Nat.zero_le _, rfl, rfl, HT0.out⟩
  case round =>
    obtain ⟨k, hk, rfl, rfl, L', hown, hok, hb⟩ := hrel
    have hBlt : w.heap.size < wr.heap.size := (hown.lt _ rfl).2
    obtain ⟨hi, hz0, hz1, hz2⟩ := HI.out
    by_cases hlt : k < ll
    · obtain ⟨⟨b, o, rfl, hat⟩, hin⟩ := H.out _ hb k hlt
      have HX := Lib.hid (twinChild_any (K k) wr hin (HF.out k hlt))
      have HP := Lib.hid (And.intro hown (And.intro hok (And.intro hb hBlt)))
      have hv := hin.2.2.2
      clear hown hok hb hBlt
      generalize hKk : K k = c at HX hat hv
      have HKk := Lib.hid hKk
      clear hKk hin
      obtain ⟨ck, ce, cn, v⟩ := c
      cases v with
      | leaf => exact hv.elim
      | mk k2 n2 s2 la2 ll2 lc2 L2 fa2 fl2 fc2 fn2 F2 e2 key2 hk2 =>
      obtain ⟨c0, c1, c2, c3, c4, c5, c6, c7, c8, c9, c10⟩ := mt11 hat
      clear hat hv
      simp only [C.agg, C.cells, V.cells] at HX
      go_wp2_with fail
      refine HX.out.mono ?_
      rintro e w1 ⟨t, rfl, htk, hb1⟩
      have ht8 := htk.inn
      cases t with
      | leaf => exact ht8.elim
      | mk k3 n3 s3 la3 ll3 lc3 L3 fa3 fl3 fc3 fn3 F3 e3 key3 hk3 =>
      have HK := Lib.hid (And.intro htk hb1)
      have hown1 : w1.ownsRow w.heap.size 58 11 (.slice (some ⟨w.heap.size, 0, none⟩) k (ll + 1)) k (flatK k K L') := ownsRow_below HP.out.1 hb1
      clear htk hb1 ht8 HX c0 c1 c2 c3 c4 c5 c6 c7 c8 c9 c10
      simp only [C.agg, C.with, C.cells, V.cells]
      go_wp2_with (at_builtin; refine wpList_append_fits _ rfl _ _ 22 rfl w.heap.size 58 i0 11 Tryz.underlying22 hi hz1 w.heap.size k (ll + 1) _ rfl (hown1.alloc _) ⟨w1.heap.size, 0, none⟩ 1 1 (C.with ⟨ck, ce, cn, V.mk k2 n2 s2 la2 ll2 lc2 L2 fa2 fl2 fc2 fn2 F2 e2 key2 hk2⟩ (V.mk k3 n3 s3 la3 ll3 lc3 L3 fa3 fl3 fc3 fn3 F3 e3 key3 hk3)).cells rfl rfl new_cells (with_one _ _) (by omega) ?_)
      intro w2 hown2 hg2
      have HN := Lib.hid (TCs.succ (ll := ll) (by rw [HKk.out]; exact hown2) HP.out.2.1 HP.out.2.2.1 HP.out.2.2.2 (by rw [HKk.out]; exact HK.out.1) HK.out.2 (grown_trans (World.grownBy_alloc _ _ _) hg2))
      clear hown2 hg2 hown1 hi hz0 hz1 hz2
      go_wp2_with fail
      go_roundw
      case rel => exact ⟨k + 1, by omega, by go_num, rfl, HN.out⟩
      case measure => simp [intOf]; omega
    · obtain rfl : ll = k := by omega
      have HP := Lib.hid (And.intro hok (And.intro hb hBlt))
      clear hok hb hBlt
      go_wp2_with (at_builtin; refine wpList_append_fits _ rfl _ _ 22 rfl w.heap.size 58 i0 11 Tryz.underlying22 hi hz1 w.heap.size ll (ll + 1) _ rfl (hown.alloc _) ⟨wr.heap.size, 0, none⟩ 1 1 spareC rfl rfl new_cells (fun u hu => by simp [spareC] at hu; rcases hu with rfl | rfl | rfl | rfl | rfl | rfl | rfl | rfl | rfl | rfl | rfl <;> rfl) (by omega) ?_)
      intro w2 hown2 hg2
      have HN := Lib.hid (TCs.done hown2 HP.out.1 HP.out.2.1 HP.out.2.2 (grown_trans (World.grownBy_alloc _ _ _) hg2))
      clear hown2 hg2 hown hi hz0 hz1 hz2
      go_wp2_with fail
      go_ret
      exact ⟨L', rfl, HN.out.1, HN.out.2⟩

set_option maxRecDepth 100000 in
set_option maxHeartbeats 4000000 in
theorem leftChild_any (c : C) (t : V) (w : World) (hin : c.val.In w) (hin2 : t.In w) (htw : c.val.twin t) (hmk : t.Marks w) (hz : c.val.size ≤ 1099511627776) :
    Calls Tryz.prog 19 #[(C.with c t).agg, c.agg] w fun e w' => e = .returned (.bool true) ∧ Below w.heap.size w w' := by
  obtain ⟨ck, ce, cn, v⟩ := c
  have hin : v.In w := hin
  have htw : v.twin t := htw
  have hz : v.size ≤ 1099511627776 := hz
  have HX := Lib.hid (fun W (h : Box2E w (C.with ⟨ck, ce, cn, v⟩ t).cells (⟨ck, ce, cn, v⟩ : C).cells W) => leftValue_is v t W (hin.below h.low) (hin2.below h.low) htw (marks_below h.low hin2 hmk) hz)
  have OK0 := Lib.hid (box2E w (C.with ⟨ck, ce, cn, v⟩ t).cells (⟨ck, ce, cn, v⟩ : C).cells 58)
  clear htw hmk hz
  cases v with
  | leaf => exact hin.elim
  | mk k2 n2 s2 la2 ll2 lc2 L2 fa2 fl2 fc2 fn2 F2 e2 key2 hk2 =>
  cases t with
  | leaf => exact hin2.elim
  | mk k3 n3 s3 la3 ll3 lc3 L3 fa3 fl3 fc3 fn3 F3 e3 key3 hk3 =>
  clear hin hin2
  have KS := Lib.hid (fun W (h : Box2E w (C.with ⟨ck, ce, cn, (V.mk k2 n2 s2 la2 ll2 lc2 L2 fa2 fl2 fc2 fn2 F2 e2 key2 hk2)⟩ (V.mk k3 n3 s3 la3 ll3 lc3 L3 fa3 fl3 fc3 fn3 F3 e3 key3 hk3)).cells (⟨ck, ce, cn, (V.mk k2 n2 s2 la2 ll2 lc2 L2 fa2 fl2 fc2 fn2 F2 e2 key2 hk2)⟩ : C).cells W) => And.intro (at110 h.c1) (at110 h.c2))
  simp only [V.agg, C.agg, C.with, C.cells, V.cells] at HX OK0 KS ⊢
  go_enter Tryz.func19, Tryz.ntmps19
  go_upto_region 1 with fail
  have OKu := OK0.out
  generalize ((w.alloc (.cells #[.string ck, .int .u8 ce, .string cn, .int .u8 k3, .int .i64 n3, .string s3, .slice la3 ll3 lc3, .slice fa3 fl3 fc3, .int .u8 e3, .string key3, .bool hk3] 58)).alloc (.cells #[.string ck, .int .u8 ce, .string cn, .int .u8 k2, .int .i64 n2, .string s2, .slice la2 ll2 lc2, .slice fa2 fl2 fc2, .int .u8 e2, .string key2, .bool hk2] 58)) = W0 at OKu ⊢
  obtain ⟨⟨c0, c1, c2, c3, c4, c5, c6, c7, c8, c9, c10⟩, d0, d1, d2, d3, d4, d5, d6, d7, d8, d9, d10⟩ := KS.out _ OKu
  have OK := Lib.hid OKu
  clear OKu OK0
  go_wp2_with fail
  refine (HX.out _ OK.out).mono ?_
  rintro e w1 ⟨rfl, hb1⟩
  have HW := Lib.hid (OK.out.below hb1).low
  clear hb1 c0 c1 c2 c3 c4 c5 c6 c7 c8 c9 c10 d0 d1 d2 d3 d4 d5 d6 d7 d8 d9 d10
  go_wp2_with fail
  go_ret
  exact ⟨rfl, HW.out⟩

set_option maxRecDepth 100000 in
set_option maxHeartbeats 4000000 in
theorem leftChildren_any (la : Option Addr) (ll lc : Nat) (K : Nat → C) (K' : Nat → V) (base g : Nat) (w : World) (hll : ll ≤ 1099511627776) (hzs : ∀ i, i < ll → (K i).val.size ≤ 1099511627776)
    (h : CLst w la ll lc K) (h' : COk base w g ll K K') :
    Calls Tryz.prog 10 #[.slice (some ⟨g, 0, none⟩) ll (ll + 1), .slice la ll lc] w fun e w' => e = .returned (.bool true) ∧ Below w.heap.size w w' := by
  have HZS : Hid (∀ i, i < ll → (K i).val.size ≤ 1099511627776) := hzs
  have hlc := h.cap
  unfold maxLen at hlc
  have H := Lib.hid (fun W (hb : Below w.heap.size w W) => (h.below hb).els)
  have H' := Lib.hid (fun W (hb : Below w.heap.size w W) => h'.below hb)
  have HS := Lib.hid (fun W (hb : Below w.heap.size w W) => mt11 (h'.below hb).spr)
  clear h h' hzs
  go_enter Tryz.func10, Tryz.ntmps10
  go_wp2_with fail
  go_loopw [5] (fun i wr => ∃ k : Nat, k ≤ ll ∧ i = .int .i64 k ∧ Below w.heap.size w wr) (fun i _ => ll - (intOf i).toNat)
  case atStart => exact ⟨0, Nat.zero_le _, rfl, Below.refl _ _⟩
  case round =>
    obtain ⟨k, hk, rfl, hb⟩ := hrel
    have HB := Lib.hid hb
    clear hb
    by_cases hlt : k < ll
    · obtain ⟨⟨b, o, rfl, hat⟩, hin⟩ := H.out _ HB.out k hlt
      have hat2 := (H'.out _ HB.out).cs k hlt
      have hok := (H'.out _ HB.out).ok k hlt
      have hin := hin.2.2.2
      have hin2 := hok.inn
      have HX := Lib.hid (fun W (hb2 : Below wr.heap.size wr W) => leftChild_any (K k) (K' k) W (hin.below hb2) (hin2.below hb2) hok.tw (marks_below hb2 hin2 hok.mks) (HZS.out k hlt))
      obtain ⟨c, hc⟩ : ∃ c, K k = c := ⟨_, rfl⟩
      obtain ⟨t, ht⟩ : ∃ t, K' k = t := ⟨_, rfl⟩
      rw [hc] at hat hin HX hat2
      rw [ht] at hat2 hin2 HX
      clear hc ht hok
      obtain ⟨ck, ce, cn, v⟩ := c
      cases v with
      | leaf => exact hin.elim
      | mk k2 n2 s2 la2 ll2 lc2 L2 fa2 fl2 fc2 fn2 F2 e2 key2 hk2 =>
      cases t with
      | leaf => exact hin2.elim
      | mk k3 n3 s3 la3 ll3 lc3 L3 fa3 fl3 fc3 fn3 F3 e3 key3 hk3 =>
      obtain ⟨c0, c1, c2, c3, c4, c5, c6, c7, c8, c9, c10⟩ := mt11 hat
      obtain ⟨d0, d1, d2, d3, d4, d5, d6, d7, d8, d9, d10⟩ := mt11 hat2
      clear hat hin hat2 hin2
      simp only [C.agg, C.with, C.cells, V.cells] at HX
      have hl0 : (0 : Int) ≤ (k : Int) := by omega
      have hli : (k : Int) < (ll : Int) := by omega
      go_wp2_with fail
      go_still_tail 8, (by kernel_rfl)
      go_wp2_with fail
      refine (HX.out _ (drew_low _)).mono ?_
      rintro e w1 ⟨rfl, hb1⟩
      have HB1 := Lib.hid (HB.out.trans (((drew_low wr).trans (show Below wr.heap.size wr.drew w1 from hb1)).mono HB.out.size))
      clear hb1 c0 c1 c2 c3 c4 c5 c6 c7 c8 c9 c10 d0 d1 d2 d3 d4 d5 d6 d7 d8 d9 d10 HX
      go_wp2_with fail
      go_roundw
      case rel => exact ⟨k + 1, by omega, by go_num, HB1.out⟩
      case measure => simp [intOf]; omega
    · obtain rfl : ll = k := by omega
      obtain ⟨c0, c1, c2, c3, c4, c5, c6, c7, c8, c9, c10⟩ := HS.out _ HB.out
      have g1 : IntKind.i64.wrap ((ll : Int) + 1) = (ll : Int) + 1 := IntWalk.i64_in _ (by omega)
      have g2 : (0 : Int) ≤ (ll : Int) + 1 := by omega
      have g3 : (ll : Int) < (ll : Int) + 1 := by omega
      go_wp2_with fail
      go_ret
      exact ⟨rfl, HB.out.trans ((below_alloc _ _).mono HB.out.size)⟩
end Go.Proofs.YtpmkkgndpfbkdaaGreatDoor.Tw
