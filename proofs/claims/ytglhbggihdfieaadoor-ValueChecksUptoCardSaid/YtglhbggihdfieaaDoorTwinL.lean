/-
  Walks: TwinValues, TwinFields lay a copy of a list, with a mark behind it, if TwinValue copies each value.
  Conditions: the values lie in memory; each list takes no more than the reach.
-/
import Derived.Test.YtglhbggihdfieaaDoorTwinP
import Derived.Test.YtglhbggihdfieaaDoorLimW
namespace Go.Proofs.YtglhbggihdfieaaDoor
open Go.RowKit Go.Deep Go.WideShapes

theorem info_fld : (Tryd.prog.info? 38).map (fun i => (i.zero, i.size, i.bytes)) = some (some (.agg (.string ⟨#[]⟩ :: (vz 0 0 ⟨#[]⟩).cells).toArray), 9, 128) := by kernel_rfl

/-- What TwinValue's contract says of one value. -/
def TwinIs (v : V) : Prop := ∀ w : World, v.In w → v.Fits → Calls Tryd.prog 10 #[v.agg] w fun e w' => ∃ t : V, e = .returned t.agg ∧ TOk w.heap.size w' v t ∧ Below w.heap.size w w'

/-- So far: k values are copied. -/
def TL (w : World) (L : Nat → V) (ll : Nat) (k : Nat) (W : World) : Prop := ∃ L' : Nat → V, W.ownsRow w.heap.size 27 8 (.slice (some ⟨w.heap.size, 0, none⟩) k (ll + 1)) k (flatV k L') ∧ (∀ i, i < k → TOk (w.heap.size + 1) W (L i) (L' i)) ∧ Below w.heap.size w W

theorem v_one : ∀ v : V, ∀ u ∈ v.cells, u.oneCell' = true := by
  intro v u hu
  cases v with
  | leaf => simp [V.cells] at hu
  | mk k n s la ll lc L fa fl fc fn F e key hk =>
    simp [V.cells] at hu
    rcases hu with rfl | rfl | rfl | rfl | rfl | rfl | rfl | rfl <;> rfl

theorem ownsRow_below {base e size n : Nat} {v : Value} {xs : List Value} {W W1 : World} (h : W.ownsRow base e size v n xs) (hb : Below W.heap.size W W1) : W1.ownsRow base e size v n xs := by
  refine ⟨h.1, ?_⟩
  rcases h.2 with hn | ⟨g, cap, cur, rfl, hbb, hgg, rest⟩
  · exact .inl hn
  · exact .inr ⟨g, cap, cur, rfl, hbb, by rw [hb.block g (Array.getElem?_eq_some_iff.1 hgg).1, hgg], rest⟩

theorem TL.succ {w W W1 W2 : World} {L : Nat → V} {ll k : Nat} {t : V} {L' : Nat → V}
    (hown : W2.ownsRow w.heap.size 27 8 (.slice (some ⟨w.heap.size, 0, none⟩) (k + 1) (ll + 1)) (k + 1) (flatV k L' ++ t.cells)) (hk : ∀ i, i < k → TOk (w.heap.size + 1) W (L i) (L' i)) (hb : Below w.heap.size w W) (hW : w.heap.size < W.heap.size)
    (ht : TOk W.heap.size W1 (L k) t) (hb1 : Below W.heap.size W W1) (hg : W1.grownBy W2 (some w.heap.size)) : TL w L ll (k + 1) W2 := by
  have hh : ∀ a : Addr, w.heap.size + 1 ≤ a.block → a.block < W1.heap.size → W2.cell? a = W1.cell? a := fun a ha hlt => World.cell?_of_block (hg.block _ hlt (by intro e; have := Option.some.inj e; omega))
  refine ⟨fun i => if i = k then t else L' i, ?_, fun i hi => ?_, (hb.trans (hb1.mono hb.size)).grown hg (Nat.le_trans hb.size hb1.size) (fun j e => by cases e; omega)⟩
  · rw [flatV, if_pos rfl, flatV_ext (L' := L') (fun i hi => if_neg (by omega))]
    exact hown
  · by_cases h : i = k
    · subst h
      simp only [if_true]
      exact (ht.mono (by omega)).from hh
    · simp only [if_neg h]
      exact ((hk i (by omega)).below hb1).from hh

theorem TL.done {w W W2 : World} {L : Nat → V} {ll : Nat} {L' : Nat → V}
    (hown : W2.ownsRow w.heap.size 27 8 (.slice (some ⟨w.heap.size, 0, none⟩) (ll + 1) (ll + 1)) (ll + 1) (flatV ll L' ++ spareV.cells)) (hk : ∀ i, i < ll → TOk (w.heap.size + 1) W (L i) (L' i)) (hb : Below w.heap.size w W) (_hW : w.heap.size < W.heap.size)
    (hg : W.grownBy W2 (some w.heap.size)) : LOk w.heap.size W2 w.heap.size ll L L' ∧ Below w.heap.size w W2 := by
  have hh : ∀ a : Addr, w.heap.size + 1 ≤ a.block → a.block < W.heap.size → W2.cell? a = W.cell? a := fun a ha hlt => World.cell?_of_block (hg.block _ hlt (by intro e; have := Option.some.inj e; omega))
  have h8 : ∀ i, i < ll → (L' i).cells.length = 8 := fun i hi => twin_cells (hk i hi).tw
  have hl := flatV_length h8
  have hc := hown.cells (g := w.heap.size) rfl
  refine ⟨⟨Nat.le_refl _, fun i hi j hj => ?_, fun i hi => ((hk i hi).from hh).mono (by omega), fun j hj => ?_⟩, hb.grown hg hb.size (fun j e => by cases e; omega)⟩
  · have hj8 : j < 8 := by rw [h8 i hi] at hj; exact hj
    have hz := flatV_get h8 i hi j hj8
    have := hc (i * 8 + j) _ (by rw [List.getElem?_append_left (by omega), hz]; exact List.getElem?_eq_getElem hj)
    rw [add_plain, Nat.zero_add] at this
    rw [this]
    exact (List.getElem?_eq_getElem hj).symm
  · have := hc (ll * 8 + j) _ (by rw [List.getElem?_append_right (by omega), hl, Nat.add_sub_cancel_left]; exact List.getElem?_eq_getElem hj)
    rw [add_plain, Nat.zero_add] at this
    rw [this]
    exact (List.getElem?_eq_getElem hj).symm

set_option maxRecDepth 100000 in
set_option maxHeartbeats 2000000 in
theorem twinValues_any (la : Option Addr) (ll lc : Nat) (L : Nat → V) (hv : ∀ i, i < ll → TwinIs (L i)) (w : World) (_hlc : ll ≤ lc ∧ lc ≤ maxLen) (hf : ll * 112 ≤ 140737488351232) (hfs : ∀ i, i < ll → (L i).Fits)
    (h : ∀ i, i < ll → (∃ b o, la = some ⟨b, o, none⟩ ∧ At w b (o + i * 8) (L i).cells) ∧ (L i).In w) :
    Calls Tryd.prog 26 #[.slice la ll lc] w fun e w' => ∃ L' : Nat → V, e = .returned (.slice (some ⟨w.heap.size, 0, none⟩) ll (ll + 1)) ∧ LOk w.heap.size w' w.heap.size ll L L' ∧ Below w.heap.size w w' := by
  unfold maxLen at _hlc
  obtain ⟨i0, hi, hz0, hz1, hz2⟩ := info_parts info_val
  have HI := Lib.hid (And.intro hi (And.intro hz0 (And.intro hz1 hz2)))
  clear hi hz0 hz1 hz2
  have H := Lib.hid h
  have H2 := Lib.hid hv
  have HF := Lib.hid hfs
  clear h hv hfs
  go_enter Tryd.func26, Tryd.ntmps26
  obtain ⟨hi, hz0, hz1, hz2⟩ := HI.out
  go_wp2_with (refine wpList_make_own _ rfl _ _ 23 rfl w.heap.size 27 i0 _ 8 Tryd.underlying23 hi hz0 hz1 _ _ _ (ll + 1) rfl rfl (by push_cast; rfl) (by rw [hz2]; omega) (by unfold maxLen; omega) (Nat.le_refl _) ?_)
  intro w0 hown0 hg0
  have hT0 : TL w L ll 0 w0 := ⟨L, hown0, fun i hi => absurd hi (Nat.not_lt_zero _), (Below.refl _ _).grown hg0 (Nat.le_refl _) (fun k e => by cases e)⟩
  have HT0 := Lib.hid hT0
  clear hown0 hg0 hT0 hi hz0 hz1 hz2
  go_wp2_with fail
  go_loopw [3, 4] (fun t i wr => ∃ k : Nat, k ≤ ll ∧ i = .int .i64 k ∧ t = .slice (some ⟨w.heap.size, 0, none⟩) k (ll + 1) ∧ TL w L ll k wr) (fun _ i _ => ll - (intOf i).toNat)
  case atStart => exact ⟨0, Nat.zero_le _, rfl, rfl, HT0.out⟩
  case round =>
    obtain ⟨k, hk, rfl, rfl, L', hown, hok, hb⟩ := hrel
    have hBlt : w.heap.size < wr.heap.size := (hown.lt _ rfl).2
    obtain ⟨hi, hz0, hz1, hz2⟩ := HI.out
    by_cases hlt : k < ll
    · obtain ⟨⟨b, o, rfl, hat⟩, hin⟩ := H.out k hlt
      have HX := Lib.hid (H2.out k hlt wr (hin.below hb) (HF.out k hlt))
      have hat := hat.below hb
      have HP := Lib.hid (And.intro hown (And.intro hok (And.intro hb hBlt)))
      clear hown hok hb hBlt
      have hin2 := hin
      generalize hLk : L k = v at HX hat hin2
      have HLk := Lib.hid hLk
      clear hLk
      cases v with
      | leaf => exact hin2.elim
      | mk k2 n2 s2 la2 ll2 lc2 L2 fa2 fl2 fc2 fn2 F2 e2 key2 hk2 =>
      obtain ⟨c0, c1, c2, c3, c4, c5, c6, c7⟩ := at8 hat
      clear hat hin hin2
      have HX2 : Hid (Calls Tryd.prog 10 #[.agg #[.int .u8 k2, .int .i64 n2, .string s2, .slice la2 ll2 lc2, .slice fa2 fl2 fc2, .int .u8 e2, .string key2, .bool hk2]] wr _) := HX.out
      clear HX
      go_wp2_with fail
      refine HX2.out.mono ?_
      rintro e w1 ⟨t, rfl, htk, hb1⟩
      have ht8 := htk.inn
      cases t with
      | leaf => exact ht8.elim
      | mk k3 n3 s3 la3 ll3 lc3 L3 fa3 fl3 fc3 fn3 F3 e3 key3 hk3 =>
      have HK := Lib.hid (And.intro htk hb1)
      have hown1 : w1.ownsRow w.heap.size 27 8 (.slice (some ⟨w.heap.size, 0, none⟩) k (ll + 1)) k (flatV k L') := ownsRow_below HP.out.1 hb1
      clear htk hb1 ht8 HX2 c0 c1 c2 c3 c4 c5 c6 c7
      simp only [V.agg, V.cells]
      go_wp2_with (at_builtin; refine wpList_append_fits _ rfl _ _ 23 rfl w.heap.size 27 i0 8 Tryd.underlying23 hi hz1 w.heap.size k (ll + 1) _ rfl (hown1.alloc _) ⟨w1.heap.size, 0, none⟩ 1 1 (V.mk k3 n3 s3 la3 ll3 lc3 L3 fa3 fl3 fc3 fn3 F3 e3 key3 hk3).cells rfl rfl new_cells (v_one _) (by omega) ?_)
      intro w2 hown2 hg2
      have HN := Lib.hid (TL.succ (ll := ll) hown2 HP.out.2.1 HP.out.2.2.1 HP.out.2.2.2 (by rw [HLk.out]; exact HK.out.1) HK.out.2 (grown_trans (World.grownBy_alloc _ _ _) hg2))
      clear hown2 hg2 hown1 hi hz0 hz1 hz2
      go_wp2_with fail
      go_roundw
      case rel => exact ⟨k + 1, by omega, by go_num, rfl, HN.out⟩
      case measure => simp [intOf]; omega
    · obtain rfl : ll = k := by omega
      have HP := Lib.hid (And.intro hok (And.intro hb hBlt))
      clear hok hb hBlt
      go_wp2_with (at_builtin; refine wpList_append_fits _ rfl _ _ 23 rfl w.heap.size 27 i0 8 Tryd.underlying23 hi hz1 w.heap.size ll (ll + 1) _ rfl (hown.alloc _) ⟨wr.heap.size, 0, none⟩ 1 1 spareV.cells rfl rfl new_cells (v_one _) (by omega) ?_)
      intro w2 hown2 hg2
      have HN := Lib.hid (TL.done hown2 HP.out.1 HP.out.2.1 HP.out.2.2 (grown_trans (World.grownBy_alloc _ _ _) hg2))
      clear hown2 hg2 hown hi hz0 hz1 hz2
      go_wp2_with fail
      go_ret
      exact ⟨L', rfl, HN.out.1, HN.out.2⟩

/-- What TwinField's contract says of one field. -/
def TwinFIs (nm : ByteArray) (v : V) : Prop := ∀ w : World, v.In w → v.Fits → nm.size ≤ maxLen → Calls Tryd.prog 51 #[.agg (Value.string nm :: v.cells).toArray] w fun e w' => ∃ t : V, e = .returned (.agg (Value.string nm :: t.cells).toArray) ∧ TOk w.heap.size w' v t ∧ Below w.heap.size w w'

/-- So far: k fields are copied. -/
def TF (w : World) (fn : Nat → ByteArray) (F : Nat → V) (fl : Nat) (k : Nat) (W : World) : Prop := ∃ F' : Nat → V, W.ownsRow w.heap.size 38 9 (.slice (some ⟨w.heap.size, 0, none⟩) k (fl + 1)) k (flatF k fn F') ∧ (∀ i, i < k → TOk (w.heap.size + 1) W (F i) (F' i)) ∧ Below w.heap.size w W

theorem f_one (nm : ByteArray) (v : V) : ∀ u ∈ Value.string nm :: v.cells, u.oneCell' = true := by
  intro u hu
  rcases List.mem_cons.1 hu with rfl | hu
  · rfl
  · exact v_one v u hu

theorem TF.succ {w W W1 W2 : World} {fn : Nat → ByteArray} {F : Nat → V} {fl k : Nat} {t : V} {F' : Nat → V}
    (hown : W2.ownsRow w.heap.size 38 9 (.slice (some ⟨w.heap.size, 0, none⟩) (k + 1) (fl + 1)) (k + 1) (flatF k fn F' ++ (.string (fn k) :: t.cells))) (hk : ∀ i, i < k → TOk (w.heap.size + 1) W (F i) (F' i)) (hb : Below w.heap.size w W) (hW : w.heap.size < W.heap.size)
    (ht : TOk W.heap.size W1 (F k) t) (hb1 : Below W.heap.size W W1) (hg : W1.grownBy W2 (some w.heap.size)) : TF w fn F fl (k + 1) W2 := by
  have hh : ∀ a : Addr, w.heap.size + 1 ≤ a.block → a.block < W1.heap.size → W2.cell? a = W1.cell? a := fun a ha hlt => World.cell?_of_block (hg.block _ hlt (by intro e; have := Option.some.inj e; omega))
  refine ⟨fun i => if i = k then t else F' i, ?_, fun i hi => ?_, (hb.trans (hb1.mono hb.size)).grown hg (Nat.le_trans hb.size hb1.size) (fun j e => by cases e; omega)⟩
  · rw [flatF, if_pos rfl, flatF_ext (fn' := fn) (F' := F') (fun i hi => ⟨rfl, if_neg (by omega)⟩)]
    exact hown
  · by_cases h : i = k
    · subst h
      simp only [if_true]
      exact (ht.mono (by omega)).from hh
    · simp only [if_neg h]
      exact ((hk i (by omega)).below hb1).from hh

theorem TF.done {w W W2 : World} {fn : Nat → ByteArray} {F : Nat → V} {fl : Nat} {F' : Nat → V}
    (hown : W2.ownsRow w.heap.size 38 9 (.slice (some ⟨w.heap.size, 0, none⟩) (fl + 1) (fl + 1)) (fl + 1) (flatF fl fn F' ++ spareF)) (hk : ∀ i, i < fl → TOk (w.heap.size + 1) W (F i) (F' i)) (hb : Below w.heap.size w W) (_hW : w.heap.size < W.heap.size)
    (hg : W.grownBy W2 (some w.heap.size)) : FOk w.heap.size W2 w.heap.size fl fn fn F F' ∧ Below w.heap.size w W2 := by
  have hh : ∀ a : Addr, w.heap.size + 1 ≤ a.block → a.block < W.heap.size → W2.cell? a = W.cell? a := fun a ha hlt => World.cell?_of_block (hg.block _ hlt (by intro e; have := Option.some.inj e; omega))
  have h8 : ∀ i, i < fl → (F' i).cells.length = 8 := fun i hi => twin_cells (hk i hi).tw
  have hl := flatF_length (fn := fn) h8
  have hc := hown.cells (g := w.heap.size) rfl
  refine ⟨⟨Nat.le_refl _, fun i hi j hj => ?_, fun _ _ => rfl, fun i hi => ((hk i hi).from hh).mono (by omega), fun j hj => ?_⟩, hb.grown hg hb.size (fun j e => by cases e; omega)⟩
  · have hj9 : j < 9 := by rw [List.length_cons, h8 i hi] at hj; exact hj
    have hz := flatF_get (fn := fn) h8 i hi j hj9
    have := hc (i * 9 + j) _ (by rw [List.getElem?_append_left (by omega), hz]; exact List.getElem?_eq_getElem hj)
    rw [add_plain, Nat.zero_add] at this
    rw [this]
    exact (List.getElem?_eq_getElem hj).symm
  · have := hc (fl * 9 + j) _ (by rw [List.getElem?_append_right (by omega), hl, Nat.add_sub_cancel_left]; exact List.getElem?_eq_getElem hj)
    rw [add_plain, Nat.zero_add] at this
    rw [this]
    exact (List.getElem?_eq_getElem hj).symm

set_option maxRecDepth 100000 in
set_option maxHeartbeats 2000000 in
theorem twinFields_any (fa : Option Addr) (fl fc : Nat) (fn : Nat → ByteArray) (F : Nat → V) (hv : ∀ i, i < fl → TwinFIs (fn i) (F i)) (w : World) (_hlc : fl ≤ fc ∧ fc ≤ maxLen) (hf : fl * 128 ≤ 140737488351232) (hfs : ∀ i, i < fl → (F i).Fits)
    (h : ∀ i, i < fl → (∃ b o, fa = some ⟨b, o, none⟩ ∧ At w b (o + i * 9) (.string (fn i) :: (F i).cells)) ∧ (fn i).size ≤ maxLen ∧ (F i).In w) :
    Calls Tryd.prog 27 #[.slice fa fl fc] w fun e w' => ∃ F' : Nat → V, e = .returned (.slice (some ⟨w.heap.size, 0, none⟩) fl (fl + 1)) ∧ FOk w.heap.size w' w.heap.size fl fn fn F F' ∧ Below w.heap.size w w' := by
  unfold maxLen at _hlc
  obtain ⟨i0, hi, hz0, hz1, hz2⟩ := info_parts info_fld
  have HI := Lib.hid (And.intro hi (And.intro hz0 (And.intro hz1 hz2)))
  clear hi hz0 hz1 hz2
  have H := Lib.hid h
  have H2 := Lib.hid hv
  have HF := Lib.hid hfs
  clear h hv hfs
  go_enter Tryd.func27, Tryd.ntmps27
  obtain ⟨hi, hz0, hz1, hz2⟩ := HI.out
  go_wp2_with (refine wpList_make_own _ rfl _ _ 24 rfl w.heap.size 38 i0 _ 9 Tryd.underlying24 hi hz0 hz1 _ _ _ (fl + 1) rfl rfl (by push_cast; rfl) (by rw [hz2]; omega) (by unfold maxLen; omega) (Nat.le_refl _) ?_)
  intro w0 hown0 hg0
  have hT0 : TF w fn F fl 0 w0 := ⟨F, hown0, fun i hi => absurd hi (Nat.not_lt_zero _), (Below.refl _ _).grown hg0 (Nat.le_refl _) (fun k e => by cases e)⟩
  have HT0 := Lib.hid hT0
  clear hown0 hg0 hT0 hi hz0 hz1 hz2
  go_wp2_with fail
  go_loopw [3, 4] (fun t i wr => ∃ k : Nat, k ≤ fl ∧ i = .int .i64 k ∧ t = .slice (some ⟨w.heap.size, 0, none⟩) k (fl + 1) ∧ TF w fn F fl k wr) (fun _ i _ => fl - (intOf i).toNat)
  case atStart => exact ⟨0, Nat.zero_le _, rfl, rfl, HT0.out⟩
  case round =>
    obtain ⟨k, hk, rfl, rfl, F', hown, hok, hb⟩ := hrel
    have hBlt : w.heap.size < wr.heap.size := (hown.lt _ rfl).2
    obtain ⟨hi, hz0, hz1, hz2⟩ := HI.out
    by_cases hlt : k < fl
    · obtain ⟨⟨b, o, rfl, hat⟩, hsz, hin⟩ := H.out k hlt
      have HX := Lib.hid (H2.out k hlt wr (hin.below hb) (HF.out k hlt) hsz)
      have hat := hat.below hb
      have HP := Lib.hid (And.intro hown (And.intro hok (And.intro hb hBlt)))
      clear hown hok hb hBlt hsz
      have hin2 := hin
      generalize hLk : F k = v at HX hat hin2
      generalize hnk : fn k = nm at HX hat
      have HLk := Lib.hid (And.intro hLk hnk)
      clear hLk hnk
      cases v with
      | leaf => exact hin2.elim
      | mk k2 n2 s2 la2 ll2 lc2 L2 fa2 fl2 fc2 fn2 F2 e2 key2 hk2 =>
      obtain ⟨c0, c1, c2, c3, c4, c5, c6, c7, c8⟩ := at9 hat
      clear hat hin hin2
      have HX2 : Hid (Calls Tryd.prog 51 #[.agg #[.string nm, .int .u8 k2, .int .i64 n2, .string s2, .slice la2 ll2 lc2, .slice fa2 fl2 fc2, .int .u8 e2, .string key2, .bool hk2]] wr _) := HX.out
      clear HX
      go_wp2_with fail
      refine HX2.out.mono ?_
      rintro e w1 ⟨t, rfl, htk, hb1⟩
      have ht8 := htk.inn
      cases t with
      | leaf => exact ht8.elim
      | mk k3 n3 s3 la3 ll3 lc3 L3 fa3 fl3 fc3 fn3 F3 e3 key3 hk3 =>
      have HK := Lib.hid (And.intro htk hb1)
      have hown1 : w1.ownsRow w.heap.size 38 9 (.slice (some ⟨w.heap.size, 0, none⟩) k (fl + 1)) k (flatF k fn F') := ownsRow_below HP.out.1 hb1
      clear htk hb1 ht8 HX2 c0 c1 c2 c3 c4 c5 c6 c7 c8
      simp only [V.cells]
      go_wp2_with (at_builtin; refine wpList_append_fits _ rfl _ _ 24 rfl w.heap.size 38 i0 9 Tryd.underlying24 hi hz1 w.heap.size k (fl + 1) _ rfl (hown1.alloc _) ⟨w1.heap.size, 0, none⟩ 1 1 (Value.string nm :: (V.mk k3 n3 s3 la3 ll3 lc3 L3 fa3 fl3 fc3 fn3 F3 e3 key3 hk3).cells) rfl rfl new_cells (f_one _ _) (by omega) ?_)
      intro w2 hown2 hg2
      have HN := Lib.hid (TF.succ (fn := fn) (F := F) (k := k) (fl := fl) (t := V.mk k3 n3 s3 la3 ll3 lc3 L3 fa3 fl3 fc3 fn3 F3 e3 key3 hk3) (by rw [HLk.out.2]; exact hown2) HP.out.2.1 HP.out.2.2.1 HP.out.2.2.2 (by rw [HLk.out.1]; exact HK.out.1) HK.out.2 (grown_trans (World.grownBy_alloc _ _ _) hg2))
      clear hown2 hg2 hown1 hi hz0 hz1 hz2
      go_wp2_with fail
      go_roundw
      case rel => exact ⟨k + 1, by omega, by go_num, rfl, HN.out⟩
      case measure => simp [intOf]; omega
    · obtain rfl : fl = k := by omega
      have HP := Lib.hid (And.intro hok (And.intro hb hBlt))
      clear hok hb hBlt
      go_wp2_with (at_builtin; refine wpList_append_fits _ rfl _ _ 24 rfl w.heap.size 38 i0 9 Tryd.underlying24 hi hz1 w.heap.size fl (fl + 1) _ rfl (hown.alloc _) ⟨wr.heap.size, 0, none⟩ 1 1 spareF rfl rfl new_cells (f_one _ _) (by omega) ?_)
      intro w2 hown2 hg2
      have HN := Lib.hid (TF.done hown2 HP.out.1 HP.out.2.1 HP.out.2.2 (grown_trans (World.grownBy_alloc _ _ _) hg2))
      clear hown2 hg2 hown hi hz0 hz1 hz2
      go_wp2_with fail
      go_ret
      exact ⟨F', rfl, HN.out.1, HN.out.2⟩
end Go.Proofs.YtglhbggihdfieaaDoor
