/-
  Walks: TwinValue, TwinValues, TwinField, TwinFields copy values, each list with a mark behind it; LeftValue and the like find the copies and the marks as they were.
  Conditions: the value lies in memory; each list takes no more than the reach; what is held against its copy has no more than 2^40 parts.
  Walks: TwinValue, TwinValues: the copies' lists are rows of their own, no two in one block.
  Conditions: the value lies in memory ('V.In'), its lists fit ('V.Fits').
-/
import Derived.Test.YtmhemajcnfcdmaaGreatDoorOMb
import Derived.Test.YtmhemajcnfcdmaaGreatDoorBkH
import Derived.OwnWalk
import Derived.StillTailTactics
import Derived.Test.YtmhemajcnfcdmaaGreatDoorOMe
namespace Go.Proofs.YtmhemajcnfcdmaaGreatDoor.Tw
set_option linter.unusedVariables false
set_option linter.unusedSimpArgs false
open Go.RowKit Go.Deep Go.WideShapes Go.Proofs.YtmhemajcnfcdmaaGreatDoor.Bk
theorem info_val : (Tryz.prog.info? 30).map (fun i => (i.zero, i.size, i.bytes)) = some (some (vz 0 0 ⟨#[]⟩).agg, 8, 112) := by kernel_rfl
theorem size_pos {w : World} : ∀ {v : V}, v.In w → 1 ≤ v.size := by
  intro v h
  cases v with
  | leaf => exact h.elim
  | mk => simp only [V.size]; omega
theorem le_sumTo_all {n : Nat} {f : Nat → Nat} (h : ∀ i, i < n → 1 ≤ f i) : n ≤ sumTo n f := by
  induction n with
  | zero => exact Nat.zero_le _
  | succ n ih =>
    have := ih (fun i hi => h i (by omega))
    have := h n (by omega)
    rw [sumTo]; omega
theorem at80' {w : World} {b o : Nat} {k n : Int} {s : ByteArray} {la : Option Addr} {ll lc : Nat} {L : Nat → V} {fa : Option Addr} {fl fc : Nat} {fn : Nat → ByteArray} {F : Nat → V} {e : Int} {key : ByteArray} {hk : Bool}
    (h : At w b o (V.mk k n s la ll lc L fa fl fc fn F e key hk).cells) :
    w.cell? ⟨b, o, none⟩ = some (.int .u8 k) ∧ w.cell? ⟨b, o + 1, none⟩ = some (.int .i64 n) ∧ w.cell? ⟨b, o + 2, none⟩ = some (.string s) ∧ w.cell? ⟨b, o + 3, none⟩ = some (.slice la ll lc) ∧ w.cell? ⟨b, o + 4, none⟩ = some (.slice fa fl fc) ∧
      w.cell? ⟨b, o + 5, none⟩ = some (.int .u8 e) ∧ w.cell? ⟨b, o + 6, none⟩ = some (.string key) ∧ w.cell? ⟨b, o + 7, none⟩ = some (.bool hk) := at8 h
theorem drew_low (w : World) : Below w.heap.size w w.drew := (Below.refl _ _).drew
theorem lens_le {w : World} {k n : Int} {s : ByteArray} {la : Option Addr} {ll lc : Nat} {L : Nat → V} {fa : Option Addr} {fl fc : Nat} {fn : Nat → ByteArray} {F : Nat → V} {e : Int} {key : ByteArray} {hk : Bool}
    (h : (V.mk k n s la ll lc L fa fl fc fn F e key hk).In w) : ll + fl + 1 ≤ (V.mk k n s la ll lc L fa fl fc fn F e key hk).size := by
  obtain ⟨-, -, -, -, -, -, -, hL, hF⟩ := h
  have h1 := le_sumTo_all (n := ll) (f := fun i => (L i).size) (fun i hi => size_pos (hL i hi).2)
  have h2 := le_sumTo_all (n := fl) (f := fun i => (F i).size) (fun i hi => size_pos (hF i hi).2.2)
  simp only [V.size]
  omega
theorem le_sumTo {n i : Nat} {f : Nat → Nat} (hi : i < n) : f i ≤ sumTo n f := by
  induction n with
  | zero => omega
  | succ n ih =>
    rw [sumTo]
    rcases Nat.lt_succ_iff_lt_or_eq.1 hi with h | rfl
    · have := ih h; omega
    · omega
theorem at80 {w : World} {b : Nat} {k n : Int} {s : ByteArray} {la : Option Addr} {ll lc : Nat} {L : Nat → V} {fa : Option Addr} {fl fc : Nat} {fn : Nat → ByteArray} {F : Nat → V} {e : Int} {key : ByteArray} {hk : Bool}
    (h : At w b 0 (V.mk k n s la ll lc L fa fl fc fn F e key hk).cells) :
    w.cell? ⟨b, 0, none⟩ = some (.int .u8 k) ∧ w.cell? ⟨b, 1, none⟩ = some (.int .i64 n) ∧ w.cell? ⟨b, 2, none⟩ = some (.string s) ∧ w.cell? ⟨b, 3, none⟩ = some (.slice la ll lc) ∧ w.cell? ⟨b, 4, none⟩ = some (.slice fa fl fc) ∧
      w.cell? ⟨b, 5, none⟩ = some (.int .u8 e) ∧ w.cell? ⟨b, 6, none⟩ = some (.string key) ∧ w.cell? ⟨b, 7, none⟩ = some (.bool hk) := by
  have := at8 h
  simpa using this
theorem info_fld : (Tryz.prog.info? 78).map (fun i => (i.zero, i.size, i.bytes)) = some (some (.agg (.string ⟨#[]⟩ :: (vz 0 0 ⟨#[]⟩).cells).toArray), 9, 128) := by kernel_rfl
def TwinIs (v : V) : Prop := ∀ w : World, v.In w → v.Fits → Calls Tryz.prog 15 #[v.agg] w fun e w' => ∃ t : V, e = .returned t.agg ∧ TOk w.heap.size w' v t ∧ Below w.heap.size w w'
def TL (w : World) (L : Nat → V) (ll : Nat) (k : Nat) (W : World) : Prop := ∃ L' : Nat → V, W.ownsRow w.heap.size 30 8 (.slice (some ⟨w.heap.size, 0, none⟩) k (ll + 1)) k (flatV k L') ∧ (∀ i, i < k → TOk (w.heap.size + 1) W (L i) (L' i)) ∧ Below w.heap.size w W
theorem v_one : ∀ v : V, ∀ u ∈ v.cells, u.oneCell' = true := by
  intro v u hu
  cases v with
  | leaf => simp [V.cells] at hu
  | mk k n s la ll lc L fa fl fc fn F e key hk =>
    simp [V.cells] at hu
    rcases hu with rfl | rfl | rfl | rfl | rfl | rfl | rfl | rfl <;> rfl
theorem TL.succ {w W W1 W2 : World} {L : Nat → V} {ll k : Nat} {t : V} {L' : Nat → V}
    (hown : W2.ownsRow w.heap.size 30 8 (.slice (some ⟨w.heap.size, 0, none⟩) (k + 1) (ll + 1)) (k + 1) (flatV k L' ++ t.cells)) (hk : ∀ i, i < k → TOk (w.heap.size + 1) W (L i) (L' i)) (hb : Below w.heap.size w W) (hW : w.heap.size < W.heap.size)
    (ht : TOk W.heap.size W1 (L k) t) (hb1 : Below W.heap.size W W1) (hg : W1.grownBy W2 (some w.heap.size)) : TL w L ll (k + 1) W2 := by
  have hh : ∀ a : Addr, w.heap.size + 1 ≤ a.block → a.block < W1.heap.size → W2.cell? a = W1.cell? a := fun a ha hlt => World.cell?_of_block (hg.block _ hlt (by intro e; have := Option.some.inj e; omega))
  refine ⟨fun i => if i = k then t else L' i, ?_, fun i hi => ?_, (hb.trans (hb1.mono hb.size)).grown hg (Nat.le_trans hb.size hb1.size) (fun j e => by cases e; omega)⟩
  · rw [flatV, if_pos rfl, flatV_ext (L' := L') (fun i hi => if_neg (by omega))]
    exact hown
  · by_cases h : i = k
    · subst h
      simp only [if_true]
      exact (ht.mono (by omega)).from hh
    · simp only [if_neg h]
      exact ((hk i (by omega)).below hb1).from hh
theorem TL.done {w W W2 : World} {L : Nat → V} {ll : Nat} {L' : Nat → V}
    (hown : W2.ownsRow w.heap.size 30 8 (.slice (some ⟨w.heap.size, 0, none⟩) (ll + 1) (ll + 1)) (ll + 1) (flatV ll L' ++ spareV.cells)) (hk : ∀ i, i < ll → TOk (w.heap.size + 1) W (L i) (L' i)) (hb : Below w.heap.size w W) (_hW : w.heap.size < W.heap.size)
    (hg : W.grownBy W2 (some w.heap.size)) : LOk w.heap.size W2 w.heap.size ll L L' ∧ Below w.heap.size w W2 := by
  have hh : ∀ a : Addr, w.heap.size + 1 ≤ a.block → a.block < W.heap.size → W2.cell? a = W.cell? a := fun a ha hlt => World.cell?_of_block (hg.block _ hlt (by intro e; have := Option.some.inj e; omega))
  have h8 : ∀ i, i < ll → (L' i).cells.length = 8 := fun i hi => twin_cells (hk i hi).tw
  have hl := flatV_length h8
  have hc := hown.cells (g := w.heap.size) rfl
  refine ⟨⟨Nat.le_refl _, fun i hi j hj => ?_, fun i hi => ((hk i hi).from hh).mono (by omega), fun j hj => ?_⟩, hb.grown hg hb.size (fun j e => by cases e; omega)⟩
  · have hj8 : j < 8 := by rw [h8 i hi] at hj; exact hj
    have hz := flatV_get h8 i hi j hj8
    have := hc (i * 8 + j) _ (by rw [List.getElem?_append_left (by omega), hz]; exact List.getElem?_eq_getElem hj)
    rw [add_plain, Nat.zero_add] at this
    rw [this]
    exact (List.getElem?_eq_getElem hj).symm
  · have := hc (ll * 8 + j) _ (by rw [List.getElem?_append_right (by omega), hl, Nat.add_sub_cancel_left]; exact List.getElem?_eq_getElem hj)
    rw [add_plain, Nat.zero_add] at this
    rw [this]
    exact (List.getElem?_eq_getElem hj).symm
set_option maxRecDepth 100000 in
set_option maxHeartbeats 2000000 in
theorem twinValues_any (la : Option Addr) (ll lc : Nat) (L : Nat → V) (hv : ∀ i, i < ll → TwinIs (L i)) (w : World) (_hlc : ll ≤ lc ∧ lc ≤ maxLen) (hf : ll * 112 ≤ 140737488351232) (hfs : ∀ i, i < ll → (L i).Fits)
    (h : ∀ i, i < ll → (∃ b o, la = some ⟨b, o, none⟩ ∧ At w b (o + i * 8) (L i).cells) ∧ (L i).In w) :
    Calls Tryz.prog 6 #[.slice la ll lc] w fun e w' => ∃ L' : Nat → V, e = .returned (.slice (some ⟨w.heap.size, 0, none⟩) ll (ll + 1)) ∧ LOk w.heap.size w' w.heap.size ll L L' ∧ Below w.heap.size w w' := by
  unfold maxLen at _hlc
  obtain ⟨i0, hi, hz0, hz1, hz2⟩ := info_parts info_val
  have HI := Lib.hid (And.intro hi (And.intro hz0 (And.intro hz1 hz2)))
  clear hi hz0 hz1 hz2
  have H := Lib.hid h
  have H2 := Lib.hid hv
  have HF := Lib.hid hfs
  clear h hv hfs
  go_enter Tryz.func6, Tryz.ntmps6
  obtain ⟨hi, hz0, hz1, hz2⟩ := HI.out
  go_wp2_with (refine wpList_make_own _ rfl _ _ 22 rfl w.heap.size 30 i0 _ 8 Tryz.underlying22 hi hz0 hz1 _ _ _ (ll + 1) rfl rfl (by push_cast; rfl) (by rw [hz2]; omega) (by unfold maxLen; omega) (Nat.le_refl _) ?_)
  intro w0 hown0 hg0
  have hT0 : TL w L ll 0 w0 := ⟨L, hown0, fun i hi => absurd hi (Nat.not_lt_zero _), (Below.refl _ _).grown hg0 (Nat.le_refl _) (fun k e => by cases e)⟩
  have HT0 := Lib.hid hT0
  clear hown0 hg0 hT0 hi hz0 hz1 hz2
  go_wp2_with fail
  go_loopw [3, 4] (fun t i wr => ∃ k : Nat, k ≤ ll ∧ i = .int .i64 k ∧ t = .slice (some ⟨w.heap.size, 0, none⟩) k (ll + 1) ∧ TL w L ll k wr) (fun _ i _ => ll - (intOf i).toNat)
  case atStart => exact ⟨0, Nat.zero_le _, rfl, rfl, HT0.out⟩
  case round =>
    obtain ⟨k, hk, rfl, rfl, L', hown, hok, hb⟩ := hrel
    have hBlt : w.heap.size < wr.heap.size := (hown.lt _ rfl).2
    obtain ⟨hi, hz0, hz1, hz2⟩ := HI.out
    by_cases hlt : k < ll
    · obtain ⟨⟨b, o, rfl, hat⟩, hin⟩ := H.out k hlt
      have HX := Lib.hid (H2.out k hlt wr (hin.below hb) (HF.out k hlt))
      have hat := hat.below hb
      have HP := Lib.hid (And.intro hown (And.intro hok (And.intro hb hBlt)))
      clear hown hok hb hBlt
      have hin2 := hin
      generalize hLk : L k = v at HX hat hin2
      have HLk := Lib.hid hLk
      clear hLk
      cases v with
      | leaf => exact hin2.elim
      | mk k2 n2 s2 la2 ll2 lc2 L2 fa2 fl2 fc2 fn2 F2 e2 key2 hk2 =>
      obtain ⟨c0, c1, c2, c3, c4, c5, c6, c7⟩ := at8 hat
      clear hat hin hin2
      have HX2 : Hid (Calls Tryz.prog 15 #[.agg #[.int .u8 k2, .int .i64 n2, .string s2, .slice la2 ll2 lc2, .slice fa2 fl2 fc2, .int .u8 e2, .string key2, .bool hk2]] wr _) := HX.out
      clear HX
      go_wp2_with fail
      refine HX2.out.mono ?_
      rintro e w1 ⟨t, rfl, htk, hb1⟩
      have ht8 := htk.inn
      cases t with
      | leaf => exact ht8.elim
      | mk k3 n3 s3 la3 ll3 lc3 L3 fa3 fl3 fc3 fn3 F3 e3 key3 hk3 =>
      have HK := Lib.hid (And.intro htk hb1)
      have hown1 : w1.ownsRow w.heap.size 30 8 (.slice (some ⟨w.heap.size, 0, none⟩) k (ll + 1)) k (flatV k L') := ownsRow_below HP.out.1 hb1
      clear htk hb1 ht8 HX2 c0 c1 c2 c3 c4 c5 c6 c7
      simp only [V.agg, V.cells]
      go_wp2_with (at_builtin; refine wpList_append_fits _ rfl _ _ 22 rfl w.heap.size 30 i0 8 Tryz.underlying22 hi hz1 w.heap.size k (ll + 1) _ rfl (hown1.alloc _) ⟨w1.heap.size, 0, none⟩ 1 1 (V.mk k3 n3 s3 la3 ll3 lc3 L3 fa3 fl3 fc3 fn3 F3 e3 key3 hk3).cells rfl rfl new_cells (v_one _) (by omega) ?_)
      intro w2 hown2 hg2
      have HN := Lib.hid (TL.succ (ll := ll) hown2 HP.out.2.1 HP.out.2.2.1 HP.out.2.2.2 (by rw [HLk.out]; exact HK.out.1) HK.out.2 (grown_trans (World.grownBy_alloc _ _ _) hg2))
      clear hown2 hg2 hown1 hi hz0 hz1 hz2
      go_wp2_with fail
      go_roundw
      case rel => exact ⟨k + 1, by omega, by go_num, rfl, HN.out⟩
      case measure => simp [intOf]; omega
    · obtain rfl : ll = k := by omega
      have HP := Lib.hid (And.intro hok (And.intro hb hBlt))
      clear hok hb hBlt
      go_wp2_with (at_builtin; refine wpList_append_fits _ rfl _ _ 22 rfl w.heap.size 30 i0 8 Tryz.underlying22 hi hz1 w.heap.size ll (ll + 1) _ rfl (hown.alloc _) ⟨wr.heap.size, 0, none⟩ 1 1 spareV.cells rfl rfl new_cells (v_one _) (by omega) ?_)
      intro w2 hown2 hg2
      have HN := Lib.hid (TL.done hown2 HP.out.1 HP.out.2.1 HP.out.2.2 (grown_trans (World.grownBy_alloc _ _ _) hg2))
      clear hown2 hg2 hown hi hz0 hz1 hz2
      go_wp2_with fail
      go_ret
      exact ⟨L', rfl, HN.out.1, HN.out.2⟩
def TwinFIs (nm : ByteArray) (v : V) : Prop := ∀ w : World, v.In w → v.Fits → nm.size ≤ maxLen → Calls Tryz.prog 124 #[.agg (Value.string nm :: v.cells).toArray] w fun e w' => ∃ t : V, e = .returned (.agg (Value.string nm :: t.cells).toArray) ∧ TOk w.heap.size w' v t ∧ Below w.heap.size w w'
def TF (w : World) (fn : Nat → ByteArray) (F : Nat → V) (fl : Nat) (k : Nat) (W : World) : Prop := ∃ F' : Nat → V, W.ownsRow w.heap.size 78 9 (.slice (some ⟨w.heap.size, 0, none⟩) k (fl + 1)) k (flatF k fn F') ∧ (∀ i, i < k → TOk (w.heap.size + 1) W (F i) (F' i)) ∧ Below w.heap.size w W
theorem f_one (nm : ByteArray) (v : V) : ∀ u ∈ Value.string nm :: v.cells, u.oneCell' = true := by
  intro u hu
  rcases List.mem_cons.1 hu with rfl | hu
  · rfl
  · exact v_one v u hu
theorem TF.succ {w W W1 W2 : World} {fn : Nat → ByteArray} {F : Nat → V} {fl k : Nat} {t : V} {F' : Nat → V}
    (hown : W2.ownsRow w.heap.size 78 9 (.slice (some ⟨w.heap.size, 0, none⟩) (k + 1) (fl + 1)) (k + 1) (flatF k fn F' ++ (.string (fn k) :: t.cells))) (hk : ∀ i, i < k → TOk (w.heap.size + 1) W (F i) (F' i)) (hb : Below w.heap.size w W) (hW : w.heap.size < W.heap.size)
    (ht : TOk W.heap.size W1 (F k) t) (hb1 : Below W.heap.size W W1) (hg : W1.grownBy W2 (some w.heap.size)) : TF w fn F fl (k + 1) W2 := by
  have hh : ∀ a : Addr, w.heap.size + 1 ≤ a.block → a.block < W1.heap.size → W2.cell? a = W1.cell? a := fun a ha hlt => World.cell?_of_block (hg.block _ hlt (by intro e; have := Option.some.inj e; omega))
  refine ⟨fun i => if i = k then t else F' i, ?_, fun i hi => ?_, (hb.trans (hb1.mono hb.size)).grown hg (Nat.le_trans hb.size hb1.size) (fun j e => by cases e; omega)⟩
  · rw [flatF, if_pos rfl, flatF_ext (fn' := fn) (F' := F') (fun i hi => ⟨rfl, if_neg (by omega)⟩)]
    exact hown
  · by_cases h : i = k
    · subst h
      simp only [if_true]
      exact (ht.mono (by omega)).from hh
    · simp only [if_neg h]
      exact ((hk i (by omega)).below hb1).from hh
theorem TF.done {w W W2 : World} {fn : Nat → ByteArray} {F : Nat → V} {fl : Nat} {F' : Nat → V}
    (hown : W2.ownsRow w.heap.size 78 9 (.slice (some ⟨w.heap.size, 0, none⟩) (fl + 1) (fl + 1)) (fl + 1) (flatF fl fn F' ++ spareF)) (hk : ∀ i, i < fl → TOk (w.heap.size + 1) W (F i) (F' i)) (hb : Below w.heap.size w W) (_hW : w.heap.size < W.heap.size)
    (hg : W.grownBy W2 (some w.heap.size)) : FOk w.heap.size W2 w.heap.size fl fn fn F F' ∧ Below w.heap.size w W2 := by
  have hh : ∀ a : Addr, w.heap.size + 1 ≤ a.block → a.block < W.heap.size → W2.cell? a = W.cell? a := fun a ha hlt => World.cell?_of_block (hg.block _ hlt (by intro e; have := Option.some.inj e; omega))
  have h8 : ∀ i, i < fl → (F' i).cells.length = 8 := fun i hi => twin_cells (hk i hi).tw
  have hl := flatF_length (fn := fn) h8
  have hc := hown.cells (g := w.heap.size) rfl
  refine ⟨⟨Nat.le_refl _, fun i hi j hj => ?_, fun _ _ => rfl, fun i hi => ((hk i hi).from hh).mono (by omega), fun j hj => ?_⟩, hb.grown hg hb.size (fun j e => by cases e; omega)⟩
  · have hj9 : j < 9 := by rw [List.length_cons, h8 i hi] at hj; exact hj
    have hz := flatF_get (fn := fn) h8 i hi j hj9
    have := hc (i * 9 + j) _ (by rw [List.getElem?_append_left (by omega), hz]; exact List.getElem?_eq_getElem hj)
    rw [add_plain, Nat.zero_add] at this
    rw [this]
    exact (List.getElem?_eq_getElem hj).symm
  · have := hc (fl * 9 + j) _ (by rw [List.getElem?_append_right (by omega), hl, Nat.add_sub_cancel_left]; exact List.getElem?_eq_getElem hj)
    rw [add_plain, Nat.zero_add] at this
    rw [this]
    exact (List.getElem?_eq_getElem hj).symm
set_option maxRecDepth 100000 in
set_option maxHeartbeats 2000000 in
theorem twinFields_any (fa : Option Addr) (fl fc : Nat) (fn : Nat → ByteArray) (F : Nat → V) (hv : ∀ i, i < fl → TwinFIs (fn i) (F i)) (w : World) (_hlc : fl ≤ fc ∧ fc ≤ maxLen) (hf : fl * 128 ≤ 140737488351232) (hfs : ∀ i, i < fl → (F i).Fits)
    (h : ∀ i, i < fl → (∃ b o, fa = some ⟨b, o, none⟩ ∧ At w b (o + i * 9) (.string (fn i) :: (F i).cells)) ∧ (fn i).size ≤ maxLen ∧ (F i).In w) :
    Calls Tryz.prog 77 #[.slice fa fl fc] w fun e w' => ∃ F' : Nat → V, e = .returned (.slice (some ⟨w.heap.size, 0, none⟩) fl (fl + 1)) ∧ FOk w.heap.size w' w.heap.size fl fn fn F F' ∧ Below w.heap.size w w' := by
  unfold maxLen at _hlc
  obtain ⟨i0, hi, hz0, hz1, hz2⟩ := info_parts info_fld
  have HI := Lib.hid (And.intro hi (And.intro hz0 (And.intro hz1 hz2)))
  clear hi hz0 hz1 hz2
  have H := Lib.hid h
  have H2 := Lib.hid hv
  have HF := Lib.hid hfs
  clear h hv hfs
  go_enter Tryz.func77, Tryz.ntmps77
  obtain ⟨hi, hz0, hz1, hz2⟩ := HI.out
  go_wp2_with (refine wpList_make_own _ rfl _ _ 27 rfl w.heap.size 78 i0 _ 9 Tryz.underlying27 hi hz0 hz1 _ _ _ (fl + 1) rfl rfl (by push_cast; rfl) (by rw [hz2]; omega) (by unfold maxLen; omega) (Nat.le_refl _) ?_)
  intro w0 hown0 hg0
  have hT0 : TF w fn F fl 0 w0 := ⟨F, hown0, fun i hi => absurd hi (Nat.not_lt_zero _), (Below.refl _ _).grown hg0 (Nat.le_refl _) (fun k e => by cases e)⟩
  have HT0 := Lib.hid hT0
  clear hown0 hg0 hT0 hi hz0 hz1 hz2
  go_wp2_with fail
  go_loopw [3, 4] (fun t i wr => ∃ k : Nat, k ≤ fl ∧ i = .int .i64 k ∧ t = .slice (some ⟨w.heap.size, 0, none⟩) k (fl + 1) ∧ TF w fn F fl k wr) (fun _ i _ => fl - (intOf i).toNat)
  case atStart => exact ⟨0, Nat.zero_le _, rfl, rfl, HT0.out⟩
  case round =>
    obtain ⟨k, hk, rfl, rfl, F', hown, hok, hb⟩ := hrel
    have hBlt : w.heap.size < wr.heap.size := (hown.lt _ rfl).2
    obtain ⟨hi, hz0, hz1, hz2⟩ := HI.out
    by_cases hlt : k < fl
    · obtain ⟨⟨b, o, rfl, hat⟩, hsz, hin⟩ := H.out k hlt
      have HX := Lib.hid (H2.out k hlt wr (hin.below hb) (HF.out k hlt) hsz)
      have hat := hat.below hb
      have HP := Lib.hid (And.intro hown (And.intro hok (And.intro hb hBlt)))
      clear hown hok hb hBlt hsz
      have hin2 := hin
      generalize hLk : F k = v at HX hat hin2
      generalize hnk : fn k = nm at HX hat
      have HLk := Lib.hid (And.intro hLk hnk)
      clear hLk hnk
      cases v with
      | leaf => exact hin2.elim
      | mk k2 n2 s2 la2 ll2 lc2 L2 fa2 fl2 fc2 fn2 F2 e2 key2 hk2 =>
      obtain ⟨c0, c1, c2, c3, c4, c5, c6, c7, c8⟩ := at9 hat
      clear hat hin hin2
      have HX2 : Hid (Calls Tryz.prog 124 #[.agg #[.string nm, .int .u8 k2, .int .i64 n2, .string s2, .slice la2 ll2 lc2, .slice fa2 fl2 fc2, .int .u8 e2, .string key2, .bool hk2]] wr _) := HX.out
      clear HX
      go_wp2_with fail
      refine HX2.out.mono ?_
      rintro e w1 ⟨t, rfl, htk, hb1⟩
      have ht8 := htk.inn
      cases t with
      | leaf => exact ht8.elim
      | mk k3 n3 s3 la3 ll3 lc3 L3 fa3 fl3 fc3 fn3 F3 e3 key3 hk3 =>
      have HK := Lib.hid (And.intro htk hb1)
      have hown1 : w1.ownsRow w.heap.size 78 9 (.slice (some ⟨w.heap.size, 0, none⟩) k (fl + 1)) k (flatF k fn F') := ownsRow_below HP.out.1 hb1
      clear htk hb1 ht8 HX2 c0 c1 c2 c3 c4 c5 c6 c7 c8
      simp only [V.cells]
      go_wp2_with (at_builtin; refine wpList_append_fits _ rfl _ _ 27 rfl w.heap.size 78 i0 9 Tryz.underlying27 hi hz1 w.heap.size k (fl + 1) _ rfl (hown1.alloc _) ⟨w1.heap.size, 0, none⟩ 1 1 (Value.string nm :: (V.mk k3 n3 s3 la3 ll3 lc3 L3 fa3 fl3 fc3 fn3 F3 e3 key3 hk3).cells) rfl rfl new_cells (f_one _ _) (by omega) ?_)
      intro w2 hown2 hg2
      have HN := Lib.hid (TF.succ (fn := fn) (F := F) (k := k) (fl := fl) (t := V.mk k3 n3 s3 la3 ll3 lc3 L3 fa3 fl3 fc3 fn3 F3 e3 key3 hk3) (by rw [HLk.out.2]; exact hown2) HP.out.2.1 HP.out.2.2.1 HP.out.2.2.2 (by rw [HLk.out.1]; exact HK.out.1) HK.out.2 (grown_trans (World.grownBy_alloc _ _ _) hg2))
      clear hown2 hg2 hown1 hi hz0 hz1 hz2
      go_wp2_with fail
      go_roundw
      case rel => exact ⟨k + 1, by omega, by go_num, rfl, HN.out⟩
      case measure => simp [intOf]; omega
    · obtain rfl : fl = k := by omega
      have HP := Lib.hid (And.intro hok (And.intro hb hBlt))
      clear hok hb hBlt
      go_wp2_with (at_builtin; refine wpList_append_fits _ rfl _ _ 27 rfl w.heap.size 78 i0 9 Tryz.underlying27 hi hz1 w.heap.size fl (fl + 1) _ rfl (hown.alloc _) ⟨wr.heap.size, 0, none⟩ 1 1 spareF rfl rfl new_cells (f_one _ _) (by omega) ?_)
      intro w2 hown2 hg2
      have HN := Lib.hid (TF.done hown2 HP.out.1 HP.out.2.1 HP.out.2.2 (grown_trans (World.grownBy_alloc _ _ _) hg2))
      clear hown2 hg2 hown hi hz0 hz1 hz2
      go_wp2_with fail
      go_ret
      exact ⟨F', rfl, HN.out.1, HN.out.2⟩
theorem size_alloc'' (w : World) (O : Obj) : (w.alloc O).heap.size = w.heap.size + 1 := by simp
structure BoxR (w : World) (cs : List Value) (n : Nat) (W : World) : Prop where
  low : Below w.heap.size w W
  box : At W w.heap.size 0 cs
  res : ∀ i, i < n → (∃ v, W.cell? ⟨w.heap.size + 1, i, none⟩ = some v) ∧ W.frozen? ⟨w.heap.size + 1, i, none⟩ = false
  big : w.heap.size + 2 ≤ W.heap.size
theorem BoxR.below {w W W' : World} {cs : List Value} {n : Nat} (h : BoxR w cs n W) (hb : Below W.heap.size W W') : BoxR w cs n W' := by
  refine ⟨h.low.trans (hb.mono h.low.size), h.box.below hb, fun i hi => ?_, Nat.le_trans h.big hb.size⟩
  obtain ⟨⟨v, h1⟩, h2⟩ := h.res i hi
  exact ⟨⟨v, by rw [hb.cell (World.block_lt_of_cell? _ _ h1), h1]⟩, by rw [hb.frozen (World.block_lt_of_cell? _ _ h1), h2]⟩
theorem BoxR.set {w W : World} {cs : List Value} {n : Nat} (h : BoxR w cs n W) (i : Nat) (u : Value) : BoxR w cs n (W.setCell ⟨w.heap.size + 1, i, none⟩ u) := by
  refine ⟨h.low.setCell (p := ⟨w.heap.size + 1, i, none⟩) (by show w.heap.size ≤ w.heap.size + 1; omega) u, fun j hj => ?_, fun j hj => ?_, by simpa using h.big⟩
  · rw [World.cell?_of_block (w := W) (by simp [World.setCell, Array.getElem?_modify]), h.box j hj]
  · obtain ⟨⟨v, h1⟩, h2⟩ := h.res j hj
    refine ⟨?_, ?_⟩
    · by_cases hij : i = j
      · subst hij
        exact ⟨u, World.cell?_setCell_same _ _ _ h1⟩
      · exact ⟨v, by rw [World.cell?_setCell_other _ _ _ _ (fun e => hij (congrArg (fun a : Addr => a.off) e)), h1]⟩
    · rw [World.frozen?_setCell, h2]
theorem set_far (w W : World) (i : Nat) (u : Value) : ∀ a : Addr, w.heap.size + 2 ≤ a.block → a.block < W.heap.size → (W.setCell ⟨w.heap.size + 1, i, none⟩ u).cell? a = W.cell? a :=
  fun a ha _ => World.cell?_of_block (by simp [World.setCell, Array.getElem?_modify]; intro e; omega)
theorem TOk.set {w W : World} {v t : V} (h : TOk (w.heap.size + 2) W v t) (i : Nat) (u : Value) : TOk (w.heap.size + 2) (W.setCell ⟨w.heap.size + 1, i, none⟩ u) v t := h.from (set_far w W i u)
theorem LOk.set {w W : World} {g ll : Nat} {L L' : Nat → V} (h : LOk (w.heap.size + 2) W g ll L L') (i : Nat) (u : Value) : LOk (w.heap.size + 2) (W.setCell ⟨w.heap.size + 1, i, none⟩ u) g ll L L' := h.from (set_far w W i u)
theorem FOk.set {w W : World} {g fl : Nat} {fn fn' : Nat → ByteArray} {F F' : Nat → V} (h : FOk (w.heap.size + 2) W g fl fn fn' F F') (i : Nat) (u : Value) : FOk (w.heap.size + 2) (W.setCell ⟨w.heap.size + 1, i, none⟩ u) g fl fn fn' F F' := h.from (set_far w W i u)
theorem _root_.Go.Proofs.YtmhemajcnfcdmaaGreatDoor.LOk.mono {base base' : Nat} {W : World} {g ll : Nat} {L L' : Nat → V} (hb : base' ≤ base) (h : LOk base W g ll L L') : LOk base' W g ll L L' := ⟨Nat.le_trans hb h.hg, h.cs, fun i hi => (h.ok i hi).mono hb, h.spr⟩
theorem _root_.Go.Proofs.YtmhemajcnfcdmaaGreatDoor.FOk.mono {base base' : Nat} {W : World} {g fl : Nat} {fn fn' : Nat → ByteArray} {F F' : Nat → V} (hb : base' ≤ base) (h : FOk base W g fl fn fn' F F') : FOk base' W g fl fn fn' F F' := ⟨Nat.le_trans hb h.hg, h.cs, h.nm, fun i hi => (h.ok i hi).mono hb, h.spr⟩
theorem _root_.Go.Proofs.YtmhemajcnfcdmaaGreatDoor.LOk.below {base : Nat} {W W' : World} {g ll : Nat} {L L' : Nat → V} (hb : Below W.heap.size W W') (h : LOk base W g ll L L') : LOk base W' g ll L L' := h.from fun _ _ hlt => hb.cell hlt
theorem _root_.Go.Proofs.YtmhemajcnfcdmaaGreatDoor.FOk.below {base : Nat} {W W' : World} {g fl : Nat} {fn fn' : Nat → ByteArray} {F F' : Nat → V} (hb : Below W.heap.size W W') (h : FOk base W g fl fn fn' F F') : FOk base W' g fl fn fn' F F' := h.from fun _ _ hlt => hb.cell hlt
theorem tok_mk {base : Nat} {W : World} {k n : Int} {s : ByteArray} {la : Option Addr} {ll lc : Nat} {L L' : Nat → V} {fa : Option Addr} {fl fc : Nat} {fn fn' : Nat → ByteArray} {F F' : Nat → V} {e : Int} {key : ByteArray} {hk : Bool} {g g' : Nat}
    (hr : (0 ≤ k ∧ k ≤ 255) ∧ (-9223372036854775808 ≤ n ∧ n ≤ 9223372036854775807) ∧ s.size ≤ maxLen ∧ (0 ≤ e ∧ e ≤ 255) ∧ key.size ≤ maxLen) (hz : ll * 112 ≤ 140737488351232 ∧ fl * 128 ≤ 140737488351232) (hnm : ∀ i, i < fl → (fn i).size ≤ maxLen)
    (hL : LOk base W g ll L L') (hF : FOk base W g' fl fn fn' F F') :
    TOk base W (.mk k n s la ll lc L fa fl fc fn F e key hk) (.mk k n s (some ⟨g, 0, none⟩) ll (ll + 1) L' (some ⟨g', 0, none⟩) fl (fl + 1) fn' F' e key hk) := by
  obtain ⟨r1, r2, r3, r4, r5⟩ := hr
  refine ⟨⟨r1, r2, r3, r4, r5, ⟨by omega, by unfold maxLen; omega⟩, ⟨by omega, by unfold maxLen; omega⟩, fun i hi => ⟨⟨g, 0, rfl, ?_⟩, (hL.ok i hi).inn⟩, fun i hi => ⟨⟨g', 0, rfl, ?_⟩, ?_, (hF.ok i hi).inn⟩⟩, ⟨fun a h => ?_, fun a h => ?_, fun i hi => (hL.ok i hi).frm, fun i hi => (hF.ok i hi).frm⟩,
    ⟨⟨rfl, rfl, rfl, rfl, rfl, rfl⟩, ⟨rfl, rfl⟩, ⟨rfl, rfl⟩, fun i hi => (hL.ok i hi).tw, fun i hi => ⟨hF.nm i hi, (hF.ok i hi).tw⟩⟩, ⟨⟨g, rfl, hL.spr⟩, ⟨g', rfl, hF.spr⟩, fun i hi => (hL.ok i hi).mks, fun i hi => (hF.ok i hi).mks⟩⟩
  · rw [Nat.zero_add]; exact hL.cs i hi
  · rw [Nat.zero_add]; exact hF.cs i hi
  · rw [← hF.nm i hi]; exact hnm i hi
  · cases h; exact hL.hg
  · cases h; exact hF.hg
theorem boxR (w : World) (cs ds : List Value) (T T' : TypeId) : BoxR w cs ds.length ((w.alloc (.cells cs.toArray T)).alloc (.cells ds.toArray T')) := by
  refine ⟨(below_alloc _ _).alloc (by rw [size_alloc'']; omega) _, At.below (below_alloc _ _) (at_new rfl (Below.refl _ _)), fun i hi => ⟨⟨ds[i], ?_⟩, ?_⟩, by rw [size_alloc'', size_alloc'']; omega⟩
  · have := at_new (w := w.alloc (.cells cs.toArray T)) (cs := ds) (T := T') (B := w.heap.size + 1) (size_alloc'' _ _).symm (Below.refl _ _) i hi
    rw [Nat.zero_add] at this
    rw [this]
    exact List.getElem?_eq_getElem hi
  · refine Lib.frozen_of_heap (cs := ds.toArray) (T := T') (b := w.heap.size + 1) ?_ i
    have := heap_alloc_new (w.alloc (.cells cs.toArray T)) (.cells ds.toArray T')
    rwa [size_alloc''] at this
theorem at90 {w : World} {b : Nat} {nm : ByteArray} {k n : Int} {s : ByteArray} {la : Option Addr} {ll lc : Nat} {L : Nat → V} {fa : Option Addr} {fl fc : Nat} {fn : Nat → ByteArray} {F : Nat → V} {e : Int} {key : ByteArray} {hk : Bool}
    (h : At w b 0 (.string nm :: (V.mk k n s la ll lc L fa fl fc fn F e key hk).cells)) :
    w.cell? ⟨b, 0, none⟩ = some (.string nm) ∧ w.cell? ⟨b, 1, none⟩ = some (.int .u8 k) ∧ w.cell? ⟨b, 2, none⟩ = some (.int .i64 n) ∧ w.cell? ⟨b, 3, none⟩ = some (.string s) ∧ w.cell? ⟨b, 4, none⟩ = some (.slice la ll lc) ∧ w.cell? ⟨b, 5, none⟩ = some (.slice fa fl fc) ∧
      w.cell? ⟨b, 6, none⟩ = some (.int .u8 e) ∧ w.cell? ⟨b, 7, none⟩ = some (.string key) ∧ w.cell? ⟨b, 8, none⟩ = some (.bool hk) := by
  have := at9 h
  simpa using this
set_option maxRecDepth 100000 in
set_option maxHeartbeats 4000000 in
theorem twinField_any (nm : ByteArray) (v : V) (hv : TwinIs v) : TwinFIs nm v := by
  intro w h hf _hn
  have OK0 := boxR w (.string nm :: v.cells) (.string ⟨#[]⟩ :: (vz 0 0 ⟨#[]⟩).cells) 78 78
  have CT := Lib.hid (fun W (hb : BoxR w (.string nm :: v.cells) 9 W) => (hv W (h.below hb.low) hf).mono (R' := fun e w' => ∃ t : V, e = .returned t.agg ∧ TOk (w.heap.size + 2) w' v t ∧ Below W.heap.size W w') (fun e w' ⟨t, h1, h2, h3⟩ => ⟨t, h1, h2.mono hb.big, h3⟩))
  cases v with
  | leaf => exact h.elim
  | mk k n s la ll lc L fa fl fc fn F e key hk =>
  clear hv h hf
  have KS := Lib.hid (fun W (h : BoxR w (.string nm :: (V.mk k n s la ll lc L fa fl fc fn F e key hk).cells) 9 W) => And.intro h (And.intro (at90 h.box) (And.intro (And.intro (rs_some (h.res 0 (by decide)).1.choose_spec) (And.intro (rs_some (h.res 1 (by decide)).1.choose_spec) (And.intro (rs_some (h.res 2 (by decide)).1.choose_spec) (And.intro (rs_some (h.res 3 (by decide)).1.choose_spec) (And.intro (rs_some (h.res 4 (by decide)).1.choose_spec) (And.intro (rs_some (h.res 5 (by decide)).1.choose_spec) (And.intro (rs_some (h.res 6 (by decide)).1.choose_spec) (And.intro (rs_some (h.res 7 (by decide)).1.choose_spec) (rs_some (h.res 8 (by decide)).1.choose_spec))))))))) (And.intro ((h.res 0 (by decide)).2) (And.intro ((h.res 1 (by decide)).2) (And.intro ((h.res 2 (by decide)).2) (And.intro ((h.res 3 (by decide)).2) (And.intro ((h.res 4 (by decide)).2) (And.intro ((h.res 5 (by decide)).2) (And.intro ((h.res 6 (by decide)).2) (And.intro ((h.res 7 (by decide)).2) ((h.res 8 (by decide)).2))))))))))))
  simp only [vz, V.cells] at OK0 ⊢
  have CT2 : Hid (∀ W, BoxR w (.string nm :: (V.mk k n s la ll lc L fa fl fc fn F e key hk).cells) 9 W → Calls Tryz.prog 15 #[.agg #[.int .u8 k, .int .i64 n, .string s, .slice la ll lc, .slice fa fl fc, .int .u8 e, .string key, .bool hk]] W _) := CT.out
  clear CT
  have OKH := Lib.hid OK0
  clear OK0
  go_enter Tryz.func124, Tryz.ntmps124
  go_wp2_with fail
  have OKu := OKH.out
  generalize (w.alloc (.cells #[.string nm, .int .u8 k, .int .i64 n, .string s, .slice la ll lc, .slice fa fl fc, .int .u8 e, .string key, .bool hk] 78)).alloc (.cells #[.string ⟨#[]⟩, .int .u8 0, .int .i64 0, .string ⟨#[]⟩, .slice none 0 0, .slice none 0 0, .int .u8 0, .string ⟨#[]⟩, .bool false] 78) = W0 at OKu ⊢
  have OK : BoxR w (.string nm :: (V.mk k n s la ll lc L fa fl fc fn F e key hk).cells) 9 W0 := OKu
  clear OKu
  go_region_held3 (fun W => BoxR w (.string nm :: (V.mk k n s la ll lc L fa fl fc fn F e key hk).cells) 9 W ∧
      (W.cell? ⟨w.heap.size, 0, none⟩ = some (.string nm) ∧ W.cell? ⟨w.heap.size, 1, none⟩ = some (.int .u8 k) ∧ W.cell? ⟨w.heap.size, 2, none⟩ = some (.int .i64 n) ∧ W.cell? ⟨w.heap.size, 3, none⟩ = some (.string s) ∧ W.cell? ⟨w.heap.size, 4, none⟩ = some (.slice la ll lc) ∧ W.cell? ⟨w.heap.size, 5, none⟩ = some (.slice fa fl fc) ∧ W.cell? ⟨w.heap.size, 6, none⟩ = some (.int .u8 e) ∧ W.cell? ⟨w.heap.size, 7, none⟩ = some (.string key) ∧ W.cell? ⟨w.heap.size, 8, none⟩ = some (.bool hk)) ∧
      (W.cell? ⟨w.heap.size + 1, 0, none⟩ = some (rs W (w.heap.size + 1) 0) ∧ W.cell? ⟨w.heap.size + 1, 1, none⟩ = some (rs W (w.heap.size + 1) 1) ∧ W.cell? ⟨w.heap.size + 1, 2, none⟩ = some (rs W (w.heap.size + 1) 2) ∧ W.cell? ⟨w.heap.size + 1, 3, none⟩ = some (rs W (w.heap.size + 1) 3) ∧ W.cell? ⟨w.heap.size + 1, 4, none⟩ = some (rs W (w.heap.size + 1) 4) ∧ W.cell? ⟨w.heap.size + 1, 5, none⟩ = some (rs W (w.heap.size + 1) 5) ∧ W.cell? ⟨w.heap.size + 1, 6, none⟩ = some (rs W (w.heap.size + 1) 6) ∧ W.cell? ⟨w.heap.size + 1, 7, none⟩ = some (rs W (w.heap.size + 1) 7) ∧ W.cell? ⟨w.heap.size + 1, 8, none⟩ = some (rs W (w.heap.size + 1) 8)) ∧
      (W.frozen? ⟨w.heap.size + 1, 0, none⟩ = false ∧ W.frozen? ⟨w.heap.size + 1, 1, none⟩ = false ∧ W.frozen? ⟨w.heap.size + 1, 2, none⟩ = false ∧ W.frozen? ⟨w.heap.size + 1, 3, none⟩ = false ∧ W.frozen? ⟨w.heap.size + 1, 4, none⟩ = false ∧ W.frozen? ⟨w.heap.size + 1, 5, none⟩ = false ∧ W.frozen? ⟨w.heap.size + 1, 6, none⟩ = false ∧ W.frozen? ⟨w.heap.size + 1, 7, none⟩ = false ∧ W.frozen? ⟨w.heap.size + 1, 8, none⟩ = false))
    (first | (refine KS.out _ ?_; ((with_reducible refine BoxR.set ?_ _ _); (repeat' (with_reducible refine BoxR.set ?_ _ _)); go_split_ands; with_reducible assumption)) | (refine KS.out _ (BoxR.below (W := W0) OK ?_); with_reducible exact (Below.refl _ _).drew) | (refine KS.out _ (BoxR.below ?_ (by with_reducible assumption)); go_split_ands; with_reducible assumption))
    ((go_at_call 15; refine (CT2.out _ ?_).mono ?_; (go_split_ands; assumption); rintro x w1 ⟨t, rfl, htk, hb1⟩; have ht8 := htk.inn; rcases t with _ | ⟨k3, n3, s3, la3, ll3, lc3, L3, fa3, fl3, fc3, fn3, F3, e3, key3, hk3⟩; (exact ht8.elim); simp only [V.agg, V.cells]))
  go_wp2_with fail
  rename_i hS
  have HS := Lib.hid hS.1
  clear hS
  have OK1 := (OK.below (Below.refl _ _).drew).below hb1
  obtain ⟨-, -, ⟨d0, d1, d2, d3, d4, d5, d6, d7, d8⟩, -⟩ := KS.out _ OK1
  have HK := Lib.hid (And.intro htk OK1)
  clear OK1 htk hb1 ht8 OK KS CT2
  refine bodyPost_ret (v := .agg #[.string nm, .int .u8 k3, .int .i64 n3, .string s3, .slice la3 ll3 lc3, .slice fa3 fl3 fc3, .int .u8 e3, .string key3, .bool hk3]) (by simp [results, Tryz.results124, go_sem, d0, d1, d2, d3, d4, d5, d6, d7, d8]) rfl ⟨.mk k3 n3 s3 la3 ll3 lc3 L3 fa3 fl3 fc3 fn3 F3 e3 key3 hk3, rfl, ?_, HS.out.low⟩
  refine TOk.mono (base := w.heap.size + 2) (by omega) ?_
  iterate 9 (with_reducible refine TOk.set ?_ _ _)
  exact HK.out.1
set_option maxRecDepth 100000 in
set_option maxHeartbeats 4000000 in
theorem twinValue_any : ∀ v : V, TwinIs v := by
  intro v
  induction v with
  | leaf => exact fun w h => h.elim
  | mk k n s la ll lc L fa fl fc fn F e key hk ihL ihF =>
  intro w h hf
  obtain ⟨hk1, hn1, hs1, he1, hkey1, hl1, hf1, hL, hF⟩ := h
  obtain ⟨z1, z2, fL, fF⟩ := hf
  have OK0 := boxR w (V.mk k n s la ll lc L fa fl fc fn F e key hk).cells (vz 0 0 ⟨#[]⟩).cells 30 30
  have CL := Lib.hid (fun W (hb : BoxR w (V.mk k n s la ll lc L fa fl fc fn F e key hk).cells 8 W) => (twinValues_any la ll lc L (fun i _ => ihL i) W hl1 z1 fL (fun i hi => ⟨let ⟨b, o, e1, ha⟩ := (hL i hi).1; ⟨b, o, e1, ha.below hb.low⟩, (hL i hi).2.below hb.low⟩)).mono
    (R' := fun e w' => ∃ L' : Nat → V, e = .returned (.slice (some ⟨W.heap.size, 0, none⟩) ll (ll + 1)) ∧ LOk (w.heap.size + 2) w' W.heap.size ll L L' ∧ Below W.heap.size W w') (fun e w' ⟨t, h1, h2, h3⟩ => ⟨t, h1, h2.mono hb.big, h3⟩))
  have CF := Lib.hid (fun W (hb : BoxR w (V.mk k n s la ll lc L fa fl fc fn F e key hk).cells 8 W) => (twinFields_any fa fl fc fn F (fun i _ => twinField_any _ _ (ihF i)) W hf1 z2 fF (fun i hi => ⟨let ⟨b, o, e1, ha⟩ := (hF i hi).1; ⟨b, o, e1, ha.below hb.low⟩, (hF i hi).2.1, (hF i hi).2.2.below hb.low⟩)).mono
    (R' := fun e w' => ∃ F' : Nat → V, e = .returned (.slice (some ⟨W.heap.size, 0, none⟩) fl (fl + 1)) ∧ FOk (w.heap.size + 2) w' W.heap.size fl fn fn F F' ∧ Below W.heap.size W w') (fun e w' ⟨t, h1, h2, h3⟩ => ⟨t, h1, h2.mono hb.big, h3⟩))
  have HT := Lib.hid (fun W g g' L' F' (h1 : LOk (w.heap.size + 2) W g ll L L') (h2 : FOk (w.heap.size + 2) W g' fl fn fn F F') => tok_mk (la := la) (lc := lc) (fa := fa) (fc := fc) (hk := hk) ⟨hk1, hn1, hs1, he1, hkey1⟩ ⟨z1, z2⟩ (fun i hi => (hF i hi).2.1) h1 h2)
  clear hk1 hn1 hs1 he1 hkey1 hl1 hf1 hL hF z1 z2 fL fF ihL ihF
  have KS := Lib.hid (fun W (h : BoxR w (V.mk k n s la ll lc L fa fl fc fn F e key hk).cells 8 W) => And.intro h (And.intro (at80 h.box) (And.intro (And.intro (rs_some (h.res 0 (by decide)).1.choose_spec) (And.intro (rs_some (h.res 1 (by decide)).1.choose_spec) (And.intro (rs_some (h.res 2 (by decide)).1.choose_spec) (And.intro (rs_some (h.res 3 (by decide)).1.choose_spec) (And.intro (rs_some (h.res 4 (by decide)).1.choose_spec) (And.intro (rs_some (h.res 5 (by decide)).1.choose_spec) (And.intro (rs_some (h.res 6 (by decide)).1.choose_spec) (rs_some (h.res 7 (by decide)).1.choose_spec)))))))) (And.intro ((h.res 0 (by decide)).2) (And.intro ((h.res 1 (by decide)).2) (And.intro ((h.res 2 (by decide)).2) (And.intro ((h.res 3 (by decide)).2) (And.intro ((h.res 4 (by decide)).2) (And.intro ((h.res 5 (by decide)).2) (And.intro ((h.res 6 (by decide)).2) ((h.res 7 (by decide)).2)))))))))))
  simp only [V.agg, vz, V.cells] at OK0 ⊢
  have OKH := Lib.hid OK0
  clear OK0
  go_enter Tryz.func15, Tryz.ntmps15
  go_wp2_with fail
  have OKu := OKH.out
  generalize (w.alloc (.cells #[.int .u8 k, .int .i64 n, .string s, .slice la ll lc, .slice fa fl fc, .int .u8 e, .string key, .bool hk] 30)).alloc (.cells #[.int .u8 0, .int .i64 0, .string ⟨#[]⟩, .slice none 0 0, .slice none 0 0, .int .u8 0, .string ⟨#[]⟩, .bool false] 30) = W0 at OKu ⊢
  have OK : BoxR w (V.mk k n s la ll lc L fa fl fc fn F e key hk).cells 8 W0 := OKu
  clear OKu
  go_region_held3 (fun W => BoxR w (V.mk k n s la ll lc L fa fl fc fn F e key hk).cells 8 W ∧
      (W.cell? ⟨w.heap.size, 0, none⟩ = some (.int .u8 k) ∧ W.cell? ⟨w.heap.size, 1, none⟩ = some (.int .i64 n) ∧ W.cell? ⟨w.heap.size, 2, none⟩ = some (.string s) ∧ W.cell? ⟨w.heap.size, 3, none⟩ = some (.slice la ll lc) ∧ W.cell? ⟨w.heap.size, 4, none⟩ = some (.slice fa fl fc) ∧ W.cell? ⟨w.heap.size, 5, none⟩ = some (.int .u8 e) ∧ W.cell? ⟨w.heap.size, 6, none⟩ = some (.string key) ∧ W.cell? ⟨w.heap.size, 7, none⟩ = some (.bool hk)) ∧
      (W.cell? ⟨w.heap.size + 1, 0, none⟩ = some (rs W (w.heap.size + 1) 0) ∧ W.cell? ⟨w.heap.size + 1, 1, none⟩ = some (rs W (w.heap.size + 1) 1) ∧ W.cell? ⟨w.heap.size + 1, 2, none⟩ = some (rs W (w.heap.size + 1) 2) ∧ W.cell? ⟨w.heap.size + 1, 3, none⟩ = some (rs W (w.heap.size + 1) 3) ∧ W.cell? ⟨w.heap.size + 1, 4, none⟩ = some (rs W (w.heap.size + 1) 4) ∧ W.cell? ⟨w.heap.size + 1, 5, none⟩ = some (rs W (w.heap.size + 1) 5) ∧ W.cell? ⟨w.heap.size + 1, 6, none⟩ = some (rs W (w.heap.size + 1) 6) ∧ W.cell? ⟨w.heap.size + 1, 7, none⟩ = some (rs W (w.heap.size + 1) 7)) ∧
      (W.frozen? ⟨w.heap.size + 1, 0, none⟩ = false ∧ W.frozen? ⟨w.heap.size + 1, 1, none⟩ = false ∧ W.frozen? ⟨w.heap.size + 1, 2, none⟩ = false ∧ W.frozen? ⟨w.heap.size + 1, 3, none⟩ = false ∧ W.frozen? ⟨w.heap.size + 1, 4, none⟩ = false ∧ W.frozen? ⟨w.heap.size + 1, 5, none⟩ = false ∧ W.frozen? ⟨w.heap.size + 1, 6, none⟩ = false ∧ W.frozen? ⟨w.heap.size + 1, 7, none⟩ = false))
    (first | (refine KS.out _ ?_; ((with_reducible refine BoxR.set ?_ _ _); (repeat' (with_reducible refine BoxR.set ?_ _ _)); go_split_ands; with_reducible assumption)) | (refine KS.out _ (BoxR.below (W := W0) OK ?_); with_reducible exact (Below.refl _ _).drew) | (refine KS.out _ (BoxR.below ?_ (by with_reducible assumption)); go_split_ands; with_reducible assumption))
    (first
      | (go_at_call 6; refine (CL.out _ ?_).mono ?_; (go_split_ands; assumption); rintro x w1 ⟨L', rfl, hl1, hbl⟩)
      | (go_at_call 77; refine (CF.out _ ?_).mono ?_; (go_split_ands; assumption); rintro x w1 ⟨F', rfl, hf1, hbf⟩))
  go_wp2_with fail
  rename_i hS
  have HS := Lib.hid hS.1
  clear hS
  have OK1 := ((OK.below (Below.refl _ _).drew).below hbl).below hbf
  obtain ⟨-, -, ⟨d0, d1, d2, d3, d4, d5, d6, d7⟩, -⟩ := KS.out _ OK1
  have HK := Lib.hid (HT.out _ _ _ _ _ (hl1.below hbf) hf1)
  clear OK1 hl1 hf1 hbl hbf OK KS CL CF HT
  refine bodyPost_ret (v := .agg #[.int .u8 k, .int .i64 n, .string s, .slice (some ⟨_, 0, none⟩) ll (ll + 1), .slice (some ⟨_, 0, none⟩) fl (fl + 1), .int .u8 e, .string key, .bool hk]) (by simp [results, Tryz.results15, go_sem, d0, d1, d2, d3, d4, d5, d6, d7]; exact ⟨rfl, rfl⟩) rfl ⟨.mk k n s (some ⟨_, 0, none⟩) ll (ll + 1) L' (some ⟨_, 0, none⟩) fl (fl + 1) fn F' e key hk, rfl, ?_, HS.out.low⟩
  refine TOk.mono (base := w.heap.size + 2) (by omega) ?_
  iterate 8 (with_reducible refine TOk.set ?_ _ _)
  exact HK.out
def LeftIs (v : V) : Prop := ∀ (t : V) (w : World), v.In w → t.In w → v.twin t → t.Marks w → v.size ≤ 1099511627776 → Calls Tryz.prog 25 #[t.agg, v.agg] w fun e w' => e = .returned (.bool true) ∧ Below w.heap.size w w'
theorem marks_below {w w' : World} (hb : Below w.heap.size w w') : ∀ {v : V}, v.In w → v.Marks w → v.Marks w' := by
  intro v
  induction v with
  | leaf => exact fun h => h.elim
  | mk k n s la ll lc L fa fl fc fn F e key hk ihL ihF =>
    rintro ⟨-, -, -, -, -, -, -, hL0, hF0⟩ ⟨⟨g, e1, h1⟩, ⟨g', e2, h2⟩, hL, hF⟩
    exact ⟨⟨g, e1, h1.below hb⟩, ⟨g', e2, h2.below hb⟩, fun i hi => ihL i (hL0 i hi).2 (hL i hi), fun i hi => ihF i (hF0 i hi).2.2 (hF i hi)⟩
structure Box2E (w : World) (cs ds : List Value) (W : World) : Prop where
  low : Below w.heap.size w W
  c1 : At W w.heap.size 0 cs
  c2 : At W (w.heap.size + 1) 0 ds
theorem Box2E.below {w : World} {cs ds : List Value} {W W' : World} (h : Box2E w cs ds W) (hb : Below W.heap.size W W') : Box2E w cs ds W' := ⟨h.low.trans (hb.mono h.low.size), h.c1.below hb, h.c2.below hb⟩
theorem box2E (w : World) (cs ds : List Value) (T : TypeId) : Box2E w cs ds ((w.alloc (.cells cs.toArray T)).alloc (.cells ds.toArray T)) :=
  ⟨(below_alloc _ _).alloc (by simp) _, At.below (below_alloc _ _) (at_new rfl (Below.refl _ _)), at_new (by simp) (Below.refl _ _)⟩
set_option maxRecDepth 100000 in
set_option maxHeartbeats 4000000 in
theorem leftValues_any (la : Option Addr) (ll lc : Nat) (L L' : Nat → V) (g : Nat) (hv : ∀ i, i < ll → LeftIs (L i)) (w : World) (hll : ll ≤ 1099511627776) (hzs : ∀ i, i < ll → (L i).size ≤ 1099511627776)
    (h : ∀ i, i < ll → (∃ b o, la = some ⟨b, o, none⟩ ∧ At w b (o + i * 8) (L i).cells) ∧ (L i).In w)
    (h' : ∀ i, i < ll → At w g (i * 8) (L' i).cells ∧ (L' i).In w ∧ (L i).twin (L' i) ∧ (L' i).Marks w) (hs : At w g (ll * 8) spareV.cells) :
    Calls Tryz.prog 10 #[.slice (some ⟨g, 0, none⟩) ll (ll + 1), .slice la ll lc] w fun e w' => e = .returned (.bool true) ∧ Below w.heap.size w w' := by
  have HZS : Hid (∀ i, i < ll → (L i).size ≤ 1099511627776) := hzs
  clear hzs
  have H := Lib.hid h
  have H' := Lib.hid h'
  have H2 := Lib.hid hv
  have HS := Lib.hid (fun W (hb : Below w.heap.size w W) => at80' (hs.below hb))
  clear h h' hv hs
  go_enter Tryz.func10, Tryz.ntmps10
  go_wp2_with fail
  go_loopw [5] (fun i wr => ∃ k : Nat, k ≤ ll ∧ i = .int .i64 k ∧ Below w.heap.size w wr) (fun i _ => ll - (intOf i).toNat)
  case atStart => exact ⟨0, Nat.zero_le _, rfl, Below.refl _ _⟩
  case round =>
    obtain ⟨k, hk, rfl, hb⟩ := hrel
    have HB := Lib.hid hb
    clear hb
    by_cases hlt : k < ll
    · obtain ⟨⟨b, o, rfl, hat⟩, hin⟩ := H.out k hlt
      obtain ⟨hat2, hin2, htw, hmk⟩ := H'.out k hlt
      have HX := Lib.hid (fun W (hb2 : Below wr.heap.size wr W) => H2.out k hlt (L' k) W (hin.below (HB.out.trans (hb2.mono HB.out.size))) (hin2.below (HB.out.trans (hb2.mono HB.out.size))) htw (marks_below (HB.out.trans (hb2.mono HB.out.size)) hin2 hmk) (HZS.out k hlt))
      have hat := hat.below HB.out
      have hat2 := hat2.below HB.out
      obtain ⟨v, hv⟩ : ∃ v, L k = v := ⟨_, rfl⟩
      obtain ⟨t, ht⟩ : ∃ t, L' k = t := ⟨_, rfl⟩
      rw [hv] at hat hin HX
      rw [ht] at hat2 hin2 HX
      clear hv ht htw hmk
      cases v with
      | leaf => exact hin.elim
      | mk k2 n2 s2 la2 ll2 lc2 L2 fa2 fl2 fc2 fn2 F2 e2 key2 hk2 =>
      cases t with
      | leaf => exact hin2.elim
      | mk k3 n3 s3 la3 ll3 lc3 L3 fa3 fl3 fc3 fn3 F3 e3 key3 hk3 =>
      obtain ⟨c0, c1, c2, c3, c4, c5, c6, c7⟩ := at8 hat
      obtain ⟨d0, d1, d2, d3, d4, d5, d6, d7⟩ := at8 hat2
      clear hat hin hat2 hin2
      simp only [V.agg, V.cells] at HX
      have hl0 : (0 : Int) ≤ (k : Int) := by omega
      have hli : (k : Int) < (ll : Int) := by omega
      go_wp2_with fail
      go_still_tail 8, (by kernel_rfl)
      go_wp2_with fail
      refine (HX.out _ (drew_low _)).mono ?_
      rintro e w1 ⟨rfl, hb1⟩
      have HB1 := Lib.hid (HB.out.trans (((drew_low wr).trans (show Below wr.heap.size wr.drew w1 from hb1)).mono HB.out.size))
      clear hb1 c0 c1 c2 c3 c4 c5 c6 c7 d0 d1 d2 d3 d4 d5 d6 d7 HX
      go_wp2_with fail
      go_roundw
      case rel => exact ⟨k + 1, by omega, by go_num, HB1.out⟩
      case measure => simp [intOf]; omega
    · obtain rfl : ll = k := by omega
      obtain ⟨c0, c1, c2, c3, c4, c5, c6, c7⟩ := HS.out _ HB.out
      have g1 : IntKind.i64.wrap ((ll : Int) + 1) = (ll : Int) + 1 := IntWalk.i64_in _ (by omega)
      have g2 : (0 : Int) ≤ (ll : Int) + 1 := by omega
      have g3 : (ll : Int) < (ll : Int) + 1 := by omega
      go_wp2_with fail
      go_ret
      exact ⟨rfl, HB.out.trans ((below_alloc _ _).mono HB.out.size)⟩
set_option maxRecDepth 100000 in
set_option maxHeartbeats 4000000 in
theorem leftField_any (nm : ByteArray) {v : V} (hv : LeftIs v) (t : V) (w : World) (hin : v.In w) (hin2 : t.In w) (htw : v.twin t) (hmk : t.Marks w) (hz : v.size ≤ 1099511627776) :
    Calls Tryz.prog 154 #[.agg (Value.string nm :: t.cells).toArray, .agg (Value.string nm :: v.cells).toArray] w fun e w' => e = .returned (.bool true) ∧ Below w.heap.size w w' := by
  have HX := Lib.hid (fun W (h : Box2E w (Value.string nm :: t.cells) (Value.string nm :: v.cells) W) => hv t W (hin.below h.low) (hin2.below h.low) htw (marks_below h.low hin2 hmk) hz)
  have OK0 := Lib.hid (box2E w (Value.string nm :: t.cells) (Value.string nm :: v.cells) 78)
  clear htw hmk hz
  cases v with
  | leaf => exact hin.elim
  | mk k2 n2 s2 la2 ll2 lc2 L2 fa2 fl2 fc2 fn2 F2 e2 key2 hk2 =>
  cases t with
  | leaf => exact hin2.elim
  | mk k3 n3 s3 la3 ll3 lc3 L3 fa3 fl3 fc3 fn3 F3 e3 key3 hk3 =>
  clear hin hin2
  have KS := Lib.hid (fun W (h : Box2E w (Value.string nm :: (V.mk k3 n3 s3 la3 ll3 lc3 L3 fa3 fl3 fc3 fn3 F3 e3 key3 hk3).cells) (Value.string nm :: (V.mk k2 n2 s2 la2 ll2 lc2 L2 fa2 fl2 fc2 fn2 F2 e2 key2 hk2).cells) W) => And.intro (at90 h.c1) (at90 h.c2))
  simp only [V.agg, V.cells] at HX OK0 KS ⊢
  go_enter Tryz.func154, Tryz.ntmps154
  go_upto_region 1 with fail
  have OKu := OK0.out
  generalize ((w.alloc (.cells #[.string nm, .int .u8 k3, .int .i64 n3, .string s3, .slice la3 ll3 lc3, .slice fa3 fl3 fc3, .int .u8 e3, .string key3, .bool hk3] 78)).alloc (.cells #[.string nm, .int .u8 k2, .int .i64 n2, .string s2, .slice la2 ll2 lc2, .slice fa2 fl2 fc2, .int .u8 e2, .string key2, .bool hk2] 78)) = W0 at OKu ⊢
  obtain ⟨⟨c0, c1, c2, c3, c4, c5, c6, c7, c8⟩, d0, d1, d2, d3, d4, d5, d6, d7, d8⟩ := KS.out _ OKu
  have OK := Lib.hid OKu
  clear OKu OK0
  go_wp2_with fail
  refine (HX.out _ OK.out).mono ?_
  rintro e w1 ⟨rfl, hb1⟩
  have HW := Lib.hid (OK.out.below hb1).low
  clear hb1 c0 c1 c2 c3 c4 c5 c6 c7 c8 d0 d1 d2 d3 d4 d5 d6 d7 d8
  go_wp2_with fail
  go_ret
  exact ⟨rfl, HW.out⟩
set_option maxRecDepth 100000 in
set_option maxHeartbeats 4000000 in
theorem leftFields_any (fa : Option Addr) (fl fc : Nat) (fn fn' : Nat → ByteArray) (F F' : Nat → V) (g : Nat) (hv : ∀ i, i < fl → LeftIs (F i)) (hnn : ∀ i, i < fl → fn i = fn' i) (w : World) (hll : fl ≤ 1099511627776) (hzs : ∀ i, i < fl → (F i).size ≤ 1099511627776)
    (h : ∀ i, i < fl → (∃ b o, fa = some ⟨b, o, none⟩ ∧ At w b (o + i * 9) (.string (fn i) :: (F i).cells)) ∧ (F i).In w)
    (h' : ∀ i, i < fl → At w g (i * 9) (.string (fn' i) :: (F' i).cells) ∧ (F' i).In w ∧ (F i).twin (F' i) ∧ (F' i).Marks w) (hs : At w g (fl * 9) spareF) :
    Calls Tryz.prog 88 #[.slice (some ⟨g, 0, none⟩) fl (fl + 1), .slice fa fl fc] w fun e w' => e = .returned (.bool true) ∧ Below w.heap.size w w' := by
  have HZS : Hid (∀ i, i < fl → (F i).size ≤ 1099511627776) := hzs
  clear hzs
  have H := Lib.hid h
  have H' := Lib.hid h'
  have H2 := Lib.hid hv
  have HNN := Lib.hid hnn
  have HS := Lib.hid (fun W (hb : Below w.heap.size w W) => at9 (hs.below hb))
  clear h h' hv hs hnn
  go_enter Tryz.func88, Tryz.ntmps88
  go_wp2_with fail
  go_loopw [5] (fun i wr => ∃ k : Nat, k ≤ fl ∧ i = .int .i64 k ∧ Below w.heap.size w wr) (fun i _ => fl - (intOf i).toNat)
  case atStart => exact ⟨0, Nat.zero_le _, rfl, Below.refl _ _⟩
  case round =>
    obtain ⟨k, hk, rfl, hb⟩ := hrel
    have HB := Lib.hid hb
    clear hb
    by_cases hlt : k < fl
    · obtain ⟨⟨b, o, rfl, hat⟩, hin⟩ := H.out k hlt
      obtain ⟨hat2, hin2, htw, hmk⟩ := H'.out k hlt
      have hnk := HNN.out k hlt
      have HX := Lib.hid (fun W (hb2 : Below wr.heap.size wr W) => leftField_any (fn k) (H2.out k hlt) (F' k) W (hin.below (HB.out.trans (hb2.mono HB.out.size))) (hin2.below (HB.out.trans (hb2.mono HB.out.size))) htw (marks_below (HB.out.trans (hb2.mono HB.out.size)) hin2 hmk) (HZS.out k hlt))
      have hat := hat.below HB.out
      have hat2 := hat2.below HB.out
      obtain ⟨v, hv⟩ : ∃ v, F k = v := ⟨_, rfl⟩
      obtain ⟨t, ht⟩ : ∃ t, F' k = t := ⟨_, rfl⟩
      rw [hv] at hat hin HX
      rw [ht] at hat2 hin2 HX
      rw [← hnk] at hat2
      generalize fn k = nm at hat hat2 HX
      clear hv ht htw hmk hnk
      cases v with
      | leaf => exact hin.elim
      | mk k2 n2 s2 la2 ll2 lc2 L2 fa2 fl2 fc2 fn2 F2 e2 key2 hk2 =>
      cases t with
      | leaf => exact hin2.elim
      | mk k3 n3 s3 la3 ll3 lc3 L3 fa3 fl3 fc3 fn3 F3 e3 key3 hk3 =>
      obtain ⟨c0, c1, c2, c3, c4, c5, c6, c7, c8⟩ := at9 hat
      obtain ⟨d0, d1, d2, d3, d4, d5, d6, d7, d8⟩ := at9 hat2
      clear hat hin hat2 hin2
      simp only [V.cells] at HX
      have hl0 : (0 : Int) ≤ (k : Int) := by omega
      have hli : (k : Int) < (fl : Int) := by omega
      go_wp2_with fail
      go_still_tail 8, (by kernel_rfl)
      go_wp2_with fail
      refine (HX.out _ (drew_low _)).mono ?_
      rintro e w1 ⟨rfl, hb1⟩
      have HB1 := Lib.hid (HB.out.trans (((drew_low wr).trans (show Below wr.heap.size wr.drew w1 from hb1)).mono HB.out.size))
      clear hb1 c0 c1 c2 c3 c4 c5 c6 c7 c8 d0 d1 d2 d3 d4 d5 d6 d7 d8 HX
      go_wp2_with fail
      go_roundw
      case rel => exact ⟨k + 1, by omega, by go_num, HB1.out⟩
      case measure => simp [intOf]; omega
    · obtain rfl : fl = k := by omega
      obtain ⟨c0, c1, c2, c3, c4, c5, c6, c7, c8⟩ := HS.out _ HB.out
      have g1 : IntKind.i64.wrap ((fl : Int) + 1) = (fl : Int) + 1 := IntWalk.i64_in _ (by omega)
      have g2 : (0 : Int) ≤ (fl : Int) + 1 := by omega
      have g3 : (fl : Int) < (fl : Int) + 1 := by omega
      go_wp2_with fail
      go_ret
      exact ⟨rfl, HB.out.trans ((below_alloc _ _).mono HB.out.size)⟩
set_option maxRecDepth 100000 in
set_option maxHeartbeats 8000000 in
theorem leftValue_is : ∀ v : V, LeftIs v := by
  intro v
  induction v with
  | leaf => exact fun t w h => h.elim
  | mk k n s la ll lc L fa fl fc fn F e key hk ihL ihF =>
  intro t w hin hin2 htw hmk hz
  have hlen := lens_le hin
  cases t with
  | leaf => exact hin2.elim
  | mk k' n' s' la' ll' lc' L' fa' fl' fc' fn' F' e' key' hk' =>
  have hzz : 1 + sumTo ll (fun i => (L i).size) + sumTo fl (fun i => (F i).size) ≤ 1099511627776 := hz
  obtain ⟨⟨rfl, rfl, rfl, rfl, rfl, rfl⟩, ⟨rfl, rfl⟩, ⟨rfl, rfl⟩, tL, tF⟩ := htw
  obtain ⟨⟨g, rfl, mg⟩, ⟨g', rfl, mg'⟩, mL, mF⟩ := hmk
  obtain ⟨-, -, -, -, -, -, -, hL, hF⟩ := hin
  obtain ⟨-, -, -, -, -, -, -, hL', hF'⟩ := hin2
  have CL := Lib.hid (fun W (hb : Below w.heap.size w W) => leftValues_any la ll lc L L' g (fun i _ => ihL i) W (by omega) (fun i hi => by
      have := le_sumTo (f := fun i => (L i).size) hi
      omega) (fun i hi => ⟨let ⟨b, o, e1, ha⟩ := (hL i hi).1; ⟨b, o, e1, ha.below hb⟩, (hL i hi).2.below hb⟩)
    (fun i hi => ⟨by
      obtain ⟨⟨b, o, e1, ha⟩, -⟩ := hL' i hi
      simp only [Option.some.injEq, Addr.mk.injEq, and_true] at e1
      obtain ⟨rfl, rfl⟩ := e1
      rw [Nat.zero_add] at ha
      exact ha.below hb, (hL' i hi).2.below hb, tL i hi, marks_below hb (hL' i hi).2 (mL i hi)⟩) (mg.below hb))
  have CF := Lib.hid (fun W (hb : Below w.heap.size w W) => leftFields_any fa fl fc fn fn' F F' g' (fun i _ => ihF i) (fun i hi => (tF i hi).1) W (by omega) (fun i hi => by
      have := le_sumTo (f := fun i => (F i).size) hi
      omega) (fun i hi => ⟨let ⟨b, o, e1, ha⟩ := (hF i hi).1; ⟨b, o, e1, ha.below hb⟩, (hF i hi).2.2.below hb⟩)
    (fun i hi => ⟨by
      obtain ⟨⟨b, o, e1, ha⟩, -⟩ := hF' i hi
      simp only [Option.some.injEq, Addr.mk.injEq, and_true] at e1
      obtain ⟨rfl, rfl⟩ := e1
      rw [Nat.zero_add] at ha
      exact ha.below hb, (hF' i hi).2.2.below hb, (tF i hi).2, marks_below hb (hF' i hi).2.2 (mF i hi)⟩) (mg'.below hb))
  clear hL hF hL' hF' tL tF mL mF mg mg' ihL ihF hz hzz hlen
  have KS := Lib.hid (fun W (h : Box2E w (V.mk k n s (some ⟨g, 0, none⟩) ll (ll + 1) L' (some ⟨g', 0, none⟩) fl (fl + 1) fn' F' e key hk).cells (V.mk k n s la ll lc L fa fl fc fn F e key hk).cells W) => And.intro (at80 h.c1) (at80 h.c2))
  have OK0 := Lib.hid (box2E w (V.mk k n s (some ⟨g, 0, none⟩) ll (ll + 1) L' (some ⟨g', 0, none⟩) fl (fl + 1) fn' F' e key hk).cells (V.mk k n s la ll lc L fa fl fc fn F e key hk).cells 30)
  simp only [V.agg, V.cells] at OK0 KS ⊢
  go_enter Tryz.func25, Tryz.ntmps25
  go_upto_region 1 with fail
  have OKu := OK0.out
  generalize ((w.alloc (.cells #[.int .u8 k, .int .i64 n, .string s, .slice (some ⟨g, 0, none⟩) ll (ll + 1), .slice (some ⟨g', 0, none⟩) fl (fl + 1), .int .u8 e, .string key, .bool hk] 30)).alloc (.cells #[.int .u8 k, .int .i64 n, .string s, .slice la ll lc, .slice fa fl fc, .int .u8 e, .string key, .bool hk] 30)) = W0 at OKu ⊢
  obtain ⟨⟨c0, c1, c2, c3, c4, c5, c6, c7⟩, d0, d1, d2, d3, d4, d5, d6, d7⟩ := KS.out _ OKu
  have OK := Lib.hid OKu
  clear OKu OK0
  go_wp2_with fail
  refine (CL.out _ OK.out.low).mono ?_
  rintro x w1 ⟨rfl, hb1⟩
  have OK1 := Lib.hid (OK.out.below hb1)
  clear hb1 c0 c1 c2 c3 c4 c5 c6 c7 d0 d1 d2 d3 d4 d5 d6 d7
  obtain ⟨⟨c0, c1, c2, c3, c4, c5, c6, c7⟩, d0, d1, d2, d3, d4, d5, d6, d7⟩ := KS.out _ OK1.out
  go_wp2_with fail
  refine (CF.out _ OK1.out.low).mono ?_
  rintro x w2 ⟨rfl, hb2⟩
  have OK2 := Lib.hid (OK1.out.below hb2)
  clear hb2 c0 c1 c2 c3 c4 c5 c6 c7 d0 d1 d2 d3 d4 d5 d6 d7
  obtain ⟨⟨c0, c1, c2, c3, c4, c5, c6, c7⟩, d0, d1, d2, d3, d4, d5, d6, d7⟩ := KS.out _ OK2.out
  go_wp2_with fail
  go_ret
  exact ⟨rfl, OK2.out.low⟩
end Go.Proofs.YtmhemajcnfcdmaaGreatDoor.Tw
namespace Go.Proofs.YtmhemajcnfcdmaaGreatDoor.Two
set_option linter.unusedVariables false
set_option linter.unusedSimpArgs false
open Go.RowKit Bk
open Tw hiding TL TF TwinIs TwinFIs twinValues_any twinFields_any twinField_any twinValue_any tok_mk TL.succ TL.done TF.succ TF.done
structure NOk (base : Nat) (W : World) (v t : V) : Prop where
  tok : TOk base W v t
  own : t.Own W
  nod : t.blocks.Nodup
section
variable {base base' : Nat} {W W' : World} {v t : V}
theorem NOk.inn (h : NOk base W v t) : t.In W := h.tok.inn
theorem NOk.frm (h : NOk base W v t) : t.From base := h.tok.frm
theorem NOk.from (hh : ∀ g, base ≤ g → g < W.heap.size → W'.heap[g]? = W.heap[g]?) (h : NOk base W v t) : NOk base W' v t := ⟨h.tok.from (fun a h1 h2 => World.cell?_of_block (hh _ h1 h2)), V.Own.from hh h.frm h.own, h.nod⟩
theorem NOk.below (hb : Below W.heap.size W W') (h : NOk base W v t) : NOk base W' v t := h.from fun g _ hlt => hb.block g hlt
theorem NOk.mono (hb : base' ≤ base) (h : NOk base W v t) : NOk base' W v t := ⟨h.tok.mono hb, h.own, h.nod⟩
theorem NOk.lt (h : NOk base W v t) : ∀ x ∈ t.blocks, base ≤ x ∧ x < W.heap.size := blocks_range h.frm h.own
end
structure NL (base : Nat) (W : World) (g ll : Nat) (L L' : Nat → V) : Prop where
  lok : LOk base W g ll L L'
  row : OwnRow W 30 8 (some ⟨g, 0, none⟩) ll (ll + 1)
  own : ∀ i, i < ll → (L' i).Own W
  up : ∀ i, i < ll → (L' i).From (g + 1)
  nod : (joinTo ll (fun i => (L' i).blocks)).Nodup
structure NF (base : Nat) (W : World) (g fl : Nat) (fn fn' : Nat → ByteArray) (F F' : Nat → V) : Prop where
  lok : FOk base W g fl fn fn' F F'
  row : OwnRow W 78 9 (some ⟨g, 0, none⟩) fl (fl + 1)
  own : ∀ i, i < fl → (F' i).Own W
  up : ∀ i, i < fl → (F' i).From (g + 1)
  nod : (joinTo fl (fun i => (F' i).blocks)).Nodup
section
variable {base base' : Nat} {W W' : World} {g ll : Nat} {L L' : Nat → V} {fn fn' : Nat → ByteArray}
theorem NL.from (hh : ∀ b, base ≤ b → b < W.heap.size → W'.heap[b]? = W.heap[b]?) (h : NL base W g ll L L') : NL base W' g ll L L' :=
  ⟨h.lok.from (fun a h1 h2 => World.cell?_of_block (hh _ h1 h2)), h.row.from hh (fun x e => by cases e; exact h.lok.hg), fun i hi => V.Own.from hh (h.lok.ok i hi).frm (h.own i hi), h.up, h.nod⟩
theorem NL.below (hb : Below W.heap.size W W') (h : NL base W g ll L L') : NL base W' g ll L L' := h.from fun b _ hlt => hb.block b hlt
theorem NL.mono (hb : base' ≤ base) (h : NL base W g ll L L') : NL base' W g ll L L' := ⟨h.lok.mono hb, h.row, h.own, h.up, h.nod⟩
theorem NF.from (hh : ∀ b, base ≤ b → b < W.heap.size → W'.heap[b]? = W.heap[b]?) (h : NF base W g ll fn fn' L L') : NF base W' g ll fn fn' L L' :=
  ⟨h.lok.from (fun a h1 h2 => World.cell?_of_block (hh _ h1 h2)), h.row.from hh (fun x e => by cases e; exact h.lok.hg), fun i hi => V.Own.from hh (h.lok.ok i hi).frm (h.own i hi), h.up, h.nod⟩
theorem NF.below (hb : Below W.heap.size W W') (h : NF base W g ll fn fn' L L') : NF base W' g ll fn fn' L L' := h.from fun b _ hlt => hb.block b hlt
theorem NF.mono (hb : base' ≤ base) (h : NF base W g ll fn fn' L L') : NF base' W g ll fn fn' L L' := ⟨h.lok.mono hb, h.row, h.own, h.up, h.nod⟩
end
def KO (base : Nat) (W : World) (k : Nat) (L L' : Nat → V) : Prop := (∀ i, i < k → NOk base W (L i) (L' i)) ∧ (joinTo k (fun i => (L' i).blocks)).Nodup
theorem KO.zero {base : Nat} {W : World} {L L' : Nat → V} : KO base W 0 L L' := ⟨fun i hi => absurd hi (Nat.not_lt_zero _), List.nodup_nil⟩
theorem KO.succ {w W W1 W2 : World} {L : Nat → V} {k : Nat} {t : V} {L' : Nat → V} (hk : KO (w.heap.size + 1) W k L L') (hW : w.heap.size < W.heap.size) (ht : NOk W.heap.size W1 (L k) t) (hb1 : Below W.heap.size W W1) (hg : W1.grownBy W2 (some w.heap.size)) :
    KO (w.heap.size + 1) W2 (k + 1) L (fun i => if i = k then t else L' i) := by
  have hh : ∀ b, w.heap.size + 1 ≤ b → b < W1.heap.size → W2.heap[b]? = W1.heap[b]? := fun b hb hlt => hg.block _ hlt (by intro e; have := Option.some.inj e; omega)
  refine ⟨fun i hi => ?_, ?_⟩
  · by_cases h : i = k
    · subst h
      simp only [if_true]
      exact (ht.mono (by omega)).from hh
    · simp only [if_neg h]
      exact ((hk.1 i (by omega)).below hb1).from hh
  · rw [joinTo, joinTo_ext (g := fun i => (L' i).blocks) (fun i hi => by simp only [if_neg (show ¬ i = k by omega)])]
    simp only [if_true]
    refine List.nodup_append.2 ⟨hk.2, ht.nod, fun x hx y hy e => ?_⟩
    subst e
    obtain ⟨i, hi, hx⟩ := joinTo_mem.1 hx
    have h1 := ((hk.1 i hi).lt x hx).2
    have h2 := (ht.lt x hy).1
    omega
def TL (w : World) (L : Nat → V) (ll : Nat) (k : Nat) (W : World) : Prop := ∃ L' : Nat → V, W.ownsRow w.heap.size 30 8 (.slice (some ⟨w.heap.size, 0, none⟩) k (ll + 1)) k (flatV k L') ∧ KO (w.heap.size + 1) W k L L' ∧ Below w.heap.size w W
theorem TL.succ {w W W1 W2 : World} {L : Nat → V} {ll k : Nat} {t : V} {L' : Nat → V}
    (hown : W2.ownsRow w.heap.size 30 8 (.slice (some ⟨w.heap.size, 0, none⟩) (k + 1) (ll + 1)) (k + 1) (flatV k L' ++ t.cells)) (hk : KO (w.heap.size + 1) W k L L') (hb : Below w.heap.size w W) (hW : w.heap.size < W.heap.size)
    (ht : NOk W.heap.size W1 (L k) t) (hb1 : Below W.heap.size W W1) (hg : W1.grownBy W2 (some w.heap.size)) : TL w L ll (k + 1) W2 := by
  refine ⟨fun i => if i = k then t else L' i, ?_, hk.succ hW ht hb1 hg, (hb.trans (hb1.mono hb.size)).grown hg (Nat.le_trans hb.size hb1.size) (fun j e => by cases e; omega)⟩
  rw [flatV, if_pos rfl, flatV_ext (L' := L') (fun i hi => if_neg (by omega))]
  exact hown
theorem row_of {w W2 : World} {T : TypeId} {sz ll : Nat} {X : List Value} (hown : W2.ownsRow w.heap.size T sz (.slice (some ⟨w.heap.size, 0, none⟩) (ll + 1) (ll + 1)) (ll + 1) X) : OwnRow W2 T sz (some ⟨w.heap.size, 0, none⟩) ll (ll + 1) := by
  rcases hown.2 with ⟨e, -⟩ | ⟨g, cap, cur, e, -, h1, -, -, h2, -⟩
  · cases e
  · cases e
    exact .inr ⟨_, cur, rfl, h1, h2⟩
theorem TL.done {w W W2 : World} {L : Nat → V} {ll : Nat} {L' : Nat → V}
    (hown : W2.ownsRow w.heap.size 30 8 (.slice (some ⟨w.heap.size, 0, none⟩) (ll + 1) (ll + 1)) (ll + 1) (flatV ll L' ++ spareV.cells)) (hk : KO (w.heap.size + 1) W ll L L') (hb : Below w.heap.size w W) (_hW : w.heap.size < W.heap.size)
    (hg : W.grownBy W2 (some w.heap.size)) : NL w.heap.size W2 w.heap.size ll L L' ∧ Below w.heap.size w W2 := by
  have hh : ∀ b, w.heap.size + 1 ≤ b → b < W.heap.size → W2.heap[b]? = W.heap[b]? := fun b hb hlt => hg.block _ hlt (by intro e; have := Option.some.inj e; omega)
  obtain ⟨h1, h2⟩ := Tw.TL.done hown (fun i hi => (hk.1 i hi).tok) hb _hW hg
  exact ⟨⟨h1, row_of hown, fun i hi => V.Own.from hh (hk.1 i hi).frm (hk.1 i hi).own, fun i hi => (hk.1 i hi).frm, hk.2⟩, h2⟩
def TF (w : World) (fn : Nat → ByteArray) (F : Nat → V) (fl : Nat) (k : Nat) (W : World) : Prop := ∃ F' : Nat → V, W.ownsRow w.heap.size 78 9 (.slice (some ⟨w.heap.size, 0, none⟩) k (fl + 1)) k (flatF k fn F') ∧ KO (w.heap.size + 1) W k F F' ∧ Below w.heap.size w W
theorem TF.succ {w W W1 W2 : World} {fn : Nat → ByteArray} {F : Nat → V} {fl k : Nat} {t : V} {F' : Nat → V}
    (hown : W2.ownsRow w.heap.size 78 9 (.slice (some ⟨w.heap.size, 0, none⟩) (k + 1) (fl + 1)) (k + 1) (flatF k fn F' ++ (.string (fn k) :: t.cells))) (hk : KO (w.heap.size + 1) W k F F') (hb : Below w.heap.size w W) (hW : w.heap.size < W.heap.size)
    (ht : NOk W.heap.size W1 (F k) t) (hb1 : Below W.heap.size W W1) (hg : W1.grownBy W2 (some w.heap.size)) : TF w fn F fl (k + 1) W2 := by
  refine ⟨fun i => if i = k then t else F' i, ?_, hk.succ hW ht hb1 hg, (hb.trans (hb1.mono hb.size)).grown hg (Nat.le_trans hb.size hb1.size) (fun j e => by cases e; omega)⟩
  rw [flatF, if_pos rfl, flatF_ext (fn' := fn) (F' := F') (fun i hi => ⟨rfl, if_neg (by omega)⟩)]
  exact hown
theorem TF.done {w W W2 : World} {fn : Nat → ByteArray} {F : Nat → V} {fl : Nat} {F' : Nat → V}
    (hown : W2.ownsRow w.heap.size 78 9 (.slice (some ⟨w.heap.size, 0, none⟩) (fl + 1) (fl + 1)) (fl + 1) (flatF fl fn F' ++ spareF)) (hk : KO (w.heap.size + 1) W fl F F') (hb : Below w.heap.size w W) (_hW : w.heap.size < W.heap.size)
    (hg : W.grownBy W2 (some w.heap.size)) : NF w.heap.size W2 w.heap.size fl fn fn F F' ∧ Below w.heap.size w W2 := by
  have hh : ∀ b, w.heap.size + 1 ≤ b → b < W.heap.size → W2.heap[b]? = W.heap[b]? := fun b hb hlt => hg.block _ hlt (by intro e; have := Option.some.inj e; omega)
  obtain ⟨h1, h2⟩ := Tw.TF.done hown (fun i hi => (hk.1 i hi).tok) hb _hW hg
  exact ⟨⟨h1, row_of hown, fun i hi => V.Own.from hh (hk.1 i hi).frm (hk.1 i hi).own, fun i hi => (hk.1 i hi).frm, hk.2⟩, h2⟩
theorem set_near (w W : World) (i : Nat) (u : Value) : ∀ b, w.heap.size + 2 ≤ b → b < W.heap.size → (W.setCell ⟨w.heap.size + 1, i, none⟩ u).heap[b]? = W.heap[b]? :=
  fun b hb _ => Below.heap_setCell _ _ _ _ (by simp; omega)
theorem NOk.set {w W : World} {v t : V} (h : NOk (w.heap.size + 2) W v t) (i : Nat) (u : Value) : NOk (w.heap.size + 2) (W.setCell ⟨w.heap.size + 1, i, none⟩ u) v t := h.from (set_near w W i u)
theorem tok_mk {base : Nat} {Wf W : World} {k n : Int} {s : ByteArray} {la : Option Addr} {ll lc : Nat} {L L' : Nat → V} {fa : Option Addr} {fl fc : Nat} {fn fn' : Nat → ByteArray} {F F' : Nat → V} {e : Int} {key : ByteArray} {hk : Bool} {g : Nat}
    (hr : (0 ≤ k ∧ k ≤ 255) ∧ (-9223372036854775808 ≤ n ∧ n ≤ 9223372036854775807) ∧ s.size ≤ maxLen ∧ (0 ≤ e ∧ e ≤ 255) ∧ key.size ≤ maxLen) (hz : ll * 112 ≤ 140737488351232 ∧ fl * 128 ≤ 140737488351232) (hnm : ∀ i, i < fl → (fn i).size ≤ maxLen)
    (hL0 : NL base Wf g ll L L') (hb : Below Wf.heap.size Wf W) (hF : NF base W Wf.heap.size fl fn fn' F F') :
    NOk base W (.mk k n s la ll lc L fa fl fc fn F e key hk) (.mk k n s (some ⟨g, 0, none⟩) ll (ll + 1) L' (some ⟨Wf.heap.size, 0, none⟩) fl (fl + 1) fn' F' e key hk) := by
  have hL := hL0.below hb
  refine ⟨Tw.tok_mk hr hz hnm hL.lok hF.lok, ⟨hL.row, hF.row, hL.own, hF.own⟩, ?_⟩
  have hg : g < Wf.heap.size := by
    rcases hL0.row with ⟨e, -⟩ | ⟨g', cur, e, h2, -⟩
    · cases e
    · cases e; exact (Array.getElem?_eq_some_iff.1 h2).1
  have hA : ∀ x ∈ joinTo ll (fun i => (L' i).blocks), g < x ∧ x < Wf.heap.size := fun x hx => by
    obtain ⟨i, hi, hx⟩ := joinTo_mem.1 hx
    have := blocks_range (hL0.up i hi) (hL0.own i hi) x hx
    omega
  have hB : ∀ x ∈ joinTo fl (fun i => (F' i).blocks), Wf.heap.size < x := fun x hx => by
    obtain ⟨i, hi, hx⟩ := joinTo_mem.1 hx
    have := blocks_range (hF.up i hi) (hF.own i hi) x hx
    omega
  show ([g] ++ (joinTo ll (fun i => (L' i).blocks) ++ ([Wf.heap.size] ++ joinTo fl (fun i => (F' i).blocks)))).Nodup
  refine List.nodup_append.2 ⟨by simp, List.nodup_append.2 ⟨hL0.nod, List.nodup_append.2 ⟨by simp, hF.nod, fun x hx y hy e => ?_⟩, fun x hx y hy e => ?_⟩, fun x hx y hy e => ?_⟩
  · have h1 := hB y hy
    simp at hx
    omega
  · have h1 := hA x hx
    rcases List.mem_append.1 hy with h | h
    · simp at h; omega
    · have := hB y h; omega
  · simp at hx
    rcases List.mem_append.1 hy with h | h
    · have := hA y h; omega
    · rcases List.mem_append.1 h with h | h
      · simp at h; omega
      · have := hB y h; omega
def TwinIs (v : V) : Prop := ∀ w : World, v.In w → v.Fits → Calls Tryz.prog 15 #[v.agg] w fun e w' => ∃ t : V, e = .returned t.agg ∧ NOk w.heap.size w' v t ∧ Below w.heap.size w w'
set_option maxRecDepth 100000 in
set_option maxHeartbeats 2000000 in
theorem twinValues_any (la : Option Addr) (ll lc : Nat) (L : Nat → V) (hv : ∀ i, i < ll → TwinIs (L i)) (w : World) (_hlc : ll ≤ lc ∧ lc ≤ maxLen) (hf : ll * 112 ≤ 140737488351232) (hfs : ∀ i, i < ll → (L i).Fits)
    (h : ∀ i, i < ll → (∃ b o, la = some ⟨b, o, none⟩ ∧ At w b (o + i * 8) (L i).cells) ∧ (L i).In w) :
    Calls Tryz.prog 6 #[.slice la ll lc] w fun e w' => ∃ L' : Nat → V, e = .returned (.slice (some ⟨w.heap.size, 0, none⟩) ll (ll + 1)) ∧ NL w.heap.size w' w.heap.size ll L L' ∧ Below w.heap.size w w' := by
  unfold maxLen at _hlc
  obtain ⟨i0, hi, hz0, hz1, hz2⟩ := info_parts Tw.info_val
  have HI := Lib.hid (And.intro hi (And.intro hz0 (And.intro hz1 hz2)))
  clear hi hz0 hz1 hz2
  have H := Lib.hid h
  have H2 := Lib.hid hv
  have HF := Lib.hid hfs
  clear h hv hfs
  go_enter Tryz.func6, Tryz.ntmps6
  obtain ⟨hi, hz0, hz1, hz2⟩ := HI.out
  go_wp2_with (refine wpList_make_own _ rfl _ _ 22 rfl w.heap.size 30 i0 _ 8 Tryz.underlying22 hi hz0 hz1 _ _ _ (ll + 1) rfl rfl (by push_cast; rfl) (by rw [hz2]; omega) (by unfold maxLen; omega) (Nat.le_refl _) ?_)
  intro w0 hown0 hg0
  have hT0 : TL w L ll 0 w0 := ⟨L, hown0, KO.zero, (Below.refl _ _).grown hg0 (Nat.le_refl _) (fun k e => by cases e)⟩
  have HT0 := Lib.hid hT0
  clear hown0 hg0 hT0 hi hz0 hz1 hz2
  go_wp2_with fail
  go_loopw [3, 4] (fun t i wr => ∃ k : Nat, k ≤ ll ∧ i = .int .i64 k ∧ t = .slice (some ⟨w.heap.size, 0, none⟩) k (ll + 1) ∧ TL w L ll k wr) (fun _ i _ => ll - (intOf i).toNat)
  case atStart => exact ⟨0, Nat.zero_le _, rfl, rfl, HT0.out⟩
  case round =>
    obtain ⟨k, hk, rfl, rfl, L', hown, hok, hb⟩ := hrel
    have hBlt : w.heap.size < wr.heap.size := (hown.lt _ rfl).2
    obtain ⟨hi, hz0, hz1, hz2⟩ := HI.out
    by_cases hlt : k < ll
    · obtain ⟨⟨b, o, rfl, hat⟩, hin⟩ := H.out k hlt
      have HX := Lib.hid (H2.out k hlt wr (hin.below hb) (HF.out k hlt))
      have hat := hat.below hb
      have HP := Lib.hid (And.intro hown (And.intro hok (And.intro hb hBlt)))
      clear hown hok hb hBlt
      have hin2 := hin
      generalize hLk : L k = v at HX hat hin2
      have HLk := Lib.hid hLk
      clear hLk
      cases v with
      | leaf => exact hin2.elim
      | mk k2 n2 s2 la2 ll2 lc2 L2 fa2 fl2 fc2 fn2 F2 e2 key2 hk2 =>
      obtain ⟨c0, c1, c2, c3, c4, c5, c6, c7⟩ := at8 hat
      clear hat hin hin2
      have HX2 : Hid (Calls Tryz.prog 15 #[.agg #[.int .u8 k2, .int .i64 n2, .string s2, .slice la2 ll2 lc2, .slice fa2 fl2 fc2, .int .u8 e2, .string key2, .bool hk2]] wr _) := HX.out
      clear HX
      go_wp2_with fail
      refine HX2.out.mono ?_
      rintro e w1 ⟨t, rfl, htk, hb1⟩
      have ht8 := htk.inn
      cases t with
      | leaf => exact ht8.elim
      | mk k3 n3 s3 la3 ll3 lc3 L3 fa3 fl3 fc3 fn3 F3 e3 key3 hk3 =>
      have HK := Lib.hid (And.intro htk hb1)
      have hown1 : w1.ownsRow w.heap.size 30 8 (.slice (some ⟨w.heap.size, 0, none⟩) k (ll + 1)) k (flatV k L') := ownsRow_below HP.out.1 hb1
      clear htk hb1 ht8 HX2 c0 c1 c2 c3 c4 c5 c6 c7
      simp only [V.agg, V.cells]
      go_wp2_with (at_builtin; refine wpList_append_fits _ rfl _ _ 22 rfl w.heap.size 30 i0 8 Tryz.underlying22 hi hz1 w.heap.size k (ll + 1) _ rfl (hown1.alloc _) ⟨w1.heap.size, 0, none⟩ 1 1 (V.mk k3 n3 s3 la3 ll3 lc3 L3 fa3 fl3 fc3 fn3 F3 e3 key3 hk3).cells rfl rfl new_cells (Tw.v_one _) (by omega) ?_)
      intro w2 hown2 hg2
      have HN := Lib.hid (TL.succ (ll := ll) hown2 HP.out.2.1 HP.out.2.2.1 HP.out.2.2.2 (by rw [HLk.out]; exact HK.out.1) HK.out.2 (grown_trans (World.grownBy_alloc _ _ _) hg2))
      clear hown2 hg2 hown1 hi hz0 hz1 hz2
      go_wp2_with fail
      go_roundw
      case rel => exact ⟨k + 1, by omega, by go_num, rfl, HN.out⟩
      case measure => simp [intOf]; omega
    · obtain rfl : ll = k := by omega
      have HP := Lib.hid (And.intro hok (And.intro hb hBlt))
      clear hok hb hBlt
      go_wp2_with (at_builtin; refine wpList_append_fits _ rfl _ _ 22 rfl w.heap.size 30 i0 8 Tryz.underlying22 hi hz1 w.heap.size ll (ll + 1) _ rfl (hown.alloc _) ⟨wr.heap.size, 0, none⟩ 1 1 spareV.cells rfl rfl new_cells (Tw.v_one _) (by omega) ?_)
      intro w2 hown2 hg2
      have HN := Lib.hid (TL.done hown2 HP.out.1 HP.out.2.1 HP.out.2.2 (grown_trans (World.grownBy_alloc _ _ _) hg2))
      clear hown2 hg2 hown hi hz0 hz1 hz2
      go_wp2_with fail
      go_ret
      exact ⟨L', rfl, HN.out.1, HN.out.2⟩
def TwinFIs (nm : ByteArray) (v : V) : Prop := ∀ w : World, v.In w → v.Fits → nm.size ≤ maxLen → Calls Tryz.prog 124 #[.agg (Value.string nm :: v.cells).toArray] w fun e w' => ∃ t : V, e = .returned (.agg (Value.string nm :: t.cells).toArray) ∧ NOk w.heap.size w' v t ∧ Below w.heap.size w w'
set_option maxRecDepth 100000 in
set_option maxHeartbeats 2000000 in
theorem twinFields_any (fa : Option Addr) (fl fc : Nat) (fn : Nat → ByteArray) (F : Nat → V) (hv : ∀ i, i < fl → TwinFIs (fn i) (F i)) (w : World) (_hlc : fl ≤ fc ∧ fc ≤ maxLen) (hf : fl * 128 ≤ 140737488351232) (hfs : ∀ i, i < fl → (F i).Fits)
    (h : ∀ i, i < fl → (∃ b o, fa = some ⟨b, o, none⟩ ∧ At w b (o + i * 9) (.string (fn i) :: (F i).cells)) ∧ (fn i).size ≤ maxLen ∧ (F i).In w) :
    Calls Tryz.prog 77 #[.slice fa fl fc] w fun e w' => ∃ F' : Nat → V, e = .returned (.slice (some ⟨w.heap.size, 0, none⟩) fl (fl + 1)) ∧ NF w.heap.size w' w.heap.size fl fn fn F F' ∧ Below w.heap.size w w' := by
  unfold maxLen at _hlc
  obtain ⟨i0, hi, hz0, hz1, hz2⟩ := info_parts Tw.info_fld
  have HI := Lib.hid (And.intro hi (And.intro hz0 (And.intro hz1 hz2)))
  clear hi hz0 hz1 hz2
  have H := Lib.hid h
  have H2 := Lib.hid hv
  have HF := Lib.hid hfs
  clear h hv hfs
  go_enter Tryz.func77, Tryz.ntmps77
  obtain ⟨hi, hz0, hz1, hz2⟩ := HI.out
  go_wp2_with (refine wpList_make_own _ rfl _ _ 27 rfl w.heap.size 78 i0 _ 9 Tryz.underlying27 hi hz0 hz1 _ _ _ (fl + 1) rfl rfl (by push_cast; rfl) (by rw [hz2]; omega) (by unfold maxLen; omega) (Nat.le_refl _) ?_)
  intro w0 hown0 hg0
  have hT0 : TF w fn F fl 0 w0 := ⟨F, hown0, KO.zero, (Below.refl _ _).grown hg0 (Nat.le_refl _) (fun k e => by cases e)⟩
  have HT0 := Lib.hid hT0
  clear hown0 hg0 hT0 hi hz0 hz1 hz2
  go_wp2_with fail
  go_loopw [3, 4] (fun t i wr => ∃ k : Nat, k ≤ fl ∧ i = .int .i64 k ∧ t = .slice (some ⟨w.heap.size, 0, none⟩) k (fl + 1) ∧ TF w fn F fl k wr) (fun _ i _ => fl - (intOf i).toNat)
  case atStart => exact ⟨0, Nat.zero_le _, rfl, rfl, HT0.out⟩
  case round =>
    obtain ⟨k, hk, rfl, rfl, F', hown, hok, hb⟩ := hrel
    have hBlt : w.heap.size < wr.heap.size := (hown.lt _ rfl).2
    obtain ⟨hi, hz0, hz1, hz2⟩ := HI.out
    by_cases hlt : k < fl
    · obtain ⟨⟨b, o, rfl, hat⟩, hsz, hin⟩ := H.out k hlt
      have HX := Lib.hid (H2.out k hlt wr (hin.below hb) (HF.out k hlt) hsz)
      have hat := hat.below hb
      have HP := Lib.hid (And.intro hown (And.intro hok (And.intro hb hBlt)))
      clear hown hok hb hBlt hsz
      have hin2 := hin
      generalize hLk : F k = v at HX hat hin2
      generalize hnk : fn k = nm at HX hat
      have HLk := Lib.hid (And.intro hLk hnk)
      clear hLk hnk
      cases v with
      | leaf => exact hin2.elim
      | mk k2 n2 s2 la2 ll2 lc2 L2 fa2 fl2 fc2 fn2 F2 e2 key2 hk2 =>
      obtain ⟨c0, c1, c2, c3, c4, c5, c6, c7, c8⟩ := at9 hat
      clear hat hin hin2
      have HX2 : Hid (Calls Tryz.prog 124 #[.agg #[.string nm, .int .u8 k2, .int .i64 n2, .string s2, .slice la2 ll2 lc2, .slice fa2 fl2 fc2, .int .u8 e2, .string key2, .bool hk2]] wr _) := HX.out
      clear HX
      go_wp2_with fail
      refine HX2.out.mono ?_
      rintro e w1 ⟨t, rfl, htk, hb1⟩
      have ht8 := htk.inn
      cases t with
      | leaf => exact ht8.elim
      | mk k3 n3 s3 la3 ll3 lc3 L3 fa3 fl3 fc3 fn3 F3 e3 key3 hk3 =>
      have HK := Lib.hid (And.intro htk hb1)
      have hown1 : w1.ownsRow w.heap.size 78 9 (.slice (some ⟨w.heap.size, 0, none⟩) k (fl + 1)) k (flatF k fn F') := ownsRow_below HP.out.1 hb1
      clear htk hb1 ht8 HX2 c0 c1 c2 c3 c4 c5 c6 c7 c8
      simp only [V.cells]
      go_wp2_with (at_builtin; refine wpList_append_fits _ rfl _ _ 27 rfl w.heap.size 78 i0 9 Tryz.underlying27 hi hz1 w.heap.size k (fl + 1) _ rfl (hown1.alloc _) ⟨w1.heap.size, 0, none⟩ 1 1 (Value.string nm :: (V.mk k3 n3 s3 la3 ll3 lc3 L3 fa3 fl3 fc3 fn3 F3 e3 key3 hk3).cells) rfl rfl new_cells (Tw.f_one _ _) (by omega) ?_)
      intro w2 hown2 hg2
      have HN := Lib.hid (TF.succ (fn := fn) (F := F) (k := k) (fl := fl) (t := V.mk k3 n3 s3 la3 ll3 lc3 L3 fa3 fl3 fc3 fn3 F3 e3 key3 hk3) (by rw [HLk.out.2]; exact hown2) HP.out.2.1 HP.out.2.2.1 HP.out.2.2.2 (by rw [HLk.out.1]; exact HK.out.1) HK.out.2 (grown_trans (World.grownBy_alloc _ _ _) hg2))
      clear hown2 hg2 hown1 hi hz0 hz1 hz2
      go_wp2_with fail
      go_roundw
      case rel => exact ⟨k + 1, by omega, by go_num, rfl, HN.out⟩
      case measure => simp [intOf]; omega
    · obtain rfl : fl = k := by omega
      have HP := Lib.hid (And.intro hok (And.intro hb hBlt))
      clear hok hb hBlt
      go_wp2_with (at_builtin; refine wpList_append_fits _ rfl _ _ 27 rfl w.heap.size 78 i0 9 Tryz.underlying27 hi hz1 w.heap.size fl (fl + 1) _ rfl (hown.alloc _) ⟨wr.heap.size, 0, none⟩ 1 1 spareF rfl rfl new_cells (Tw.f_one _ _) (by omega) ?_)
      intro w2 hown2 hg2
      have HN := Lib.hid (TF.done hown2 HP.out.1 HP.out.2.1 HP.out.2.2 (grown_trans (World.grownBy_alloc _ _ _) hg2))
      clear hown2 hg2 hown hi hz0 hz1 hz2
      go_wp2_with fail
      go_ret
      exact ⟨F', rfl, HN.out.1, HN.out.2⟩
set_option maxRecDepth 100000 in
set_option maxHeartbeats 4000000 in
theorem twinField_any (nm : ByteArray) (v : V) (hv : TwinIs v) : TwinFIs nm v := by
  intro w h hf _hn
  have OK0 := boxR w (.string nm :: v.cells) (.string ⟨#[]⟩ :: (vz 0 0 ⟨#[]⟩).cells) 78 78
  have CT := Lib.hid (fun W (hb : BoxR w (.string nm :: v.cells) 9 W) => (hv W (h.below hb.low) hf).mono (R' := fun e w' => ∃ t : V, e = .returned t.agg ∧ NOk (w.heap.size + 2) w' v t ∧ Below W.heap.size W w') (fun e w' ⟨t, h1, h2, h3⟩ => ⟨t, h1, h2.mono hb.big, h3⟩))
  cases v with
  | leaf => exact h.elim
  | mk k n s la ll lc L fa fl fc fn F e key hk =>
  clear hv h hf
  have KS := Lib.hid (fun W (h : BoxR w (.string nm :: (V.mk k n s la ll lc L fa fl fc fn F e key hk).cells) 9 W) => And.intro h (And.intro (at90 h.box) (And.intro (And.intro (rs_some (h.res 0 (by decide)).1.choose_spec) (And.intro (rs_some (h.res 1 (by decide)).1.choose_spec) (And.intro (rs_some (h.res 2 (by decide)).1.choose_spec) (And.intro (rs_some (h.res 3 (by decide)).1.choose_spec) (And.intro (rs_some (h.res 4 (by decide)).1.choose_spec) (And.intro (rs_some (h.res 5 (by decide)).1.choose_spec) (And.intro (rs_some (h.res 6 (by decide)).1.choose_spec) (And.intro (rs_some (h.res 7 (by decide)).1.choose_spec) (rs_some (h.res 8 (by decide)).1.choose_spec))))))))) (And.intro ((h.res 0 (by decide)).2) (And.intro ((h.res 1 (by decide)).2) (And.intro ((h.res 2 (by decide)).2) (And.intro ((h.res 3 (by decide)).2) (And.intro ((h.res 4 (by decide)).2) (And.intro ((h.res 5 (by decide)).2) (And.intro ((h.res 6 (by decide)).2) (And.intro ((h.res 7 (by decide)).2) ((h.res 8 (by decide)).2))))))))))))
  simp only [vz, V.cells] at OK0 ⊢
  have CT2 : Hid (∀ W, BoxR w (.string nm :: (V.mk k n s la ll lc L fa fl fc fn F e key hk).cells) 9 W → Calls Tryz.prog 15 #[.agg #[.int .u8 k, .int .i64 n, .string s, .slice la ll lc, .slice fa fl fc, .int .u8 e, .string key, .bool hk]] W _) := CT.out
  clear CT
  have OKH := Lib.hid OK0
  clear OK0
  go_enter Tryz.func124, Tryz.ntmps124
  go_wp2_with fail
  have OKu := OKH.out
  generalize (w.alloc (.cells #[.string nm, .int .u8 k, .int .i64 n, .string s, .slice la ll lc, .slice fa fl fc, .int .u8 e, .string key, .bool hk] 78)).alloc (.cells #[.string ⟨#[]⟩, .int .u8 0, .int .i64 0, .string ⟨#[]⟩, .slice none 0 0, .slice none 0 0, .int .u8 0, .string ⟨#[]⟩, .bool false] 78) = W0 at OKu ⊢
  have OK : BoxR w (.string nm :: (V.mk k n s la ll lc L fa fl fc fn F e key hk).cells) 9 W0 := OKu
  clear OKu
  go_region_held3 (fun W => BoxR w (.string nm :: (V.mk k n s la ll lc L fa fl fc fn F e key hk).cells) 9 W ∧
      (W.cell? ⟨w.heap.size, 0, none⟩ = some (.string nm) ∧ W.cell? ⟨w.heap.size, 1, none⟩ = some (.int .u8 k) ∧ W.cell? ⟨w.heap.size, 2, none⟩ = some (.int .i64 n) ∧ W.cell? ⟨w.heap.size, 3, none⟩ = some (.string s) ∧ W.cell? ⟨w.heap.size, 4, none⟩ = some (.slice la ll lc) ∧ W.cell? ⟨w.heap.size, 5, none⟩ = some (.slice fa fl fc) ∧ W.cell? ⟨w.heap.size, 6, none⟩ = some (.int .u8 e) ∧ W.cell? ⟨w.heap.size, 7, none⟩ = some (.string key) ∧ W.cell? ⟨w.heap.size, 8, none⟩ = some (.bool hk)) ∧
      (W.cell? ⟨w.heap.size + 1, 0, none⟩ = some (rs W (w.heap.size + 1) 0) ∧ W.cell? ⟨w.heap.size + 1, 1, none⟩ = some (rs W (w.heap.size + 1) 1) ∧ W.cell? ⟨w.heap.size + 1, 2, none⟩ = some (rs W (w.heap.size + 1) 2) ∧ W.cell? ⟨w.heap.size + 1, 3, none⟩ = some (rs W (w.heap.size + 1) 3) ∧ W.cell? ⟨w.heap.size + 1, 4, none⟩ = some (rs W (w.heap.size + 1) 4) ∧ W.cell? ⟨w.heap.size + 1, 5, none⟩ = some (rs W (w.heap.size + 1) 5) ∧ W.cell? ⟨w.heap.size + 1, 6, none⟩ = some (rs W (w.heap.size + 1) 6) ∧ W.cell? ⟨w.heap.size + 1, 7, none⟩ = some (rs W (w.heap.size + 1) 7) ∧ W.cell? ⟨w.heap.size + 1, 8, none⟩ = some (rs W (w.heap.size + 1) 8)) ∧
      (W.frozen? ⟨w.heap.size + 1, 0, none⟩ = false ∧ W.frozen? ⟨w.heap.size + 1, 1, none⟩ = false ∧ W.frozen? ⟨w.heap.size + 1, 2, none⟩ = false ∧ W.frozen? ⟨w.heap.size + 1, 3, none⟩ = false ∧ W.frozen? ⟨w.heap.size + 1, 4, none⟩ = false ∧ W.frozen? ⟨w.heap.size + 1, 5, none⟩ = false ∧ W.frozen? ⟨w.heap.size + 1, 6, none⟩ = false ∧ W.frozen? ⟨w.heap.size + 1, 7, none⟩ = false ∧ W.frozen? ⟨w.heap.size + 1, 8, none⟩ = false))
    (first | (refine KS.out _ ?_; ((with_reducible refine BoxR.set ?_ _ _); (repeat' (with_reducible refine BoxR.set ?_ _ _)); go_split_ands; with_reducible assumption)) | (refine KS.out _ (BoxR.below (W := W0) OK ?_); with_reducible exact (Below.refl _ _).drew) | (refine KS.out _ (BoxR.below ?_ (by with_reducible assumption)); go_split_ands; with_reducible assumption))
    ((go_at_call 15; refine (CT2.out _ ?_).mono ?_; (go_split_ands; assumption); rintro x w1 ⟨t, rfl, htk, hb1⟩; have ht8 := htk.inn; rcases t with _ | ⟨k3, n3, s3, la3, ll3, lc3, L3, fa3, fl3, fc3, fn3, F3, e3, key3, hk3⟩; (exact ht8.elim); simp only [V.agg, V.cells]))
  go_wp2_with fail
  rename_i hS
  have HS := Lib.hid hS.1
  clear hS
  have OK1 := (OK.below (Below.refl _ _).drew).below hb1
  obtain ⟨-, -, ⟨d0, d1, d2, d3, d4, d5, d6, d7, d8⟩, -⟩ := KS.out _ OK1
  have HK := Lib.hid (And.intro htk OK1)
  clear OK1 htk hb1 ht8 OK KS CT2
  refine bodyPost_ret (v := .agg #[.string nm, .int .u8 k3, .int .i64 n3, .string s3, .slice la3 ll3 lc3, .slice fa3 fl3 fc3, .int .u8 e3, .string key3, .bool hk3]) (by simp [results, Tryz.results124, go_sem, d0, d1, d2, d3, d4, d5, d6, d7, d8]) rfl ⟨.mk k3 n3 s3 la3 ll3 lc3 L3 fa3 fl3 fc3 fn3 F3 e3 key3 hk3, rfl, ?_, HS.out.low⟩
  refine NOk.mono (base := w.heap.size + 2) (by omega) ?_
  iterate 9 (with_reducible refine NOk.set ?_ _ _)
  exact HK.out.1
set_option maxRecDepth 100000 in
set_option maxHeartbeats 4000000 in
theorem twinValue_any : ∀ v : V, TwinIs v := by
  intro v
  induction v with
  | leaf => exact fun w h => h.elim
  | mk k n s la ll lc L fa fl fc fn F e key hk ihL ihF =>
  intro w h hf
  obtain ⟨hk1, hn1, hs1, he1, hkey1, hl1, hf1, hL, hF⟩ := h
  obtain ⟨z1, z2, fL, fF⟩ := hf
  have OK0 := boxR w (V.mk k n s la ll lc L fa fl fc fn F e key hk).cells (vz 0 0 ⟨#[]⟩).cells 30 30
  have CL := Lib.hid (fun W (hb : BoxR w (V.mk k n s la ll lc L fa fl fc fn F e key hk).cells 8 W) => (twinValues_any la ll lc L (fun i _ => ihL i) W hl1 z1 fL (fun i hi => ⟨let ⟨b, o, e1, ha⟩ := (hL i hi).1; ⟨b, o, e1, ha.below hb.low⟩, (hL i hi).2.below hb.low⟩)).mono
    (R' := fun e w' => ∃ L' : Nat → V, e = .returned (.slice (some ⟨W.heap.size, 0, none⟩) ll (ll + 1)) ∧ NL (w.heap.size + 2) w' W.heap.size ll L L' ∧ Below W.heap.size W w') (fun e w' ⟨t, h1, h2, h3⟩ => ⟨t, h1, h2.mono hb.big, h3⟩))
  have CF := Lib.hid (fun W (hb : BoxR w (V.mk k n s la ll lc L fa fl fc fn F e key hk).cells 8 W) => (twinFields_any fa fl fc fn F (fun i _ => twinField_any _ _ (ihF i)) W hf1 z2 fF (fun i hi => ⟨let ⟨b, o, e1, ha⟩ := (hF i hi).1; ⟨b, o, e1, ha.below hb.low⟩, (hF i hi).2.1, (hF i hi).2.2.below hb.low⟩)).mono
    (R' := fun e w' => ∃ F' : Nat → V, e = .returned (.slice (some ⟨W.heap.size, 0, none⟩) fl (fl + 1)) ∧ NF (w.heap.size + 2) w' W.heap.size fl fn fn F F' ∧ Below W.heap.size W w') (fun e w' ⟨t, h1, h2, h3⟩ => ⟨t, h1, h2.mono hb.big, h3⟩))
  have HT := Lib.hid (fun Wf W g L' F' (h1 : NL (w.heap.size + 2) Wf g ll L L') (hb : Below Wf.heap.size Wf W) (h2 : NF (w.heap.size + 2) W Wf.heap.size fl fn fn F F') => tok_mk (la := la) (lc := lc) (fa := fa) (fc := fc) (hk := hk) ⟨hk1, hn1, hs1, he1, hkey1⟩ ⟨z1, z2⟩ (fun i hi => (hF i hi).2.1) h1 hb h2)
  clear hk1 hn1 hs1 he1 hkey1 hl1 hf1 hL hF z1 z2 fL fF ihL ihF
  have KS := Lib.hid (fun W (h : BoxR w (V.mk k n s la ll lc L fa fl fc fn F e key hk).cells 8 W) => And.intro h (And.intro (at80 h.box) (And.intro (And.intro (rs_some (h.res 0 (by decide)).1.choose_spec) (And.intro (rs_some (h.res 1 (by decide)).1.choose_spec) (And.intro (rs_some (h.res 2 (by decide)).1.choose_spec) (And.intro (rs_some (h.res 3 (by decide)).1.choose_spec) (And.intro (rs_some (h.res 4 (by decide)).1.choose_spec) (And.intro (rs_some (h.res 5 (by decide)).1.choose_spec) (And.intro (rs_some (h.res 6 (by decide)).1.choose_spec) (rs_some (h.res 7 (by decide)).1.choose_spec)))))))) (And.intro ((h.res 0 (by decide)).2) (And.intro ((h.res 1 (by decide)).2) (And.intro ((h.res 2 (by decide)).2) (And.intro ((h.res 3 (by decide)).2) (And.intro ((h.res 4 (by decide)).2) (And.intro ((h.res 5 (by decide)).2) (And.intro ((h.res 6 (by decide)).2) ((h.res 7 (by decide)).2)))))))))))
  simp only [V.agg, vz, V.cells] at OK0 ⊢
  have OKH := Lib.hid OK0
  clear OK0
  go_enter Tryz.func15, Tryz.ntmps15
  go_wp2_with fail
  have OKu := OKH.out
  generalize (w.alloc (.cells #[.int .u8 k, .int .i64 n, .string s, .slice la ll lc, .slice fa fl fc, .int .u8 e, .string key, .bool hk] 30)).alloc (.cells #[.int .u8 0, .int .i64 0, .string ⟨#[]⟩, .slice none 0 0, .slice none 0 0, .int .u8 0, .string ⟨#[]⟩, .bool false] 30) = W0 at OKu ⊢
  have OK : BoxR w (V.mk k n s la ll lc L fa fl fc fn F e key hk).cells 8 W0 := OKu
  clear OKu
  go_region_held3 (fun W => BoxR w (V.mk k n s la ll lc L fa fl fc fn F e key hk).cells 8 W ∧
      (W.cell? ⟨w.heap.size, 0, none⟩ = some (.int .u8 k) ∧ W.cell? ⟨w.heap.size, 1, none⟩ = some (.int .i64 n) ∧ W.cell? ⟨w.heap.size, 2, none⟩ = some (.string s) ∧ W.cell? ⟨w.heap.size, 3, none⟩ = some (.slice la ll lc) ∧ W.cell? ⟨w.heap.size, 4, none⟩ = some (.slice fa fl fc) ∧ W.cell? ⟨w.heap.size, 5, none⟩ = some (.int .u8 e) ∧ W.cell? ⟨w.heap.size, 6, none⟩ = some (.string key) ∧ W.cell? ⟨w.heap.size, 7, none⟩ = some (.bool hk)) ∧
      (W.cell? ⟨w.heap.size + 1, 0, none⟩ = some (rs W (w.heap.size + 1) 0) ∧ W.cell? ⟨w.heap.size + 1, 1, none⟩ = some (rs W (w.heap.size + 1) 1) ∧ W.cell? ⟨w.heap.size + 1, 2, none⟩ = some (rs W (w.heap.size + 1) 2) ∧ W.cell? ⟨w.heap.size + 1, 3, none⟩ = some (rs W (w.heap.size + 1) 3) ∧ W.cell? ⟨w.heap.size + 1, 4, none⟩ = some (rs W (w.heap.size + 1) 4) ∧ W.cell? ⟨w.heap.size + 1, 5, none⟩ = some (rs W (w.heap.size + 1) 5) ∧ W.cell? ⟨w.heap.size + 1, 6, none⟩ = some (rs W (w.heap.size + 1) 6) ∧ W.cell? ⟨w.heap.size + 1, 7, none⟩ = some (rs W (w.heap.size + 1) 7)) ∧
      (W.frozen? ⟨w.heap.size + 1, 0, none⟩ = false ∧ W.frozen? ⟨w.heap.size + 1, 1, none⟩ = false ∧ W.frozen? ⟨w.heap.size + 1, 2, none⟩ = false ∧ W.frozen? ⟨w.heap.size + 1, 3, none⟩ = false ∧ W.frozen? ⟨w.heap.size + 1, 4, none⟩ = false ∧ W.frozen? ⟨w.heap.size + 1, 5, none⟩ = false ∧ W.frozen? ⟨w.heap.size + 1, 6, none⟩ = false ∧ W.frozen? ⟨w.heap.size + 1, 7, none⟩ = false))
    (first | (refine KS.out _ ?_; ((with_reducible refine BoxR.set ?_ _ _); (repeat' (with_reducible refine BoxR.set ?_ _ _)); go_split_ands; with_reducible assumption)) | (refine KS.out _ (BoxR.below (W := W0) OK ?_); with_reducible exact (Below.refl _ _).drew) | (refine KS.out _ (BoxR.below ?_ (by with_reducible assumption)); go_split_ands; with_reducible assumption))
    (first
      | (go_at_call 6; refine (CL.out _ ?_).mono ?_; (go_split_ands; assumption); rintro x w1 ⟨L', rfl, hl1, hbl⟩)
      | (go_at_call 77; refine (CF.out _ ?_).mono ?_; (go_split_ands; assumption); rintro x w1 ⟨F', rfl, hf1, hbf⟩))
  go_wp2_with fail
  rename_i hS
  have HS := Lib.hid hS.1
  clear hS
  have OK1 := ((OK.below (Below.refl _ _).drew).below hbl).below hbf
  obtain ⟨-, -, ⟨d0, d1, d2, d3, d4, d5, d6, d7⟩, -⟩ := KS.out _ OK1
  have HK := Lib.hid (HT.out _ _ _ _ _ hl1 hbf hf1)
  clear OK1 hl1 hf1 hbl hbf OK KS CL CF HT
  refine bodyPost_ret (v := .agg #[.int .u8 k, .int .i64 n, .string s, .slice (some ⟨_, 0, none⟩) ll (ll + 1), .slice (some ⟨_, 0, none⟩) fl (fl + 1), .int .u8 e, .string key, .bool hk]) (by simp [results, Tryz.results15, go_sem, d0, d1, d2, d3, d4, d5, d6, d7]; exact ⟨rfl, rfl⟩) rfl ⟨.mk k n s (some ⟨_, 0, none⟩) ll (ll + 1) L' (some ⟨_, 0, none⟩) fl (fl + 1) fn F' e key hk, rfl, ?_, HS.out.low⟩
  refine NOk.mono (base := w.heap.size + 2) (by omega) ?_
  iterate 8 (with_reducible refine NOk.set ?_ _ _)
  exact HK.out
end Go.Proofs.YtmhemajcnfcdmaaGreatDoor.Two
