/-
  Walks: the document's done and Do of layer 2 answer 'doV', 'doB'.
  Conditions: the values lie in memory, and each has at most 2^40 parts.
  Walks: the document's Do of layer 2 answers 'doV', 'doB'.
  Conditions: the values lie in memory, there are at most 2^20 of them, and each has at most 2^40 parts.
-/
import Derived.Test.YtmhemajcnfcdmaaGreatDoorOdT
import Derived.Test.YtmhemajcnfcdmaaGreatDoorOMh
import Derived.Test.YtmhemajcnfcdmaaGreatDoorOpDo
namespace Go.Proofs.YtmhemajcnfcdmaaGreatDoor.Od
set_option linter.unusedVariables false
set_option linter.unusedSimpArgs false
open Go.RowKit Go.Deep Go.WideShapes
theorem takes_n {k n : Nat} (hk : k < 13) (h : takesB (opLeast k) (opMost k) n = true) : (k = 6 ∨ k = 10) ∨ ((k = 5 ∨ k = 7 ∨ k = 12) ∧ n = 1) ∨ ((k = 0 ∨ k = 1 ∨ k = 2 ∨ k = 3 ∨ k = 4 ∨ k = 8 ∨ k = 9 ∨ k = 11) ∧ n = 2) := by
  match k, hk with
  | 0, _ | 1, _ | 2, _ | 3, _ | 4, _ | 8, _ | 9, _ | 11, _ => exact .inr (.inr ⟨by omega, takes2 h⟩)
  | 5, _ | 7, _ | 12, _ => exact .inr (.inl ⟨by omega, takes1 h⟩)
  | 6, _ | 10, _ => exact .inl (by omega)
  | k + 13, h => exact absurd h (by omega)
theorem inS_vals {w : World} {S : Nat → Prop} {B : Nat} {v : V} (hB : B = w.heap.size) (h : InS S v w) : InS (fun b => S b ∨ b = B) v w := fun W' q => h W' fun a x hs e => q a x (fun hs' => by
  rcases hs' with h1 | h1
  · exact hs h1
  · have := World.block_lt_of_cell? _ _ e
    omega) e
theorem in8 {v : V} {w : World} (h : v.In w) : ∃ k n s la ll lc L fa fl fc fn F e key hk, v = .mk k n s la ll lc L fa fl fc fn F e key hk := by
  cases v with
  | leaf => exact h.elim
  | mk k n s la ll lc L fa fl fc fn F e key hk => exact ⟨k, n, s, la, ll, lc, L, fa, fl, fc, fn, F, e, key, hk, rfl⟩
set_option maxRecDepth 100000 in
set_option maxHeartbeats 8000000 in
theorem rdone_cat (S : Nat → Prop) (la : Option Addr) (ll lc : Nat) (L : Nat → V) (w : World) (h : Vals w la ll lc L) (hck : ∀ i, i < ll → (L i).check = true) (hS : ∀ b, S b → b < w.heap.size) (hX : ∀ i, i < ll → InS S (L i) w) :
    Calls Tryz.prog 22 #[.string (opName 6), .slice la ll lc] w (OpX S 6 ll L w) := by
  have OK0 := OW.start h 30
  have hlc := h.hlc
  unfold maxLen at hlc
  have KS := Lib.hid (fun W (h : OW w la ll lc L W) => And.intro h h.rcells)
  have HTK := Lib.hid (fun W => rtakes_any (opName 6) W)
  rw [show tkV (opName 6) = .tuple #[.int .i64 (opLeast 6), .int .i64 (opMost 6), .bool true] from rfl] at HTK
  have HX := Lib.hid (fun W (h : OW w la ll lc L W) i (hi : i < ll) => show InS (fun b => S b ∨ b = w.heap.size) (L i) W from (inS_vals rfl (hX i hi)).below h.low)
  have HSB := Lib.hid (fun W (h : OW w la ll lc L W) b (hb : S b ∨ b = w.heap.size) => show b < W.heap.size from by
    rcases hb with q | q
    · have := hS b q; have := h.big; omega
    · have := h.big; omega)
  have HR : Hid (∀ (u : V) e w6, e = .returned (.tuple #[u.agg, .bool (opOk 6 ll L)]) → Below w.heap.size w w6 → InS (fun b => S b ∨ b = w.heap.size) u w6 → (opOk 6 ll L = true → u.same (opV 6 ll L) = true) → OpX S 6 ll L w e w6) := Lib.hid (fun u e w6 he hb hi hs => ⟨u, he, hb, hi.weak (fun b h => .inl h), hs⟩)
  have HC := Lib.hid (fun W (h : OW w la ll lc L W) => rcat_any (fun b => S b ∨ b = w.heap.size) la ll lc L W h.vals hck)
  unfold OpX at HC
  clear hck hS hX HX HSB
  generalize opOk 6 ll L = r at HC HR
  generalize opV 6 ll L = ov at HC HR
  simp only [opName, opLeast, opMost] at HTK ⊢
  simp only [nv, vz, V.cells] at OK0
  have OKH := Lib.hid OK0
  clear OK0 h
  go_enter Tryz.func22, Tryz.ntmps22
  go_upto_region 1 with fail
  have OKu := OKH.out
  generalize w.alloc (.cells #[.int .u8 0, .int .i64 0, .string ⟨#[]⟩, .slice none 0 0, .slice none 0 0, .int .u8 0, .string ⟨#[]⟩, .bool false] 30) = W0 at OKu ⊢
  have OK : Hid (OW w la ll lc L W0) := Lib.hid OKu
  clear OKu OKH
  obtain ⟨-, ⟨d0, d1, d2, d3, d4, d5, d6, d7⟩, z0, z1, z2, z3, z4, z5, z6, z7⟩ := KS.out _ OK.out
  go_wp2_with (first
    | (go_at_call 20; (with_reducible refine (HTK.out _).mono ?_); rintro x w1 ⟨rfl, hb1⟩; have OK1 := Lib.hid (OK.out.below hb1); clear hb1 d0 d1 d2 d3 d4 d5 d6 d7 z0 z1 z2 z3 z4 z5 z6 z7; obtain ⟨-, ⟨d0, d1, d2, d3, d4, d5, d6, d7⟩, z0, z1, z2, z3, z4, z5, z6, z7⟩ := KS.out _ OK1.out)
    | (go_at_call 83; (with_reducible refine (HC.out _ OK1.out).mono ?_); rintro x w6 ⟨u, rfl, hb6, hi6, hs6⟩; have HB6 := Lib.hid (OK1.out.below hb6); obtain ⟨k9, n9, s9, la9, ll9, lc9, L9, fa9, fl9, fc9, fn9, F9, e9, key9, hk9, rfl⟩ := in8 hi6.self; have HU := Lib.hid (And.intro hi6 hs6); clear hb6 hi6 hs6 d0 d1 d2 d3 d4 d5 d6 d7 z0 z1 z2 z3 z4 z5 z6 z7; obtain ⟨-, ⟨d0, d1, d2, d3, d4, d5, d6, d7⟩, z0, z1, z2, z3, z4, z5, z6, z7⟩ := KS.out _ HB6.out; simp only [V.agg, V.cells]))
  refine bodyPost_ret (v := .tuple #[(V.mk k9 n9 s9 la9 ll9 lc9 L9 fa9 fl9 fc9 fn9 F9 e9 key9 hk9).agg, .bool r]) (by simp [results, Tryz.results22, go_sem, d0, d1, d2, d3, d4, d5, d6, d7, V.agg, V.cells]) rfl (HR.out (V.mk k9 n9 s9 la9 ll9 lc9 L9 fa9 fl9 fc9 fn9 F9 e9 key9 hk9) _ _ rfl ?_ ?_ HU.out.2)
  · iterate 8 (with_reducible refine low_set ?_ _ _)
    exact HB6.out.low
  · iterate 8 (refine InS.set (.inr rfl) ?_)
    exact HU.out.1
set_option maxRecDepth 100000 in
set_option maxHeartbeats 8000000 in
theorem rdone_list (S : Nat → Prop) (la : Option Addr) (ll lc : Nat) (L : Nat → V) (w : World) (h : Vals w la ll lc L) (hck : ∀ i, i < ll → (L i).check = true) (hS : ∀ b, S b → b < w.heap.size) (hX : ∀ i, i < ll → InS S (L i) w) (hA : ∀ b o, la = some ⟨b, o, none⟩ → 0 < ll → ¬ S b) :
    Calls Tryz.prog 22 #[.string (opName 10), .slice la ll lc] w (OpX S 10 ll L w) := by
  have OK0 := OW.start h 30
  have hlc := h.hlc
  unfold maxLen at hlc
  have KS := Lib.hid (fun W (h : OW w la ll lc L W) => And.intro h h.rcells)
  have HTK := Lib.hid (fun W => rtakes_any (opName 10) W)
  rw [show tkV (opName 10) = .tuple #[.int .i64 (opLeast 10), .int .i64 (opMost 10), .bool true] from rfl] at HTK
  have HX := Lib.hid (fun W (h : OW w la ll lc L W) i (hi : i < ll) => show InS (fun b => S b ∨ b = w.heap.size) (L i) W from (inS_vals rfl (hX i hi)).below h.low)
  have HSB := Lib.hid (fun W (h : OW w la ll lc L W) b (hb : S b ∨ b = w.heap.size) => show b < W.heap.size from by
    rcases hb with q | q
    · have := hS b q; have := h.big; omega
    · have := h.big; omega)
  have HR : Hid (∀ (u : V) e w6, e = .returned (.tuple #[u.agg, .bool (opOk 10 ll L)]) → Below w.heap.size w w6 → InS (fun b => S b ∨ b = w.heap.size) u w6 → (opOk 10 ll L = true → u.same (opV 10 ll L) = true) → OpX S 10 ll L w e w6) := Lib.hid (fun u e w6 he hb hi hs => ⟨u, he, hb, hi.weak (fun b h => .inl h), hs⟩)
  have HV := Lib.hid h
  have HC : Hid (∀ W, OW w la ll lc L W → Calls Tryz.prog 84 #[.slice la ll lc] W fun e w' => ∃ u : V, e = .returned u.agg ∧ Below W.heap.size W w' ∧ InS (fun b => S b ∨ b = w.heap.size) u w' ∧ (true = true → u.same (opV 10 ll L) = true)) := Lib.hid (fun W hw => by
    refine (rList_any la ll lc L W).mono ?_
    rintro e w' ⟨rfl, hb⟩
    refine ⟨_, rfl, hb, InS.below (fun W' q => ⟨by omega, by omega, by decide, by omega, by decide, HV.out.hlc, ⟨Nat.le_refl _, by decide⟩, fun i hi => ⟨?_, HX.out W hw i hi W' q⟩, fun i hi => absurd hi (Nat.not_lt_zero _)⟩) hb, fun _ => ?_⟩
    · obtain ⟨⟨b, o, e, ha⟩, -⟩ := HV.out.el i hi
      obtain ⟨⟨b', o', e', ha'⟩, -⟩ := hw.vals.el i hi
      rw [e] at e'
      cases e'
      refine ⟨b, o, e, fun j hj => ?_⟩
      have e1 := ha' j hj
      have e2 := ha j hj
      rw [List.getElem?_eq_getElem hj] at e1 e2 ⊢
      refine q _ _ (fun hs => ?_) e1
      rcases hs with h1 | h1
      · exact hA b o e (by omega) h1
      · have := World.block_lt_of_cell? _ _ e2
        simp only at h1 this
        omega
    · show (lv la ll lc L).same (lv none ll ll L) = true
      exact lv_same fun i hi => In_same (HX.out W hw i hi).self)
  rw [show opOk 10 ll L = true from rfl] at HR
  obtain ⟨r, hr⟩ : ∃ r, r = true := ⟨_, rfl⟩
  clear hck hS hX HX HSB hA
  generalize opV 10 ll L = ov at HC HR
  simp only [opName, opLeast, opMost] at HTK ⊢
  simp only [nv, vz, V.cells] at OK0
  have OKH := Lib.hid OK0
  clear OK0 h
  go_enter Tryz.func22, Tryz.ntmps22
  go_upto_region 1 with fail
  have OKu := OKH.out
  generalize w.alloc (.cells #[.int .u8 0, .int .i64 0, .string ⟨#[]⟩, .slice none 0 0, .slice none 0 0, .int .u8 0, .string ⟨#[]⟩, .bool false] 30) = W0 at OKu ⊢
  have OK : Hid (OW w la ll lc L W0) := Lib.hid OKu
  clear OKu OKH
  obtain ⟨-, ⟨d0, d1, d2, d3, d4, d5, d6, d7⟩, z0, z1, z2, z3, z4, z5, z6, z7⟩ := KS.out _ OK.out
  go_wp2_with (first
    | (go_at_call 20; (with_reducible refine (HTK.out _).mono ?_); rintro x w1 ⟨rfl, hb1⟩; have OK1 := Lib.hid (OK.out.below hb1); clear hb1 d0 d1 d2 d3 d4 d5 d6 d7 z0 z1 z2 z3 z4 z5 z6 z7; obtain ⟨-, ⟨d0, d1, d2, d3, d4, d5, d6, d7⟩, z0, z1, z2, z3, z4, z5, z6, z7⟩ := KS.out _ OK1.out)
    | (go_at_call 84; (with_reducible refine (HC.out _ OK1.out).mono ?_); rintro x w6 ⟨u, rfl, hb6, hi6, hs6⟩; have HB6 := Lib.hid (OK1.out.below hb6); obtain ⟨k9, n9, s9, la9, ll9, lc9, L9, fa9, fl9, fc9, fn9, F9, e9, key9, hk9, rfl⟩ := in8 hi6.self; have HU := Lib.hid (And.intro hi6 hs6); clear hb6 hi6 hs6 d0 d1 d2 d3 d4 d5 d6 d7 z0 z1 z2 z3 z4 z5 z6 z7; obtain ⟨-, ⟨d0, d1, d2, d3, d4, d5, d6, d7⟩, z0, z1, z2, z3, z4, z5, z6, z7⟩ := KS.out _ HB6.out; simp only [V.agg, V.cells]))
  subst hr
  refine bodyPost_ret (v := .tuple #[(V.mk k9 n9 s9 la9 ll9 lc9 L9 fa9 fl9 fc9 fn9 F9 e9 key9 hk9).agg, .bool true]) (by simp [results, Tryz.results22, go_sem, d0, d1, d2, d3, d4, d5, d6, d7, V.agg, V.cells]) rfl (HR.out (V.mk k9 n9 s9 la9 ll9 lc9 L9 fa9 fl9 fc9 fn9 F9 e9 key9 hk9) _ _ rfl ?_ ?_ HU.out.2)
  · iterate 8 (with_reducible refine low_set ?_ _ _)
    exact HB6.out.low
  · iterate 8 (refine InS.set (.inr rfl) ?_)
    exact HU.out.1
set_option maxRecDepth 100000 in
set_option maxHeartbeats 8000000 in
theorem rdone_one (S : Nat → Prop) (k : Nat) (hk : k = 5 ∨ k = 7 ∨ k = 12) (la : Option Addr) (lc : Nat) (L : Nat → V) (w : World) (h : Vals w la 1 lc L) (hck : ∀ i, i < 1 → (L i).check = true) (hS : ∀ b, S b → b < w.heap.size) (hX : ∀ i, i < 1 → InS S (L i) w) :
    Calls Tryz.prog 22 #[.string (opName k), .slice la 1 lc] w (OpX S k 1 L w) := by
  have OK0 := OW.start h 30
  have hlc := h.hlc
  unfold maxLen at hlc
  have KS := Lib.hid (fun W (h : OW w la 1 lc L W) => And.intro h h.rcells)
  have HTK := Lib.hid (fun W => rtakes_any (opName k) W)
  rw [show tkV (opName k) = .tuple #[.int .i64 1, .int .i64 1, .bool true] by rcases hk with rfl | rfl | rfl <;> rfl] at HTK
  have HX := Lib.hid (fun W (h : OW w la 1 lc L W) i (hi : i < 1) => show InS (fun b => S b ∨ b = w.heap.size) (L i) W from (inS_vals rfl (hX i hi)).below h.low)
  have HSB := Lib.hid (fun W (h : OW w la 1 lc L W) b (hb : S b ∨ b = w.heap.size) => show b < W.heap.size from by
    rcases hb with q | q
    · have := hS b q; have := h.big; omega
    · have := h.big; omega)
  have HR : Hid (∀ (u : V) e w6, e = .returned (.tuple #[u.agg, .bool (opOk k 1 L)]) → Below w.heap.size w w6 → InS (fun b => S b ∨ b = w.heap.size) u w6 → (opOk k 1 L = true → u.same (opV k 1 L) = true) → OpX S k 1 L w e w6) := Lib.hid (fun u e w6 he hb hi hs => ⟨u, he, hb, hi.weak (fun b h => .inl h), hs⟩)
  have HC : Hid (∀ W, OW w la 1 lc L W → Calls Tryz.prog 85 #[.string (opName k), (L 0).agg] W (OpX (fun b => S b ∨ b = w.heap.size) k 1 L W)) := Lib.hid (fun W hw => by
    have hin := (hw.vals.el 0 (by omega)).2
    have hz : (L 0).size ≤ 1099511627776 := by have := ((check_iff _).1 (hck 0 (by omega))).2.1; omega
    rcases hk with rfl | rfl | rfl
    · exact rnot_any _ (L 0) W hin
    · exact rlen_any _ (L 0) W hin
    · exact rtx_any _ (L 0) W hin hz (HX.out W hw 0 (by omega)))
  unfold OpX at HC
  have HCE := Lib.hid (fun W (hw : OW w la 1 lc L W) => (hw.vals.el 0 (by omega)))
  obtain ⟨⟨b, o, rfl, -⟩, -⟩ := HCE.out _ OK0
  have HCL := Lib.hid (fun W (hw : OW w (some ⟨b, o, none⟩) 1 lc L W) => show At W b o (L 0).cells ∧ (L 0).In W from by
    obtain ⟨⟨b', o', e, ha⟩, hi⟩ := HCE.out W hw
    cases e
    exact ⟨by simpa using ha, hi⟩)
  clear hck hS hX HX HSB HCE
  generalize opOk k 1 L = r at HC HR
  generalize opV k 1 L = ov at HC HR
  obtain ⟨v, hv⟩ : ∃ v, L 0 = v := ⟨_, rfl⟩
  rw [hv] at HCL HC
  have hin := (HCL.out _ OK0).2
  clear hv
  cases v with
  | leaf => exact hin.elim
  | mk k1 n1 s1 la1 ll1 lc1 L1 fa1 fl1 fc1 fn1 F1 e1 key1 hk1 =>
  clear hin
  simp only [V.agg, V.cells] at HC
  obtain ⟨nm, hnm⟩ : ∃ nm, opName k = nm := ⟨_, rfl⟩
  have hq6 : (nm.toList == [99, 97, 116]) = false := by rw [← hnm]; rcases hk with rfl | rfl | rfl <;> decide +kernel
  have hq10 : (nm.toList == [108, 105, 115, 116]) = false := by rw [← hnm]; rcases hk with rfl | rfl | rfl <;> decide +kernel
  rw [hnm] at HC HTK ⊢
  clear hnm hk
  simp only [nv, vz, V.cells] at OK0
  have OKH := Lib.hid OK0
  clear OK0 h
  go_enter Tryz.func22, Tryz.ntmps22
  go_upto_region 1 with fail
  have OKu := OKH.out
  generalize w.alloc (.cells #[.int .u8 0, .int .i64 0, .string ⟨#[]⟩, .slice none 0 0, .slice none 0 0, .int .u8 0, .string ⟨#[]⟩, .bool false] 30) = W0 at OKu ⊢
  have OK : Hid (OW w (some ⟨b, o, none⟩) 1 lc L W0) := Lib.hid OKu
  clear OKu OKH
  obtain ⟨-, ⟨d0, d1, d2, d3, d4, d5, d6, d7⟩, z0, z1, z2, z3, z4, z5, z6, z7⟩ := KS.out _ OK.out
  go_wp2_with (first
    | (go_at_call 20; (with_reducible refine (HTK.out _).mono ?_); rintro x w1 ⟨rfl, hb1⟩; have OK1 := Lib.hid (OK.out.below hb1); clear hb1 d0 d1 d2 d3 d4 d5 d6 d7 z0 z1 z2 z3 z4 z5 z6 z7; obtain ⟨-, ⟨d0, d1, d2, d3, d4, d5, d6, d7⟩, z0, z1, z2, z3, z4, z5, z6, z7⟩ := KS.out _ OK1.out; obtain ⟨g0, g1, g2, g3, g4, g5, g6, g7⟩ := at8 (HCL.out _ OK1.out).1)
    | (go_at_call 85; (with_reducible refine (HC.out _ OK1.out).mono ?_); rintro x w6 ⟨u, rfl, hb6, hi6, hs6⟩; have HB6 := Lib.hid (OK1.out.below hb6); obtain ⟨k9, n9, s9, la9, ll9, lc9, L9, fa9, fl9, fc9, fn9, F9, e9, key9, hk9, rfl⟩ := in8 hi6.self; have HU := Lib.hid (And.intro hi6 hs6); clear hb6 hi6 hs6 d0 d1 d2 d3 d4 d5 d6 d7 z0 z1 z2 z3 z4 z5 z6 z7; obtain ⟨-, ⟨d0, d1, d2, d3, d4, d5, d6, d7⟩, z0, z1, z2, z3, z4, z5, z6, z7⟩ := KS.out _ HB6.out; simp only [V.agg, V.cells]))
  refine bodyPost_ret (v := .tuple #[(V.mk k9 n9 s9 la9 ll9 lc9 L9 fa9 fl9 fc9 fn9 F9 e9 key9 hk9).agg, .bool r]) (by simp [results, Tryz.results22, go_sem, d0, d1, d2, d3, d4, d5, d6, d7, V.agg, V.cells]) rfl (HR.out (V.mk k9 n9 s9 la9 ll9 lc9 L9 fa9 fl9 fc9 fn9 F9 e9 key9 hk9) _ _ rfl ?_ ?_ HU.out.2)
  · iterate 8 (with_reducible refine low_set ?_ _ _)
    exact HB6.out.low
  · iterate 8 (refine InS.set (.inr rfl) ?_)
    exact HU.out.1
set_option maxRecDepth 100000 in
set_option maxHeartbeats 8000000 in
theorem rdone_two (S : Nat → Prop) (k : Nat) (hk : k = 0 ∨ k = 1 ∨ k = 2 ∨ k = 3 ∨ k = 4 ∨ k = 8 ∨ k = 9 ∨ k = 11) (la : Option Addr) (lc : Nat) (L : Nat → V) (w : World) (h : Vals w la 2 lc L) (hck : ∀ i, i < 2 → (L i).check = true) (hS : ∀ b, S b → b < w.heap.size) (hX : ∀ i, i < 2 → InS S (L i) w) :
    Calls Tryz.prog 22 #[.string (opName k), .slice la 2 lc] w (OpX S k 2 L w) := by
  have OK0 := OW.start h 30
  have hlc := h.hlc
  unfold maxLen at hlc
  have KS := Lib.hid (fun W (h : OW w la 2 lc L W) => And.intro h h.rcells)
  have HTK := Lib.hid (fun W => rtakes_any (opName k) W)
  rw [show tkV (opName k) = .tuple #[.int .i64 2, .int .i64 2, .bool true] by rcases hk with rfl | rfl | rfl | rfl | rfl | rfl | rfl | rfl <;> rfl] at HTK
  have HX := Lib.hid (fun W (h : OW w la 2 lc L W) i (hi : i < 2) => show InS (fun b => S b ∨ b = w.heap.size) (L i) W from (inS_vals rfl (hX i hi)).below h.low)
  have HSB := Lib.hid (fun W (h : OW w la 2 lc L W) b (hb : S b ∨ b = w.heap.size) => show b < W.heap.size from by
    rcases hb with q | q
    · have := hS b q; have := h.big; omega
    · have := h.big; omega)
  have HR : Hid (∀ (u : V) e w6, e = .returned (.tuple #[u.agg, .bool (opOk k 2 L)]) → Below w.heap.size w w6 → InS (fun b => S b ∨ b = w.heap.size) u w6 → (opOk k 2 L = true → u.same (opV k 2 L) = true) → OpX S k 2 L w e w6) := Lib.hid (fun u e w6 he hb hi hs => ⟨u, he, hb, hi.weak (fun b h => .inl h), hs⟩)
  have HC : Hid (∀ W, OW w la 2 lc L W → Calls Tryz.prog 86 #[.string (opName k), .slice la 2 lc] W (OpX (fun b => S b ∨ b = w.heap.size) k 2 L W)) := Lib.hid (fun W hw =>
    rtwo_any _ k hk la lc L W hw.vals (hck 0 (by omega)) (HSB.out W hw) ⟨HX.out W hw 0 (by omega), HX.out W hw 1 (by omega)⟩)
  unfold OpX at HC
  clear hck hS hX HX HSB
  generalize opOk k 2 L = r at HC HR
  generalize opV k 2 L = ov at HC HR
  obtain ⟨nm, hnm⟩ : ∃ nm, opName k = nm := ⟨_, rfl⟩
  have hq6 : (nm.toList == [99, 97, 116]) = false := by rw [← hnm]; rcases hk with rfl | rfl | rfl | rfl | rfl | rfl | rfl | rfl <;> decide +kernel
  have hq10 : (nm.toList == [108, 105, 115, 116]) = false := by rw [← hnm]; rcases hk with rfl | rfl | rfl | rfl | rfl | rfl | rfl | rfl <;> decide +kernel
  rw [hnm] at HC HTK ⊢
  clear hnm hk
  simp only [nv, vz, V.cells] at OK0
  have OKH := Lib.hid OK0
  clear OK0 h
  go_enter Tryz.func22, Tryz.ntmps22
  go_upto_region 1 with fail
  have OKu := OKH.out
  generalize w.alloc (.cells #[.int .u8 0, .int .i64 0, .string ⟨#[]⟩, .slice none 0 0, .slice none 0 0, .int .u8 0, .string ⟨#[]⟩, .bool false] 30) = W0 at OKu ⊢
  have OK : Hid (OW w la 2 lc L W0) := Lib.hid OKu
  clear OKu OKH
  obtain ⟨-, ⟨d0, d1, d2, d3, d4, d5, d6, d7⟩, z0, z1, z2, z3, z4, z5, z6, z7⟩ := KS.out _ OK.out
  go_wp2_with (first
    | (go_at_call 20; (with_reducible refine (HTK.out _).mono ?_); rintro x w1 ⟨rfl, hb1⟩; have OK1 := Lib.hid (OK.out.below hb1); clear hb1 d0 d1 d2 d3 d4 d5 d6 d7 z0 z1 z2 z3 z4 z5 z6 z7; obtain ⟨-, ⟨d0, d1, d2, d3, d4, d5, d6, d7⟩, z0, z1, z2, z3, z4, z5, z6, z7⟩ := KS.out _ OK1.out)
    | (go_at_call 86; (with_reducible refine (HC.out _ OK1.out).mono ?_); rintro x w6 ⟨u, rfl, hb6, hi6, hs6⟩; have HB6 := Lib.hid (OK1.out.below hb6); obtain ⟨k9, n9, s9, la9, ll9, lc9, L9, fa9, fl9, fc9, fn9, F9, e9, key9, hk9, rfl⟩ := in8 hi6.self; have HU := Lib.hid (And.intro hi6 hs6); clear hb6 hi6 hs6 d0 d1 d2 d3 d4 d5 d6 d7 z0 z1 z2 z3 z4 z5 z6 z7; obtain ⟨-, ⟨d0, d1, d2, d3, d4, d5, d6, d7⟩, z0, z1, z2, z3, z4, z5, z6, z7⟩ := KS.out _ HB6.out; simp only [V.agg, V.cells]))
  refine bodyPost_ret (v := .tuple #[(V.mk k9 n9 s9 la9 ll9 lc9 L9 fa9 fl9 fc9 fn9 F9 e9 key9 hk9).agg, .bool r]) (by simp [results, Tryz.results22, go_sem, d0, d1, d2, d3, d4, d5, d6, d7, V.agg, V.cells]) rfl (HR.out (V.mk k9 n9 s9 la9 ll9 lc9 L9 fa9 fl9 fc9 fn9 F9 e9 key9 hk9) _ _ rfl ?_ ?_ HU.out.2)
  · iterate 8 (with_reducible refine low_set ?_ _ _)
    exact HB6.out.low
  · iterate 8 (refine InS.set (.inr rfl) ?_)
    exact HU.out.1
theorem rdone_any (S : Nat → Prop) (k : Nat) (hk : k < 13) (la : Option Addr) (ll lc : Nat) (L : Nat → V) (w : World) (h : Vals w la ll lc L) (ht : takesB (opLeast k) (opMost k) ll = true) (hck : ∀ i, i < ll → (L i).check = true) (hS : ∀ b, S b → b < w.heap.size) (hX : ∀ i, i < ll → InS S (L i) w) (hA : ∀ b o, la = some ⟨b, o, none⟩ → 0 < ll → ¬ S b) :
    Calls Tryz.prog 22 #[.string (opName k), .slice la ll lc] w (OpX S k ll L w) := by
  rcases takes_n hk ht with (rfl | rfl) | ⟨h1, rfl⟩ | ⟨h1, rfl⟩
  · exact rdone_cat S la ll lc L w h hck hS hX
  · exact rdone_list S la ll lc L w h hck hS hX hA
  · exact rdone_one S k h1 la lc L w h hck hS hX
  · exact rdone_two S k h1 la lc L w h hck hS hX
end Go.Proofs.YtmhemajcnfcdmaaGreatDoor.Od
namespace Go.Proofs.YtmhemajcnfcdmaaGreatDoor.Od
set_option linter.unusedVariables false
set_option linter.unusedSimpArgs false
open Go.RowKit Go.Deep Go.WideShapes
theorem sum_const {n m : Nat} {f : Nat → Nat} (h : ∀ i, i < n → f i ≤ m) : sumTo n f ≤ n * m := by
  induction n with
  | zero => exact Nat.zero_le _
  | succ n ih => rw [sumTo, Nat.succ_mul]; have := ih (fun i hi => h i (by omega)); have := h n (by omega); omega
theorem sum_at' {n i : Nat} {f : Nat → Nat} (hi : i < n) : f i ≤ sumTo n f := by
  induction n with
  | zero => exact absurd hi (Nat.not_lt_zero _)
  | succ n ih =>
    rw [sumTo]
    rcases Nat.lt_succ_iff_lt_or_eq.1 hi with h | rfl
    · have := ih h; omega
    · omega
theorem el_size {v : V} {i : Nat} (hi : i < v.len) : (v.el i).size ≤ v.size := by
  cases v with
  | leaf => exact absurd hi (Nat.not_lt_zero _)
  | mk k n s la ll lc L fa fl fc fn F e key hk =>
    have : (L i).size ≤ sumTo ll (fun i => (L i).size) := sum_at' (f := fun i => (L i).size) hi
    show (L i).size ≤ _
    rw [V.size]; omega
theorem fel_size {v : V} {i : Nat} (hi : i < v.flen) : (v.fel i).size ≤ v.size := by
  cases v with
  | leaf => exact absurd hi (Nat.not_lt_zero _)
  | mk k n s la ll lc L fa fl fc fn F e key hk =>
    have : (F i).size ≤ sumTo fl (fun i => (F i).size) := sum_at' (f := fun i => (F i).size) hi
    show (F i).size ≤ _
    rw [V.size]; omega
theorem lv_size {n : Nat} {L : Nat → V} : (lv none n n L).size = 1 + sumTo n (fun i => (L i).size) := by
  rw [lv, V.size]; simp [sumTo]
theorem vz_size {k n : Int} {s : ByteArray} : (vz k n s).size = 1 := by rw [vz, V.size]; simp [sumTo]
theorem get_size {v : V} {nm : ByteArray} (h : v.size ≤ 4096) : (v.get nm).size ≤ 4096 := by
  unfold V.get
  cases e : findF v.flen v.fnm nm with
  | none => show nv.size ≤ 4096; rw [nv, vz_size]; omega
  | some i => exact Nat.le_trans (fel_size (findF_lt e).1) h
theorem opV_size {k n : Nat} {L : Nat → V} (hk : k < 13) (ht : takesB (opLeast k) (opMost k) n = true) (hn : n ≤ 1048576) (h : ∀ i, i < n → (L i).size ≤ 4096) (hl : ∀ i, i < n → (L i).len ≤ 4096) : (opV k n L).size ≤ 1099511627776 := by
  have one : ∀ {k n : Int} {s : ByteArray}, (vz k n s).size ≤ 1099511627776 := fun {k n s} => by rw [vz_size]; omega
  match k, hk with
  | 0, _ | 1, _ | 2, _ | 4, _ | 5, _ => exact one
  | 3, _ => show (if _ then bv _ else bv _ : V).size ≤ _; split <;> exact one
  | 6, _ => exact one
  | 7, _ => show (if _ then iv _ else iv _ : V).size ≤ _; split <;> exact one
  | 8, _ =>
    obtain rfl := takes2 ht
    show (if 0 ≤ (L 1).num ∧ (L 1).num < (L 0).len then (L 0).el (L 1).num.toNat else nv : V).size ≤ _
    split
    · rename_i q
      have := el_size (v := L 0) (i := (L 1).num.toNat) (by omega)
      have := h 0 (by omega)
      omega
    · exact one
  | 9, _ =>
    obtain rfl := takes2 ht
    have := get_size (v := L 0) (nm := (L 1).str) (h 0 (by omega))
    show ((L 0).get (L 1).str).size ≤ _
    omega
  | 10, _ =>
    show (lv none n n L).size ≤ _
    rw [lv_size]
    have := sum_const h
    have := Nat.mul_le_mul_right 4096 hn
    omega
  | 11, _ =>
    obtain rfl := takes2 ht
    show (lv none ((L 0).len + 1) ((L 0).len + 1) (snocV (L 0).len (L 0).el (L 1))).size ≤ _
    rw [lv_size]
    have h0 := h 0 (by omega)
    have h1 := h 1 (by omega)
    have h2 := hl 0 (by omega)
    have := sum_const (n := (L 0).len + 1) (m := 4096) (f := fun i => (snocV (L 0).len (L 0).el (L 1) i).size) (fun i hi => by
      show (snocV (L 0).len (L 0).el (L 1) i).size ≤ _
      unfold snocV
      split
      · have := el_size (v := L 0) (i := i) (by assumption); omega
      · exact h1)
    have := Nat.mul_le_mul_right 4096 (show (L 0).len + 1 ≤ 4097 by omega)
    omega
  | 12, _ =>
    obtain rfl := takes1 ht
    show (if (L 0).kind = 3 then L 0 else sv (L 0).text : V).size ≤ _
    split
    · have := h 0 (by omega); omega
    · exact one
  | k + 13, h => exact absurd h (by omega)
def DoX (name : ByteArray) (n : Nat) (L : Nat → V) (w : World) (e : Ending) (w' : World) : Prop :=
  ∃ u : V, e = .returned (.tuple #[u.agg, .bool (doB name n L)]) ∧ Below w.heap.size w w' ∧ u.In w' ∧ (doB name n L = true → u.same (doV name n L) = true) ∧ (doB name n L = false → u = nv)
set_option maxRecDepth 100000 in
set_option maxHeartbeats 8000000 in
theorem rdo_none (name : ByteArray) (la : Option Addr) (ll lc : Nat) (L : Nat → V) (w : World) (h : Vals w la ll lc L) (hn : opAt name = none) :
    Calls Tryz.prog 8 #[.string name, .slice la ll lc] w (DoX name ll L w) := by
  have OK0 := OW.start h 30
  have hlc := h.hlc
  unfold maxLen at hlc
  have KS := Lib.hid (fun W (h : OW w la ll lc L W) => And.intro h h.rcells)
  have HTK := Lib.hid (fun W => rtakes_any name W)
  rw [show tkV name = .tuple #[.int .i64 0, .int .i64 0, .bool false] by unfold tkV; rw [hn]] at HTK
  have hf := doB_none (n := ll) (L := L) hn
  have HF := Lib.hid hf
  have HN : Hid (∀ e w', doB name ll L = false → e = .returned (.tuple #[nv.agg, .bool false]) → Below w.heap.size w w' → DoX name ll L w e w') := Lib.hid (fun e w' q he hb => ⟨nv, by rw [q]; exact he, hb, nv_in _, (fun q' => (by rw [q] at q'; cases q')), fun _ => rfl⟩)
  clear hf hn
  simp only [nv, vz, V.cells] at OK0
  have OKH := Lib.hid OK0
  clear OK0 h
  go_enter Tryz.func8, Tryz.ntmps8
  go_upto_region 1 with fail
  have OKu := OKH.out
  generalize w.alloc (.cells #[.int .u8 0, .int .i64 0, .string ⟨#[]⟩, .slice none 0 0, .slice none 0 0, .int .u8 0, .string ⟨#[]⟩, .bool false] 30) = W0 at OKu ⊢
  have OK : Hid (OW w la ll lc L W0) := Lib.hid OKu
  clear OKu OKH
  go_wp2_with (go_at_call 20; (with_reducible refine (HTK.out _).mono ?_); rintro x w1 ⟨rfl, hb1⟩; have OK1 := Lib.hid (OK.out.below hb1); clear hb1; obtain ⟨-, ⟨d0, d1, d2, d3, d4, d5, d6, d7⟩, z0, z1, z2, z3, z4, z5, z6, z7⟩ := KS.out _ OK1.out)
  refine bodyPost_ret (v := .tuple #[nv.agg, .bool false]) (by simp [results, Tryz.results8, go_sem, d0, d1, d2, d3, d4, d5, d6, d7, nv, vz, V.agg, V.cells]) rfl (HN.out _ _ HF.out rfl ?_)
  iterate 8 (with_reducible refine low_set ?_ _ _)
  exact OK1.out.low
set_option maxRecDepth 100000 in
set_option maxHeartbeats 8000000 in
theorem rdo_some (name : ByteArray) (k : Nat) (la : Option Addr) (ll lc : Nat) (L : Nat → V) (w : World) (h : Vals w la ll lc L) (hsz : ∀ i, i < ll → (L i).size ≤ 1099511627776) (hll : ll ≤ 1048576) (hk : opAt name = some k) :
    Calls Tryz.prog 8 #[.string name, .slice la ll lc] w (DoX name ll L w) := by
  have OK0 := OW.start h 30
  have hlc := h.hlc
  unfold maxLen at hlc
  have hk13 : k < 13 := (findF_lt hk).1
  have hnm : opName k = name := (findF_lt hk).2
  have KS := Lib.hid (fun W (h : OW w la ll lc L W) => And.intro h h.rcells)
  have HTK := Lib.hid (fun W => rtakes_any name W)
  rw [show tkV name = .tuple #[.int .i64 (opLeast k), .int .i64 (opMost k), .bool true] by unfold tkV; rw [hk]] at HTK
  have hdb := doB_some (n := ll) (L := L) hk
  have hdv := doV_some (n := ll) (L := L) hk
  have HN : Hid (∀ e w', doB name ll L = false → e = .returned (.tuple #[nv.agg, .bool false]) → Below w.heap.size w w' → DoX name ll L w e w') := Lib.hid (fun e w' q he hb => ⟨nv, by rw [q]; exact he, hb, nv_in _, (fun q' => (by rw [q] at q'; cases q')), fun _ => rfl⟩)
  have HY : Hid (∀ (u : V) e w', doB name ll L = true → u.same (opV k ll L) = true → e = .returned (.tuple #[u.agg, .bool true]) → Below w.heap.size w w' → u.In w' → DoX name ll L w e w') := Lib.hid (fun u e w' q hs he hb hi => ⟨u, by rw [q]; exact he, hb, hi, (fun _ => (by rw [hdv]; exact hs)), fun q' => (by rw [q] at q'; cases q')⟩)
  have HCH := Lib.hid (fun j (hj : j < ll) W (hw : OW w la ll lc L W) => rcheck_any (L j) W (hw.vals.el j hj).2 (hsz j hj))
  have HDN := Lib.hid (fun (ht : takesB (opLeast k) (opMost k) ll = true) (hck : ∀ i, i < ll → (L i).check = true) W (hw : OW w la ll lc L W) => show Calls Tryz.prog 22 #[.string name, .slice la ll lc] W (OpX (fun b => b = w.heap.size) k ll L W) from by
    rw [← hnm]
    refine rdone_any _ k hk13 la ll lc L W hw.vals ht hck (fun b hb => by have := hw.big; omega) (fun i hi => InS.below (InS.of (hw.base.el i hi).2 (fun b hb => by omega)) hw.low) (fun b o e h0 hb => ?_)
    obtain ⟨⟨b', o', e', ha⟩, hi⟩ := hw.base.el 0 h0
    rw [e] at e'
    cases e'
    have h1 : (L 0).cells.length = 8 := in_cells hi
    have h2 := ha 0 (by omega)
    rw [List.getElem?_eq_getElem (by omega)] at h2
    have := World.block_lt_of_cell? _ _ h2
    simp only at this
    omega)
  have HZ : Hid (takesB (opLeast k) (opMost k) ll = true → (∀ i, i < ll → (L i).check = true) → (opV k ll L).size ≤ 1099511627776) := Lib.hid (fun ht hck => opV_size hk13 ht hll (fun i hi => ((check_iff _).1 (hck i hi)).2.1) (fun i hi => check_len (hck i hi) (h.el i hi).2))
  have HCU := Lib.hid (fun (u : V) W (hi : u.In W) (hs : u.size ≤ 1099511627776) => rcheck_any u W hi hs)
  obtain ⟨x, hx⟩ : ∃ x, opLeast k = x := ⟨_, rfl⟩
  obtain ⟨y, hy⟩ : ∃ y, opMost k = y := ⟨_, rfl⟩
  have hxy : (0 ≤ x ∧ x ≤ 2) ∧ (y = -1 ∨ (0 ≤ y ∧ y ≤ 2)) := by
    rw [← hx, ← hy]
    match k, hk13 with
    | 0, _ | 1, _ | 2, _ | 3, _ | 4, _ | 5, _ | 6, _ | 7, _ | 8, _ | 9, _ | 10, _ | 11, _ | 12, _ => decide
    | k + 13, h => exact absurd h (by omega)
  rw [hx, hy] at HTK HDN HZ hdb
  clear hx hy hdv hnm hk hk13 hsz
  have HDB := Lib.hid hdb
  clear hdb
  simp only [nv, vz, V.cells] at OK0
  have OKH := Lib.hid OK0
  clear OK0 h
  by_cases ht : takesB x y ll = true
  case neg =>
    have HF : Hid (doB name ll L = false) := Lib.hid (by rw [HDB.out]; cases q : takesB x y ll <;> simp_all)
    have htf : (ll : Int) < x ∨ (x ≤ (ll : Int) ∧ 0 ≤ y ∧ y < (ll : Int)) := by
      simp only [takesB, Bool.and_eq_true, Bool.or_eq_true, decide_eq_true_iff] at ht
      omega
    clear ht HDB HDN HZ HCU HCH HY
    rcases htf with h1 | ⟨h1, h2, h3⟩
    all_goals
      go_enter Tryz.func8, Tryz.ntmps8
      go_upto_region 1 with fail
      have OKu := OKH.out
      generalize w.alloc (.cells #[.int .u8 0, .int .i64 0, .string ⟨#[]⟩, .slice none 0 0, .slice none 0 0, .int .u8 0, .string ⟨#[]⟩, .bool false] 30) = W0 at OKu ⊢
      have OK : Hid (OW w la ll lc L W0) := Lib.hid OKu
      clear OKu OKH
      go_wp2_with (go_at_call 20; (with_reducible refine (HTK.out _).mono ?_); rintro x w1 ⟨rfl, hb1⟩; have OK1 := Lib.hid (OK.out.below hb1); clear hb1; obtain ⟨-, ⟨d0, d1, d2, d3, d4, d5, d6, d7⟩, z0, z1, z2, z3, z4, z5, z6, z7⟩ := KS.out _ OK1.out)
      refine bodyPost_ret (v := .tuple #[nv.agg, .bool false]) (by simp [results, Tryz.results8, go_sem, d0, d1, d2, d3, d4, d5, d6, d7, nv, vz, V.agg, V.cells]) rfl (HN.out _ _ HF.out rfl ?_)
      iterate 8 (with_reducible refine low_set ?_ _ _)
      exact OK1.out.low
  case pos =>
  have h1 : x ≤ (ll : Int) ∧ (y = -1 ∨ (0 ≤ y ∧ (ll : Int) ≤ y)) := by
    simp only [takesB, Bool.and_eq_true, Bool.or_eq_true, decide_eq_true_iff] at ht
    omega
  have HT := Lib.hid ht
  clear ht hxy
  go_enter Tryz.func8, Tryz.ntmps8
  go_upto_region 1 with fail
  have OKu := OKH.out
  generalize w.alloc (.cells #[.int .u8 0, .int .i64 0, .string ⟨#[]⟩, .slice none 0 0, .slice none 0 0, .int .u8 0, .string ⟨#[]⟩, .bool false] 30) = W0 at OKu ⊢
  have OK : Hid (OW w la ll lc L W0) := Lib.hid OKu
  clear OKu OKH
  obtain ⟨h1a, h1b⟩ := h1
  rcases h1b with rfl | ⟨h2, h3⟩
  all_goals
    go_wp2_with (go_at_call 20; (with_reducible refine (HTK.out _).mono ?_); rintro x w1 ⟨rfl, hb1⟩; have OK1 := Lib.hid (OK.out.below hb1); clear hb1)
    go_loopw [9] (fun i wr => ∃ j : Nat, j ≤ ll ∧ i = .int .i64 j ∧ (∀ i, i < j → (L i).check = true) ∧ OW w la ll lc L wr) (fun i _ => ll - (intOf i).toNat)
    case atStart => exact ⟨0, Nat.zero_le _, rfl, fun i hi => absurd hi (Nat.not_lt_zero _), OK1.out⟩
    case round =>
      obtain ⟨j, hj, rfl, hall, how⟩ := hrel
      have HO := Lib.hid how
      have HA := Lib.hid hall
      clear how hall OK OK1
      obtain ⟨-, ⟨d0, d1, d2, d3, d4, d5, d6, d7⟩, z0, z1, z2, z3, z4, z5, z6, z7⟩ := KS.out _ HO.out
      by_cases hlt : j < ll
      · obtain ⟨⟨b, o, rfl, hat⟩, hin⟩ := HO.out.vals.el j hlt
        have HC := Lib.hid (HCH.out j hlt _ HO.out)
        have HNJ : Hid ((L j).check = true → ∀ i, i < j + 1 → (L i).check = true) := Lib.hid (fun q i hi => by
          rcases Nat.lt_succ_iff_lt_or_eq.1 hi with h | rfl
          · exact HA.out i h
          · exact q)
        have HFJ : Hid ((L j).check = false → doB name ll L = false) := Lib.hid (fun q => by
          rw [HDB.out, allB_false (k := j) (p := fun i => (L i).check) hlt q]; simp)
        obtain ⟨v, hv⟩ : ∃ v, L j = v := ⟨_, rfl⟩
        rw [hv] at hat hin HC HNJ HFJ
        clear hv
        cases v with
        | leaf => exact hin.elim
        | mk k2 n2 s2 la2 ll2 lc2 L2 fa2 fl2 fc2 fn2 F2 e2 key2 hk2 =>
        obtain ⟨c0, c1, c2, c3, c4, c5, c6, c7⟩ := at8 hat
        generalize (V.mk k2 n2 s2 la2 ll2 lc2 L2 fa2 fl2 fc2 fn2 F2 e2 key2 hk2).check = ck at HC HNJ HFJ
        clear hat hin
        simp only [V.agg, V.cells] at HC
        have hl0 : (0 : Int) ≤ (j : Int) := by omega
        have hli : (j : Int) < (ll : Int) := by omega
        cases ck with
        | true =>
          go_wp2_with (go_at_call 21; (with_reducible refine (HC.out).mono ?_); rintro x w6 ⟨rfl, hb6⟩; have HO6 := Lib.hid (HO.out.below hb6); clear hb6 HC)
          go_roundw
          case rel => exact ⟨j + 1, by omega, by go_num, HNJ.out (by trivial), HO6.out⟩
          case measure => simp [intOf]; omega
        | false =>
          have HF := Lib.hid (HFJ.out rfl)
          go_wp2_with (go_at_call 21; (with_reducible refine (HC.out).mono ?_); rintro x w6 ⟨rfl, hb6⟩; have HO6 := Lib.hid (HO.out.below hb6); clear hb6 HC d0 d1 d2 d3 d4 d5 d6 d7 z0 z1 z2 z3 z4 z5 z6 z7; obtain ⟨-, ⟨d0, d1, d2, d3, d4, d5, d6, d7⟩, z0, z1, z2, z3, z4, z5, z6, z7⟩ := KS.out _ HO6.out)
          refine bodyPost_ret (v := .tuple #[nv.agg, .bool false]) (by simp [results, Tryz.results8, go_sem, d0, d1, d2, d3, d4, d5, d6, d7, nv, vz, V.agg, V.cells]) rfl (HN.out _ _ HF.out rfl ?_)
          iterate 8 (with_reducible refine low_set ?_ _ _)
          exact HO6.out.low
      · obtain rfl : j = ll := by omega
        have HZZ := Lib.hid (HZ.out HT.out HA.out)
        have HD := Lib.hid (fun W hw => HDN.out HT.out HA.out W hw)
        unfold OpX at HD
        have HDD : Hid (doB name j L = (opOk k j L && (opV k j L).check)) := Lib.hid (by
          have q : allB j (fun i => (L i).check) = true := allB_true.2 HA.out
          rw [HDB.out, HT.out, q]; rfl)
        clear HDN HZ HCH HDB hlt
        generalize opOk k j L = ok at HD HDD
        generalize opV k j L = ov at HD HDD HZZ HY
        generalize doB name j L = db at HDD HN HY
        go_upto_region 10 with (go_at_call 22; (with_reducible refine (HD.out _ HO.out).mono ?_); rintro x w6 ⟨u, rfl, hb6, hi6, hs6⟩; have HO6 := Lib.hid (HO.out.below hb6); obtain ⟨k9, n9, s9, la9, ll9, lc9, L9, fa9, fl9, fc9, fn9, F9, e9, key9, hk9, rfl⟩ := in8 hi6.self; have HU := Lib.hid (And.intro hi6 hs6); clear hb6 hi6 hs6 d0 d1 d2 d3 d4 d5 d6 d7 z0 z1 z2 z3 z4 z5 z6 z7; simp only [V.agg, V.cells])
        have HO7 := Lib.hid (And.intro (HO6.out.alloc (.cells (V.mk k9 n9 s9 la9 ll9 lc9 L9 fa9 fl9 fc9 fn9 F9 e9 key9 hk9).cells.toArray 30)) (And.intro (HU.out.1.below (below_alloc w6 (.cells (V.mk k9 n9 s9 la9 ll9 lc9 L9 fa9 fl9 fc9 fn9 F9 e9 key9 hk9).cells.toArray 30))) (And.intro (at_new (w := w6) (cs := (V.mk k9 n9 s9 la9 ll9 lc9 L9 fa9 fl9 fc9 fn9 F9 e9 key9 hk9).cells) (T := 30) rfl (Below.refl _ _)) HO6.out.big)))
        simp only [V.cells] at HO7
        revert HO7
        generalize w6.alloc (.cells #[.int .u8 k9, .int .i64 n9, .string s9, .slice la9 ll9 lc9, .slice fa9 fl9 fc9, .int .u8 e9, .string key9, .bool hk9] 30) = w7
        generalize w6.heap.size = bb
        intro HO7
        have HO7 : Hid (OW w la j lc L w7 ∧ InS (fun b => b = w.heap.size) (V.mk k9 n9 s9 la9 ll9 lc9 L9 fa9 fl9 fc9 fn9 F9 e9 key9 hk9) w7 ∧ At w7 bb 0 (V.mk k9 n9 s9 la9 ll9 lc9 L9 fa9 fl9 fc9 fn9 F9 e9 key9 hk9).cells ∧ w.heap.size < bb) := HO7
        obtain ⟨-, ⟨d0, d1, d2, d3, d4, d5, d6, d7⟩, z0, z1, z2, z3, z4, z5, z6, z7⟩ := KS.out _ HO7.out.1
        cases ok with
        | false =>
          have HF : Hid (db = false) := Lib.hid (by rw [HDD.out]; rfl)
          go_wp2_with fail
          refine bodyPost_ret (v := .tuple #[nv.agg, .bool false]) (by simp [results, Tryz.results8, go_sem, d0, d1, d2, d3, d4, d5, d6, d7, nv, vz, V.agg, V.cells]) rfl (HN.out _ _ HF.out rfl ?_)
          iterate 8 (with_reducible refine low_set ?_ _ _)
          exact HO7.out.1.low
        | true =>
          have hss := HU.out.2 (by trivial)
          have hcu : (V.mk k9 n9 s9 la9 ll9 lc9 L9 fa9 fl9 fc9 fn9 F9 e9 key9 hk9).check = ov.check := by rw [← same_check hss]
          have husz : (V.mk k9 n9 s9 la9 ll9 lc9 L9 fa9 fl9 fc9 fn9 F9 e9 key9 hk9).size ≤ 1099511627776 := by rw [← (same_size _ _ hss).1]; exact HZZ.out
          have HS9 := Lib.hid hss
          have HC9 := Lib.hid (HCU.out (V.mk k9 n9 s9 la9 ll9 lc9 L9 fa9 fl9 fc9 fn9 F9 e9 key9 hk9) w7 HO7.out.2.1.self husz)
          rw [hcu] at HC9
          clear hss hcu husz
          obtain ⟨g0, g1, g2, g3, g4, g5, g6, g7⟩ := at80 HO7.out.2.2.1
          generalize ov.check = ck at HC9 HDD
          simp only [V.agg, V.cells] at HC9
          cases ck with
          | false =>
            have HF : Hid (db = false) := Lib.hid (by rw [HDD.out]; rfl)
            go_wp2_with (go_at_call 21; (with_reducible refine (HC9.out).mono ?_); rintro x w8 ⟨rfl, hb8⟩; have HO8 := Lib.hid (HO7.out.1.below hb8); clear hb8 HC9 d0 d1 d2 d3 d4 d5 d6 d7 z0 z1 z2 z3 z4 z5 z6 z7 g0 g1 g2 g3 g4 g5 g6 g7; obtain ⟨-, ⟨d0, d1, d2, d3, d4, d5, d6, d7⟩, z0, z1, z2, z3, z4, z5, z6, z7⟩ := KS.out _ HO8.out)
            refine bodyPost_ret (v := .tuple #[nv.agg, .bool false]) (by simp [results, Tryz.results8, go_sem, d0, d1, d2, d3, d4, d5, d6, d7, nv, vz, V.agg, V.cells]) rfl (HN.out _ _ HF.out rfl ?_)
            iterate 8 (with_reducible refine low_set ?_ _ _)
            exact HO8.out.low
          | true =>
            have HT9 : Hid (db = true) := Lib.hid (by rw [HDD.out]; rfl)
            go_wp2_with (go_at_call 21; (with_reducible refine (HC9.out).mono ?_); rintro x w8 ⟨rfl, hb8⟩; have HO8 := Lib.hid (And.intro (HO7.out.1.below hb8) (And.intro (HO7.out.2.1.below hb8) (HO7.out.2.2.1.below hb8))); clear hb8 HC9 d0 d1 d2 d3 d4 d5 d6 d7 z0 z1 z2 z3 z4 z5 z6 z7 g0 g1 g2 g3 g4 g5 g6 g7; obtain ⟨-, ⟨d0, d1, d2, d3, d4, d5, d6, d7⟩, z0, z1, z2, z3, z4, z5, z6, z7⟩ := KS.out _ HO8.out.1; obtain ⟨g0, g1, g2, g3, g4, g5, g6, g7⟩ := at80 HO8.out.2.2)
            refine bodyPost_ret (v := .tuple #[(V.mk k9 n9 s9 la9 ll9 lc9 L9 fa9 fl9 fc9 fn9 F9 e9 key9 hk9).agg, .bool true]) (by simp [results, Tryz.results8, go_sem, d0, d1, d2, d3, d4, d5, d6, d7, V.agg, V.cells]) rfl (HY.out (V.mk k9 n9 s9 la9 ll9 lc9 L9 fa9 fl9 fc9 fn9 F9 e9 key9 hk9) _ _ HT9.out HS9.out rfl ?_ ?_)
            · iterate 8 (with_reducible refine low_set ?_ _ _)
              exact HO8.out.1.low
            · refine InS.self (S := fun b => b = w.heap.size) ?_
              iterate 8 (refine InS.set rfl ?_)
              exact HO8.out.2.1
theorem rDo_any (name : ByteArray) (la : Option Addr) (ll lc : Nat) (L : Nat → V) (w : World) (h : Vals w la ll lc L) (hsz : ∀ i, i < ll → (L i).size ≤ 1099511627776) (hll : ll ≤ 1048576) :
    Calls Tryz.prog 8 #[.string name, .slice la ll lc] w (DoX name ll L w) := by
  cases hk : opAt name with
  | none => exact rdo_none name la ll lc L w h hk
  | some k => exact rdo_some name k la ll lc L w h hsz hll hk
end Go.Proofs.YtmhemajcnfcdmaaGreatDoor.Od
