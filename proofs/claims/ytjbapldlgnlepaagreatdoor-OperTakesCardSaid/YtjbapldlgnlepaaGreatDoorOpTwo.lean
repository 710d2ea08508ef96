/-
  Walks: at of package oper answers 'opV', 'opOk'.
  Conditions: the values lie in memory.
  Walks: get of package oper answers 'opV', 'opOk'.
  Conditions: the values lie in memory.
-/
import Derived.Test.YtjbapldlgnlepaaGreatDoorOpOne
namespace Go.Proofs.YtjbapldlgnlepaaGreatDoor
open Go.RowKit Go.Deep Go.WideShapes

/-- The value at a place. -/
def atV (n : Int) (ll : Nat) (L : Nat → V) : V := if 0 ≤ n ∧ n < ll then L n.toNat else nv
theorem atV_no {n : Int} {ll : Nat} {L : Nat → V} (h : ¬ (0 ≤ n ∧ n < ll)) : nv.same (atV n ll L) = true := by
  rw [atV, if_neg h]; exact vz_same _ _ _
theorem atV_yes {i ll : Nat} {L : Nat → V} (h : i < ll) : atV i ll L = L i := by
  rw [atV, if_pos (by omega)]; rfl

set_option maxRecDepth 100000 in
set_option maxHeartbeats 4000000 in
theorem at_any (la : Option Addr) (lc : Nat) (L : Nat → V) (w : World) (h : Vals w la 2 lc L) : Calls Tryz.prog 91 #[.slice la 2 lc] w (OpPost 8 2 L w) := by
  have OK0 := OW.start h 55
  have hlc := h.hlc
  unfold maxLen at hlc
  obtain ⟨b, o, rfl, -⟩ := OK0.two
  have HC := Lib.hid (fun W kb (h : OW w (some ⟨b, o, none⟩) 2 lc L W) hk => are2 4 1 W kb h hk)
  obtain ⟨r, hr⟩ : ∃ r, (decide ((L 0).kind = 4) && decide ((L 1).kind = 1)) = r := ⟨_, rfl⟩
  have HP : Hid (∀ e w', (∃ u : V, e = .returned (.tuple #[u.agg, .bool r]) ∧ Below w.heap.size w w' ∧ u.In w' ∧ (r = true → u.same (atV (L 1).num (L 0).len (L 0).el) = true)) → OpPost 8 2 L w e w') := by
    rintro e w' ⟨u, h1, h2, h3, h4⟩
    have e1 : opOk 8 2 L = r := hr
    exact ⟨u, by rw [e1]; exact h1, h2, h3, by rw [e1]; exact h4⟩
  rw [hr] at HC
  clear hr
  have HX := Lib.hid (fun W (h : OW w (some ⟨b, o, none⟩) 2 lc L W) => ow_cells2 h)
  have hi0 := (ow_cells2 OK0).1.2
  have hi1 := (ow_cells2 OK0).2.2
  obtain ⟨x, hx⟩ : ∃ x, L 0 = x := ⟨_, rfl⟩
  obtain ⟨y, hy⟩ : ∃ y, L 1 = y := ⟨_, rfl⟩
  rw [hx, hy] at HX HP
  rw [hx] at hi0
  rw [hy] at hi1
  clear hx hy
  cases x with
  | leaf => exact hi0.elim
  | mk k1 n1 s1 la1 ll1 lc1 L1 fa1 fl1 fc1 fn1 F1 e1 key1 hk1 =>
  cases y with
  | leaf => exact hi1.elim
  | mk k2 n2 s2 la2 ll2 lc2 L2 fa2 fl2 fc2 fn2 F2 e2 key2 hk2 =>
  have hl1 := hi0.2.2.2.2.2.1
  have hn2 := hi1.2.1
  unfold maxLen at hl1
  clear hi0 hi1
  have KS := Lib.hid (fun W (h : OW w (some ⟨b, o, none⟩) 2 lc L W) => And.intro h (And.intro (And.intro (at8 (HX.out W h).1.1) (at8 (HX.out W h).2.1)) h.rcells))
  have HE := Lib.hid (fun W (h : OW w (some ⟨b, o, none⟩) 2 lc L W) => (HX.out W h).1.2.2.2.2.2.2.2.2.1)
  clear HX
  simp only [V.num, V.len, V.el] at HP
  simp only [nv, vz, V.cells] at OK0
  have OKH := Lib.hid OK0
  clear OK0 h
  cases r
  · go_enter Tryz.func91, Tryz.ntmps91
    go_upto_region 1 with fail
    have OKu := OKH.out
    generalize w.alloc (.cells #[.int .u8 0, .int .i64 0, .string ⟨#[]⟩, .slice none 0 0, .slice none 0 0, .int .u8 0, .string ⟨#[]⟩, .bool false] 55) = W0 at OKu ⊢
    have OK : OW w (some ⟨b, o, none⟩) 2 lc L W0 := OKu
    clear OKu OKH
    go_wp2_with (go_at_call 134; (with_reducible refine (HC.out _ _ (OW.alloc OK _) (kat2 _ _ _ _)).mono ?_); rintro q w2 ⟨rfl, OK2⟩; have HB := Lib.hid OK2.low; obtain ⟨-, ⟨⟨c0, c1, c2, c3, c4, c5, c6, c7⟩, ⟨f0, f1, f2, f3, f4, f5, f6, f7⟩⟩, ⟨d0, d1, d2, d3, d4, d5, d6, d7⟩, z0, z1, z2, z3, z4, z5, z6, z7⟩ := KS.out _ OK2)
    refine bodyPost_ret (v := .tuple #[(nv).agg, .bool false]) (by simp [results, Tryz.results91, go_sem, d0, d1, d2, d3, d4, d5, d6, d7, nv, vz, V.agg, V.cells]) rfl (HP.out _ _ ⟨_, rfl, ?_, nv_in _, fun h => by cases h⟩)
    iterate 8 (with_reducible refine low_set ?_ _ _)
    exact HB.out
  by_cases hneg : n2 < 0
  · go_enter Tryz.func91, Tryz.ntmps91
    go_upto_region 1 with fail
    have OKu := OKH.out
    generalize w.alloc (.cells #[.int .u8 0, .int .i64 0, .string ⟨#[]⟩, .slice none 0 0, .slice none 0 0, .int .u8 0, .string ⟨#[]⟩, .bool false] 55) = W0 at OKu ⊢
    have OK : OW w (some ⟨b, o, none⟩) 2 lc L W0 := OKu
    clear OKu OKH
    go_wp2_with (go_at_call 134; (with_reducible refine (HC.out _ _ (OW.alloc OK _) (kat2 _ _ _ _)).mono ?_); rintro q w2 ⟨rfl, OK2⟩; have HB := Lib.hid OK2.low; obtain ⟨-, ⟨⟨c0, c1, c2, c3, c4, c5, c6, c7⟩, ⟨f0, f1, f2, f3, f4, f5, f6, f7⟩⟩, ⟨d0, d1, d2, d3, d4, d5, d6, d7⟩, z0, z1, z2, z3, z4, z5, z6, z7⟩ := KS.out _ OK2)
    go_quiet (fail)
    go_wp2_with fail
    refine bodyPost_ret (v := .tuple #[(nv).agg, .bool true]) (by simp [results, Tryz.results91, go_sem, d0, d1, d2, d3, d4, d5, d6, d7, nv, vz, V.agg, V.cells]) rfl (HP.out _ _ ⟨_, rfl, ?_, nv_in _, fun _ => atV_no (by omega)⟩)
    iterate 8 (with_reducible refine low_set ?_ _ _)
    exact below_drewN HB.out _
  by_cases hbig : (ll1 : Int) ≤ n2
  · go_enter Tryz.func91, Tryz.ntmps91
    go_upto_region 1 with fail
    have OKu := OKH.out
    generalize w.alloc (.cells #[.int .u8 0, .int .i64 0, .string ⟨#[]⟩, .slice none 0 0, .slice none 0 0, .int .u8 0, .string ⟨#[]⟩, .bool false] 55) = W0 at OKu ⊢
    have OK : OW w (some ⟨b, o, none⟩) 2 lc L W0 := OKu
    clear OKu OKH
    go_wp2_with (go_at_call 134; (with_reducible refine (HC.out _ _ (OW.alloc OK _) (kat2 _ _ _ _)).mono ?_); rintro q w2 ⟨rfl, OK2⟩; have HB := Lib.hid OK2.low; obtain ⟨-, ⟨⟨c0, c1, c2, c3, c4, c5, c6, c7⟩, ⟨f0, f1, f2, f3, f4, f5, f6, f7⟩⟩, ⟨d0, d1, d2, d3, d4, d5, d6, d7⟩, z0, z1, z2, z3, z4, z5, z6, z7⟩ := KS.out _ OK2)
    go_quiet (fail)
    go_wp2_with fail
    refine bodyPost_ret (v := .tuple #[(nv).agg, .bool true]) (by simp [results, Tryz.results91, go_sem, d0, d1, d2, d3, d4, d5, d6, d7, nv, vz, V.agg, V.cells]) rfl (HP.out _ _ ⟨_, rfl, ?_, nv_in _, fun _ => atV_no (by omega)⟩)
    iterate 8 (with_reducible refine low_set ?_ _ _)
    exact below_drewN HB.out _
  obtain ⟨i, rfl⟩ : ∃ i : Nat, n2 = i := ⟨n2.toNat, by omega⟩
  have hi : i < ll1 := by omega
  have hi' : (i : Int) < (ll1 : Int) := by omega
  have hi0 : (0 : Int) ≤ (i : Int) := by omega
  clear hneg hbig
  rw [atV_yes hi] at HP
  have HE1 := Lib.hid (fun W h => HE.out W h i hi)
  clear HE
  obtain ⟨⟨b1, o1, rfl, -⟩, -⟩ := HE1.out _ OKH.out
  have HE2 : Hid (∀ W, OW w (some ⟨b, o, none⟩) 2 lc L W → At W b1 (o1 + i * 8) (L1 i).cells ∧ (L1 i).In W) := fun W h => by
    obtain ⟨⟨b', o', e', ha⟩, hin⟩ := HE1.out W h
    cases e'
    exact ⟨ha, hin⟩
  clear HE1
  have hin0 := (HE2.out _ OKH.out).2
  obtain ⟨x, hx⟩ : ∃ x, L1 i = x := ⟨_, rfl⟩
  rw [hx] at HE2 hin0 HP
  have HXX := Lib.hid hx
  clear hx
  cases x with
  | leaf => exact hin0.elim
  | mk k3 n3 s3 la3 ll3 lc3 L3 fa3 fl3 fc3 fn3 F3 e3 key3 hk3 =>
  clear hin0
  go_enter Tryz.func91, Tryz.ntmps91
  go_upto_region 1 with fail
  have OKu := OKH.out
  generalize w.alloc (.cells #[.int .u8 0, .int .i64 0, .string ⟨#[]⟩, .slice none 0 0, .slice none 0 0, .int .u8 0, .string ⟨#[]⟩, .bool false] 55) = W0 at OKu ⊢
  have OK : OW w (some ⟨b, o, none⟩) 2 lc L W0 := OKu
  clear OKu OKH
  go_wp2_with (go_at_call 134; (with_reducible refine (HC.out _ _ (OW.alloc OK _) (kat2 _ _ _ _)).mono ?_); rintro q w2 ⟨rfl, OK2⟩; have HB := Lib.hid OK2; obtain ⟨g0, g1, g2, g3, g4, g5, g6, g7⟩ := at8 (HE2.out _ OK2).1; obtain ⟨-, ⟨⟨c0, c1, c2, c3, c4, c5, c6, c7⟩, ⟨f0, f1, f2, f3, f4, f5, f6, f7⟩⟩, ⟨d0, d1, d2, d3, d4, d5, d6, d7⟩, z0, z1, z2, z3, z4, z5, z6, z7⟩ := KS.out _ OK2)
  go_quiet (fail)
  go_wp2_with fail
  have HIN := Lib.hid (OW.below HB.out (below_drewN (Below.refl _ _) nq))
  refine bodyPost_ret (v := .tuple #[(V.mk k3 n3 s3 la3 ll3 lc3 L3 fa3 fl3 fc3 fn3 F3 e3 key3 hk3).agg, .bool true]) (by simp [results, Tryz.results91, go_sem, d0, d1, d2, d3, d4, d5, d6, d7, V.agg, V.cells]) rfl (HP.out _ _ ⟨_, rfl, ?_, ?_, fun _ => ?_⟩)
  · iterate 8 (with_reducible refine low_set ?_ _ _)
    exact HIN.out.low
  · refine (HE2.out _ ?_).2
    iterate 8 (with_reducible refine OW.set ?_ _ _)
    exact HIN.out
  · exact In_same (HE2.out _ HIN.out).2
end Go.Proofs.YtjbapldlgnlepaaGreatDoor
namespace Go.Proofs.YtjbapldlgnlepaaGreatDoor
open Go.RowKit Go.Deep Go.WideShapes

theorem at90' {w : World} {b : Nat} {nm : ByteArray} {k n : Int} {s : ByteArray} {la : Option Addr} {ll lc : Nat} {fa : Option Addr} {fl fc : Nat} {e : Int} {key : ByteArray} {hk : Bool}
    (h : At w b 0 [.string nm, .int .u8 k, .int .i64 n, .string s, .slice la ll lc, .slice fa fl fc, .int .u8 e, .string key, .bool hk]) :
    w.cell? ⟨b, 0, none⟩ = some (.string nm) ∧ w.cell? ⟨b, 1, none⟩ = some (.int .u8 k) ∧ w.cell? ⟨b, 2, none⟩ = some (.int .i64 n) ∧ w.cell? ⟨b, 3, none⟩ = some (.string s) ∧ w.cell? ⟨b, 4, none⟩ = some (.slice la ll lc) ∧ w.cell? ⟨b, 5, none⟩ = some (.slice fa fl fc) ∧
      w.cell? ⟨b, 6, none⟩ = some (.int .u8 e) ∧ w.cell? ⟨b, 7, none⟩ = some (.string key) ∧ w.cell? ⟨b, 8, none⟩ = some (.bool hk) := by
  refine ⟨?_, ?_, ?_, ?_, ?_, ?_, ?_, ?_, ?_⟩
  · simpa using h 0 (by simp)
  · simpa using h 1 (by simp)
  · simpa using h 2 (by simp)
  · simpa using h 3 (by simp)
  · simpa using h 4 (by simp)
  · simpa using h 5 (by simp)
  · simpa using h 6 (by simp)
  · simpa using h 7 (by simp)
  · simpa using h 8 (by simp)

/-- The value of the field of that name, or none. -/
def getV (fl : Nat) (fn : Nat → ByteArray) (F : Nat → V) (nm : ByteArray) : V := match findF fl fn nm with
  | some i => F i
  | none => nv
/-- None of the first k fields has that name. -/
def NoneTo (k : Nat) (fn : Nat → ByteArray) (nm : ByteArray) : Prop := ∀ j, j < k → fn j ≠ nm
theorem NoneTo.zero {fn : Nat → ByteArray} {nm : ByteArray} : NoneTo 0 fn nm := fun _ h => absurd h (Nat.not_lt_zero _)
theorem NoneTo.succ {k : Nat} {fn : Nat → ByteArray} {nm : ByteArray} (h : NoneTo k fn nm) (hk : fn k ≠ nm) : NoneTo (k + 1) fn nm := fun j hj => by
  rcases Nat.lt_succ_iff_lt_or_eq.1 hj with h1 | rfl
  · exact h j h1
  · exact hk
theorem getV_none {fl : Nat} {fn : Nat → ByteArray} {F : Nat → V} {nm : ByteArray} (h : NoneTo fl fn nm) : getV fl fn F nm = nv := by
  unfold getV
  rw [findF_none h]
theorem getV_some {fl k : Nat} {fn : Nat → ByteArray} {F : Nat → V} {nm : ByteArray} (hk : k < fl) (h : NoneTo k fn nm) (he : fn k = nm) : getV fl fn F nm = F k := by
  unfold getV
  rw [findF_some hk he h]

set_option maxRecDepth 100000 in
set_option maxHeartbeats 4000000 in
theorem get_any (la : Option Addr) (lc : Nat) (L : Nat → V) (w : World) (h : Vals w la 2 lc L) : Calls Tryz.prog 92 #[.slice la 2 lc] w (OpPost 9 2 L w) := by
  have OK0 := OW.start h 55
  have hlc := h.hlc
  unfold maxLen at hlc
  obtain ⟨b, o, rfl, -⟩ := OK0.two
  have HC := Lib.hid (fun W kb (h : OW w (some ⟨b, o, none⟩) 2 lc L W) hk => are2 5 3 W kb h hk)
  obtain ⟨r, hr⟩ : ∃ r, (decide ((L 0).kind = 5) && decide ((L 1).kind = 3)) = r := ⟨_, rfl⟩
  have HP : Hid (∀ e w', (∃ u : V, e = .returned (.tuple #[u.agg, .bool r]) ∧ Below w.heap.size w w' ∧ u.In w' ∧ (r = true → u.same (getV (L 0).flen (L 0).fnm (L 0).fel (L 1).str) = true)) → OpPost 9 2 L w e w') := by
    rintro e w' ⟨u, h1, h2, h3, h4⟩
    have e1 : opOk 9 2 L = r := hr
    exact ⟨u, by rw [e1]; exact h1, h2, h3, by rw [e1]; exact h4⟩
  rw [hr] at HC
  clear hr
  have HX := Lib.hid (fun W (h : OW w (some ⟨b, o, none⟩) 2 lc L W) => ow_cells2 h)
  have hi0 := (ow_cells2 OK0).1.2
  have hi1 := (ow_cells2 OK0).2.2
  obtain ⟨x, hx⟩ : ∃ x, L 0 = x := ⟨_, rfl⟩
  obtain ⟨y, hy⟩ : ∃ y, L 1 = y := ⟨_, rfl⟩
  rw [hx, hy] at HX HP
  rw [hx] at hi0
  rw [hy] at hi1
  clear hx hy
  cases x with
  | leaf => exact hi0.elim
  | mk k1 n1 s1 la1 ll1 lc1 L1 fa1 fl1 fc1 fn1 F1 e1 key1 hk1 =>
  cases y with
  | leaf => exact hi1.elim
  | mk k2 n2 s2 la2 ll2 lc2 L2 fa2 fl2 fc2 fn2 F2 e2 key2 hk2 =>
  have hl1 := hi0.2.2.2.2.2.2.1
  unfold maxLen at hl1
  clear hi0 hi1
  have KS := Lib.hid (fun W (h : OW w (some ⟨b, o, none⟩) 2 lc L W) => And.intro h (And.intro (And.intro (at8 (HX.out W h).1.1) (at8 (HX.out W h).2.1)) h.rcells))
  have HE := Lib.hid (fun W (h : OW w (some ⟨b, o, none⟩) 2 lc L W) => (HX.out W h).1.2.2.2.2.2.2.2.2.2)
  clear HX
  simp only [V.flen, V.fnm, V.fel, V.str] at HP
  simp only [nv, vz, V.cells] at OK0
  have OKH := Lib.hid OK0
  clear OK0 h
  cases r
  · go_enter Tryz.func92, Tryz.ntmps92
    go_upto_region 1 with fail
    have OKu := OKH.out
    generalize w.alloc (.cells #[.int .u8 0, .int .i64 0, .string ⟨#[]⟩, .slice none 0 0, .slice none 0 0, .int .u8 0, .string ⟨#[]⟩, .bool false] 55) = W0 at OKu ⊢
    have OK : OW w (some ⟨b, o, none⟩) 2 lc L W0 := OKu
    clear OKu OKH
    go_wp2_with (go_at_call 134; (with_reducible refine (HC.out _ _ (OW.alloc OK _) (kat2 _ _ _ _)).mono ?_); rintro q w2 ⟨rfl, OK2⟩; have HB := Lib.hid OK2; obtain ⟨-, ⟨⟨c0, c1, c2, c3, c4, c5, c6, c7⟩, ⟨f0, f1, f2, f3, f4, f5, f6, f7⟩⟩, ⟨d0, d1, d2, d3, d4, d5, d6, d7⟩, z0, z1, z2, z3, z4, z5, z6, z7⟩ := KS.out _ OK2; clear OK2)
    refine bodyPost_ret (v := .tuple #[(nv).agg, .bool false]) (by simp [results, Tryz.results92, go_sem, d0, d1, d2, d3, d4, d5, d6, d7, nv, vz, V.agg, V.cells]) rfl (HP.out _ _ ⟨_, rfl, ?_, nv_in _, fun h => by cases h⟩)
    iterate 8 (with_reducible refine low_set ?_ _ _)
    exact HB.out.low
  go_enter Tryz.func92, Tryz.ntmps92
  go_upto_region 1 with fail
  have OKu := OKH.out
  generalize w.alloc (.cells #[.int .u8 0, .int .i64 0, .string ⟨#[]⟩, .slice none 0 0, .slice none 0 0, .int .u8 0, .string ⟨#[]⟩, .bool false] 55) = W0 at OKu ⊢
  have OK : OW w (some ⟨b, o, none⟩) 2 lc L W0 := OKu
  clear OKu OKH
  go_wp2_with (go_at_call 134; (with_reducible refine (HC.out _ _ (OW.alloc OK _) (kat2 _ _ _ _)).mono ?_); rintro q w2 ⟨rfl, OK2⟩; have HB := Lib.hid OK2; obtain ⟨-, ⟨⟨c0, c1, c2, c3, c4, c5, c6, c7⟩, ⟨f0, f1, f2, f3, f4, f5, f6, f7⟩⟩, ⟨d0, d1, d2, d3, d4, d5, d6, d7⟩, z0, z1, z2, z3, z4, z5, z6, z7⟩ := KS.out _ OK2; clear OK2)
  clear c0 c1 c2 c3 c4 c5 c6 c7 f0 f1 f2 f3 f4 f5 f6 f7 d0 d1 d2 d3 d4 d5 d6 d7 z0 z1 z2 z3 z4 z5 z6 z7
  go_loopw [16] (fun i wr => ∃ k : Nat, i = .int .i64 k ∧ k ≤ fl1 ∧ NoneTo k fn1 s2 ∧ OW w (some ⟨b, o, none⟩) 2 lc L wr) (fun i _ => fl1 - (intOf i).toNat)
  case atStart => exact ⟨0, rfl, Nat.zero_le _, NoneTo.zero, HB.out⟩
  case round =>
    obtain ⟨k, rfl, hk, hnone, hOW⟩ := hrel
    have HN := Lib.hid hnone
    have HW := Lib.hid hOW
    clear hnone HB
    obtain ⟨-, ⟨⟨c0, c1, c2, c3, c4, c5, c6, c7⟩, ⟨f0, f1, f2, f3, f4, f5, f6, f7⟩⟩, ⟨d0, d1, d2, d3, d4, d5, d6, d7⟩, z0, z1, z2, z3, z4, z5, z6, z7⟩ := KS.out _ hOW
    clear hOW
    by_cases hlt : k < fl1
    · have hlt' : (k : Int) < (fl1 : Int) := by omega
      have hk0 : (0 : Int) ≤ (k : Int) := by omega
      obtain ⟨⟨b1, o1, rfl, hat⟩, -, hin⟩ := HE.out _ HW.out k hlt
      have hb1 : b1 < wr.heap.size := World.block_lt_of_cell? _ _ (hat 0 (by simp))
      have HIN := Lib.hid hin
      clear hin
      obtain ⟨nm, hnm⟩ : ∃ nm, fn1 k = nm := ⟨_, rfl⟩
      obtain ⟨x, hx⟩ : ∃ x, F1 k = x := ⟨_, rfl⟩
      rw [hnm, hx] at hat
      rw [hx] at HIN
      have HNM := Lib.hid hnm
      have HXX := Lib.hid hx
      clear hnm hx
      cases x with
      | leaf => exact HIN.out.elim
      | mk k3 n3 s3 la3 ll3 lc3 L3 fa3 fl3 fc3 fn3 F3 e3 key3 hk3 =>
      obtain ⟨g0, g1, g2, g3, g4, g5, g6, g7, g8⟩ := at9 hat
      clear hat
      have HBX := Lib.hid (And.intro (HW.out.alloc (.cells #[.string nm, .int .u8 k3, .int .i64 n3, .string s3, .slice la3 ll3 lc3, .slice fa3 fl3 fc3, .int .u8 e3, .string key3, .bool hk3] 82)) (at_new (w := wr) (cs := .string nm :: (V.mk k3 n3 s3 la3 ll3 lc3 L3 fa3 fl3 fc3 fn3 F3 e3 key3 hk3).cells) (T := 82) rfl (Below.refl _ _)))
      go_wp2_with fail
      revert HBX
      simp only [V.cells]
      generalize wr.alloc (.cells #[.string nm, .int .u8 k3, .int .i64 n3, .string s3, .slice la3 ll3 lc3, .slice fa3 fl3 fc3, .int .u8 e3, .string key3, .bool hk3] 82) = W1
      intro HBX
      clear c0 c1 c2 c3 c4 c5 c6 c7 f0 f1 f2 f3 f4 f5 f6 f7 d0 d1 d2 d3 d4 d5 d6 d7 z0 z1 z2 z3 z4 z5 z6 z7 g0 g1 g2 g3 g4 g5 g6 g7 g8
      obtain ⟨g0, g1, g2, g3, g4, g5, g6, g7, g8⟩ := at90' HBX.out.2
      obtain ⟨-, ⟨⟨c0, c1, c2, c3, c4, c5, c6, c7⟩, ⟨f0, f1, f2, f3, f4, f5, f6, f7⟩⟩, ⟨d0, d1, d2, d3, d4, d5, d6, d7⟩, z0, z1, z2, z3, z4, z5, z6, z7⟩ := KS.out _ HBX.out.1
      by_cases he : nm = s2
      · have HG := Lib.hid (getV_some (F := F1) hlt HN.out (HNM.out.trans he))
        subst he
        go_quiet (fail)
        go_wp2_with fail
        have HIN1 := Lib.hid (OW.below HBX.out.1 (below_drewN (Below.refl _ _) nq))
        refine bodyPost_ret (v := .tuple #[(V.mk k3 n3 s3 la3 ll3 lc3 L3 fa3 fl3 fc3 fn3 F3 e3 key3 hk3).agg, .bool true]) (by simp [results, Tryz.results92, go_sem, d0, d1, d2, d3, d4, d5, d6, d7, V.agg, V.cells]) rfl (HP.out _ _ ⟨_, rfl, ?_, ?_, fun _ => ?_⟩)
        · iterate 8 (with_reducible refine low_set ?_ _ _)
          exact HIN1.out.low
        · have HR : ∀ W, OW w (some ⟨b, o, none⟩) 2 lc L W → (F1 k).In W := fun W h => (HE.out W h k hlt).2.2
          rw [HXX.out] at HR
          refine HR _ ?_
          iterate 8 (with_reducible refine OW.set ?_ _ _)
          exact HIN1.out
        · rw [HG.out, HXX.out]
          exact In_same HIN.out
      · have hq := bytes_ne he
        have HNE : Hid (fn1 k ≠ s2) := by rw [HNM.out]; exact he
        clear he
        go_quiet (fail)
        go_wp2_with fail
        go_roundw
        case rel => exact ⟨k + 1, by go_num, by omega, HN.out.succ HNE.out, OW.below HBX.out.1 (below_drewN (Below.refl _ _) nq)⟩
        case measure => simp [intOf]; omega
    · obtain rfl : fl1 = k := by omega
      have HG := Lib.hid (getV_none (F := F1) HN.out)
      go_wp2_with fail
      refine bodyPost_ret (v := .tuple #[(nv).agg, .bool true]) (by simp [results, Tryz.results92, go_sem, d0, d1, d2, d3, d4, d5, d6, d7, nv, vz, V.agg, V.cells]) rfl (HP.out _ _ ⟨_, rfl, ?_, nv_in _, fun _ => ?_⟩)
      · iterate 8 (with_reducible refine low_set ?_ _ _)
        exact HW.out.low
      · rw [HG.out]
        exact vz_same _ _ _
end Go.Proofs.YtjbapldlgnlepaaGreatDoor
