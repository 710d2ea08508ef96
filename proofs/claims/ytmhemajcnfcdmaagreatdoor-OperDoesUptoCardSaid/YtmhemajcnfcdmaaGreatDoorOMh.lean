/-
  Walks: the document's Int, Bool, Text, List, kinds, Takes, deeds of layer 2.
  Conditions: the values lie in memory.
  Walks: the document's deeds of layer 2 answers 'V.deed'.
  Conditions: the value lies in memory.
  Walks: the document's cat of layer 2 answers 'catL', 'catB'.
  Conditions: the values lie in memory.
  Walks: the document's one of layer 2 (not, len, text) answers 'opV', 'opOk'.
  Conditions: the value lies in memory.
-/
import Derived.Test.YtmhemajcnfcdmaaGreatDoorOpOne
import Derived.Test.YtmhemajcnfcdmaaGreatDoorRefB
import Derived.Test.YtmhemajcnfcdmaaGreatDoorRefQD
import Derived.Lib.ItoaLen
import Derived.Test.YtmhemajcnfcdmaaGreatDoorRefTX
import Derived.Test.YtmhemajcnfcdmaaGreatDoorOpTxt
import Derived.Deep.RegionHeld3
namespace Go.Proofs.YtmhemajcnfcdmaaGreatDoor.Od
set_option linter.unusedVariables false
set_option linter.unusedSimpArgs false
open Go.RowKit Go.Deep Go.WideShapes
theorem in_ext {w W' : World} (hh : ∀ (a : Addr) x, w.cell? a = some x → W'.cell? a = some x) : ∀ {v : V}, v.In w → v.In W' := by
  have at' : ∀ {b o : Nat} {cs : List Value}, At w b o cs → At W' b o cs := fun ha j hj => by
    have e := ha j hj
    rw [List.getElem?_eq_getElem hj] at e ⊢
    exact hh _ _ e
  intro v
  induction v with
  | leaf => exact fun h => h.elim
  | mk k n s la ll lc L fa fl fc fn F e key hk ihL ihF =>
    rintro ⟨h1, h2, h3, h4, h5, h6, h7, hL, hF⟩
    refine ⟨h1, h2, h3, h4, h5, h6, h7, fun i hi => ?_, fun i hi => ?_⟩
    · obtain ⟨⟨b, o, e1, ha⟩, hi'⟩ := hL i hi
      exact ⟨⟨b, o, e1, at' ha⟩, ihL i hi'⟩
    · obtain ⟨⟨b, o, e1, ha⟩, hs, hi'⟩ := hF i hi
      exact ⟨⟨b, o, e1, at' ha⟩, hs, ihF i hi'⟩
def InS (S : Nat → Prop) (v : V) (w : World) : Prop := ∀ W' : World, (∀ (a : Addr) x, ¬ S a.block → w.cell? a = some x → W'.cell? a = some x) → v.In W'
section
variable {S S' : Nat → Prop} {v : V} {w W : World}
theorem InS.self (h : InS S v w) : v.In w := h w fun _ _ _ e => e
theorem InS.below (h : InS S v w) (hb : Below w.heap.size w W) : InS S v W := fun W' q => h W' fun a x hs e => q a x hs (by rw [hb.cell (World.block_lt_of_cell? _ _ e), e])
theorem InS.of (h : v.In w) (hS : ∀ b, S b → w.heap.size ≤ b) : InS S v w := fun W' q => in_ext (fun a x e => q a x (fun hs => by have := hS _ hs; have := World.block_lt_of_cell? _ _ e; omega) e) h
theorem InS.weak (hS : ∀ b, S b → S' b) (h : InS S' v w) : InS S v w := fun W' q => h W' fun a x hs e => q a x (fun hs' => hs (hS _ hs')) e
theorem InS.set {B i : Nat} {u : Value} (hB : S B) (h : InS S v w) : InS S v (w.setCell ⟨B, i, none⟩ u) := fun W' q => h W' fun a x hs e => q a x hs (by
  rw [World.cell?_setCell_other _ _ _ _ (fun e' => hs (by rw [← e']; exact hB)), e])
theorem InS.lv {g n cap : Nat} {P : Nat → V} (hg : ¬ S g) (hc : n ≤ cap ∧ cap ≤ maxLen) (h : ∀ i, i < n → At w g (i * 8) (P i).cells ∧ InS S (P i) w) : InS S (lv (some ⟨g, 0, none⟩) n cap P) w := fun W' q =>
  ⟨by omega, by omega, by decide, by omega, by decide, hc, ⟨Nat.le_refl _, by decide⟩, fun i hi => ⟨⟨g, 0, rfl, fun j hj => by
    have e := (h i hi).1 j hj
    rw [List.getElem?_eq_getElem hj] at e ⊢
    rw [Nat.zero_add]
    exact q _ _ hg e⟩, (h i hi).2 W' q⟩, fun i hi => absurd hi (Nat.not_lt_zero _)⟩
end
def OpX (S : Nat → Prop) (k n : Nat) (L : Nat → V) (w : World) (e : Ending) (w' : World) : Prop := ∃ u : V, e = .returned (.tuple #[u.agg, .bool (opOk k n L)]) ∧ Below w.heap.size w w' ∧ InS S u w' ∧ (opOk k n L = true → u.same (opV k n L) = true)
set_option maxHeartbeats 400000 in
theorem rInt_any (x : Int) (w : World) : Calls Tryz.prog 149 #[.int .i64 x] w fun e w' => e = .returned (iv x).agg ∧ Below w.heap.size w w' := by
  go_enter Tryz.func149, Tryz.ntmps149
  go_wp2
  exact bodyPost_ret (v := (iv x).agg) (by simp [results, Tryz.results149, go_sem, iv, vz, V.agg, V.cells]) rfl ⟨rfl, (below_alloc w _)⟩
set_option maxHeartbeats 400000 in
theorem rText_any (s : ByteArray) (w : World) : Calls Tryz.prog 147 #[.string s] w fun e w' => e = .returned (sv s).agg ∧ Below w.heap.size w w' := by
  go_enter Tryz.func147, Tryz.ntmps147
  go_wp2
  exact bodyPost_ret (v := (sv s).agg) (by simp [results, Tryz.results147, go_sem, sv, vz, V.agg, V.cells]) rfl ⟨rfl, (below_alloc w _)⟩
set_option maxHeartbeats 400000 in
theorem rList_any (la : Option Addr) (ll lc : Nat) (L : Nat → V) (w : World) : Calls Tryz.prog 84 #[.slice la ll lc] w fun e w' => e = .returned (lv la ll lc L).agg ∧ Below w.heap.size w w' := by
  go_enter Tryz.func84, Tryz.ntmps84
  go_wp2
  exact bodyPost_ret (v := (lv la ll lc L).agg) (by simp [results, Tryz.results84, go_sem, lv, V.agg, V.cells]) rfl ⟨rfl, (below_alloc w _)⟩
set_option maxHeartbeats 400000 in
theorem rBool_any (b : Bool) (w : World) : Calls Tryz.prog 148 #[.bool b] w fun e w' => e = .returned (bv b).agg ∧ Below w.heap.size w w' := by
  cases b
  · go_enter Tryz.func148, Tryz.ntmps148
    go_wp2
    exact bodyPost_ret (v := (bv false).agg) (by simp [results, Tryz.results148, go_sem, bv, vz, V.agg, V.cells]) rfl ⟨rfl, (below_alloc w _)⟩
  · go_enter Tryz.func148, Tryz.ntmps148
    go_wp2
    exact bodyPost_ret (v := (bv true).agg) (by simp [results, Tryz.results148, go_sem, bv, vz, V.agg, V.cells]) rfl ⟨rfl, (below_alloc w _)⟩
theorem two_at {w : World} {la : Option Addr} {lc : Nat} {L : Nat → V} (h : Vals w la 2 lc L) : ∃ b o, la = some ⟨b, o, none⟩ ∧ At w b o (L 0).cells ∧ At w b (o + 8) (L 1).cells ∧ (L 0).In w ∧ (L 1).In w := by
  obtain ⟨⟨b, o, rfl, h0⟩, i0⟩ := h.el 0 (by omega)
  obtain ⟨⟨b', o', e, h1⟩, i1⟩ := h.el 1 (by omega)
  simp only [Option.some.injEq, Addr.mk.injEq, and_true] at e
  obtain ⟨rfl, rfl⟩ := e
  exact ⟨b, o, rfl, by simpa using h0, by simpa using h1, i0, i1⟩
set_option maxHeartbeats 1000000 in
theorem rkinds_any (la : Option Addr) (lc : Nat) (L : Nat → V) (a b : Int) (w : World) (h : Vals w la 2 lc L) :
    Calls Tryz.prog 152 #[.slice la 2 lc, .int .u8 a, .int .u8 b] w fun e w' => e = .returned (.bool (decide ((L 0).kind = a) && decide ((L 1).kind = b))) ∧ Below w.heap.size w w' := by
  obtain ⟨bb, o, rfl, h0, h1, i0, i1⟩ := two_at h
  have hc := h.hlc
  unfold maxLen at hc
  clear h
  cases e0 : L 0 with
  | leaf => rw [e0] at i0; exact i0.elim
  | mk k n s la ll lc' L1 fa fl fc fn F e key hk =>
  cases e1 : L 1 with
  | leaf => rw [e1] at i1; exact i1.elim
  | mk k2 n2 s2 la2 ll2 lc2 L2 fa2 fl2 fc2 fn2 F2 e2 key2 hk2 =>
  rw [e0] at h0
  rw [e1] at h1
  have c0 := h0 0 (by simp [V.cells])
  have c1 := h1 0 (by simp [V.cells])
  simp only [V.cells, List.getElem?_cons_zero, Nat.add_zero] at c0 c1
  clear h0 h1 i0 i1 e0 e1
  simp only [V.kind]
  by_cases q0 : k = a
  · by_cases q1 : k2 = b
    · subst q0 q1
      go_enter Tryz.func152, Tryz.ntmps152
      go_wp2
      go_ret
      exact ⟨by simp, Below.refl _ _⟩
    · have hq : (k2 == b) = false := by simpa using q1
      subst q0
      go_enter Tryz.func152, Tryz.ntmps152
      go_wp2
      go_ret
      exact ⟨by simp [q1], Below.refl _ _⟩
  · have hq : (k == a) = false := by simpa using q0
    go_enter Tryz.func152, Tryz.ntmps152
    go_wp2
    go_ret
    exact ⟨by simp [q0], Below.refl _ _⟩
def tkV (name : ByteArray) : Value := match opAt name with
  | none => .tuple #[.int .i64 0, .int .i64 0, .bool false]
  | some k => .tuple #[.int .i64 (opLeast k), .int .i64 (opMost k), .bool true]
set_option maxHeartbeats 4000000 in
theorem rtakes_any (name : ByteArray) (w : World) : Calls Tryz.prog 20 #[.string name] w fun e w' => e = .returned (tkV name) ∧ Below w.heap.size w w' := by
  cases hk : opAt name with
  | some k =>
    obtain ⟨h13, hn⟩ := findF_lt hk
    have hv : tkV name = .tuple #[.int .i64 (opLeast k), .int .i64 (opMost k), .bool true] := by unfold tkV; rw [hk]
    rw [hv]
    subst hn
    clear hk hv
    match k, h13 with
    | 0, _ | 1, _ | 2, _ | 3, _ | 4, _ | 8, _ | 9, _ | 11, _ =>
      simp only [opName, opLeast, opMost]
      go_enter Tryz.func20, Tryz.ntmps20
      go_wp2
      exact bodyPost_ret (v := .tuple #[.int .i64 (2), .int .i64 (2), .bool true]) (by simp [results, Tryz.results20, go_sem]) rfl ⟨rfl, Below.refl _ _⟩
    | 5, _ | 7, _ | 12, _ =>
      simp only [opName, opLeast, opMost]
      go_enter Tryz.func20, Tryz.ntmps20
      go_wp2
      exact bodyPost_ret (v := .tuple #[.int .i64 (1), .int .i64 (1), .bool true]) (by simp [results, Tryz.results20, go_sem]) rfl ⟨rfl, Below.refl _ _⟩
    | 6, _ | 10, _ =>
      simp only [opName, opLeast, opMost]
      go_enter Tryz.func20, Tryz.ntmps20
      go_wp2
      exact bodyPost_ret (v := .tuple #[.int .i64 (0), .int .i64 (-1), .bool true]) (by simp [results, Tryz.results20, go_sem]) rfl ⟨rfl, Below.refl _ _⟩
    | k + 13, h => exact absurd h (by omega)
  | none =>
    have hv : tkV name = .tuple #[.int .i64 0, .int .i64 0, .bool false] := by unfold tkV; rw [hk]
    rw [hv]
    have hn : ∀ j, j < 13 → opName j ≠ name := fun j hj => by
      have := List.find?_eq_none.1 (show (List.range 13).find? (fun i => decide (opName i = name)) = none from hk) j (List.mem_range.2 hj)
      simpa using this
    have q : ∀ j, j < 13 → (name.toList == (opName j).toList) = false := fun j hj => bytes_ne (fun e => hn j hj e.symm)
    have q0 : (name.toList == [97, 100, 100]) = false := (by rw [show ([97, 100, 100] : List UInt8) = (opName 0).toList by decide +kernel]; exact q 0 (by omega))
    have q1 : (name.toList == [115, 117, 98]) = false := (by rw [show ([115, 117, 98] : List UInt8) = (opName 1).toList by decide +kernel]; exact q 1 (by omega))
    have q2 : (name.toList == [109, 117, 108]) = false := (by rw [show ([109, 117, 108] : List UInt8) = (opName 2).toList by decide +kernel]; exact q 2 (by omega))
    have q3 : (name.toList == [108, 116]) = false := (by rw [show ([108, 116] : List UInt8) = (opName 3).toList by decide +kernel]; exact q 3 (by omega))
    have q4 : (name.toList == [101, 113]) = false := (by rw [show ([101, 113] : List UInt8) = (opName 4).toList by decide +kernel]; exact q 4 (by omega))
    have q5 : (name.toList == [110, 111, 116]) = false := (by rw [show ([110, 111, 116] : List UInt8) = (opName 5).toList by decide +kernel]; exact q 5 (by omega))
    have q6 : (name.toList == [99, 97, 116]) = false := (by rw [show ([99, 97, 116] : List UInt8) = (opName 6).toList by decide +kernel]; exact q 6 (by omega))
    have q7 : (name.toList == [108, 101, 110]) = false := (by rw [show ([108, 101, 110] : List UInt8) = (opName 7).toList by decide +kernel]; exact q 7 (by omega))
    have q8 : (name.toList == [97, 116]) = false := (by rw [show ([97, 116] : List UInt8) = (opName 8).toList by decide +kernel]; exact q 8 (by omega))
    have q9 : (name.toList == [103, 101, 116]) = false := (by rw [show ([103, 101, 116] : List UInt8) = (opName 9).toList by decide +kernel]; exact q 9 (by omega))
    have q10 : (name.toList == [108, 105, 115, 116]) = false := (by rw [show ([108, 105, 115, 116] : List UInt8) = (opName 10).toList by decide +kernel]; exact q 10 (by omega))
    have q11 : (name.toList == [112, 117, 115, 104]) = false := (by rw [show ([112, 117, 115, 104] : List UInt8) = (opName 11).toList by decide +kernel]; exact q 11 (by omega))
    have q12 : (name.toList == [116, 101, 120, 116]) = false := (by rw [show ([116, 101, 120, 116] : List UInt8) = (opName 12).toList by decide +kernel]; exact q 12 (by omega))
    clear hk hv hn q
    go_enter Tryz.func20, Tryz.ntmps20
    go_wp2
    exact bodyPost_ret (v := .tuple #[.int .i64 0, .int .i64 0, .bool false]) (by simp [results, Tryz.results20, go_sem]) rfl ⟨rfl, Below.refl _ _⟩
end Go.Proofs.YtmhemajcnfcdmaaGreatDoor.Od
namespace Go.Proofs.YtmhemajcnfcdmaaGreatDoor.Od
set_option linter.unusedVariables false
set_option linter.unusedSimpArgs false
open Go.RowKit Go.Deep Go.WideShapes
def DeedsIs (v : V) : Prop := ∀ w : World, v.In w → Calls Tryz.prog 151 #[v.agg] w fun x w' => x = .returned (.bool v.deed) ∧ Below w.heap.size w w'
set_option maxRecDepth 100000 in
set_option maxHeartbeats 4000000 in
theorem rdeeds_is : ∀ v : V, DeedsIs v := by
  intro v
  induction v with
  | leaf => exact fun w h => h.elim
  | mk k n s la ll lc L fa fl fc fn F e key hk ihL ihF =>
  intro w h
  obtain ⟨-, -, -, -, -, hl1, hf1, hL, hF⟩ := h
  have R7 : Hid (k = 7 → (V.mk k n s la ll lc L fa fl fc fn F e key hk).deed = true) := fun q => by simp [V.deed, q]
  have RL : Hid (∀ j, j < ll → (L j).deed = true → (V.mk k n s la ll lc L fa fl fc fn F e key hk).deed = true) := fun j hj q => by
    rw [V.deed, anyB_iff.2 ⟨j, hj, q⟩]; simp
  have RF : Hid (∀ j, j < fl → (F j).deed = true → (V.mk k n s la ll lc L fa fl fc fn F e key hk).deed = true) := fun j hj q => by
    rw [V.deed, anyB_iff.2 ⟨j, hj, q⟩]; simp
  have R0 : Hid (k ≠ 7 → (∀ j, j < ll → (L j).deed = false) → (∀ j, j < fl → (F j).deed = false) → (V.mk k n s la ll lc L fa fl fc fn F e key hk).deed = false) := fun q q1 q2 => by
    rw [V.deed, anyB_false.2 q1, anyB_false.2 q2]; simp [q]
  have HL := Lib.hid hL
  have HF := Lib.hid hF
  have HIL := Lib.hid ihL
  have HIF := Lib.hid ihF
  have KS := Lib.hid (fun W (h : BoxE w (.mk k n s la ll lc L fa fl fc fn F e key hk) W) => at80 h.cv)
  have OK0 := Lib.hid (boxE w (.mk k n s la ll lc L fa fl fc fn F e key hk) 30)
  clear hL hF ihL ihF
  generalize (V.mk k n s la ll lc L fa fl fc fn F e key hk).deed = ans at R7 RL RF R0 ⊢
  unfold maxLen at hl1 hf1
  simp only [V.agg, V.cells] at OK0 ⊢
  by_cases h7 : k = 7
  · have HA := Lib.hid (R7.out h7)
    subst h7
    go_enter Tryz.func151, Tryz.ntmps151
    go_upto_region 1 with fail
    have OKu := OK0.out
    generalize (w.alloc (.cells #[.int .u8 7, .int .i64 n, .string s, .slice la ll lc, .slice fa fl fc, .int .u8 e, .string key, .bool hk] 30)) = W0 at OKu ⊢
    have OK := Lib.hid (show BoxE w (.mk 7 n s la ll lc L fa fl fc fn F e key hk) W0 from OKu)
    clear OKu OK0
    obtain ⟨c0, c1, c2, c3, c4, c5, c6, c7⟩ := KS.out _ OK.out
    go_wp2_with fail
    go_ret
    exact ⟨by rw [HA.out]; rfl, OK.out.low⟩
  have H7 := Lib.hid h7
  have h7' : (k == 7) = false := by simpa using h7
  clear h7
  go_enter Tryz.func151, Tryz.ntmps151
  go_upto_region 1 with fail
  have OKu := OK0.out
  generalize (w.alloc (.cells #[.int .u8 k, .int .i64 n, .string s, .slice la ll lc, .slice fa fl fc, .int .u8 e, .string key, .bool hk] 30)) = W0 at OKu ⊢
  have OK := Lib.hid (show BoxE w (.mk k n s la ll lc L fa fl fc fn F e key hk) W0 from OKu)
  clear OKu OK0
  obtain ⟨c0, c1, c2, c3, c4, c5, c6, c7⟩ := KS.out _ OK.out
  go_wp2_with fail
  clear c0 c1 c2 c3 c4 c5 c6 c7
  go_loopw [3] (fun i wr => ∃ j : Nat, j ≤ ll ∧ i = .int .i64 j ∧ (∀ i, i < j → (L i).deed = false) ∧ BoxE w (.mk k n s la ll lc L fa fl fc fn F e key hk) wr) (fun i _ => ll - (intOf i).toNat)
  case atStart => exact ⟨0, Nat.zero_le _, rfl, fun i hi => absurd hi (Nat.not_lt_zero _), OK.out⟩
  case round =>
    obtain ⟨j, hj, rfl, hall, hbx⟩ := hrel
    have HB := Lib.hid hbx
    have HN := Lib.hid hall
    obtain ⟨c0, c1, c2, c3, c4, c5, c6, c7⟩ := KS.out _ hbx
    clear hbx hall
    by_cases hlt : j < ll
    · obtain ⟨⟨b, o, rfl, hat⟩, hin⟩ := HL.out j hlt
      have hat := hat.below HB.out.low
      have HX := Lib.hid (HIL.out j wr (hin.below HB.out.low))
      have HRL := Lib.hid (RL.out j hlt)
      have HNS : Hid ((L j).deed = false → ∀ i, i < j + 1 → (L i).deed = false) := fun q i hi => by
        rcases Nat.lt_succ_iff_lt_or_eq.1 hi with h | rfl
        · exact HN.out i h
        · exact q
      have hin2 := hin
      obtain ⟨v, hv⟩ : ∃ v, L j = v := ⟨_, rfl⟩
      rw [hv] at hat hin2 HX HRL HNS
      clear hv
      cases v with
      | leaf => exact hin2.elim
      | mk k2 n2 s2 la2 ll2 lc2 L2 fa2 fl2 fc2 fn2 F2 e2 key2 hk2 =>
      obtain ⟨d0, d1, d2, d3, d4, d5, d6, d7⟩ := at8 hat
      generalize (V.mk k2 n2 s2 la2 ll2 lc2 L2 fa2 fl2 fc2 fn2 F2 e2 key2 hk2).deed = p at HX HRL HNS
      clear hat hin hin2
      simp only [V.agg, V.cells] at HX
      have hl0 : (0 : Int) ≤ (j : Int) := by omega
      have hli : (j : Int) < (ll : Int) := by omega
      cases p with
      | true =>
        go_wp2_with (refine HX.out.mono ?_; rintro x w6 ⟨rfl, hb6⟩; have HB6 := Lib.hid (HB.out.below hb6); clear hb6 HX)
        go_ret
        exact ⟨by rw [HRL.out (by trivial)]; rfl, HB6.out.low⟩
      | false =>
        go_wp2_with (refine HX.out.mono ?_; rintro x w6 ⟨rfl, hb6⟩; have HB6 := Lib.hid (HB.out.below hb6); clear hb6 HX)
        go_roundw
        case rel => exact ⟨j + 1, by omega, by go_num, HNS.out (by trivial), HB6.out⟩
        case measure => simp [intOf]; omega
    · obtain rfl : ll = j := by omega
      go_wp2_with fail
      clear c0 c1 c2 c3 c4 c5 c6 c7
      go_loopw [4] (fun i wr => ∃ j : Nat, j ≤ fl ∧ i = .int .i64 j ∧ (∀ i, i < j → (F i).deed = false) ∧ BoxE w (.mk k n s la ll lc L fa fl fc fn F e key hk) wr) (fun i _ => fl - (intOf i).toNat)
      case atStart => exact ⟨0, Nat.zero_le _, rfl, fun i hi => absurd hi (Nat.not_lt_zero _), HB.out⟩
      case round =>
        obtain ⟨j, hj, rfl, hall, hbx⟩ := hrel
        have HB2 := Lib.hid hbx
        have HN2 := Lib.hid hall
        obtain ⟨c0, c1, c2, c3, c4, c5, c6, c7⟩ := KS.out _ hbx
        clear hbx hall HB
        by_cases hlt : j < fl
        · obtain ⟨⟨b, o, rfl, hat⟩, -, hin⟩ := HF.out j hlt
          have hat := hat.below HB2.out.low
          have HX := Lib.hid (HIF.out j wr (hin.below HB2.out.low))
          have HRL := Lib.hid (RF.out j hlt)
          have HNS : Hid ((F j).deed = false → ∀ i, i < j + 1 → (F i).deed = false) := fun q i hi => by
            rcases Nat.lt_succ_iff_lt_or_eq.1 hi with h | rfl
            · exact HN2.out i h
            · exact q
          have hin2 := hin
          obtain ⟨v, hv⟩ : ∃ v, F j = v := ⟨_, rfl⟩
          rw [hv] at hat hin2 HX HRL HNS
          clear hv
          cases v with
          | leaf => exact hin2.elim
          | mk k2 n2 s2 la2 ll2 lc2 L2 fa2 fl2 fc2 fn2 F2 e2 key2 hk2 =>
          obtain ⟨d0, d1, d2, d3, d4, d5, d6, d7, d8⟩ := at9 hat
          generalize (V.mk k2 n2 s2 la2 ll2 lc2 L2 fa2 fl2 fc2 fn2 F2 e2 key2 hk2).deed = p at HX HRL HNS
          clear hat hin hin2
          simp only [V.agg, V.cells] at HX
          have hl0 : (0 : Int) ≤ (j : Int) := by omega
          have hli : (j : Int) < (fl : Int) := by omega
          cases p with
          | true =>
            go_wp2_with (refine HX.out.mono ?_; rintro x w6 ⟨rfl, hb6⟩; have HB6 := Lib.hid (HB2.out.below hb6); clear hb6 HX)
            go_ret
            exact ⟨by rw [HRL.out (by trivial)]; rfl, HB6.out.low⟩
          | false =>
            go_wp2_with (refine HX.out.mono ?_; rintro x w6 ⟨rfl, hb6⟩; have HB6 := Lib.hid (HB2.out.below hb6); clear hb6 HX)
            go_roundw
            case rel => exact ⟨j + 1, by omega, by go_num, HNS.out (by trivial), HB6.out⟩
            case measure => simp [intOf]; omega
        · obtain rfl : fl = j := by omega
          go_wp2_with fail
          go_ret
          exact ⟨by rw [R0.out H7.out HN.out HN2.out]; rfl, HB2.out.low⟩
end Go.Proofs.YtmhemajcnfcdmaaGreatDoor.Od
namespace Go.Proofs.YtmhemajcnfcdmaaGreatDoor.Od
set_option linter.unusedVariables false
set_option linter.unusedSimpArgs false
open Go.RowKit Go.Deep Go.WideShapes
theorem bapp (a b : ByteArray) : a ++ b = ⟨a.data ++ b.data⟩ := by
  have h : (a ++ b).data = a.data ++ b.data := ByteArray.data_append
  generalize a ++ b = c at h ⊢
  obtain ⟨d⟩ := c
  simp only at h
  rw [h]
theorem cat_text (l : List UInt8) (s : ByteArray) : (⟨l.toArray⟩ : ByteArray) ++ s = ⟨(l ++ s.data.toList).toArray⟩ := by
  rw [bapp]
  simp
theorem cat_digits (l m : List UInt8) : (⟨l.toArray⟩ : ByteArray) ++ (⟨m.toArray⟩ : ByteArray) = ⟨(l ++ m).toArray⟩ := by
  rw [bapp]
  simp
theorem check_str {v : V} (h : v.check = true) : v.str.size ≤ 4096 := by
  cases v with
  | leaf => exact Nat.zero_le _
  | mk k n s la ll lc L fa fl fc fn F e key hk =>
    have h1 := ((check_iff _).1 h).1.1
    simp only [shapeB, inLimB, Bool.and_eq_true, decide_eq_true_iff] at h1
    exact h1.2.1.1
set_option maxRecDepth 100000 in
set_option maxHeartbeats 4000000 in
theorem rcat_any (S : Nat → Prop) (la : Option Addr) (ll lc : Nat) (L : Nat → V) (w : World) (h : Vals w la ll lc L) (hck : ∀ i, i < ll → (L i).check = true) : Calls Tryz.prog 83 #[.slice la ll lc] w (OpX S 6 ll L w) := by
  have OK0 := OW.start h 30
  have HCK := Lib.hid hck
  clear hck
  have hlc := h.hlc
  unfold maxLen at hlc
  have KS := Lib.hid (fun W (h : OW w la ll lc L W) => And.intro h h.rcells)
  obtain ⟨p, hp⟩ : ∃ p : Nat → Bool, p = fun i => (decide ((L i).kind = 3) || decide ((L i).kind = 1)) && decide ((catL (i + 1) L).length ≤ 4096) := ⟨_, rfl⟩
  have hcb : catB ll L = allB ll p := by rw [hp]; rfl
  have HN : Hid (∀ e w' j, j < ll → p j = false → e = .returned (.tuple #[nv.agg, .bool false]) → Below w.heap.size w w' → OpX S 6 ll L w e w') := fun e w' j hj hq he hb => by
    have h0 : opOk 6 ll L = false := by show catB ll L = false; rw [hcb]; exact allB_false hj hq
    exact ⟨nv, by rw [h0]; exact he, hb, fun W' _ => nv_in W', fun q => by rw [h0] at q; cases q⟩
  have HY : Hid (∀ e w', HeldTo ll p → e = .returned (.tuple #[(sv ⟨(catL ll L).toArray⟩).agg, .bool true]) → Below w.heap.size w w' → (catL ll L).length ≤ 4096 → OpX S 6 ll L w e w') := fun e w' hq he hb hz => by
    have h0 : opOk 6 ll L = true := by show catB ll L = true; rw [hcb]; exact hq.all
    exact ⟨sv ⟨(catL ll L).toArray⟩, by rw [h0]; exact he, hb, fun W' _ => vz_in W' (by omega) (by omega) (by show (catL ll L).toArray.size ≤ _; rw [List.size_toArray]; unfold maxLen; omega), fun _ => sv_same _⟩
  have HPJ : Hid (∀ j, p j = ((decide ((L j).kind = 3) || decide ((L j).kind = 1)) && decide ((catL (j + 1) L).length ≤ 4096))) := fun j => by rw [hp]
  clear hp hcb
  simp only [nv, vz, V.cells] at OK0
  have OKH := Lib.hid OK0
  clear OK0 h
  go_enter Tryz.func83, Tryz.ntmps83
  go_upto_region 1 with fail
  have OKu := OKH.out
  generalize w.alloc (.cells #[.int .u8 0, .int .i64 0, .string ⟨#[]⟩, .slice none 0 0, .slice none 0 0, .int .u8 0, .string ⟨#[]⟩, .bool false] 30) = W0 at OKu ⊢
  have OK : Hid (OW w la ll lc L W0) := Lib.hid OKu
  clear OKu OKH
  go_wp2_with fail
  go_loopw [4, 5] (fun s i wr => ∃ j : Nat, j ≤ ll ∧ i = .int .i64 j ∧ s = .string ⟨(catL j L).toArray⟩ ∧ (catL j L).length ≤ 4096 ∧ HeldTo j p ∧ OW w la ll lc L wr) (fun _ i _ => ll - (intOf i).toNat)
  case atStart => exact ⟨0, Nat.zero_le _, rfl, rfl, by simp [catL], HeldTo.zero, OK.out⟩
  case round =>
    obtain ⟨j, hj, rfl, rfl, hlen, hheld, hbx⟩ := hrel
    have HB := Lib.hid hbx
    have HH := Lib.hid hheld
    have HZ := Lib.hid hlen
    obtain ⟨-, ⟨d0, d1, d2, d3, d4, d5, d6, d7⟩, z0, z1, z2, z3, z4, z5, z6, z7⟩ := KS.out _ hbx
    clear hbx hheld hlen OK
    by_cases hlt : j < ll
    · obtain ⟨⟨b, o, rfl, hat⟩, hin⟩ := HB.out.vals.el j hlt
      have HNj := Lib.hid (fun e w' q => HN.out e w' j hlt q)
      have HSj := Lib.hid (fun q => HH.out.succ (k := j) q)
      have HPj := Lib.hid (HPJ.out j)
      have HCL : Hid (catL (j + 1) L = catL j L ++ piece (L j)) := Lib.hid rfl
      have hss := check_str (HCK.out j hlt)
      obtain ⟨v, hv⟩ : ∃ v, L j = v := ⟨_, rfl⟩
      rw [hv] at hat hin HPj HCL hss
      clear hv
      cases v with
      | leaf => exact hin.elim
      | mk k2 n2 s2 la2 ll2 lc2 L2 fa2 fl2 fc2 fn2 F2 e2 key2 hk2 =>
      obtain ⟨c0, c1, c2, c3, c4, c5, c6, c7⟩ := at8 hat
      have hnr := hin.2.1
      have HNR := Lib.hid hnr
      clear hat hin hnr
      have hsum : (catL j L).length + s2.size ≤ 9223372036854775807 := by have := HZ.out; have : s2.size ≤ 4096 := hss; omega
      have hsum2 : (catL j L).length + (Lib.itoa n2).length ≤ 9223372036854775807 := by have := HZ.out; have := Lib.itoa_length_le n2 HNR.out.1 HNR.out.2; omega
      clear hss
      have hl0 : (0 : Int) ≤ (j : Int) := by omega
      have hli : (j : Int) < (ll : Int) := by omega
      by_cases h3 : k2 = 3
      · subst h3
        obtain ⟨q, hq⟩ : ∃ q, (⟨(catL j L).toArray⟩ : ByteArray) ++ s2 = q := ⟨_, rfl⟩
        have HQ : Hid (q = ⟨(catL (j + 1) L).toArray⟩) := Lib.hid (by rw [← hq, cat_text, HCL.out]; rfl)
        have hqs : q.size = (catL (j + 1) L).length := by rw [HQ.out]; show (catL (j + 1) L).toArray.size = _; rw [List.size_toArray]
        by_cases hz : (catL (j + 1) L).length ≤ 4096
        · have hz' : (q.size : Int) ≤ 4096 := by rw [hqs]; omega
          have HT : Hid (p j = true) := Lib.hid (by rw [HPj.out, decide_eq_true hz]; rfl)
          have HZ2 := Lib.hid hz
          clear hz hqs
          go_wp2_with fail
          go_roundw
          case rel => exact ⟨j + 1, by omega, by go_num, by rw [HQ.out], HZ2.out, HSj.out HT.out, HB.out⟩
          case measure => simp [intOf]; omega
        · have hz' : (4096 : Int) < (q.size : Int) := by rw [hqs]; omega
          have HT : Hid (p j = false) := Lib.hid (by rw [HPj.out, decide_eq_false hz, Bool.and_false])
          clear hz hqs
          go_wp2_with fail
          refine bodyPost_ret (v := .tuple #[nv.agg, .bool false]) (by simp [results, Tryz.results83, go_sem, d0, d1, d2, d3, d4, d5, d6, d7, nv, vz, V.agg, V.cells]) rfl (HNj.out _ _ HT.out rfl ?_)
          iterate 8 (with_reducible refine low_set ?_ _ _)
          exact HB.out.low
      by_cases h1 : k2 = 1
      · subst h1
        have HD := Lib.hid (fun W => rdigits_any n2 W HNR.out)
        obtain ⟨q, hq⟩ : ∃ q, (⟨(catL j L).toArray⟩ : ByteArray) ++ (⟨(Lib.itoa n2).toArray⟩ : ByteArray) = q := ⟨_, rfl⟩
        have HQ : Hid (q = ⟨(catL (j + 1) L).toArray⟩) := Lib.hid (by rw [← hq, cat_digits, HCL.out]; rfl)
        have hqs : q.size = (catL (j + 1) L).length := by rw [HQ.out]; show (catL (j + 1) L).toArray.size = _; rw [List.size_toArray]
        by_cases hz : (catL (j + 1) L).length ≤ 4096
        · have hz' : (q.size : Int) ≤ 4096 := by rw [hqs]; omega
          have HT : Hid (p j = true) := Lib.hid (by rw [HPj.out, decide_eq_true hz]; rfl)
          have HZ2 := Lib.hid hz
          clear hz hqs
          go_wp2_with (go_at_call 146; (with_reducible refine (HD.out _).mono ?_); rintro x w6 ⟨rfl, hb6⟩; have HB6 := Lib.hid (HB.out.below hb6); clear hb6)
          go_roundw
          case rel => exact ⟨j + 1, by omega, by go_num, by rw [HQ.out], HZ2.out, HSj.out HT.out, HB6.out⟩
          case measure => simp [intOf]; omega
        · have hz' : (4096 : Int) < (q.size : Int) := by rw [hqs]; omega
          have HT : Hid (p j = false) := Lib.hid (by rw [HPj.out, decide_eq_false hz, Bool.and_false])
          clear hz hqs
          go_wp2_with (go_at_call 146; (with_reducible refine (HD.out _).mono ?_); rintro x w6 ⟨rfl, hb6⟩; have HB6 := Lib.hid (HB.out.below hb6); clear hb6 d0 d1 d2 d3 d4 d5 d6 d7 z0 z1 z2 z3 z4 z5 z6 z7; obtain ⟨-, ⟨d0, d1, d2, d3, d4, d5, d6, d7⟩, z0, z1, z2, z3, z4, z5, z6, z7⟩ := KS.out _ HB6.out)
          refine bodyPost_ret (v := .tuple #[nv.agg, .bool false]) (by simp [results, Tryz.results83, go_sem, d0, d1, d2, d3, d4, d5, d6, d7, nv, vz, V.agg, V.cells]) rfl (HNj.out _ _ HT.out rfl ?_)
          iterate 8 (with_reducible refine low_set ?_ _ _)
          exact HB6.out.low
      · have HT : Hid (p j = false) := Lib.hid (by rw [HPj.out]; simp [V.kind, h3, h1])
        have h3' : (k2 == 3) = false := by simpa using h3
        have h1' : (k2 == 1) = false := by simpa using h1
        clear h3 h1
        go_wp2_with fail
        refine bodyPost_ret (v := .tuple #[nv.agg, .bool false]) (by simp [results, Tryz.results83, go_sem, d0, d1, d2, d3, d4, d5, d6, d7, nv, vz, V.agg, V.cells]) rfl (HNj.out _ _ HT.out rfl ?_)
        iterate 8 (with_reducible refine low_set ?_ _ _)
        exact HB.out.low
    · obtain rfl : j = ll := by omega
      have HRT := Lib.hid (fun s W => rText_any s W)
      simp only [sv, vz, V.agg, V.cells] at HRT
      go_wp2_with (go_at_call 147; (with_reducible refine (HRT.out _ _).mono ?_); rintro x w6 ⟨rfl, hb6⟩; have HB6 := Lib.hid (HB.out.below hb6); clear hb6 d0 d1 d2 d3 d4 d5 d6 d7 z0 z1 z2 z3 z4 z5 z6 z7; obtain ⟨-, ⟨d0, d1, d2, d3, d4, d5, d6, d7⟩, z0, z1, z2, z3, z4, z5, z6, z7⟩ := KS.out _ HB6.out)
      refine bodyPost_ret (v := .tuple #[(sv ⟨(catL j L).toArray⟩).agg, .bool true]) (by simp [results, Tryz.results83, go_sem, d0, d1, d2, d3, d4, d5, d6, d7, sv, vz, V.agg, V.cells]) rfl (HY.out _ _ HH.out rfl ?_ HZ.out)
      iterate 8 (with_reducible refine low_set ?_ _ _)
      exact HB6.out.low
end Go.Proofs.YtmhemajcnfcdmaaGreatDoor.Od
namespace Go.Proofs.YtmhemajcnfcdmaaGreatDoor.Od
set_option linter.unusedVariables false
set_option linter.unusedSimpArgs false
open Go.RowKit Go.Deep Go.WideShapes
structure OX (w : World) (v : V) (W : World) : Prop where
  low : Below w.heap.size w W
  bx : At W w.heap.size 0 v.cells
  res : ∀ i, i < 8 → (∃ v, W.cell? ⟨w.heap.size + 1, i, none⟩ = some v) ∧ W.frozen? ⟨w.heap.size + 1, i, none⟩ = false
  big : w.heap.size + 1 < W.heap.size
theorem OX.below {w W W' : World} {v : V} (h : OX w v W) (hb : Below W.heap.size W W') : OX w v W' := by
  refine ⟨h.low.trans (hb.mono h.low.size), h.bx.below hb, fun i hi => ?_, Nat.lt_of_lt_of_le h.big hb.size⟩
  obtain ⟨⟨v, h1⟩, h2⟩ := h.res i hi
  exact ⟨⟨v, by rw [hb.cell (World.block_lt_of_cell? _ _ h1), h1]⟩, by rw [hb.frozen (World.block_lt_of_cell? _ _ h1), h2]⟩
theorem OX.start (w : World) (v : V) (T T' : TypeId) : OX w v ((w.alloc (.cells v.cells.toArray T)).alloc (.cells nv.cells.toArray T')) := by
  have hs : (w.alloc (.cells v.cells.toArray T)).heap.size = w.heap.size + 1 := by simp
  refine ⟨(below_alloc w _).trans ((below_alloc _ _).mono (by simp)), (at_new (w := w) (cs := v.cells) (T := T) rfl (Below.refl _ _)).below (below_alloc _ _), fun i hi => ?_, by simp⟩
  have := at_new (w := w.alloc (.cells v.cells.toArray T)) (cs := nv.cells) (T := T') rfl (Below.refl _ _) i hi
  rw [Nat.zero_add, hs] at this
  refine ⟨⟨nv.cells[i]'hi, by rw [this]; exact List.getElem?_eq_getElem hi⟩, ?_⟩
  rw [← hs]
  simp
theorem OX.set {w W : World} {v : V} (h : OX w v W) (i : Nat) (u : Value) : OX w v (W.setCell ⟨w.heap.size + 1, i, none⟩ u) := by
  have hb : ∀ b, b ≠ w.heap.size + 1 → ∀ j, (W.setCell ⟨w.heap.size + 1, i, none⟩ u).cell? ⟨b, j, none⟩ = W.cell? ⟨b, j, none⟩ := fun b hb j => World.cell?_setCell_other _ _ _ _ (fun e => hb (congrArg (fun a : Addr => a.block) e).symm)
  refine ⟨h.low.setCell (p := ⟨w.heap.size + 1, i, none⟩) (Nat.le_succ _) u, fun j hj => by rw [hb _ (by omega)]; exact h.bx j hj, fun j hj => ?_, by simpa using h.big⟩
  obtain ⟨⟨x, h1⟩, h2⟩ := h.res j hj
  refine ⟨?_, ?_⟩
  · by_cases e : i = j
    · subst e
      exact ⟨u, World.cell?_setCell_same _ _ _ h1⟩
    · exact ⟨x, by rw [World.cell?_setCell_other _ _ _ _ (fun e' => e (congrArg (fun a : Addr => a.off) e')), h1]⟩
  · rw [World.frozen?_setCell, h2]
theorem OX.drew {w W : World} {v : V} (h : OX w v W) : OX w v W.drew := h.below (Below.refl _ _).drew
theorem OX.alloc {w W : World} {v : V} (h : OX w v W) (O : Obj) : OX w v (W.alloc O) := h.below (below_alloc _ _)
theorem OX.all {w W : World} {k n : Int} {s : ByteArray} {la : Option Addr} {ll lc : Nat} {L : Nat → V} {fa : Option Addr} {fl fc : Nat} {fn : Nat → ByteArray} {F : Nat → V} {e : Int} {key : ByteArray} {hk : Bool} (h : OX w (V.mk k n s la ll lc L fa fl fc fn F e key hk) W) :
    (W.cell? ⟨w.heap.size, 0, none⟩ = some (.int .u8 k) ∧ W.cell? ⟨w.heap.size, 1, none⟩ = some (.int .i64 n) ∧ W.cell? ⟨w.heap.size, 2, none⟩ = some (.string s) ∧ W.cell? ⟨w.heap.size, 3, none⟩ = some (.slice la ll lc) ∧ W.cell? ⟨w.heap.size, 4, none⟩ = some (.slice fa fl fc) ∧ W.cell? ⟨w.heap.size, 5, none⟩ = some (.int .u8 e) ∧ W.cell? ⟨w.heap.size, 6, none⟩ = some (.string key) ∧ W.cell? ⟨w.heap.size, 7, none⟩ = some (.bool hk)) ∧
    (W.cell? ⟨w.heap.size + 1, 0, none⟩ = some (rs W (w.heap.size + 1) 0) ∧ W.cell? ⟨w.heap.size + 1, 1, none⟩ = some (rs W (w.heap.size + 1) 1) ∧ W.cell? ⟨w.heap.size + 1, 2, none⟩ = some (rs W (w.heap.size + 1) 2) ∧ W.cell? ⟨w.heap.size + 1, 3, none⟩ = some (rs W (w.heap.size + 1) 3) ∧ W.cell? ⟨w.heap.size + 1, 4, none⟩ = some (rs W (w.heap.size + 1) 4) ∧ W.cell? ⟨w.heap.size + 1, 5, none⟩ = some (rs W (w.heap.size + 1) 5) ∧ W.cell? ⟨w.heap.size + 1, 6, none⟩ = some (rs W (w.heap.size + 1) 6) ∧ W.cell? ⟨w.heap.size + 1, 7, none⟩ = some (rs W (w.heap.size + 1) 7)) ∧
    (W.frozen? ⟨w.heap.size + 1, 0, none⟩ = false ∧ W.frozen? ⟨w.heap.size + 1, 1, none⟩ = false ∧ W.frozen? ⟨w.heap.size + 1, 2, none⟩ = false ∧ W.frozen? ⟨w.heap.size + 1, 3, none⟩ = false ∧ W.frozen? ⟨w.heap.size + 1, 4, none⟩ = false ∧ W.frozen? ⟨w.heap.size + 1, 5, none⟩ = false ∧ W.frozen? ⟨w.heap.size + 1, 6, none⟩ = false ∧ W.frozen? ⟨w.heap.size + 1, 7, none⟩ = false) :=
  ⟨at80 h.bx, ⟨rs_some (h.res 0 (by decide)).1.choose_spec, rs_some (h.res 1 (by decide)).1.choose_spec, rs_some (h.res 2 (by decide)).1.choose_spec, rs_some (h.res 3 (by decide)).1.choose_spec, rs_some (h.res 4 (by decide)).1.choose_spec, rs_some (h.res 5 (by decide)).1.choose_spec, rs_some (h.res 6 (by decide)).1.choose_spec, rs_some (h.res 7 (by decide)).1.choose_spec⟩,
    (h.res 0 (by decide)).2, (h.res 1 (by decide)).2, (h.res 2 (by decide)).2, (h.res 3 (by decide)).2, (h.res 4 (by decide)).2, (h.res 5 (by decide)).2, (h.res 6 (by decide)).2, (h.res 7 (by decide)).2⟩
theorem low_set' {w W : World} {B : Nat} (hB : w.heap.size ≤ B) (h : Below w.heap.size w W) (i : Nat) (u : Value) : Below w.heap.size w (W.setCell ⟨B, i, none⟩ u) := h.setCell (p := ⟨B, i, none⟩) hB u
theorem rBool_q (b : Bool) (q : Int) (hq : bq b = q) (w : World) : Calls Tryz.prog 148 #[.bool b] w fun e w' => e = .returned (.agg #[.int .u8 2, .int .i64 q, .string ⟨#[]⟩, .slice none 0 0, .slice none 0 0, .int .u8 0, .string ⟨#[]⟩, .bool false]) ∧ Below w.heap.size w w' :=
  (rBool_any b w).mono fun e w' ⟨h1, h2⟩ => ⟨by rw [h1, ← bq_bv, hq]; rfl, h2⟩
set_option maxRecDepth 100000 in
set_option maxHeartbeats 4000000 in
theorem rnot_any (S : Nat → Prop) (v : V) (w : World) (hin : v.In w) : Calls Tryz.prog 85 #[.string ⟨#[110, 111, 116]⟩, v.agg] w (OpX S 5 1 (v1 v) w) := by
  cases v with
  | leaf => exact hin.elim
  | mk k n s la ll lc L fa fl fc fn F e key hk =>
  obtain ⟨r, hr⟩ : ∃ r, decide (k = 2) = r := ⟨_, rfl⟩
  have hr' : (k == 2) = r := hr
  obtain ⟨z, hz⟩ : ∃ z, decide (n = 0) = z := ⟨_, rfl⟩
  have hz' : (n == 0) = z := hz
  obtain ⟨q, hq⟩ : ∃ q, bq z = q := ⟨_, rfl⟩
  have HP : Hid (∀ e' w', (∃ u : V, e' = .returned (.tuple #[u.agg, .bool r]) ∧ Below w.heap.size w w' ∧ u = vz 2 q ⟨#[]⟩) → OpX S 5 1 (v1 (V.mk k n s la ll lc L fa fl fc fn F e key hk)) w e' w') := by
    rintro e' w' ⟨u, h1, h2, rfl⟩
    rw [← hq, bq_bv] at h1
    exact ⟨_, by rw [show opOk 5 1 (v1 (V.mk k n s la ll lc L fa fl fc fn F e key hk)) = r from hr]; exact h1, h2, fun W' _ => bv_in z W', fun _ => by rw [← hz]; exact bv_same _⟩
  have HRB := Lib.hid (fun W => rBool_q z q hq W)
  clear hr hz hq
  have OK0 := OX.start w (V.mk k n s la ll lc L fa fl fc fn F e key hk) 30 30
  have KS := Lib.hid (fun W (h : OX w (V.mk k n s la ll lc L fa fl fc fn F e key hk) W) => And.intro h h.all)
  have hnr := hin.2.1
  have hlr : (ll : Int) ≤ 9223372036854775807 := by have := hin.2.2.2.2.2.1; unfold maxLen at this; omega
  have hsr : (s.size : Int) ≤ 9223372036854775807 := by have := hin.2.2.1; unfold maxLen at this; omega
  have HIN := Lib.hid hin
  clear hin
  simp only [nv, vz, V.cells] at OK0
  have OKH := Lib.hid OK0
  clear OK0
  simp only [V.agg, V.cells]
  go_enter Tryz.func85, Tryz.ntmps85
  go_upto_region 1 with fail
  have OKu := OKH.out
  generalize (w.alloc (.cells #[.int .u8 k, .int .i64 n, .string s, .slice la ll lc, .slice fa fl fc, .int .u8 e, .string key, .bool hk] 30)).alloc (.cells #[.int .u8 0, .int .i64 0, .string ⟨#[]⟩, .slice none 0 0, .slice none 0 0, .int .u8 0, .string ⟨#[]⟩, .bool false] 30) = W0 at OKu ⊢
  have OK : OX w (V.mk k n s la ll lc L fa fl fc fn F e key hk) W0 := OKu
  clear OKu OKH
  obtain ⟨-, ⟨c0, c1, c2, c3, c4, c5, c6, c7⟩, ⟨d0, d1, d2, d3, d4, d5, d6, d7⟩, z0, z1, z2, z3, z4, z5, z6, z7⟩ := KS.out _ OK
  go_wp2_with fail
  clear c0 c1 c2 c3 c4 c5 c6 c7 d0 d1 d2 d3 d4 d5 d6 d7 z0 z1 z2 z3 z4 z5 z6 z7
  go_region_held3 (fun W => OX w (V.mk k n s la ll lc L fa fl fc fn F e key hk) W ∧
      (W.cell? ⟨w.heap.size, 0, none⟩ = some (.int .u8 k) ∧ W.cell? ⟨w.heap.size, 1, none⟩ = some (.int .i64 n) ∧ W.cell? ⟨w.heap.size, 2, none⟩ = some (.string s) ∧ W.cell? ⟨w.heap.size, 3, none⟩ = some (.slice la ll lc) ∧ W.cell? ⟨w.heap.size, 4, none⟩ = some (.slice fa fl fc) ∧ W.cell? ⟨w.heap.size, 5, none⟩ = some (.int .u8 e) ∧ W.cell? ⟨w.heap.size, 6, none⟩ = some (.string key) ∧ W.cell? ⟨w.heap.size, 7, none⟩ = some (.bool hk)) ∧
      (W.cell? ⟨w.heap.size + 1, 0, none⟩ = some (rs W (w.heap.size + 1) 0) ∧ W.cell? ⟨w.heap.size + 1, 1, none⟩ = some (rs W (w.heap.size + 1) 1) ∧ W.cell? ⟨w.heap.size + 1, 2, none⟩ = some (rs W (w.heap.size + 1) 2) ∧ W.cell? ⟨w.heap.size + 1, 3, none⟩ = some (rs W (w.heap.size + 1) 3) ∧ W.cell? ⟨w.heap.size + 1, 4, none⟩ = some (rs W (w.heap.size + 1) 4) ∧ W.cell? ⟨w.heap.size + 1, 5, none⟩ = some (rs W (w.heap.size + 1) 5) ∧ W.cell? ⟨w.heap.size + 1, 6, none⟩ = some (rs W (w.heap.size + 1) 6) ∧ W.cell? ⟨w.heap.size + 1, 7, none⟩ = some (rs W (w.heap.size + 1) 7)) ∧
      (W.frozen? ⟨w.heap.size + 1, 0, none⟩ = false ∧ W.frozen? ⟨w.heap.size + 1, 1, none⟩ = false ∧ W.frozen? ⟨w.heap.size + 1, 2, none⟩ = false ∧ W.frozen? ⟨w.heap.size + 1, 3, none⟩ = false ∧ W.frozen? ⟨w.heap.size + 1, 4, none⟩ = false ∧ W.frozen? ⟨w.heap.size + 1, 5, none⟩ = false ∧ W.frozen? ⟨w.heap.size + 1, 6, none⟩ = false ∧ W.frozen? ⟨w.heap.size + 1, 7, none⟩ = false))
    (first
      | (refine KS.out _ ?_; with_reducible assumption)
      | (refine KS.out _ ?_; ((with_reducible refine OX.set ?_ _ _); (repeat' (with_reducible refine OX.set ?_ _ _)); go_split_ands; with_reducible assumption))
      | (with_reducible exact KS.out _ (OX.drew OK))
      | (with_reducible exact KS.out _ (OX.drew (OX.alloc OK _)))
      | (refine KS.out _ (OX.below ?_ (by with_reducible assumption)); go_split_ands; with_reducible assumption)
      | (with_reducible refine KS.out _ (OX.alloc ?_ _); go_split_ands; with_reducible assumption))
    (first
      | (go_at_call 148; refine (HRB.out _).mono ?_; rintro p w1 ⟨rfl, hb1⟩; have OK1 := Lib.hid (OX.below (w := w) (v := V.mk k n s la ll lc L fa fl fc fn F e key hk) (by go_split_ands; with_reducible assumption) hb1)))
  all_goals
    go_wp2_with fail
    rename_i hS
    have HS := Lib.hid hS.1
    obtain ⟨-, -, ⟨d0, d1, d2, d3, d4, d5, d6, d7⟩, -⟩ := KS.out _ OK1.out
    clear hS KS HRB OK
    refine bodyPost_ret (v := .tuple #[(vz 2 q ⟨#[]⟩).agg, .bool r]) (by simp [results, Tryz.results85, go_sem, d0, d1, d2, d3, d4, d5, d6, d7, vz, V.agg, V.cells]) rfl (HP.out _ _ ⟨_, rfl, HS.out.low, rfl⟩)
set_option maxRecDepth 100000 in
set_option maxHeartbeats 4000000 in
theorem rlen_any (S : Nat → Prop) (v : V) (w : World) (hin : v.In w) : Calls Tryz.prog 85 #[.string ⟨#[108, 101, 110]⟩, v.agg] w (OpX S 7 1 (v1 v) w) := by
  cases v with
  | leaf => exact hin.elim
  | mk k n s la ll lc L fa fl fc fn F e key hk =>
  have HP3 : Hid (k = 3 → ∀ e' w', (∃ u : V, e' = .returned (.tuple #[u.agg, .bool true]) ∧ Below w.heap.size w w' ∧ u = vz 1 s.size ⟨#[]⟩) → OpX S 7 1 (v1 (V.mk k n s la ll lc L fa fl fc fn F e key hk)) w e' w') := by
    rintro rfl e' w' ⟨u, h1, h2, rfl⟩
    exact ⟨_, h1, h2, fun W' _ => iv_in (s.size : Int) W' (by have := hin.2.2.1; unfold maxLen at this; omega), fun _ => iv_same _⟩
  have HP4 : Hid (k ≠ 3 → ∀ e' w', (∃ u : V, e' = .returned (.tuple #[u.agg, .bool (decide (k = 4))]) ∧ Below w.heap.size w w' ∧ u = vz 1 ll ⟨#[]⟩) → OpX S 7 1 (v1 (V.mk k n s la ll lc L fa fl fc fn F e key hk)) w e' w') := by
    rintro h3 e' w' ⟨u, h1, h2, rfl⟩
    refine ⟨iv ll, ?_, h2, fun W' _ => iv_in (ll : Int) W' (by have := hin.2.2.2.2.2.1; unfold maxLen at this; omega), fun _ => ?_⟩
    · rw [show opOk 7 1 (v1 (V.mk k n s la ll lc L fa fl fc fn F e key hk)) = decide (k = 4) from (by show (decide (k = 3) || decide (k = 4)) = _; rw [decide_eq_false h3]; rfl)]; exact h1
    · rw [show opV 7 1 (v1 (V.mk k n s la ll lc L fa fl fc fn F e key hk)) = iv ll by simp [opV, v1, V.kind, V.len, h3]]; exact iv_same _
  have HRI := Lib.hid (fun x W => rInt_any x W)
  simp only [iv, vz, V.agg, V.cells] at HRI
  have OK0 := OX.start w (V.mk k n s la ll lc L fa fl fc fn F e key hk) 30 30
  have KS := Lib.hid (fun W (h : OX w (V.mk k n s la ll lc L fa fl fc fn F e key hk) W) => And.intro h h.all)
  have hnr := hin.2.1
  have hlr : (ll : Int) ≤ 9223372036854775807 := by have := hin.2.2.2.2.2.1; unfold maxLen at this; omega
  have hsr : (s.size : Int) ≤ 9223372036854775807 := by have := hin.2.2.1; unfold maxLen at this; omega
  have HIN := Lib.hid hin
  clear hin
  simp only [nv, vz, V.cells] at OK0
  have OKH := Lib.hid OK0
  clear OK0
  simp only [V.agg, V.cells]
  go_enter Tryz.func85, Tryz.ntmps85
  go_upto_region 1 with fail
  have OKu := OKH.out
  generalize (w.alloc (.cells #[.int .u8 k, .int .i64 n, .string s, .slice la ll lc, .slice fa fl fc, .int .u8 e, .string key, .bool hk] 30)).alloc (.cells #[.int .u8 0, .int .i64 0, .string ⟨#[]⟩, .slice none 0 0, .slice none 0 0, .int .u8 0, .string ⟨#[]⟩, .bool false] 30) = W0 at OKu ⊢
  have OK : OX w (V.mk k n s la ll lc L fa fl fc fn F e key hk) W0 := OKu
  clear OKu OKH
  by_cases h3 : k = 3
  · have HPP := Lib.hid (HP3.out h3)
    subst h3
    obtain ⟨-, ⟨c0, c1, c2, c3, c4, c5, c6, c7⟩, ⟨d0, d1, d2, d3, d4, d5, d6, d7⟩, z0, z1, z2, z3, z4, z5, z6, z7⟩ := KS.out _ OK
    go_wp2_with (go_at_call 149; (with_reducible refine (HRI.out _ _).mono ?_); rintro x w6 ⟨rfl, hb6⟩; have HB6 := Lib.hid (OK.below hb6); clear hb6 c0 c1 c2 c3 c4 c5 c6 c7 d0 d1 d2 d3 d4 d5 d6 d7 z0 z1 z2 z3 z4 z5 z6 z7; obtain ⟨-, -, ⟨d0, d1, d2, d3, d4, d5, d6, d7⟩, z0, z1, z2, z3, z4, z5, z6, z7⟩ := KS.out _ HB6.out)
    refine bodyPost_ret (v := .tuple #[(vz 1 s.size ⟨#[]⟩).agg, .bool true]) (by simp [results, Tryz.results85, go_sem, d0, d1, d2, d3, d4, d5, d6, d7, vz, V.agg, V.cells]) rfl (HPP.out _ _ ⟨_, rfl, ?_, rfl⟩)
    iterate 8 (with_reducible refine low_set' (Nat.le_succ _) ?_ _ _)
    exact HB6.out.low
  · have HPP := Lib.hid (HP4.out h3)
    have h3' : (k == 3) = false := by simpa using h3
    obtain ⟨r, hr⟩ : ∃ r, decide (k = 4) = r := ⟨_, rfl⟩
    have hr' : (k == 4) = r := hr
    rw [hr] at HPP
    clear h3 hr HP3 HP4
    obtain ⟨-, ⟨c0, c1, c2, c3, c4, c5, c6, c7⟩, ⟨d0, d1, d2, d3, d4, d5, d6, d7⟩, z0, z1, z2, z3, z4, z5, z6, z7⟩ := KS.out _ OK
    go_wp2_with fail
    clear c0 c1 c2 c3 c4 c5 c6 c7 d0 d1 d2 d3 d4 d5 d6 d7 z0 z1 z2 z3 z4 z5 z6 z7
    go_region_held3 (fun W => OX w (V.mk k n s la ll lc L fa fl fc fn F e key hk) W ∧
      (W.cell? ⟨w.heap.size, 0, none⟩ = some (.int .u8 k) ∧ W.cell? ⟨w.heap.size, 1, none⟩ = some (.int .i64 n) ∧ W.cell? ⟨w.heap.size, 2, none⟩ = some (.string s) ∧ W.cell? ⟨w.heap.size, 3, none⟩ = some (.slice la ll lc) ∧ W.cell? ⟨w.heap.size, 4, none⟩ = some (.slice fa fl fc) ∧ W.cell? ⟨w.heap.size, 5, none⟩ = some (.int .u8 e) ∧ W.cell? ⟨w.heap.size, 6, none⟩ = some (.string key) ∧ W.cell? ⟨w.heap.size, 7, none⟩ = some (.bool hk)) ∧
      (W.cell? ⟨w.heap.size + 1, 0, none⟩ = some (rs W (w.heap.size + 1) 0) ∧ W.cell? ⟨w.heap.size + 1, 1, none⟩ = some (rs W (w.heap.size + 1) 1) ∧ W.cell? ⟨w.heap.size + 1, 2, none⟩ = some (rs W (w.heap.size + 1) 2) ∧ W.cell? ⟨w.heap.size + 1, 3, none⟩ = some (rs W (w.heap.size + 1) 3) ∧ W.cell? ⟨w.heap.size + 1, 4, none⟩ = some (rs W (w.heap.size + 1) 4) ∧ W.cell? ⟨w.heap.size + 1, 5, none⟩ = some (rs W (w.heap.size + 1) 5) ∧ W.cell? ⟨w.heap.size + 1, 6, none⟩ = some (rs W (w.heap.size + 1) 6) ∧ W.cell? ⟨w.heap.size + 1, 7, none⟩ = some (rs W (w.heap.size + 1) 7)) ∧
      (W.frozen? ⟨w.heap.size + 1, 0, none⟩ = false ∧ W.frozen? ⟨w.heap.size + 1, 1, none⟩ = false ∧ W.frozen? ⟨w.heap.size + 1, 2, none⟩ = false ∧ W.frozen? ⟨w.heap.size + 1, 3, none⟩ = false ∧ W.frozen? ⟨w.heap.size + 1, 4, none⟩ = false ∧ W.frozen? ⟨w.heap.size + 1, 5, none⟩ = false ∧ W.frozen? ⟨w.heap.size + 1, 6, none⟩ = false ∧ W.frozen? ⟨w.heap.size + 1, 7, none⟩ = false))
    (first
      | (refine KS.out _ ?_; with_reducible assumption)
      | (refine KS.out _ ?_; ((with_reducible refine OX.set ?_ _ _); (repeat' (with_reducible refine OX.set ?_ _ _)); go_split_ands; with_reducible assumption))
      | (with_reducible exact KS.out _ (OX.drew OK))
      | (with_reducible exact KS.out _ (OX.drew (OX.alloc OK _)))
      | (refine KS.out _ (OX.below ?_ (by with_reducible assumption)); go_split_ands; with_reducible assumption)
      | (with_reducible refine KS.out _ (OX.alloc ?_ _); go_split_ands; with_reducible assumption))
    (first
      | (go_at_call 149; refine (HRI.out _ _).mono ?_; rintro p w1 ⟨rfl, hb1⟩; have OK1 := Lib.hid (OX.below (w := w) (v := V.mk k n s la ll lc L fa fl fc fn F e key hk) (by go_split_ands; with_reducible assumption) hb1)))
    all_goals
      go_wp2_with fail
      rename_i hS
      have HS := Lib.hid hS.1
      obtain ⟨-, -, ⟨d0, d1, d2, d3, d4, d5, d6, d7⟩, -⟩ := KS.out _ OK1.out
      clear hS KS HRI OK
      refine bodyPost_ret (v := .tuple #[(vz 1 ll ⟨#[]⟩).agg, .bool r]) (by simp [results, Tryz.results85, go_sem, d0, d1, d2, d3, d4, d5, d6, d7, vz, V.agg, V.cells]) rfl (HPP.out _ _ ⟨_, rfl, HS.out.low, rfl⟩)
set_option maxRecDepth 100000 in
set_option maxHeartbeats 4000000 in
theorem rtx_any (S : Nat → Prop) (v : V) (w : World) (hin : v.In w) (hz : v.size ≤ 1099511627776) (hX : InS S v w) : Calls Tryz.prog 85 #[.string ⟨#[116, 101, 120, 116]⟩, v.agg] w (OpX S 12 1 (v1 v) w) := by
  cases v with
  | leaf => exact hin.elim
  | mk k n s la ll lc L fa fl fc fn F e key hk =>
  have HP3 : Hid (k = 3 → ∀ e' w', (∃ u : V, e' = .returned (.tuple #[u.agg, .bool true]) ∧ Below w.heap.size w w' ∧ u = (V.mk k n s la ll lc L fa fl fc fn F e key hk)) → OpX S 12 1 (v1 (V.mk k n s la ll lc L fa fl fc fn F e key hk)) w e' w') := by
    rintro rfl e' w' ⟨u, h1, h2, rfl⟩
    exact ⟨_, h1, h2, hX.below h2, fun _ => In_same hin⟩
  have HP4 : Hid (k ≠ 3 → ∀ e' w', (∃ u : V, e' = .returned (.tuple #[u.agg, .bool (!(V.mk k n s la ll lc L fa fl fc fn F e key hk).deed)]) ∧ Below w.heap.size w w' ∧ u = vz 3 0 (V.mk k n s la ll lc L fa fl fc fn F e key hk).text) → OpX S 12 1 (v1 (V.mk k n s la ll lc L fa fl fc fn F e key hk)) w e' w') := by
    rintro h3 e' w' ⟨u, h1, h2, rfl⟩
    refine ⟨vz 3 0 (V.mk k n s la ll lc L fa fl fc fn F e key hk).text, ?_, h2, fun W' _ => vz_in W' (k := 3) (n := 0) (by omega) (by omega) (text_size hin), fun _ => ?_⟩
    · rw [show opOk 12 1 (v1 (V.mk k n s la ll lc L fa fl fc fn F e key hk)) = !(V.mk k n s la ll lc L fa fl fc fn F e key hk).deed from (by show (decide (k = 3) || !(V.mk k n s la ll lc L fa fl fc fn F e key hk).deed) = _; rw [decide_eq_false h3]; rfl)]; exact h1
    · rw [show opV 12 1 (v1 (V.mk k n s la ll lc L fa fl fc fn F e key hk)) = sv (V.mk k n s la ll lc L fa fl fc fn F e key hk).text by simp [opV, v1, V.kind, h3]]; exact sv_same _
  have HRT := Lib.hid (fun x W => rText_any x W)
  simp only [sv, vz, V.agg, V.cells] at HRT
  have HTX := Lib.hid (fun W (h : OX w (V.mk k n s la ll lc L fa fl fc fn F e key hk) W) => rtext_any (V.mk k n s la ll lc L fa fl fc fn F e key hk) W (hin.below h.low) hz)
  have HDD := Lib.hid (fun W (h : OX w (V.mk k n s la ll lc L fa fl fc fn F e key hk) W) => rdeeds_is (V.mk k n s la ll lc L fa fl fc fn F e key hk) W (hin.below h.low))
  generalize (V.mk k n s la ll lc L fa fl fc fn F e key hk).text = tx at HTX HP4
  generalize (V.mk k n s la ll lc L fa fl fc fn F e key hk).deed = dd at HDD HP4
  simp only [V.agg, V.cells] at HTX HDD
  obtain ⟨nd, hnd⟩ : ∃ x, (!dd) = x := ⟨_, rfl⟩
  rw [hnd] at HP4
  clear hz hX
  have OK0 := OX.start w (V.mk k n s la ll lc L fa fl fc fn F e key hk) 30 30
  have KS := Lib.hid (fun W (h : OX w (V.mk k n s la ll lc L fa fl fc fn F e key hk) W) => And.intro h h.all)
  have hnr := hin.2.1
  have hlr : (ll : Int) ≤ 9223372036854775807 := by have := hin.2.2.2.2.2.1; unfold maxLen at this; omega
  have hsr : (s.size : Int) ≤ 9223372036854775807 := by have := hin.2.2.1; unfold maxLen at this; omega
  have HIN := Lib.hid hin
  clear hin
  simp only [nv, vz, V.cells] at OK0
  have OKH := Lib.hid OK0
  clear OK0
  simp only [V.agg, V.cells]
  go_enter Tryz.func85, Tryz.ntmps85
  go_upto_region 1 with fail
  have OKu := OKH.out
  generalize (w.alloc (.cells #[.int .u8 k, .int .i64 n, .string s, .slice la ll lc, .slice fa fl fc, .int .u8 e, .string key, .bool hk] 30)).alloc (.cells #[.int .u8 0, .int .i64 0, .string ⟨#[]⟩, .slice none 0 0, .slice none 0 0, .int .u8 0, .string ⟨#[]⟩, .bool false] 30) = W0 at OKu ⊢
  have OK : OX w (V.mk k n s la ll lc L fa fl fc fn F e key hk) W0 := OKu
  clear OKu OKH
  by_cases h3 : k = 3
  · have HPP := Lib.hid (HP3.out h3)
    subst h3
    obtain ⟨-, ⟨c0, c1, c2, c3, c4, c5, c6, c7⟩, ⟨d0, d1, d2, d3, d4, d5, d6, d7⟩, z0, z1, z2, z3, z4, z5, z6, z7⟩ := KS.out _ OK
    have HB6 := Lib.hid OK
    go_wp2_with fail
    refine bodyPost_ret (v := .tuple #[(V.mk 3 n s la ll lc L fa fl fc fn F e key hk).agg, .bool true]) (by simp [results, Tryz.results85, go_sem, d0, d1, d2, d3, d4, d5, d6, d7, vz, V.agg, V.cells]) rfl (HPP.out _ _ ⟨_, rfl, ?_, rfl⟩)
    iterate 8 (with_reducible refine low_set' (Nat.le_succ _) ?_ _ _)
    exact HB6.out.low
  · have HPP := Lib.hid (HP4.out h3)
    have h3' : (k == 3) = false := by simpa using h3
    clear h3 HP3 HP4
    obtain ⟨-, ⟨c0, c1, c2, c3, c4, c5, c6, c7⟩, ⟨d0, d1, d2, d3, d4, d5, d6, d7⟩, z0, z1, z2, z3, z4, z5, z6, z7⟩ := KS.out _ OK
    go_wp2_with fail
    clear c0 c1 c2 c3 c4 c5 c6 c7 d0 d1 d2 d3 d4 d5 d6 d7 z0 z1 z2 z3 z4 z5 z6 z7
    go_region_held3 (fun W => OX w (V.mk k n s la ll lc L fa fl fc fn F e key hk) W ∧
      (W.cell? ⟨w.heap.size, 0, none⟩ = some (.int .u8 k) ∧ W.cell? ⟨w.heap.size, 1, none⟩ = some (.int .i64 n) ∧ W.cell? ⟨w.heap.size, 2, none⟩ = some (.string s) ∧ W.cell? ⟨w.heap.size, 3, none⟩ = some (.slice la ll lc) ∧ W.cell? ⟨w.heap.size, 4, none⟩ = some (.slice fa fl fc) ∧ W.cell? ⟨w.heap.size, 5, none⟩ = some (.int .u8 e) ∧ W.cell? ⟨w.heap.size, 6, none⟩ = some (.string key) ∧ W.cell? ⟨w.heap.size, 7, none⟩ = some (.bool hk)) ∧
      (W.cell? ⟨w.heap.size + 1, 0, none⟩ = some (rs W (w.heap.size + 1) 0) ∧ W.cell? ⟨w.heap.size + 1, 1, none⟩ = some (rs W (w.heap.size + 1) 1) ∧ W.cell? ⟨w.heap.size + 1, 2, none⟩ = some (rs W (w.heap.size + 1) 2) ∧ W.cell? ⟨w.heap.size + 1, 3, none⟩ = some (rs W (w.heap.size + 1) 3) ∧ W.cell? ⟨w.heap.size + 1, 4, none⟩ = some (rs W (w.heap.size + 1) 4) ∧ W.cell? ⟨w.heap.size + 1, 5, none⟩ = some (rs W (w.heap.size + 1) 5) ∧ W.cell? ⟨w.heap.size + 1, 6, none⟩ = some (rs W (w.heap.size + 1) 6) ∧ W.cell? ⟨w.heap.size + 1, 7, none⟩ = some (rs W (w.heap.size + 1) 7)) ∧
      (W.frozen? ⟨w.heap.size + 1, 0, none⟩ = false ∧ W.frozen? ⟨w.heap.size + 1, 1, none⟩ = false ∧ W.frozen? ⟨w.heap.size + 1, 2, none⟩ = false ∧ W.frozen? ⟨w.heap.size + 1, 3, none⟩ = false ∧ W.frozen? ⟨w.heap.size + 1, 4, none⟩ = false ∧ W.frozen? ⟨w.heap.size + 1, 5, none⟩ = false ∧ W.frozen? ⟨w.heap.size + 1, 6, none⟩ = false ∧ W.frozen? ⟨w.heap.size + 1, 7, none⟩ = false))
    (first
      | (refine KS.out _ ?_; with_reducible assumption)
      | (refine KS.out _ ?_; ((with_reducible refine OX.set ?_ _ _); (repeat' (with_reducible refine OX.set ?_ _ _)); go_split_ands; with_reducible assumption))
      | (with_reducible exact KS.out _ (OX.drew OK))
      | (with_reducible exact KS.out _ (OX.drew (OX.alloc OK _)))
      | (refine KS.out _ (OX.below ?_ (by with_reducible assumption)); go_split_ands; with_reducible assumption)
      | (with_reducible refine KS.out _ (OX.alloc ?_ _); go_split_ands; with_reducible assumption))
    (first
      | (go_at_call 150; refine (HTX.out _ (by go_split_ands; with_reducible assumption)).mono ?_; rintro p w1 ⟨rfl, hb1⟩; have OK1 := Lib.hid (OX.below (w := w) (v := V.mk k n s la ll lc L fa fl fc fn F e key hk) (by go_split_ands; with_reducible assumption) hb1))
      | (go_at_call 147; refine (HRT.out _ _).mono ?_; rintro p w2 ⟨rfl, hb2⟩; have OK2 := Lib.hid (OX.below (w := w) (v := V.mk k n s la ll lc L fa fl fc fn F e key hk) (by go_split_ands; with_reducible assumption) hb2))
      | (go_at_call 151; refine (HDD.out _ (by go_split_ands; with_reducible assumption)).mono ?_; rintro p w3 ⟨rfl, hb3⟩; have OK3 := Lib.hid (OX.below (w := w) (v := V.mk k n s la ll lc L fa fl fc fn F e key hk) (by go_split_ands; with_reducible assumption) hb3)))
    all_goals
      go_wp2_with fail
      rename_i hS
      have HS := Lib.hid hS.1
      obtain ⟨-, -, ⟨d0, d1, d2, d3, d4, d5, d6, d7⟩, -⟩ := KS.out _ OK3.out
      clear hS KS HRT HTX HDD OK
      refine bodyPost_ret (v := .tuple #[(vz 3 0 tx).agg, .bool nd]) (by simp [results, Tryz.results85, go_sem, d0, d1, d2, d3, d4, d5, d6, d7, vz, V.agg, V.cells]) rfl (HPP.out _ _ ⟨_, rfl, HS.out.low, rfl⟩)
end Go.Proofs.YtmhemajcnfcdmaaGreatDoor.Od
