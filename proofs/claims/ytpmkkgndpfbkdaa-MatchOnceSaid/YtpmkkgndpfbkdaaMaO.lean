/-
  Walks: MatchOnce returns true: no old child goes on twice, and each that goes on has the new one's key, kind and name.
  Conditions: both lists lie in memory.
-/
import Derived.Test.YtpmkkgndpfbkdaaMaL
namespace Go.Proofs.Ytpmkkgndpfbkdaa
set_option linter.unusedVariables false
set_option linter.unusedSimpArgs false
open Go.RowKit Go.Deep Go.WideShapes

/-! ### Rows of one's own, of cells -/
def rowV (n : Nat) (h : Nat → Value) : List Value := (List.range n).map h
theorem rowV_len (n : Nat) (h : Nat → Value) : (rowV n h).length = n := by simp [rowV]
theorem rowV_get {n : Nat} {h : Nat → Value} {j : Nat} (hj : j < n) : (rowV n h)[j]? = some (h j) := by simp [rowV, hj]
theorem rowV_ext {n : Nat} {h h' : Nat → Value} (e : ∀ i, i < n → h i = h' i) : rowV n h = rowV n h' := by
  unfold rowV
  exact List.map_congr_left fun i hi => by rw [e i (List.mem_range.1 hi)]
theorem rowV_set {n : Nat} {h : Nat → Value} {j : Nat} (x : Value) : (rowV n h).set j x = rowV n (fun i => if i = j then x else h i) := by
  apply List.ext_getElem?
  intro i
  rw [List.getElem?_set]
  by_cases hi : i < n
  · by_cases e : j = i
    · subst e
      rw [if_pos rfl, if_pos (by rw [rowV_len]; exact hi), rowV_get hi, if_pos rfl]
    · rw [if_neg e, rowV_get hi, rowV_get hi, if_neg (Ne.symm e)]
  · have e1 : (rowV n h)[i]? = none := List.getElem?_eq_none (by rw [rowV_len]; omega)
    have e2 : (rowV n (fun i => if i = j then x else h i))[i]? = none := List.getElem?_eq_none (by rw [rowV_len]; omega)
    rw [e1, e2]
    by_cases e : j = i
    · subst e; simp [rowV_len, hi]
    · rw [if_neg e]
def OwnV (w : World) (base g n T : Nat) (h : Nat → Value) : Prop := w.ownsRow base T 1 (.slice (some ⟨g, 0, none⟩) n n) n (rowV n h)
theorem OwnV.cell {w : World} {base g n T : Nat} {h : Nat → Value} (ho : OwnV w base g n T h) {j : Nat} (hj : j < n) : w.cell? ⟨g, j, none⟩ = some (h j) := by
  rw [World.ownsRow.cellAt ho j (by omega), rowV_get hj]
theorem OwnV.frozen {w : World} {base g n T : Nat} {h : Nat → Value} (ho : OwnV w base g n T h) (j : Nat) : w.frozen? ⟨g, j, none⟩ = false := World.ownsRow.frozenAt ho j
theorem OwnV.lt {w : World} {base g n T : Nat} {h : Nat → Value} (ho : OwnV w base g n T h) : base ≤ g ∧ g < w.heap.size := World.ownsRow.lt ho g rfl
theorem OwnV.kept {w w' : World} {base g n T : Nat} {h : Nat → Value} {row : Option Nat} (ho : OwnV w base g n T h) (hg : w.grownBy w' row) (hne : some g ≠ row) : OwnV w' base g n T h := World.ownsRow.kept ho hg (.inr hne)
theorem OwnV.below {w w' : World} {base g n T : Nat} {h : Nat → Value} (ho : OwnV w base g n T h) (hb : Below w.heap.size w w') : OwnV w' base g n T h := ho.kept (grownBy_of_below hb none) (by simp)
theorem OwnV.set {w : World} {base g n T : Nat} {h h' : Nat → Value} (ho : OwnV w base g n T h) (j : Nat) (x : Value) (e : ∀ i, i < n → h' i = if i = j then x else h i) : OwnV (w.setCell ⟨g, j, none⟩ x) base g n T h' ∧ w.grownBy (w.setCell ⟨g, j, none⟩ x) (some g) := by
  have := World.ownsRow.stored ho j x
  rw [rowV_set] at this
  refine ⟨?_, this.2⟩
  unfold OwnV
  rw [rowV_ext e]
  exact this.1
theorem info_bool : (Try.prog.info? 4).map (fun i => (i.zero, i.size, i.bytes)) = some (some (.bool false), 1, 1) := by kernel_rfl
theorem make_bools (w : World) (n : Nat) (hn : n ≤ 281474976710656) (base : Nat) (hb : base ≤ w.heap.size) : ∃ w', (Instr.makeSlice 27 (.int .i64 n) (.int .i64 n)).run Try.prog w = .ok (.slice (some ⟨w.heap.size, 0, none⟩) n n) w' ∧ OwnV w' base w.heap.size n 4 (fun _ => .bool false) ∧ Below w.heap.size w w' := by
  obtain ⟨i0, hi, hz0, hz1, hz2⟩ := info_parts info_bool
  obtain ⟨w', h1, h2, h3⟩ := run_make_full (P := Try.prog) w base 27 4 i0 (.bool false) 1 Try.underlying27 hi hz0 hz1 .i64 .i64 n (by rw [hz2]; omega) (by unfold maxLen; omega) hb
  refine ⟨w', h1, ?_, ⟨h3.os, h3.tape, h3.output, h3.size, fun k hk => h3.block k hk (by simp)⟩⟩
  have e : (madeCells (Value.bool false).cells (n * 1)).toList = rowV n (fun _ => .bool false) := by
    rw [Nat.mul_one]
    refine (toList_madeCells_one _ _).trans ?_
    apply List.ext_getElem?
    intro i
    by_cases hi : i < n
    · rw [rowV_get hi]; simp [hi]
    · have e1 : (rowV n (fun _ => Value.bool false))[i]? = none := List.getElem?_eq_none (by rw [rowV_len]; omega)
      rw [e1, List.getElem?_eq_none (by simp; omega)]
  rw [e] at h2
  exact h2

/-- Has the old one with this place gone on by now? -/
def seenM (f : Nat → Int) (j p : Nat) : Bool := decide (∃ i, i < j ∧ f i = (p : Int))
theorem seenM_zero (f : Nat → Int) (p : Nat) : seenM f 0 p = false := decide_eq_false (fun ⟨i, hi, _⟩ => absurd hi (Nat.not_lt_zero _))
theorem seenM_no {f : Nat → Int} {j : Nat} (h : f j = -1) (p : Nat) : seenM f (j + 1) p = seenM f j p := by
  unfold seenM
  congr 1
  refine propext ⟨fun ⟨i, hi, e⟩ => ?_, fun ⟨i, hi, e⟩ => ⟨i, by omega, e⟩⟩
  rcases Nat.lt_succ_iff_lt_or_eq.1 hi with hlt | rfl
  · exact ⟨i, hlt, e⟩
  · rw [h] at e; omega
theorem seenM_yes {f : Nat → Int} {j p : Nat} (h : f j = (p : Int)) (q : Nat) : seenM f (j + 1) q = if q = p then true else seenM f j q := by
  unfold seenM
  by_cases e : q = p
  · subst e
    rw [if_pos rfl]
    exact decide_eq_true ⟨j, Nat.lt_succ_self _, h⟩
  · rw [if_neg e]
    congr 1
    refine propext ⟨fun ⟨i, hi, e2⟩ => ?_, fun ⟨i, hi, e⟩ => ⟨i, by omega, e⟩⟩
    rcases Nat.lt_succ_iff_lt_or_eq.1 hi with hlt | rfl
    · exact ⟨i, hlt, e2⟩
    · rw [h] at e2; omega
theorem seenM_first {K N : Nat → C} {n j p : Nat} (h : matM K N n j = (p : Int)) : seenM (matM K N n) j p = false := decide_eq_false (fun ⟨i, hi, e⟩ => matM_once hi e h)
/-- A row of numbers stands while another block is written. -/
theorem il_grown {w w' : World} {g gs n : Nat} {h : Nat → Int} (hl : IL w (some ⟨g, 0, none⟩) n h) (hg : w.grownBy w' (some gs)) (hne : g ≠ gs) : IL w' (some ⟨g, 0, none⟩) n h := fun j hj => by
  obtain ⟨b, o, e, hc⟩ := hl j hj
  simp only [Option.some.injEq, Addr.mk.injEq, and_true] at e
  obtain ⟨rfl, rfl⟩ := e
  refine ⟨g, 0, rfl, ?_⟩
  rw [World.cell?_of_block (hg.block g (World.block_lt_of_cell? _ _ hc) (fun e => hne (Option.some.inj e)))]
  exact hc
theorem kl_key {c d : C} (h : c.kl = d.kl) : c.key = d.key := by
  have e : c.key.data.toList = d.key.data.toList := h
  have := Array.toList_inj.1 e
  cases h1 : c.key
  cases h2 : d.key
  rw [h1, h2] at this
  simp only at this
  rw [this]

set_option maxRecDepth 100000 in
set_option maxHeartbeats 4000000 in
theorem mo_any (la : Option Addr) (ll lc : Nat) (K : Nat → C) (na : Option Addr) (nl nc : Nat) (N : Nat → C) (w : World) (hK : CLst w la ll lc K) (hN : CLst w na nl nc N) :
    Calls Try.prog 3 #[.slice la ll lc, .slice na nl nc] w fun x w' => x = .returned (.bool true) ∧ Below w.heap.size w w' := by
  have HAL := Lib.hid (fun W => alive8_any W)
  have HBY := Lib.hid (fun W (hb : Below w.heap.size w W) => beyond8_any la ll lc K na nl nc N W (hK.below hb) (hN.below hb))
  have HM := Lib.hid (fun W (hb : Below w.heap.size w W) hn => match_any la ll lc K na nl nc N W (hK.below hb) (hN.below hb) hn)
  have HK := Lib.hid (fun W (hb : Below w.heap.size w W) => (hK.below hb).els)
  have HN := Lib.hid (fun W (hb : Below w.heap.size w W) => (hN.below hb).els)
  have HCAP := Lib.hid (And.intro hK.cap hN.cap)
  clear hK hN
  go_enter Try.func3, Try.ntmps3
  go_wp2_with (first
    | (go_at_call 5; (with_reducible refine (HAL.out w).mono ?_); rintro x w1 ⟨rfl, hb1⟩; have HB1 := Lib.hid hb1; clear hb1)
    | (go_at_call 6; (with_reducible refine (HBY.out _ HB1.out).mono ?_); rintro x w2 ⟨q, rfl, hq, hb2⟩; have HQ := Lib.hid hq; have HB2 : Hid (Below w.heap.size w w2) := HB1.out.trans (hb2.mono HB1.out.size); clear hb2 hq; cases q)
    | (go_at_call 5; (with_reducible refine (HAL.out w2).mono ?_); rintro x w3 ⟨rfl, hb3⟩; have HB3 : Hid (Below w.heap.size w w3) := HB2.out.trans (hb3.mono HB2.out.size); clear hb3)
    | (go_at_call 7; (with_reducible refine (HM.out _ HB2.out (by have := (HQ.out (by trivial)).2; omega)).mono ?_); rintro x w3 ⟨gl, rfl, hown, hlow⟩; have HO := Lib.hid hown; have HB3 : Hid (Below w.heap.size w w3) := HB2.out.trans (hlow.mono HB2.out.size); clear hown hlow; have HBN := Lib.hid (HQ.out (by trivial)); obtain ⟨w4, hmk, hown, hb4⟩ := make_bools w3 ll (by have := HBN.out; omega) w.heap.size HB3.out.size; have HB4 := Lib.hid (HB3.out.trans (hb4.mono HB3.out.size)); have HS4 := Lib.hid hown; have HL4 := Lib.hid (HO.out.il.below hb4); clear hb4 hown))
  rotate_left
  · go_ret
    exact ⟨rfl, HB3.out⟩
  have hbnd := HBN.out
  have hl1 : (ll : Int) ≤ 500 := by omega
  have hl2 : (nl : Int) ≤ 500 := by omega
  have hglt := HO.out.lt.2
  clear HBY HM HAL HO hbnd HQ
  have HNE := Lib.hid (show gl ≠ w3.heap.size from Nat.ne_of_lt hglt)
  clear hglt
  clear hmk
  generalize w3.heap.size = gs at HS4 HNE ⊢
  go_loopw [7] (fun i wr => ∃ j : Nat, j ≤ nl ∧ i = .int .i64 j ∧ IL wr (some ⟨gl, 0, none⟩) nl (matM K N ll) ∧ OwnV wr w.heap.size gs ll 4 (fun p => .bool (seenM (matM K N ll) j p)) ∧ Below w.heap.size w wr) (fun i _ => nl - (intOf i).toNat)
  case atStart => exact ⟨0, Nat.zero_le _, rfl, HL4.out, by have := HS4.out; simpa only [seenM_zero] using this, HB4.out⟩
  case round =>
    obtain ⟨j, hj, rfl, hl, hs, hb⟩ := hrel
    have HL := Lib.hid hl
    have HS := Lib.hid hs
    have HB := Lib.hid hb
    clear hl hs hb HL4 HS4 HB4 HB3 HB2 HB1
    by_cases hlt : j < nl
    · have hj0 : (0 : Int) ≤ (j : Int) := by omega
      have hj1 : (j : Int) < (nl : Int) := by omega
      obtain ⟨b, o, e, hc⟩ := HL.out j hlt
      simp only [Option.some.injEq, Addr.mk.injEq, and_true] at e
      obtain ⟨rfl, rfl⟩ := e
      rw [Nat.zero_add] at hc
      rcases matM_cases K N ll j with hm | ⟨p, hm, hpl, hkl, hal, -, -⟩
      · rw [hm] at hc
        have HS5 : Hid (OwnV wr w.heap.size gs ll 4 (fun p => .bool (seenM (matM K N ll) (j + 1) p))) := Lib.hid (by simpa only [seenM_no hm] using HS.out)
        clear hm
        go_wp2_with fail
        go_roundw
        case rel => exact ⟨j + 1, by omega, by go_num, HL.out, HS5.out, HB.out⟩
        case measure => simp [intOf]; omega
      · rw [hm] at hc
        have hp0 : (0 : Int) ≤ (p : Int) := by omega
        have hp1 : (p : Int) < (ll : Int) := by omega
        have hp2 : ¬ ((p : Int) < 0) := by omega
        have hp3 : decide ((ll : Int) ≤ (p : Int)) = false := decide_eq_false (by omega)
        have hp4 : decide (ll ≤ p) = false := decide_eq_false (by omega)
        have hs0 := HS.out.cell hpl
        rw [seenM_first hm] at hs0
        have HNX : Hid (∀ W, Below wr.heap.size wr W → OwnV (W.setCell ⟨gs, p, none⟩ (.bool true)) w.heap.size gs ll 4 (fun p => .bool (seenM (matM K N ll) (j + 1) p)) ∧ W.grownBy (W.setCell ⟨gs, p, none⟩ (.bool true)) (some gs)) := Lib.hid (fun W hb => (HS.out.below hb).set p (.bool true) (fun i _ => by rw [seenM_yes hm]; split <;> rfl))
        have hb0 : ∀ W, Below wr.heap.size wr W → W.cell? ⟨gl, j, none⟩ = some (.int .i64 (p : Int)) ∧ W.cell? ⟨gs, p, none⟩ = some (.bool false) := fun W hb => ⟨by rw [hb.cell (p := ⟨gl, j, none⟩) (World.block_lt_of_cell? _ _ hc)]; exact hc, by rw [hb.cell (p := ⟨gs, p, none⟩) (World.block_lt_of_cell? _ _ hs0)]; exact hs0⟩
        have H2 := Lib.hid hb0
        have HFZ := Lib.hid (fun W (hb : Below wr.heap.size wr W) => (HS.out.below hb).frozen p)
        obtain ⟨⟨b1, o1, rfl, hat1⟩, hin1⟩ := HK.out _ HB.out p hpl
        obtain ⟨⟨b2, o2, rfl, hat⟩, hin⟩ := HN.out _ HB.out j hlt
        have HE : Hid (∀ W, Below wr.heap.size wr W → Calls Try.prog 8 #[(K p).agg, (N j).agg] W fun x w' => x = .returned (.bool true) ∧ Below W.heap.size W w') := Lib.hid (fun W hb => hal ▸ alike_all (K p) (N j) W (hin1.2.2.2.below hb) (hin.2.2.2.below hb))
        have hkey := kl_key hkl
        clear hm hpl hkl hal hs0 hb0 hc
        generalize K p = c1 at hat1 hin1 HE hkey
        generalize N j = c2 at hat hin HE hkey
        have hv1 : c1.val.In wr := hin1.2.2.2
        have hv2 : c2.val.In wr := hin.2.2.2
        obtain ⟨ck1, ce1, cn1, v1⟩ := c1
        cases v1 with
        | leaf => exact (hv1).elim
        | mk k1 n1 s1 la1 ll1 lc1 L1 fa1 fl1 fc1 fn1 F1 e1 key1 hk1 =>
        obtain ⟨ck2, ce2, cn2, v2⟩ := c2
        cases v2 with
        | leaf => exact (hv2).elim
        | mk k2 n2 s2 la2 ll2 lc2 L2 fa2 fl2 fc2 fn2 F2 e2 key2 hk2 =>
        have hkey : ck1 = ck2 := hkey
        subst hkey
        have KS : Hid (∀ W, Below wr.heap.size wr W → (fun W => Below wr.heap.size wr W ∧ W.cell? ⟨gl, j, none⟩ = some (.int .i64 (p : Int)) ∧ W.cell? ⟨gs, p, none⟩ = some (.bool false) ∧ W.cell? ⟨b1, o1 + p * 11, none⟩ = some (.string ck1) ∧ W.cell? ⟨b1, o1 + p * 11 + 1, none⟩ = some (.int .u8 ce1) ∧ W.cell? ⟨b1, o1 + p * 11 + 2, none⟩ = some (.string cn1) ∧ W.cell? ⟨b1, o1 + p * 11 + 3, none⟩ = some (.int .u8 k1) ∧ W.cell? ⟨b1, o1 + p * 11 + 4, none⟩ = some (.int .i64 n1) ∧ W.cell? ⟨b1, o1 + p * 11 + 5, none⟩ = some (.string s1) ∧ W.cell? ⟨b1, o1 + p * 11 + 6, none⟩ = some (.slice la1 ll1 lc1) ∧ W.cell? ⟨b1, o1 + p * 11 + 7, none⟩ = some (.slice fa1 fl1 fc1) ∧ W.cell? ⟨b1, o1 + p * 11 + 8, none⟩ = some (.int .u8 e1) ∧ W.cell? ⟨b1, o1 + p * 11 + 9, none⟩ = some (.string key1) ∧ W.cell? ⟨b1, o1 + p * 11 + 10, none⟩ = some (.bool hk1) ∧ W.cell? ⟨b2, o2 + j * 11, none⟩ = some (.string ck1) ∧ W.cell? ⟨b2, o2 + j * 11 + 1, none⟩ = some (.int .u8 ce2) ∧ W.cell? ⟨b2, o2 + j * 11 + 2, none⟩ = some (.string cn2) ∧ W.cell? ⟨b2, o2 + j * 11 + 3, none⟩ = some (.int .u8 k2) ∧ W.cell? ⟨b2, o2 + j * 11 + 4, none⟩ = some (.int .i64 n2) ∧ W.cell? ⟨b2, o2 + j * 11 + 5, none⟩ = some (.string s2) ∧ W.cell? ⟨b2, o2 + j * 11 + 6, none⟩ = some (.slice la2 ll2 lc2) ∧ W.cell? ⟨b2, o2 + j * 11 + 7, none⟩ = some (.slice fa2 fl2 fc2) ∧ W.cell? ⟨b2, o2 + j * 11 + 8, none⟩ = some (.int .u8 e2) ∧ W.cell? ⟨b2, o2 + j * 11 + 9, none⟩ = some (.string key2) ∧ W.cell? ⟨b2, o2 + j * 11 + 10, none⟩ = some (.bool hk2)) W) := fun W hb => by
          have ha := hat1.below hb
          have hb2 := hat.below hb
          obtain ⟨q1, q2⟩ := H2.out W hb
          exact ⟨hb, q1, q2, ha 0 (by simp [C.cells, V.cells]), ha 1 (by simp [C.cells, V.cells]), ha 2 (by simp [C.cells, V.cells]), ha 3 (by simp [C.cells, V.cells]), ha 4 (by simp [C.cells, V.cells]), ha 5 (by simp [C.cells, V.cells]), ha 6 (by simp [C.cells, V.cells]), ha 7 (by simp [C.cells, V.cells]), ha 8 (by simp [C.cells, V.cells]), ha 9 (by simp [C.cells, V.cells]), ha 10 (by simp [C.cells, V.cells]), hb2 0 (by simp [C.cells, V.cells]), hb2 1 (by simp [C.cells, V.cells]), hb2 2 (by simp [C.cells, V.cells]), hb2 3 (by simp [C.cells, V.cells]), hb2 4 (by simp [C.cells, V.cells]), hb2 5 (by simp [C.cells, V.cells]), hb2 6 (by simp [C.cells, V.cells]), hb2 7 (by simp [C.cells, V.cells]), hb2 8 (by simp [C.cells, V.cells]), hb2 9 (by simp [C.cells, V.cells]), hb2 10 (by simp [C.cells, V.cells])⟩
        have hS0 := KS.out _ (Below.refl _ _)
        clear hat1 hin1 hat hin hv1 hv2
        simp only [C.agg, C.cells, V.cells] at HE
        obtain ⟨-, q1, q2, -⟩ := KS.out _ (Below.refl _ _)
        go_wp2_with fail
        clear q1 q2
        go_region_held3 (fun W => Below wr.heap.size wr W ∧ W.cell? ⟨gl, j, none⟩ = some (.int .i64 (p : Int)) ∧ W.cell? ⟨gs, p, none⟩ = some (.bool false) ∧ W.cell? ⟨b1, o1 + p * 11, none⟩ = some (.string ck1) ∧ W.cell? ⟨b1, o1 + p * 11 + 1, none⟩ = some (.int .u8 ce1) ∧ W.cell? ⟨b1, o1 + p * 11 + 2, none⟩ = some (.string cn1) ∧ W.cell? ⟨b1, o1 + p * 11 + 3, none⟩ = some (.int .u8 k1) ∧ W.cell? ⟨b1, o1 + p * 11 + 4, none⟩ = some (.int .i64 n1) ∧ W.cell? ⟨b1, o1 + p * 11 + 5, none⟩ = some (.string s1) ∧ W.cell? ⟨b1, o1 + p * 11 + 6, none⟩ = some (.slice la1 ll1 lc1) ∧ W.cell? ⟨b1, o1 + p * 11 + 7, none⟩ = some (.slice fa1 fl1 fc1) ∧ W.cell? ⟨b1, o1 + p * 11 + 8, none⟩ = some (.int .u8 e1) ∧ W.cell? ⟨b1, o1 + p * 11 + 9, none⟩ = some (.string key1) ∧ W.cell? ⟨b1, o1 + p * 11 + 10, none⟩ = some (.bool hk1) ∧ W.cell? ⟨b2, o2 + j * 11, none⟩ = some (.string ck1) ∧ W.cell? ⟨b2, o2 + j * 11 + 1, none⟩ = some (.int .u8 ce2) ∧ W.cell? ⟨b2, o2 + j * 11 + 2, none⟩ = some (.string cn2) ∧ W.cell? ⟨b2, o2 + j * 11 + 3, none⟩ = some (.int .u8 k2) ∧ W.cell? ⟨b2, o2 + j * 11 + 4, none⟩ = some (.int .i64 n2) ∧ W.cell? ⟨b2, o2 + j * 11 + 5, none⟩ = some (.string s2) ∧ W.cell? ⟨b2, o2 + j * 11 + 6, none⟩ = some (.slice la2 ll2 lc2) ∧ W.cell? ⟨b2, o2 + j * 11 + 7, none⟩ = some (.slice fa2 fl2 fc2) ∧ W.cell? ⟨b2, o2 + j * 11 + 8, none⟩ = some (.int .u8 e2) ∧ W.cell? ⟨b2, o2 + j * 11 + 9, none⟩ = some (.string key2) ∧ W.cell? ⟨b2, o2 + j * 11 + 10, none⟩ = some (.bool hk2))
          (first | exact KS.out _ ((Below.refl _ _).drew) | exact KS.out _ (Below.trans (And.left (by assumption)) (Below.mono (by assumption) (Below.size (And.left (by assumption))))))
          (first | (go_at_call 8; (with_reducible refine (HE.out _ ?_).mono ?_); (go_split_ands; assumption); rintro x wx ⟨rfl, hbx⟩))
        have HX := Lib.hid (And.left (by assumption : (fun W => Below wr.heap.size wr W ∧ W.cell? ⟨gl, j, none⟩ = some (.int .i64 (p : Int)) ∧ W.cell? ⟨gs, p, none⟩ = some (.bool false) ∧ W.cell? ⟨b1, o1 + p * 11, none⟩ = some (.string ck1) ∧ W.cell? ⟨b1, o1 + p * 11 + 1, none⟩ = some (.int .u8 ce1) ∧ W.cell? ⟨b1, o1 + p * 11 + 2, none⟩ = some (.string cn1) ∧ W.cell? ⟨b1, o1 + p * 11 + 3, none⟩ = some (.int .u8 k1) ∧ W.cell? ⟨b1, o1 + p * 11 + 4, none⟩ = some (.int .i64 n1) ∧ W.cell? ⟨b1, o1 + p * 11 + 5, none⟩ = some (.string s1) ∧ W.cell? ⟨b1, o1 + p * 11 + 6, none⟩ = some (.slice la1 ll1 lc1) ∧ W.cell? ⟨b1, o1 + p * 11 + 7, none⟩ = some (.slice fa1 fl1 fc1) ∧ W.cell? ⟨b1, o1 + p * 11 + 8, none⟩ = some (.int .u8 e1) ∧ W.cell? ⟨b1, o1 + p * 11 + 9, none⟩ = some (.string key1) ∧ W.cell? ⟨b1, o1 + p * 11 + 10, none⟩ = some (.bool hk1) ∧ W.cell? ⟨b2, o2 + j * 11, none⟩ = some (.string ck1) ∧ W.cell? ⟨b2, o2 + j * 11 + 1, none⟩ = some (.int .u8 ce2) ∧ W.cell? ⟨b2, o2 + j * 11 + 2, none⟩ = some (.string cn2) ∧ W.cell? ⟨b2, o2 + j * 11 + 3, none⟩ = some (.int .u8 k2) ∧ W.cell? ⟨b2, o2 + j * 11 + 4, none⟩ = some (.int .i64 n2) ∧ W.cell? ⟨b2, o2 + j * 11 + 5, none⟩ = some (.string s2) ∧ W.cell? ⟨b2, o2 + j * 11 + 6, none⟩ = some (.slice la2 ll2 lc2) ∧ W.cell? ⟨b2, o2 + j * 11 + 7, none⟩ = some (.slice fa2 fl2 fc2) ∧ W.cell? ⟨b2, o2 + j * 11 + 8, none⟩ = some (.int .u8 e2) ∧ W.cell? ⟨b2, o2 + j * 11 + 9, none⟩ = some (.string key2) ∧ W.cell? ⟨b2, o2 + j * 11 + 10, none⟩ = some (.bool hk2)) _))
        obtain ⟨-, q1, q2, -⟩ := KS.out _ HX.out
        have hfz := HFZ.out _ HX.out
        have HNY := Lib.hid (HNX.out _ HX.out)
        have HLY := Lib.hid (HL.out.below HX.out)
        go_wp2_with fail
        go_roundw
        case rel =>
          obtain ⟨hn1, hn2⟩ := HNY.out
          exact ⟨j + 1, by omega, by go_num, il_grown HLY.out hn2 HNE.out, hn1, (HB.out.trans (HX.out.mono HB.out.size)).grown hn2 (Nat.le_trans HB.out.size HX.out.size) (fun k e => by cases e; exact (HS.out.lt).1)⟩
        case measure => simp [intOf]; omega
    · obtain rfl : j = nl := by omega
      go_wp2_with fail
      go_ret
      exact ⟨rfl, HB.out⟩
end Go.Proofs.Ytpmkkgndpfbkdaa
