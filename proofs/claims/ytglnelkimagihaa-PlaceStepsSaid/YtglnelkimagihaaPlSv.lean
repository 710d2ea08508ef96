/-
  Walks: PlaceSteps returns true: the insertions that make one row another one are told exactly as documented.
  Conditions: the rows lie in memory.
-/
import Derived.Test.YtglnelkimagihaaPlN
import Derived.Test.YtglnelkimagihaaPlS
import Derived.Test.YtglnelkimagihaaPlRS
namespace Go.Proofs.Ytglnelkimagihaa
set_option linter.unusedVariables false
set_option linter.unusedSimpArgs false
open Go.RowKit Go.Deep Go.WideShapes
open Go.Maps hiding size

/-- The first j have been written over. -/
def chg (S : List (Int × Int)) (j : Nat) : List (Int × Int) := List.replicate j (-9, -9) ++ S.drop j
theorem chg_zero (S : List (Int × Int)) : chg S 0 = S := rfl
theorem chg_len {S : List (Int × Int)} {j : Nat} (h : j ≤ S.length) : (chg S j).length = S.length := by simp [chg]; omega
theorem chg_at {S : List (Int × Int)} {j : Nat} (h : j < S.length) : sth (chg S j) j = sth S j := by
  unfold sth chg
  rw [List.getD_eq_getElem?_getD, List.getD_eq_getElem?_getD, List.getElem?_append_right (by simp)]
  simp
theorem chg_set {S : List (Int × Int)} {j : Nat} (h : j < S.length) : (chg S j).set j (-9, -9) = chg S (j + 1) := by
  unfold chg
  rw [List.set_append_right _ _ (by simp), List.length_replicate, Nat.sub_self, List.drop_eq_getElem_cons h, List.set_cons_zero, List.replicate_succ', List.append_assoc]
  rfl
/-- A row of steps, step by step. -/
theorem SR.at' {w : World} {base : Nat} {v : Value} {l : List (Int × Int)} (h : SR w base v l) : ∃ a cap, v = .slice a l.length cap ∧ ∀ j, j < l.length → ∃ g, a = some ⟨g, 0, none⟩ ∧ w.cell? ⟨g, j * 2, none⟩ = some (.int .i64 (sth l j).1) ∧ w.cell? ⟨g, j * 2 + 1, none⟩ = some (.int .i64 (sth l j).2) := by
  have hh := h
  rcases h.2 with ⟨rfl, h0⟩ | ⟨g, cap, cur, rfl, _⟩
  · exact ⟨none, 0, by rw [h0], fun j hj => by omega⟩
  · exact ⟨some ⟨g, 0, none⟩, cap, rfl, fun j hj => ⟨g, rfl, hh.cells hj⟩⟩
theorem SD.at' {w : World} {base : Nat} {v : Value} {l : List (Int × Int)} (h : SD w base v l) : ∃ a cap, v = .slice a l.length cap ∧ ∀ j, j < l.length → ∃ g, a = some ⟨g, 0, none⟩ ∧ w.cell? ⟨g, j * 2, none⟩ = some (.int .i64 (sth l j).1) ∧ w.cell? ⟨g, j * 2 + 1, none⟩ = some (.int .i64 (sth l j).2) := by
  have hh := h
  rcases h.2 with ⟨rfl, h0⟩ | ⟨g, cap, cur, rfl, _⟩
  · exact ⟨none, 0, by rw [h0], fun j hj => by omega⟩
  · refine ⟨some ⟨g, 0, none⟩, cap, rfl, fun j hj => ⟨g, rfl, ?_⟩⟩
    obtain ⟨h1, h2⟩ := cellsS_get (sth_get hj)
    have a := World.ownsRow.cells hh (g := g) rfl _ _ h1
    have b := World.ownsRow.cells hh (g := g) rfl _ _ h2
    rw [add_plain, Nat.zero_add] at a b
    exact ⟨a, b⟩
theorem SR.below {w w' : World} {base : Nat} {v : Value} {l : List (Int × Int)} (h : SR w base v l) (hb : Below w.heap.size w w') : SR w' base v l := own_below2 h hb

set_option maxRecDepth 100000 in
set_option maxHeartbeats 4000000 in
theorem psteps_any (a : Option Addr) (O : List Int) (cap : Nat) (a' : Option Addr) (L : List Int) (cap' : Nat) (w : World) (hl : O.length ≤ cap ∧ cap ≤ maxLen) (hl' : L.length ≤ cap' ∧ cap' ≤ maxLen) (h : RL w a O) (h' : RL w a' L) (hB : RB O) (hB' : RB L) :
    Calls Try.prog 4 #[.slice a O.length cap, .slice a' L.length cap'] w fun x w' => x = .returned (.bool true) ∧ Below w.heap.size w w' := by
  have HTO := Lib.hid (fun W (hb : Below w.heap.size w W) hn => twinInts_any a O cap W (h.below hb) hn)
  have HTL := Lib.hid (fun W (hb : Below w.heap.size w W) hn => twinInts_any a' L cap' W (h'.below hb) hn)
  have HST := Lib.hid (fun W g w0 g' w0' (ht : TwI w0 W g O) (ht' : TwI w0' W g' L) hn hn' => steps_any (some ⟨g, 0, none⟩) O (O.length + 1) (some ⟨g', 0, none⟩) L (L.length + 1) W ht.rl hB hn ht'.rl hB' hn')
  have HRS := Lib.hid (fun W (hb : Below w.heap.size w W) hn hn' => rsteps_any a O cap a' L cap' W (h.below hb) hn (h'.below hb) hn')
  have HLO := Lib.hid (fun W g w0 (hb : Below w.heap.size w W) (ht : TwI w0 W g O) hn => leftInts_any w0 g a O cap W (h.below hb) ht hn)
  have HLL := Lib.hid (fun W g w0 (hb : Below w.heap.size w W) (ht : TwI w0 W g L) hn => leftInts_any w0 g a' L cap' W (h'.below hb) ht hn)
  have HLEN := Lib.hid (Pl.steps_len O L)
  clear h h' hB hB'
  unfold maxLen at hl hl'
  generalize Pl.steps O L = S at HST HRS HLEN
  obtain ⟨n, hnE⟩ : ∃ n, O.length = n := ⟨_, rfl⟩
  obtain ⟨m, hmE⟩ : ∃ m, L.length = m := ⟨_, rfl⟩
  rw [hnE] at HTO HST HRS HLO hl ⊢
  rw [hmE] at HTL HST HRS HLL hl' HLEN ⊢
  clear hnE hmE
  have hn0 : (0 : Int) ≤ (n : Int) := by omega
  have hm0 : (0 : Int) ≤ (m : Int) := by omega
  by_cases hbig : 500 < n
  · have hb1 : (500 : Int) < (n : Int) := by omega
    go_enter Try.func4, Try.ntmps4
    go_wp2_with fail
    go_ret
    exact ⟨rfl, Below.refl _ _⟩
  · by_cases hbig' : 500 < m
    · have hb1 : ¬ (500 : Int) < (n : Int) := by omega
      have hb2 : (500 : Int) < (m : Int) := by omega
      go_enter Try.func4, Try.ntmps4
      go_wp2_with fail
      go_ret
      exact ⟨rfl, Below.refl _ _⟩
    · have hi1 : ¬ (500 : Int) < (n : Int) := by omega
      have hi2 : ¬ (500 : Int) < (m : Int) := by omega
      have hd1 : decide (500 < n) = false := decide_eq_false hbig
      have hd2 : decide (500 < m) = false := decide_eq_false hbig'
      have hnn : n ≤ 1000 := by omega
      have hmm : m ≤ 1000 := by omega
      have hn4 : n ≤ 1048576 := by omega
      have hm4 : m ≤ 1048576 := by omega
      have HBND := Lib.hid (And.intro (And.intro hnn hmm) (And.intro hn4 hm4))
      clear hnn hmm hn4 hm4 hbig hbig'
      go_enter Try.func4, Try.ntmps4
      go_wp2_with (first
        | (go_at_call 9; (with_reducible refine (HTO.out w (Below.refl _ _) HBND.out.2.1).mono ?_); rintro x w1 ⟨rfl, ht1⟩; have HT1 := Lib.hid ht1; have HB1 := Lib.hid ht1.low; clear ht1)
        | (go_at_call 9; (with_reducible refine (HTL.out w1 HB1.out HBND.out.2.2).mono ?_); rintro x w2 ⟨rfl, ht2⟩; have HT2 := Lib.hid (And.intro (HT1.out.below ht2.low) ht2); have HB2 := Lib.hid (HB1.out.trans (ht2.low.mono HB1.out.size)); clear ht2)
        | (go_at_call 13; (with_reducible refine (HST.out w2 _ _ _ _ HT2.out.1 HT2.out.2 HBND.out.1.1 HBND.out.1.2).mono ?_); rintro x w3 ⟨v3, rfl, ho3, hb3⟩; obtain ⟨ua, uc, e3, -⟩ := ho3.at'; subst e3; have HT3 := Lib.hid (And.intro (HT2.out.1.below hb3) (HT2.out.2.below hb3)); have HO3 := Lib.hid ho3; have HB3 := Lib.hid (HB2.out.trans (hb3.mono HB2.out.size)); clear ho3 hb3)
        | (go_at_call 13; (with_reducible refine (HST.out w3 _ _ _ _ HT3.out.1 HT3.out.2 HBND.out.1.1 HBND.out.1.2).mono ?_); rintro x w4 ⟨v4, rfl, ho4, hb4⟩; obtain ⟨ub, ud, e4, -⟩ := ho4.at'; subst e4; have HT4 := Lib.hid (And.intro (HT3.out.1.below hb4) (HT3.out.2.below hb4)); have HO4 := Lib.hid (And.intro (HO3.out.below hb4) ho4); have HB4 := Lib.hid (HB3.out.trans (hb4.mono HB3.out.size)); clear ho4 hb4)
        | (go_at_call 14; (with_reducible refine (HRS.out w4 HB4.out HBND.out.1.1 HBND.out.1.2).mono ?_); rintro x w5 ⟨v5, rfl, ho5, hb5⟩; obtain ⟨ue, uf, e5, -⟩ := ho5.at'; subst e5; have HT5 := Lib.hid (And.intro (HT4.out.1.below hb5) (HT4.out.2.below hb5)); have HO5 := Lib.hid (And.intro (HO4.out.1.below hb5) (And.intro (HO4.out.2.below hb5) ho5)); have HB5 := Lib.hid (HB4.out.trans (hb5.mono HB4.out.size)); clear ho5 hb5)
        | (go_at_call 12; (with_reducible refine (HLO.out w5 _ _ HB5.out HT5.out.1 HBND.out.2.1).mono ?_); rintro x w6 ⟨rfl, hb6⟩; have HT6 := Lib.hid (HT5.out.2.below hb6); have HO6 := Lib.hid (And.intro (HO5.out.1.below hb6) (And.intro (HO5.out.2.1.below hb6) (HO5.out.2.2.below hb6))); have HB6 := Lib.hid (HB5.out.trans (hb6.mono HB5.out.size)); clear hb6)
        | (go_at_call 12; (with_reducible refine (HLL.out w6 _ _ HB6.out HT6.out HBND.out.2.2).mono ?_); rintro x w7 ⟨rfl, hb7⟩; have HO7 := Lib.hid (And.intro (HO6.out.1.below hb7) (And.intro (HO6.out.2.1.below hb7) (HO6.out.2.2.below hb7))); have HB7 := Lib.hid (HB6.out.trans (hb7.mono HB6.out.size)); clear hb7))
      have HNE : Hid (∀ ga, ua = some ⟨ga, 0, none⟩ → w.heap.size ≤ ga ∧ (Value.slice ub S.length ud).ownBlock ≠ some ga ∧ (Value.slice ue S.length uf).ownBlock ≠ some ga) := Lib.hid (fun ga e => by
        subst e
        have h1 := World.ownsRow.lt HO3.out ga rfl
        have h2 := World.ownsRow.lt HO4.out.1 ga rfl
        have h3 := HB2.out.size
        exact ⟨by omega, fun e => by have := (World.ownsRow.lt HO4.out.2 ga e).1; omega, fun e => by have := (World.ownsRow.lt HO5.out.2.2 ga e).1; omega⟩)
      have HLS : Hid (S.length ≤ 1000) := Lib.hid (Nat.le_trans HLEN.out HBND.out.1.2)
      clear HTO HTL HST HRS HLO HLL HLEN HT1 HT2 HT3 HT4 HT5 HT6 HB1 HB2 HB3 HB4 HB5 HB6 HO3 HO4 HO5 HO6 HBND
      obtain ⟨ns, hns⟩ : ∃ k, S.length = k := ⟨_, rfl⟩
      have HNS := Lib.hid hns
      have hns1 : ns ≤ 1000 := by rw [← hns]; exact HLS.out
      have hns0 : (0 : Int) ≤ (ns : Int) := by omega
      rw [hns] at HNE
      simp only [hns]
      have HO8 : Hid (SR w7 w2.heap.size (.slice ua ns uc) S ∧ SR w7 w3.heap.size (.slice ub ns ud) S ∧ SD w7 w4.heap.size (.slice ue ns uf) S) := Lib.hid (by rw [← hns]; exact HO7.out)
      clear hns HO7
      have HKP : Hid (∀ ga, ua = some ⟨ga, 0, none⟩ → ∀ W, w7.grownBy W (some ga) → SR W w3.heap.size (.slice ub ns ud) S ∧ SD W w4.heap.size (.slice ue ns uf) S) := Lib.hid (fun ga e W hg => ⟨World.ownsRow.kept HO8.out.2.1 hg (.inr (HNE.out ga e).2.1), World.ownsRow.kept HO8.out.2.2 hg (.inr (HNE.out ga e).2.2)⟩)
      go_loopw [10] (fun i wr => ∃ j : Nat, j ≤ ns ∧ i = .int .i64 j ∧ SR wr w2.heap.size (.slice ua ns uc) (chg S j) ∧ ((∃ ga, ua = some ⟨ga, 0, none⟩ ∧ w7.grownBy wr (some ga)) ∨ (j = 0 ∧ wr = w7))) (fun i _ => ns - (intOf i).toNat)
      case atStart => exact ⟨0, Nat.zero_le _, rfl, HO8.out.1, .inr ⟨rfl, rfl⟩⟩
      case round =>
        obtain ⟨j, hj, rfl, ho, hg⟩ := hrel
        by_cases hlt : j < ns
        · have hj0 : (0 : Int) ≤ (j : Int) := by omega
          have hj1 : (j : Int) < (ns : Int) := by omega
          have hjS : j < S.length := by rw [HNS.out]; exact hlt
          have hcl : (chg S j).length = ns := by rw [chg_len (by omega)]; exact HNS.out
          obtain ⟨xa, xc, ex, hat⟩ := ho.at'
          obtain ⟨ga, rfl, c1, c2⟩ := hat j (by rw [hcl]; exact hlt)
          rw [hcl] at ex
          obtain ⟨rfl, -⟩ : ua = some ⟨ga, 0, none⟩ ∧ uc = xc := by cases ex; exact ⟨rfl, rfl⟩
          have hgr : w7.grownBy wr (some ga) := by
            rcases hg with ⟨g2, e2, hg⟩ | ⟨-, rfl⟩
            · cases e2; exact hg
            · exact grownBy_of_below (Below.refl _ _) _
          have HGR := Lib.hid hgr
          have HO := Lib.hid ho
          rw [chg_at hjS] at c1 c2
          have hfz := HO.out.frozen hcl
          have f1 := hfz (j * 2)
          have f2 := hfz (j * 2 + 1)
          have HC : Hid (∃ gb gd, ub = some ⟨gb, 0, none⟩ ∧ ue = some ⟨gd, 0, none⟩ ∧ ∀ W, w7.grownBy W (some ga) → W.cell? ⟨gb, j * 2, none⟩ = some (.int .i64 (sth S j).1) ∧ W.cell? ⟨gb, j * 2 + 1, none⟩ = some (.int .i64 (sth S j).2) ∧ W.cell? ⟨gd, j * 2, none⟩ = some (.int .i64 (sth S j).1) ∧ W.cell? ⟨gd, j * 2 + 1, none⟩ = some (.int .i64 (sth S j).2)) := Lib.hid (by
            obtain ⟨q1, q2⟩ := HKP.out ga rfl wr hgr
            obtain ⟨b1, b2, e1, h1⟩ := q1.at'
            obtain ⟨d1, d2, e2, h2⟩ := q2.at'
            obtain ⟨gb, rfl, -⟩ := h1 j hjS
            obtain ⟨gd, rfl, -⟩ := h2 j hjS
            cases e1
            cases e2
            refine ⟨gb, gd, rfl, rfl, fun W hg => ?_⟩
            obtain ⟨q1, q2⟩ := HKP.out ga rfl W hg
            obtain ⟨b1, b2, e1, h1⟩ := q1.at'
            obtain ⟨d1, d2, e2, h2⟩ := q2.at'
            cases e1
            cases e2
            obtain ⟨g1, e1, z1, z2⟩ := h1 j hjS
            obtain ⟨g2, e2, z3, z4⟩ := h2 j hjS
            cases e1
            cases e2
            exact ⟨z1, z2, z3, z4⟩)
          obtain ⟨gb, gd, rfl, rfl, hcc⟩ := HC.out
          have HCC := Lib.hid hcc
          obtain ⟨c3, c4, c5, c6⟩ := hcc _ hgr
          have HSET := Lib.hid (fun W (hb : Below wr.heap.size wr W) => (HO.out.below hb).set hcl j (-9) (-9))
          rw [chg_set hjS] at HSET
          clear hat ex hg hgr ho hfz hcc HC hcl hjS
          obtain ⟨p, hp⟩ : ∃ p, (sth S j).1 = p := ⟨_, rfl⟩
          obtain ⟨q, hq⟩ : ∃ q, (sth S j).2 = q := ⟨_, rfl⟩
          rw [hp] at c1 c3 c5 HCC
          rw [hq] at c2 c4 c6 HCC
          clear hp hq
          have hpp : (p != p) = false := by simp
          have hqq : (q != q) = false := by simp
          go_wp2_with fail
          go_quiet (fail)
          have HBN := Lib.hid (below_drawM wr nq)
          have HSN := Lib.hid (HSET.out _ HBN.out)
          have HGN := Lib.hid (grownBy_trans (grownBy_trans HGR.out (grownBy_of_below HBN.out _)) HSN.out.2)
          obtain ⟨e3, e4, e5, e6⟩ := HCC.out _ HGN.out
          go_wp2_with fail
          go_quiet (fail)
          go_wp2_with fail
          go_roundw
          case rel => exact ⟨j + 1, by omega, by go_num, HSN.out.1.below (below_drawM _ nq), .inl ⟨ga, rfl, grownBy_trans HGN.out (grownBy_of_below (below_drawM _ nq) _)⟩⟩
          case measure => simp [intOf]; omega
        · obtain rfl : j = ns := by omega
          have HLOW : Hid (Below w.heap.size w wr) := Lib.hid (by
            rcases hg with ⟨g2, e2, hg⟩ | ⟨-, rfl⟩
            · exact HB7.out.grown hg HB7.out.size (fun k e => by cases e; exact (HNE.out g2 e2).1)
            · exact HB7.out)
          clear ho hg
          go_wp2_with fail
          go_ret
          exact ⟨rfl, HLOW.out⟩
end Go.Proofs.Ytglnelkimagihaa
