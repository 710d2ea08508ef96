/-
  Walks: PlaceStays returns true: if nothing changes its order nothing is inserted, and what is not placed is in no insertion.
  Conditions: the bytes lie in memory.
-/
import Derived.Test.YtglnelkimagihaaPlX
namespace Go.Proofs.Ytglnelkimagihaa
set_option linter.unusedVariables false
set_option linter.unusedSimpArgs false
open Go.RowKit Go.Deep Go.WideShapes
open Go.Maps hiding size

theorem fst_snoc (x y : Int) : ∀ l : List Int, Pl.fst (l ++ [y]) x = match Pl.fst l x with | some p => some p | none => if y = x then some l.length else none
  | [] => by simp [Pl.fst]
  | a :: r => by
    rw [List.cons_append, Pl.fst, fst_snoc x y r, Pl.fst]
    by_cases e : a = x
    · rw [if_pos e, if_pos e]
    · rw [if_neg e, if_neg e]
      cases Pl.fst r x with
      | some p => rfl
      | none =>
        simp only [Option.map_none]
        split <;> simp
/-- The place found among the first k. -/
def atT (A : List Int) (x : Int) (k : Nat) : Int := Pl.optI (Pl.fst (A.take k) x)
theorem atT_yes {A : List Int} (hn : A.Nodup) {x : Int} {k : Nat} (hk : k < A.length) (e : Pl.nth A k = x) : atT A x (k + 1) = (k : Int) := by
  unfold atT
  rw [Pl.take_snoc hk, fst_snoc, Pl.fst_no (by rw [← e]; exact Pl.nodup_take hn hk), if_pos e]
  simp only [Pl.optI, List.length_take]
  omega
theorem atT_no {A : List Int} {x : Int} {k : Nat} (hk : k < A.length) (e : ¬ Pl.nth A k = x) : atT A x (k + 1) = atT A x k := by
  unfold atT
  rw [Pl.take_snoc hk, fst_snoc, if_neg e]
  cases Pl.fst (A.take k) x <;> rfl
theorem atT_all (A : List Int) (x : Int) : atT A x A.length = Pl.optI (Pl.fst A x) := by unfold atT; rw [List.take_length]
theorem stpF_get {next : List Int} {p : Nat → Bool} {j : Nat} (hj : j < next.length) (hp : p j = true) : (Pl.stpF next p next.length)[(Pl.stpF next p j).length]? = some (Pl.nth next j, Pl.bef next p (next.length - 1 - j)) ∧ (Pl.stpF next p (j + 1)).length = (Pl.stpF next p j).length + 1 := by
  have e : Pl.stpF next p (j + 1) = Pl.stpF next p j ++ [(Pl.nth next j, Pl.bef next p (next.length - 1 - j))] := by rw [Pl.stpF, if_pos hp]
  obtain ⟨r, hr⟩ := Pl.stpF_pre next p (j := j + 1) (n := next.length) (by omega)
  rw [e] at hr
  refine ⟨?_, by rw [e, List.length_append]; rfl⟩
  rw [← hr, List.append_assoc, List.getElem?_append_right (Nat.le_refl _), Nat.sub_self]
  rfl
theorem stpF_skip {next : List Int} {p : Nat → Bool} {j : Nat} (hp : p j = false) : Pl.stpF next p (j + 1) = Pl.stpF next p j := by rw [Pl.stpF, if_neg (by rw [hp]; exact Bool.noConfusion)]
theorem steps_uniq {A B : List Int} (hB : B.Nodup) : Pl.steps A B = Pl.stpF B (Pl.plc (Pl.frm A B)) B.length := by unfold Pl.steps; rw [Pl.uq_of_nodup hB]

theorem steps_none (oa : Option Addr) (O : List Int) (oc : Nat) (na : Option Addr) (L : List Int) (nc : Nat) (w : World) (h : RL w oa O) (hB : RB O) (hn : O.length ≤ 1000) (h' : RL w na L) (hB' : RB L) (hn' : L.length ≤ 1000) (he : Pl.steps O L = []) :
    Calls Try.prog 13 #[.slice oa O.length oc, .slice na L.length nc] w fun e w' => ∃ u c, e = .returned (.slice u 0 c) ∧ Below w.heap.size w w' := by
  refine (steps_any oa O oc na L nc w h hB hn h' hB' hn').mono ?_
  rintro e w' ⟨v, rfl, hs, hb⟩
  rw [he] at hs
  obtain ⟨u, c, rfl, -⟩ := hs.at'
  exact ⟨u, c, rfl, hb⟩
theorem GoodRow.wo {A B : List Int} (h : GoodRow A) : RB (Pl.wo A B) := fun x hx => h.rb x (Pl.wo_mem.1 hx).1

set_option maxRecDepth 100000 in
set_option maxHeartbeats 4000000 in
theorem pstays_any (a : Option Addr) (n cap : Nat) (h : Nat → Int) (a' : Option Addr) (n' cap' : Nat) (h' : Nat → Int) (w : World) (hn : n ≤ cap ∧ cap ≤ maxLen) (hn' : n' ≤ cap' ∧ cap' ≤ maxLen) (hh : BLs w a n h) (hh' : BLs w a' n' h') (hv : ∀ j, 0 ≤ h j ∧ h j ≤ 255) (hv' : ∀ j, 0 ≤ h' j ∧ h' j ≤ 255) :
    Calls Try.prog 6 #[.slice a n cap, .slice a' n' cap'] w fun x w' => x = .returned (.bool true) ∧ Below w.heap.size w w' := by
  have HR1 := Lib.hid (rowu_any a n cap h w hn hh hv)
  have HR2 := Lib.hid (fun W (hb : Below w.heap.size w W) => rowu_any a' n' cap' h' W hn' (hh'.below hb) hv')
  have HAL := Lib.hid (fun W => alive9_any W)
  clear hn hn' hh hh' hv hv'
  go_enter Try.func6, Try.ntmps6
  go_wp2_with (first
    | (go_at_call 15; (with_reducible refine HR1.out.mono ?_); rintro x w1 ⟨v1, rfl, A, ho1, hg1, hb1⟩; obtain ⟨ra, rc, rfl, -, -, hl1⟩ := ho1.rl; have HL1 := Lib.hid hl1; have HG1 := Lib.hid hg1; have HB1 := Lib.hid hb1; clear ho1 hg1 hb1 hl1)
    | (go_at_call 15; (with_reducible refine (HR2.out w1 HB1.out).mono ?_); rintro x w2 ⟨v2, rfl, B, ho2, hg2, hb2⟩; obtain ⟨sa, sc, rfl, -, -, hl2⟩ := ho2.rl; have HL2 := Lib.hid (And.intro (HL1.out.below hb2) hl2); have HG2 := Lib.hid hg2; have HB2 := Lib.hid (HB1.out.trans (hb2.mono HB1.out.size)); clear ho2 hg2 hb2 hl2)
    | (go_at_call 17; (with_reducible refine (HAL.out w2).mono ?_); rintro x w3 ⟨rfl, hb3⟩; have HL3 := Lib.hid (And.intro (HL2.out.1.below hb3) (HL2.out.2.below hb3)); have HB3 := Lib.hid (HB2.out.trans (hb3.mono HB2.out.size)); clear hb3)
    | (go_at_call 13; (with_reducible refine (steps_none ra A rc ra A rc w3 HL3.out.1 HG1.out.rb (by have := HG1.out.len; omega) HL3.out.1 HG1.out.rb (by have := HG1.out.len; omega) (Pl.steps_self HG1.out.nodup)).mono ?_); rintro x w4 ⟨u4', c4', rfl, hb4⟩; have HL4 := Lib.hid (And.intro (HL3.out.1.below hb4) (HL3.out.2.below hb4)); have HB4 := Lib.hid (HB3.out.trans (hb4.mono HB3.out.size)); clear hb4)
    | (go_at_call 16; (with_reducible refine (without_any ra A rc sa B sc w4 HL4.out.1 (by have := HG1.out.len; omega) HL4.out.2 (by have := HG2.out.len; omega)).mono ?_); rintro x w5 ⟨v5, rfl, ho5, hb5⟩; obtain ⟨ta, tc, rfl, -, -, hl5⟩ := ho5.rl; have HL5 := Lib.hid (And.intro (HL4.out.1.below hb5) (And.intro (HL4.out.2.below hb5) hl5)); have HB5 := Lib.hid (HB4.out.trans (hb5.mono HB4.out.size)); clear ho5 hb5 hl5)
    | (go_at_call 13; (with_reducible refine (steps_none ra A rc ta (Pl.wo A B) tc w5 HL5.out.1 HG1.out.rb (by have := HG1.out.len; omega) HL5.out.2.2 HG1.out.wo (by have := HG1.out.len; have := Pl.wo_len A B; omega) (Pl.steps_wo HG1.out.nodup)).mono ?_); rintro x w6 ⟨u6', c6', rfl, hb6⟩; have HL6 := Lib.hid (And.intro (HL5.out.1.below hb6) (HL5.out.2.1.below hb6)); have HB6 := Lib.hid (HB5.out.trans (hb6.mono HB5.out.size)); clear hb6)
    | (go_at_call 13; (with_reducible refine (steps_any ra A rc sa B sc w6 HL6.out.1 HG1.out.rb (by have := HG1.out.len; omega) HL6.out.2 HG2.out.rb (by have := HG2.out.len; omega)).mono ?_); rintro x w7 ⟨v7, rfl, ho7, hb7⟩; obtain ⟨ua, uc, e7, -⟩ := ho7.at'; subst e7; have HS7 := Lib.hid ho7; have HL7 := Lib.hid (And.intro (HL6.out.1.below hb7) (HL6.out.2.below hb7)); have HB7 := Lib.hid (HB6.out.trans (hb7.mono HB6.out.size)); clear ho7 hb7))
  have hA := HG1.out.len
  have hB := HG2.out.len
  have HSU := Lib.hid (steps_uniq (A := A) HG2.out.nodup)
  have HFL := Lib.hid (Pl.frm_len A B)
  have HFN := Lib.hid (fun j (hj : j < B.length) => Pl.nth_frm (old := A) (next := B) hj)
  have HND := Lib.hid HG1.out.nodup
  clear HR1 HR2 HAL HL1 HL2 HL3 HL4 HL5 HL6 HB1 HB2 HB3 HB4 HB5 HB6 HG1 HG2
  obtain ⟨F, hF⟩ : ∃ F, Pl.frm A B = F := ⟨_, rfl⟩
  rw [hF] at HSU HFL HFN
  obtain ⟨S, hS⟩ : ∃ S, Pl.steps A B = S := ⟨_, rfl⟩
  rw [hS] at HSU HS7
  clear hF
  simp only [hS]
  clear hS
  obtain ⟨nb, hnb⟩ : ∃ m, B.length = m := ⟨_, rfl⟩
  have HLB := Lib.hid hnb
  have HL8 : Hid (IL w7 ra A.length (Pl.nth A) ∧ IL w7 sa nb (Pl.nth B)) := Lib.hid ⟨HL7.out.1, by rw [← hnb]; exact HL7.out.2⟩
  rw [hnb] at HFL HFN hB HSU
  simp only [hnb]
  clear hnb HL7
  obtain ⟨na, hna⟩ : ∃ m, A.length = m := ⟨_, rfl⟩
  have HLA := Lib.hid hna
  rw [hna] at HL8 hA
  simp only [hna]
  clear hna
  go_loopw [8, 9] (fun o i wr => ∃ j : Nat, j ≤ nb ∧ i = .int .i64 j ∧ OR wr w7.heap.size o (F.take j) ∧ Below w7.heap.size w7 wr) (fun _ i _ => nb - (intOf i).toNat)
  case atStart => exact ⟨0, Nat.zero_le _, rfl, OR.nil _ _, Below.refl _ _⟩
  case round =>
    obtain ⟨j, hj, rfl, ho, hb⟩ := hrel
    have HO := Lib.hid ho
    have HB := Lib.hid hb
    clear ho hb
    by_cases hlt : j < nb
    · have hj0 : (0 : Int) ≤ (j : Int) := by omega
      have hj1 : (j : Int) < (nb : Int) := by omega
      have HA := Lib.hid (fun W (hb : Below wr.heap.size wr W) => (HL8.out.1.below (HB.out.trans (hb.mono HB.out.size))))
      obtain ⟨b, o, rfl, hc0⟩ := HL8.out.2 j hlt
      have HC : Hid (∀ W, Below wr.heap.size wr W → W.cell? ⟨b, o + j, none⟩ = some (.int .i64 (Pl.nth B j))) := Lib.hid (fun W hb => by
        have hc1 := hc0
        rw [← (HB.out.trans (hb.mono HB.out.size)).cell (p := ⟨b, o + j, none⟩) (World.block_lt_of_cell? _ _ hc0)] at hc1
        exact hc1)
      clear hc0
      have HTS := Lib.hid (Pl.take_snoc (l := F) (j := j) (by rw [HFL.out]; exact hlt))
      rw [HFN.out j hlt, ← atT_all, HLA.out] at HTS
      have HY := Lib.hid (fun k (hk : k < na) e => atT_yes (x := Pl.nth B j) HND.out (by rw [HLA.out]; exact hk) e)
      have HN := Lib.hid (fun k (hk : k < na) e => atT_no (A := A) (x := Pl.nth B j) (by rw [HLA.out]; exact hk) e)
      have hat0 : atT A (Pl.nth B j) 0 = -1 := rfl
      generalize Pl.nth B j = x at HC HTS HY HN hat0
      have HLT : Hid ((F.take j).length ≤ j) := Lib.hid (List.length_take_le _ _)
      go_wp2_with fail
      go_loopw [10, 11] (fun t i wr2 => ∃ k : Nat, k ≤ na ∧ i = .int .i64 k ∧ t = .int .i64 (atT A x k) ∧ Below wr.heap.size wr wr2) (fun _ i _ => na - (intOf i).toNat)
      case atStart => exact ⟨0, Nat.zero_le _, rfl, by rw [hat0], Below.refl _ _⟩
      case round =>
        obtain ⟨k, hk, rfl, rfl, hbk⟩ := hrel
        have HBK := Lib.hid hbk
        clear hbk hat0
        by_cases hkl : k < na
        · have hk0 : (0 : Int) ≤ (k : Int) := by omega
          have hk1 : (k : Int) < (na : Int) := by omega
          obtain ⟨b2, o2, rfl, c1⟩ := HA.out _ HBK.out k hkl
          have c2 := HC.out _ HBK.out
          by_cases e : Pl.nth A k = x
          · have HK := Lib.hid (HY.out k hkl e)
            rw [e] at c1
            have hee : (x == x) = true := by simp
            clear e
            go_wp2_with fail
            go_quiet (fail)
            have HBD := Lib.hid (HBK.out.trans ((below_drawM _ nq).mono HBK.out.size))
            go_wp2_with fail
            go_roundw
            case rel => exact ⟨k + 1, by omega, by go_num, by rw [HK.out], HBD.out⟩
            case measure => simp [intOf]; omega
          · have HK := Lib.hid (HN.out k hkl e)
            generalize Pl.nth A k = y at c1 e
            have hee : (y == x) = false := by simp [e]
            clear e
            go_wp2_with fail
            go_quiet (fail)
            have HBD := Lib.hid (HBK.out.trans ((below_drawM _ nq).mono HBK.out.size))
            go_wp2_with fail
            go_roundw
            case rel => exact ⟨k + 1, by omega, by go_num, by rw [HK.out], HBD.out⟩
            case measure => simp [intOf]; omega
        · obtain rfl : k = na := by omega
          have HBX := Lib.hid (HB.out.trans (HBK.out.mono HB.out.size))
          have hbx := HBX.out.size
          generalize atT A x k = y at HTS ⊢
          go_wp2_with (at_builtin; refine app_int rfl _ _ rfl _ w7.heap.size (F.take j) y _ (HO.out.below HBK.out) rfl rfl (by have := HLT.out; omega) hbx ?_; intro v' w8 hor8 ha8; have HAP := Lib.hid ha8; have HO8 := Lib.hid hor8; clear ha8 hor8)
          refine ⟨⟨j + 1, by omega, by go_num, by rw [HTS.out]; exact HO8.out, HAP.out.below (HO.out.below HBK.out) HBX.out (Nat.le_refl _) hbx⟩, by simp [intOf]; omega⟩
    · obtain rfl : j = nb := by omega
      rw [List.take_of_length_le (by rw [HFL.out]; omega)] at HO
      obtain ⟨fa, fc, e9, -, -, hl9⟩ := HO.out.rl
      rw [HFL.out] at e9
      have HF9 := Lib.hid hl9
      clear hl9
      rw [e9]
      clear e9
      have HMV : Hid (Calls Try.prog 10 #[.slice fa j fc] wr fun x w' => ∃ g, x = .returned (.slice (some ⟨g, 0, none⟩) j j) ∧ OwnV w' wr.heap.size g j 4 (fun i => .bool (Pl.plc F i)) ∧ Below wr.heap.size wr w') := Lib.hid (by
        have := moves_any fa F fc wr HF9.out (by rw [HFL.out]; omega)
        rw [HFL.out] at this
        exact this)
      obtain ⟨P, hP⟩ : ∃ P, Pl.plc F = P := ⟨_, rfl⟩
      rw [hP] at HMV HSU
      clear hP
      obtain ⟨uo, uc', eu, hat⟩ := HS7.out.at'
      obtain ⟨rfl, -⟩ : uo = ua ∧ uc' = uc := by cases eu; exact ⟨rfl, rfl⟩
      have HAT := Lib.hid hat
      have HSL : Hid (S.length = (Pl.stpF B P j).length) := Lib.hid (by rw [HSU.out])
      have hsl : S.length ≤ 200 := by rw [HSL.out]; exact Nat.le_trans (Pl.stpF_len _ _ _) hB
      have hsl0 : (0 : Int) ≤ (S.length : Int) := by omega
      clear eu hat
      go_wp2_with (first
        | (go_at_call 10; (with_reducible refine HMV.out.mono ?_); rintro x w9 ⟨g9, rfl, ho9, hb9⟩; have HO9 := Lib.hid ho9; have HB9 := Lib.hid (HB.out.trans (hb9.mono HB.out.size)); clear ho9 hb9))
      go_loopw [13, 14] (fun c i wr2 => ∃ q : Nat, q ≤ j ∧ i = .int .i64 q ∧ c = .int .i64 (Pl.stpF B P q).length ∧ Below w9.heap.size w9 wr2) (fun _ i _ => j - (intOf i).toNat)
      case atStart => exact ⟨0, Nat.zero_le _, rfl, rfl, Below.refl _ _⟩
      case round =>
        obtain ⟨q, hq, rfl, rfl, hbq⟩ := hrel
        have HBQ := Lib.hid hbq
        have HBW := Lib.hid (HB9.out.trans (hbq.mono HB9.out.size))
        clear hbq
        by_cases hql : q < j
        · have hq0 : (0 : Int) ≤ (q : Int) := by omega
          have hq1 : (q : Int) < (j : Int) := by omega
          have hcm := (HO9.out.below HBQ.out).cell hql
          cases hp : P q with
          | false =>
            rw [hp] at hcm
            have HSK := Lib.hid (stpF_skip (next := B) hp)
            clear hp
            go_wp2_with fail
            go_roundw
            case rel => exact ⟨q + 1, by omega, by go_num, by rw [HSK.out], HBQ.out⟩
            case measure => simp [intOf]; omega
          | true =>
            rw [hp] at hcm
            obtain ⟨hg1, hg2⟩ := stpF_get (next := B) (p := P) (j := q) (by rw [HLB.out]; exact hql) hp
            rw [HLB.out, ← HSU.out] at hg1
            have HG2 := Lib.hid hg2
            have hlt2 := (List.getElem?_eq_some_iff.1 hg1).1
            obtain ⟨g, rfl, y1, -⟩ := HAT.out _ _ hg1
            obtain ⟨b, o, rfl, hc⟩ := (HL8.out.2.below HBW.out) q hql
            have hy1 := y1
            rw [← HBW.out.cell (p := ⟨g, (Pl.stpF B P q).length * 2, none⟩) (World.block_lt_of_cell? _ _ y1)] at hy1
            clear hp hg1 hg2 y1
            simp only at hy1
            generalize Pl.nth B q = x at hy1 hc
            obtain ⟨m, hm⟩ : ∃ m, (Pl.stpF B P q).length = m := ⟨_, rfl⟩
            rw [hm] at hlt2 hy1 HG2 ⊢
            clear hm
            have hm0 : (0 : Int) ≤ (m : Int) := by omega
            have hm1 : (m : Int) < (S.length : Int) := by omega
            have hm2 : ¬ (S.length : Int) ≤ (m : Int) := by omega
            have hm3 : ¬ S.length ≤ m := by omega
            have hm4 : decide (S.length ≤ m) = false := decide_eq_false hm3
            have hxx : (x != x) = false := by simp
            clear hm2 hm3
            go_wp2_with fail
            go_quiet (fail)
            have HBD := Lib.hid (HBQ.out.trans ((below_drawM _ nq).mono HBQ.out.size))
            go_wp2_with fail
            go_roundw
            case rel => exact ⟨q + 1, by omega, by go_num, by rw [HG2.out]; rfl, HBD.out⟩
            case measure => simp [intOf]; omega
        · obtain rfl : q = j := by omega
          have hsq := HSL.out
          rw [← hsq]
          go_wp2_with fail
          go_ret
          exact ⟨rfl, HB7.out.trans (HBW.out.mono HB7.out.size)⟩
end Go.Proofs.Ytglnelkimagihaa
