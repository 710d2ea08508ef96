/-
  Walks: the document's Steps (tapestryref09) answers 'Pl.steps' too.
  Conditions: the rows lie in memory, 500 numbers at most.
-/
import Derived.Test.YtglnelkimagihaaPlR
import Derived.Test.YtglnelkimagihaaPlV
namespace Go.Proofs.Ytglnelkimagihaa
set_option linter.unusedVariables false
set_option linter.unusedSimpArgs false
open Go.RowKit Go.Deep Go.WideShapes
open Go.Maps hiding size

/-- A row of the document's steps. -/
def SD (w : World) (base : Nat) (v : Value) (l : List (Int × Int)) : Prop := w.ownsRow base 35 2 v l.length (cellsS l)
theorem SD.nil (w : World) (base : Nat) : SD w base (.slice none 0 0) [] := World.ownsRow_nil _ _ _ _
theorem SD.below {w w' : World} {base : Nat} {v : Value} {l : List (Int × Int)} (h : SD w base v l) (hb : Below w.heap.size w w') : SD w' base v l := own_below2 h hb
theorem info_rstep : (Try.prog.info? 35).map (fun i => (i.zero, i.size, i.bytes)) = some (some (.agg #[.int .i64 0, .int .i64 0]), 2, 16) := by kernel_rfl
theorem app_rstep {ops : Array Oper} {rest : List Oper} {o : Oper} {a : Act} {Q : Exit → Act → World → Prop} (hgd : o.guard = none) (s x : Operand) (ho : o.op = .call { callee := .builtin .append, args := #[s, x], argTypes := #[31, 31] })
    (W0 : World) (base : Nat) (l : List (Int × Int)) (p q : Int) (v : Value) (hown : SD W0 base v l) (hs : a.eval s = v) (hx : a.eval x = .slice (some ⟨W0.heap.size, 0, none⟩) 1 1) (hlen : l.length ≤ 2000000) (hbase : base ≤ W0.heap.size)
    (h : ∀ v' w', SD w' base v' (l ++ [(p, q)]) → App W0 base 35 2 v v' (l ++ [(p, q)]).length (cellsS (l ++ [(p, q)])) w' → wpList Try.prog ops Q rest (a.put o.dst v') w') : wpList Try.prog ops Q (o :: rest) a (W0.alloc (.cells #[.int .i64 p, .int .i64 q] 35)) := by
  obtain ⟨i0, hi, hz0, hz1, hz2⟩ := info_parts info_rstep
  refine wpList_append_own_at _ hgd s x 31 ho base 35 i0 (.agg #[.int .i64 0, .int .i64 0]) 2 16 Try.underlying31 hi hz0 hz1 hz2 rfl (by decide) v l.length (cellsS l) hs (World.ownsRow.alloc hown _) ⟨W0.heap.size, 0, none⟩ 1 1 [.int .i64 p, .int .i64 q] hx rfl (cell_one_new (cs := [.int .i64 p, .int .i64 q]) W0) (by simp [Value.oneCell']) (by unfold maxLen; omega) (by omega) (Nat.le_trans hbase (below_alloc _ _).size) ?_
  intro v' w' h1 h2 _ h4
  have e : cellsS l ++ [Value.int .i64 p, .int .i64 q] = cellsS (l ++ [(p, q)]) := by rw [cellsS_snoc]
  rw [e] at h1
  exact h v' w' (by unfold SD; rw [List.length_append]; exact h1) ⟨by rw [List.length_append]; exact h1, grownBy_trans (World.grownBy_alloc _ _ _) h2, h4.imp id (fun q => ⟨_, q, (below_alloc _ _).size⟩)⟩

set_option maxRecDepth 100000 in
set_option maxHeartbeats 4000000 in
theorem rsteps_any (oa : Option Addr) (O : List Int) (oc : Nat) (na : Option Addr) (L : List Int) (nc : Nat) (w : World) (h : RL w oa O) (hn : O.length ≤ 1000) (h' : RL w na L) (hn' : L.length ≤ 1000) :
    Calls Try.prog 14 #[.slice oa O.length oc, .slice na L.length nc] w fun e w' => ∃ v, e = .returned v ∧ SD w' w.heap.size v (Pl.steps O L) ∧ Below w.heap.size w w' := by
  have HRO := Lib.hid (fun W (hb : Below w.heap.size w W) => rrow_any oa O oc W (h.below hb) hn)
  have HRN := Lib.hid (rrow_any na L nc w h' hn')
  have HSU : Hid (Pl.stpF (Pl.uq L) (Pl.plc (Pl.frm (Pl.uq O) (Pl.uq L))) (Pl.uq L).length = Pl.steps O L) := Lib.hid (Pl.steps_uq O L)
  have hul : (Pl.uq L).length ≤ 1000 := Nat.le_trans (Pl.uq_len L) hn'
  have huo : (Pl.uq O).length ≤ 1000 := Nat.le_trans (Pl.uq_len O) hn
  clear h h' hn hn'
  generalize Pl.steps O L = S at HSU ⊢
  obtain ⟨U, hU⟩ : ∃ U, Pl.uq L = U := ⟨_, rfl⟩
  obtain ⟨V, hV⟩ : ∃ V, Pl.uq O = V := ⟨_, rfl⟩
  rw [hU] at HRN hul HSU
  rw [hV] at HRO huo HSU
  clear hU hV
  have HFN := Lib.hid (fun j (hj : j < U.length) => Pl.nth_frm (old := V) (next := U) hj)
  have HFL := Lib.hid (Pl.frm_len V U)
  obtain ⟨F, hF⟩ : ∃ F, Pl.frm V U = F := ⟨_, rfl⟩
  rw [hF] at HFN HFL HSU
  clear hF
  obtain ⟨n, hnE⟩ : ∃ n, U.length = n := ⟨_, rfl⟩
  have HN := Lib.hid hnE
  rw [hnE] at HFN HFL HSU hul
  go_enter Try.func14, Try.ntmps14
  go_wp2_with (first
    | (go_at_call 26; (with_reducible refine HRN.out.mono ?_); rintro x w1 ⟨v1, rfl, ho1, hb1⟩; obtain ⟨ua, uc, e1, -, -, hl1⟩ := ho1.rl; rw [hnE] at e1; subst e1; have HL1 := Lib.hid hl1; have HB1 := Lib.hid hb1; clear ho1 hb1 hl1))
  clear hnE
  unfold RL at HL1
  rw [HN.out] at HL1
  go_loopw [5, 6] (fun o i wr => ∃ j : Nat, j ≤ n ∧ i = .int .i64 j ∧ OR wr w1.heap.size o (F.take j) ∧ Below w1.heap.size w1 wr) (fun _ i _ => n - (intOf i).toNat)
  case atStart => exact ⟨0, Nat.zero_le _, rfl, OR.nil _ _, Below.refl _ _⟩
  case round =>
    obtain ⟨j, hj, rfl, ho, hb⟩ := hrel
    have HO := Lib.hid ho
    have HB := Lib.hid hb
    have hb0 := hb.size
    clear ho hb
    by_cases hlt : j < n
    · have hj0 : (0 : Int) ≤ (j : Int) := by omega
      have hj1 : (j : Int) < (n : Int) := by omega
      obtain ⟨b, o, rfl, hc⟩ := (HL1.out.below HB.out) j hlt
      have HC : Hid (∀ W, Below wr.heap.size wr W → W.cell? ⟨b, o + j, none⟩ = some (.int .i64 (Pl.nth U j))) := Lib.hid (fun W hb => by rw [hb.cell (p := ⟨b, o + j, none⟩) (World.block_lt_of_cell? _ _ hc)]; exact hc)
      have HTJ := Lib.hid (Pl.take_snoc (l := F) (j := j) (by rw [HFL.out]; exact hlt))
      rw [HFN.out j hlt] at HTJ
      have HLE : Hid ((F.take j).length ≤ j) := Lib.hid (List.length_take_le _ _)
      have HPL := Lib.hid (fun a cap W (hr : RL W a V) => rplace_any a V cap (Pl.nth U j) W hr (by omega))
      have HROj := Lib.hid (fun W (hb : Below wr.heap.size wr W) => HRO.out W (HB1.out.trans ((HB.out.trans (hb.mono HB.out.size)).mono HB1.out.size)))
      generalize Pl.optI (Pl.fst V (Pl.nth U j)) = y at HTJ HPL
      generalize Pl.nth U j = x at hc HC HPL
      have HBD : Hid (Below wr.heap.size wr wr.drew) := Lib.hid (below_drawM wr 1)
      go_wp2_with fail
      go_region_law (first
        | (refine app_int_at rfl _ _ rfl _ w1.heap.size (F.take j) y _ HO7.out (by rfl) (by rfl) (by have := HLE.out; omega) hb7 ?_; intro v8 w8 hor8 ha8; have HAP := Lib.hid ha8; have HO8 := Lib.hid hor8; clear ha8 hor8)
        | (go_simp; go_wp2_with (first
            | (go_at_call 26; (with_reducible refine (HROj.out _ HBD.out).mono ?_); rintro x7 w7 ⟨v7, rfl, ho7, hb7'⟩; obtain ⟨va, vc, rfl, -, -, hl7⟩ := ho7.rl; have HB7 := Lib.hid (HBD.out.trans (hb7'.mono HBD.out.size)); have HL7 := Lib.hid hl7; have hc7 := HC.out _ HB7.out; have HO7 := Lib.hid (HO.out.below HB7.out); have hb7 := Nat.le_trans hb0 HB7.out.size; clear ho7 hb7' hl7)
            | (go_at_call 27; (with_reducible refine (HPL.out _ _ _ HL7.out).mono ?_); rintro x8 w8 ⟨rfl, rfl⟩))))
      all_goals
        go_wp2_with fail
        go_roundw
        case rel => exact ⟨j + 1, by omega, by go_num, by rw [HTJ.out]; exact HO8.out, HAP.out.below HO7.out (HB.out.trans (HB7.out.mono HB.out.size)) (Nat.le_refl _) hb7⟩
        case measure => simp [intOf]; omega
    · obtain rfl : j = n := by omega
      rw [List.take_of_length_le (by rw [HFL.out]; omega)] at HO
      obtain ⟨fa, fc, e9, -, -, hl9⟩ := HO.out.rl
      rw [HFL.out] at e9
      have HF9 := Lib.hid hl9
      clear hl9
      rw [e9]
      clear e9
      have HMV : Hid (Calls Try.prog 11 #[.slice fa j fc] wr fun x w' => ∃ v, x = .returned v ∧ w'.ownsRow wr.heap.size 4 1 v j (rowV j (fun i => .bool (Pl.plc F i))) ∧ Below wr.heap.size wr w') := Lib.hid (by
        have := rmoves_any fa F fc wr HF9.out (by rw [HFL.out]; omega)
        rw [HFL.out] at this
        exact this)
      obtain ⟨P, hP⟩ : ∃ P, Pl.plc F = P := ⟨_, rfl⟩
      rw [hP] at HMV HSU
      clear hP
      go_wp2_with (first
        | (go_at_call 11; (with_reducible refine HMV.out.mono ?_); rintro x w9 ⟨v9, rfl, ho9, hb9⟩; obtain ⟨ma, mc, rfl, -, -, hm9⟩ := bl_row ho9; have HM9 := Lib.hid hm9; have HB9 := Lib.hid (HB.out.trans (hb9.mono HB.out.size)); clear ho9 hb9 hm9))
      have HK : Hid (∀ W, Below w9.heap.size w9 W → (∀ i, i < j → ∃ b o, ma = some ⟨b, o, none⟩ ∧ W.cell? ⟨b, o + i, none⟩ = some (.bool (P i))) ∧ IL W ua j (Pl.nth U)) := Lib.hid (fun W hb => ⟨fun i hi => by
        obtain ⟨b, o, e, hc⟩ := HM9.out i hi
        exact ⟨b, o, e, by rw [hb.cell (p := ⟨b, o + i, none⟩) (World.block_lt_of_cell? _ _ hc)]; exact hc⟩, HL1.out.below (HB9.out.trans (hb.mono HB9.out.size))⟩)
      have HSL := Lib.hid (fun q => Pl.stpF_len U P q)
      have HYE := Lib.hid (fun q (h : P q = true) => (show Pl.stpF U P (q + 1) = Pl.stpF U P q ++ [(Pl.nth U q, Pl.bef U P (U.length - 1 - q))] from by rw [Pl.stpF, if_pos h]))
      have HNO := Lib.hid (fun q (h : P q = false) => (show Pl.stpF U P (q + 1) = Pl.stpF U P q from by rw [Pl.stpF, if_neg (by rw [h]; exact Bool.noConfusion)]))
      have HBE := Lib.hid (fun c => (show Pl.bef U P (c + 1) = if P (U.length - 1 - c) = true then Pl.bef U P c else Pl.nth U (U.length - 1 - c) from rfl))
      rw [HN.out] at HYE HBE
      go_loopw [8, 9] (fun o i wr2 => ∃ q : Nat, q ≤ j ∧ i = .int .i64 q ∧ SD wr2 w9.heap.size o (Pl.stpF U P q) ∧ Below w9.heap.size w9 wr2) (fun _ i _ => j - (intOf i).toNat)
      case atStart => exact ⟨0, Nat.zero_le _, rfl, SD.nil _ _, Below.refl _ _⟩
      case round =>
        obtain ⟨q, hq, rfl, ho, hb⟩ := hrel
        have HO2 := Lib.hid ho
        have HB2 := Lib.hid hb
        have hb0 := hb.size
        clear ho hb
        by_cases hql : q < j
        · have hq0 : (0 : Int) ≤ (q : Int) := by omega
          have hq1 : (q : Int) < (j : Int) := by omega
          obtain ⟨hkm, hku⟩ := HK.out _ HB2.out
          obtain ⟨bm, om, rfl, hcm⟩ := hkm q hql
          obtain ⟨bu, ou, rfl, hcu⟩ := hku q hql
          have HKB : Hid (∀ i, i < j → (World.cell? _ ⟨bm, om + i, none⟩ = some (.bool (P i))) ∧ (World.cell? _ ⟨bu, ou + i, none⟩ = some (.int .i64 (Pl.nth U i)))) := Lib.hid (fun i hi => by
            obtain ⟨b1, o1, e1, h1⟩ := hkm i hi
            obtain ⟨b2, o2, e2, h2⟩ := hku i hi
            cases e1
            cases e2
            exact ⟨h1, h2⟩)
          clear hkm hku
          cases hp : P q with
          | false =>
            rw [hp] at hcm
            have HSK := Lib.hid (HNO.out q hp)
            clear hp
            go_wp2_with fail
            go_roundw
            case rel => exact ⟨q + 1, by omega, by go_num, by rw [HSK.out]; exact HO2.out, HB2.out⟩
            case measure => simp [intOf]; omega
          | true =>
            rw [hp] at hcm
            have HSK := Lib.hid (HYE.out q hp)
            have hbf0 : Pl.bef U P 0 = 0 := rfl
            have HLQ := Lib.hid (HSL.out q)
            clear hp
            go_wp2_with fail
            go_loopw [10, 11] (fun t i wr3 => ∃ c : Nat, c ≤ j - 1 - q ∧ i = .int .i64 ((j : Int) - 1 - c) ∧ t = .int .i64 (Pl.bef U P c) ∧ wr3 = wr) (fun _ i _ => (intOf i).toNat)
            case atStart => exact ⟨0, Nat.zero_le _, by simp, by rw [hbf0], rfl⟩
            case round =>
              obtain ⟨c, hc, rfl, rfl, rfl⟩ := hrel
              obtain ⟨p, hpp⟩ : ∃ p : Nat, j - 1 - c = p := ⟨_, rfl⟩
              have hpe : (j : Int) - 1 - c = p := by omega
              have HPE := Lib.hid hpe
              by_cases hcl : c < j - 1 - q
              · have hp0 : (0 : Int) ≤ (p : Int) := by omega
                have hp1 : (p : Int) < (j : Int) := by omega
                have hp2 : (q : Int) < (p : Int) := by omega
                have hbe := HBE.out c
                rw [hpp] at hbe
                obtain ⟨z1, z2⟩ := HKB.out p (by omega)
                rw [hpe]
                clear hpe hpp hbf0
                cases hp : P p with
                | false =>
                  rw [hp] at z1 hbe
                  rw [if_neg Bool.noConfusion] at hbe
                  have HBC := Lib.hid hbe
                  clear hbe hp
                  generalize Pl.nth U p = x at z2 HBC
                  go_wp2_with fail
                  go_roundw
                  case rel => exact ⟨c + 1, by omega, by have := HPE.out; go_num, by rw [HBC.out], trivial⟩
                  case measure => simp [intOf]; omega
                | true =>
                  rw [hp] at z1 hbe
                  rw [if_pos rfl] at hbe
                  have HBC := Lib.hid hbe
                  clear hbe hp
                  go_wp2_with fail
                  go_roundw
                  case rel => exact ⟨c + 1, by omega, by have := HPE.out; go_num, by rw [HBC.out], trivial⟩
                  case measure => simp [intOf]; omega
              · obtain rfl : c = j - 1 - q := by omega
                have hpq : (p : Int) = q := by omega
                rw [hpe, hpq]
                clear hpe hpp hpq hbf0 HPE
                generalize Pl.bef U P (j - 1 - q) = y at HSK ⊢
                generalize Pl.nth U q = x at hcu HSK
                have hs0 := HB2.out.size
                go_wp2_with (at_builtin; refine app_rstep rfl _ _ rfl _ w9.heap.size (Pl.stpF U P q) x y _ HO2.out rfl rfl (by have := HLQ.out; omega) hs0 ?_; intro v' w8 hor8 ha8; have HAP := Lib.hid ha8; have HO8 := Lib.hid hor8; clear ha8 hor8)
                refine ⟨⟨q + 1, by omega, by go_num, by rw [HSK.out]; exact HO8.out, HAP.out.below HO2.out HB2.out (Nat.le_refl _) hs0⟩, by simp [intOf]; omega⟩
        · obtain rfl : q = j := by omega
          rw [HSU.out] at HO2
          have h9 := HB9.out.size
          have h1 := HB1.out.size
          have HE := Lib.hid (show SD wr w.heap.size u8 S from own_base (by omega) HO2.out)
          go_wp2_with fail
          go_ret
          exact ⟨_, rfl, HE.out, HB1.out.trans ((HB9.out.trans (HB2.out.mono HB9.out.size)).mono HB1.out.size)⟩
end Go.Proofs.Ytglnelkimagihaa
