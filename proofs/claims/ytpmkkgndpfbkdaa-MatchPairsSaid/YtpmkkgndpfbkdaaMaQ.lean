/-
  Walks: MatchPairs returns true: with unlike keys the same pairs come out in whatever order the lists stand, and matched the other way round.
  Conditions: both lists lie in memory.
-/
import Derived.Test.YtpmkkgndpfbkdaaMaL
import Derived.IntWalk
import Derived.Deep.Cut
namespace Go.Proofs.Ytpmkkgndpfbkdaa
set_option linter.unusedVariables false
set_option linter.unusedSimpArgs false
open Go.RowKit Go.Deep Go.WideShapes

theorem CLst.congr {w : World} {la : Option Addr} {ll lc : Nat} {K K' : Nat → C} (h : CLst w la ll lc K) (e : ∀ i, i < ll → K i = K' i) : CLst w la ll lc K' := ⟨h.cap, fun i hi => by rw [← e i hi]; exact h.els i hi⟩
theorem one_cells {w : World} {c : C} (h : c.val.In w) : ∀ u ∈ c.cells, u.oneCell' = true := by
  obtain ⟨key, k, s, v⟩ := c
  cases v with
  | leaf => exact h.elim
  | mk => intro u hu; simp [C.cells, V.cells] at hu; rcases hu with rfl | rfl | rfl | rfl | rfl | rfl | rfl | rfl | rfl | rfl | rfl <;> rfl
theorem row_mem {w : World} {base g n cap size T : Nat} {xs : List Value} (h : w.ownsRow base T size (.slice (some ⟨g, 0, none⟩) n cap) n xs) : At w g 0 xs := fun j hj => by
  have := World.ownsRow.cells h (g := g) rfl j xs[j] (List.getElem?_eq_getElem hj)
  rw [List.getElem?_eq_getElem hj, ← this, add_plain]
/-- A row of children that the call owns is a list of children. -/
theorem row_clst {w : World} {base : Nat} {v : Value} {cs : List C} {n T : Nat} (hn : cs.length = n) (h : w.ownsRow base T 11 v n (cs.flatMap C.cells)) (hin : ∀ c ∈ cs, c.In w) : ∃ a cap, v = .slice a n cap ∧ CLst w a n cap (getC cs) := by
  have hh := h
  rcases h.2 with ⟨rfl, h0⟩ | ⟨g, cap, cur, rfl, _, _, h1, h2, _⟩
  · exact ⟨none, 0, by rw [h0], ⟨by omega, by decide⟩, fun i hi => absurd hi (by omega)⟩
  · exact ⟨some ⟨g, 0, none⟩, cap, rfl, clst_row hn (row_mem hh) hin h1 h2⟩
def turnL (K : Nat → C) (n k : Nat) : List C := (List.range k).map (fun i => K (n - 1 - i))
theorem turnL_len (K : Nat → C) (n k : Nat) : (turnL K n k).length = k := by simp [turnL]
theorem turnL_succ (K : Nat → C) (n k : Nat) : turnL K n (k + 1) = turnL K n k ++ [K (n - 1 - k)] := by unfold turnL; rw [List.range_succ, List.map_append]; rfl
theorem turnL_get (K : Nat → C) (n k i : Nat) (hi : i < k) : getC (turnL K n k) i = turnK K n i := by
  rw [getC_at (by rw [turnL_len]; exact hi)]
  simp [turnL, turnK]
theorem turnL_in {w : World} {la : Option Addr} {ll lc : Nat} {K : Nat → C} (h : CLst w la ll lc K) {k : Nat} (hk : k ≤ ll) : ∀ c ∈ turnL K ll k, c.In w := fun c hc => by
  obtain ⟨i, hi, rfl⟩ := List.mem_map.1 hc
  rw [List.mem_range] at hi
  exact (h.els _ (by omega)).2
theorem info_child : (Try.prog.info? 35).map (fun i => (i.zero, i.size, i.bytes)) = some (some (zc ⟨#[]⟩ 0).agg, 11, 152) := by kernel_rfl

/-- One child more behind the row. -/
theorem push_child {w : World} {base n T : Nat} {v : Value} {cs : List C} {c : C} (h : w.ownsRow base T 11 v n (cs.flatMap C.cells ++ c.cells)) : w.ownsRow base T 11 v n ((cs ++ [c]).flatMap C.cells) := by
  rw [List.flatMap_append]
  simpa using h

set_option maxRecDepth 100000 in
set_option maxHeartbeats 4000000 in
theorem mp_any (la : Option Addr) (ll lc : Nat) (K : Nat → C) (na : Option Addr) (nl nc : Nat) (N : Nat → C) (w : World) (hK : CLst w la ll lc K) (hN : CLst w na nl nc N) :
    Calls Try.prog 4 #[.slice la ll lc, .slice na nl nc] w fun x w' => x = .returned (.bool true) ∧ Below w.heap.size w w' := by
  have HAL := Lib.hid (fun W => alive8_any W)
  have HBY := Lib.hid (fun W (hb : Below w.heap.size w W) => beyond8_any la ll lc K na nl nc N W (hK.below hb) (hN.below hb))
  have HU1 := Lib.hid (fun W (hb : Below w.heap.size w W) => unlike_any la ll lc K W (hK.below hb))
  have HU2 := Lib.hid (fun W (hb : Below w.heap.size w W) => unlike_any na nl nc N W (hN.below hb))
  have HM := Lib.hid (fun W (hb : Below w.heap.size w W) hn => match_any la ll lc K na nl nc N W (hK.below hb) (hN.below hb) hn)
  have HM2 := Lib.hid (fun W (hb : Below w.heap.size w W) hn => match_any na nl nc N la ll lc K W (hN.below hb) (hK.below hb) hn)
  have HM3 := Lib.hid (fun W a cap (hc : CLst W a ll cap (turnK K ll)) (hb : Below w.heap.size w W) hn => match_any a ll cap (turnK K ll) na nl nc N W hc (hN.below hb) hn)
  have HK := Lib.hid (fun W (hb : Below w.heap.size w W) => hK.below hb)
  have hcap1 := hK.cap
  have hcap2 := hN.cap
  unfold maxLen at hcap1 hcap2
  have hll9 : (ll : Int) ≤ 9223372036854775807 := by omega
  have hnl9 : (nl : Int) ≤ 9223372036854775807 := by omega
  clear hK hN hcap1 hcap2
  obtain ⟨i0, hi, hz0, hz1, hz2⟩ := info_parts info_child
  go_enter Try.func4, Try.ntmps4
  go_wp2_with (first
    | (go_at_call 5; (with_reducible refine (HAL.out w).mono ?_); rintro x w1 ⟨rfl, hb1⟩; have HB1 := Lib.hid hb1; clear hb1)
    | (go_at_call 6; (with_reducible refine (HBY.out _ HB1.out).mono ?_); rintro x w2 ⟨q2, rfl, hq, hb2⟩; have HQ := Lib.hid hq; have HB2 : Hid (Below w.heap.size w w2) := HB1.out.trans (hb2.mono HB1.out.size); clear hb2 hq; cases q2)
    | (go_at_call 9; (with_reducible refine (HU1.out _ HB2.out).mono ?_); rintro x w3 ⟨q3, rfl, hq, hb3⟩; have HQ1 := Lib.hid hq; have HB3 : Hid (Below w.heap.size w w3) := HB2.out.trans (hb3.mono HB2.out.size); clear hb3 hq; cases q3)
    | (go_at_call 9; (with_reducible refine (HU2.out _ HB3.out).mono ?_); rintro x w4 ⟨q4, rfl, hq, hb4⟩; have HQ2 := Lib.hid hq; have HB4 : Hid (Below w.heap.size w w4) := HB3.out.trans (hb4.mono HB3.out.size); clear hb4 hq; cases q4)
    | (go_at_call 5; (with_reducible refine (HAL.out _).mono ?_); rintro x w5 ⟨rfl, hb5⟩; have HB5 := Lib.hid hb5; clear hb5)
    | (go_at_call 7; (with_reducible refine (HM.out _ HB4.out (by have := (HQ.out (by trivial)).2; omega)).mono ?_); rintro x w6 ⟨gl, rfl, hown, hlow⟩; have HO6 := Lib.hid hown.il; have HB6 : Hid (Below w.heap.size w w6) := HB4.out.trans (hlow.mono HB4.out.size); clear hown hlow)
    | (go_at_call 7; (with_reducible refine (HM2.out _ HB6.out (by have := (HQ.out (by trivial)).1; omega)).mono ?_); rintro x w7 ⟨gb, rfl, hown, hlow⟩; have HO7 := Lib.hid hown.il; have HO6b := Lib.hid (HO6.out.below hlow); have HB7 : Hid (Below w.heap.size w w7) := HB6.out.trans (hlow.mono HB6.out.size); clear hown hlow))
  all_goals first
    | (go_ret; exact ⟨rfl, HB2.out.trans (HB5.out.mono HB2.out.size)⟩)
    | (go_ret; exact ⟨rfl, HB3.out.trans (HB5.out.mono HB3.out.size)⟩)
    | (go_ret; exact ⟨rfl, HB4.out.trans (HB5.out.mono HB4.out.size)⟩)
    | skip
  have HBN := Lib.hid (HQ.out (by trivial))
  have HUK := Lib.hid (HQ1.out (by trivial))
  have HUN := Lib.hid (HQ2.out (by trivial))
  have hl1 : (ll : Int) ≤ 500 := by have := HBN.out; omega
  have hl2 : (nl : Int) ≤ 500 := by have := HBN.out; omega
  clear HQ HQ1 HQ2 HAL HBY HU1 HU2 HM HM2 HB1 HB2 HB3 HB4 HB6 HO6 hll9 hnl9
  go_loopw [7, 8] (fun t i wr => ∃ (x : Int) (k : Nat), i = .int .i64 x ∧ x = (ll : Int) - 1 - k ∧ k ≤ ll ∧ wr.ownsRow w7.heap.size 35 11 t k ((turnL K ll k).flatMap C.cells) ∧ Below w7.heap.size w7 wr) (fun _ i _ => (intOf i + 1).toNat)
  case atStart => exact ⟨_, 0, rfl, by omega, Nat.zero_le _, World.ownsRow_nil _ _ _ _, Below.refl _ _⟩
  case round =>
    obtain ⟨x, k, rfl, hx, hk, hown, hb⟩ := hrel
    have HB := Lib.hid hb
    clear hb
    by_cases hlt : k < ll
    · obtain ⟨q, rfl⟩ : ∃ q : Nat, x = (q : Int) := ⟨ll - 1 - k, by omega⟩
      have hq0 : (0 : Int) ≤ (q : Int) := by omega
      have hq1 : (q : Int) < (ll : Int) := by omega
      have hql : q < ll := by omega
      have hqk : ll - 1 - k = q := by omega
      have HX := Lib.hid hx
      have hw : Below w.heap.size w wr := HB7.out.trans (HB.out.mono HB7.out.size)
      obtain ⟨⟨b1, o1, rfl, hat⟩, hin⟩ := (HK.out _ hw).els q hql
      have HCS : Hid (∀ (v' : Value) (W' : World), W'.ownsRow w7.heap.size 35 11 v' (k + 1) ((turnL K ll k).flatMap C.cells ++ (K q).cells) → W'.ownsRow w7.heap.size 35 11 v' (k + 1) ((turnL K ll (k + 1)).flatMap C.cells)) := Lib.hid (fun v' W' h => by rw [turnL_succ, hqk]; exact push_child h)
      generalize K q = c1 at hat hin HCS
      have hv1 : c1.val.In wr := hin.2.2.2
      have HONE := Lib.hid (one_cells hv1)
      obtain ⟨ck1, ce1, cn1, v1⟩ := c1
      cases v1 with
      | leaf => exact (hv1).elim
      | mk k1 n1 s1 la1 ll1 lc1 L1 fa1 fl1 fc1 fn1 F1 e1 key1 hk1 =>
      obtain ⟨d0, d1, d2, d3, d4, d5, d6, d7, d8, d9, d10⟩ := mt11 hat
      clear hat hin hv1 hw hx hqk
      simp only [C.cells, V.cells] at HCS HONE
      go_wp2_with ((at_builtin; refine wpList_append_own _ rfl _ _ 22 rfl w7.heap.size 35 i0 _ 11 152 Try.underlying22 hi hz0 hz1 hz2 rfl (by decide) _ _ _ rfl (hown.alloc _) ⟨wr.heap.size, 0, none⟩ 1 1 [.string ck1, .int .u8 ce1, .string cn1, .int .u8 k1, .int .i64 n1, .string s1, .slice la1 ll1 lc1, .slice fa1 fl1 fc1, .int .u8 e1, .string key1, .bool hk1] rfl rfl (fun j u hu => by have := at_laid wr [.string ck1, .int .u8 ce1, .string cn1, .int .u8 k1, .int .i64 n1, .string s1, .slice la1 ll1 lc1, .slice fa1 fl1 fc1, .int .u8 e1, .string key1, .bool hk1] 35 j (List.getElem?_eq_some_iff.1 hu).1; rw [← hu, ← this, add_plain]) HONE.out (by unfold maxLen; omega) (by omega) (by have := HB.out.size; simp; omega) ?_; intro v' w8 hown' hgrow _))
      have HO8 := Lib.hid (HCS.out _ _ hown')
      have HB8 : Hid (Below w7.heap.size w7 w8) := Lib.hid ((HB.out.trans ((below_alloc wr _).mono HB.out.size)).grown hgrow (by have := HB.out.size; simp; omega) (fun g e => (hown.lt g e).1))
      clear hown' hgrow d0 d1 d2 d3 d4 d5 d6 d7 d8 d9 d10
      go_roundw
      case rel => exact ⟨_, k + 1, rfl, by have := HX.out; omega, by omega, HO8.out, HB8.out⟩
      case measure => simp [intOf] <;> omega
    · obtain rfl : k = ll := by omega
      obtain rfl : x = -1 := by omega
      have hw : Below w.heap.size w wr := HB7.out.trans (HB.out.mono HB7.out.size)
      obtain ⟨a, cap, rfl, hcl⟩ := row_clst (turnL_len K k k) hown (turnL_in (HK.out _ hw) (Nat.le_refl _))
      have HC := Lib.hid (hcl.congr (fun i hi => turnL_get K k k i hi))
      have HW := Lib.hid hw
      have HO7b := Lib.hid (HO7.out.below HB.out)
      have HO6c := Lib.hid (HO6b.out.below HB.out)
      clear hcl hown hw hx HO7 HO6b HK
      go_wp2_with (first
        | (go_at_call 7; (with_reducible refine (HM3.out _ _ _ HC.out HW.out (by omega)).mono ?_); rintro x w8 ⟨gm, rfl, hown, hlow⟩; have HO8 := Lib.hid hown.il; have HL8 := Lib.hid hlow; clear hown hlow))
      have HA := Lib.hid (HO6c.out.below HL8.out)
      have HD := Lib.hid (HO7b.out.below HL8.out)
      have H8 := Lib.hid (HW.out.trans (HL8.out.mono HW.out.size))
      have HCNT := Lib.hid (cnt_eq HUK.out HUN.out)
      clear HO6c HO7b HW HL8 HC HB HB7 HM3 hi hz0 hz1 hz2
      generalize k = kk at HA HD HO8 HCNT hl1 HUK ⊢
      go_loopw [10, 11] (fun pr i wr => ∃ (x : Int) (j : Nat), j ≤ nl ∧ i = .int .i64 j ∧ pr = .int .i64 x ∧ x = cntM (matM K N kk) j ∧ Below w8.heap.size w8 wr) (fun _ i _ => nl - (intOf i).toNat)
      case atStart => exact ⟨0, 0, Nat.zero_le _, rfl, rfl, rfl, Below.refl _ _⟩
      case round =>
        rename_i wr0
        obtain ⟨x, j, hj, rfl, rfl, hx, hb⟩ := hrel
        have HB := Lib.hid hb
        have hx0 : 0 ≤ x := by omega
        have hx1 : x ≤ 500 := by have := cntM_le (matM K N kk) j; omega
        have HX := Lib.hid hx
        clear hb hx
        by_cases hlt : j < nl
        · have hj0 : (0 : Int) ≤ (j : Int) := by omega
          have hj1 : (j : Int) < (nl : Int) := by omega
          obtain ⟨bq, oq, e, hc⟩ := (HA.out.below HB.out) j hlt
          simp only [Option.some.injEq, Addr.mk.injEq, and_true] at e
          obtain ⟨rfl, rfl⟩ := e
          obtain ⟨bq, oq, e, hd⟩ := (HO8.out.below HB.out) j hlt
          simp only [Option.some.injEq, Addr.mk.injEq, and_true] at e
          obtain ⟨rfl, rfl⟩ := e
          rw [Nat.zero_add] at hc hd
          rcases matM_cases K N kk j with hm | ⟨p, hm, hpl, hkl, hal, -, -⟩
          · have hm2 := matM_neg.1 ((matM_turn_neg HUK.out HUN.out hlt).2 (by rw [hm]; decide))
            have HX1 : Hid (x = cntM (matM K N kk) (j + 1)) := Lib.hid (by rw [cntM_succ_no (by rw [hm]; decide)]; exact HX.out)
            rw [hm] at hc
            rw [hm2] at hd
            clear hm hm2
            go_upto_region 17 with fail
            go_quiet (fail)
            have HL2 := Lib.hid (HB.out.trans ((below_drawM _ nq).mono HB.out.size))
            go_wp2_with fail
            go_roundw
            case rel => exact ⟨x, j + 1, by omega, by go_num, rfl, HX1.out, HL2.out⟩
            case measure => simp [intOf]; omega
          · have hm2 := matM_turn HUK.out HUN.out hlt hm
            have hm3 := matM_back HUK.out HUN.out hlt hm
            obtain ⟨bq, oq, e, hd2⟩ := (HD.out.below HB.out) p hpl
            simp only [Option.some.injEq, Addr.mk.injEq, and_true] at e
            obtain ⟨rfl, rfl⟩ := e
            rw [Nat.zero_add] at hd2
            have HX1 : Hid (x + 1 = cntM (matM K N kk) (j + 1)) := Lib.hid (by rw [cntM_succ_yes (by rw [hm]; omega)]; have := HX.out; omega)
            rw [hm] at hc
            rw [hm2] at hd
            rw [hm3] at hd2
            have hp0 : (0 : Int) ≤ (p : Int) := by omega
            have hp1 : (p : Int) < (kk : Int) := by omega
            have hp2 : ¬ ((p : Int) < 0) := by omega
            have hqd : ((kk - 1 - p : Nat) : Int) = (kk : Int) - 1 - (p : Int) := by omega
            generalize (kk - 1 - p : Nat) = q at hd hqd
            have hq0 : (0 : Int) ≤ (q : Int) := by omega
            have hq1 : (q : Int) < (kk : Int) := by omega
            have hq2 : ¬ ((q : Int) < 0) := by omega
            have hd1 : decide ((p : Int) < 0) = false := decide_eq_false hp2
            have hd3 : decide ((q : Int) < 0) = false := decide_eq_false hq2
            have hw1 : IntKind.i64.wrap ((kk : Int) - 1) = (kk : Int) - 1 := IntWalk.i64_in _ (by omega)
            have hw2 : IntKind.i64.wrap ((kk : Int) - 1 - (p : Int)) = (q : Int) := by rw [hqd]; exact IntWalk.i64_in _ (by omega)
            have hjj : ((j : Int) != (j : Int)) = false := by simp
            have hqq : ((q : Int) != (q : Int)) = false := by simp
            have HQD := Lib.hid hqd
            clear hm hm2 hm3 hpl hkl hal hqd
            go_upto_region 17 with fail
            go_quiet (fail)
            have HL2 := Lib.hid (HB.out.trans ((below_drawM _ nq).mono HB.out.size))
            go_upto_region 21 with fail
            go_quiet (fail)
            have HL3 : Hid (∀ m, Below w8.heap.size w8 (wr.drewN m)) := Lib.hid (fun m => HB.out.trans ((below_drawM _ m).mono HB.out.size))
            go_wp2_with fail
            go_roundw
            case rel => exact ⟨x + 1, j + 1, by omega, by go_num, rfl, HX1.out, HL3.out _⟩
            case measure => simp [intOf]; omega
        · obtain rfl : j = nl := by omega
          have HXN := Lib.hid HX.out
          clear HX
          go_wp2_with fail
          go_loopw [10, 12] (fun pr i wr => ∃ (y : Int) (t : Nat), t ≤ kk ∧ i = .int .i64 t ∧ pr = .int .i64 y ∧ y = x - cntM (matM N K j) t ∧ Below w8.heap.size w8 wr) (fun _ i _ => kk - (intOf i).toNat)
          case atStart => exact ⟨x, 0, Nat.zero_le _, rfl, rfl, by simp [cntM, sumN], HB.out⟩
          case round =>
            obtain ⟨y, t, ht, rfl, rfl, hy, hb⟩ := hrel
            have HB2 := Lib.hid hb
            have hy0 : -500 ≤ y := by have := cntM_le (matM N K j) t; omega
            have hy1 : y ≤ 500 := by omega
            have HY := Lib.hid hy
            clear hb hy
            by_cases htk : t < kk
            · have ht0 : (0 : Int) ≤ (t : Int) := by omega
              have ht1 : (t : Int) < (kk : Int) := by omega
              obtain ⟨bq, oq, e, hd⟩ := (HD.out.below HB2.out) t htk
              simp only [Option.some.injEq, Addr.mk.injEq, and_true] at e
              obtain ⟨rfl, rfl⟩ := e
              rw [Nat.zero_add] at hd
              rcases matM_cases N K j t with hm | ⟨p, hm, hpl, -, -, -, -⟩
              · have HY1 : Hid (y = x - cntM (matM N K j) (t + 1)) := Lib.hid (by rw [cntM_succ_no (by rw [hm]; decide)]; exact HY.out)
                rw [hm] at hd
                clear hm
                go_wp2_with fail
                go_roundw
                case rel => exact ⟨y, t + 1, by omega, by go_num, rfl, HY1.out, HB2.out⟩
                case measure => simp [intOf]; omega
              · have HY1 : Hid (y - 1 = x - cntM (matM N K j) (t + 1)) := Lib.hid (by rw [cntM_succ_yes (by rw [hm]; omega)]; have := HY.out; omega)
                rw [hm] at hd
                have hp0 : (0 : Int) ≤ (p : Int) := by omega
                clear hm hpl
                go_wp2_with fail
                go_roundw
                case rel => exact ⟨y - 1, t + 1, by omega, by go_num, rfl, HY1.out, HB2.out⟩
                case measure => simp [intOf]; omega
            · obtain rfl : t = kk := by omega
              obtain rfl : y = 0 := by have h1 := HY.out; have h2 := HXN.out; have h3 := HCNT.out; omega
              go_wp2_with fail
              go_ret
              exact ⟨rfl, H8.out.trans (HB2.out.mono H8.out.size)⟩
end Go.Proofs.Ytpmkkgndpfbkdaa
