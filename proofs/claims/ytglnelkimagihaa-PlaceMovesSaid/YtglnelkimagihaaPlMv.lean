/-
  Walks: PlaceMoves returns true: which new children are placed is told exactly as documented.
  Conditions: the places lie in memory.
-/
import Derived.Test.YtglnelkimagihaaPlN
import Derived.Test.YtglnelkimagihaaPlM
namespace Go.Proofs.Ytglnelkimagihaa
set_option linter.unusedVariables false
set_option linter.unusedSimpArgs false
open Go.RowKit Go.Deep Go.WideShapes
open Go.Maps hiding size

set_option maxRecDepth 100000 in
set_option maxHeartbeats 4000000 in
theorem pmoves_any (a : Option Addr) (L : List Int) (cap : Nat) (w : World) (hl : L.length ≤ cap ∧ cap ≤ maxLen) (h : RL w a L) :
    Calls Try.prog 3 #[.slice a L.length cap] w fun x w' => x = .returned (.bool true) ∧ Below w.heap.size w w' := by
  have HBY := Lib.hid (beyond_one L.length (Nat.le_trans hl.1 hl.2) w)
  have HTW := Lib.hid (fun W (hb : Below w.heap.size w W) hn => twinInts_any a L cap W (h.below hb) hn)
  have HMV := Lib.hid (fun W g w0 (ht : TwI w0 W g L) hn => moves_any (some ⟨g, 0, none⟩) L (L.length + 1) W ht.rl hn)
  have HRM := Lib.hid (fun W (hb : Below w.heap.size w W) hn => rmoves_any a L cap W (h.below hb) hn)
  have HLF := Lib.hid (fun W g w0 (hb : Below w.heap.size w W) (ht : TwI w0 W g L) hn => leftInts_any w0 g a L cap W (h.below hb) ht hn)
  have HB0 := Lib.hid (below_alloc w (.cells #[.int .i64 L.length] 3))
  unfold maxLen at hl
  clear h
  obtain ⟨n, hnE⟩ : ∃ n, L.length = n := ⟨_, rfl⟩
  rw [hnE] at HBY HTW HMV HRM HLF HB0 hl ⊢
  clear hnE
  have hn0 : (0 : Int) ≤ (n : Int) := by omega
  by_cases hbig : 1048576 < n
  · rw [decide_eq_true hbig] at HBY
    go_enter Try.func3, Try.ntmps3
    go_wp2_with (first
      | (go_at_call 8; (with_reducible refine HBY.out.mono ?_); rintro x w1 ⟨rfl, rfl⟩))
    go_ret
    exact ⟨rfl, HB0.out⟩
  · rw [decide_eq_false hbig] at HBY
    have hnb : n ≤ 1048576 := by omega
    go_enter Try.func3, Try.ntmps3
    go_wp2_with (first
      | (go_at_call 8; (with_reducible refine HBY.out.mono ?_); rintro x w1 ⟨rfl, rfl⟩)
      | (go_at_call 9; (with_reducible refine (HTW.out _ HB0.out hnb).mono ?_); rintro x w2 ⟨rfl, ht2⟩; rw [World.size_alloc] at ht2; have HT2 := Lib.hid ht2; have HB2 := Lib.hid (HB0.out.trans (ht2.low.mono HB0.out.size)); clear ht2)
      | (go_at_call 10; (with_reducible refine (HMV.out w2 _ _ HT2.out hnb).mono ?_); rintro x w3 ⟨ga, rfl, ho3, hb3⟩; have HT3 := Lib.hid (HT2.out.below hb3); have HO3 := Lib.hid ho3; have HB3 := Lib.hid (HB2.out.trans (hb3.mono HB2.out.size)); clear ho3 hb3)
      | (go_at_call 10; (with_reducible refine (HMV.out w3 _ _ HT3.out hnb).mono ?_); rintro x w4 ⟨gb, rfl, ho4, hb4⟩; have HT4 := Lib.hid (HT3.out.below hb4); have HO4 := Lib.hid (And.intro (HO3.out.below hb4) ho4); have HB4 := Lib.hid (HB3.out.trans (hb4.mono HB3.out.size)); clear ho4 hb4)
      | (go_at_call 11; (with_reducible refine (HRM.out w4 HB4.out hnb).mono ?_); rintro x w5 ⟨v5, rfl, ho5, hb5⟩; obtain ⟨wa, wc, rfl, -, -, -⟩ := bl_row ho5; have HT5 := Lib.hid (HT4.out.below hb5); have HO5 := Lib.hid (And.intro (HO4.out.1.below hb5) (And.intro (HO4.out.2.below hb5) ho5)); have HB5 := Lib.hid (HB4.out.trans (hb5.mono HB4.out.size)); clear ho5 hb5)
      | (go_at_call 12; (with_reducible refine (HLF.out w5 _ _ HB5.out HT5.out hnb).mono ?_); rintro x w6 ⟨rfl, hb6⟩; have HO6 := Lib.hid (And.intro (HO5.out.1.below hb6) (And.intro (HO5.out.2.1.below hb6) (own_below HO5.out.2.2 hb6))); have HB6 := Lib.hid (HB5.out.trans (hb6.mono HB5.out.size)); clear hb6))
    have hga := HO3.out.lt
    have hgb := HO4.out.2.lt
    have hs2 := HB2.out.size
    have HNE : Hid (ga ≠ gb ∧ (Value.slice wa n wc).ownBlock ≠ some ga) := Lib.hid ⟨by omega, fun e => by have := (World.ownsRow.lt HO5.out.2.2 ga e).1; have := HO4.out.1.lt; omega⟩
    have HGA := Lib.hid (show w.heap.size ≤ ga by omega)
    clear hga hgb hs2 HBY HTW HMV HRM HLF HO3 HO4 HO5 HT2 HT3 HT4 HT5 HB2 HB3 HB4 HB5
    have HQ : Hid (∀ W, w6.grownBy W (some ga) → ∀ j, j < n → W.cell? ⟨gb, j, none⟩ = some (.bool (Pl.plc L j)) ∧ ∃ b o, wa = some ⟨b, o, none⟩ ∧ W.cell? ⟨b, o + j, none⟩ = some (.bool (Pl.plc L j))) := Lib.hid (fun W hg j hj => by
      have h1 := (HO6.out.2.1.kept hg (fun e => HNE.out.1 (Option.some.inj e).symm)).cell hj
      have h2 := World.ownsRow.kept HO6.out.2.2 hg (.inr HNE.out.2)
      obtain ⟨a', c', e, -, -, h3⟩ := bl_row h2
      cases e
      exact ⟨h1, h3 j hj⟩)
    go_loopw [7] (fun i wr => ∃ j : Nat, j ≤ n ∧ i = .int .i64 j ∧ OwnV wr w2.heap.size ga n 4 (fun i => .bool (if i < j then !(Pl.plc L i) else Pl.plc L i)) ∧ w6.grownBy wr (some ga)) (fun i _ => n - (intOf i).toNat)
    case atStart => exact ⟨0, Nat.zero_le _, rfl, by have := HO6.out.1; simpa using this, grownBy_of_below (Below.refl _ _) _⟩
    case round =>
      obtain ⟨j, hj, rfl, ho, hg⟩ := hrel
      have HO := Lib.hid ho
      have HG := Lib.hid hg
      clear hg
      by_cases hlt : j < n
      · have hj0 : (0 : Int) ≤ (j : Int) := by omega
        have hj1 : (j : Int) < (n : Int) := by omega
        have c1 := ho.cell hlt
        rw [if_neg (Nat.lt_irrefl j)] at c1
        have hfz := ho.frozen j
        have HQj := Lib.hid (fun W hg => HQ.out W hg j hlt)
        obtain ⟨c2, b, o, rfl, c3⟩ := HQ.out _ HG.out j hlt
        have HC : Hid (∀ W, w6.grownBy W (some ga) → W.cell? ⟨gb, j, none⟩ = some (.bool (Pl.plc L j)) ∧ W.cell? ⟨b, o + j, none⟩ = some (.bool (Pl.plc L j))) := Lib.hid (fun W hg => by
          obtain ⟨q1, b2, o2, e2, q2⟩ := HQj.out W hg
          cases e2
          exact ⟨q1, q2⟩)
        have HST := Lib.hid (fun W (hb : Below wr.heap.size wr W) => (ho.below hb).set (h' := fun i => .bool (if i < j + 1 then !(Pl.plc L i) else Pl.plc L i)) j (.bool (!(Pl.plc L j))) (fun i _ => by
          by_cases e : i = j
          · subst e; rw [if_pos (Nat.lt_succ_self _), if_pos rfl]
          · rw [if_neg e]
            by_cases q : i < j
            · rw [if_pos q, if_pos (by omega)]
            · rw [if_neg q, if_neg (by omega)]))
        clear ho HQj
        obtain ⟨q, hq⟩ : ∃ q, Pl.plc L j = q := ⟨_, rfl⟩
        rw [hq] at c1 c2 c3 HC HST
        clear hq
        have hqq : (q != q) = false := by simp
        go_wp2_with fail
        go_quiet (fail)
        have HBN := Lib.hid (below_drawM wr nq)
        have HSN := Lib.hid (HST.out _ HBN.out)
        have HGN := Lib.hid (grownBy_trans (grownBy_trans HG.out (grownBy_of_below HBN.out _)) HSN.out.2)
        have hc4 := (HC.out _ HGN.out)
        obtain ⟨c4, c5⟩ := hc4
        go_wp2_with fail
        go_quiet (fail)
        go_wp2_with fail
        go_roundw
        case rel => exact ⟨j + 1, by omega, by go_num, HSN.out.1.below (below_drawM _ nq), grownBy_trans HGN.out (grownBy_of_below (below_drawM _ nq) _)⟩
        case measure => simp [intOf]; omega
      · obtain rfl : j = n := by omega
        clear ho
        go_wp2_with fail
        go_ret
        exact ⟨rfl, HB6.out.grown HG.out HB6.out.size (fun k e => by cases e; exact HGA.out)⟩
end Go.Proofs.Ytglnelkimagihaa
