/-
  Walks: the document's answer for layer 3: Words.
  Conditions: texts no longer than the reach.
-/
import Derived.Test.YtpnbnomaaeoemaaGreatDoorLexRW
namespace Go.Proofs.YtpnbnomaaeoemaaGreatDoor
open Go.RowKit

/-- What the document's Words leaves. -/
def PostRWords (r : LX.Res) (w : World) (e : Ending) (w' : World) : Prop :=
  (match r with
  | .err n => e = .returned (.tuple #[.slice none 0 0, .int .i64 n, .int .i64 4])
  | .ok ws => ∃ v, e = .returned (.tuple #[v, .int .i64 0, .int .i64 0]) ∧ w'.ownsRow w.heap.size 84 4 v ws.length (flatW ws)) ∧ Below w.heap.size w w'
/-- The state at the loop's head. -/
def RHead (L : List UInt8) (w0 : World) (v : Value) (ln k : Nat) (wr : World) : Prop :=
  ∃ ws : List LX.LW, wr.ownsRow w0.heap.size 84 4 v ws.length (flatW ws) ∧ LX.lex 0 L = (LX.lex ln (L.drop k)).app ws ∧ Below w0.heap.size w0 wr ∧ ws.length ≤ k ∧ ln ≤ k

set_option maxRecDepth 100000 in
set_option maxHeartbeats 8000000 in
theorem rwords_big (s : ByteArray) (w : World) (hs : 65536 < s.size) (hr : s.size ≤ 140737488355328) :
    Calls Tryz.prog 16 #[.string s] w fun e w' => e = .returned (.tuple #[.slice none 0 0, .int .i64 0, .int .i64 3]) ∧ w = w' := by
  have g : (65536 : Int) < (s.size : Int) := by omega
  have g2 : (s.size : Int) ≤ 140737488355328 := by omega
  go_enter Tryz.func16, Tryz.ntmps16
  go_wp2
  go_ret3
  exact ⟨rfl, rfl⟩

theorem dropWhile_ne (c : UInt8) (t : List UInt8) (h : ¬ c.toNat = 10) : (c :: t).dropWhile (fun b => b.toNat != 10) = t.dropWhile (fun b => b.toNat != 10) := by
  rw [List.dropWhile_cons, if_pos (by simpa using h)]
theorem dropWhile_eq (c : UInt8) (t : List UInt8) (h : c.toNat = 10) : (c :: t).dropWhile (fun b => b.toNat != 10) = c :: t := by
  rw [List.dropWhile_cons, if_neg (by simp [h])]

set_option maxRecDepth 100000 in
set_option maxHeartbeats 16000000 in
theorem rwords_any (s : ByteArray) (w : World) (hs : s.size ≤ 65536) :
    Calls Tryz.prog 16 #[.string s] w (PostRWords (LX.lex 0 s.data.toList) w) := by
  have hlen : s.data.toList.length = s.size := by simp
  have HDC := Lib.hid (fun k h => drop_cons s k h)
  have HEnd : Hid (s.data.toList.drop s.size = []) := List.drop_of_length_le (by omega)
  have HW := Lib.hid (fun k (h : k < s.size) W => rword_any s k W hs h)
  have HWL : Hid (∀ k (h : k < s.size) x m, LX.word (s.data.toList.drop k) = some (x, m) → 1 ≤ m ∧ k + m ≤ s.size) := by
    intro k h x m hw
    refine ⟨LX.word_pos hw, ?_⟩
    rw [drop_cons s k h] at hw
    have := ((LX.word_nl _ _ []).2 x m hw).1
    rw [← drop_cons s k h, List.length_drop, hlen] at this
    omega
  obtain ⟨l, hl⟩ : ∃ l, s.data.toList = l := ⟨_, rfl⟩
  rw [hl] at HDC HEnd HW HWL ⊢
  have g : ¬ (65536 : Int) < (s.size : Int) := by omega
  have g2 : (s.size : Int) ≤ 65536 := by omega
  have HPE : Hid (∀ n w', LX.lex 0 l = .err n → Below w.heap.size w w' → PostRWords (LX.lex 0 l) w (.returned (.tuple #[.slice none 0 0, .int .i64 (n : Nat), .int .i64 4])) w') := fun n w' h1 h2 => by rw [h1]; exact ⟨rfl, h2⟩
  have HPO : Hid (∀ ws v w', LX.lex 0 l = .ok ws → w'.ownsRow w.heap.size 84 4 v ws.length (flatW ws) → Below w.heap.size w w' → PostRWords (LX.lex 0 l) w (.returned (.tuple #[v, .int .i64 0, .int .i64 0])) w') := fun ws v w' h1 h2 h3 => by rw [h1]; exact ⟨⟨v, rfl, h2⟩, h3⟩
  have HH0 : Hid (RHead l w (.slice none 0 0) 0 0 w) := ⟨[], World.ownsRow_nil _ _ _ _, by simp only [List.drop_zero]; cases LX.lex 0 l <;> simp [LX.Res.app], Below.refl _ _, Nat.le_refl _, Nat.le_refl _⟩
  obtain ⟨post, hpost⟩ : ∃ p, PostRWords (LX.lex 0 l) w = p := ⟨_, rfl⟩
  rw [hpost] at HPE HPO ⊢
  obtain ⟨i0, hi, hz0, hz1, hz2⟩ := info_parts info_word
  clear hpost hlen hl hs
  go_enter Tryz.func16, Tryz.ntmps16
  go_wp2
  go_loopw [5, 6, 7] (fun u lnv i wr => ∃ (v : Value) (ln k : Nat), v = u ∧ lnv = .int .i64 ln ∧ i = .int .i64 k ∧ k ≤ s.size ∧ RHead l w v ln k wr) (fun _ _ i _ => s.size - (intOf i).toNat)
  case atStart => exact ⟨_, 0, 0, rfl, rfl, rfl, Nat.zero_le _, HH0.out⟩
  case round =>
    obtain ⟨v, ln, k, rfl, rfl, rfl, hk, ws, hown, hlex, hb, hn1, hn2⟩ := hrel
    have HOwn := Lib.hid hown
    have HLex := Lib.hid hlex
    have HBel := Lib.hid hb
    clear hown hlex hb HH0
    have g3 : (0 : Int) ≤ (ln : Int) := by omega
    have g4 : (ln : Int) ≤ 65536 := by omega
    by_cases hlt : k < s.size
    · have HDc := Lib.hid (HDC.out k hlt)
      obtain ⟨c, hc⟩ : ∃ c, s[k]'hlt = c := ⟨_, rfl⟩
      rw [hc] at HDc
      by_cases h10 : c.toNat = 10
      · have t1 : (((s[k]'hlt).toNat : Int) == 10) = true := by rw [hc, beq_iff_eq]; omega
        have hh : RHead l w v (ln + 1) (k + 1) wr := ⟨ws, HOwn.out, by rw [HLex.out, HDc.out, LX.lex_nl _ _ _ h10], HBel.out, by omega, by omega⟩
        have HH := Lib.hid hh
        clear hh h10 hc
        go_wp2
        go_roundw
        case rel => exact ⟨v, ln + 1, k + 1, rfl, by go_num, by go_num, by omega, HH.out⟩
        case measure => simp [intOf]; omega
      have t1 : (((s[k]'hlt).toNat : Int) == 10) = false := by rw [hc, beq_eq_false_iff_ne]; omega
      by_cases h32 : c.toNat = 32
      · have t2 : (((s[k]'hlt).toNat : Int) == 32) = true := by rw [hc, beq_iff_eq]; omega
        have hh : RHead l w v ln (k + 1) wr := ⟨ws, HOwn.out, by rw [HLex.out, HDc.out, LX.lex_blank _ _ _ (.inl h32)], HBel.out, by omega, by omega⟩
        have HH := Lib.hid hh
        clear hh h10 h32 hc
        go_wp2
        go_roundw
        case rel => exact ⟨v, ln, k + 1, rfl, rfl, by go_num, by omega, HH.out⟩
        case measure => simp [intOf]; omega
      have t2 : (((s[k]'hlt).toNat : Int) == 32) = false := by rw [hc, beq_eq_false_iff_ne]; omega
      by_cases h9 : c.toNat = 9
      · have t3 : (((s[k]'hlt).toNat : Int) == 9) = true := by rw [hc, beq_iff_eq]; omega
        have hh : RHead l w v ln (k + 1) wr := ⟨ws, HOwn.out, by rw [HLex.out, HDc.out, LX.lex_blank _ _ _ (.inr h9)], HBel.out, by omega, by omega⟩
        have HH := Lib.hid hh
        clear hh h10 h32 h9 hc
        go_wp2
        go_roundw
        case rel => exact ⟨v, ln, k + 1, rfl, rfl, by go_num, by omega, HH.out⟩
        case measure => simp [intOf]; omega
      have t3 : (((s[k]'hlt).toNat : Int) == 9) = false := by rw [hc, beq_eq_false_iff_ne]; omega
      by_cases h59 : c.toNat = 59
      · have t4 : (((s[k]'hlt).toNat : Int) == 59) = true := by rw [hc, beq_iff_eq]; omega
        have hrm : LX.lex 0 l = (LX.lex ln ((l.drop k).dropWhile fun b => b.toNat != 10)).app ws := by rw [HLex.out, HDc.out, LX.lex_rem _ _ _ h59, dropWhile_ne _ _ h10]
        have HRm := Lib.hid hrm
        clear hrm h32 h9
        have HC10 : Hid (¬ (s[k]'hlt).toNat = 10) := by rw [hc]; exact h10
        clear h59 h10 hc
        go_wp2
        go_loop [7] (fun i => ∃ j : Nat, k ≤ j ∧ j ≤ s.size ∧ i = .int .i64 j ∧ (l.drop k).dropWhile (fun b => b.toNat != 10) = (l.drop j).dropWhile (fun b => b.toNat != 10)) (fun i => s.size - (intOf i).toNat)
        case atStart => exact ⟨k, Nat.le_refl _, hk, rfl, rfl⟩
        case round =>
          obtain ⟨j, hj1, hj2, rfl, hjd⟩ := hrel
          have HJ := Lib.hid hjd
          clear hjd
          by_cases hjl : j < s.size
          · have HDj := Lib.hid (HDC.out j hjl)
            by_cases hj10 : (s[j]'hjl).toNat = 10
            · have u1 : (((s[j]'hjl).toNat : Int) != 10) = false := by rw [bne_eq_false_iff_eq]; omega
              have hjk : k < j := by
                rcases Nat.lt_or_ge k j with h | h
                · exact h
                · exfalso
                  obtain rfl : k = j := by omega
                  exact HC10.out hj10
              have hh : RHead l w v ln j wr := ⟨ws, HOwn.out, by rw [HRm.out, HJ.out, HDj.out, dropWhile_eq _ _ hj10], HBel.out, by omega, by omega⟩
              have HH := Lib.hid hh
              clear hh hj10
              go_wp2
              go_roundw
              case rel => exact ⟨v, ln, j, rfl, rfl, rfl, by omega, HH.out⟩
              case measure => simp [intOf]; omega
            · have u1 : (((s[j]'hjl).toNat : Int) != 10) = true := by rw [bne_iff_ne]; omega
              have hh : (l.drop k).dropWhile (fun b => b.toNat != 10) = (l.drop (j + 1)).dropWhile (fun b => b.toNat != 10) := by rw [HJ.out, HDj.out, dropWhile_ne _ _ hj10]
              have HH := Lib.hid hh
              clear hh hj10
              go_wp2
              go_round
              case rel => exact ⟨j + 1, by omega, by omega, by go_num, HH.out⟩
              case measure => simp [intOf]; omega
          · obtain rfl : j = s.size := by omega
            have hh : RHead l w v ln s.size wr := ⟨ws, HOwn.out, by rw [HRm.out, HJ.out, HEnd.out]; rfl, HBel.out, by omega, by omega⟩
            have HH := Lib.hid hh
            clear hh
            go_wp2
            go_roundw
            case rel => exact ⟨v, ln, s.size, rfl, rfl, rfl, Nat.le_refl _, HH.out⟩
            case measure => simp [intOf]; omega
      · have t4 : (((s[k]'hlt).toNat : Int) == 59) = false := by rw [hc, beq_eq_false_iff_ne]; omega
        have hni : LX.nonIdle c := ⟨h10, by omega, h59⟩
        have hwd := HW.out k hlt wr
        clear h10 h32 h9 h59
        cases hw : LX.word (l.drop k) with
        | none =>
          rw [hw] at hwd
          have HWd : Hid (Calls Tryz.prog 83 #[.string s, .int .i64 k] wr fun e w' => (∃ kk ss nn n, e = .returned (.tuple #[.agg #[.int .u8 kk, .string ss, .int .i64 nn, .int .i64 0], .int .i64 n, .bool false])) ∧ Below wr.heap.size wr w') := hwd
          have hfin : LX.lex 0 l = .err ln := by
            rw [HLex.out]; rw [HDc.out] at hw ⊢; rw [LX.lex_err _ _ _ hni hw]; rfl
          have HF := Lib.hid (HPE.out ln · hfin)
          clear hwd hw hfin hni hc
          go_wp2_with fail
          refine HWd.out.mono ?_
          rintro e w1 ⟨⟨kk, ss, nn, n, rfl⟩, hb1⟩
          have hb2 : ∀ o, Below w.heap.size w (w1.alloc o) := fun o => (HBel.out.trans (hb1.mono HBel.out.size)).alloc (Nat.le_trans HBel.out.size hb1.size) o
          have HB2 := Lib.hid hb2
          clear hb1 hb2
          go_wp2
          go_ret3
          exact HF.out _ (HB2.out _)
        | some p =>
          obtain ⟨⟨kk, xl, n, line0⟩, m⟩ := p
          rw [hw] at hwd
          have HWd : Hid (Calls Tryz.prog 83 #[.string s, .int .i64 k] wr fun e w' => e = .returned (.tuple #[.agg #[.int .u8 kk, .string ⟨xl.toArray⟩, .int .i64 n, .int .i64 0], .int .i64 (k + m : Nat), .bool true]) ∧ Below wr.heap.size wr w') := hwd
          have hml := HWL.out k hlt _ m hw
          have hst : LX.lex 0 l = (LX.lex ln (l.drop (k + m))).app (ws ++ [{ (⟨kk, xl, n, line0⟩ : LX.LW) with line := ln }]) := by
            rw [HLex.out, ← app_cons, ← List.drop_drop]
            rw [HDc.out] at hw ⊢
            rw [LX.lex_word _ _ _ _ _ hni hw]
          have hcl : wCells { (⟨kk, xl, n, line0⟩ : LX.LW) with line := ln } = [.int .u8 kk, .string ⟨xl.toArray⟩, .int .i64 n, .int .i64 ln] := rfl
          have hsn := flatW_snoc ws { (⟨kk, xl, n, line0⟩ : LX.LW) with line := ln }
          rw [hcl] at hsn
          have HSt := Lib.hid hst
          have HSN := Lib.hid hsn
          obtain ⟨N, hN⟩ : ∃ N, ws.length = N := ⟨_, rfl⟩
          have HN := Lib.hid hN
          rw [hN] at hn1 HOwn
          generalize (⟨xl.toArray⟩ : ByteArray) = xs at HWd HSN
          obtain ⟨hm1, hm2⟩ := hml
          clear hwd hw hst hcl hsn hN hni hc
          go_wp2_with fail
          refine HWd.out.mono ?_
          rintro e w1 ⟨rfl, hb1⟩
          have HO1 := Lib.hid (ownsRow_keep HOwn.out (fun j _ k2 => hb1.block j k2))
          have HB1 := Lib.hid (HBel.out.trans (hb1.mono HBel.out.size))
          have HS1 := Lib.hid (Nat.le_trans HBel.out.size hb1.size)
          clear hb1
          go_wp2_with (at_builtin; refine wpList_append_own _ rfl _ _ 57 rfl w.heap.size 84 i0 (.agg #[.int .u8 0, .string ⟨#[]⟩, .int .i64 0, .int .i64 0]) 4 40 Tryz.underlying57 hi hz0 hz1 hz2 rfl (by decide) _ _ _ rfl ((HO1.out.alloc _).alloc _) ⟨w1.heap.size + 1, 0, none⟩ 1 1 [.int .u8 kk, .string xs, .int .i64 n, .int .i64 ln] rfl rfl ?c1 ?c2 ?c3 ?c4 ?c5 ?_)
          case c1 =>
            intro j u hj
            match j, hj with
            | 0, hj => simp at hj; subst hj; simp [Addr.add]
            | 1, hj => simp at hj; subst hj; simp [Addr.add]
            | 2, hj => simp at hj; subst hj; simp [Addr.add]
            | 3, hj => simp at hj; subst hj; simp [Addr.add]
          case c2 => intro u hu; simp at hu; rcases hu with rfl | rfl | rfl | rfl <;> rfl
          case c3 => unfold maxLen; omega
          case c4 => omega
          case c5 => have := HS1.out; simp; omega
          intro v' w4 hown' hgrow _
          have hb4 : Below w.heap.size w w4 := ((HB1.out.alloc HS1.out _).alloc (by have := HS1.out; simp; omega) _).grown hgrow (by have := HS1.out; simp; omega) (fun j hj => by have := (HO1.out.lt j hj).1; omega)
          have hh : RHead l w v' ln (k + m) w4 := by
            refine ⟨ws ++ [{ (⟨kk, xl, n, line0⟩ : LX.LW) with line := ln }], ?_, HSt.out, hb4, ?_, by omega⟩
            · rw [List.length_append, List.length_singleton, HN.out, HSN.out]; exact hown'
            · rw [List.length_append, List.length_singleton, HN.out]; omega
          have HH := Lib.hid hh
          clear hb4 hh hown' hgrow
          go_wp2
          go_roundw
          case rel => exact ⟨v', ln, k + m, rfl, rfl, by go_num, by omega, HH.out⟩
          case measure => simp [intOf]; omega
    · obtain rfl : k = s.size := by omega
      have hfin : LX.lex 0 l = .ok ws := by rw [HLex.out, HEnd.out, LX.lex_nil]; simp [LX.Res.app]
      have HF := Lib.hid (HPO.out ws v wr hfin HOwn.out HBel.out)
      clear hfin
      go_wp2
      go_ret3
      exact HF.out
end Go.Proofs.YtpnbnomaaeoemaaGreatDoor
