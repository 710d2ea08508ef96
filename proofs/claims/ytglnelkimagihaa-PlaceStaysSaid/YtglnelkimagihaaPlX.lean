/-
  Walks: PlaceMakes returns true: the told insertions, done one behind the other, make exactly the new row of the old one.
  Conditions: the bytes lie in memory.
-/
import Derived.Test.YtglnelkimagihaaPlW
namespace Go.Proofs.Ytglnelkimagihaa
set_option linter.unusedVariables false
set_option linter.unusedSimpArgs false
open Go.RowKit Go.Deep Go.WideShapes
open Go.Maps hiding size

set_option maxHeartbeats 1000000 in
theorem same_ints (a : Option Addr) (cap : Nat) (a' : Option Addr) (cap' : Nat) (L : List Int) (w : World) (h : RL w a L) (h' : RL w a' L) (hn : L.length ≤ 2000000) :
    Calls Try.prog 20 #[.slice a L.length cap, .slice a' L.length cap'] w fun x w' => x = .returned (.bool true) ∧ Below w.heap.size w w' := by
  have HL := Lib.hid (fun W (hb : Below w.heap.size w W) => And.intro (h.below hb) (h'.below hb))
  clear h h'
  unfold RL at HL
  obtain ⟨n, hnE⟩ : ∃ n, L.length = n := ⟨_, rfl⟩
  rw [hnE] at HL hn ⊢
  clear hnE
  go_enter Try.func20, Try.ntmps20
  go_wp2_with fail
  go_loopw [5] (fun i wr => ∃ j : Nat, j ≤ n ∧ i = .int .i64 j ∧ Below w.heap.size w wr) (fun i _ => n - (intOf i).toNat)
  case atStart => exact ⟨0, Nat.zero_le _, rfl, Below.refl _ _⟩
  case round =>
    obtain ⟨j, hj, rfl, hbw⟩ := hrel
    have HB := Lib.hid hbw
    clear hbw
    by_cases hlt : j < n
    · have hlt' : (j : Int) < (n : Int) := by omega
      have hj0 : (0 : Int) ≤ (j : Int) := by omega
      obtain ⟨b1, o1, rfl, m1⟩ := (HL.out _ HB.out).1 j hlt
      obtain ⟨b2, o2, rfl, m2⟩ := (HL.out _ HB.out).2 j hlt
      generalize Pl.nth L j = x at m1 m2
      have hne : (x != x) = false := by simp
      go_upto_region 6 with fail
      go_quiet (fail)
      have HL2 := Lib.hid (HB.out.trans ((below_drawM _ nq).mono HB.out.size))
      go_wp2_with fail
      refine ⟨⟨j + 1, hlt, by go_num, HL2.out⟩, by simp [intOf]; omega⟩
    · obtain rfl : j = n := by omega
      go_wp2_with fail
      go_ret
      exact ⟨rfl, HB.out⟩

/-- A row of steps, step by step. -/
theorem SR.at' {w : World} {base : Nat} {v : Value} {l : List (Int × Int)} (h : SR w base v l) : ∃ a cap, v = .slice a l.length cap ∧ ∀ j s, l[j]? = some s → ∃ g, a = some ⟨g, 0, none⟩ ∧ w.cell? ⟨g, j * 2, none⟩ = some (.int .i64 s.1) ∧ w.cell? ⟨g, j * 2 + 1, none⟩ = some (.int .i64 s.2) := by
  have hh := h
  rcases h.2 with ⟨rfl, h0⟩ | ⟨g, cap, cur, rfl, _⟩
  · refine ⟨none, 0, by rw [h0], fun j s hj => ?_⟩
    rw [List.length_eq_zero_iff.1 h0] at hj
    cases hj
  · refine ⟨some ⟨g, 0, none⟩, cap, rfl, fun j s hj => ⟨g, rfl, ?_⟩⟩
    have hl : j < l.length := (List.getElem?_eq_some_iff.1 hj).1
    have e : sth l j = s := by have := sth_get hl; rw [hj] at this; exact (Option.some.inj this).symm
    have := hh.cells hl
    rw [e] at this
    exact this
theorem SR.below {w w' : World} {base : Nat} {v : Value} {l : List (Int × Int)} (h : SR w base v l) (hb : Below w.heap.size w w') : SR w' base v l := own_below2 h hb
theorem get_lt {l : List (Int × Int)} {j : Nat} (h : j < l.length) : ∃ s, l[j]? = some s ∧ l.drop j = s :: l.drop (j + 1) := ⟨l[j], List.getElem?_eq_getElem h, List.drop_eq_getElem_cons h⟩

set_option maxRecDepth 100000 in
set_option maxHeartbeats 4000000 in
theorem pmakes_any (a : Option Addr) (n cap : Nat) (h : Nat → Int) (a' : Option Addr) (n' cap' : Nat) (h' : Nat → Int) (w : World) (hn : n ≤ cap ∧ cap ≤ maxLen) (hn' : n' ≤ cap' ∧ cap' ≤ maxLen) (hh : BLs w a n h) (hh' : BLs w a' n' h') (hv : ∀ j, 0 ≤ h j ∧ h j ≤ 255) (hv' : ∀ j, 0 ≤ h' j ∧ h' j ≤ 255) :
    Calls Try.prog 5 #[.slice a n cap, .slice a' n' cap'] w fun x w' => x = .returned (.bool true) ∧ Below w.heap.size w w' := by
  have HR1 := Lib.hid (rowu_any a n cap h w hn hh hv)
  have HR2 := Lib.hid (fun W (hb : Below w.heap.size w W) => rowu_any a' n' cap' h' W hn' (hh'.below hb) hv')
  have HAL := Lib.hid (fun W => alive9_any W)
  clear hn hn' hh hh' hv hv'
  go_enter Try.func5, Try.ntmps5
  go_wp2_with (first
    | (go_at_call 15; (with_reducible refine HR1.out.mono ?_); rintro x w1 ⟨v1, rfl, A, ho1, hg1, hb1⟩; obtain ⟨ra, rc, rfl, -, -, hl1⟩ := ho1.rl; have HL1 := Lib.hid hl1; have HG1 := Lib.hid hg1; have HB1 := Lib.hid hb1; clear ho1 hg1 hb1 hl1)
    | (go_at_call 15; (with_reducible refine (HR2.out w1 HB1.out).mono ?_); rintro x w2 ⟨v2, rfl, B, ho2, hg2, hb2⟩; obtain ⟨sa, sc, rfl, -, -, hl2⟩ := ho2.rl; have HL2 := Lib.hid (And.intro (HL1.out.below hb2) hl2); have HG2 := Lib.hid hg2; have HB2 := Lib.hid (HB1.out.trans (hb2.mono HB1.out.size)); clear ho2 hg2 hb2 hl2)
    | (go_at_call 16; (with_reducible refine (without_any ra A rc sa B sc w2 HL2.out.1 (by have := HG1.out.len; omega) HL2.out.2 (by have := HG2.out.len; omega)).mono ?_); rintro x w3 ⟨v3, rfl, ho3, hb3⟩; obtain ⟨ta, tc, rfl, -, -, hl3⟩ := ho3.rl; have HL3 := Lib.hid (And.intro (HL2.out.1.below hb3) (And.intro (HL2.out.2.below hb3) hl3)); have HB3 := Lib.hid (HB2.out.trans (hb3.mono HB2.out.size)); clear ho3 hb3 hl3)
    | (go_at_call 13; (with_reducible refine (steps_any ra A rc sa B sc w3 HL3.out.1 HG1.out.rb (by have := HG1.out.len; omega) HL3.out.2.1 HG2.out.rb (by have := HG2.out.len; omega)).mono ?_); rintro x w4 ⟨v4, rfl, ho4, hb4⟩; obtain ⟨ua, uc, e4, -⟩ := ho4.at'; subst e4; have HS4 := Lib.hid ho4; have HL4 := Lib.hid (And.intro (HL3.out.2.1.below hb4) (HL3.out.2.2.below hb4)); have HB4 := Lib.hid (HB3.out.trans (hb4.mono HB3.out.size)); clear ho4 hb4; have hsl := Pl.steps_len A B; have hsl2 := HG2.out.len; have hsl4 : decide (B.length < (Pl.steps A B).length) = false := decide_eq_false (Nat.not_lt.2 hsl))
    | (go_at_call 17; (with_reducible refine (HAL.out w4).mono ?_); rintro x w5 ⟨rfl, hb5⟩; have HS5 := Lib.hid (HS4.out.below hb5); have HL5 := Lib.hid (And.intro (HL4.out.1.below hb5) (HL4.out.2.below hb5)); have HB5 := Lib.hid (HB4.out.trans (hb5.mono HB4.out.size)); clear hb5))
  have HRUN := Lib.hid (Pl.makes HG1.out.nodup HG2.out.nodup HG2.out.no0)
  have HAP := Lib.hid (fun s (hs : s ∈ Pl.steps A B) => And.intro (Pl.steps_apart HG2.out.nodup HG2.out.no0 hs) (Pl.steps_nodes hs))
  have HFI : Hid (Pl.Fine (Pl.wo A B)) := Lib.hid ⟨Pl.wo_nodup HG1.out.nodup, fun hm => HG1.out.no0 (Pl.wo_mem.1 hm).1⟩
  have HWL : Hid ((Pl.wo A B).length ≤ 200) := Lib.hid (Nat.le_trans (Pl.wo_len A B) HG1.out.len)
  clear HR1 HR2 HAL HL1 HL2 HL3 HL4 HS4 HB1 HB2 HB3 HB4
  generalize Pl.steps A B = S at *
  generalize Pl.wo A B = l0 at *
  have hS0 : (0 : Int) ≤ (S.length : Int) := by omega
  clear hsl4
  go_loopw [7, 9] (fun o i wr => ∃ (j : Nat) (l : List Int) (ga : Option Addr) (gc : Nat), j ≤ S.length ∧ i = .int .i64 j ∧ o = .slice ga l.length gc ∧ Pl.run (S.drop j) l = some B ∧ Pl.Fine l ∧ l.length ≤ 200 + j ∧ RL wr ga l ∧ Below w5.heap.size w5 wr) (fun _ i _ => S.length - (intOf i).toNat)
  case atStart => exact ⟨0, l0, ta, tc, Nat.zero_le _, rfl, rfl, HRUN.out, HFI.out, HWL.out, HL5.out.2, Below.refl _ _⟩
  case round =>
    obtain ⟨j, l, ga, gc, hj, rfl, rfl, hrun, hfine, hlen, hrl, hb⟩ := hrel
    have HF := Lib.hid hfine
    have HB := Lib.hid hb
    have HRL := Lib.hid hrl
    clear hfine hb hrl HFI HWL
    by_cases hlt : j < S.length
    · have hj0 : (0 : Int) ≤ (j : Int) := by omega
      have hj1 : (j : Int) < (S.length : Int) := by omega
      obtain ⟨s, hs, hd⟩ := get_lt hlt
      rw [hd] at hrun
      obtain ⟨hok, hrun2⟩ := Pl.run_cons hrun
      obtain ⟨⟨hne, hn0⟩, hmem⟩ := HAP.out s (List.mem_of_getElem? hs)
      have HFJ := Lib.hid (Pl.step_fine HF.out hne hn0)
      have HLJ := Lib.hid (Pl.step_len HF.out s)
      have HRJ := Lib.hid hrun2
      have HST := Lib.hid (lstep_any ga l gc s.1 s.2 wr HRL.out (by omega))
      rw [decide_eq_true hok] at HST
      obtain ⟨uo, uc', eu, hat⟩ := HS5.out.at'
      obtain ⟨rfl, -⟩ : uo = ua ∧ uc' = uc := by cases eu; exact ⟨rfl, rfl⟩
      have HCC : Hid (∃ g, uo = some ⟨g, 0, none⟩ ∧ ∀ W, Below w5.heap.size w5 W → W.cell? ⟨g, j * 2, none⟩ = some (.int .i64 s.1) ∧ W.cell? ⟨g, j * 2 + 1, none⟩ = some (.int .i64 s.2)) := by
        obtain ⟨g, e, q1, q2⟩ := hat j s hs
        exact ⟨g, e, fun W hb => ⟨by rw [hb.cell (p := ⟨g, j * 2, none⟩) (World.block_lt_of_cell? _ _ q1)]; exact q1, by rw [hb.cell (p := ⟨g, j * 2 + 1, none⟩) (World.block_lt_of_cell? _ _ q2)]; exact q2⟩⟩
      obtain ⟨g, rfl, hcc⟩ := HCC.out
      have HC := Lib.hid hcc
      obtain ⟨z1, z2⟩ := hcc _ HB.out
      have HH := Lib.hid (fun W (hb : Below w5.heap.size w5 W) => has_any sa B sc s.1 W (HL5.out.1.below hb) (by omega))
      rw [decide_eq_true hmem] at HH
      clear hcc hat eu hrun hrun2 hok hne hn0 hmem hs hd HCC
      obtain ⟨s1, hs1⟩ : ∃ x, s.1 = x := ⟨_, rfl⟩
      obtain ⟨s2, hs2⟩ : ∃ x, s.2 = x := ⟨_, rfl⟩
      have hss : s = (s1, s2) := by rw [← hs1, ← hs2]
      rw [hs1, hs2] at HST
      rw [hs1] at HH z1
      rw [hs2] at z2
      rw [hs1, hs2] at HC
      clear hs1 hs2
      subst hss
      go_wp2_with (first
        | (go_at_call 18; (with_reducible refine HST.out.mono ?_); rintro x w6 ⟨v6, rfl, ho6, hb6⟩; obtain ⟨pa, pc, rfl, -, -, hl6⟩ := ho6.rl; have HL6 := Lib.hid hl6; have HB6 := Lib.hid (HB.out.trans (hb6.mono HB.out.size)); obtain ⟨z1, z2⟩ := HC.out _ HB6.out; clear ho6 hb6 hl6)
        | (go_at_call 19; (with_reducible refine (HH.out _ HB6.out).mono ?_); rintro x w7 ⟨rfl, rfl⟩))
      go_roundw
      case rel => exact ⟨j + 1, _, pa, pc, by omega, by go_num, rfl, HRJ.out, HFJ.out, by have := HLJ.out; omega, HL6.out, HB6.out⟩
      case measure => simp [intOf]; omega
    · obtain rfl : j = S.length := by omega
      rw [List.drop_length] at hrun
      obtain rfl : l = B := by cases hrun; rfl
      clear hrun
      have HSM := Lib.hid (same_ints ga gc sa sc l wr HRL.out (HL5.out.1.below HB.out) (by omega))
      go_wp2_with (first
        | (go_at_call 20; (with_reducible refine HSM.out.mono ?_); rintro x w8 ⟨rfl, hb8⟩; have HB8 := Lib.hid hb8; clear hb8))
      go_ret
      exact ⟨rfl, HB5.out.trans ((HB.out.trans (HB8.out.mono HB.out.size)).mono HB5.out.size)⟩
end Go.Proofs.Ytglnelkimagihaa
