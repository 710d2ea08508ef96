/-
  Walks: pairs, vals, elements of the teller of programs.
  Conditions: what is told lies in old memory, as the tree tells.
-/
import Derived.Test.YtedmmgfnplbkjaaGreatDoorPrE
namespace Go.Proofs.YtedmmgfnplbkjaaGreatDoor.PR
set_option linter.unusedVariables false
set_option linter.unusedSimpArgs false
open Go.Proofs.YtedmmgfnplbkjaaGreatDoor Go.RowKit G
structure EX (w0 : World) (pt : Obj) (c : Str) (row : Nat → T) (q b p : Nat) : Prop where
  hw : WE row q
  ep : EP w0 row q b p
  l3 : EL0 w0 pt c (row (q + 3))
  l5 : EL0 w0 pt c (row (q + 5))
  l7 : EL0 w0 pt c (row (q + 7))
  l8 : EL1 w0 pt c (row (q + 8))
  tabs : LTabs w0
  cl : c.length ≤ 70000
def Cells (w0 : World) (row : Nat → T) (q b p : Nat) (k n : Int) (s : Str) (a3 : Option Addr) (n3 c3 : Nat) (a4 : Option Addr) (n4 c4 : Nat) (a5 : Option Addr) (n5 c5 : Nat) (e : Int) (a7 : Option Addr) (n7 c7 : Nat) (a8 : Option Addr) (n8 c8 : Nat) (t : Str) : Prop :=
  (∀ W, Below w0.heap.size w0 W → W.cell? ⟨b, p, none⟩ = some (.int .u8 k) ∧ W.cell? ⟨b, p + 1, none⟩ = some (.int .i64 n) ∧ W.cell? ⟨b, p + 2, none⟩ = some (.string ⟨s.toArray⟩) ∧ W.cell? ⟨b, p + 3, none⟩ = some (.slice a3 n3 c3) ∧ W.cell? ⟨b, p + 4, none⟩ = some (.slice a4 n4 c4) ∧ W.cell? ⟨b, p + 5, none⟩ = some (.slice a5 n5 c5) ∧ W.cell? ⟨b, p + 6, none⟩ = some (.int .u8 e) ∧ W.cell? ⟨b, p + 7, none⟩ = some (.slice a7 n7 c7) ∧ W.cell? ⟨b, p + 8, none⟩ = some (.slice a8 n8 c8) ∧ W.cell? ⟨b, p + 9, none⟩ = some (.string ⟨t.toArray⟩))
  ∧ num (row q) = k ∧ num (row (q + 1)) = n ∧ strT (row (q + 2)) = s ∧ num (row (q + 6)) = e ∧ strT (row (q + 9)) = t
  ∧ lenT (row (q + 3)) = n3 ∧ lenT (row (q + 4)) = n4 ∧ lenT (row (q + 5)) = n5 ∧ lenT (row (q + 7)) = n7 ∧ lenT (row (q + 8)) = n8
  ∧ (row (q + 3)).Rep w0 yes (.slice a3 n3 c3) ∧ (row (q + 4)).Rep w0 yes (.slice a4 n4 c4) ∧ (row (q + 5)).Rep w0 yes (.slice a5 n5 c5) ∧ (row (q + 7)).Rep w0 yes (.slice a7 n7 c7) ∧ (row (q + 8)).Rep w0 yes (.slice a8 n8 c8)
theorem EX.cells {w0 : World} {pt : Obj} {c : Str} {row : Nat → T} {q b p : Nat} (X : EX w0 pt c row q b p) : ∃ (k n : Int) (s : Str) (a3 : Option Addr) (n3 c3 : Nat) (a4 : Option Addr) (n4 c4 : Nat) (a5 : Option Addr) (n5 c5 : Nat) (e : Int) (a7 : Option Addr) (n7 c7 : Nat) (a8 : Option Addr) (n8 c8 : Nat) (t : Str), Cells w0 row q b p k n s a3 n3 c3 a4 n4 c4 a5 n5 c5 e a7 n7 c7 a8 n8 c8 t := by
  obtain ⟨k, n, s, a3, n3, c3, a4, n4, c4, a5, n5, c5, e, a7, n7, c7, a8, n8, c8, t, ⟨y0, y1, y2, y3, y4, y5, y6, y7, y8, y9⟩, ⟨r0, r1, r2, r6, r9⟩, p3, p4, p5, p7, p8⟩ := X.ep.row X.hw
  have hlt : b < w0.heap.size := World.block_lt_of_cell? _ _ y0
  obtain ⟨-, -, -, w3, w4, w5, -, w7, w8, -⟩ := X.hw
  have es : ∀ x : ByteArray, x = ⟨x.data.toList.toArray⟩ := fun x => by simp
  rw [es s] at y2
  rw [es t] at y9
  refine ⟨k, n, s.data.toList, a3, n3, c3, a4, n4, c4, a5, n5, c5, e, a7, n7, c7, a8, n8, c8, t.data.toList, fun W hb => ?_, by rw [r0]; rfl, by rw [r1]; rfl, by rw [r2]; rfl, by rw [r6]; rfl, by rw [r9]; rfl, (len_of w3 p3).1, (len_of w4 p4).1, (len_of w5 p5).1, (len_of w7 p7).1, (len_of w8 p8).1, p3, p4, p5, p7, p8⟩
  have hk : ∀ o y, w0.cell? ⟨b, o, none⟩ = some y → W.cell? ⟨b, o, none⟩ = some y := fun o y h => by rw [hb.cell (p := ⟨b, o, none⟩) hlt]; exact h
  exact ⟨hk _ _ y0, hk _ _ y1, hk _ _ y2, hk _ _ y3, hk _ _ y4, hk _ _ y5, hk _ _ y6, hk _ _ y7, hk _ _ y8, hk _ _ y9⟩
section
variable {w0 : World} {pt : Obj} {c : Str} {row : Nat → T} {q b p : Nat} (X : EX w0 pt c row q b p)
include X
set_option maxRecDepth 100000 in
set_option maxHeartbeats 4000000 in
theorem pairs_any (l : Str) (bs : Bool) (d : Nat) (W : World) (h : TS w0 pt l bs c d W) :
    Calls Tryz.prog 133 #[tp w0, .pointer (some ⟨b, p, none⟩)] W (PostT w0 pt l bs c (pairsT row (subs c row) (q + 4) (q + 5) d)) := by
  obtain ⟨k, n, s, a3, n3, c3, a4, n4, c4, a5, n5, c5, e, a7, n7, c7, a8, n8, c8, t, hy, -, -, -, -, -, -, h4, h5, -, -, -, p4, p5, -, -⟩ := X.cells
  obtain ⟨y0, y1, y2, y3, y4, y5, y6, y7, y8, y9⟩ := hy W h.low
  have HY := Lib.hid hy
  by_cases hn : n4 = n5
  · subst hn
    obtain ⟨f, hf⟩ : ∃ f, (fun i => seqL [oneT wO, nameT (nthS (row (q + 4)) i), subs c row (q + 5) 0 i, shutT]) = f := ⟨_, rfl⟩
    have hpt : pairsT row (subs c row) (q + 4) (q + 5) d = eachT f n4 d := by unfold pairsT; rw [h4, h5, if_pos rfl, hf]
    rw [hpt]
    obtain ⟨-, hcm, hnames⟩ := names_open X.hw.2.2.2.2.1 p4
    obtain ⟨kk, vrow, hv, hv1, hv2, hel⟩ := sl_open X.hw.2.2.2.2.2.1 p5
    have hwv := X.hw.2.2.2.2.2.1
    rw [hv] at hwv
    obtain ⟨rfl, hwa⟩ := (wf0 _ _ _).1 hwv
    have HN : Hid (∀ i, i < n4 → ∃ g o, a4 = some ⟨g, o, none⟩ ∧ ∀ W, Below w0.heap.size w0 W → W.cell? ⟨g, o + i, none⟩ = some (.string ⟨(nthS (row (q + 4)) i).toArray⟩)) := fun i hi => by
      obtain ⟨g, o, e, hlt, hc⟩ := hnames i hi
      exact ⟨g, o, e, fun W hb => by rw [hb.cell (p := ⟨g, o + i, none⟩) hlt]; exact hc⟩
    have HV : Hid (∀ i, i < n4 → ∃ g o, a5 = some ⟨g, o, none⟩ ∧ ∀ l bs d W, TS w0 pt l bs c d W → Calls Tryz.prog 45 #[tp w0, .pointer (some ⟨g, o + i * 10, none⟩)] W (PostT w0 pt l bs c (subs c row (q + 5) 0 i d))) := fun i hi => by
      obtain ⟨g, o, e, hlt, hc⟩ := hel i hi
      refine ⟨g, o, e, fun l bs d W h => ?_⟩
      have := X.l5 n4 vrow hv i hi g (o + i * 10) l bs d W (fun j hj => by rw [Nat.zero_add]; exact hc j hj) h
      have e2 : subs c row (q + 5) 0 i d = exprT c (vrow i) 0 d := by unfold subs; rw [hv]; rfl
      rw [e2]
      exact this
    have HO := Lib.hid (fun l bs d (W : World) (h : TS w0 pt l bs c d W) => open_any W h)
    have HS := Lib.hid (fun l bs d (W : World) (h : TS w0 pt l bs c d W) => shut_any W h)
    have HM := Lib.hid (fun l bs d s (W : World) (h : TS w0 pt l bs c d W) => name_any s W X.tabs h)
    have HFI : Hid (∀ i, f i = seqL [oneT wO, nameT (nthS (row (q + 4)) i), subs c row (q + 5) 0 i, shutT]) := fun i => by rw [← hf]
    have HT := Lib.hid h
    have HD := Lib.hid (fun n => TS.keep h (below_drewNP W n))
    obtain ⟨r, hr⟩ : ∃ r, eachT f n4 d = r := ⟨_, rfl⟩
    have HR := Lib.hid hr
    rw [hr]
    have hc4 : n4 ≤ c4 := by obtain ⟨h1, -⟩ := names_open X.hw.2.2.2.2.1 p4; exact h1
    clear hnames hel hwa hwv hv hf hpt h hy h4 h5 p4 p5 hr
    go_enter Tryz.func133, Tryz.ntmps133
    go_wp2
    go_quiet (fail)
    go_wp2
    go_loopw [23] (fun i wr => ∃ (j : Nat) (u : List LX.LW) (d' : Nat), i = .int .i64 j ∧ j ≤ n4 ∧ eachT f j d = some (u, d') ∧ TS w0 pt (l ++ lay bs u) (aft bs u) c d' wr) (fun i _ => n4 - (intOf i).toNat)
    case atStart => exact ⟨0, [], d, rfl, Nat.zero_le _, rfl, by rw [show lay bs [] = [] from rfl, List.append_nil]; exact HD.out _⟩
    case round =>
      obtain ⟨j, u, d', rfl, hj, hu, hts0⟩ := hrel
      have HTS := Lib.hid hts0
      have HU := Lib.hid hu
      clear hu
      obtain ⟨l', hl'⟩ : ∃ l', l ++ lay bs u = l' := ⟨_, rfl⟩
      obtain ⟨bs', hbs'⟩ : ∃ bs', aft bs u = bs' := ⟨_, rfl⟩
      have HL := Lib.hid (And.intro hl' hbs')
      rw [hl', hbs'] at hts0
      clear hl' hbs'
      by_cases hlt : j < n4
      · have g1 : (j : Int) < (n4 : Int) := by omega
        have g0 : (0 : Int) ≤ (j : Int) := by omega
        have g2 : j < c4 := by omega
        have g3 : j < c5 := by omega
        obtain ⟨g4, o4, rfl, hnm⟩ := HN.out j hlt
        obtain ⟨g5, o5, rfl, hvl⟩ := HV.out j hlt
        have hnc := hnm wr (TS.low hts0)
        have HVL := Lib.hid hvl
        clear hnm hvl
        obtain ⟨nm, hnm⟩ : ∃ nm, nthS (row (q + 4)) j = nm := ⟨_, rfl⟩
        obtain ⟨fe, hfe⟩ : ∃ fe, subs c row (q + 5) 0 j = fe := ⟨_, rfl⟩
        have HFJ : Hid (f j = seqL [oneT wO, nameT nm, fe, shutT]) := by rw [Hid, HFI.out, hnm, hfe]
        rw [hnm] at hnc
        rw [hfe] at HVL
        clear hnm hfe
        have HGO : Hid (∀ (e : Ending) w', PostT w0 pt l' bs' c (seqL [oneT wO, nameT nm, fe, shutT] d') e w' → (∃ v d2, e = .returned (.bool true) ∧ eachT f (j + 1) d = some (u ++ v, d2) ∧ TS w0 pt (l ++ lay bs (u ++ v)) (aft bs (u ++ v)) c d2 w') ∨ (e = .returned (.bool false) ∧ eachT f n4 d = none ∧ Below w0.heap.size w0 w')) := by
          rintro e w' (⟨v, d2, hv, he, ht⟩ | ⟨hv, he, hb⟩)
          · refine .inl ⟨v, d2, he, seq_some HU.out (by rw [HFJ.out]; exact hv), ?_⟩
            rw [lay_append, aft_append, ← List.append_assoc, HL.out.1, HL.out.2]
            exact ht
          · exact .inr ⟨he, eachT_bad (m := j + 1) (seq_bad HU.out (by rw [HFJ.out]; exact hv)) n4 (by omega), hb⟩
        go_wp2_with (first
          | (go_at_call 66; (with_reducible refine (HO.out _ _ _ _ (by assumption)).mono ?_); rintro e1 w1 ⟨rfl, hts⟩; obtain ⟨y0, y1, y2, y3, y4, y5, y6, y7, y8, y9⟩ := HY.out _ (TS.low hts))
          | (go_at_call 42; (with_reducible refine (HM.out _ _ _ _ _ (by assumption)).mono ?_); rintro e1 w1 (⟨u1, d1, hu1, rfl, hts⟩ | ⟨hu1, rfl, hb1⟩); obtain ⟨y0, y1, y2, y3, y4, y5, y6, y7, y8, y9⟩ := HY.out _ (TS.low hts))
          | (go_at_call 45; (with_reducible refine (HVL.out _ _ _ _ (by assumption)).mono ?_); rintro e1 w1 (⟨u1, d1, hu1, rfl, hts⟩ | ⟨hu1, rfl, hb1⟩); obtain ⟨y0, y1, y2, y3, y4, y5, y6, y7, y8, y9⟩ := HY.out _ (TS.low hts))
          | (go_at_call 46; (with_reducible refine (HS.out _ _ _ _ (by assumption)).mono ?_); rintro e1 w1 ⟨rfl, hts⟩; obtain ⟨y0, y1, y2, y3, y4, y5, y6, y7, y8, y9⟩ := HY.out _ (TS.low hts)))
        · obtain ⟨v, d2, -, h1, h2⟩ | ⟨h1, -⟩ := HGO.out (.returned (.bool true)) _ (PostT.step rfl (PostT.step (by assumption) (PostT.step (by assumption) (PostT.step rfl (PostT.done rfl (by assumption))))))
          · exact ⟨⟨j + 1, u ++ v, d2, by go_num, by omega, h1, h2⟩, by simp [intOf]; omega⟩
          · cases h1
        · obtain ⟨v, d2, h1, -⟩ | ⟨-, h1, h2⟩ := HGO.out (.returned (.bool false)) _ (PostT.step rfl (PostT.step (by assumption) (PostT.stop (by assumption) rfl (by assumption))))
          · cases h1
          · go_ret
            exact .inr ⟨HR.out.symm.trans h1, rfl, h2⟩
        · obtain ⟨v, d2, h1, -⟩ | ⟨-, h1, h2⟩ := HGO.out (.returned (.bool false)) _ (PostT.step rfl (PostT.stop (by assumption) rfl (by assumption)))
          · cases h1
          · go_ret
            exact .inr ⟨HR.out.symm.trans h1, rfl, h2⟩
      · obtain rfl : n4 = j := by omega
        go_wp2
        go_ret
        exact .inl ⟨u, d', HR.out.symm.trans HU.out, rfl, HTS.out⟩
  · have e1 : pairsT row (subs c row) (q + 4) (q + 5) d = none := by unfold pairsT; rw [h4, h5, if_neg hn]
    rw [e1]
    have g : ((n4 : Int) != (n5 : Int)) = true := by simp; omega
    have HB : Hid (∀ m, Below w0.heap.size w0 (W.drewN m)) := fun m => h.low.trans ((below_drewNP W m).mono h.low.size)
    clear e1 h hy
    go_enter Tryz.func133, Tryz.ntmps133
    go_wp2
    go_quiet (fail)
    go_wp2
    go_ret
    exact .inr ⟨rfl, rfl, HB.out _⟩
set_option maxRecDepth 100000 in
set_option maxHeartbeats 4000000 in
theorem vals_any (ls : List Str) (hll : ls.length ≤ 9) (g : Nat) (l : Str) (bs : Bool) (d : Nat) (W : World) (hls : ∀ i, i < ls.length → W.cell? ⟨g, i, none⟩ = some (.string ⟨(ls.getD i []).toArray⟩)) (h : TS w0 pt l bs c d W) :
    Calls Tryz.prog 175 #[tp w0, .pointer (some ⟨b, p, none⟩), .slice (some ⟨g, 0, none⟩) ls.length ls.length] W (PostT w0 pt l bs c (valsT row (subs c row) ls q d)) := by
  obtain ⟨k, n, s, a3, n3, c3, a4, n4, c4, a5, n5, c5, e, a7, n7, c7, a8, n8, c8, t, hy, -, -, -, -, -, -, h4, h5, -, -, -, p4, p5, -, -⟩ := X.cells
  obtain ⟨y0, y1, y2, y3, y4, y5, y6, y7, y8, y9⟩ := hy W h.low
  have HQ := Lib.hid (equal_any X.hw.2.2.2.2.1 p4 ls g W h.low hls hll)
  have HX := Lib.hid (fun l bs d (W : World) (h : TS w0 pt l bs c d W) => exprs_any (colE_any X.hw.2.2.2.2.2.1 X.l5 p5) h5 ls.length l bs d W h)
  have HD := Lib.hid (fun n => TS.keep h (below_drewNP W n))
  obtain ⟨m, hm⟩ : ∃ m, ls.length = m := ⟨_, rfl⟩
  obtain ⟨x, hx⟩ : ∃ x, areB row (q + 4) ls = x := ⟨_, rfl⟩
  have HV : Hid (valsT row (subs c row) ls q d = if x then timesT row (subs c row) m (q + 5) d else none) := by rw [Hid, ← hx, ← hm]; rfl
  rw [hx, hm] at HQ
  rw [hm] at HX hll ⊢
  rw [HV.out]
  clear hls h hy hm hx HV
  cases x with
  | true =>
    go_enter Tryz.func175, Tryz.ntmps175
    go_wp2_with (first
      | (go_at_call 205; refine HQ.out.mono ?_; rintro e1 w1 ⟨rfl, m1, rfl⟩; have hts := HD.out m1)
      | (go_at_call 132; (with_reducible refine (HX.out _ _ _ _ (by assumption)).mono ?_); rintro e1 w1 (⟨u1, d1, hu1, rfl, hts⟩ | ⟨hu1, rfl, hb1⟩)))
    · go_ret
      exact .inl ⟨u1, d1, (by first | rfl | exact hu1), rfl, hts⟩
    · go_ret
      exact .inr ⟨(by first | rfl | exact hu1), rfl, hb1⟩
  | false =>
    go_enter Tryz.func175, Tryz.ntmps175
    go_wp2_with (go_at_call 205; refine HQ.out.mono ?_; rintro e1 w1 ⟨rfl, m1, rfl⟩; have hts := HD.out m1)
    go_ret
    exact .inr ⟨rfl, rfl, hts.low⟩
end
section
variable {w0 : World} {pt : Obj} {c : Str} {row : Nat → T} {q b p : Nat} (X : EX w0 pt c row q b p)
include X
set_option maxRecDepth 100000 in
set_option maxHeartbeats 4000000 in
theorem tagged_any (l : Str) (bs : Bool) (d : Nat) (W : World) (h : TS w0 pt l bs c d W) :
    Calls Tryz.prog 125 #[tp w0, .pointer (some ⟨b, p, none⟩)] W (PostT w0 pt l bs c (taggedT row (subs c row) q d)) := by
  obtain ⟨k, n, s, a3, n3, c3, a4, n4, c4, a5, n5, c5, e, a7, n7, c7, a8, n8, c8, t, hy, h0, h1, h2, h6, h9, h3, h4, h5, h7, h8, p3, p4, p5, p7, p8⟩ := X.cells
  obtain ⟨y0, y1, y2, y3, y4, y5, y6, y7, y8, y9⟩ := hy W h.low
  have HY := Lib.hid hy
  have HM := Lib.hid (fun l bs d s (W : World) (h : TS w0 pt l bs c d W) => name_any s W X.tabs h)
  have HO := Lib.hid (fun l bs d (W : World) (h : TS w0 pt l bs c d W) => open_any W h)
  have HP := Lib.hid (fun l bs d (W : World) (h : TS w0 pt l bs c d W) => pairs_any X l bs d W h)
  have HS := Lib.hid (fun l bs d (W : World) (h : TS w0 pt l bs c d W) => shut_any W h)
  unfold taggedT
  rw [h2]
  have HT := Lib.hid h
  have hts := HT.out
  clear h hy p3 p4 p5 p7 p8 h0 h1 h2 h3 h4 h5 h6 h7 h8 h9
  go_enter Tryz.func125, Tryz.ntmps125
  go_wp2_with (first
    | (go_at_call 42; (with_reducible refine (HM.out _ _ _ _ _ (by assumption)).mono ?_); rintro e1 w1 (⟨u1, d1, hu1, rfl, hts⟩ | ⟨hu1, rfl, hb1⟩); obtain ⟨y0, y1, y2, y3, y4, y5, y6, y7, y8, y9⟩ := HY.out _ (TS.low hts))
    | (go_at_call 66; (with_reducible refine (HO.out _ _ _ _ (by assumption)).mono ?_); rintro e1 w1 ⟨rfl, hts⟩; obtain ⟨y0, y1, y2, y3, y4, y5, y6, y7, y8, y9⟩ := HY.out _ (TS.low hts))
    | (go_at_call 133; (with_reducible refine (HP.out _ _ _ _ (by assumption)).mono ?_); rintro e1 w1 (⟨u1, d1, hu1, rfl, hts⟩ | ⟨hu1, rfl, hb1⟩); obtain ⟨y0, y1, y2, y3, y4, y5, y6, y7, y8, y9⟩ := HY.out _ (TS.low hts))
    | (go_at_call 46; (with_reducible refine (HS.out _ _ _ _ (by assumption)).mono ?_); rintro e1 w1 ⟨rfl, hts⟩; obtain ⟨y0, y1, y2, y3, y4, y5, y6, y7, y8, y9⟩ := HY.out _ (TS.low hts)))
  all_goals go_ret
  all_goals (first
    | exact PostT.step (by first | assumption | rfl) (PostT.step (by first | assumption | rfl) (PostT.step (by first | assumption | rfl) (PostT.step (by first | assumption | rfl) (PostT.done rfl (by assumption)))))
    | exact PostT.step (by first | assumption | rfl) (PostT.step (by first | assumption | rfl) (PostT.step (by first | assumption | rfl) (PostT.step (by first | assumption | rfl) (PostT.stop (by assumption) rfl (by assumption)))))
    | exact PostT.step (by first | assumption | rfl) (PostT.step (by first | assumption | rfl) (PostT.step (by first | assumption | rfl) (PostT.done rfl (by assumption))))
    | exact PostT.step (by first | assumption | rfl) (PostT.step (by first | assumption | rfl) (PostT.step (by first | assumption | rfl) (PostT.stop (by assumption) rfl (by assumption))))
    | exact PostT.step (by first | assumption | rfl) (PostT.step (by first | assumption | rfl) (PostT.done rfl (by assumption)))
    | exact PostT.step (by first | assumption | rfl) (PostT.step (by first | assumption | rfl) (PostT.stop (by assumption) rfl (by assumption)))
    | exact PostT.step (by first | assumption | rfl) (PostT.done rfl (by assumption))
    | exact PostT.step (by first | assumption | rfl) (PostT.stop (by assumption) rfl (by assumption))
    | exact PostT.done rfl (by assumption)
    | exact PostT.stop (by assumption) rfl (by assumption))
omit X in
set_option maxRecDepth 100000 in
set_option maxHeartbeats 1000000 in
theorem bare_any (l : Str) (bs : Bool) (d : Nat) (W : World) (h : TS w0 pt l bs c d W) :
    Calls Tryz.prog 126 #[tp w0, .pointer (some ⟨b, p, none⟩)] W (PostT w0 pt l bs c (some ([], d))) := by
  go_enter Tryz.func126, Tryz.ntmps126
  go_wp2
  go_ret
  exact .inl ⟨[], d, rfl, rfl, by rw [show lay bs [] = [] from rfl, List.append_nil]; exact h⟩
set_option maxRecDepth 100000 in
set_option maxHeartbeats 4000000 in
theorem placed_any (l : Str) (bs : Bool) (d : Nat) (W : World) (h : TS w0 pt l bs c d W) :
    Calls Tryz.prog 127 #[tp w0, .pointer (some ⟨b, p, none⟩)] W (PostT w0 pt l bs c (nameT (strT (row (q + 2))) d)) := by
  obtain ⟨k, n, s, a3, n3, c3, a4, n4, c4, a5, n5, c5, e, a7, n7, c7, a8, n8, c8, t, hy, h0, h1, h2, h6, h9, h3, h4, h5, h7, h8, p3, p4, p5, p7, p8⟩ := X.cells
  obtain ⟨y0, y1, y2, y3, y4, y5, y6, y7, y8, y9⟩ := hy W h.low
  have HY := Lib.hid hy
  have HM := Lib.hid (fun l bs d s (W : World) (h : TS w0 pt l bs c d W) => name_any s W X.tabs h)
  rw [h2]
  have HT := Lib.hid h
  have hts := HT.out
  clear h hy p3 p4 p5 p7 p8 h0 h1 h2 h3 h4 h5 h6 h7 h8 h9
  go_enter Tryz.func127, Tryz.ntmps127
  go_wp2_with (first
    | (go_at_call 42; (with_reducible refine (HM.out _ _ _ _ _ (by assumption)).mono ?_); rintro e1 w1 (⟨u1, d1, hu1, rfl, hts⟩ | ⟨hu1, rfl, hb1⟩); obtain ⟨y0, y1, y2, y3, y4, y5, y6, y7, y8, y9⟩ := HY.out _ (TS.low hts)))
  all_goals go_ret
  all_goals (first
    | exact .inl ⟨_, _, (by first | assumption | rfl), rfl, (by assumption)⟩
    | exact .inr ⟨(by first | assumption | rfl), rfl, (by assumption)⟩
    | (cases hu1; done))
set_option maxRecDepth 100000 in
set_option maxHeartbeats 4000000 in
theorem gives_any (l : Str) (bs : Bool) (d : Nat) (W : World) (h : TS w0 pt l bs c d W) :
    Calls Tryz.prog 128 #[tp w0, .pointer (some ⟨b, p, none⟩)] W (PostT w0 pt l bs c (givesT row (subs c row) q d)) := by
  obtain ⟨k, n, s, a3, n3, c3, a4, n4, c4, a5, n5, c5, e, a7, n7, c7, a8, n8, c8, t, hy, h0, h1, h2, h6, h9, h3, h4, h5, h7, h8, p3, p4, p5, p7, p8⟩ := X.cells
  obtain ⟨y0, y1, y2, y3, y4, y5, y6, y7, y8, y9⟩ := hy W h.low
  have HY := Lib.hid hy
  have HM := Lib.hid (fun l bs d s (W : World) (h : TS w0 pt l bs c d W) => name_any s W X.tabs h)
  have HV : Hid (∀ l bs d (W : World), TS w0 pt l bs c d W → Calls Tryz.prog 175 #[tp w0, .pointer (some ⟨b, p, none⟩), .slice (some ⟨W.heap.size, 0, none⟩) 1 1] (W.alloc (.cells #[.string ⟨#[118, 97, 108, 117, 101]⟩] 9)) (PostT w0 pt l bs c (valsT row (subs c row) [[118, 97, 108, 117, 101]] q d))) := fun l bs d W h =>
    vals_any X [[118, 97, 108, 117, 101]] (by decide) W.heap.size l bs d _ (fun i hi => by
      rw [Lib.cell_of_heap (heap_alloc_new _ _)]
      match i, hi with
      | 0, _ => rfl) (h.keep ((Below.refl _ _).alloc (Nat.le_refl _) _))
  unfold givesT
  rw [h2]
  have HT := Lib.hid h
  have hts := HT.out
  clear h hy p3 p4 p5 p7 p8 h0 h1 h2 h3 h4 h5 h6 h7 h8 h9
  go_enter Tryz.func128, Tryz.ntmps128
  go_wp2_with (first
    | (go_at_call 42; (with_reducible refine (HM.out _ _ _ _ _ (by assumption)).mono ?_); rintro e1 w1 (⟨u1, d1, hu1, rfl, hts⟩ | ⟨hu1, rfl, hb1⟩); obtain ⟨y0, y1, y2, y3, y4, y5, y6, y7, y8, y9⟩ := HY.out _ (TS.low hts))
    | (go_at_call 175; (with_reducible refine (HV.out _ _ _ _ (by assumption)).mono ?_); rintro e1 w1 (⟨u1, d1, hu1, rfl, hts⟩ | ⟨hu1, rfl, hb1⟩); obtain ⟨y0, y1, y2, y3, y4, y5, y6, y7, y8, y9⟩ := HY.out _ (TS.low hts)))
  all_goals go_ret
  all_goals (first
    | exact PostT.step (by first | assumption | rfl) (PostT.step (by first | assumption | rfl) (PostT.done rfl (by assumption)))
    | exact PostT.step (by first | assumption | rfl) (PostT.step (by first | assumption | rfl) (PostT.stop (by assumption) rfl (by assumption)))
    | exact PostT.step (by first | assumption | rfl) (PostT.done rfl (by assumption))
    | exact PostT.step (by first | assumption | rfl) (PostT.stop (by assumption) rfl (by assumption))
    | exact PostT.done rfl (by assumption)
    | exact PostT.stop (by assumption) rfl (by assumption))
set_option maxRecDepth 100000 in
set_option maxHeartbeats 4000000 in
theorem guards_any (l : Str) (bs : Bool) (d : Nat) (W : World) (h : TS w0 pt l bs c d W) :
    Calls Tryz.prog 129 #[tp w0, .pointer (some ⟨b, p, none⟩)] W (PostT w0 pt l bs c (valsT row (subs c row) [[97, 103, 97, 105, 110], [101, 108, 115, 101]] q d)) := by
  obtain ⟨k, n, s, a3, n3, c3, a4, n4, c4, a5, n5, c5, e, a7, n7, c7, a8, n8, c8, t, hy, h0, h1, h2, h6, h9, h3, h4, h5, h7, h8, p3, p4, p5, p7, p8⟩ := X.cells
  obtain ⟨y0, y1, y2, y3, y4, y5, y6, y7, y8, y9⟩ := hy W h.low
  have HY := Lib.hid hy
  have HV : Hid (∀ l bs d (W : World), TS w0 pt l bs c d W → Calls Tryz.prog 175 #[tp w0, .pointer (some ⟨b, p, none⟩), .slice (some ⟨W.heap.size, 0, none⟩) 2 2] (W.alloc (.cells #[.string ⟨#[97, 103, 97, 105, 110]⟩, .string ⟨#[101, 108, 115, 101]⟩] 9)) (PostT w0 pt l bs c (valsT row (subs c row) [[97, 103, 97, 105, 110], [101, 108, 115, 101]] q d))) := fun l bs d W h =>
    vals_any X [[97, 103, 97, 105, 110], [101, 108, 115, 101]] (by decide) W.heap.size l bs d _ (fun i hi => by
      rw [Lib.cell_of_heap (heap_alloc_new _ _)]
      match i, hi with
      | 0, _ => rfl
      | 1, _ => rfl) (h.keep ((Below.refl _ _).alloc (Nat.le_refl _) _))
  have HT := Lib.hid h
  have hts := HT.out
  clear h hy p3 p4 p5 p7 p8 h0 h1 h2 h3 h4 h5 h6 h7 h8 h9
  go_enter Tryz.func129, Tryz.ntmps129
  go_wp2_with (first
    | (go_at_call 175; (with_reducible refine (HV.out _ _ _ _ (by assumption)).mono ?_); rintro e1 w1 (⟨u1, d1, hu1, rfl, hts⟩ | ⟨hu1, rfl, hb1⟩); obtain ⟨y0, y1, y2, y3, y4, y5, y6, y7, y8, y9⟩ := HY.out _ (TS.low hts)))
  all_goals go_ret
  all_goals (first
    | exact .inl ⟨_, _, (by first | assumption | rfl), rfl, (by assumption)⟩
    | exact .inr ⟨(by first | assumption | rfl), rfl, (by assumption)⟩
    | (cases hu1; done))
set_option maxRecDepth 100000 in
set_option maxHeartbeats 4000000 in
theorem waits_any (l : Str) (bs : Bool) (d : Nat) (W : World) (h : TS w0 pt l bs c d W) :
    Calls Tryz.prog 130 #[tp w0, .pointer (some ⟨b, p, none⟩)] W (PostT w0 pt l bs c (valsT row (subs c row) [[101, 108, 115, 101]] q d)) := by
  obtain ⟨k, n, s, a3, n3, c3, a4, n4, c4, a5, n5, c5, e, a7, n7, c7, a8, n8, c8, t, hy, h0, h1, h2, h6, h9, h3, h4, h5, h7, h8, p3, p4, p5, p7, p8⟩ := X.cells
  obtain ⟨y0, y1, y2, y3, y4, y5, y6, y7, y8, y9⟩ := hy W h.low
  have HY := Lib.hid hy
  have HV : Hid (∀ l bs d (W : World), TS w0 pt l bs c d W → Calls Tryz.prog 175 #[tp w0, .pointer (some ⟨b, p, none⟩), .slice (some ⟨W.heap.size, 0, none⟩) 1 1] (W.alloc (.cells #[.string ⟨#[101, 108, 115, 101]⟩] 9)) (PostT w0 pt l bs c (valsT row (subs c row) [[101, 108, 115, 101]] q d))) := fun l bs d W h =>
    vals_any X [[101, 108, 115, 101]] (by decide) W.heap.size l bs d _ (fun i hi => by
      rw [Lib.cell_of_heap (heap_alloc_new _ _)]
      match i, hi with
      | 0, _ => rfl) (h.keep ((Below.refl _ _).alloc (Nat.le_refl _) _))
  have HT := Lib.hid h
  have hts := HT.out
  clear h hy p3 p4 p5 p7 p8 h0 h1 h2 h3 h4 h5 h6 h7 h8 h9
  go_enter Tryz.func130, Tryz.ntmps130
  go_wp2_with (first
    | (go_at_call 175; (with_reducible refine (HV.out _ _ _ _ (by assumption)).mono ?_); rintro e1 w1 (⟨u1, d1, hu1, rfl, hts⟩ | ⟨hu1, rfl, hb1⟩); obtain ⟨y0, y1, y2, y3, y4, y5, y6, y7, y8, y9⟩ := HY.out _ (TS.low hts)))
  all_goals go_ret
  all_goals (first
    | exact .inl ⟨_, _, (by first | assumption | rfl), rfl, (by assumption)⟩
    | exact .inr ⟨(by first | assumption | rfl), rfl, (by assumption)⟩
    | (cases hu1; done))
set_option maxRecDepth 100000 in
set_option maxHeartbeats 4000000 in
theorem elemOf_tagged (w : Str) (hwl : w.length ≤ 100) (l : Str) (bs : Bool) (d : Nat) (W : World) (h : TS w0 pt l bs c d W) :
    Calls Tryz.prog 124 #[tp w0, .string ⟨w.toArray⟩, .func (.func 125) #[tp w0] #[], .pointer (some ⟨b, p, none⟩)] W (PostT w0 pt l bs c (Go.Proofs.YtedmmgfnplbkjaaGreatDoor.G.elemOf row (subs c row) q w (taggedT row (subs c row) q) d)) := by
  obtain ⟨k, n, s, a3, n3, c3, a4, n4, c4, a5, n5, c5, e, a7, n7, c7, a8, n8, c8, t, hy, h0, h1, h2, h6, h9, h3, h4, h5, h7, h8, p3, p4, p5, p7, p8⟩ := X.cells
  obtain ⟨y0, y1, y2, y3, y4, y5, y6, y7, y8, y9⟩ := hy W h.low
  have HY := Lib.hid hy
  have HK := Lib.hid (fun l bs d (W : World) (h : TS w0 pt l bs c d W) => key_any (colE_any X.hw.2.2.2.2.2.2.2.1 X.l7 p7) h7 l bs d W h)
  have HC := Lib.hid (fun l bs d (W : World) (h : TS w0 pt l bs c d W) => colE_any X.hw.2.2.2.1 X.l3 p3 l bs d W h)
  have HS := Lib.hid (fun l bs d (W : World) (h : TS w0 pt l bs c d W) => shut_any W h)
  have HW : Hid (∀ l bs d (W : World), TS w0 pt l bs c d W → Calls Tryz.prog 41 #[tp w0, .string ⟨w.toArray⟩] W fun e w' => e = .returned (.bool true) ∧ TS w0 pt (l ++ lay bs [wO, wN w]) true c d w') := fun l bs d W h => by
    have := opens_any ⟨w.toArray⟩ W (by show w.length ≤ _; omega) h
    have e : (⟨w.toArray⟩ : ByteArray).data.toList = w := by simp
    rwa [e] at this
  obtain ⟨own, hown⟩ : ∃ own, (taggedT row (subs c row) q) = own := ⟨_, rfl⟩
  have HOWN : Hid (∀ l bs d (W : World), TS w0 pt l bs c d W → Calls Tryz.prog 125 #[tp w0, .pointer (some ⟨b, p, none⟩)] W (PostT w0 pt l bs c (own d))) := fun l bs d W h => by rw [← hown]; exact tagged_any X l bs d W h
  rw [hown]
  unfold Go.Proofs.YtedmmgfnplbkjaaGreatDoor.G.elemOf
  have HT := Lib.hid h
  have hts := HT.out
  clear h hy p3 p4 p5 p7 p8 h0 h1 h2 h3 h4 h5 h6 h7 h8 h9
  go_enter Tryz.func124, Tryz.ntmps124
  go_wp2_with (first
    | (go_at_call 174; (with_reducible refine (HK.out _ _ _ _ (by assumption)).mono ?_); rintro e1 w1 (⟨u1, d1, hu1, rfl, hts⟩ | ⟨hu1, rfl, hb1⟩); obtain ⟨y0, y1, y2, y3, y4, y5, y6, y7, y8, y9⟩ := HY.out _ (TS.low hts))
    | (go_at_call 118; (with_reducible refine (HC.out _ _ _ _ (by assumption)).mono ?_); rintro e1 w1 (⟨u1, d1, hu1, rfl, hts⟩ | ⟨hu1, rfl, hb1⟩); obtain ⟨y0, y1, y2, y3, y4, y5, y6, y7, y8, y9⟩ := HY.out _ (TS.low hts))
    | (go_at_call 46; (with_reducible refine (HS.out _ _ _ _ (by assumption)).mono ?_); rintro e1 w1 ⟨rfl, hts⟩; obtain ⟨y0, y1, y2, y3, y4, y5, y6, y7, y8, y9⟩ := HY.out _ (TS.low hts))
    | (go_at_call 41; (with_reducible refine (HW.out _ _ _ _ (by assumption)).mono ?_); rintro e1 w1 ⟨rfl, hts⟩; obtain ⟨y0, y1, y2, y3, y4, y5, y6, y7, y8, y9⟩ := HY.out _ (TS.low hts))
    | (go_at_call 125; (with_reducible refine (HOWN.out _ _ _ _ (by assumption)).mono ?_); rintro e1 w1 (⟨u1, d1, hu1, rfl, hts⟩ | ⟨hu1, rfl, hb1⟩); obtain ⟨y0, y1, y2, y3, y4, y5, y6, y7, y8, y9⟩ := HY.out _ (TS.low hts)))
  all_goals go_ret
  all_goals (first
    | exact PostT.step (by first | assumption | rfl) (PostT.step (by first | assumption | rfl) (PostT.step (by first | assumption | rfl) (PostT.step (by first | assumption | rfl) (PostT.step (by first | assumption | rfl) (PostT.done rfl (by assumption))))))
    | exact PostT.step (by first | assumption | rfl) (PostT.step (by first | assumption | rfl) (PostT.step (by first | assumption | rfl) (PostT.step (by first | assumption | rfl) (PostT.step (by first | assumption | rfl) (PostT.stop (by assumption) rfl (by assumption))))))
    | exact PostT.step (by first | assumption | rfl) (PostT.step (by first | assumption | rfl) (PostT.step (by first | assumption | rfl) (PostT.step (by first | assumption | rfl) (PostT.done rfl (by assumption)))))
    | exact PostT.step (by first | assumption | rfl) (PostT.step (by first | assumption | rfl) (PostT.step (by first | assumption | rfl) (PostT.step (by first | assumption | rfl) (PostT.stop (by assumption) rfl (by assumption)))))
    | exact PostT.step (by first | assumption | rfl) (PostT.step (by first | assumption | rfl) (PostT.step (by first | assumption | rfl) (PostT.done rfl (by assumption))))
    | exact PostT.step (by first | assumption | rfl) (PostT.step (by first | assumption | rfl) (PostT.step (by first | assumption | rfl) (PostT.stop (by assumption) rfl (by assumption))))
    | exact PostT.step (by first | assumption | rfl) (PostT.step (by first | assumption | rfl) (PostT.done rfl (by assumption)))
    | exact PostT.step (by first | assumption | rfl) (PostT.step (by first | assumption | rfl) (PostT.stop (by assumption) rfl (by assumption)))
    | exact PostT.step (by first | assumption | rfl) (PostT.done rfl (by assumption))
    | exact PostT.step (by first | assumption | rfl) (PostT.stop (by assumption) rfl (by assumption))
    | exact PostT.done rfl (by assumption)
    | exact PostT.stop (by assumption) rfl (by assumption))
set_option maxRecDepth 100000 in
set_option maxHeartbeats 4000000 in
theorem elemOf_bare (w : Str) (hwl : w.length ≤ 100) (l : Str) (bs : Bool) (d : Nat) (W : World) (h : TS w0 pt l bs c d W) :
    Calls Tryz.prog 124 #[tp w0, .string ⟨w.toArray⟩, .func (.func 126) #[tp w0] #[], .pointer (some ⟨b, p, none⟩)] W (PostT w0 pt l bs c (Go.Proofs.YtedmmgfnplbkjaaGreatDoor.G.elemOf row (subs c row) q w (fun d => some ([], d)) d)) := by
  obtain ⟨k, n, s, a3, n3, c3, a4, n4, c4, a5, n5, c5, e, a7, n7, c7, a8, n8, c8, t, hy, h0, h1, h2, h6, h9, h3, h4, h5, h7, h8, p3, p4, p5, p7, p8⟩ := X.cells
  obtain ⟨y0, y1, y2, y3, y4, y5, y6, y7, y8, y9⟩ := hy W h.low
  have HY := Lib.hid hy
  have HK := Lib.hid (fun l bs d (W : World) (h : TS w0 pt l bs c d W) => key_any (colE_any X.hw.2.2.2.2.2.2.2.1 X.l7 p7) h7 l bs d W h)
  have HC := Lib.hid (fun l bs d (W : World) (h : TS w0 pt l bs c d W) => colE_any X.hw.2.2.2.1 X.l3 p3 l bs d W h)
  have HS := Lib.hid (fun l bs d (W : World) (h : TS w0 pt l bs c d W) => shut_any W h)
  have HW : Hid (∀ l bs d (W : World), TS w0 pt l bs c d W → Calls Tryz.prog 41 #[tp w0, .string ⟨w.toArray⟩] W fun e w' => e = .returned (.bool true) ∧ TS w0 pt (l ++ lay bs [wO, wN w]) true c d w') := fun l bs d W h => by
    have := opens_any ⟨w.toArray⟩ W (by show w.length ≤ _; omega) h
    have e : (⟨w.toArray⟩ : ByteArray).data.toList = w := by simp
    rwa [e] at this
  obtain ⟨own, hown⟩ : ∃ own, (fun d => some ([], d)) = own := ⟨_, rfl⟩
  have HOWN : Hid (∀ l bs d (W : World), TS w0 pt l bs c d W → Calls Tryz.prog 126 #[tp w0, .pointer (some ⟨b, p, none⟩)] W (PostT w0 pt l bs c (own d))) := fun l bs d W h => by rw [← hown]; exact bare_any l bs d W h
  rw [hown]
  unfold Go.Proofs.YtedmmgfnplbkjaaGreatDoor.G.elemOf
  have HT := Lib.hid h
  have hts := HT.out
  clear h hy p3 p4 p5 p7 p8 h0 h1 h2 h3 h4 h5 h6 h7 h8 h9
  go_enter Tryz.func124, Tryz.ntmps124
  go_wp2_with (first
    | (go_at_call 174; (with_reducible refine (HK.out _ _ _ _ (by assumption)).mono ?_); rintro e1 w1 (⟨u1, d1, hu1, rfl, hts⟩ | ⟨hu1, rfl, hb1⟩); obtain ⟨y0, y1, y2, y3, y4, y5, y6, y7, y8, y9⟩ := HY.out _ (TS.low hts))
    | (go_at_call 118; (with_reducible refine (HC.out _ _ _ _ (by assumption)).mono ?_); rintro e1 w1 (⟨u1, d1, hu1, rfl, hts⟩ | ⟨hu1, rfl, hb1⟩); obtain ⟨y0, y1, y2, y3, y4, y5, y6, y7, y8, y9⟩ := HY.out _ (TS.low hts))
    | (go_at_call 46; (with_reducible refine (HS.out _ _ _ _ (by assumption)).mono ?_); rintro e1 w1 ⟨rfl, hts⟩; obtain ⟨y0, y1, y2, y3, y4, y5, y6, y7, y8, y9⟩ := HY.out _ (TS.low hts))
    | (go_at_call 41; (with_reducible refine (HW.out _ _ _ _ (by assumption)).mono ?_); rintro e1 w1 ⟨rfl, hts⟩; obtain ⟨y0, y1, y2, y3, y4, y5, y6, y7, y8, y9⟩ := HY.out _ (TS.low hts))
    | (go_at_call 126; (with_reducible refine (HOWN.out _ _ _ _ (by assumption)).mono ?_); rintro e1 w1 (⟨u1, d1, hu1, rfl, hts⟩ | ⟨hu1, rfl, hb1⟩); obtain ⟨y0, y1, y2, y3, y4, y5, y6, y7, y8, y9⟩ := HY.out _ (TS.low hts)))
  all_goals go_ret
  all_goals (first
    | exact PostT.step (by first | assumption | rfl) (PostT.step (by first | assumption | rfl) (PostT.step (by first | assumption | rfl) (PostT.step (by first | assumption | rfl) (PostT.step (by first | assumption | rfl) (PostT.done rfl (by assumption))))))
    | exact PostT.step (by first | assumption | rfl) (PostT.step (by first | assumption | rfl) (PostT.step (by first | assumption | rfl) (PostT.step (by first | assumption | rfl) (PostT.step (by first | assumption | rfl) (PostT.stop (by assumption) rfl (by assumption))))))
    | exact PostT.step (by first | assumption | rfl) (PostT.step (by first | assumption | rfl) (PostT.step (by first | assumption | rfl) (PostT.step (by first | assumption | rfl) (PostT.done rfl (by assumption)))))
    | exact PostT.step (by first | assumption | rfl) (PostT.step (by first | assumption | rfl) (PostT.step (by first | assumption | rfl) (PostT.step (by first | assumption | rfl) (PostT.stop (by assumption) rfl (by assumption)))))
    | exact PostT.step (by first | assumption | rfl) (PostT.step (by first | assumption | rfl) (PostT.step (by first | assumption | rfl) (PostT.done rfl (by assumption))))
    | exact PostT.step (by first | assumption | rfl) (PostT.step (by first | assumption | rfl) (PostT.step (by first | assumption | rfl) (PostT.stop (by assumption) rfl (by assumption))))
    | exact PostT.step (by first | assumption | rfl) (PostT.step (by first | assumption | rfl) (PostT.done rfl (by assumption)))
    | exact PostT.step (by first | assumption | rfl) (PostT.step (by first | assumption | rfl) (PostT.stop (by assumption) rfl (by assumption)))
    | exact PostT.step (by first | assumption | rfl) (PostT.done rfl (by assumption))
    | exact PostT.step (by first | assumption | rfl) (PostT.stop (by assumption) rfl (by assumption))
    | exact PostT.done rfl (by assumption)
    | exact PostT.stop (by assumption) rfl (by assumption))
set_option maxRecDepth 100000 in
set_option maxHeartbeats 4000000 in
theorem elemOf_placed (w : Str) (hwl : w.length ≤ 100) (l : Str) (bs : Bool) (d : Nat) (W : World) (h : TS w0 pt l bs c d W) :
    Calls Tryz.prog 124 #[tp w0, .string ⟨w.toArray⟩, .func (.func 127) #[tp w0] #[], .pointer (some ⟨b, p, none⟩)] W (PostT w0 pt l bs c (Go.Proofs.YtedmmgfnplbkjaaGreatDoor.G.elemOf row (subs c row) q w (nameT (strT (row (q + 2)))) d)) := by
  obtain ⟨k, n, s, a3, n3, c3, a4, n4, c4, a5, n5, c5, e, a7, n7, c7, a8, n8, c8, t, hy, h0, h1, h2, h6, h9, h3, h4, h5, h7, h8, p3, p4, p5, p7, p8⟩ := X.cells
  obtain ⟨y0, y1, y2, y3, y4, y5, y6, y7, y8, y9⟩ := hy W h.low
  have HY := Lib.hid hy
  have HK := Lib.hid (fun l bs d (W : World) (h : TS w0 pt l bs c d W) => key_any (colE_any X.hw.2.2.2.2.2.2.2.1 X.l7 p7) h7 l bs d W h)
  have HC := Lib.hid (fun l bs d (W : World) (h : TS w0 pt l bs c d W) => colE_any X.hw.2.2.2.1 X.l3 p3 l bs d W h)
  have HS := Lib.hid (fun l bs d (W : World) (h : TS w0 pt l bs c d W) => shut_any W h)
  have HW : Hid (∀ l bs d (W : World), TS w0 pt l bs c d W → Calls Tryz.prog 41 #[tp w0, .string ⟨w.toArray⟩] W fun e w' => e = .returned (.bool true) ∧ TS w0 pt (l ++ lay bs [wO, wN w]) true c d w') := fun l bs d W h => by
    have := opens_any ⟨w.toArray⟩ W (by show w.length ≤ _; omega) h
    have e : (⟨w.toArray⟩ : ByteArray).data.toList = w := by simp
    rwa [e] at this
  obtain ⟨own, hown⟩ : ∃ own, (nameT (strT (row (q + 2)))) = own := ⟨_, rfl⟩
  have HOWN : Hid (∀ l bs d (W : World), TS w0 pt l bs c d W → Calls Tryz.prog 127 #[tp w0, .pointer (some ⟨b, p, none⟩)] W (PostT w0 pt l bs c (own d))) := fun l bs d W h => by rw [← hown]; exact placed_any X l bs d W h
  rw [hown]
  unfold Go.Proofs.YtedmmgfnplbkjaaGreatDoor.G.elemOf
  have HT := Lib.hid h
  have hts := HT.out
  clear h hy p3 p4 p5 p7 p8 h0 h1 h2 h3 h4 h5 h6 h7 h8 h9
  go_enter Tryz.func124, Tryz.ntmps124
  go_wp2_with (first
    | (go_at_call 174; (with_reducible refine (HK.out _ _ _ _ (by assumption)).mono ?_); rintro e1 w1 (⟨u1, d1, hu1, rfl, hts⟩ | ⟨hu1, rfl, hb1⟩); obtain ⟨y0, y1, y2, y3, y4, y5, y6, y7, y8, y9⟩ := HY.out _ (TS.low hts))
    | (go_at_call 118; (with_reducible refine (HC.out _ _ _ _ (by assumption)).mono ?_); rintro e1 w1 (⟨u1, d1, hu1, rfl, hts⟩ | ⟨hu1, rfl, hb1⟩); obtain ⟨y0, y1, y2, y3, y4, y5, y6, y7, y8, y9⟩ := HY.out _ (TS.low hts))
    | (go_at_call 46; (with_reducible refine (HS.out _ _ _ _ (by assumption)).mono ?_); rintro e1 w1 ⟨rfl, hts⟩; obtain ⟨y0, y1, y2, y3, y4, y5, y6, y7, y8, y9⟩ := HY.out _ (TS.low hts))
    | (go_at_call 41; (with_reducible refine (HW.out _ _ _ _ (by assumption)).mono ?_); rintro e1 w1 ⟨rfl, hts⟩; obtain ⟨y0, y1, y2, y3, y4, y5, y6, y7, y8, y9⟩ := HY.out _ (TS.low hts))
    | (go_at_call 127; (with_reducible refine (HOWN.out _ _ _ _ (by assumption)).mono ?_); rintro e1 w1 (⟨u1, d1, hu1, rfl, hts⟩ | ⟨hu1, rfl, hb1⟩); obtain ⟨y0, y1, y2, y3, y4, y5, y6, y7, y8, y9⟩ := HY.out _ (TS.low hts)))
  all_goals go_ret
  all_goals (first
    | exact PostT.step (by first | assumption | rfl) (PostT.step (by first | assumption | rfl) (PostT.step (by first | assumption | rfl) (PostT.step (by first | assumption | rfl) (PostT.step (by first | assumption | rfl) (PostT.done rfl (by assumption))))))
    | exact PostT.step (by first | assumption | rfl) (PostT.step (by first | assumption | rfl) (PostT.step (by first | assumption | rfl) (PostT.step (by first | assumption | rfl) (PostT.step (by first | assumption | rfl) (PostT.stop (by assumption) rfl (by assumption))))))
    | exact PostT.step (by first | assumption | rfl) (PostT.step (by first | assumption | rfl) (PostT.step (by first | assumption | rfl) (PostT.step (by first | assumption | rfl) (PostT.done rfl (by assumption)))))
    | exact PostT.step (by first | assumption | rfl) (PostT.step (by first | assumption | rfl) (PostT.step (by first | assumption | rfl) (PostT.step (by first | assumption | rfl) (PostT.stop (by assumption) rfl (by assumption)))))
    | exact PostT.step (by first | assumption | rfl) (PostT.step (by first | assumption | rfl) (PostT.step (by first | assumption | rfl) (PostT.done rfl (by assumption))))
    | exact PostT.step (by first | assumption | rfl) (PostT.step (by first | assumption | rfl) (PostT.step (by first | assumption | rfl) (PostT.stop (by assumption) rfl (by assumption))))
    | exact PostT.step (by first | assumption | rfl) (PostT.step (by first | assumption | rfl) (PostT.done rfl (by assumption)))
    | exact PostT.step (by first | assumption | rfl) (PostT.step (by first | assumption | rfl) (PostT.stop (by assumption) rfl (by assumption)))
    | exact PostT.step (by first | assumption | rfl) (PostT.done rfl (by assumption))
    | exact PostT.step (by first | assumption | rfl) (PostT.stop (by assumption) rfl (by assumption))
    | exact PostT.done rfl (by assumption)
    | exact PostT.stop (by assumption) rfl (by assumption))
set_option maxRecDepth 100000 in
set_option maxHeartbeats 4000000 in
theorem elemOf_gives (w : Str) (hwl : w.length ≤ 100) (l : Str) (bs : Bool) (d : Nat) (W : World) (h : TS w0 pt l bs c d W) :
    Calls Tryz.prog 124 #[tp w0, .string ⟨w.toArray⟩, .func (.func 128) #[tp w0] #[], .pointer (some ⟨b, p, none⟩)] W (PostT w0 pt l bs c (Go.Proofs.YtedmmgfnplbkjaaGreatDoor.G.elemOf row (subs c row) q w (givesT row (subs c row) q) d)) := by
  obtain ⟨k, n, s, a3, n3, c3, a4, n4, c4, a5, n5, c5, e, a7, n7, c7, a8, n8, c8, t, hy, h0, h1, h2, h6, h9, h3, h4, h5, h7, h8, p3, p4, p5, p7, p8⟩ := X.cells
  obtain ⟨y0, y1, y2, y3, y4, y5, y6, y7, y8, y9⟩ := hy W h.low
  have HY := Lib.hid hy
  have HK := Lib.hid (fun l bs d (W : World) (h : TS w0 pt l bs c d W) => key_any (colE_any X.hw.2.2.2.2.2.2.2.1 X.l7 p7) h7 l bs d W h)
  have HC := Lib.hid (fun l bs d (W : World) (h : TS w0 pt l bs c d W) => colE_any X.hw.2.2.2.1 X.l3 p3 l bs d W h)
  have HS := Lib.hid (fun l bs d (W : World) (h : TS w0 pt l bs c d W) => shut_any W h)
  have HW : Hid (∀ l bs d (W : World), TS w0 pt l bs c d W → Calls Tryz.prog 41 #[tp w0, .string ⟨w.toArray⟩] W fun e w' => e = .returned (.bool true) ∧ TS w0 pt (l ++ lay bs [wO, wN w]) true c d w') := fun l bs d W h => by
    have := opens_any ⟨w.toArray⟩ W (by show w.length ≤ _; omega) h
    have e : (⟨w.toArray⟩ : ByteArray).data.toList = w := by simp
    rwa [e] at this
  obtain ⟨own, hown⟩ : ∃ own, (givesT row (subs c row) q) = own := ⟨_, rfl⟩
  have HOWN : Hid (∀ l bs d (W : World), TS w0 pt l bs c d W → Calls Tryz.prog 128 #[tp w0, .pointer (some ⟨b, p, none⟩)] W (PostT w0 pt l bs c (own d))) := fun l bs d W h => by rw [← hown]; exact gives_any X l bs d W h
  rw [hown]
  unfold Go.Proofs.YtedmmgfnplbkjaaGreatDoor.G.elemOf
  have HT := Lib.hid h
  have hts := HT.out
  clear h hy p3 p4 p5 p7 p8 h0 h1 h2 h3 h4 h5 h6 h7 h8 h9
  go_enter Tryz.func124, Tryz.ntmps124
  go_wp2_with (first
    | (go_at_call 174; (with_reducible refine (HK.out _ _ _ _ (by assumption)).mono ?_); rintro e1 w1 (⟨u1, d1, hu1, rfl, hts⟩ | ⟨hu1, rfl, hb1⟩); obtain ⟨y0, y1, y2, y3, y4, y5, y6, y7, y8, y9⟩ := HY.out _ (TS.low hts))
    | (go_at_call 118; (with_reducible refine (HC.out _ _ _ _ (by assumption)).mono ?_); rintro e1 w1 (⟨u1, d1, hu1, rfl, hts⟩ | ⟨hu1, rfl, hb1⟩); obtain ⟨y0, y1, y2, y3, y4, y5, y6, y7, y8, y9⟩ := HY.out _ (TS.low hts))
    | (go_at_call 46; (with_reducible refine (HS.out _ _ _ _ (by assumption)).mono ?_); rintro e1 w1 ⟨rfl, hts⟩; obtain ⟨y0, y1, y2, y3, y4, y5, y6, y7, y8, y9⟩ := HY.out _ (TS.low hts))
    | (go_at_call 41; (with_reducible refine (HW.out _ _ _ _ (by assumption)).mono ?_); rintro e1 w1 ⟨rfl, hts⟩; obtain ⟨y0, y1, y2, y3, y4, y5, y6, y7, y8, y9⟩ := HY.out _ (TS.low hts))
    | (go_at_call 128; (with_reducible refine (HOWN.out _ _ _ _ (by assumption)).mono ?_); rintro e1 w1 (⟨u1, d1, hu1, rfl, hts⟩ | ⟨hu1, rfl, hb1⟩); obtain ⟨y0, y1, y2, y3, y4, y5, y6, y7, y8, y9⟩ := HY.out _ (TS.low hts)))
  all_goals go_ret
  all_goals (first
    | exact PostT.step (by first | assumption | rfl) (PostT.step (by first | assumption | rfl) (PostT.step (by first | assumption | rfl) (PostT.step (by first | assumption | rfl) (PostT.step (by first | assumption | rfl) (PostT.done rfl (by assumption))))))
    | exact PostT.step (by first | assumption | rfl) (PostT.step (by first | assumption | rfl) (PostT.step (by first | assumption | rfl) (PostT.step (by first | assumption | rfl) (PostT.step (by first | assumption | rfl) (PostT.stop (by assumption) rfl (by assumption))))))
    | exact PostT.step (by first | assumption | rfl) (PostT.step (by first | assumption | rfl) (PostT.step (by first | assumption | rfl) (PostT.step (by first | assumption | rfl) (PostT.done rfl (by assumption)))))
    | exact PostT.step (by first | assumption | rfl) (PostT.step (by first | assumption | rfl) (PostT.step (by first | assumption | rfl) (PostT.step (by first | assumption | rfl) (PostT.stop (by assumption) rfl (by assumption)))))
    | exact PostT.step (by first | assumption | rfl) (PostT.step (by first | assumption | rfl) (PostT.step (by first | assumption | rfl) (PostT.done rfl (by assumption))))
    | exact PostT.step (by first | assumption | rfl) (PostT.step (by first | assumption | rfl) (PostT.step (by first | assumption | rfl) (PostT.stop (by assumption) rfl (by assumption))))
    | exact PostT.step (by first | assumption | rfl) (PostT.step (by first | assumption | rfl) (PostT.done rfl (by assumption)))
    | exact PostT.step (by first | assumption | rfl) (PostT.step (by first | assumption | rfl) (PostT.stop (by assumption) rfl (by assumption)))
    | exact PostT.step (by first | assumption | rfl) (PostT.done rfl (by assumption))
    | exact PostT.step (by first | assumption | rfl) (PostT.stop (by assumption) rfl (by assumption))
    | exact PostT.done rfl (by assumption)
    | exact PostT.stop (by assumption) rfl (by assumption))
set_option maxRecDepth 100000 in
set_option maxHeartbeats 4000000 in
theorem elemOf_guards (w : Str) (hwl : w.length ≤ 100) (l : Str) (bs : Bool) (d : Nat) (W : World) (h : TS w0 pt l bs c d W) :
    Calls Tryz.prog 124 #[tp w0, .string ⟨w.toArray⟩, .func (.func 129) #[tp w0] #[], .pointer (some ⟨b, p, none⟩)] W (PostT w0 pt l bs c (Go.Proofs.YtedmmgfnplbkjaaGreatDoor.G.elemOf row (subs c row) q w (valsT row (subs c row) [[97, 103, 97, 105, 110], [101, 108, 115, 101]] q) d)) := by
  obtain ⟨k, n, s, a3, n3, c3, a4, n4, c4, a5, n5, c5, e, a7, n7, c7, a8, n8, c8, t, hy, h0, h1, h2, h6, h9, h3, h4, h5, h7, h8, p3, p4, p5, p7, p8⟩ := X.cells
  obtain ⟨y0, y1, y2, y3, y4, y5, y6, y7, y8, y9⟩ := hy W h.low
  have HY := Lib.hid hy
  have HK := Lib.hid (fun l bs d (W : World) (h : TS w0 pt l bs c d W) => key_any (colE_any X.hw.2.2.2.2.2.2.2.1 X.l7 p7) h7 l bs d W h)
  have HC := Lib.hid (fun l bs d (W : World) (h : TS w0 pt l bs c d W) => colE_any X.hw.2.2.2.1 X.l3 p3 l bs d W h)
  have HS := Lib.hid (fun l bs d (W : World) (h : TS w0 pt l bs c d W) => shut_any W h)
  have HW : Hid (∀ l bs d (W : World), TS w0 pt l bs c d W → Calls Tryz.prog 41 #[tp w0, .string ⟨w.toArray⟩] W fun e w' => e = .returned (.bool true) ∧ TS w0 pt (l ++ lay bs [wO, wN w]) true c d w') := fun l bs d W h => by
    have := opens_any ⟨w.toArray⟩ W (by show w.length ≤ _; omega) h
    have e : (⟨w.toArray⟩ : ByteArray).data.toList = w := by simp
    rwa [e] at this
  obtain ⟨own, hown⟩ : ∃ own, (valsT row (subs c row) [[97, 103, 97, 105, 110], [101, 108, 115, 101]] q) = own := ⟨_, rfl⟩
  have HOWN : Hid (∀ l bs d (W : World), TS w0 pt l bs c d W → Calls Tryz.prog 129 #[tp w0, .pointer (some ⟨b, p, none⟩)] W (PostT w0 pt l bs c (own d))) := fun l bs d W h => by rw [← hown]; exact guards_any X l bs d W h
  rw [hown]
  unfold Go.Proofs.YtedmmgfnplbkjaaGreatDoor.G.elemOf
  have HT := Lib.hid h
  have hts := HT.out
  clear h hy p3 p4 p5 p7 p8 h0 h1 h2 h3 h4 h5 h6 h7 h8 h9
  go_enter Tryz.func124, Tryz.ntmps124
  go_wp2_with (first
    | (go_at_call 174; (with_reducible refine (HK.out _ _ _ _ (by assumption)).mono ?_); rintro e1 w1 (⟨u1, d1, hu1, rfl, hts⟩ | ⟨hu1, rfl, hb1⟩); obtain ⟨y0, y1, y2, y3, y4, y5, y6, y7, y8, y9⟩ := HY.out _ (TS.low hts))
    | (go_at_call 118; (with_reducible refine (HC.out _ _ _ _ (by assumption)).mono ?_); rintro e1 w1 (⟨u1, d1, hu1, rfl, hts⟩ | ⟨hu1, rfl, hb1⟩); obtain ⟨y0, y1, y2, y3, y4, y5, y6, y7, y8, y9⟩ := HY.out _ (TS.low hts))
    | (go_at_call 46; (with_reducible refine (HS.out _ _ _ _ (by assumption)).mono ?_); rintro e1 w1 ⟨rfl, hts⟩; obtain ⟨y0, y1, y2, y3, y4, y5, y6, y7, y8, y9⟩ := HY.out _ (TS.low hts))
    | (go_at_call 41; (with_reducible refine (HW.out _ _ _ _ (by assumption)).mono ?_); rintro e1 w1 ⟨rfl, hts⟩; obtain ⟨y0, y1, y2, y3, y4, y5, y6, y7, y8, y9⟩ := HY.out _ (TS.low hts))
    | (go_at_call 129; (with_reducible refine (HOWN.out _ _ _ _ (by assumption)).mono ?_); rintro e1 w1 (⟨u1, d1, hu1, rfl, hts⟩ | ⟨hu1, rfl, hb1⟩); obtain ⟨y0, y1, y2, y3, y4, y5, y6, y7, y8, y9⟩ := HY.out _ (TS.low hts)))
  all_goals go_ret
  all_goals (first
    | exact PostT.step (by first | assumption | rfl) (PostT.step (by first | assumption | rfl) (PostT.step (by first | assumption | rfl) (PostT.step (by first | assumption | rfl) (PostT.step (by first | assumption | rfl) (PostT.done rfl (by assumption))))))
    | exact PostT.step (by first | assumption | rfl) (PostT.step (by first | assumption | rfl) (PostT.step (by first | assumption | rfl) (PostT.step (by first | assumption | rfl) (PostT.step (by first | assumption | rfl) (PostT.stop (by assumption) rfl (by assumption))))))
    | exact PostT.step (by first | assumption | rfl) (PostT.step (by first | assumption | rfl) (PostT.step (by first | assumption | rfl) (PostT.step (by first | assumption | rfl) (PostT.done rfl (by assumption)))))
    | exact PostT.step (by first | assumption | rfl) (PostT.step (by first | assumption | rfl) (PostT.step (by first | assumption | rfl) (PostT.step (by first | assumption | rfl) (PostT.stop (by assumption) rfl (by assumption)))))
    | exact PostT.step (by first | assumption | rfl) (PostT.step (by first | assumption | rfl) (PostT.step (by first | assumption | rfl) (PostT.done rfl (by assumption))))
    | exact PostT.step (by first | assumption | rfl) (PostT.step (by first | assumption | rfl) (PostT.step (by first | assumption | rfl) (PostT.stop (by assumption) rfl (by assumption))))
    | exact PostT.step (by first | assumption | rfl) (PostT.step (by first | assumption | rfl) (PostT.done rfl (by assumption)))
    | exact PostT.step (by first | assumption | rfl) (PostT.step (by first | assumption | rfl) (PostT.stop (by assumption) rfl (by assumption)))
    | exact PostT.step (by first | assumption | rfl) (PostT.done rfl (by assumption))
    | exact PostT.step (by first | assumption | rfl) (PostT.stop (by assumption) rfl (by assumption))
    | exact PostT.done rfl (by assumption)
    | exact PostT.stop (by assumption) rfl (by assumption))
set_option maxRecDepth 100000 in
set_option maxHeartbeats 4000000 in
theorem elemOf_waits (w : Str) (hwl : w.length ≤ 100) (l : Str) (bs : Bool) (d : Nat) (W : World) (h : TS w0 pt l bs c d W) :
    Calls Tryz.prog 124 #[tp w0, .string ⟨w.toArray⟩, .func (.func 130) #[tp w0] #[], .pointer (some ⟨b, p, none⟩)] W (PostT w0 pt l bs c (Go.Proofs.YtedmmgfnplbkjaaGreatDoor.G.elemOf row (subs c row) q w (valsT row (subs c row) [[101, 108, 115, 101]] q) d)) := by
  obtain ⟨k, n, s, a3, n3, c3, a4, n4, c4, a5, n5, c5, e, a7, n7, c7, a8, n8, c8, t, hy, h0, h1, h2, h6, h9, h3, h4, h5, h7, h8, p3, p4, p5, p7, p8⟩ := X.cells
  obtain ⟨y0, y1, y2, y3, y4, y5, y6, y7, y8, y9⟩ := hy W h.low
  have HY := Lib.hid hy
  have HK := Lib.hid (fun l bs d (W : World) (h : TS w0 pt l bs c d W) => key_any (colE_any X.hw.2.2.2.2.2.2.2.1 X.l7 p7) h7 l bs d W h)
  have HC := Lib.hid (fun l bs d (W : World) (h : TS w0 pt l bs c d W) => colE_any X.hw.2.2.2.1 X.l3 p3 l bs d W h)
  have HS := Lib.hid (fun l bs d (W : World) (h : TS w0 pt l bs c d W) => shut_any W h)
  have HW : Hid (∀ l bs d (W : World), TS w0 pt l bs c d W → Calls Tryz.prog 41 #[tp w0, .string ⟨w.toArray⟩] W fun e w' => e = .returned (.bool true) ∧ TS w0 pt (l ++ lay bs [wO, wN w]) true c d w') := fun l bs d W h => by
    have := opens_any ⟨w.toArray⟩ W (by show w.length ≤ _; omega) h
    have e : (⟨w.toArray⟩ : ByteArray).data.toList = w := by simp
    rwa [e] at this
  obtain ⟨own, hown⟩ : ∃ own, (valsT row (subs c row) [[101, 108, 115, 101]] q) = own := ⟨_, rfl⟩
  have HOWN : Hid (∀ l bs d (W : World), TS w0 pt l bs c d W → Calls Tryz.prog 130 #[tp w0, .pointer (some ⟨b, p, none⟩)] W (PostT w0 pt l bs c (own d))) := fun l bs d W h => by rw [← hown]; exact waits_any X l bs d W h
  rw [hown]
  unfold Go.Proofs.YtedmmgfnplbkjaaGreatDoor.G.elemOf
  have HT := Lib.hid h
  have hts := HT.out
  clear h hy p3 p4 p5 p7 p8 h0 h1 h2 h3 h4 h5 h6 h7 h8 h9
  go_enter Tryz.func124, Tryz.ntmps124
  go_wp2_with (first
    | (go_at_call 174; (with_reducible refine (HK.out _ _ _ _ (by assumption)).mono ?_); rintro e1 w1 (⟨u1, d1, hu1, rfl, hts⟩ | ⟨hu1, rfl, hb1⟩); obtain ⟨y0, y1, y2, y3, y4, y5, y6, y7, y8, y9⟩ := HY.out _ (TS.low hts))
    | (go_at_call 118; (with_reducible refine (HC.out _ _ _ _ (by assumption)).mono ?_); rintro e1 w1 (⟨u1, d1, hu1, rfl, hts⟩ | ⟨hu1, rfl, hb1⟩); obtain ⟨y0, y1, y2, y3, y4, y5, y6, y7, y8, y9⟩ := HY.out _ (TS.low hts))
    | (go_at_call 46; (with_reducible refine (HS.out _ _ _ _ (by assumption)).mono ?_); rintro e1 w1 ⟨rfl, hts⟩; obtain ⟨y0, y1, y2, y3, y4, y5, y6, y7, y8, y9⟩ := HY.out _ (TS.low hts))
    | (go_at_call 41; (with_reducible refine (HW.out _ _ _ _ (by assumption)).mono ?_); rintro e1 w1 ⟨rfl, hts⟩; obtain ⟨y0, y1, y2, y3, y4, y5, y6, y7, y8, y9⟩ := HY.out _ (TS.low hts))
    | (go_at_call 130; (with_reducible refine (HOWN.out _ _ _ _ (by assumption)).mono ?_); rintro e1 w1 (⟨u1, d1, hu1, rfl, hts⟩ | ⟨hu1, rfl, hb1⟩); obtain ⟨y0, y1, y2, y3, y4, y5, y6, y7, y8, y9⟩ := HY.out _ (TS.low hts)))
  all_goals go_ret
  all_goals (first
    | exact PostT.step (by first | assumption | rfl) (PostT.step (by first | assumption | rfl) (PostT.step (by first | assumption | rfl) (PostT.step (by first | assumption | rfl) (PostT.step (by first | assumption | rfl) (PostT.done rfl (by assumption))))))
    | exact PostT.step (by first | assumption | rfl) (PostT.step (by first | assumption | rfl) (PostT.step (by first | assumption | rfl) (PostT.step (by first | assumption | rfl) (PostT.step (by first | assumption | rfl) (PostT.stop (by assumption) rfl (by assumption))))))
    | exact PostT.step (by first | assumption | rfl) (PostT.step (by first | assumption | rfl) (PostT.step (by first | assumption | rfl) (PostT.step (by first | assumption | rfl) (PostT.done rfl (by assumption)))))
    | exact PostT.step (by first | assumption | rfl) (PostT.step (by first | assumption | rfl) (PostT.step (by first | assumption | rfl) (PostT.step (by first | assumption | rfl) (PostT.stop (by assumption) rfl (by assumption)))))
    | exact PostT.step (by first | assumption | rfl) (PostT.step (by first | assumption | rfl) (PostT.step (by first | assumption | rfl) (PostT.done rfl (by assumption))))
    | exact PostT.step (by first | assumption | rfl) (PostT.step (by first | assumption | rfl) (PostT.step (by first | assumption | rfl) (PostT.stop (by assumption) rfl (by assumption))))
    | exact PostT.step (by first | assumption | rfl) (PostT.step (by first | assumption | rfl) (PostT.done rfl (by assumption)))
    | exact PostT.step (by first | assumption | rfl) (PostT.step (by first | assumption | rfl) (PostT.stop (by assumption) rfl (by assumption)))
    | exact PostT.step (by first | assumption | rfl) (PostT.done rfl (by assumption))
    | exact PostT.step (by first | assumption | rfl) (PostT.stop (by assumption) rfl (by assumption))
    | exact PostT.done rfl (by assumption)
    | exact PostT.stop (by assumption) rfl (by assumption))
theorem fieldsX {W : World} (hb : Below w0.heap.size w0 W) (n : Nat) : Calls Tryz.prog 73 #[.pointer (some ⟨b, p, none⟩)] (W.drewN n) fun e w' => e = .returned (.int .u64 (fvE row q)) ∧ ∃ m, w' = W.drewN m :=
  (fieldsE_any ((X.ep.cells X.hw hb).drew n)).mono fun e w' ⟨he, m, hm⟩ => ⟨he, n + m, by rw [hm, drew_add]⟩
set_option maxRecDepth 100000 in
set_option maxHeartbeats 8000000 in
theorem elem_any (l : Str) (bs : Bool) (d : Nat) (W : World) (h : TS w0 pt l bs c d W) :
    Calls Tryz.prog 78 #[tp w0, .pointer (some ⟨b, p, none⟩)] W (PostT w0 pt l bs c (elemT row (subs c row) q d)) := by
  obtain ⟨k, n, s, a3, n3, c3, a4, n4, c4, a5, n5, c5, e, a7, n7, c7, a8, n8, c8, t, hy, h0, h1, h2, h6, h9, h3, h4, h5, h7, h8, p3, p4, p5, p7, p8⟩ := X.cells
  obtain ⟨y0, y1, y2, y3, y4, y5, y6, y7, y8, y9⟩ := hy W h.low
  have HY := Lib.hid hy
  have HD := Lib.hid (fun n => TS.keep h (below_drewNP W n))
  have HF := Lib.hid (fieldsX X h.low)
  have HN := Lib.hid (fun (W : World) => nmL_any e W)
  obtain ⟨v1, hv1⟩ : ∃ v, fvE row q = v := ⟨_, rfl⟩
  obtain ⟨v2, hv2⟩ : ∃ v, nmL e = v := ⟨_, rfl⟩
  have hfit := fitL_is e row q
  have HR : Hid (elemT row (subs c row) q d = if fitE (namedL e) row q = false then none
    else if e = 1 then Go.Proofs.YtedmmgfnplbkjaaGreatDoor.G.elemOf row (subs c row) q [104, 111, 115, 116] (taggedT row (subs c row) q) d
    else if e = 2 then Go.Proofs.YtedmmgfnplbkjaaGreatDoor.G.elemOf row (subs c row) q [110, 101, 119] (taggedT row (subs c row) q) d
    else if e = 3 then Go.Proofs.YtedmmgfnplbkjaaGreatDoor.G.elemOf row (subs c row) q [112, 117, 114, 101] (taggedT row (subs c row) q) d
    else if e = 4 then Go.Proofs.YtedmmgfnplbkjaaGreatDoor.G.elemOf row (subs c row) q [102, 114, 97, 103] (fun d => some ([], d)) d
    else if e = 5 then Go.Proofs.YtedmmgfnplbkjaaGreatDoor.G.elemOf row (subs c row) q [112, 111, 114, 116, 97, 108] (nameT (strT (row (q + 2)))) d
    else if e = 6 then Go.Proofs.YtedmmgfnplbkjaaGreatDoor.G.elemOf row (subs c row) q [103, 105, 118, 101] (givesT row (subs c row) q) d
    else if e = 7 then Go.Proofs.YtedmmgfnplbkjaaGreatDoor.G.elemOf row (subs c row) q [103, 117, 97, 114, 100] (valsT row (subs c row) [[97, 103, 97, 105, 110], [101, 108, 115, 101]] q) d
    else if e = 8 then Go.Proofs.YtedmmgfnplbkjaaGreatDoor.G.elemOf row (subs c row) q [119, 97, 105, 116] (valsT row (subs c row) [[101, 108, 115, 101]] q) d
    else none) := by
    rw [Hid, ← h6]
    rfl
  rw [HR.out]
  rw [hv1] at HF hfit
  rw [hv2] at HN hfit
  obtain ⟨fx, hfx⟩ : ∃ x, fitE (namedL e) row q = x := ⟨_, rfl⟩
  rw [hfx] at hfit ⊢
  replace hfit : (bits BinOp.andNot IntKind.u64 v1 v2 != 0) = !fx := hfit
  clear HR hfx
  have HE1 := Lib.hid (fun l bs d (W : World) (h : TS w0 pt l bs c d W) => elemOf_tagged X [104, 111, 115, 116] (by decide) l bs d W h)
  have HE2 := Lib.hid (fun l bs d (W : World) (h : TS w0 pt l bs c d W) => elemOf_tagged X [110, 101, 119] (by decide) l bs d W h)
  have HE3 := Lib.hid (fun l bs d (W : World) (h : TS w0 pt l bs c d W) => elemOf_tagged X [112, 117, 114, 101] (by decide) l bs d W h)
  have HE4 := Lib.hid (fun l bs d (W : World) (h : TS w0 pt l bs c d W) => elemOf_bare X [102, 114, 97, 103] (by decide) l bs d W h)
  have HE5 := Lib.hid (fun l bs d (W : World) (h : TS w0 pt l bs c d W) => elemOf_placed X [112, 111, 114, 116, 97, 108] (by decide) l bs d W h)
  have HE6 := Lib.hid (fun l bs d (W : World) (h : TS w0 pt l bs c d W) => elemOf_gives X [103, 105, 118, 101] (by decide) l bs d W h)
  have HE7 := Lib.hid (fun l bs d (W : World) (h : TS w0 pt l bs c d W) => elemOf_guards X [103, 117, 97, 114, 100] (by decide) l bs d W h)
  have HE8 := Lib.hid (fun l bs d (W : World) (h : TS w0 pt l bs c d W) => elemOf_waits X [119, 97, 105, 116] (by decide) l bs d W h)
  clear h hy p3 p4 p5 p7 p8 h0 h1 h2 h3 h4 h5 h6 h7 h8 h9 hv1 hv2
  cases fx with
  | false =>
    rw [if_pos rfl]
    go_enter Tryz.func78, Tryz.ntmps78
    go_wp2
    go_quiet (first
      | (go_at_call 73; exact HF.out _)
      | (go_at_call 123; exact Calls.quiet_of_same (HN.out _)))
    have hts := HD.out nq
    obtain ⟨y0, y1, y2, y3, y4, y5, y6, y7, y8, y9⟩ := HY.out _ (TS.low hts)
    go_wp2
    go_ret
    exact .inr ⟨rfl, rfl, hts.low⟩
  | true =>
    rw [if_neg (by simp)]
    by_cases e1 : e = 1
    · subst e1
      rw [if_pos rfl]
      go_enter Tryz.func78, Tryz.ntmps78
      go_wp2
      go_quiet (first
        | (go_at_call 73; exact HF.out _)
        | (go_at_call 123; exact Calls.quiet_of_same (HN.out _)))
      have hts := HD.out nq
      obtain ⟨y0, y1, y2, y3, y4, y5, y6, y7, y8, y9⟩ := HY.out _ (TS.low hts)
      go_wp2_with (go_at_call 124; (with_reducible refine (HE1.out _ _ _ _ (by assumption)).mono ?_); rintro e1 w1 (⟨u1, d1, hu1, rfl, hts⟩ | ⟨hu1, rfl, hb1⟩))
      all_goals go_ret
      all_goals (first
          | exact .inl ⟨_, _, (by first | assumption | rfl), rfl, (by assumption)⟩
          | exact .inr ⟨(by first | assumption | rfl), rfl, (by assumption)⟩
          | (cases hu1; done))
    rw [if_neg e1]
    have f1 : (e == 1) = false := by simpa using e1
    by_cases e2 : e = 2
    · subst e2
      rw [if_pos rfl]
      go_enter Tryz.func78, Tryz.ntmps78
      go_wp2
      go_quiet (first
        | (go_at_call 73; exact HF.out _)
        | (go_at_call 123; exact Calls.quiet_of_same (HN.out _)))
      have hts := HD.out nq
      obtain ⟨y0, y1, y2, y3, y4, y5, y6, y7, y8, y9⟩ := HY.out _ (TS.low hts)
      go_wp2_with (go_at_call 124; (with_reducible refine (HE2.out _ _ _ _ (by assumption)).mono ?_); rintro e1 w1 (⟨u1, d1, hu1, rfl, hts⟩ | ⟨hu1, rfl, hb1⟩))
      all_goals go_ret
      all_goals (first
          | exact .inl ⟨_, _, (by first | assumption | rfl), rfl, (by assumption)⟩
          | exact .inr ⟨(by first | assumption | rfl), rfl, (by assumption)⟩
          | (cases hu1; done))
    rw [if_neg e2]
    have f2 : (e == 2) = false := by simpa using e2
    by_cases e3 : e = 3
    · subst e3
      rw [if_pos rfl]
      go_enter Tryz.func78, Tryz.ntmps78
      go_wp2
      go_quiet (first
        | (go_at_call 73; exact HF.out _)
        | (go_at_call 123; exact Calls.quiet_of_same (HN.out _)))
      have hts := HD.out nq
      obtain ⟨y0, y1, y2, y3, y4, y5, y6, y7, y8, y9⟩ := HY.out _ (TS.low hts)
      go_wp2_with (go_at_call 124; (with_reducible refine (HE3.out _ _ _ _ (by assumption)).mono ?_); rintro e1 w1 (⟨u1, d1, hu1, rfl, hts⟩ | ⟨hu1, rfl, hb1⟩))
      all_goals go_ret
      all_goals (first
          | exact .inl ⟨_, _, (by first | assumption | rfl), rfl, (by assumption)⟩
          | exact .inr ⟨(by first | assumption | rfl), rfl, (by assumption)⟩
          | (cases hu1; done))
    rw [if_neg e3]
    have f3 : (e == 3) = false := by simpa using e3
    by_cases e4 : e = 4
    · subst e4
      rw [if_pos rfl]
      go_enter Tryz.func78, Tryz.ntmps78
      go_wp2
      go_quiet (first
        | (go_at_call 73; exact HF.out _)
        | (go_at_call 123; exact Calls.quiet_of_same (HN.out _)))
      have hts := HD.out nq
      obtain ⟨y0, y1, y2, y3, y4, y5, y6, y7, y8, y9⟩ := HY.out _ (TS.low hts)
      go_wp2_with (go_at_call 124; (with_reducible refine (HE4.out _ _ _ _ (by assumption)).mono ?_); rintro e1 w1 (⟨u1, d1, hu1, rfl, hts⟩ | ⟨hu1, rfl, hb1⟩))
      all_goals go_ret
      all_goals (first
          | exact .inl ⟨_, _, (by first | assumption | rfl), rfl, (by assumption)⟩
          | exact .inr ⟨(by first | assumption | rfl), rfl, (by assumption)⟩
          | (cases hu1; done))
    rw [if_neg e4]
    have f4 : (e == 4) = false := by simpa using e4
    by_cases e5 : e = 5
    · subst e5
      rw [if_pos rfl]
      go_enter Tryz.func78, Tryz.ntmps78
      go_wp2
      go_quiet (first
        | (go_at_call 73; exact HF.out _)
        | (go_at_call 123; exact Calls.quiet_of_same (HN.out _)))
      have hts := HD.out nq
      obtain ⟨y0, y1, y2, y3, y4, y5, y6, y7, y8, y9⟩ := HY.out _ (TS.low hts)
      go_wp2_with (go_at_call 124; (with_reducible refine (HE5.out _ _ _ _ (by assumption)).mono ?_); rintro e1 w1 (⟨u1, d1, hu1, rfl, hts⟩ | ⟨hu1, rfl, hb1⟩))
      all_goals go_ret
      all_goals (first
          | exact .inl ⟨_, _, (by first | assumption | rfl), rfl, (by assumption)⟩
          | exact .inr ⟨(by first | assumption | rfl), rfl, (by assumption)⟩
          | (cases hu1; done))
    rw [if_neg e5]
    have f5 : (e == 5) = false := by simpa using e5
    by_cases e6 : e = 6
    · subst e6
      rw [if_pos rfl]
      go_enter Tryz.func78, Tryz.ntmps78
      go_wp2
      go_quiet (first
        | (go_at_call 73; exact HF.out _)
        | (go_at_call 123; exact Calls.quiet_of_same (HN.out _)))
      have hts := HD.out nq
      obtain ⟨y0, y1, y2, y3, y4, y5, y6, y7, y8, y9⟩ := HY.out _ (TS.low hts)
      go_wp2_with (go_at_call 124; (with_reducible refine (HE6.out _ _ _ _ (by assumption)).mono ?_); rintro e1 w1 (⟨u1, d1, hu1, rfl, hts⟩ | ⟨hu1, rfl, hb1⟩))
      all_goals go_ret
      all_goals (first
          | exact .inl ⟨_, _, (by first | assumption | rfl), rfl, (by assumption)⟩
          | exact .inr ⟨(by first | assumption | rfl), rfl, (by assumption)⟩
          | (cases hu1; done))
    rw [if_neg e6]
    have f6 : (e == 6) = false := by simpa using e6
    by_cases e7 : e = 7
    · subst e7
      rw [if_pos rfl]
      go_enter Tryz.func78, Tryz.ntmps78
      go_wp2
      go_quiet (first
        | (go_at_call 73; exact HF.out _)
        | (go_at_call 123; exact Calls.quiet_of_same (HN.out _)))
      have hts := HD.out nq
      obtain ⟨y0, y1, y2, y3, y4, y5, y6, y7, y8, y9⟩ := HY.out _ (TS.low hts)
      go_wp2_with (go_at_call 124; (with_reducible refine (HE7.out _ _ _ _ (by assumption)).mono ?_); rintro e1 w1 (⟨u1, d1, hu1, rfl, hts⟩ | ⟨hu1, rfl, hb1⟩))
      all_goals go_ret
      all_goals (first
          | exact .inl ⟨_, _, (by first | assumption | rfl), rfl, (by assumption)⟩
          | exact .inr ⟨(by first | assumption | rfl), rfl, (by assumption)⟩
          | (cases hu1; done))
    rw [if_neg e7]
    have f7 : (e == 7) = false := by simpa using e7
    by_cases e8 : e = 8
    · subst e8
      rw [if_pos rfl]
      go_enter Tryz.func78, Tryz.ntmps78
      go_wp2
      go_quiet (first
        | (go_at_call 73; exact HF.out _)
        | (go_at_call 123; exact Calls.quiet_of_same (HN.out _)))
      have hts := HD.out nq
      obtain ⟨y0, y1, y2, y3, y4, y5, y6, y7, y8, y9⟩ := HY.out _ (TS.low hts)
      go_wp2_with (go_at_call 124; (with_reducible refine (HE8.out _ _ _ _ (by assumption)).mono ?_); rintro e1 w1 (⟨u1, d1, hu1, rfl, hts⟩ | ⟨hu1, rfl, hb1⟩))
      all_goals go_ret
      all_goals (first
          | exact .inl ⟨_, _, (by first | assumption | rfl), rfl, (by assumption)⟩
          | exact .inr ⟨(by first | assumption | rfl), rfl, (by assumption)⟩
          | (cases hu1; done))
    rw [if_neg e8]
    have f8 : (e == 8) = false := by simpa using e8
    go_enter Tryz.func78, Tryz.ntmps78
    go_wp2
    go_quiet (first
      | (go_at_call 73; exact HF.out _)
      | (go_at_call 123; exact Calls.quiet_of_same (HN.out _)))
    have hts := HD.out nq
    obtain ⟨y0, y1, y2, y3, y4, y5, y6, y7, y8, y9⟩ := HY.out _ (TS.low hts)
    go_wp2
    go_ret
    exact .inr ⟨rfl, rfl, hts.low⟩
end
end Go.Proofs.YtedmmgfnplbkjaaGreatDoor.PR
