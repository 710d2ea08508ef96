/-
  Walks: what telling an expression comes to ('XE'); each[..], exprs, key, within[..] of the teller of programs.
  Conditions: what is told lies in old memory, as the tree tells.
-/
import Derived.Test.YtedmmgfnplbkjaaGreatDoorPrQ
import Derived.Test.YtedmmgfnplbkjaaGreatDoorPrF
namespace Go.Proofs.YtedmmgfnplbkjaaGreatDoor.PR
set_option linter.unusedVariables false
set_option linter.unusedSimpArgs false
open Go.Proofs.YtedmmgfnplbkjaaGreatDoor Go.RowKit G
abbrev yes : Nat → Prop := fun _ => True
def EP (w0 : World) (row : Nat → T) (q b p : Nat) : Prop := ∀ j, j < 10 → ∃ y, w0.cell? ⟨b, p + j, none⟩ = some y ∧ (row (q + j)).Rep w0 yes y
theorem EP.row {w0 : World} {row : Nat → T} {q b p : Nat} (hw : WE row q) (h : EP w0 row q b p) :
    ∃ (k n : Int) (s : ByteArray) (a3 : Option Addr) (n3 c3 : Nat) (a4 : Option Addr) (n4 c4 : Nat) (a5 : Option Addr) (n5 c5 : Nat) (e : Int) (a7 : Option Addr) (n7 c7 : Nat) (a8 : Option Addr) (n8 c8 : Nat) (t : ByteArray), (w0.cell? ⟨b, p, none⟩ = some (.int .u8 k) ∧ w0.cell? ⟨b, p + 1, none⟩ = some (.int .i64 n) ∧ w0.cell? ⟨b, p + 2, none⟩ = some (.string s) ∧ w0.cell? ⟨b, p + 3, none⟩ = some (.slice a3 n3 c3) ∧ w0.cell? ⟨b, p + 4, none⟩ = some (.slice a4 n4 c4) ∧ w0.cell? ⟨b, p + 5, none⟩ = some (.slice a5 n5 c5) ∧ w0.cell? ⟨b, p + 6, none⟩ = some (.int .u8 e) ∧ w0.cell? ⟨b, p + 7, none⟩ = some (.slice a7 n7 c7) ∧ w0.cell? ⟨b, p + 8, none⟩ = some (.slice a8 n8 c8) ∧ w0.cell? ⟨b, p + 9, none⟩ = some (.string t))
      ∧ (row q = .sc (.int .u8 k) ∧ row (q + 1) = .sc (.int .i64 n) ∧ row (q + 2) = .sc (.string s) ∧ row (q + 6) = .sc (.int .u8 e) ∧ row (q + 9) = .sc (.string t)) ∧ (row (q + 3)).Rep w0 yes (.slice a3 n3 c3) ∧ (row (q + 4)).Rep w0 yes (.slice a4 n4 c4) ∧ (row (q + 5)).Rep w0 yes (.slice a5 n5 c5) ∧ (row (q + 7)).Rep w0 yes (.slice a7 n7 c7) ∧ (row (q + 8)).Rep w0 yes (.slice a8 n8 c8) := by
  obtain ⟨y0, f0, g0⟩ := h 0 (by decide)
  obtain ⟨y1, f1, g1⟩ := h 1 (by decide)
  obtain ⟨y2, f2, g2⟩ := h 2 (by decide)
  obtain ⟨y3, f3, g3⟩ := h 3 (by decide)
  obtain ⟨y4, f4, g4⟩ := h 4 (by decide)
  obtain ⟨y5, f5, g5⟩ := h 5 (by decide)
  obtain ⟨y6, f6, g6⟩ := h 6 (by decide)
  obtain ⟨y7, f7, g7⟩ := h 7 (by decide)
  obtain ⟨y8, f8, g8⟩ := h 8 (by decide)
  obtain ⟨y9, f9, g9⟩ := h 9 (by decide)
  have hr : Row w0 yes (cellsE row q) [y0, y1, y2, y3, y4, y5, y6, y7, y8, y9] := .cons g0 (.cons g1 (.cons g2 (.cons g3 (.cons g4 (.cons g5 (.cons g6 (.cons g7 (.cons g8 (.cons g9 .nil)))))))))
  obtain ⟨k, n, s, a3, n3, c3, a4, n4, c4, a5, n5, c5, e, a7, n7, c7, a8, n8, c8, t, hv, r0, r1, r2, r6, r9, p3, p4, p5, p7, p8⟩ := e_open hw hr
  simp only [List.cons.injEq, and_true] at hv
  obtain ⟨rfl, rfl, rfl, rfl, rfl, rfl, rfl, rfl, rfl, rfl⟩ := hv
  exact ⟨k, n, s, a3, n3, c3, a4, n4, c4, a5, n5, c5, e, a7, n7, c7, a8, n8, c8, t, ⟨f0, f1, f2, f3, f4, f5, f6, f7, f8, f9⟩, ⟨r0, r1, r2, r6, r9⟩, p3, p4, p5, p7, p8⟩
theorem len_of {g : Nat} {t : T} {w : World} {ok : Nat → Prop} {a : Option Addr} {n c : Nat} (hw : Wf g t) (h : t.Rep w ok (.slice a n c)) : lenT t = n ∧ ∃ k r, t = .ls n k r := by
  obtain ⟨k, row, rfl, -⟩ := sl_open hw h
  exact ⟨rfl, k, row, rfl⟩
theorem EP.cells {w0 W : World} {row : Nat → T} {q b p : Nat} (hw : WE row q) (h : EP w0 row q b p) (hb : Below w0.heap.size w0 W) : ECells W b p row q := by
  obtain ⟨k, n, s, a3, n3, c3, a4, n4, c4, a5, n5, c5, e, a7, n7, c7, a8, n8, c8, t, ⟨y0, y1, y2, y3, y4, y5, y6, y7, y8, y9⟩, ⟨r0, r1, r2, r6, r9⟩, p3, p4, p5, p7, p8⟩ := h.row hw
  have hlt : b < w0.heap.size := World.block_lt_of_cell? _ _ y0
  obtain ⟨-, -, -, w3, w4, w5, -, w7, w8, -⟩ := hw
  have hk : ∀ o y, w0.cell? ⟨b, o, none⟩ = some y → W.cell? ⟨b, o, none⟩ = some y := fun o y h => by rw [hb.cell (p := ⟨b, o, none⟩) hlt]; exact h
  exact ⟨k, n, s, a3, n3, c3, a4, n4, c4, a5, n5, c5, e, a7, n7, c7, a8, n8, c8, t, hk _ _ y0, hk _ _ y1, hk _ _ y2, hk _ _ y3, hk _ _ y4, hk _ _ y5, hk _ _ y6, hk _ _ y7, hk _ _ y8, hk _ _ y9, r0, r1, r2, (len_of w3 p3).1, (len_of w3 p3).2, (len_of w4 p4).1, (len_of w4 p4).2, (len_of w5 p5).1, (len_of w5 p5).2, r6, (len_of w7 p7).1, (len_of w7 p7).2, (len_of w8 p8).1, (len_of w8 p8).2, r9⟩
def XE (w0 : World) (pt : Obj) (c : Str) (row : Nat → T) (q : Nat) : Prop := ∀ (b p : Nat) (l : Str) (bs : Bool) (d : Nat) (W : World), EP w0 row q b p → TS w0 pt l bs c d W →
  Calls Tryz.prog 45 #[tp w0, .pointer (some ⟨b, p, none⟩)] W (PostT w0 pt l bs c (exprT c row q d))
def EL0 (w0 : World) (pt : Obj) (c : Str) (t : T) : Prop := ∀ n row, t = .ls n 10 row → ∀ i, i < n → XE w0 pt c (row i) 0
def EL1 (w0 : World) (pt : Obj) (c : Str) (t : T) : Prop := ∀ n row, t = .ls n 12 row → ∀ i, i < n → XE w0 pt c (row i) 2
section
variable {w0 : World} {pt : Obj} {l : Str} {bs : Bool} {c : Str} {d d1 : Nat} {e : Ending} {W : World} {f : Nat → Tl} {L : List (Nat → Tl)} {u : List LX.LW}
theorem PostT.step (h : f d = some (u, d1)) (k : PostT w0 pt (l ++ lay bs u) (aft bs u) c (seqL L d1) e W) : PostT w0 pt l bs c (seqL (f :: L) d) e W := by
  rcases k with ⟨v, d2, h1, h2, h3⟩ | ⟨h1, h2, h3⟩
  · refine .inl ⟨u ++ v, d2, seq_some h h1, h2, ?_⟩
    rw [lay_append, aft_append, ← List.append_assoc]
    exact h3
  · exact .inr ⟨seq_bad h h1, h2, h3⟩
theorem PostT.stop (h : f d = none) (he : e = .returned (.bool false)) (hb : Below w0.heap.size w0 W) : PostT w0 pt l bs c (seqL (f :: L) d) e W :=
  .inr ⟨by show (f d).seq _ = none; rw [h]; rfl, he, hb⟩
theorem PostT.done (he : e = .returned (.bool true)) (h : TS w0 pt l bs c d W) : PostT w0 pt l bs c (seqL [] d) e W :=
  .inl ⟨[], d, rfl, he, by rw [show lay bs [] = [] from rfl, List.append_nil]; exact h⟩
end
theorem eachT_bad {f : Nat → Nat → Tl} {m d : Nat} (h : eachT f m d = none) : ∀ n, m ≤ n → eachT f n d = none := by
  intro n hn
  induction n with
  | zero => obtain rfl : m = 0 := by omega
            exact h
  | succ n ih =>
    rcases Nat.lt_or_ge n m with h1 | h1
    · obtain rfl : m = n + 1 := by omega
      exact h
    · show (eachT f n d).seq _ = none
      rw [ih h1]
      rfl
set_option maxRecDepth 100000 in
set_option maxHeartbeats 4000000 in
theorem eachE_any {w0 : World} {pt : Obj} {c : Str} (t : T) (hw : Wf 0 t) (hX : ∀ n row, t = .ls n 10 row → ∀ i, i < n → XE w0 pt c (row i) 0) (a : Value) (l : Str) (bs : Bool) (d : Nat) (W : World) (hr : t.Rep w0 yes a) (h : TS w0 pt l bs c d W) :
    Calls Tryz.prog 118 #[a, .func (.func 45) #[tp w0] #[]] W (PostT w0 pt l bs c (eachT (tellC c 0 t) (lenT t) d)) := by
  obtain ⟨la, n, lc, rfl⟩ := wf_rep hw hr
  obtain ⟨kk, row, rfl, h1, h2, hel⟩ := sl_open hw hr
  obtain ⟨rfl, hwa⟩ := (wf0 _ _ _).1 hw
  obtain ⟨f, hf⟩ : ∃ f, tellC c 0 (.ls n 10 row) = f := ⟨_, rfl⟩
  have HEL := Lib.hid hel
  have HX := Lib.hid (hX n row rfl)
  have HFI : Hid (∀ i d, f i d = rowF c (row i) (subs c (row i)) 0 d) := fun i d => by rw [← hf]; rfl
  have HT := Lib.hid h
  have hc1 : n ≤ lc := h1
  have hlen : lenT (.ls n 10 row) = n := rfl
  rw [hlen, hf]
  obtain ⟨r, hrr⟩ : ∃ r, eachT f n d = r := ⟨_, rfl⟩
  have HR := Lib.hid hrr
  rw [hrr]
  clear hw hr hel hX hf h hlen hrr h1
  go_enter Tryz.func118, Tryz.ntmps118
  go_wp2
  go_loopw [8] (fun i wr => ∃ (j : Nat) (u : List LX.LW) (d' : Nat), i = .int .i64 j ∧ j ≤ n ∧ eachT f j d = some (u, d') ∧ TS w0 pt (l ++ lay bs u) (aft bs u) c d' wr) (fun i _ => n - (intOf i).toNat)
  case atStart => exact ⟨0, [], d, rfl, Nat.zero_le _, rfl, by rw [show lay bs [] = [] from rfl, List.append_nil]; exact HT.out⟩
  case round =>
    obtain ⟨j, u, d', rfl, hj, hu, hts⟩ := hrel
    have HTS := Lib.hid hts
    have HU := Lib.hid hu
    clear hts hu
    by_cases hlt : j < n
    · have g1 : (j : Int) < (n : Int) := by omega
      have g0 : (0 : Int) ≤ (j : Int) := by omega
      have g2 : j < lc := by omega
      obtain ⟨b, o, rfl, hb, hcells⟩ := HEL.out j hlt
      have HC := Lib.hid (HX.out j hlt b (o + j * 10) (l ++ lay bs u) (aft bs u) d' wr (fun i hi => by rw [Nat.zero_add]; exact hcells i hi) HTS.out)
      clear hcells
      go_wp2_with (go_at_call 45; (with_reducible refine HC.out.mono ?_); rintro e1 w1 (⟨v, d2, hv, rfl, hts⟩ | ⟨hv, rfl, hb⟩))
      · go_roundw
        case rel =>
          refine ⟨j + 1, u ++ v, d2, by go_num, by omega, ?_, ?_⟩
          · refine seq_some HU.out ?_
            rw [HFI.out]
            exact hv
          · rw [lay_append, aft_append, ← List.append_assoc]
            exact hts
        case measure => simp [intOf]; omega
      · go_ret
        refine .inr ⟨?_, rfl, hb⟩
        rw [← HR.out]
        refine eachT_bad (m := j + 1) ?_ n (by omega)
        refine seq_bad HU.out ?_
        rw [HFI.out]
        exact hv
    · obtain rfl : n = j := by omega
      go_wp2
      go_ret
      exact .inl ⟨u, d', HR.out.symm.trans HU.out, rfl, HTS.out⟩
abbrev ColE (w0 : World) (pt : Obj) (c : Str) (row : Nat → T) (j : Nat) (a : Value) : Prop := ∀ (l : Str) (bs : Bool) (d : Nat) (W : World), TS w0 pt l bs c d W → Calls Tryz.prog 118 #[a, .func (.func 45) #[tp w0] #[]] W (PostT w0 pt l bs c (colT row (subs c row) j 0 d))
theorem colE_any {w0 : World} {pt : Obj} {c : Str} {row : Nat → T} {j : Nat} (hw : Wf 0 (row j)) (hX : EL0 w0 pt c (row j)) {a : Value} (hr : (row j).Rep w0 yes a) : ColE w0 pt c row j a :=
  fun l bs d W h => eachE_any (row j) hw hX a l bs d W hr h
set_option maxRecDepth 100000 in
set_option maxHeartbeats 2000000 in
theorem exprs_any {w0 : World} {pt : Obj} {c : Str} {row : Nat → T} {j : Nat} {a : Option Addr} {n cap : Nat} (hC : ColE w0 pt c row j (.slice a n cap)) (hl : lenT (row j) = n) (m : Nat) (l : Str) (bs : Bool) (d : Nat) (W : World) (h : TS w0 pt l bs c d W) :
    Calls Tryz.prog 132 #[tp w0, .int .i64 m, .slice a n cap] W (PostT w0 pt l bs c (timesT row (subs c row) m j d)) := by
  by_cases hm : n = m
  · subst hm
    have e : timesT row (subs c row) n j d = colT row (subs c row) j 0 d := by unfold timesT; rw [if_pos hl]
    rw [e]
    have HC := Lib.hid (hC l bs d W h)
    clear hC h e
    go_enter Tryz.func132, Tryz.ntmps132
    go_wp2_with (go_at_call 118; (with_reducible refine HC.out.mono ?_); rintro e1 w1 (⟨v, d2, hv, rfl, hts⟩ | ⟨hv, rfl, hb⟩))
    · go_ret
      exact .inl ⟨v, d2, hv, rfl, hts⟩
    · go_ret
      exact .inr ⟨hv, rfl, hb⟩
  · have e : timesT row (subs c row) m j d = none := by unfold timesT; rw [if_neg (by rw [hl]; exact hm)]
    rw [e]
    have g : ((n : Int) == (m : Int)) = false := by simp; omega
    have HB := Lib.hid h.low
    clear hC h e
    go_enter Tryz.func132, Tryz.ntmps132
    go_wp2
    go_ret
    exact .inr ⟨rfl, rfl, HB.out⟩
set_option maxRecDepth 100000 in
set_option maxHeartbeats 2000000 in
theorem key_any {w0 : World} {pt : Obj} {c : Str} {row : Nat → T} {j : Nat} {a : Option Addr} {n cap : Nat} (hC : ColE w0 pt c row j (.slice a n cap)) (hl : lenT (row j) = n) (l : Str) (bs : Bool) (d : Nat) (W : World) (h : TS w0 pt l bs c d W) :
    Calls Tryz.prog 174 #[tp w0, .slice a n cap] W (PostT w0 pt l bs c (keyT row (subs c row) j d)) := by
  by_cases h0 : n = 0
  · subst h0
    have e : keyT row (subs c row) j d = oneT (wN [45]) d := by unfold keyT; rw [if_pos hl]
    rw [e]
    have HC := Lib.hid (word_told (wN [45]) ⟨#[45]⟩ W (by decide) (by simp [wN]) rfl h)
    clear hC h e
    go_enter Tryz.func174, Tryz.ntmps174
    go_wp2_with (go_at_call 67; refine HC.out.mono ?_; rintro e1 w1 (⟨v, d2, hv, rfl, hts⟩ | ⟨hv, rfl, hb⟩))
    · go_ret
      exact .inl ⟨v, d2, hv, rfl, hts⟩
    · cases hv
  · have e : keyT row (subs c row) j d = timesT row (subs c row) 1 j d := by unfold keyT; rw [if_neg (by rw [hl]; exact h0)]
    rw [e]
    have g : ((n : Int) == 0) = false := by simp; omega
    have HC := Lib.hid (exprs_any hC hl 1 l bs d W h)
    clear hC h e
    go_enter Tryz.func174, Tryz.ntmps174
    go_wp2_with (go_at_call 132; refine HC.out.mono ?_; rintro e1 w1 (⟨v, d2, hv, rfl, hts⟩ | ⟨hv, rfl, hb⟩))
    · go_ret
      exact .inl ⟨v, d2, hv, rfl, hts⟩
    · go_ret
      exact .inr ⟨hv, rfl, hb⟩
theorem names_open {t : T} {w0 : World} {a : Option Addr} {n c : Nat} (hw : Wf 3 t) (h : t.Rep w0 yes (.slice a n c)) : n ≤ c ∧ c ≤ 9223372036854775807 ∧ ∀ i, i < n → ∃ b o, a = some ⟨b, o, none⟩ ∧ b < w0.heap.size ∧ w0.cell? ⟨b, o + i, none⟩ = some (.string ⟨(nthS t i).toArray⟩) := by
  obtain ⟨k, row, rfl, h1, h2, hel⟩ := sl_open hw h
  obtain ⟨rfl, hws⟩ := (wf3 _ _ _).1 hw
  refine ⟨h1, h2, fun i hi => ?_⟩
  obtain ⟨b, o, e, hb, hc⟩ := hel i hi
  obtain ⟨y, hy, hr⟩ := hc 0 (by decide)
  obtain ⟨s, hs⟩ := hws i hi
  rw [hs] at hr
  have hy2 : y = .string s := hr
  subst hy2
  refine ⟨b, o, e, hb, ?_⟩
  have e2 : nthS (.ls n 1 row) i = s.data.toList := by
    show strT (row i 0) = _
    rw [hs]
    rfl
  rw [e2]
  simpa using hy
set_option maxRecDepth 100000 in
set_option maxHeartbeats 4000000 in
theorem equal_any {w0 : World} {row : Nat → T} {j : Nat} {a : Option Addr} {n cap : Nat} (hw : Wf 3 (row j)) (hr : (row j).Rep w0 yes (.slice a n cap)) (ls : List Str) (g : Nat) (W : World) (hb : Below w0.heap.size w0 W) (hls : ∀ i, i < ls.length → W.cell? ⟨g, i, none⟩ = some (.string ⟨(ls.getD i []).toArray⟩)) (hll : ls.length ≤ 9) :
    Calls Tryz.prog 205 #[.slice a n cap, .slice (some ⟨g, 0, none⟩) ls.length ls.length] W fun e w' => e = .returned (.bool (areB row j ls)) ∧ ∃ m, w' = W.drewN m := by
  obtain ⟨h1, h2, hel⟩ := names_open hw hr
  have hlen := (len_of hw hr).1
  obtain ⟨m, hm⟩ : ∃ m, ls.length = m := ⟨_, rfl⟩
  obtain ⟨q, hq⟩ : ∃ q, areB row j ls = q := ⟨_, rfl⟩
  have HQ : Hid (q = ((n == m) && (List.range m).all fun i => nthS (row j) i == ls.getD i [])) := by rw [Hid, ← hq, areB, hlen, hm]
  have HEL : Hid (∀ i, i < n → ∃ b o, a = some ⟨b, o, none⟩ ∧ W.cell? ⟨b, o + i, none⟩ = some (.string ⟨(nthS (row j) i).toArray⟩)) := fun i hi => by
    obtain ⟨b, o, e, hlt, hc⟩ := hel i hi
    refine ⟨b, o, e, ?_⟩
    rw [hb.cell (p := ⟨b, o + i, none⟩) hlt]
    exact hc
  have HLS : Hid (∀ i, i < m → W.cell? ⟨g, i, none⟩ = some (.string ⟨(ls.getD i []).toArray⟩)) := fun i hi => hls i (by omega)
  rw [hm, hq]
  rw [hm] at hll
  clear hq hm hel hls hr hw hb hlen
  by_cases hnm : n = m
  · subst hnm
    go_enter Tryz.func205, Tryz.ntmps205
    go_wp2
    go_loopw [13] (fun i wr => ∃ (j' k : Nat), i = .int .i64 j' ∧ j' ≤ n ∧ wr = W.drewN k ∧ ∀ i, i < j' → (nthS (row j) i == ls.getD i []) = true) (fun i _ => n - (intOf i).toNat)
    case atStart => exact ⟨0, 0, rfl, Nat.zero_le _, rfl, fun i hi => absurd hi (Nat.not_lt_zero i)⟩
    case round =>
      obtain ⟨j', k, rfl, hj, rfl, hall⟩ := hrel
      have HALL := Lib.hid hall
      clear hall
      by_cases hlt : j' < n
      · have g1 : (j' : Int) < (n : Int) := by omega
        have g0 : (0 : Int) ≤ (j' : Int) := by omega
        have g2 : j' < cap := by omega
        obtain ⟨b, o, rfl, hc⟩ := HEL.out j' hlt
        have hd := HLS.out j' hlt
        obtain ⟨x, hx⟩ : ∃ x, (nthS (row j) j' == ls.getD j' []) = x := ⟨_, rfl⟩
        have HXX := Lib.hid hx
        obtain ⟨s1, hs1⟩ : ∃ s1, nthS (row j) j' = s1 := ⟨_, rfl⟩
        obtain ⟨s2, hs2⟩ : ∃ s2, ls.getD j' [] = s2 := ⟨_, rfl⟩
        rw [hs1] at hc hx
        rw [hs2] at hd hx
        have hx2 : (s1 != s2) = !x := by rw [bne, hx]
        clear hs1 hs2
        cases x with
        | true =>
          go_wp2
          go_quiet (fail)
          go_wp2
          go_roundw
          case rel =>
            refine ⟨j' + 1, _, by go_num, by omega, rfl, fun i hi => ?_⟩
            rcases Nat.lt_or_ge i j' with h | h
            · exact HALL.out i h
            · obtain rfl : i = j' := by omega
              exact HXX.out
          case measure => simp [intOf]; omega
        | false =>
          go_wp2
          go_quiet (fail)
          go_wp2
          go_ret
          refine ⟨?_, _, drew_add _ _ _⟩
          have hq : q = false := by
            rw [HQ.out]
            have : ((List.range n).all fun i => nthS (row j) i == ls.getD i []) = false := by
              rw [List.all_eq_false]
              exact ⟨j', List.mem_range.2 hlt, by rw [HXX.out]; simp⟩
            rw [this]; simp
          rw [hq]
          rfl
      · obtain rfl : n = j' := by omega
        go_wp2
        go_ret
        refine ⟨?_, _, rfl⟩
        have hq : q = true := by
          rw [HQ.out, Bool.and_eq_true, List.all_eq_true]
          exact ⟨by simp, fun i hi => HALL.out i (List.mem_range.1 hi)⟩
        rw [hq]
        rfl
  · have g3 : ((n : Int) != (m : Int)) = true := by simp; omega
    have hq : q = false := by rw [HQ.out]; simp [hnm]
    rw [hq]
    go_enter Tryz.func205, Tryz.ntmps205
    go_wp2
    go_ret
    exact ⟨rfl, 0, rfl⟩
end Go.Proofs.YtedmmgfnplbkjaaGreatDoor.PR
