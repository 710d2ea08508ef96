/-
  Walks: acts, expressions of the teller of programs: 'xe_any', 'acts_any'.
  Conditions: what is told lies in old memory, as the tree tells.
-/
import Derived.Test.YtedmmgfnplbkjaaGreatDoorPrV
namespace Go.Proofs.YtedmmgfnplbkjaaGreatDoor.PR
set_option linter.unusedVariables false
set_option linter.unusedSimpArgs false
open Go.Proofs.YtedmmgfnplbkjaaGreatDoor Go.RowKit G
section
variable {w0 : World} {pt : Obj} {c : Str} (ht : LTabs w0)
include ht
def AP (w0 : World) (row : Nat → T) (b p : Nat) : Prop := ∀ j, j < 12 → ∃ y, w0.cell? ⟨b, p + j, none⟩ = some y ∧ (row j).Rep w0 yes y
omit ht in
theorem AP.cells {row : Nat → T} {b p : Nat} (hw : WA row) (h : AP w0 row b p) : ∃ (k : Int) (s : Str), num (row 0) = k ∧ strT (row 1) = s ∧ EP w0 row 2 b (p + 2) ∧ ∀ W, Below w0.heap.size w0 W → W.cell? ⟨b, p, none⟩ = some (.int .u8 k) ∧ W.cell? ⟨b, p + 1, none⟩ = some (.string ⟨s.toArray⟩) ∧ ACells W b p row := by
  obtain ⟨⟨k, hk⟩, ⟨s, hs⟩, hwe⟩ := hw
  obtain ⟨y0, f0, g0⟩ := h 0 (by decide)
  obtain ⟨y1, f1, g1⟩ := h 1 (by decide)
  have hep : EP w0 row 2 b (p + 2) := fun j hj => by
    obtain ⟨y, f, g⟩ := h (2 + j) (by omega)
    exact ⟨y, by rw [Nat.add_assoc]; exact f, g⟩
  have hlt : b < w0.heap.size := World.block_lt_of_cell? _ _ f0
  rw [hk] at g0
  rw [hs] at g1
  have e0 : y0 = .int .u8 k := g0
  have e1 : y1 = .string s := g1
  subst e0 e1
  refine ⟨k, s.data.toList, by rw [hk]; rfl, by rw [hs]; rfl, hep, fun W hb => ?_⟩
  have c0 : W.cell? ⟨b, p, none⟩ = some (.int .u8 k) := by rw [hb.cell (p := ⟨b, p, none⟩) hlt]; exact f0
  have c1 : W.cell? ⟨b, p + 1, none⟩ = some (.string s) := by rw [hb.cell (p := ⟨b, p + 1, none⟩) hlt]; exact f1
  have es : (⟨s.data.toList.toArray⟩ : ByteArray) = s := by simp
  exact ⟨c0, by rw [es]; exact c1, k, s, c0, c1, hep.cells hwe hb, hk, hs⟩
set_option maxRecDepth 100000 in
set_option maxHeartbeats 8000000 in
theorem act_any {row : Nat → T} (hw : WA row) (hX : XE w0 pt c row 2) (b p : Nat) (hp : AP w0 row b p) (l : Str) (bs : Bool) (d : Nat) (W : World) (h : TS w0 pt l bs c d W) :
    Calls Tryz.prog 120 #[tp w0, .pointer (some ⟨b, p, none⟩)] W (PostT w0 pt l bs c (actT c row d)) := by
  obtain ⟨k, s, hk, hs, hep, hy⟩ := hp.cells hw
  obtain ⟨y0, y1, hac⟩ := hy W h.low
  have HY := Lib.hid hy
  have HD := Lib.hid (fun n => TS.keep h (below_drewNP W n))
  have HF : Hid (∀ n, Calls Tryz.prog 168 #[.pointer (some ⟨b, p, none⟩)] (W.drewN n) fun e w' => e = .returned (.int .u64 (fvA row)) ∧ ∃ m, w' = W.drewN m) := fun n =>
    (fieldsA_any (W := W.drewN n) hac).mono fun e w' ⟨he, m, hm⟩ => ⟨he, n + m, by rw [hm, drew_add]⟩
  have HN := Lib.hid (fun (W : World) => nmA_any k W)
  obtain ⟨v1, hv1⟩ : ∃ v, fvA row = v := ⟨_, rfl⟩
  obtain ⟨v2, hv2⟩ : ∃ v, nmA k = v := ⟨_, rfl⟩
  have hfit := fitA_is row
  rw [hk] at hfit
  have HR : Hid (actT c row d = if fitA row = false then none
    else if k = 1 then seqL [opensT [115, 101, 116], nameT s, exprF c row (subs c row) 2, shutT] d
    else if k = 2 then seqL [opensT [108, 111, 103], exprF c row (subs c row) 2, shutT] d
    else if k = 3 then seqL [opensT [102, 97, 105, 108], exprF c row (subs c row) 2, shutT] d
    else if k = 4 then seqL [opensT [115, 116, 111, 112], shutT] d
    else none) := by
    rw [Hid, ← hk, ← hs]
    rfl
  rw [HR.out]
  rw [hv1] at HF hfit
  rw [hv2] at HN hfit
  obtain ⟨fx, hfx⟩ : ∃ x, fitA row = x := ⟨_, rfl⟩
  rw [hfx] at hfit ⊢
  replace hfit : (bits BinOp.andNot IntKind.u64 v1 v2 != 0) = !fx := hfit
  have HEX : Hid (∀ l bs d (W : World), TS w0 pt l bs c d W → Calls Tryz.prog 45 #[tp w0, .pointer (some ⟨b, p + 2, none⟩)] W (PostT w0 pt l bs c (exprF c row (subs c row) 2 d))) := fun l bs d W h => hX b (p + 2) l bs d W hep h
  have HS := Lib.hid (fun l bs d (W : World) (h : TS w0 pt l bs c d W) => shut_any W h)
  have HM := Lib.hid (fun l bs d s (W : World) (h : TS w0 pt l bs c d W) => name_any s W ht h)
  clear HR hfx h hy hep hX hp hw hk hs hv1 hv2
  cases fx with
  | false =>
    rw [if_pos rfl]
    go_enter Tryz.func120, Tryz.ntmps120
    go_wp2
    go_quiet (first
      | (go_at_call 168; exact HF.out _)
      | (go_at_call 169; exact Calls.quiet_of_same (HN.out _)))
    have hts := HD.out nq
    obtain ⟨y0, y1, hac⟩ := HY.out _ (TS.low hts)
    go_wp2
    go_ret
    exact .inr ⟨rfl, rfl, hts.low⟩
  | true =>
    rw [if_neg (by simp)]
    by_cases e1 : k = 1
    · subst e1
      rw [if_pos rfl]
      have HW : Hid (∀ l bs d (W : World), TS w0 pt l bs c d W → Calls Tryz.prog 41 #[tp w0, .string ⟨#[115, 101, 116]⟩] W fun e w' => e = .returned (.bool true) ∧ TS w0 pt (l ++ lay bs [wO, wN [115, 101, 116]]) true c d w') := fun l bs d W h => opens_any ⟨#[115, 101, 116]⟩ W (by decide) h
      go_enter Tryz.func120, Tryz.ntmps120
      go_wp2
      go_quiet (first
        | (go_at_call 168; exact HF.out _)
        | (go_at_call 169; exact Calls.quiet_of_same (HN.out _)))
      have hts := HD.out nq
      obtain ⟨y0, y1, hac⟩ := HY.out _ (TS.low hts)
      go_wp2_with (first
        | (go_at_call 41; (with_reducible refine (HW.out _ _ _ _ (by assumption)).mono ?_); rintro e1 w1 ⟨rfl, hts⟩; obtain ⟨y0, y1, hac⟩ := HY.out _ (TS.low hts))
        | (go_at_call 46; (with_reducible refine (HS.out _ _ _ _ (by assumption)).mono ?_); rintro e1 w1 ⟨rfl, hts⟩; obtain ⟨y0, y1, hac⟩ := HY.out _ (TS.low hts))
        | (go_at_call 42; (with_reducible refine (HM.out _ _ _ _ _ (by assumption)).mono ?_); rintro e1 w1 (⟨u1, d1, hu1, rfl, hts⟩ | ⟨hu1, rfl, hb1⟩); obtain ⟨y0, y1, hac⟩ := HY.out _ (TS.low hts))
        | (go_at_call 45; (with_reducible refine (HEX.out _ _ _ _ (by assumption)).mono ?_); rintro e1 w1 (⟨u1, d1, hu1, rfl, hts⟩ | ⟨hu1, rfl, hb1⟩); obtain ⟨y0, y1, hac⟩ := HY.out _ (TS.low hts)))
      all_goals go_ret
      all_goals (first
          | exact PostT.step (by first | assumption | rfl) (PostT.step (by first | assumption | rfl) (PostT.step (by first | assumption | rfl) (PostT.step (by first | assumption | rfl) (PostT.done rfl (by assumption)))))
          | exact PostT.step (by first | assumption | rfl) (PostT.step (by first | assumption | rfl) (PostT.step (by first | assumption | rfl) (PostT.step (by first | assumption | rfl) (PostT.stop (by assumption) rfl (by assumption)))))
          | exact PostT.step (by first | assumption | rfl) (PostT.step (by first | assumption | rfl) (PostT.step (by first | assumption | rfl) (PostT.done rfl (by assumption))))
          | exact PostT.step (by first | assumption | rfl) (PostT.step (by first | assumption | rfl) (PostT.step (by first | assumption | rfl) (PostT.stop (by assumption) rfl (by assumption))))
          | exact PostT.step (by first | assumption | rfl) (PostT.step (by first | assumption | rfl) (PostT.done rfl (by assumption)))
          | exact PostT.step (by first | assumption | rfl) (PostT.step (by first | assumption | rfl) (PostT.stop (by assumption) rfl (by assumption)))
          | exact PostT.step (by first | assumption | rfl) (PostT.done rfl (by assumption))
          | exact PostT.step (by first | assumption | rfl) (PostT.stop (by assumption) rfl (by assumption))
          | exact PostT.done rfl (by assumption)
          | exact PostT.stop (by assumption) rfl (by assumption))
    rw [if_neg e1]
    have f1 : (k == 1) = false := by simpa using e1
    by_cases e2 : k = 2
    · subst e2
      rw [if_pos rfl]
      have HW : Hid (∀ l bs d (W : World), TS w0 pt l bs c d W → Calls Tryz.prog 41 #[tp w0, .string ⟨#[108, 111, 103]⟩] W fun e w' => e = .returned (.bool true) ∧ TS w0 pt (l ++ lay bs [wO, wN [108, 111, 103]]) true c d w') := fun l bs d W h => opens_any ⟨#[108, 111, 103]⟩ W (by decide) h
      go_enter Tryz.func120, Tryz.ntmps120
      go_wp2
      go_quiet (first
        | (go_at_call 168; exact HF.out _)
        | (go_at_call 169; exact Calls.quiet_of_same (HN.out _)))
      have hts := HD.out nq
      obtain ⟨y0, y1, hac⟩ := HY.out _ (TS.low hts)
      go_wp2_with (first
        | (go_at_call 41; (with_reducible refine (HW.out _ _ _ _ (by assumption)).mono ?_); rintro e1 w1 ⟨rfl, hts⟩; obtain ⟨y0, y1, hac⟩ := HY.out _ (TS.low hts))
        | (go_at_call 46; (with_reducible refine (HS.out _ _ _ _ (by assumption)).mono ?_); rintro e1 w1 ⟨rfl, hts⟩; obtain ⟨y0, y1, hac⟩ := HY.out _ (TS.low hts))
        | (go_at_call 45; (with_reducible refine (HEX.out _ _ _ _ (by assumption)).mono ?_); rintro e1 w1 (⟨u1, d1, hu1, rfl, hts⟩ | ⟨hu1, rfl, hb1⟩); obtain ⟨y0, y1, hac⟩ := HY.out _ (TS.low hts)))
      all_goals go_ret
      all_goals (first
          | exact PostT.step (by first | assumption | rfl) (PostT.step (by first | assumption | rfl) (PostT.step (by first | assumption | rfl) (PostT.done rfl (by assumption))))
          | exact PostT.step (by first | assumption | rfl) (PostT.step (by first | assumption | rfl) (PostT.step (by first | assumption | rfl) (PostT.stop (by assumption) rfl (by assumption))))
          | exact PostT.step (by first | assumption | rfl) (PostT.step (by first | assumption | rfl) (PostT.done rfl (by assumption)))
          | exact PostT.step (by first | assumption | rfl) (PostT.step (by first | assumption | rfl) (PostT.stop (by assumption) rfl (by assumption)))
          | exact PostT.step (by first | assumption | rfl) (PostT.done rfl (by assumption))
          | exact PostT.step (by first | assumption | rfl) (PostT.stop (by assumption) rfl (by assumption))
          | exact PostT.done rfl (by assumption)
          | exact PostT.stop (by assumption) rfl (by assumption))
    rw [if_neg e2]
    have f2 : (k == 2) = false := by simpa using e2
    by_cases e3 : k = 3
    · subst e3
      rw [if_pos rfl]
      have HW : Hid (∀ l bs d (W : World), TS w0 pt l bs c d W → Calls Tryz.prog 41 #[tp w0, .string ⟨#[102, 97, 105, 108]⟩] W fun e w' => e = .returned (.bool true) ∧ TS w0 pt (l ++ lay bs [wO, wN [102, 97, 105, 108]]) true c d w') := fun l bs d W h => opens_any ⟨#[102, 97, 105, 108]⟩ W (by decide) h
      go_enter Tryz.func120, Tryz.ntmps120
      go_wp2
      go_quiet (first
        | (go_at_call 168; exact HF.out _)
        | (go_at_call 169; exact Calls.quiet_of_same (HN.out _)))
      have hts := HD.out nq
      obtain ⟨y0, y1, hac⟩ := HY.out _ (TS.low hts)
      go_wp2_with (first
        | (go_at_call 41; (with_reducible refine (HW.out _ _ _ _ (by assumption)).mono ?_); rintro e1 w1 ⟨rfl, hts⟩; obtain ⟨y0, y1, hac⟩ := HY.out _ (TS.low hts))
        | (go_at_call 46; (with_reducible refine (HS.out _ _ _ _ (by assumption)).mono ?_); rintro e1 w1 ⟨rfl, hts⟩; obtain ⟨y0, y1, hac⟩ := HY.out _ (TS.low hts))
        | (go_at_call 45; (with_reducible refine (HEX.out _ _ _ _ (by assumption)).mono ?_); rintro e1 w1 (⟨u1, d1, hu1, rfl, hts⟩ | ⟨hu1, rfl, hb1⟩); obtain ⟨y0, y1, hac⟩ := HY.out _ (TS.low hts)))
      all_goals go_ret
      all_goals (first
          | exact PostT.step (by first | assumption | rfl) (PostT.step (by first | assumption | rfl) (PostT.step (by first | assumption | rfl) (PostT.done rfl (by assumption))))
          | exact PostT.step (by first | assumption | rfl) (PostT.step (by first | assumption | rfl) (PostT.step (by first | assumption | rfl) (PostT.stop (by assumption) rfl (by assumption))))
          | exact PostT.step (by first | assumption | rfl) (PostT.step (by first | assumption | rfl) (PostT.done rfl (by assumption)))
          | exact PostT.step (by first | assumption | rfl) (PostT.step (by first | assumption | rfl) (PostT.stop (by assumption) rfl (by assumption)))
          | exact PostT.step (by first | assumption | rfl) (PostT.done rfl (by assumption))
          | exact PostT.step (by first | assumption | rfl) (PostT.stop (by assumption) rfl (by assumption))
          | exact PostT.done rfl (by assumption)
          | exact PostT.stop (by assumption) rfl (by assumption))
    rw [if_neg e3]
    have f3 : (k == 3) = false := by simpa using e3
    by_cases e4 : k = 4
    · subst e4
      rw [if_pos rfl]
      have HW : Hid (∀ l bs d (W : World), TS w0 pt l bs c d W → Calls Tryz.prog 41 #[tp w0, .string ⟨#[115, 116, 111, 112]⟩] W fun e w' => e = .returned (.bool true) ∧ TS w0 pt (l ++ lay bs [wO, wN [115, 116, 111, 112]]) true c d w') := fun l bs d W h => opens_any ⟨#[115, 116, 111, 112]⟩ W (by decide) h
      go_enter Tryz.func120, Tryz.ntmps120
      go_wp2
      go_quiet (first
        | (go_at_call 168; exact HF.out _)
        | (go_at_call 169; exact Calls.quiet_of_same (HN.out _)))
      have hts := HD.out nq
      obtain ⟨y0, y1, hac⟩ := HY.out _ (TS.low hts)
      go_wp2_with (first
        | (go_at_call 41; (with_reducible refine (HW.out _ _ _ _ (by assumption)).mono ?_); rintro e1 w1 ⟨rfl, hts⟩; obtain ⟨y0, y1, hac⟩ := HY.out _ (TS.low hts))
        | (go_at_call 46; (with_reducible refine (HS.out _ _ _ _ (by assumption)).mono ?_); rintro e1 w1 ⟨rfl, hts⟩; obtain ⟨y0, y1, hac⟩ := HY.out _ (TS.low hts)))
      all_goals go_ret
      all_goals (first
          | exact PostT.step (by first | assumption | rfl) (PostT.step (by first | assumption | rfl) (PostT.done rfl (by assumption)))
          | exact PostT.step (by first | assumption | rfl) (PostT.step (by first | assumption | rfl) (PostT.stop (by assumption) rfl (by assumption)))
          | exact PostT.step (by first | assumption | rfl) (PostT.done rfl (by assumption))
          | exact PostT.step (by first | assumption | rfl) (PostT.stop (by assumption) rfl (by assumption))
          | exact PostT.done rfl (by assumption)
          | exact PostT.stop (by assumption) rfl (by assumption))
    rw [if_neg e4]
    have f4 : (k == 4) = false := by simpa using e4
    go_enter Tryz.func120, Tryz.ntmps120
    go_wp2
    go_quiet (first
      | (go_at_call 168; exact HF.out _)
      | (go_at_call 169; exact Calls.quiet_of_same (HN.out _)))
    have hts := HD.out nq
    obtain ⟨y0, y1, hac⟩ := HY.out _ (TS.low hts)
    go_wp2
    go_ret
    exact .inr ⟨rfl, rfl, hts.low⟩
set_option maxRecDepth 100000 in
set_option maxHeartbeats 4000000 in
theorem eachA_any (t : T) (hw : Wf 1 t) (hX : ∀ n row, t = .ls n 12 row → ∀ i, i < n → XE w0 pt c (row i) 2) (a : Value) (l : Str) (bs : Bool) (d : Nat) (W : World) (hr : t.Rep w0 yes a) (h : TS w0 pt l bs c d W) :
    Calls Tryz.prog 135 #[a, .func (.func 120) #[tp w0] #[]] W (PostT w0 pt l bs c (eachT (tellC c 1 t) (lenT t) d)) := by
  obtain ⟨la, n, lc, rfl⟩ := wf_rep hw hr
  obtain ⟨kk, row, rfl, h1, h2, hel⟩ := sl_open hw hr
  obtain ⟨rfl, hwa⟩ := (wf1 _ _ _).1 hw
  obtain ⟨f, hf⟩ : ∃ f, tellC c 1 (.ls n 12 row) = f := ⟨_, rfl⟩
  have HEL := Lib.hid hel
  have HWA := Lib.hid hwa
  have HX := Lib.hid (hX n row rfl)
  have HFI : Hid (∀ i d, f i d = actT c (row i) d) := fun i d => by rw [← hf]; rfl
  have HT := Lib.hid h
  have hc1 : n ≤ lc := h1
  have hlen : lenT (.ls n 12 row) = n := rfl
  rw [hlen, hf]
  obtain ⟨r, hrr⟩ : ∃ r, eachT f n d = r := ⟨_, rfl⟩
  have HR := Lib.hid hrr
  rw [hrr]
  clear hw hr hel hX hf h hlen hrr h1
  go_enter Tryz.func135, Tryz.ntmps135
  go_wp2
  go_loopw [8] (fun i wr => ∃ (j : Nat) (u : List LX.LW) (d' : Nat), i = .int .i64 j ∧ j ≤ n ∧ eachT f j d = some (u, d') ∧ TS w0 pt (l ++ lay bs u) (aft bs u) c d' wr) (fun i _ => n - (intOf i).toNat)
  case atStart => exact ⟨0, [], d, rfl, Nat.zero_le _, rfl, by rw [show lay bs [] = [] from rfl, List.append_nil]; exact HT.out⟩
  case round =>
    obtain ⟨j, u, d', rfl, hj, hu, hts⟩ := hrel
    have HTS := Lib.hid hts
    have HU := Lib.hid hu
    clear hts hu
    by_cases hlt : j < n
    · have g1 : (j : Int) < (n : Int) := by omega
      have g0 : (0 : Int) ≤ (j : Int) := by omega
      have g2 : j < lc := by omega
      obtain ⟨b, o, rfl, hb, hcells⟩ := HEL.out j hlt
      have HC := Lib.hid (act_any ht (HWA.out j hlt) (HX.out j hlt) b (o + j * 12) hcells (l ++ lay bs u) (aft bs u) d' wr HTS.out)
      clear hcells
      go_wp2_with (go_at_call 120; (with_reducible refine HC.out.mono ?_); rintro e1 w1 (⟨v, d2, hv, rfl, hts⟩ | ⟨hv, rfl, hb⟩))
      · go_roundw
        case rel =>
          refine ⟨j + 1, u ++ v, d2, by go_num, by omega, ?_, ?_⟩
          · refine seq_some HU.out ?_
            rw [HFI.out]
            exact hv
          · rw [lay_append, aft_append, ← List.append_assoc]
            exact hts
        case measure => simp [intOf]; omega
      · go_ret
        refine .inr ⟨?_, rfl, hb⟩
        rw [← HR.out]
        refine eachT_bad (m := j + 1) ?_ n (by omega)
        refine seq_bad HU.out ?_
        rw [HFI.out]
        exact hv
    · obtain rfl : n = j := by omega
      go_wp2
      go_ret
      exact .inl ⟨u, d', HR.out.symm.trans HU.out, rfl, HTS.out⟩
end
section
variable {w0 : World} {pt : Obj} {c : Str} {row : Nat → T} {q b p : Nat} (X : EX w0 pt c row q b p)
include X
set_option maxRecDepth 100000 in
set_option maxHeartbeats 8000000 in
theorem compound_any (l : Str) (bs : Bool) (d : Nat) (W : World) (h : TS w0 pt l bs c d W) :
    Calls Tryz.prog 79 #[tp w0, .pointer (some ⟨b, p, none⟩)] W (PostT w0 pt l bs c (compoundT c row (subs c row) q d)) := by
  obtain ⟨k, n, s, a3, n3, c3, a4, n4, c4, a5, n5, c5, e, a7, n7, c7, a8, n8, c8, t, hy, h0, h1, h2, h6, h9, h3, h4, h5, h7, h8, p3, p4, p5, p7, p8⟩ := X.cells
  obtain ⟨y0, y1, y2, y3, y4, y5, y6, y7, y8, y9⟩ := hy W h.low
  have HY := Lib.hid hy
  have HR : Hid (compoundT c row (subs c row) q d =
    if k = 5 then seqL [oneT wO, opT s, colT row (subs c row) (q + 3) 0, shutT] d
    else if k = 6 then seqL [opensT [105, 102], timesT row (subs c row) 3 (q + 3), shutT] d
    else if k = 7 then seqL [opensT [101, 97, 99, 104], nameT s, timesT row (subs c row) 2 (q + 3), shutT] d
    else if k = 8 then seqL [opensT [114, 101, 97, 100], timesT row (subs c row) 1 (q + 3), shutT] d
    else if k = 9 then seqL [opensT [116, 104, 114, 111, 119], timesT row (subs c row) 1 (q + 3), shutT] d
    else if k = 10 then seqL [opensT [114, 101, 99], pairsT row (subs c row) (q + 4) (q + 5), shutT] d
    else if k = 12 then (if t = siteW c d then seqL [opensT [100, 111], colT row (subs c row) (q + 8) 1, shutT] (d + 1) else none)
    else none) := by
    rw [Hid, ← h0, ← h2, ← h9]
    rfl
  rw [HR.out]
  have HO := Lib.hid (fun l bs d (W : World) (h : TS w0 pt l bs c d W) => open_any W h)
  have HS := Lib.hid (fun l bs d (W : World) (h : TS w0 pt l bs c d W) => shut_any W h)
  have HM := Lib.hid (fun l bs d s (W : World) (h : TS w0 pt l bs c d W) => name_any s W X.tabs h)
  have HP := Lib.hid (fun l bs d (W : World) (h : TS w0 pt l bs c d W) => pairs_any X l bs d W h)
  have HC := Lib.hid (fun l bs d (W : World) (h : TS w0 pt l bs c d W) => colE_any X.hw.2.2.2.1 X.l3 p3 l bs d W h)
  have HE1 : Hid (∀ l bs d (W : World), TS w0 pt l bs c d W → Calls Tryz.prog 132 #[tp w0, .int .i64 1, .slice a3 n3 c3] W (PostT w0 pt l bs c (timesT row (subs c row) 1 (q + 3) d))) := fun l bs d W h => exprs_any (colE_any X.hw.2.2.2.1 X.l3 p3) h3 1 l bs d W h
  have HE2 : Hid (∀ l bs d (W : World), TS w0 pt l bs c d W → Calls Tryz.prog 132 #[tp w0, .int .i64 2, .slice a3 n3 c3] W (PostT w0 pt l bs c (timesT row (subs c row) 2 (q + 3) d))) := fun l bs d W h => exprs_any (colE_any X.hw.2.2.2.1 X.l3 p3) h3 2 l bs d W h
  have HE3 : Hid (∀ l bs d (W : World), TS w0 pt l bs c d W → Calls Tryz.prog 132 #[tp w0, .int .i64 3, .slice a3 n3 c3] W (PostT w0 pt l bs c (timesT row (subs c row) 3 (q + 3) d))) := fun l bs d W h => exprs_any (colE_any X.hw.2.2.2.1 X.l3 p3) h3 3 l bs d W h
  have HOP := Lib.hid (fun l bs d s (W : World) (h : TS w0 pt l bs c d W) => op_any s W X.tabs h)
  have HSI := Lib.hid (fun l bs d s (W : World) (h : TS w0 pt l bs c d W) => site_any s W X.cl X.tabs h)
  have HDD : Hid (∀ l bs d (W : World), TS w0 pt l bs c d W → Calls Tryz.prog 135 #[.slice a8 n8 c8, .func (.func 120) #[tp w0] #[]] W (PostT w0 pt l bs c (colT row (subs c row) (q + 8) 1 d))) := fun l bs d W h =>
    eachA_any X.tabs (row (q + 8)) X.hw.2.2.2.2.2.2.2.2.1 X.l8 _ l bs d W p8 h
  have hts := h
  clear HR h hy p3 p4 p5 p7 p8 h0 h1 h2 h3 h4 h5 h6 h7 h8 h9
  by_cases e5 : k = 5
  · subst e5
    rw [if_pos rfl]
    go_enter Tryz.func79, Tryz.ntmps79
    go_wp2_with (first
      | (go_at_call 66; (with_reducible refine (HO.out _ _ _ _ (by assumption)).mono ?_); rintro e1 w1 ⟨rfl, hts⟩; obtain ⟨y0, y1, y2, y3, y4, y5, y6, y7, y8, y9⟩ := HY.out _ (TS.low hts))
      | (go_at_call 131; (with_reducible refine (HOP.out _ _ _ _ _ (by assumption)).mono ?_); rintro e1 w1 (⟨u1, d1, hu1, rfl, hts⟩ | ⟨hu1, rfl, hb1⟩); obtain ⟨y0, y1, y2, y3, y4, y5, y6, y7, y8, y9⟩ := HY.out _ (TS.low hts))
      | (go_at_call 118; (with_reducible refine (HC.out _ _ _ _ (by assumption)).mono ?_); rintro e1 w1 (⟨u1, d1, hu1, rfl, hts⟩ | ⟨hu1, rfl, hb1⟩); obtain ⟨y0, y1, y2, y3, y4, y5, y6, y7, y8, y9⟩ := HY.out _ (TS.low hts))
      | (go_at_call 46; (with_reducible refine (HS.out _ _ _ _ (by assumption)).mono ?_); rintro e1 w1 ⟨rfl, hts⟩; obtain ⟨y0, y1, y2, y3, y4, y5, y6, y7, y8, y9⟩ := HY.out _ (TS.low hts)))
    all_goals go_ret
    all_goals (first
        | exact PostT.step (by first | assumption | rfl) (PostT.step (by first | assumption | rfl) (PostT.step (by first | assumption | rfl) (PostT.step (by first | assumption | rfl) (PostT.done rfl (by assumption)))))
        | exact PostT.step (by first | assumption | rfl) (PostT.step (by first | assumption | rfl) (PostT.step (by first | assumption | rfl) (PostT.step (by first | assumption | rfl) (PostT.stop (by assumption) rfl (by assumption)))))
        | exact PostT.step (by first | assumption | rfl) (PostT.step (by first | assumption | rfl) (PostT.step (by first | assumption | rfl) (PostT.done rfl (by assumption))))
        | exact PostT.step (by first | assumption | rfl) (PostT.step (by first | assumption | rfl) (PostT.step (by first | assumption | rfl) (PostT.stop (by assumption) rfl (by assumption))))
        | exact PostT.step (by first | assumption | rfl) (PostT.step (by first | assumption | rfl) (PostT.done rfl (by assumption)))
        | exact PostT.step (by first | assumption | rfl) (PostT.step (by first | assumption | rfl) (PostT.stop (by assumption) rfl (by assumption)))
        | exact PostT.step (by first | assumption | rfl) (PostT.done rfl (by assumption))
        | exact PostT.step (by first | assumption | rfl) (PostT.stop (by assumption) rfl (by assumption))
        | exact PostT.done rfl (by assumption)
        | exact PostT.stop (by assumption) rfl (by assumption))
  rw [if_neg e5]
  have f5 : (k == 5) = false := by simpa using e5
  by_cases e6 : k = 6
  · subst e6
    rw [if_pos rfl]
    have HW : Hid (∀ l bs d (W : World), TS w0 pt l bs c d W → Calls Tryz.prog 41 #[tp w0, .string ⟨#[105, 102]⟩] W fun e w' => e = .returned (.bool true) ∧ TS w0 pt (l ++ lay bs [wO, wN [105, 102]]) true c d w') := fun l bs d W h => opens_any ⟨#[105, 102]⟩ W (by decide) h
    go_enter Tryz.func79, Tryz.ntmps79
    go_wp2_with (first
      | (go_at_call 41; (with_reducible refine (HW.out _ _ _ _ (by assumption)).mono ?_); rintro e1 w1 ⟨rfl, hts⟩; obtain ⟨y0, y1, y2, y3, y4, y5, y6, y7, y8, y9⟩ := HY.out _ (TS.low hts))
      | (go_at_call 132; (with_reducible refine (HE3.out _ _ _ _ (by assumption)).mono ?_); rintro e1 w1 (⟨u1, d1, hu1, rfl, hts⟩ | ⟨hu1, rfl, hb1⟩); obtain ⟨y0, y1, y2, y3, y4, y5, y6, y7, y8, y9⟩ := HY.out _ (TS.low hts))
      | (go_at_call 46; (with_reducible refine (HS.out _ _ _ _ (by assumption)).mono ?_); rintro e1 w1 ⟨rfl, hts⟩; obtain ⟨y0, y1, y2, y3, y4, y5, y6, y7, y8, y9⟩ := HY.out _ (TS.low hts)))
    all_goals go_ret
    all_goals (first
        | exact PostT.step (by first | assumption | rfl) (PostT.step (by first | assumption | rfl) (PostT.step (by first | assumption | rfl) (PostT.done rfl (by assumption))))
        | exact PostT.step (by first | assumption | rfl) (PostT.step (by first | assumption | rfl) (PostT.step (by first | assumption | rfl) (PostT.stop (by assumption) rfl (by assumption))))
        | exact PostT.step (by first | assumption | rfl) (PostT.step (by first | assumption | rfl) (PostT.done rfl (by assumption)))
        | exact PostT.step (by first | assumption | rfl) (PostT.step (by first | assumption | rfl) (PostT.stop (by assumption) rfl (by assumption)))
        | exact PostT.step (by first | assumption | rfl) (PostT.done rfl (by assumption))
        | exact PostT.step (by first | assumption | rfl) (PostT.stop (by assumption) rfl (by assumption))
        | exact PostT.done rfl (by assumption)
        | exact PostT.stop (by assumption) rfl (by assumption))
  rw [if_neg e6]
  have f6 : (k == 6) = false := by simpa using e6
  by_cases e7 : k = 7
  · subst e7
    rw [if_pos rfl]
    have HW : Hid (∀ l bs d (W : World), TS w0 pt l bs c d W → Calls Tryz.prog 41 #[tp w0, .string ⟨#[101, 97, 99, 104]⟩] W fun e w' => e = .returned (.bool true) ∧ TS w0 pt (l ++ lay bs [wO, wN [101, 97, 99, 104]]) true c d w') := fun l bs d W h => opens_any ⟨#[101, 97, 99, 104]⟩ W (by decide) h
    go_enter Tryz.func79, Tryz.ntmps79
    go_wp2_with (first
      | (go_at_call 41; (with_reducible refine (HW.out _ _ _ _ (by assumption)).mono ?_); rintro e1 w1 ⟨rfl, hts⟩; obtain ⟨y0, y1, y2, y3, y4, y5, y6, y7, y8, y9⟩ := HY.out _ (TS.low hts))
      | (go_at_call 42; (with_reducible refine (HM.out _ _ _ _ _ (by assumption)).mono ?_); rintro e1 w1 (⟨u1, d1, hu1, rfl, hts⟩ | ⟨hu1, rfl, hb1⟩); obtain ⟨y0, y1, y2, y3, y4, y5, y6, y7, y8, y9⟩ := HY.out _ (TS.low hts))
      | (go_at_call 132; (with_reducible refine (HE2.out _ _ _ _ (by assumption)).mono ?_); rintro e1 w1 (⟨u1, d1, hu1, rfl, hts⟩ | ⟨hu1, rfl, hb1⟩); obtain ⟨y0, y1, y2, y3, y4, y5, y6, y7, y8, y9⟩ := HY.out _ (TS.low hts))
      | (go_at_call 46; (with_reducible refine (HS.out _ _ _ _ (by assumption)).mono ?_); rintro e1 w1 ⟨rfl, hts⟩; obtain ⟨y0, y1, y2, y3, y4, y5, y6, y7, y8, y9⟩ := HY.out _ (TS.low hts)))
    all_goals go_ret
    all_goals (first
        | exact PostT.step (by first | assumption | rfl) (PostT.step (by first | assumption | rfl) (PostT.step (by first | assumption | rfl) (PostT.step (by first | assumption | rfl) (PostT.done rfl (by assumption)))))
        | exact PostT.step (by first | assumption | rfl) (PostT.step (by first | assumption | rfl) (PostT.step (by first | assumption | rfl) (PostT.step (by first | assumption | rfl) (PostT.stop (by assumption) rfl (by assumption)))))
        | exact PostT.step (by first | assumption | rfl) (PostT.step (by first | assumption | rfl) (PostT.step (by first | assumption | rfl) (PostT.done rfl (by assumption))))
        | exact PostT.step (by first | assumption | rfl) (PostT.step (by first | assumption | rfl) (PostT.step (by first | assumption | rfl) (PostT.stop (by assumption) rfl (by assumption))))
        | exact PostT.step (by first | assumption | rfl) (PostT.step (by first | assumption | rfl) (PostT.done rfl (by assumption)))
        | exact PostT.step (by first | assumption | rfl) (PostT.step (by first | assumption | rfl) (PostT.stop (by assumption) rfl (by assumption)))
        | exact PostT.step (by first | assumption | rfl) (PostT.done rfl (by assumption))
        | exact PostT.step (by first | assumption | rfl) (PostT.stop (by assumption) rfl (by assumption))
        | exact PostT.done rfl (by assumption)
        | exact PostT.stop (by assumption) rfl (by assumption))
  rw [if_neg e7]
  have f7 : (k == 7) = false := by simpa using e7
  by_cases e8 : k = 8
  · subst e8
    rw [if_pos rfl]
    have HW : Hid (∀ l bs d (W : World), TS w0 pt l bs c d W → Calls Tryz.prog 41 #[tp w0, .string ⟨#[114, 101, 97, 100]⟩] W fun e w' => e = .returned (.bool true) ∧ TS w0 pt (l ++ lay bs [wO, wN [114, 101, 97, 100]]) true c d w') := fun l bs d W h => opens_any ⟨#[114, 101, 97, 100]⟩ W (by decide) h
    go_enter Tryz.func79, Tryz.ntmps79
    go_wp2_with (first
      | (go_at_call 41; (with_reducible refine (HW.out _ _ _ _ (by assumption)).mono ?_); rintro e1 w1 ⟨rfl, hts⟩; obtain ⟨y0, y1, y2, y3, y4, y5, y6, y7, y8, y9⟩ := HY.out _ (TS.low hts))
      | (go_at_call 132; (with_reducible refine (HE1.out _ _ _ _ (by assumption)).mono ?_); rintro e1 w1 (⟨u1, d1, hu1, rfl, hts⟩ | ⟨hu1, rfl, hb1⟩); obtain ⟨y0, y1, y2, y3, y4, y5, y6, y7, y8, y9⟩ := HY.out _ (TS.low hts))
      | (go_at_call 46; (with_reducible refine (HS.out _ _ _ _ (by assumption)).mono ?_); rintro e1 w1 ⟨rfl, hts⟩; obtain ⟨y0, y1, y2, y3, y4, y5, y6, y7, y8, y9⟩ := HY.out _ (TS.low hts)))
    all_goals go_ret
    all_goals (first
        | exact PostT.step (by first | assumption | rfl) (PostT.step (by first | assumption | rfl) (PostT.step (by first | assumption | rfl) (PostT.done rfl (by assumption))))
        | exact PostT.step (by first | assumption | rfl) (PostT.step (by first | assumption | rfl) (PostT.step (by first | assumption | rfl) (PostT.stop (by assumption) rfl (by assumption))))
        | exact PostT.step (by first | assumption | rfl) (PostT.step (by first | assumption | rfl) (PostT.done rfl (by assumption)))
        | exact PostT.step (by first | assumption | rfl) (PostT.step (by first | assumption | rfl) (PostT.stop (by assumption) rfl (by assumption)))
        | exact PostT.step (by first | assumption | rfl) (PostT.done rfl (by assumption))
        | exact PostT.step (by first | assumption | rfl) (PostT.stop (by assumption) rfl (by assumption))
        | exact PostT.done rfl (by assumption)
        | exact PostT.stop (by assumption) rfl (by assumption))
  rw [if_neg e8]
  have f8 : (k == 8) = false := by simpa using e8
  by_cases e9 : k = 9
  · subst e9
    rw [if_pos rfl]
    have HW : Hid (∀ l bs d (W : World), TS w0 pt l bs c d W → Calls Tryz.prog 41 #[tp w0, .string ⟨#[116, 104, 114, 111, 119]⟩] W fun e w' => e = .returned (.bool true) ∧ TS w0 pt (l ++ lay bs [wO, wN [116, 104, 114, 111, 119]]) true c d w') := fun l bs d W h => opens_any ⟨#[116, 104, 114, 111, 119]⟩ W (by decide) h
    go_enter Tryz.func79, Tryz.ntmps79
    go_wp2_with (first
      | (go_at_call 41; (with_reducible refine (HW.out _ _ _ _ (by assumption)).mono ?_); rintro e1 w1 ⟨rfl, hts⟩; obtain ⟨y0, y1, y2, y3, y4, y5, y6, y7, y8, y9⟩ := HY.out _ (TS.low hts))
      | (go_at_call 132; (with_reducible refine (HE1.out _ _ _ _ (by assumption)).mono ?_); rintro e1 w1 (⟨u1, d1, hu1, rfl, hts⟩ | ⟨hu1, rfl, hb1⟩); obtain ⟨y0, y1, y2, y3, y4, y5, y6, y7, y8, y9⟩ := HY.out _ (TS.low hts))
      | (go_at_call 46; (with_reducible refine (HS.out _ _ _ _ (by assumption)).mono ?_); rintro e1 w1 ⟨rfl, hts⟩; obtain ⟨y0, y1, y2, y3, y4, y5, y6, y7, y8, y9⟩ := HY.out _ (TS.low hts)))
    all_goals go_ret
    all_goals (first
        | exact PostT.step (by first | assumption | rfl) (PostT.step (by first | assumption | rfl) (PostT.step (by first | assumption | rfl) (PostT.done rfl (by assumption))))
        | exact PostT.step (by first | assumption | rfl) (PostT.step (by first | assumption | rfl) (PostT.step (by first | assumption | rfl) (PostT.stop (by assumption) rfl (by assumption))))
        | exact PostT.step (by first | assumption | rfl) (PostT.step (by first | assumption | rfl) (PostT.done rfl (by assumption)))
        | exact PostT.step (by first | assumption | rfl) (PostT.step (by first | assumption | rfl) (PostT.stop (by assumption) rfl (by assumption)))
        | exact PostT.step (by first | assumption | rfl) (PostT.done rfl (by assumption))
        | exact PostT.step (by first | assumption | rfl) (PostT.stop (by assumption) rfl (by assumption))
        | exact PostT.done rfl (by assumption)
        | exact PostT.stop (by assumption) rfl (by assumption))
  rw [if_neg e9]
  have f9 : (k == 9) = false := by simpa using e9
  by_cases e10 : k = 10
  · subst e10
    rw [if_pos rfl]
    have HW : Hid (∀ l bs d (W : World), TS w0 pt l bs c d W → Calls Tryz.prog 41 #[tp w0, .string ⟨#[114, 101, 99]⟩] W fun e w' => e = .returned (.bool true) ∧ TS w0 pt (l ++ lay bs [wO, wN [114, 101, 99]]) true c d w') := fun l bs d W h => opens_any ⟨#[114, 101, 99]⟩ W (by decide) h
    go_enter Tryz.func79, Tryz.ntmps79
    go_wp2_with (first
      | (go_at_call 41; (with_reducible refine (HW.out _ _ _ _ (by assumption)).mono ?_); rintro e1 w1 ⟨rfl, hts⟩; obtain ⟨y0, y1, y2, y3, y4, y5, y6, y7, y8, y9⟩ := HY.out _ (TS.low hts))
      | (go_at_call 133; (with_reducible refine (HP.out _ _ _ _ (by assumption)).mono ?_); rintro e1 w1 (⟨u1, d1, hu1, rfl, hts⟩ | ⟨hu1, rfl, hb1⟩); obtain ⟨y0, y1, y2, y3, y4, y5, y6, y7, y8, y9⟩ := HY.out _ (TS.low hts))
      | (go_at_call 46; (with_reducible refine (HS.out _ _ _ _ (by assumption)).mono ?_); rintro e1 w1 ⟨rfl, hts⟩; obtain ⟨y0, y1, y2, y3, y4, y5, y6, y7, y8, y9⟩ := HY.out _ (TS.low hts)))
    all_goals go_ret
    all_goals (first
        | exact PostT.step (by first | assumption | rfl) (PostT.step (by first | assumption | rfl) (PostT.step (by first | assumption | rfl) (PostT.done rfl (by assumption))))
        | exact PostT.step (by first | assumption | rfl) (PostT.step (by first | assumption | rfl) (PostT.step (by first | assumption | rfl) (PostT.stop (by assumption) rfl (by assumption))))
        | exact PostT.step (by first | assumption | rfl) (PostT.step (by first | assumption | rfl) (PostT.done rfl (by assumption)))
        | exact PostT.step (by first | assumption | rfl) (PostT.step (by first | assumption | rfl) (PostT.stop (by assumption) rfl (by assumption)))
        | exact PostT.step (by first | assumption | rfl) (PostT.done rfl (by assumption))
        | exact PostT.step (by first | assumption | rfl) (PostT.stop (by assumption) rfl (by assumption))
        | exact PostT.done rfl (by assumption)
        | exact PostT.stop (by assumption) rfl (by assumption))
  rw [if_neg e10]
  have f10 : (k == 10) = false := by simpa using e10
  by_cases e12 : k = 12
  · subst e12
    rw [if_pos rfl]
    have HW : Hid (∀ l bs d (W : World), TS w0 pt l bs c d W → Calls Tryz.prog 41 #[tp w0, .string ⟨#[100, 111]⟩] W fun e w' => e = .returned (.bool true) ∧ TS w0 pt (l ++ lay bs [wO, wN [100, 111]]) true c d w') := fun l bs d W h => opens_any ⟨#[100, 111]⟩ W (by decide) h
    by_cases hst : t = siteW c d
    · rw [if_pos hst]
      have hsq : (t == siteW c d) = true := by simpa using hst
      go_enter Tryz.func79, Tryz.ntmps79
      go_wp2_with (first
        | (go_at_call 134; (with_reducible refine (HSI.out _ _ _ _ _ (by assumption)).mono ?_); rintro e1 w1 ⟨rfl, hts⟩; obtain ⟨y0, y1, y2, y3, y4, y5, y6, y7, y8, y9⟩ := HY.out _ (TS.low hts))
        | (go_at_call 41; (with_reducible refine (HW.out _ _ _ _ (by assumption)).mono ?_); rintro e1 w1 ⟨rfl, hts⟩; obtain ⟨y0, y1, y2, y3, y4, y5, y6, y7, y8, y9⟩ := HY.out _ (TS.low hts))
        | (go_at_call 135; (with_reducible refine (HDD.out _ _ _ _ (by assumption)).mono ?_); rintro e1 w1 (⟨u1, d1, hu1, rfl, hts⟩ | ⟨hu1, rfl, hb1⟩); obtain ⟨y0, y1, y2, y3, y4, y5, y6, y7, y8, y9⟩ := HY.out _ (TS.low hts))
        | (go_at_call 46; (with_reducible refine (HS.out _ _ _ _ (by assumption)).mono ?_); rintro e1 w1 ⟨rfl, hts⟩; obtain ⟨y0, y1, y2, y3, y4, y5, y6, y7, y8, y9⟩ := HY.out _ (TS.low hts)))
      all_goals go_ret
      all_goals (first
          | exact PostT.step (by first | assumption | rfl) (PostT.step (by first | assumption | rfl) (PostT.step (by first | assumption | rfl) (PostT.step (by first | assumption | rfl) (PostT.done rfl (by assumption)))))
          | exact PostT.step (by first | assumption | rfl) (PostT.step (by first | assumption | rfl) (PostT.step (by first | assumption | rfl) (PostT.step (by first | assumption | rfl) (PostT.stop (by assumption) rfl (by assumption)))))
          | exact PostT.step (by first | assumption | rfl) (PostT.step (by first | assumption | rfl) (PostT.step (by first | assumption | rfl) (PostT.done rfl (by assumption))))
          | exact PostT.step (by first | assumption | rfl) (PostT.step (by first | assumption | rfl) (PostT.step (by first | assumption | rfl) (PostT.stop (by assumption) rfl (by assumption))))
          | exact PostT.step (by first | assumption | rfl) (PostT.step (by first | assumption | rfl) (PostT.done rfl (by assumption)))
          | exact PostT.step (by first | assumption | rfl) (PostT.step (by first | assumption | rfl) (PostT.stop (by assumption) rfl (by assumption)))
          | exact PostT.step (by first | assumption | rfl) (PostT.done rfl (by assumption))
          | exact PostT.step (by first | assumption | rfl) (PostT.stop (by assumption) rfl (by assumption))
          | exact PostT.done rfl (by assumption)
          | exact PostT.stop (by assumption) rfl (by assumption))
    · rw [if_neg hst]
      have hsq : (t == siteW c d) = false := by simpa using hst
      go_enter Tryz.func79, Tryz.ntmps79
      go_wp2_with (first
        | (go_at_call 134; (with_reducible refine (HSI.out _ _ _ _ _ (by assumption)).mono ?_); rintro e1 w1 ⟨rfl, hts⟩; obtain ⟨y0, y1, y2, y3, y4, y5, y6, y7, y8, y9⟩ := HY.out _ (TS.low hts))
        | (go_at_call 41; (with_reducible refine (HW.out _ _ _ _ (by assumption)).mono ?_); rintro e1 w1 ⟨rfl, hts⟩; obtain ⟨y0, y1, y2, y3, y4, y5, y6, y7, y8, y9⟩ := HY.out _ (TS.low hts))
        | (go_at_call 135; (with_reducible refine (HDD.out _ _ _ _ (by assumption)).mono ?_); rintro e1 w1 (⟨u1, d1, hu1, rfl, hts⟩ | ⟨hu1, rfl, hb1⟩); obtain ⟨y0, y1, y2, y3, y4, y5, y6, y7, y8, y9⟩ := HY.out _ (TS.low hts))
        | (go_at_call 46; (with_reducible refine (HS.out _ _ _ _ (by assumption)).mono ?_); rintro e1 w1 ⟨rfl, hts⟩; obtain ⟨y0, y1, y2, y3, y4, y5, y6, y7, y8, y9⟩ := HY.out _ (TS.low hts)))
      go_ret
      exact .inr ⟨rfl, rfl, TS.low (by assumption)⟩
  rw [if_neg e12]
  have f12 : (k == 12) = false := by simpa using e12
  go_enter Tryz.func79, Tryz.ntmps79
  go_wp2
  go_ret
  exact .inr ⟨rfl, rfl, hts.low⟩
end
end Go.Proofs.YtedmmgfnplbkjaaGreatDoor.PR
