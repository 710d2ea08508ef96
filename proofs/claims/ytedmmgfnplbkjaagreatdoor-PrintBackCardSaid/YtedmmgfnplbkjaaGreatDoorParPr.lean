/-
  Walks: program.
  Conditions: the reader lies as 'RD' says; its words are at most 65536.
  Walks: line.
  Conditions: the reader lies as 'RD' says; its words are at most 65536; one has been taken.
-/
import Derived.Test.YtedmmgfnplbkjaaGreatDoorParCo
import Derived.Test.YtedmmgfnplbkjaaGreatDoorParX
namespace Go.Proofs.YtedmmgfnplbkjaaGreatDoor
set_option linter.unusedVariables false
set_option linter.unusedSimpArgs false
open Go.RowKit G
set_option maxRecDepth 100000 in
set_option maxHeartbeats 8000000 in
theorem program_any {W1 : World} {wv : Value} {ws : List LX.LW} {c : Str} {t d : Nat} {W : World} (h : RD' W1 wv ws c t d W) (hn : ws.length ≤ 65536) (hwl : ∀ w ∈ ws, w.s.length ≤ 70000) (htab : LTabs W1) (m : Nat) (hm : ws.length < m + t) :
    Calls Tryz.prog 26 #[rp W1] W (PostC W1 wv ws t W (FSl ShC 46 13 W.heap.size) (programP (ws.map nol) m t d)) := by
  have hlt := h.1.lt
  have HC := Lib.hid (fun c t d W (h : RD' W1 wv ws c t d W) => component_any h hn hwl htab)
  obtain ⟨ao, wcap, rfl, hwc1, hwc2⟩ := h.1.slice
  unfold maxLen at hwc2
  obtain ⟨rs, hrs⟩ : ∃ r, (programP (ws.map nol) m t d) = r := ⟨_, rfl⟩
  rw [hrs]
  obtain ⟨post, hpost⟩ : ∃ p, PostC W1 (.slice ao ws.length wcap) ws t W (FSl ShC 46 13 W.heap.size) rs = p := ⟨_, rfl⟩
  have HB : Hid (∀ t' w', rs = .bad t' → (∃ c d, RD W1 (.slice ao ws.length wcap) ws c t' d w') → Gr W1 W w' → post (.panicked [pz]) w') := fun t' w' h1 h2 h3 => by rw [← hpost]; exact .inl ⟨t', h1, rfl, h2, h3⟩
  have HO : Hid (∀ x t' d' c v w', rs = .ok x t' d' → (FSl ShC 46 13 W.heap.size) x v w' → t ≤ t' → RD' W1 (.slice ao ws.length wcap) ws c t' d' w' → Gr W1 W w' → post (.returned v) w') := fun x t' d' c v w' h1 h2 h3 h4 h5 => by rw [← hpost]; exact .inr ⟨x, t', d', v, h1, rfl, h2, h3, ⟨c, h4⟩, h5⟩
  rw [hpost]
  have HRS := Lib.hid hrs
  clear hrs hpost
  have HR0 := Lib.hid h
  clear h hwl htab
  go_enter Tryz.func26, Tryz.ntmps26
  go_wp2
  go_loopw [3] (fun u wr => ∃ (v : Value) (l : List (List T)) (c' : Str) (t' d' m' : Nat), v = u ∧ FRows ShC 46 13 W.heap.size l v wr ∧ RD' W1 (.slice ao ws.length wcap) ws c' t' d' wr ∧ Gr W1 W wr ∧ t ≤ t' ∧ l.length ≤ t' ∧ ws.length < m' + t' ∧ (programP (ws.map nol) m' t' d').bind (fun l' t d => .ok (l ++ l') t d) = rs) (fun _ wr => ws.length + 1 - tk W1 wr)
  case atStart =>
    refine ⟨_, [], c, t, d, m, rfl, FRows.nil _ _ _ _ _, HR0.out, gr_refl _ _, Nat.le_refl _, Nat.zero_le _, hm, ?_⟩
    rw [← HRS.out]
    cases programP (ws.map nol) m t d <;> rfl
  case round =>
    obtain ⟨v, l, c1, t1, d1, m1, rfl, hf, hr, hg, ht1, hl1, hm1, hrs⟩ := hrel
    obtain ⟨al, cl, rfl, hcl, hcm⟩ := hf.shape
    have htn := hr.2.1
    obtain ⟨m2, rfl⟩ : ∃ m2, m1 = m2 + 1 := ⟨m1 - 1, by omega⟩
    have HRR := Lib.hid hrs
    have HF := Lib.hid hf
    have HTK := Lib.hid hr.1.tk
    have hWs := hg.size
    obtain ⟨⟨r0, r1, -, -⟩, -⟩ := hr.1.cells
    clear hrs hf
    by_cases hlt2 : t1 < ws.length
    · have g1 : (t1 : Int) < (ws.length : Int) := by omega
      go_upto_region 2 with fail
      go_quiet (fail)
      clear r0 r1
      go_wp2_with (first
        | (go_at_call 40; (with_reducible refine (HC.out _ _ _ _ (hr.drewN _)).mono ?_); rintro e w3 (⟨t3, hp, rfl, hb, hk3⟩ | ⟨x, t3, d3, v3, hp, rfl, ⟨vs3, rfl, ⟨ys0, ys1, yp2, yl2, yq2, ya3, ya4, ys5, yp6, yl6, yq6, yp7, yl7, yq7, yp8, yl8, yq8, ya9, yp10, yl10, yq10, yp11, yl11, yq11, ys12, rfl⟩, hrow⟩, hl3, ⟨c3, hr3⟩, hk3⟩))
        | (have HK3 := Lib.hid (((gr_refl W1 wr).drewN _).trans hk3); have hW3 : wr.heap.size ≤ w3.heap.size := HK3.out.size; refine append_R Tryz.underlying23 infC rfl (by decide) (by decide) (HF.out.gr HK3.out hlt) (by omega) (by omega) (by rw [← hrow.length]; rfl) (hrow.keep (Nat.le_refl _) (fun b h1 h2 => by have h3 : wr.heap.size ≤ b := h2; exact ⟨by omega, fun e => by have := HF.out.own e.symm; omega⟩) (fun _ _ _ => rfl)) ⟨_, _, _, _, _, _, _, _, _, _, _, _, _, _, _, _, _, _, _, _, _, _, _, _, _, rfl⟩ (shC_one ⟨_, _, _, _, _, _, _, _, _, _, _, _, _, _, _, _, _, _, _, _, _, _, _, _, _, rfl⟩).1 rfl _ _ rfl rfl rfl ?_; intro v4 w4 hf4 hg4 ho4))
      · refine ⟨rfl, HB.out t3 _ ?_ hb (hg.trans (((gr_refl W1 wr).drewN _).trans hk3))⟩
        rw [← HRR.out]
        simp [programP, hlt2, hp]
      · have HF3 := Lib.hid (HF.out.gr HK3.out hlt)
        go_roundw
        case rel =>
          refine ⟨_, l ++ [x], c3, t3, d3, m2, rfl, hf4, hr3.row hg4 (fun g e => by have := HF3.out.own e; omega), (hg.trans HK3.out).row hg4 (fun g e => (HF3.out.own e).1), by omega, by rw [List.length_append]; simp; omega, by omega, ?_⟩
          rw [← HRR.out]
          have hlt3 : t1 < (ws.map nol).length := by rw [List.length_map]; exact hlt2
          simp only [programP, hlt3, if_true, hp, Rs.bind_ok]
          cases programP (ws.map nol) m2 t3 d3 with
          | bad u => rfl
          | ok l2 u e => simp only [Rs.bind_ok]; rw [List.append_assoc]; rfl
        case measure =>
          have e4 := (hr3.row hg4 (fun g e => by have := HF3.out.own e; omega)).1.tk
          have e1 := HTK.out
          have := hr3.2.1
          omega
    · have g1 : ¬ (t1 : Int) < (ws.length : Int) := by omega
      go_upto_region 2 with fail
      go_quiet (fail)
      clear r0 r1
      go_wp2
      refine HO.out l t1 d1 c1 _ _ ?_ ⟨al, l.length, cl, rfl, HF.out.gr ((gr_refl W1 wr).drewN _) hlt, rfl, by omega⟩ ht1 (hr.drewN _) (hg.drewN _)
      rw [← HRR.out]
      simp [programP, hlt2]
end Go.Proofs.YtedmmgfnplbkjaaGreatDoor
namespace Go.Proofs.YtedmmgfnplbkjaaGreatDoor
set_option linter.unusedVariables false
set_option linter.unusedSimpArgs false
open Go.RowKit G
set_option maxRecDepth 100000 in
set_option maxHeartbeats 4000000 in
theorem line_any {W1 : World} {wv : Value} {ws : List LX.LW} {c : Str} {t d : Nat} {W : World} (h : RD W1 wv ws c t d W) (hn : ws.length ≤ 65536) (ht : 1 ≤ t) (ht2 : t ≤ 65537) (j : Nat) (hj : j = min t ws.length - 1) (hjl : j < ws.length) :
    Calls Tryz.prog 25 #[rp W1] W fun e w' => e = .returned (.int .i64 (ws[j].line : Nat)) ∧ ∃ m, w' = W.drewN m := by
  obtain ⟨ao, cap, rfl, hc1, hc2⟩ := h.slice
  unfold maxLen at hc2
  obtain ⟨⟨c0, c1, c2, c3⟩, f0, f1, f2, f3⟩ := h.cells
  obtain ⟨b, o, rfl, x0, x1, x2, x3⟩ := h.word j hjl
  obtain ⟨ln, hln⟩ : ∃ ln, ws[j].line = ln := ⟨_, rfl⟩
  rw [hln] at x3 ⊢
  clear x0 x1 x2 hln h
  have q4 : j < cap := by omega
  have q2 : (0 : Int) ≤ (j : Int) := by omega
  have q3 : (j : Int) < (ws.length : Int) := by omega
  have hmin : min (t : Int) (ws.length : Int) = (j : Int) + 1 := by omega
  clear hj
  have q5 : IntKind.i64.wrap (j : Int) = (j : Int) := IntWalk.i64_in _ (by omega)
  have q6 : IntKind.i64.wrap ((j : Int) + 1 - 1) = (j : Int) := by rw [Int.add_sub_cancel]; exact q5
  go_enter Tryz.func25, Tryz.ntmps25
  go_wp2
  go_region
  go_wp2
  go_ret
  exact ⟨rfl, 1, rfl⟩
end Go.Proofs.YtedmmgfnplbkjaaGreatDoor
