/-
  Walks: exprOf, expr; elem's contract is handed in.
  Conditions: the reader lies as 'RD' says; its words are at most 65536.
-/
import Derived.Test.YtedmmgfnplbkjaaGreatDoorParV
namespace Go.Proofs.YtedmmgfnplbkjaaGreatDoor
set_option linter.unusedVariables false
set_option linter.unusedSimpArgs false
open Go.RowKit G
theorem kk_ne {kk : Nat} (k : Nat) (h : ¬ kk = k) : ((kk : Int) == (k : Int)) = false := by
  have : ¬ (kk : Int) = (k : Int) := by omega
  simpa using this
theorem nameP_d {ws : List LX.LW} {t d : Nat} {s : Str} {t' d' : Nat} (h : nameP ws t d = .ok s t' d') : t' = t + 1 ∧ d' = d := by
  unfold nameP at h
  cases hw : ws[t]? with
  | none => rw [hw] at h; cases h
  | some w =>
    rw [hw] at h
    dsimp only at h
    split at h
    · injection h with h1 h2 h3; exact ⟨h2.symm, h3.symm⟩
    · cases h
set_option maxRecDepth 100000 in
set_option maxHeartbeats 16000000 in
theorem exprOf_any {W1 : World} {wv : Value} {ws : List LX.LW} {c : Str} {t d : Nat} {W : World} (h : RD' W1 wv ws c t d W) (hn : ws.length ≤ 65536) {ex : Nat → Nat → Rs (List T)} (he : ∀ t' d' W', t ≤ t' → RD' W1 wv ws c t' d' W' → Calls Tryz.prog 64 #[rp W1] W' (PostR W1 wv ws c (t' + 1) W' (FT ShE W'.heap.size) (ex t' d'))) (hel : ∀ k : Int, 1 ≤ k → k ≤ 8 → ∀ t' d' W', t ≤ t' → RD' W1 wv ws c t' d' W' → Calls Tryz.prog 199 #[rp W1, .int .u8 k] W' (PostR W1 wv ws c t' W' (FT ShE W'.heap.size) (elemP (ws.map nol) ex k t' d'))) (hc : c.length ≤ 70000) (htab : LTabs W1) (hdt : d + 1 ≤ t) (kk : Nat) (s : Str) (n : Int) (ln : Nat) :
    Calls Tryz.prog 115 #[rp W1, .agg #[.int .u8 kk, .string ⟨s.toArray⟩, .int .i64 n, .int .i64 ln]] W (PostR W1 wv ws c t W (FT ShE W.heap.size) (exprOfP (ws.map nol) c ex ⟨kk, s, n, 0⟩ t d)) := by
  obtain ⟨W0, hW0⟩ : ∃ W0, (W.alloc (.cells #[.int .u8 kk, .string ⟨s.toArray⟩, .int .i64 n, .int .i64 ln] 90)).alloc (.cells #[.int .u8 0, .int .i64 0, .string ⟨#[]⟩, .slice none 0 0, .slice none 0 0, .slice none 0 0, .int .u8 0, .slice none 0 0, .slice none 0 0, .string ⟨#[]⟩] 42) = W0 := ⟨_, rfl⟩
  have hlt := h.1.lt
  have hr0 : RD' W1 wv ws c t d W0 := by rw [← hW0]; exact (h.alloc _).alloc _
  have hg0 : Gr W1 W W0 := by rw [← hW0]; exact ((gr_refl W1 W).alloc _).alloc _
  have hz0 : W0.heap.size = W.heap.size + 2 := by rw [← hW0]; simp
  have hb0 : W0.heap[W.heap.size]? = some (.cells #[.int .u8 kk, .string ⟨s.toArray⟩, .int .i64 n, .int .i64 ln] 90 (0, 0)) := by rw [← hW0]; exact new2a _ _ _ _ _
  have hb1 : W0.heap[W.heap.size + 1]? = some (.cells #[.int .u8 0, .int .i64 0, .string ⟨#[]⟩, .slice none 0 0, .slice none 0 0, .slice none 0 0, .int .u8 0, .slice none 0 0, .slice none 0 0, .string ⟨#[]⟩] 42 (0, 0)) := by rw [← hW0]; exact new2b _ _ _ _
  have HK1 := Lib.hid hb1
  have htn := h.2.1
  have HN := Lib.hid (name_any hr0 hn)
  have HPL := Lib.hid (plain_any hr0 hn s)
  have HCO := Lib.hid (fun t' d' W' s (h1 : t + 1 ≤ t') (h2 : RD' W1 wv ws c t' d' W') (h3 : d' + 1 ≤ t') => compound_any h2 hn (fun t2 d2 W2 h3 h4 => he t2 d2 W2 (by omega) h4) (fun k k1 k8 t2 d2 W2 h3 h4 => hel k k1 k8 t2 d2 W2 (by omega) h4) hc htab h3 s)
  obtain ⟨⟨c0, c1, c2, c3⟩, -⟩ := blk4 hb0
  obtain ⟨rs, hrs⟩ : ∃ r, (exprOfP (ws.map nol) c ex ⟨kk, s, n, 0⟩ t d) = r := ⟨_, rfl⟩
  rw [hrs]
  obtain ⟨post, hpost⟩ : ∃ p, PostR W1 wv ws c (t) W (FT ShE W.heap.size) rs = p := ⟨_, rfl⟩
  have HB : Hid (∀ t' w', rs = .bad t' → (∃ d, RD W1 wv ws c t' d w') → Gr W1 W w' → post (.panicked [pz]) w') := fun t' w' h1 h2 h3 => by rw [← hpost]; exact .inl ⟨t', h1, rfl, h2, h3⟩
  have HO : Hid (∀ x t' d' v w', rs = .ok x t' d' → (FT ShE W.heap.size) x v w' → t ≤ t' → RD' W1 wv ws c t' d' w' → Gr W1 W w' → post (.returned v) w') := fun x t' d' v w' h1 h2 h3 h4 h5 => by rw [← hpost]; exact .inr ⟨x, t', d', v, h1, rfl, h2, h3, h4, h5⟩
  rw [hpost]
  have HRS := Lib.hid hrs
  clear hrs hpost
  clear h hb0 hb1 he hel
  by_cases hk2 : kk = 2
  · have e0 : ((kk : Int) == 2) = true := by rw [hk2]; rfl
    have HKK := Lib.hid hk2
    clear hk2
    go_enter Tryz.func115, Tryz.ntmps115
    go_wp2_with (refine wpList_store_row rfl 42 _ _ rfl (W.heap.size + 1) _ rfl rfl 42 #[.int .u8 0, .int .i64 0, .string ⟨#[]⟩, .slice none 0 0, .slice none 0 0, .slice none 0 0, .int .u8 0, .slice none 0 0, .slice none 0 0, .string ⟨#[]⟩] HK1.out iszE rfl (all_one (shE_one (by exact ⟨_, _, _, _, _, _, _, _, _, _, _, _, _, _, _, _, _, _, _, _, rfl⟩)).1) ?_)
    refine bodyPost_ret (results_cell_row Tryz.results115 _ _ (W.heap.size + 1) 42 _ (0, 0) _ rfl (setRow_heap _ _ _ _ _ _ HK1.out) Tryz.underlying42 rfl iszE) rfl ?_
    exact HO.out (eCols 1 n [] [] [] [] 0 [] [] []) t d _ _ (by rw [← HRS.out]; simp [exprOfP, HKK.out]) ⟨_, rfl, ⟨_, _, _, _, _, _, _, _, _, _, _, _, _, _, _, _, _, _, _, _, rfl⟩, Row.low (C := W.heap.size) (by omega) (Put.rowB (g := W.heap.size + 1) (put_row _ _ _) (B := W.heap.size + 2) (by omega) (row_one _ (row_one _ (row_one _ (row_rows (rep_nil 10) (row_rows (rep_nil 1) (row_rows (rep_nil 10) (row_one _ (row_rows (rep_nil 10) (row_rows (rep_nil 12) (row_one _ .nil)))))))))))⟩ (Nat.le_refl _) ((put_row _ _ _).rd hr0 (by omega)) ((put_row _ _ _).gr hg0 (by omega))
  have a2 : ((kk : Int) == 2) = false := kk_ne 2 hk2
  by_cases hk3 : kk = 3
  · have e0 : ((kk : Int) == 3) = true := by rw [hk3]; rfl
    have HKK := Lib.hid hk3
    clear hk3
    go_enter Tryz.func115, Tryz.ntmps115
    go_wp2_with (refine wpList_store_row rfl 42 _ _ rfl (W.heap.size + 1) _ rfl rfl 42 #[.int .u8 0, .int .i64 0, .string ⟨#[]⟩, .slice none 0 0, .slice none 0 0, .slice none 0 0, .int .u8 0, .slice none 0 0, .slice none 0 0, .string ⟨#[]⟩] HK1.out iszE rfl (all_one (shE_one (by exact ⟨_, _, _, _, _, _, _, _, _, _, _, _, _, _, _, _, _, _, _, _, rfl⟩)).1) ?_)
    refine bodyPost_ret (results_cell_row Tryz.results115 _ _ (W.heap.size + 1) 42 _ (0, 0) _ rfl (setRow_heap _ _ _ _ _ _ HK1.out) Tryz.underlying42 rfl iszE) rfl ?_
    exact HO.out (eCols 3 0 s [] [] [] 0 [] [] []) t d _ _ (by rw [← HRS.out]; simp [exprOfP, HKK.out]) ⟨_, rfl, ⟨_, _, _, _, _, _, _, _, _, _, _, _, _, _, _, _, _, _, _, _, rfl⟩, Row.low (C := W.heap.size) (by omega) (Put.rowB (g := W.heap.size + 1) (put_row _ _ _) (B := W.heap.size + 2) (by omega) (row_one _ (row_one _ (row_one _ (row_rows (rep_nil 10) (row_rows (rep_nil 1) (row_rows (rep_nil 10) (row_one _ (row_rows (rep_nil 10) (row_rows (rep_nil 12) (row_one _ .nil)))))))))))⟩ (Nat.le_refl _) ((put_row _ _ _).rd hr0 (by omega)) ((put_row _ _ _).gr hg0 (by omega))
  have a3 : ((kk : Int) == 3) = false := kk_ne 3 hk3
  by_cases hk1 : kk = 1
  · have e0 : ((kk : Int) == 1) = true := by rw [hk1]; rfl
    have HKK := Lib.hid hk1
    clear hk1 hk2 hk3
    go_enter Tryz.func115, Tryz.ntmps115
    go_wp2_with (first
      | (go_at_call 166; (with_reducible refine HPL.out.mono ?_); rintro e1 w1 (⟨t1, hp1, rfl, hb1, hk1⟩ | ⟨x1, t1, d1, v1, hp1, rfl, ⟨vs1, rfl, ⟨ya0, ya1, ys2, yp3, yl3, yq3, yp4, yl4, yq4, yp5, yl5, yq5, ya6, yp7, yl7, yq7, yp8, yl8, yq8, ys9, rfl⟩, hrow1⟩, hl1, hr1, hk1⟩))
      | (refine wpList_store_row rfl 42 _ _ rfl (W.heap.size + 1) _ rfl rfl 42 #[.int .u8 0, .int .i64 0, .string ⟨#[]⟩, .slice none 0 0, .slice none 0 0, .slice none 0 0, .int .u8 0, .slice none 0 0, .slice none 0 0, .string ⟨#[]⟩] (gr_block hk1 (by omega) HK1.out) iszE rfl (all_one (shE_one (by exact ⟨_, _, _, _, _, _, _, _, _, _, _, _, _, _, _, _, _, _, _, _, rfl⟩)).1) ?_))
    · exact ⟨rfl, HB.out _ _ (by rw [← HRS.out]; simp [exprOfP, HKK.out, hp1]) hb1 (hg0.trans hk1)⟩
    · refine bodyPost_ret (results_cell_row Tryz.results115 _ _ (W.heap.size + 1) 42 _ (0, 0) _ rfl (setRow_heap _ _ _ _ _ _ (gr_block hk1 (by omega) HK1.out)) Tryz.underlying42 rfl iszE) rfl ?_
      exact HO.out x1 t1 d1 _ _ (by rw [← HRS.out]; simp [exprOfP, HKK.out, hp1]) ⟨_, rfl, ⟨_, _, _, _, _, _, _, _, _, _, _, _, _, _, _, _, _, _, _, _, rfl⟩, Row.low (C := W.heap.size) (by omega) (Put.rowB (g := W.heap.size + 1) (put_row _ _ _) (B := W.heap.size + 2) (by omega) (hrow1.low (Nat.le_of_eq hz0.symm)))⟩ hl1 ((put_row _ _ _).rd hr1 (by omega)) ((put_row _ _ _).gr (hg0.trans hk1) (by omega))
  have a1 : ((kk : Int) == 1) = false := kk_ne 1 hk1
  by_cases hk4 : kk = 4
  · have e0 : ((kk : Int) == 4) = true := by rw [hk4]; rfl
    have HKK := Lib.hid hk4
    clear hk1 hk2 hk3 hk4
    go_enter Tryz.func115, Tryz.ntmps115
    go_wp2_with (first
      | (go_at_call 62; (with_reducible refine HN.out.mono ?_); rintro e1 w1 (⟨t1, hp1, rfl, hb1, hk1⟩ | ⟨x1, t1, d1, v1, hp1, rfl, rfl, hl1, hr1, hk1⟩))
      | (have hd1 := nameP_d hp1; go_at_call 167; (with_reducible refine (HCO.out _ _ _ _ hl1 hr1 (by omega)).mono ?_); rintro e2 w2 (⟨t2, hp2, rfl, hb2, hk2⟩ | ⟨x2, t2, d2, v2, hp2, rfl, ⟨vs2, rfl, ⟨ya0, ya1, ys2, yp3, yl3, yq3, yp4, yl4, yq4, yp5, yl5, yq5, ya6, yp7, yl7, yq7, yp8, yl8, yq8, ys9, rfl⟩, hrow2⟩, hl2, hr2, hk2⟩))
      | (refine wpList_store_row rfl 42 _ _ rfl (W.heap.size + 1) _ rfl rfl 42 #[.int .u8 0, .int .i64 0, .string ⟨#[]⟩, .slice none 0 0, .slice none 0 0, .slice none 0 0, .int .u8 0, .slice none 0 0, .slice none 0 0, .string ⟨#[]⟩] (gr_block (hk1.trans hk2) (by omega) HK1.out) iszE rfl (all_one (shE_one (by exact ⟨_, _, _, _, _, _, _, _, _, _, _, _, _, _, _, _, _, _, _, _, rfl⟩)).1) ?_))
    · exact ⟨rfl, HB.out _ _ (by rw [← HRS.out]; simp [exprOfP, HKK.out, hp1]) hb1 (hg0.trans hk1)⟩
    · exact ⟨rfl, HB.out _ _ (by rw [← HRS.out]; simp [exprOfP, HKK.out, hp1, hp2]) hb2 ((hg0.trans hk1).trans hk2)⟩
    · refine bodyPost_ret (results_cell_row Tryz.results115 _ _ (W.heap.size + 1) 42 _ (0, 0) _ rfl (setRow_heap _ _ _ _ _ _ (gr_block (hk1.trans hk2) (by omega) HK1.out)) Tryz.underlying42 rfl iszE) rfl ?_
      have hs1 := hk1.size
      exact HO.out x2 t2 d2 _ _ (by rw [← HRS.out]; simp [exprOfP, HKK.out, hp1, hp2]) ⟨_, rfl, ⟨_, _, _, _, _, _, _, _, _, _, _, _, _, _, _, _, _, _, _, _, rfl⟩, Row.low (C := W.heap.size) (by omega) (Put.rowB (g := W.heap.size + 1) (put_row _ _ _) (B := W.heap.size + 2) (by omega) (hrow2.low (by omega)))⟩ (by omega) ((put_row _ _ _).rd hr2 (by omega)) ((put_row _ _ _).gr ((hg0.trans hk1).trans hk2) (by omega))
  have a4 : ((kk : Int) == 4) = false := kk_ne 4 hk4
  go_enter Tryz.func115, Tryz.ntmps115
  go_wp2
  exact ⟨rfl, HB.out _ _ (by rw [← HRS.out]; simp [exprOfP, hk1, hk2, hk3, hk4]) ⟨_, hr0.1⟩ hg0⟩
def nextP (ws : List LX.LW) (c : Str) (ex : Nat → Nat → Rs (List T)) (t d : Nat) : Rs (List T) := match ws[t]? with
  | none => .bad (t + 1)
  | some w => exprOfP ws c ex w (t + 1) d
theorem nextP_none {ws : List LX.LW} {c : Str} {ex : Nat → Nat → Rs (List T)} {t d : Nat} (h : ws[t]? = none) : nextP (ws.map nol) c ex t d = .bad (t + 1) := by
  unfold nextP
  rw [nol_get, h]
  rfl
theorem nextP_some {ws : List LX.LW} {c : Str} {ex : Nat → Nat → Rs (List T)} {t d k l : Nat} {s : Str} {n : Int} (h : ws[t]? = some ⟨k, s, n, l⟩) : nextP (ws.map nol) c ex t d = exprOfP (ws.map nol) c ex ⟨k, s, n, 0⟩ (t + 1) d := by
  unfold nextP
  rw [nol_get, h]
  rfl
theorem exprP_succ (ws : List LX.LW) (c : Str) (f t d : Nat) : exprP ws c (f + 1) t d = nextP ws c (exprP ws c f) t d := rfl
set_option maxRecDepth 100000 in
set_option maxHeartbeats 8000000 in
theorem expr_any {W1 : World} {wv : Value} {ws : List LX.LW} {c : Str} {t d : Nat} {W : World} (h : RD' W1 wv ws c t d W) (hn : ws.length ≤ 65536) {ex : Nat → Nat → Rs (List T)} (heo : ∀ kk s n ln W', ws[t]? = some ⟨kk, s, n, ln⟩ → RD' W1 wv ws c (t + 1) d W' → Calls Tryz.prog 115 #[rp W1, .agg #[.int .u8 (kk : Nat), .string ⟨s.toArray⟩, .int .i64 n, .int .i64 (ln : Nat)]] W' (PostR W1 wv ws c (t + 1) W' (FT ShE W'.heap.size) (exprOfP (ws.map nol) c ex ⟨kk, s, n, 0⟩ (t + 1) d))) :
    Calls Tryz.prog 64 #[rp W1] W (PostR W1 wv ws c (t + 1) W (FT ShE W.heap.size) (nextP (ws.map nol) c ex t d)) := by
  obtain ⟨W0, hW0⟩ : ∃ W0, W.alloc (.cells #[.int .u8 0, .int .i64 0, .string ⟨#[]⟩, .slice none 0 0, .slice none 0 0, .slice none 0 0, .int .u8 0, .slice none 0 0, .slice none 0 0, .string ⟨#[]⟩] 42) = W0 := ⟨_, rfl⟩
  have hlt := h.1.lt
  have hr0 : RD' W1 wv ws c t d W0 := by rw [← hW0]; exact h.alloc _
  have hg0 : Gr W1 W W0 := by rw [← hW0]; exact (gr_refl W1 W).alloc _
  have hz0 : W0.heap.size = W.heap.size + 1 := by rw [← hW0]; simp
  have hb0 : W0.heap[W.heap.size]? = some (.cells #[.int .u8 0, .int .i64 0, .string ⟨#[]⟩, .slice none 0 0, .slice none 0 0, .slice none 0 0, .int .u8 0, .slice none 0 0, .slice none 0 0, .string ⟨#[]⟩] 42 (0, 0)) := by rw [← hW0]; exact heap_alloc_new _ _
  have HK0 := Lib.hid hb0
  have HT := Lib.hid (take_out hr0 hn)
  have HE := Lib.hid heo
  obtain ⟨rs, hrs⟩ : ∃ r, (nextP (ws.map nol) c ex t d) = r := ⟨_, rfl⟩
  rw [hrs]
  obtain ⟨post, hpost⟩ : ∃ p, PostR W1 wv ws c (t + 1) W (FT ShE W.heap.size) rs = p := ⟨_, rfl⟩
  have HB : Hid (∀ t' w', rs = .bad t' → (∃ d, RD W1 wv ws c t' d w') → Gr W1 W w' → post (.panicked [pz]) w') := fun t' w' h1 h2 h3 => by rw [← hpost]; exact .inl ⟨t', h1, rfl, h2, h3⟩
  have HO : Hid (∀ x t' d' v w', rs = .ok x t' d' → (FT ShE W.heap.size) x v w' → t + 1 ≤ t' → RD' W1 wv ws c t' d' w' → Gr W1 W w' → post (.returned v) w') := fun x t' d' v w' h1 h2 h3 h4 h5 => by rw [← hpost]; exact .inr ⟨x, t', d', v, h1, rfl, h2, h3, h4, h5⟩
  rw [hpost]
  have HRS := Lib.hid hrs
  clear hrs hpost
  clear h hb0 heo
  go_enter Tryz.func64, Tryz.ntmps64
  go_wp2_with (first
    | (go_at_call 107; (with_reducible refine HT.out.mono ?_); rintro e1 w1 (⟨hp1, rfl, hb1, hk1⟩ | ⟨kk, s, nn, ll, hp1, rfl, hr1, hk1⟩))
    | (go_at_call 115; (with_reducible refine (HE.out _ _ _ _ _ hp1 hr1).mono ?_); rintro e2 w2 (⟨t2, hp2, rfl, hb2, hk2⟩ | ⟨x2, t2, d2, v2, hp2, rfl, ⟨vs2, rfl, ⟨ya0, ya1, ys2, yp3, yl3, yq3, yp4, yl4, yq4, yp5, yl5, yq5, ya6, yp7, yl7, yq7, yp8, yl8, yq8, ys9, rfl⟩, hrow2⟩, hl2, hr2, hk2⟩))
    | (refine wpList_store_row rfl 42 _ _ rfl W.heap.size _ rfl rfl 42 #[.int .u8 0, .int .i64 0, .string ⟨#[]⟩, .slice none 0 0, .slice none 0 0, .slice none 0 0, .int .u8 0, .slice none 0 0, .slice none 0 0, .string ⟨#[]⟩] (gr_block (hk1.trans hk2) hlt HK0.out) iszE rfl (all_one (shE_one (by exact ⟨_, _, _, _, _, _, _, _, _, _, _, _, _, _, _, _, _, _, _, _, rfl⟩)).1) ?_))
  · exact ⟨rfl, HB.out _ _ (by rw [← HRS.out]; exact nextP_none hp1) hb1 (hg0.trans hk1)⟩
  · exact ⟨rfl, HB.out _ _ (by rw [← HRS.out, nextP_some hp1]; exact hp2) hb2 ((hg0.trans hk1).trans hk2)⟩
  · have hs1 := hk1.size
    refine bodyPost_ret (results_cell_row Tryz.results64 _ _ W.heap.size 42 _ (0, 0) _ rfl (setRow_heap _ _ _ _ _ _ (gr_block (hk1.trans hk2) hlt HK0.out)) Tryz.underlying42 rfl iszE) rfl ?_
    exact HO.out x2 t2 d2 _ _ (by rw [← HRS.out, nextP_some hp1]; exact hp2) ⟨_, rfl, ⟨_, _, _, _, _, _, _, _, _, _, _, _, _, _, _, _, _, _, _, _, rfl⟩, Row.low (C := W.heap.size) (by omega) (Put.rowB (g := W.heap.size) (put_row _ _ _) (B := W.heap.size + 1) (by omega) (hrow2.low (by omega)))⟩ hl2 ((put_row _ _ _).rd hr2 hlt) ((put_row _ _ _).gr ((hg0.trans hk1).trans hk2) (Nat.le_refl _))
end Go.Proofs.YtedmmgfnplbkjaaGreatDoor
