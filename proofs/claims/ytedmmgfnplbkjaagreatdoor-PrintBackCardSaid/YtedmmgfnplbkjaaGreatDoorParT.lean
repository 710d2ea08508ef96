/-
  Walks: stmtOf, stmt.
  Conditions: the reader lies as 'RD' says; its words are at most 65536.
-/
import Derived.Test.YtedmmgfnplbkjaaGreatDoorParQ
namespace Go.Proofs.YtedmmgfnplbkjaaGreatDoor
set_option linter.unusedVariables false
set_option linter.unusedSimpArgs false
open Go.RowKit G
theorem frows_rep {Sh : List Value → Prop} {ty : TypeId} {k B C : Nat} {W1 : World} {l : List (List T)} {v : Value} {W W' : World} (h : FRows Sh ty k B l v W) (hg : Gr W1 W W') (hB : W1.heap.size < B) (hC : C ≤ B) : (ofRows k l).Rep W' (C ≤ ·) v :=
  ((h.gr hg hB).low hC).rep
theorem stmt_cases (s : Str) : s = [108, 101, 116] ∨ s = [115, 116, 97, 116, 101] ∨ s = [109, 101, 109, 111] ∨ s = [117, 115, 101] ∨ s = [108, 97, 121, 111, 117, 116] ∨ s = [101, 102, 102, 101, 99, 116] ∨ s = [119, 104, 101, 110] ∨ (¬ s = [108, 101, 116] ∧ (s == [108, 101, 116]) = false ∧ ¬ s = [115, 116, 97, 116, 101] ∧ (s == [115, 116, 97, 116, 101]) = false ∧ ¬ s = [109, 101, 109, 111] ∧ (s == [109, 101, 109, 111]) = false ∧ ¬ s = [117, 115, 101] ∧ (s == [117, 115, 101]) = false ∧ ¬ s = [108, 97, 121, 111, 117, 116] ∧ (s == [108, 97, 121, 111, 117, 116]) = false ∧ ¬ s = [101, 102, 102, 101, 99, 116] ∧ (s == [101, 102, 102, 101, 99, 116]) = false ∧ ¬ s = [119, 104, 101, 110] ∧ (s == [119, 104, 101, 110]) = false) := by
  by_cases h0 : s = [108, 101, 116]
  · exact .inl h0
  by_cases h1 : s = [115, 116, 97, 116, 101]
  · exact .inr (.inl h1)
  by_cases h2 : s = [109, 101, 109, 111]
  · exact .inr (.inr (.inl h2))
  by_cases h3 : s = [117, 115, 101]
  · exact .inr (.inr (.inr (.inl h3)))
  by_cases h4 : s = [108, 97, 121, 111, 117, 116]
  · exact .inr (.inr (.inr (.inr (.inl h4))))
  by_cases h5 : s = [101, 102, 102, 101, 99, 116]
  · exact .inr (.inr (.inr (.inr (.inr (.inl h5)))))
  by_cases h6 : s = [119, 104, 101, 110]
  · exact .inr (.inr (.inr (.inr (.inr (.inr (.inl h6))))))
  exact .inr (.inr (.inr (.inr (.inr (.inr (.inr (⟨h0, by simpa using h0, h1, by simpa using h1, h2, by simpa using h2, h3, by simpa using h3, h4, by simpa using h4, h5, by simpa using h5, h6, by simpa using h6⟩)))))))
set_option maxRecDepth 100000 in
set_option maxHeartbeats 16000000 in
theorem stmtOf_any {W1 : World} {wv : Value} {ws : List LX.LW} {c : Str} {t d : Nat} {W : World} (h : RD' W1 wv ws c t d W) (hn : ws.length ≤ 65536) {ex st : Nat → Nat → Rs (List T)} (he : ∀ t' d' W', t ≤ t' → RD' W1 wv ws c t' d' W' → Calls Tryz.prog 64 #[rp W1] W' (PostR W1 wv ws c (t' + 1) W' (FT ShE W'.heap.size) (ex t' d'))) (hs : ∀ t' d' W', t ≤ t' → RD' W1 wv ws c t' d' W' → Calls Tryz.prog 114 #[rp W1] W' (PostR W1 wv ws c (t' + 1) W' (FT ShS W'.heap.size) (st t' d'))) (s : Str) :
    Calls Tryz.prog 63 #[rp W1, .string ⟨s.toArray⟩] W (PostR W1 wv ws c (t) W (FT ShS W.heap.size) (stmtOfP (ws.map nol) ex st s t d)) := by
  obtain ⟨W0, hW0⟩ : ∃ W0, W.alloc (.cells #[.int .u8 0, .string ⟨#[]⟩, .string ⟨#[]⟩, .int .u8 0, .int .i64 0, .string ⟨#[]⟩, .slice none 0 0, .slice none 0 0, .slice none 0 0, .int .u8 0, .slice none 0 0, .slice none 0 0, .string ⟨#[]⟩, .slice none 0 0, .slice none 0 0, .slice none 0 0, .slice none 0 0] 55) = W0 := ⟨_, rfl⟩
  have hlt := h.1.lt
  have hr0 : RD' W1 wv ws c t d W0 := by rw [← hW0]; exact h.alloc _
  have hg0 : Gr W1 W W0 := by rw [← hW0]; exact (gr_refl W1 W).alloc _
  have hz0 : W0.heap.size = W.heap.size + 1 := by rw [← hW0]; simp
  have hb0 : W0.heap[W.heap.size]? = some (.cells #[.int .u8 0, .string ⟨#[]⟩, .string ⟨#[]⟩, .int .u8 0, .int .i64 0, .string ⟨#[]⟩, .slice none 0 0, .slice none 0 0, .slice none 0 0, .int .u8 0, .slice none 0 0, .slice none 0 0, .string ⟨#[]⟩, .slice none 0 0, .slice none 0 0, .slice none 0 0, .slice none 0 0] 55 (0, 0)) := by rw [← hW0]; exact heap_alloc_new _ _
  have HK0 := Lib.hid hb0
  have htn := h.2.1
  have hdn := h.2.2
  have HN := Lib.hid (fun t d W (h : RD' W1 wv ws c t d W) => name_any h hn)
  have HE := Lib.hid he
  have HWE : Hid (∀ t' d' W', t ≤ t' → RD' W1 wv ws c t' d' W' → Calls Tryz.prog 110 #[rp W1, .func (.func 64) #[rp W1] #[]] W' (PostR W1 wv ws c (t' + 1) W' (FSl ShE 42 10 W'.heap.size) (withinP (ws.map nol) (ex) t' d'))) := fun t' d' W' h1 h2 => withinE_any h2 hn (fun t2 d2 W2 h3 h4 => he t2 d2 W2 (Nat.le_trans h1 h3) h4)
  have HWA : Hid (∀ t' d' W', t ≤ t' → RD' W1 wv ws c t' d' W' → Calls Tryz.prog 111 #[rp W1, .func (.func 112) #[rp W1] #[]] W' (PostR W1 wv ws c (t' + 1) W' (FSl ShA 112 12 W'.heap.size) (withinP (ws.map nol) (actP (ws.map nol) ex) t' d'))) := fun t' d' W' h1 h2 => withinA_any h2 hn (fun t2 d2 W2 h3 h4 => act_any h4 hn (fun t3 d3 W3 h5 h6 => he t3 d3 W3 (Nat.le_trans (Nat.le_trans h1 h3) h5) h6))
  have HLS : Hid (∀ t' d' W', t ≤ t' → RD' W1 wv ws c t' d' W' → Calls Tryz.prog 113 #[rp W1, .func (.func 114) #[rp W1] #[]] W' (PostR W1 wv ws c (t' + 1) W' (FSl ShS 55 17 W'.heap.size) (allP (ws.map nol) (st) FU t' d'))) := fun t' d' W' h1 h2 => allS_any h2 hn (fun t2 d2 W2 h3 h4 => hs t2 d2 W2 (Nat.le_trans h1 h3) h4) FU (by unfold FU; omega)
  have HC := Lib.hid (fun t d W (h : RD' W1 wv ws c t d W) => closedS_any h hn)
  obtain ⟨rs, hrs⟩ : ∃ r, (stmtOfP (ws.map nol) ex st s t d) = r := ⟨_, rfl⟩
  rw [hrs]
  obtain ⟨post, hpost⟩ : ∃ p, PostR W1 wv ws c (t) W (FT ShS W.heap.size) rs = p := ⟨_, rfl⟩
  have HB : Hid (∀ t' w', rs = .bad t' → (∃ d, RD W1 wv ws c t' d w') → Gr W1 W w' → post (.panicked [pz]) w') := fun t' w' h1 h2 h3 => by rw [← hpost]; exact .inl ⟨t', h1, rfl, h2, h3⟩
  have HO : Hid (∀ x t' d' v w', rs = .ok x t' d' → (FT ShS W.heap.size) x v w' → t ≤ t' → RD' W1 wv ws c t' d' w' → Gr W1 W w' → post (.returned v) w') := fun x t' d' v w' h1 h2 h3 h4 h5 => by rw [← hpost]; exact .inr ⟨x, t', d', v, h1, rfl, h2, h3, h4, h5⟩
  rw [hpost]
  have HRS := Lib.hid hrs
  clear hrs hpost
  clear h hb0
  rcases stmt_cases s with rfl | rfl | rfl | rfl | rfl | rfl | rfl | ⟨n0, q0, n1, q1, n2, q2, n3, q3, n4, q4, n5, q5, n6, q6⟩
  · go_enter Tryz.func63, Tryz.ntmps63
    go_wp2_with (first
      | (go_at_call 62; (with_reducible refine (HN.out _ _ _ hr0).mono ?_); rintro e1 w1 (⟨t1, hp1, rfl, hb1, hk1⟩ | ⟨x1, t1, d1, v1, hp1, rfl, rfl, hl1, hr1, hk1⟩))
      | (go_at_call 64; (with_reducible refine (HE.out _ _ _ (by omega) hr1).mono ?_); rintro e2 w2 (⟨t2, hp2, rfl, hb2, hk2⟩ | ⟨x2, t2, d2, v2, hp2, rfl, ⟨vs2, rfl, ⟨ya0, ya1, ys2, yp3, yl3, yq3, yp4, yl4, yq4, yp5, yl5, yq5, ya6, yp7, yl7, yq7, yp8, yl8, yq8, ys9, rfl⟩, hrow2⟩, hl2, hr2, hk2⟩))
      | (go_at_call 109; (refine (HC.out _ _ _ hr2 _ (by exact ⟨_, _, _, _, _, _, _, _, _, _, _, _, _, _, _, _, _, _, _, _, _, _, _, _, _, _, _, _, _, _, _, _, _, _, _, rfl⟩)).mono ?_); rintro e3 w3 (⟨t3, hp3, rfl, hb3, hk3⟩ | ⟨x3, t3, d3, v3, hp3, rfl, rfl, hl3, hr3, hk3⟩))
      | (refine wpList_store_row rfl 55 _ _ rfl W.heap.size _ rfl rfl 55 #[.int .u8 0, .string ⟨#[]⟩, .string ⟨#[]⟩, .int .u8 0, .int .i64 0, .string ⟨#[]⟩, .slice none 0 0, .slice none 0 0, .slice none 0 0, .int .u8 0, .slice none 0 0, .slice none 0 0, .string ⟨#[]⟩, .slice none 0 0, .slice none 0 0, .slice none 0 0, .slice none 0 0] (gr_block ((hk1.trans hk2).trans hk3) hlt HK0.out) iszS rfl (all_one (shS_one (by exact ⟨_, _, _, _, _, _, _, _, _, _, _, _, _, _, _, _, _, _, _, _, _, _, _, _, _, _, _, _, _, _, _, _, _, _, _, rfl⟩)).1) ?_))
    · exact ⟨rfl, HB.out _ _ (by rw [← HRS.out]; simp [stmtOfP, runsP, hp1]) hb1 (hg0.trans hk1)⟩
    · exact ⟨rfl, HB.out _ _ (by rw [← HRS.out]; simp [stmtOfP, runsP, hp1, hp2]) hb2 ((hg0.trans hk1).trans hk2)⟩
    · exact ⟨rfl, HB.out _ _ (by rw [← HRS.out]; simp [stmtOfP, runsP, hp1, hp2, hp3]) hb3 (((hg0.trans hk1).trans hk2).trans hk3)⟩
    · have hsz := ((hk1.trans hk2).trans hk3).size
      have hs1 := hk1.size
      have hz1 := hr1.2.1
      have hs2 := (hk1.trans hk2).size
      have hz2 := hr2.2.1
      have hs3 := ((hk1.trans hk2).trans hk3).size
      have hz3 := hr3.2.1
      refine bodyPost_ret (results_cell_row Tryz.results63 _ _ W.heap.size 55 _ (0, 0) _ rfl (setRow_heap _ _ _ _ _ _ (gr_block ((hk1.trans hk2).trans hk3) hlt HK0.out)) Tryz.underlying55 rfl iszS) rfl ?_
      refine HO.out (sCols 1 x1 [] x2 [] [] [] []) t3 d3 _ _ (by rw [← HRS.out]; simp [stmtOfP, runsP, hp1, hp2, hp3]) ⟨_, rfl, ⟨_, _, _, _, _, _, _, _, _, _, _, _, _, _, _, _, _, _, _, _, _, _, _, _, _, _, _, _, _, _, _, _, _, _, _, rfl⟩, ?_⟩ (by omega) ((put_row _ _ _).rd hr3 hlt) ((put_row _ _ _).gr (((hg0.trans hk1).trans hk2).trans hk3) (Nat.le_refl _))
      exact Row.low (C := W.heap.size) (by omega) (Put.rowB (g := W.heap.size) (put_row _ _ _) (B := W.heap.size + 1) (Nat.lt_succ_self _) (row_one _ (row_one _ (row_one _ (row_app (Row.low (C := W.heap.size + 1) (by have := hg0.size; omega) (Row.gr hk3 (by omega) hrow2)) (row_rows (rep_nil 10) (row_rows (rep_nil 12) (row_rows (rep_nil 12) (row_rows (rep_nil 17) .nil)))))))))
  · go_enter Tryz.func63, Tryz.ntmps63
    go_wp2_with (first
      | (go_at_call 62; (with_reducible refine (HN.out _ _ _ hr0).mono ?_); rintro e1 w1 (⟨t1, hp1, rfl, hb1, hk1⟩ | ⟨x1, t1, d1, v1, hp1, rfl, rfl, hl1, hr1, hk1⟩))
      | (go_at_call 64; (with_reducible refine (HE.out _ _ _ (by omega) hr1).mono ?_); rintro e2 w2 (⟨t2, hp2, rfl, hb2, hk2⟩ | ⟨x2, t2, d2, v2, hp2, rfl, ⟨vs2, rfl, ⟨ya0, ya1, ys2, yp3, yl3, yq3, yp4, yl4, yq4, yp5, yl5, yq5, ya6, yp7, yl7, yq7, yp8, yl8, yq8, ys9, rfl⟩, hrow2⟩, hl2, hr2, hk2⟩))
      | (go_at_call 109; (refine (HC.out _ _ _ hr2 _ (by exact ⟨_, _, _, _, _, _, _, _, _, _, _, _, _, _, _, _, _, _, _, _, _, _, _, _, _, _, _, _, _, _, _, _, _, _, _, rfl⟩)).mono ?_); rintro e3 w3 (⟨t3, hp3, rfl, hb3, hk3⟩ | ⟨x3, t3, d3, v3, hp3, rfl, rfl, hl3, hr3, hk3⟩))
      | (refine wpList_store_row rfl 55 _ _ rfl W.heap.size _ rfl rfl 55 #[.int .u8 0, .string ⟨#[]⟩, .string ⟨#[]⟩, .int .u8 0, .int .i64 0, .string ⟨#[]⟩, .slice none 0 0, .slice none 0 0, .slice none 0 0, .int .u8 0, .slice none 0 0, .slice none 0 0, .string ⟨#[]⟩, .slice none 0 0, .slice none 0 0, .slice none 0 0, .slice none 0 0] (gr_block ((hk1.trans hk2).trans hk3) hlt HK0.out) iszS rfl (all_one (shS_one (by exact ⟨_, _, _, _, _, _, _, _, _, _, _, _, _, _, _, _, _, _, _, _, _, _, _, _, _, _, _, _, _, _, _, _, _, _, _, rfl⟩)).1) ?_))
    · exact ⟨rfl, HB.out _ _ (by rw [← HRS.out]; simp [stmtOfP, runsP, hp1]) hb1 (hg0.trans hk1)⟩
    · exact ⟨rfl, HB.out _ _ (by rw [← HRS.out]; simp [stmtOfP, runsP, hp1, hp2]) hb2 ((hg0.trans hk1).trans hk2)⟩
    · exact ⟨rfl, HB.out _ _ (by rw [← HRS.out]; simp [stmtOfP, runsP, hp1, hp2, hp3]) hb3 (((hg0.trans hk1).trans hk2).trans hk3)⟩
    · have hsz := ((hk1.trans hk2).trans hk3).size
      have hs1 := hk1.size
      have hz1 := hr1.2.1
      have hs2 := (hk1.trans hk2).size
      have hz2 := hr2.2.1
      have hs3 := ((hk1.trans hk2).trans hk3).size
      have hz3 := hr3.2.1
      refine bodyPost_ret (results_cell_row Tryz.results63 _ _ W.heap.size 55 _ (0, 0) _ rfl (setRow_heap _ _ _ _ _ _ (gr_block ((hk1.trans hk2).trans hk3) hlt HK0.out)) Tryz.underlying55 rfl iszS) rfl ?_
      refine HO.out (sCols 2 x1 [] x2 [] [] [] []) t3 d3 _ _ (by rw [← HRS.out]; simp [stmtOfP, runsP, hp1, hp2, hp3]) ⟨_, rfl, ⟨_, _, _, _, _, _, _, _, _, _, _, _, _, _, _, _, _, _, _, _, _, _, _, _, _, _, _, _, _, _, _, _, _, _, _, rfl⟩, ?_⟩ (by omega) ((put_row _ _ _).rd hr3 hlt) ((put_row _ _ _).gr (((hg0.trans hk1).trans hk2).trans hk3) (Nat.le_refl _))
      exact Row.low (C := W.heap.size) (by omega) (Put.rowB (g := W.heap.size) (put_row _ _ _) (B := W.heap.size + 1) (Nat.lt_succ_self _) (row_one _ (row_one _ (row_one _ (row_app (Row.low (C := W.heap.size + 1) (by have := hg0.size; omega) (Row.gr hk3 (by omega) hrow2)) (row_rows (rep_nil 10) (row_rows (rep_nil 12) (row_rows (rep_nil 12) (row_rows (rep_nil 17) .nil)))))))))
  · go_enter Tryz.func63, Tryz.ntmps63
    go_wp2_with (first
      | (go_at_call 62; (with_reducible refine (HN.out _ _ _ hr0).mono ?_); rintro e1 w1 (⟨t1, hp1, rfl, hb1, hk1⟩ | ⟨x1, t1, d1, v1, hp1, rfl, rfl, hl1, hr1, hk1⟩))
      | (go_at_call 110; (with_reducible refine (HWE.out _ _ _ (by omega) hr1).mono ?_); rintro e2 w2 (⟨t2, hp2, rfl, hb2, hk2⟩ | ⟨x2, t2, d2, v2, hp2, rfl, ⟨la2, ln2, lc2, rfl, hf2, rfl, hle2⟩, hl2, hr2, hk2⟩))
      | (go_at_call 64; (with_reducible refine (HE.out _ _ _ (by omega) hr2).mono ?_); rintro e3 w3 (⟨t3, hp3, rfl, hb3, hk3⟩ | ⟨x3, t3, d3, v3, hp3, rfl, ⟨vs3, rfl, ⟨ya0, ya1, ys2, yp3, yl3, yq3, yp4, yl4, yq4, yp5, yl5, yq5, ya6, yp7, yl7, yq7, yp8, yl8, yq8, ys9, rfl⟩, hrow3⟩, hl3, hr3, hk3⟩))
      | (go_at_call 109; (refine (HC.out _ _ _ hr3 _ (by exact ⟨_, _, _, _, _, _, _, _, _, _, _, _, _, _, _, _, _, _, _, _, _, _, _, _, _, _, _, _, _, _, _, _, _, _, _, rfl⟩)).mono ?_); rintro e4 w4 (⟨t4, hp4, rfl, hb4, hk4⟩ | ⟨x4, t4, d4, v4, hp4, rfl, rfl, hl4, hr4, hk4⟩))
      | (refine wpList_store_row rfl 55 _ _ rfl W.heap.size _ rfl rfl 55 #[.int .u8 0, .string ⟨#[]⟩, .string ⟨#[]⟩, .int .u8 0, .int .i64 0, .string ⟨#[]⟩, .slice none 0 0, .slice none 0 0, .slice none 0 0, .int .u8 0, .slice none 0 0, .slice none 0 0, .string ⟨#[]⟩, .slice none 0 0, .slice none 0 0, .slice none 0 0, .slice none 0 0] (gr_block (((hk1.trans hk2).trans hk3).trans hk4) hlt HK0.out) iszS rfl (all_one (shS_one (by exact ⟨_, _, _, _, _, _, _, _, _, _, _, _, _, _, _, _, _, _, _, _, _, _, _, _, _, _, _, _, _, _, _, _, _, _, _, rfl⟩)).1) ?_))
    · exact ⟨rfl, HB.out _ _ (by rw [← HRS.out]; simp [stmtOfP, runsP, hp1]) hb1 (hg0.trans hk1)⟩
    · exact ⟨rfl, HB.out _ _ (by rw [← HRS.out]; simp [stmtOfP, runsP, hp1, hp2]) hb2 ((hg0.trans hk1).trans hk2)⟩
    · exact ⟨rfl, HB.out _ _ (by rw [← HRS.out]; simp [stmtOfP, runsP, hp1, hp2, hp3]) hb3 (((hg0.trans hk1).trans hk2).trans hk3)⟩
    · exact ⟨rfl, HB.out _ _ (by rw [← HRS.out]; simp [stmtOfP, runsP, hp1, hp2, hp3, hp4]) hb4 ((((hg0.trans hk1).trans hk2).trans hk3).trans hk4)⟩
    · have hsz := (((hk1.trans hk2).trans hk3).trans hk4).size
      have hs1 := hk1.size
      have hz1 := hr1.2.1
      have hs2 := (hk1.trans hk2).size
      have hz2 := hr2.2.1
      have hs3 := ((hk1.trans hk2).trans hk3).size
      have hz3 := hr3.2.1
      have hs4 := (((hk1.trans hk2).trans hk3).trans hk4).size
      have hz4 := hr4.2.1
      refine bodyPost_ret (results_cell_row Tryz.results63 _ _ W.heap.size 55 _ (0, 0) _ rfl (setRow_heap _ _ _ _ _ _ (gr_block (((hk1.trans hk2).trans hk3).trans hk4) hlt HK0.out)) Tryz.underlying55 rfl iszS) rfl ?_
      refine HO.out (sCols 3 x1 [] x3 x2 [] [] []) t4 d4 _ _ (by rw [← HRS.out]; simp [stmtOfP, runsP, hp1, hp2, hp3, hp4]) ⟨_, rfl, ⟨_, _, _, _, _, _, _, _, _, _, _, _, _, _, _, _, _, _, _, _, _, _, _, _, _, _, _, _, _, _, _, _, _, _, _, rfl⟩, ?_⟩ (by omega) ((put_row _ _ _).rd hr4 hlt) ((put_row _ _ _).gr ((((hg0.trans hk1).trans hk2).trans hk3).trans hk4) (Nat.le_refl _))
      exact Row.low (C := W.heap.size) (by omega) (Put.rowB (g := W.heap.size) (put_row _ _ _) (B := W.heap.size + 1) (Nat.lt_succ_self _) (row_one _ (row_one _ (row_one _ (row_app (Row.low (C := W.heap.size + 1) (by have := hg0.size; omega) (Row.gr hk4 (by omega) hrow3)) (row_rows (frows_rep hf2 (hk3.trans hk4) (by omega) (by omega)) (row_rows (rep_nil 12) (row_rows (rep_nil 12) (row_rows (rep_nil 17) .nil)))))))))
  · go_enter Tryz.func63, Tryz.ntmps63
    go_wp2_with (first
      | (go_at_call 62; (with_reducible refine (HN.out _ _ _ hr0).mono ?_); rintro e1 w1 (⟨t1, hp1, rfl, hb1, hk1⟩ | ⟨x1, t1, d1, v1, hp1, rfl, rfl, hl1, hr1, hk1⟩))
      | (go_at_call 62; (with_reducible refine (HN.out _ _ _ hr1).mono ?_); rintro e2 w2 (⟨t2, hp2, rfl, hb2, hk2⟩ | ⟨x2, t2, d2, v2, hp2, rfl, rfl, hl2, hr2, hk2⟩))
      | (go_at_call 109; (refine (HC.out _ _ _ hr2 _ (by exact ⟨_, _, _, _, _, _, _, _, _, _, _, _, _, _, _, _, _, _, _, _, _, _, _, _, _, _, _, _, _, _, _, _, _, _, _, rfl⟩)).mono ?_); rintro e3 w3 (⟨t3, hp3, rfl, hb3, hk3⟩ | ⟨x3, t3, d3, v3, hp3, rfl, rfl, hl3, hr3, hk3⟩))
      | (refine wpList_store_row rfl 55 _ _ rfl W.heap.size _ rfl rfl 55 #[.int .u8 0, .string ⟨#[]⟩, .string ⟨#[]⟩, .int .u8 0, .int .i64 0, .string ⟨#[]⟩, .slice none 0 0, .slice none 0 0, .slice none 0 0, .int .u8 0, .slice none 0 0, .slice none 0 0, .string ⟨#[]⟩, .slice none 0 0, .slice none 0 0, .slice none 0 0, .slice none 0 0] (gr_block ((hk1.trans hk2).trans hk3) hlt HK0.out) iszS rfl (all_one (shS_one (by exact ⟨_, _, _, _, _, _, _, _, _, _, _, _, _, _, _, _, _, _, _, _, _, _, _, _, _, _, _, _, _, _, _, _, _, _, _, rfl⟩)).1) ?_))
    · exact ⟨rfl, HB.out _ _ (by rw [← HRS.out]; simp [stmtOfP, runsP, hp1]) hb1 (hg0.trans hk1)⟩
    · exact ⟨rfl, HB.out _ _ (by rw [← HRS.out]; simp [stmtOfP, runsP, hp1, hp2]) hb2 ((hg0.trans hk1).trans hk2)⟩
    · exact ⟨rfl, HB.out _ _ (by rw [← HRS.out]; simp [stmtOfP, runsP, hp1, hp2, hp3]) hb3 (((hg0.trans hk1).trans hk2).trans hk3)⟩
    · have hsz := ((hk1.trans hk2).trans hk3).size
      have hs1 := hk1.size
      have hz1 := hr1.2.1
      have hs2 := (hk1.trans hk2).size
      have hz2 := hr2.2.1
      have hs3 := ((hk1.trans hk2).trans hk3).size
      have hz3 := hr3.2.1
      refine bodyPost_ret (results_cell_row Tryz.results63 _ _ W.heap.size 55 _ (0, 0) _ rfl (setRow_heap _ _ _ _ _ _ (gr_block ((hk1.trans hk2).trans hk3) hlt HK0.out)) Tryz.underlying55 rfl iszS) rfl ?_
      refine HO.out (sCols 4 x1 x2 eNone [] [] [] []) t3 d3 _ _ (by rw [← HRS.out]; simp [stmtOfP, runsP, hp1, hp2, hp3]) ⟨_, rfl, ⟨_, _, _, _, _, _, _, _, _, _, _, _, _, _, _, _, _, _, _, _, _, _, _, _, _, _, _, _, _, _, _, _, _, _, _, rfl⟩, ?_⟩ (by omega) ((put_row _ _ _).rd hr3 hlt) ((put_row _ _ _).gr (((hg0.trans hk1).trans hk2).trans hk3) (Nat.le_refl _))
      exact Row.low (C := W.heap.size) (by omega) (Put.rowB (g := W.heap.size) (put_row _ _ _) (B := W.heap.size + 1) (Nat.lt_succ_self _) (row_one _ (row_one _ (row_one _ (row_app row_none (row_rows (rep_nil 10) (row_rows (rep_nil 12) (row_rows (rep_nil 12) (row_rows (rep_nil 17) .nil)))))))))
  · go_enter Tryz.func63, Tryz.ntmps63
    go_wp2_with (first
      | (go_at_call 110; (with_reducible refine (HWE.out _ _ _ (by omega) hr0).mono ?_); rintro e1 w1 (⟨t1, hp1, rfl, hb1, hk1⟩ | ⟨x1, t1, d1, v1, hp1, rfl, ⟨la1, ln1, lc1, rfl, hf1, rfl, hle1⟩, hl1, hr1, hk1⟩))
      | (go_at_call 111; (with_reducible refine (HWA.out _ _ _ (by omega) hr1).mono ?_); rintro e2 w2 (⟨t2, hp2, rfl, hb2, hk2⟩ | ⟨x2, t2, d2, v2, hp2, rfl, ⟨la2, ln2, lc2, rfl, hf2, rfl, hle2⟩, hl2, hr2, hk2⟩))
      | (go_at_call 111; (with_reducible refine (HWA.out _ _ _ (by omega) hr2).mono ?_); rintro e3 w3 (⟨t3, hp3, rfl, hb3, hk3⟩ | ⟨x3, t3, d3, v3, hp3, rfl, ⟨la3, ln3, lc3, rfl, hf3, rfl, hle3⟩, hl3, hr3, hk3⟩))
      | (go_at_call 109; (refine (HC.out _ _ _ hr3 _ (by exact ⟨_, _, _, _, _, _, _, _, _, _, _, _, _, _, _, _, _, _, _, _, _, _, _, _, _, _, _, _, _, _, _, _, _, _, _, rfl⟩)).mono ?_); rintro e4 w4 (⟨t4, hp4, rfl, hb4, hk4⟩ | ⟨x4, t4, d4, v4, hp4, rfl, rfl, hl4, hr4, hk4⟩))
      | (refine wpList_store_row rfl 55 _ _ rfl W.heap.size _ rfl rfl 55 #[.int .u8 0, .string ⟨#[]⟩, .string ⟨#[]⟩, .int .u8 0, .int .i64 0, .string ⟨#[]⟩, .slice none 0 0, .slice none 0 0, .slice none 0 0, .int .u8 0, .slice none 0 0, .slice none 0 0, .string ⟨#[]⟩, .slice none 0 0, .slice none 0 0, .slice none 0 0, .slice none 0 0] (gr_block (((hk1.trans hk2).trans hk3).trans hk4) hlt HK0.out) iszS rfl (all_one (shS_one (by exact ⟨_, _, _, _, _, _, _, _, _, _, _, _, _, _, _, _, _, _, _, _, _, _, _, _, _, _, _, _, _, _, _, _, _, _, _, rfl⟩)).1) ?_))
    · exact ⟨rfl, HB.out _ _ (by rw [← HRS.out]; simp [stmtOfP, runsP, hp1]) hb1 (hg0.trans hk1)⟩
    · exact ⟨rfl, HB.out _ _ (by rw [← HRS.out]; simp [stmtOfP, runsP, hp1, hp2]) hb2 ((hg0.trans hk1).trans hk2)⟩
    · exact ⟨rfl, HB.out _ _ (by rw [← HRS.out]; simp [stmtOfP, runsP, hp1, hp2, hp3]) hb3 (((hg0.trans hk1).trans hk2).trans hk3)⟩
    · exact ⟨rfl, HB.out _ _ (by rw [← HRS.out]; simp [stmtOfP, runsP, hp1, hp2, hp3, hp4]) hb4 ((((hg0.trans hk1).trans hk2).trans hk3).trans hk4)⟩
    · have hsz := (((hk1.trans hk2).trans hk3).trans hk4).size
      have hs1 := hk1.size
      have hz1 := hr1.2.1
      have hs2 := (hk1.trans hk2).size
      have hz2 := hr2.2.1
      have hs3 := ((hk1.trans hk2).trans hk3).size
      have hz3 := hr3.2.1
      have hs4 := (((hk1.trans hk2).trans hk3).trans hk4).size
      have hz4 := hr4.2.1
      refine bodyPost_ret (results_cell_row Tryz.results63 _ _ W.heap.size 55 _ (0, 0) _ rfl (setRow_heap _ _ _ _ _ _ (gr_block (((hk1.trans hk2).trans hk3).trans hk4) hlt HK0.out)) Tryz.underlying55 rfl iszS) rfl ?_
      refine HO.out (sCols 5 [] [] eNone x1 x2 x3 []) t4 d4 _ _ (by rw [← HRS.out]; simp [stmtOfP, runsP, hp1, hp2, hp3, hp4]) ⟨_, rfl, ⟨_, _, _, _, _, _, _, _, _, _, _, _, _, _, _, _, _, _, _, _, _, _, _, _, _, _, _, _, _, _, _, _, _, _, _, rfl⟩, ?_⟩ (by omega) ((put_row _ _ _).rd hr4 hlt) ((put_row _ _ _).gr ((((hg0.trans hk1).trans hk2).trans hk3).trans hk4) (Nat.le_refl _))
      exact Row.low (C := W.heap.size) (by omega) (Put.rowB (g := W.heap.size) (put_row _ _ _) (B := W.heap.size + 1) (Nat.lt_succ_self _) (row_one _ (row_one _ (row_one _ (row_app row_none (row_rows (frows_rep hf1 ((hk2.trans hk3).trans hk4) (by omega) (by omega)) (row_rows (frows_rep hf2 (hk3.trans hk4) (by omega) (by omega)) (row_rows (frows_rep hf3 hk4 (by omega) (by omega)) (row_rows (rep_nil 17) .nil)))))))))
  · go_enter Tryz.func63, Tryz.ntmps63
    go_wp2_with (first
      | (go_at_call 110; (with_reducible refine (HWE.out _ _ _ (by omega) hr0).mono ?_); rintro e1 w1 (⟨t1, hp1, rfl, hb1, hk1⟩ | ⟨x1, t1, d1, v1, hp1, rfl, ⟨la1, ln1, lc1, rfl, hf1, rfl, hle1⟩, hl1, hr1, hk1⟩))
      | (go_at_call 111; (with_reducible refine (HWA.out _ _ _ (by omega) hr1).mono ?_); rintro e2 w2 (⟨t2, hp2, rfl, hb2, hk2⟩ | ⟨x2, t2, d2, v2, hp2, rfl, ⟨la2, ln2, lc2, rfl, hf2, rfl, hle2⟩, hl2, hr2, hk2⟩))
      | (go_at_call 111; (with_reducible refine (HWA.out _ _ _ (by omega) hr2).mono ?_); rintro e3 w3 (⟨t3, hp3, rfl, hb3, hk3⟩ | ⟨x3, t3, d3, v3, hp3, rfl, ⟨la3, ln3, lc3, rfl, hf3, rfl, hle3⟩, hl3, hr3, hk3⟩))
      | (go_at_call 109; (refine (HC.out _ _ _ hr3 _ (by exact ⟨_, _, _, _, _, _, _, _, _, _, _, _, _, _, _, _, _, _, _, _, _, _, _, _, _, _, _, _, _, _, _, _, _, _, _, rfl⟩)).mono ?_); rintro e4 w4 (⟨t4, hp4, rfl, hb4, hk4⟩ | ⟨x4, t4, d4, v4, hp4, rfl, rfl, hl4, hr4, hk4⟩))
      | (refine wpList_store_row rfl 55 _ _ rfl W.heap.size _ rfl rfl 55 #[.int .u8 0, .string ⟨#[]⟩, .string ⟨#[]⟩, .int .u8 0, .int .i64 0, .string ⟨#[]⟩, .slice none 0 0, .slice none 0 0, .slice none 0 0, .int .u8 0, .slice none 0 0, .slice none 0 0, .string ⟨#[]⟩, .slice none 0 0, .slice none 0 0, .slice none 0 0, .slice none 0 0] (gr_block (((hk1.trans hk2).trans hk3).trans hk4) hlt HK0.out) iszS rfl (all_one (shS_one (by exact ⟨_, _, _, _, _, _, _, _, _, _, _, _, _, _, _, _, _, _, _, _, _, _, _, _, _, _, _, _, _, _, _, _, _, _, _, rfl⟩)).1) ?_))
    · exact ⟨rfl, HB.out _ _ (by rw [← HRS.out]; simp [stmtOfP, runsP, hp1]) hb1 (hg0.trans hk1)⟩
    · exact ⟨rfl, HB.out _ _ (by rw [← HRS.out]; simp [stmtOfP, runsP, hp1, hp2]) hb2 ((hg0.trans hk1).trans hk2)⟩
    · exact ⟨rfl, HB.out _ _ (by rw [← HRS.out]; simp [stmtOfP, runsP, hp1, hp2, hp3]) hb3 (((hg0.trans hk1).trans hk2).trans hk3)⟩
    · exact ⟨rfl, HB.out _ _ (by rw [← HRS.out]; simp [stmtOfP, runsP, hp1, hp2, hp3, hp4]) hb4 ((((hg0.trans hk1).trans hk2).trans hk3).trans hk4)⟩
    · have hsz := (((hk1.trans hk2).trans hk3).trans hk4).size
      have hs1 := hk1.size
      have hz1 := hr1.2.1
      have hs2 := (hk1.trans hk2).size
      have hz2 := hr2.2.1
      have hs3 := ((hk1.trans hk2).trans hk3).size
      have hz3 := hr3.2.1
      have hs4 := (((hk1.trans hk2).trans hk3).trans hk4).size
      have hz4 := hr4.2.1
      refine bodyPost_ret (results_cell_row Tryz.results63 _ _ W.heap.size 55 _ (0, 0) _ rfl (setRow_heap _ _ _ _ _ _ (gr_block (((hk1.trans hk2).trans hk3).trans hk4) hlt HK0.out)) Tryz.underlying55 rfl iszS) rfl ?_
      refine HO.out (sCols 6 [] [] eNone x1 x2 x3 []) t4 d4 _ _ (by rw [← HRS.out]; simp [stmtOfP, runsP, hp1, hp2, hp3, hp4]) ⟨_, rfl, ⟨_, _, _, _, _, _, _, _, _, _, _, _, _, _, _, _, _, _, _, _, _, _, _, _, _, _, _, _, _, _, _, _, _, _, _, rfl⟩, ?_⟩ (by omega) ((put_row _ _ _).rd hr4 hlt) ((put_row _ _ _).gr ((((hg0.trans hk1).trans hk2).trans hk3).trans hk4) (Nat.le_refl _))
      exact Row.low (C := W.heap.size) (by omega) (Put.rowB (g := W.heap.size) (put_row _ _ _) (B := W.heap.size + 1) (Nat.lt_succ_self _) (row_one _ (row_one _ (row_one _ (row_app row_none (row_rows (frows_rep hf1 ((hk2.trans hk3).trans hk4) (by omega) (by omega)) (row_rows (frows_rep hf2 (hk3.trans hk4) (by omega) (by omega)) (row_rows (frows_rep hf3 hk4 (by omega) (by omega)) (row_rows (rep_nil 17) .nil)))))))))
  · go_enter Tryz.func63, Tryz.ntmps63
    go_wp2_with (first
      | (go_at_call 64; (with_reducible refine (HE.out _ _ _ (by omega) hr0).mono ?_); rintro e1 w1 (⟨t1, hp1, rfl, hb1, hk1⟩ | ⟨x1, t1, d1, v1, hp1, rfl, ⟨vs1, rfl, ⟨ya0, ya1, ys2, yp3, yl3, yq3, yp4, yl4, yq4, yp5, yl5, yq5, ya6, yp7, yl7, yq7, yp8, yl8, yq8, ys9, rfl⟩, hrow1⟩, hl1, hr1, hk1⟩))
      | (go_at_call 113; (with_reducible refine (HLS.out _ _ _ (by omega) hr1).mono ?_); rintro e2 w2 (⟨t2, hp2, rfl, hb2, hk2⟩ | ⟨x2, t2, d2, v2, hp2, rfl, ⟨la2, ln2, lc2, rfl, hf2, rfl, hle2⟩, hl2, hr2, hk2⟩))
      | (refine wpList_store_row rfl 55 _ _ rfl W.heap.size _ rfl rfl 55 #[.int .u8 0, .string ⟨#[]⟩, .string ⟨#[]⟩, .int .u8 0, .int .i64 0, .string ⟨#[]⟩, .slice none 0 0, .slice none 0 0, .slice none 0 0, .int .u8 0, .slice none 0 0, .slice none 0 0, .string ⟨#[]⟩, .slice none 0 0, .slice none 0 0, .slice none 0 0, .slice none 0 0] (gr_block (hk1.trans hk2) hlt HK0.out) iszS rfl (all_one (shS_one (by exact ⟨_, _, _, _, _, _, _, _, _, _, _, _, _, _, _, _, _, _, _, _, _, _, _, _, _, _, _, _, _, _, _, _, _, _, _, rfl⟩)).1) ?_))
    · exact ⟨rfl, HB.out _ _ (by rw [← HRS.out]; simp [stmtOfP, runsP, hp1]) hb1 (hg0.trans hk1)⟩
    · exact ⟨rfl, HB.out _ _ (by rw [← HRS.out]; simp [stmtOfP, runsP, hp1, hp2]) hb2 ((hg0.trans hk1).trans hk2)⟩
    · have hsz := (hk1.trans hk2).size
      have hs1 := hk1.size
      have hz1 := hr1.2.1
      have hs2 := (hk1.trans hk2).size
      have hz2 := hr2.2.1
      refine bodyPost_ret (results_cell_row Tryz.results63 _ _ W.heap.size 55 _ (0, 0) _ rfl (setRow_heap _ _ _ _ _ _ (gr_block (hk1.trans hk2) hlt HK0.out)) Tryz.underlying55 rfl iszS) rfl ?_
      refine HO.out (sCols 7 [] [] x1 [] [] [] x2) t2 d2 _ _ (by rw [← HRS.out]; simp [stmtOfP, runsP, hp1, hp2]) ⟨_, rfl, ⟨_, _, _, _, _, _, _, _, _, _, _, _, _, _, _, _, _, _, _, _, _, _, _, _, _, _, _, _, _, _, _, _, _, _, _, rfl⟩, ?_⟩ (by omega) ((put_row _ _ _).rd hr2 hlt) ((put_row _ _ _).gr ((hg0.trans hk1).trans hk2) (Nat.le_refl _))
      exact Row.low (C := W.heap.size) (by omega) (Put.rowB (g := W.heap.size) (put_row _ _ _) (B := W.heap.size + 1) (Nat.lt_succ_self _) (row_one _ (row_one _ (row_one _ (row_app (Row.low (C := W.heap.size + 1) (by have := hg0.size; omega) (Row.gr hk2 (by omega) hrow1)) (row_rows (rep_nil 10) (row_rows (rep_nil 12) (row_rows (rep_nil 12) (row_rows (frows_rep hf2 (gr_refl W1 w2) (by omega) (by omega)) .nil)))))))))
  · go_enter Tryz.func63, Tryz.ntmps63
    go_wp2
    exact ⟨rfl, HB.out _ _ (by rw [← HRS.out]; simp [stmtOfP, runsP, n0, n1, n2, n3, n4, n5, n6]) ⟨_, hr0.1⟩ hg0⟩
set_option maxRecDepth 100000 in
set_option maxHeartbeats 4000000 in
theorem stmt_any {W1 : World} {wv : Value} {ws : List LX.LW} {c : Str} {t d : Nat} {W : World} (h : RD' W1 wv ws c t d W) (hn : ws.length ≤ 65536) {ex st : Nat → Nat → Rs (List T)} (he : ∀ t' d' W', t ≤ t' → RD' W1 wv ws c t' d' W' → Calls Tryz.prog 64 #[rp W1] W' (PostR W1 wv ws c (t' + 1) W' (FT ShE W'.heap.size) (ex t' d'))) (hs : ∀ t' d' W', t ≤ t' → RD' W1 wv ws c t' d' W' → Calls Tryz.prog 114 #[rp W1] W' (PostR W1 wv ws c (t' + 1) W' (FT ShS W'.heap.size) (st t' d'))) :
    Calls Tryz.prog 114 #[rp W1] W (PostR W1 wv ws c (t + 1) W (FT ShS W.heap.size) ((openP (ws.map nol) t d).bind fun _ t d => (nameP (ws.map nol) t d).bind fun s t d => stmtOfP (ws.map nol) ex st s t d)) := by
  obtain ⟨W0, hW0⟩ : ∃ W0, W.alloc (.cells #[.int .u8 0, .string ⟨#[]⟩, .string ⟨#[]⟩, .int .u8 0, .int .i64 0, .string ⟨#[]⟩, .slice none 0 0, .slice none 0 0, .slice none 0 0, .int .u8 0, .slice none 0 0, .slice none 0 0, .string ⟨#[]⟩, .slice none 0 0, .slice none 0 0, .slice none 0 0, .slice none 0 0] 55) = W0 := ⟨_, rfl⟩
  have hlt := h.1.lt
  have hr0 : RD' W1 wv ws c t d W0 := by rw [← hW0]; exact h.alloc _
  have hg0 : Gr W1 W W0 := by rw [← hW0]; exact (gr_refl W1 W).alloc _
  have hz0 : W0.heap.size = W.heap.size + 1 := by rw [← hW0]; simp
  have hb0 : W0.heap[W.heap.size]? = some (.cells #[.int .u8 0, .string ⟨#[]⟩, .string ⟨#[]⟩, .int .u8 0, .int .i64 0, .string ⟨#[]⟩, .slice none 0 0, .slice none 0 0, .slice none 0 0, .int .u8 0, .slice none 0 0, .slice none 0 0, .string ⟨#[]⟩, .slice none 0 0, .slice none 0 0, .slice none 0 0, .slice none 0 0] 55 (0, 0)) := by rw [← hW0]; exact heap_alloc_new _ _
  have HK0 := Lib.hid hb0
  have htn := h.2.1
  have hdn := h.2.2
  have HOP := Lib.hid (fun t d W (h : RD' W1 wv ws c t d W) => open_any h hn)
  have HN := Lib.hid (fun t d W (h : RD' W1 wv ws c t d W) => name_any h hn)
  have HST := Lib.hid (fun t' d' W' s (h1 : t ≤ t') (h2 : RD' W1 wv ws c t' d' W') => stmtOf_any h2 hn (fun t2 d2 W2 h3 h4 => he t2 d2 W2 (Nat.le_trans h1 h3) h4) (fun t2 d2 W2 h3 h4 => hs t2 d2 W2 (Nat.le_trans h1 h3) h4) s)
  obtain ⟨rs, hrs⟩ : ∃ r, ((openP (ws.map nol) t d).bind fun _ t d => (nameP (ws.map nol) t d).bind fun s t d => stmtOfP (ws.map nol) ex st s t d) = r := ⟨_, rfl⟩
  rw [hrs]
  obtain ⟨post, hpost⟩ : ∃ p, PostR W1 wv ws c (t + 1) W (FT ShS W.heap.size) rs = p := ⟨_, rfl⟩
  have HB : Hid (∀ t' w', rs = .bad t' → (∃ d, RD W1 wv ws c t' d w') → Gr W1 W w' → post (.panicked [pz]) w') := fun t' w' h1 h2 h3 => by rw [← hpost]; exact .inl ⟨t', h1, rfl, h2, h3⟩
  have HO : Hid (∀ x t' d' v w', rs = .ok x t' d' → (FT ShS W.heap.size) x v w' → t + 1 ≤ t' → RD' W1 wv ws c t' d' w' → Gr W1 W w' → post (.returned v) w') := fun x t' d' v w' h1 h2 h3 h4 h5 => by rw [← hpost]; exact .inr ⟨x, t', d', v, h1, rfl, h2, h3, h4, h5⟩
  rw [hpost]
  have HRS := Lib.hid hrs
  clear hrs hpost
  clear h hb0
  go_enter Tryz.func114, Tryz.ntmps114
  go_wp2_with (first
    | (go_at_call 61; (with_reducible refine (HOP.out _ _ _ hr0).mono ?_); rintro e1 w1 (⟨t1, hp1, rfl, hb1, hk1⟩ | ⟨x1, t1, d1, v1, hp1, rfl, rfl, hl1, hr1, hk1⟩))
    | (go_at_call 62; (with_reducible refine (HN.out _ _ _ hr1).mono ?_); rintro e2 w2 (⟨t2, hp2, rfl, hb2, hk2⟩ | ⟨x2, t2, d2, v2, hp2, rfl, rfl, hl2, hr2, hk2⟩))
    | (go_at_call 63; (with_reducible refine (HST.out _ _ _ _ (by omega) hr2).mono ?_); rintro e3 w3 (⟨t3, hp3, rfl, hb3, hk3⟩ | ⟨x3, t3, d3, v3, hp3, rfl, ⟨vs3, rfl, ⟨ya0, ys1, ys2, ya3, ya4, ys5, yp6, yl6, yq6, yp7, yl7, yq7, yp8, yl8, yq8, ya9, yp10, yl10, yq10, yp11, yl11, yq11, ys12, yp13, yl13, yq13, yp14, yl14, yq14, yp15, yl15, yq15, yp16, yl16, yq16, rfl⟩, hrow3⟩, hl3, hr3, hk3⟩))
    | (refine wpList_store_row rfl 55 _ _ rfl W.heap.size _ rfl rfl 55 #[.int .u8 0, .string ⟨#[]⟩, .string ⟨#[]⟩, .int .u8 0, .int .i64 0, .string ⟨#[]⟩, .slice none 0 0, .slice none 0 0, .slice none 0 0, .int .u8 0, .slice none 0 0, .slice none 0 0, .string ⟨#[]⟩, .slice none 0 0, .slice none 0 0, .slice none 0 0, .slice none 0 0] (gr_block ((hk1.trans hk2).trans hk3) hlt HK0.out) iszS rfl (all_one (shS_one (by exact ⟨_, _, _, _, _, _, _, _, _, _, _, _, _, _, _, _, _, _, _, _, _, _, _, _, _, _, _, _, _, _, _, _, _, _, _, rfl⟩)).1) ?_))
  · exact ⟨rfl, HB.out _ _ (by rw [← HRS.out]; simp only [hp1, Rs.bind_ok, Rs.bind_bad]) hb1 (hg0.trans hk1)⟩
  · exact ⟨rfl, HB.out _ _ (by rw [← HRS.out]; simp only [hp1, hp2, Rs.bind_ok, Rs.bind_bad]) hb2 ((hg0.trans hk1).trans hk2)⟩
  · exact ⟨rfl, HB.out _ _ (by rw [← HRS.out]; simp only [hp1, hp2, hp3, Rs.bind_ok, Rs.bind_bad]) hb3 (((hg0.trans hk1).trans hk2).trans hk3)⟩
  · have hsz := ((hk1.trans hk2).trans hk3).size
    have hs1 := hk1.size
    have hz1 := hr1.2.1
    have hs2 := (hk1.trans hk2).size
    have hz2 := hr2.2.1
    have hs3 := ((hk1.trans hk2).trans hk3).size
    have hz3 := hr3.2.1
    refine bodyPost_ret (results_cell_row Tryz.results114 _ _ W.heap.size 55 _ (0, 0) _ rfl (setRow_heap _ _ _ _ _ _ (gr_block ((hk1.trans hk2).trans hk3) hlt HK0.out)) Tryz.underlying55 rfl iszS) rfl ?_
    refine HO.out (x3) t3 d3 _ _ (by rw [← HRS.out]; simp only [hp1, hp2, hp3, Rs.bind_ok]) ⟨_, rfl, ⟨_, _, _, _, _, _, _, _, _, _, _, _, _, _, _, _, _, _, _, _, _, _, _, _, _, _, _, _, _, _, _, _, _, _, _, rfl⟩, ?_⟩ (by omega) ((put_row _ _ _).rd hr3 hlt) ((put_row _ _ _).gr (((hg0.trans hk1).trans hk2).trans hk3) (Nat.le_refl _))
    exact Row.low (C := W.heap.size) (by omega) (Put.rowB (g := W.heap.size) (put_row _ _ _) (B := W.heap.size + 1) (Nat.lt_succ_self _) ((Row.low (C := W.heap.size + 1) (by have := hg0.size; omega) (Row.gr (gr_refl W1 w3) (by omega) hrow3))))
end Go.Proofs.YtedmmgfnplbkjaaGreatDoor
