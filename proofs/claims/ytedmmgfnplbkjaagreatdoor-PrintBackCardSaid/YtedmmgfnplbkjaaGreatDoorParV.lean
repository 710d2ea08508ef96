/-
  Walks: compound; elem's contract is handed in.
  Conditions: the reader lies as 'RD' says; its words are at most 65536.
-/
import Derived.Test.YtedmmgfnplbkjaaGreatDoorParR
namespace Go.Proofs.YtedmmgfnplbkjaaGreatDoor
set_option linter.unusedVariables false
set_option linter.unusedSimpArgs false
open Go.RowKit G
theorem compound_cases (s : Str) : s = [105, 102] ∨ s = [101, 97, 99, 104] ∨ s = [114, 101, 97, 100] ∨ s = [116, 104, 114, 111, 119] ∨ s = [114, 101, 99] ∨ s = [100, 111] ∨ s = [104, 111, 115, 116] ∨ s = [110, 101, 119] ∨ s = [112, 117, 114, 101] ∨ s = [102, 114, 97, 103] ∨ s = [112, 111, 114, 116, 97, 108] ∨ s = [103, 105, 118, 101] ∨ s = [103, 117, 97, 114, 100] ∨ s = [119, 97, 105, 116] ∨ (¬ s = [105, 102] ∧ (s == [105, 102]) = false ∧ ¬ s = [101, 97, 99, 104] ∧ (s == [101, 97, 99, 104]) = false ∧ ¬ s = [114, 101, 97, 100] ∧ (s == [114, 101, 97, 100]) = false ∧ ¬ s = [116, 104, 114, 111, 119] ∧ (s == [116, 104, 114, 111, 119]) = false ∧ ¬ s = [114, 101, 99] ∧ (s == [114, 101, 99]) = false ∧ ¬ s = [100, 111] ∧ (s == [100, 111]) = false ∧ ¬ s = [104, 111, 115, 116] ∧ (s == [104, 111, 115, 116]) = false ∧ ¬ s = [110, 101, 119] ∧ (s == [110, 101, 119]) = false ∧ ¬ s = [112, 117, 114, 101] ∧ (s == [112, 117, 114, 101]) = false ∧ ¬ s = [102, 114, 97, 103] ∧ (s == [102, 114, 97, 103]) = false ∧ ¬ s = [112, 111, 114, 116, 97, 108] ∧ (s == [112, 111, 114, 116, 97, 108]) = false ∧ ¬ s = [103, 105, 118, 101] ∧ (s == [103, 105, 118, 101]) = false ∧ ¬ s = [103, 117, 97, 114, 100] ∧ (s == [103, 117, 97, 114, 100]) = false ∧ ¬ s = [119, 97, 105, 116] ∧ (s == [119, 97, 105, 116]) = false) := by
  by_cases h0 : s = [105, 102]
  · exact .inl h0
  by_cases h1 : s = [101, 97, 99, 104]
  · exact .inr (.inl h1)
  by_cases h2 : s = [114, 101, 97, 100]
  · exact .inr (.inr (.inl h2))
  by_cases h3 : s = [116, 104, 114, 111, 119]
  · exact .inr (.inr (.inr (.inl h3)))
  by_cases h4 : s = [114, 101, 99]
  · exact .inr (.inr (.inr (.inr (.inl h4))))
  by_cases h5 : s = [100, 111]
  · exact .inr (.inr (.inr (.inr (.inr (.inl h5)))))
  by_cases h6 : s = [104, 111, 115, 116]
  · exact .inr (.inr (.inr (.inr (.inr (.inr (.inl h6))))))
  by_cases h7 : s = [110, 101, 119]
  · exact .inr (.inr (.inr (.inr (.inr (.inr (.inr (.inl h7)))))))
  by_cases h8 : s = [112, 117, 114, 101]
  · exact .inr (.inr (.inr (.inr (.inr (.inr (.inr (.inr (.inl h8))))))))
  by_cases h9 : s = [102, 114, 97, 103]
  · exact .inr (.inr (.inr (.inr (.inr (.inr (.inr (.inr (.inr (.inl h9)))))))))
  by_cases h10 : s = [112, 111, 114, 116, 97, 108]
  · exact .inr (.inr (.inr (.inr (.inr (.inr (.inr (.inr (.inr (.inr (.inl h10))))))))))
  by_cases h11 : s = [103, 105, 118, 101]
  · exact .inr (.inr (.inr (.inr (.inr (.inr (.inr (.inr (.inr (.inr (.inr (.inl h11)))))))))))
  by_cases h12 : s = [103, 117, 97, 114, 100]
  · exact .inr (.inr (.inr (.inr (.inr (.inr (.inr (.inr (.inr (.inr (.inr (.inr (.inl h12))))))))))))
  by_cases h13 : s = [119, 97, 105, 116]
  · exact .inr (.inr (.inr (.inr (.inr (.inr (.inr (.inr (.inr (.inr (.inr (.inr (.inr (.inl h13)))))))))))))
  exact .inr (.inr (.inr (.inr (.inr (.inr (.inr (.inr (.inr (.inr (.inr (.inr (.inr (.inr (⟨h0, by simpa using h0, h1, by simpa using h1, h2, by simpa using h2, h3, by simpa using h3, h4, by simpa using h4, h5, by simpa using h5, h6, by simpa using h6, h7, by simpa using h7, h8, by simpa using h8, h9, by simpa using h9, h10, by simpa using h10, h11, by simpa using h11, h12, by simpa using h12, h13, by simpa using h13⟩))))))))))))))
theorem repLow {u : T} {w : World} {B C : Nat} {v : Value} (h : u.Rep w (B ≤ ·) v) (hC : C ≤ B) : u.Rep w (C ≤ ·) v := h.keep (Nat.le_refl _) (fun _ _ h => Nat.le_trans hC h) (fun _ _ _ => rfl)
set_option maxRecDepth 100000 in
set_option maxHeartbeats 32000000 in
theorem compound_any {W1 : World} {wv : Value} {ws : List LX.LW} {c : Str} {t d : Nat} {W : World} (h : RD' W1 wv ws c t d W) (hn : ws.length ≤ 65536) {ex : Nat → Nat → Rs (List T)} (he : ∀ t' d' W', t ≤ t' → RD' W1 wv ws c t' d' W' → Calls Tryz.prog 64 #[rp W1] W' (PostR W1 wv ws c (t' + 1) W' (FT ShE W'.heap.size) (ex t' d'))) (hel : ∀ k : Int, 1 ≤ k → k ≤ 8 → ∀ t' d' W', t ≤ t' → RD' W1 wv ws c t' d' W' → Calls Tryz.prog 199 #[rp W1, .int .u8 k] W' (PostR W1 wv ws c t' W' (FT ShE W'.heap.size) (elemP (ws.map nol) ex k t' d'))) (hc : c.length ≤ 70000) (htab : LTabs W1) (hdt : d + 1 ≤ t) (s : Str) :
    Calls Tryz.prog 167 #[rp W1, .string ⟨s.toArray⟩] W (PostR W1 wv ws c (t) W (FT ShE W.heap.size) (compoundP (ws.map nol) c ex s t d)) := by
  obtain ⟨W0, hW0⟩ : ∃ W0, W.alloc (.cells #[.int .u8 0, .int .i64 0, .string ⟨#[]⟩, .slice none 0 0, .slice none 0 0, .slice none 0 0, .int .u8 0, .slice none 0 0, .slice none 0 0, .string ⟨#[]⟩] 42) = W0 := ⟨_, rfl⟩
  have hlt := h.1.lt
  have hr0 : RD' W1 wv ws c t d W0 := by rw [← hW0]; exact h.alloc _
  have hg0 : Gr W1 W W0 := by rw [← hW0]; exact (gr_refl W1 W).alloc _
  have hz0 : W0.heap.size = W.heap.size + 1 := by rw [← hW0]; simp
  have hb0 : W0.heap[W.heap.size]? = some (.cells #[.int .u8 0, .int .i64 0, .string ⟨#[]⟩, .slice none 0 0, .slice none 0 0, .slice none 0 0, .int .u8 0, .slice none 0 0, .slice none 0 0, .string ⟨#[]⟩] 42 (0, 0)) := by rw [← hW0]; exact heap_alloc_new _ _
  have HK0 := Lib.hid hb0
  have htn := h.2.1
  have hdn := h.2.2
  have HN := Lib.hid (fun t d W (h : RD' W1 wv ws c t d W) => name_any h hn)
  have HX1 : Hid (∀ t' d' W', t ≤ t' → RD' W1 wv ws c t' d' W' → Calls Tryz.prog 194 #[rp W1, .int .i64 1] W' (PostR W1 wv ws c t' W' (FSl ShE 42 10 W'.heap.size) (timesP ex 1 t' d'))) := fun t' d' W' h1 h2 => exprs_any h2 hn (fun t2 d2 W2 h3 h4 => he t2 d2 W2 (Nat.le_trans h1 h3) h4) 1 (by decide)
  have HX2 : Hid (∀ t' d' W', t ≤ t' → RD' W1 wv ws c t' d' W' → Calls Tryz.prog 194 #[rp W1, .int .i64 2] W' (PostR W1 wv ws c t' W' (FSl ShE 42 10 W'.heap.size) (timesP ex 2 t' d'))) := fun t' d' W' h1 h2 => exprs_any h2 hn (fun t2 d2 W2 h3 h4 => he t2 d2 W2 (Nat.le_trans h1 h3) h4) 2 (by decide)
  have HX3 : Hid (∀ t' d' W', t ≤ t' → RD' W1 wv ws c t' d' W' → Calls Tryz.prog 194 #[rp W1, .int .i64 3] W' (PostR W1 wv ws c t' W' (FSl ShE 42 10 W'.heap.size) (timesP ex 3 t' d'))) := fun t' d' W' h1 h2 => exprs_any h2 hn (fun t2 d2 W2 h3 h4 => he t2 d2 W2 (Nat.le_trans h1 h3) h4) 3 (by decide)
  have HLP : Hid (∀ t' d' W', t ≤ t' → RD' W1 wv ws c t' d' W' → Calls Tryz.prog 196 #[rp W1, .func (.func 197) #[rp W1] #[]] W' (PostR W1 wv ws c (t' + 1) W' (FSl ShP 231 11 W'.heap.size) (allP (ws.map nol) (pairP (ws.map nol) ex) FU t' d'))) := fun t' d' W' h1 h2 => allP_any h2 hn (fun t2 d2 W2 h3 h4 => pair_any h4 hn (fun t3 d3 W3 h5 h6 => he t3 d3 W3 (Nat.le_trans (Nat.le_trans h1 h3) h5) h6)) FU (by unfold FU; omega)
  have HLA : Hid (∀ t' d' W', t ≤ t' → RD' W1 wv ws c t' d' W' → Calls Tryz.prog 163 #[rp W1, .func (.func 112) #[rp W1] #[]] W' (PostR W1 wv ws c (t' + 1) W' (FSl ShA 112 12 W'.heap.size) (allP (ws.map nol) (actP (ws.map nol) ex) FU t' d'))) := fun t' d' W' h1 h2 => allA_any h2 hn (fun t2 d2 W2 h3 h4 => act_any h4 hn (fun t3 d3 W3 h5 h6 => he t3 d3 W3 (Nat.le_trans (Nat.le_trans h1 h3) h5) h6)) FU (by unfold FU; omega)
  have HLE : Hid (∀ t' d' W', t ≤ t' → RD' W1 wv ws c t' d' W' → Calls Tryz.prog 162 #[rp W1, .func (.func 64) #[rp W1] #[]] W' (PostR W1 wv ws c (t' + 1) W' (FSl ShE 42 10 W'.heap.size) (allP (ws.map nol) (ex) FU t' d'))) := fun t' d' W' h1 h2 => allE_any h2 hn (fun t2 d2 W2 h3 h4 => he t2 d2 W2 (Nat.le_trans h1 h3) h4) FU (by unfold FU; omega)
  have HC := Lib.hid (fun t d W (h : RD' W1 wv ws c t d W) => closedE_any h hn)
  have HSI := Lib.hid (site_any hr0 hn hc hdt (htab.below hr0.1.low htab.gb))
  have HPD := Lib.hid (fun (l : List (List T)) (al : Option Addr) (cap B : Nat) (W : World) (hf : FRows ShP 231 11 B l (.slice al l.length cap) W) (hB : B ≤ W.heap.size) (hl : l.length ≤ 65537) => paired_any 10 0 ⟨#[]⟩ none 0 0 0 none 0 0 none 0 0 ⟨#[]⟩ l al cap B W hf hB hl)
  have HEL1 : Hid (Calls Tryz.prog 199 #[rp W1, .int .u8 1] W0 (PostR W1 wv ws c t W0 (FT ShE W0.heap.size) (elemP (ws.map nol) ex 1 t d))) := hel 1 (by decide) (by decide) t d W0 (Nat.le_refl _) hr0
  have HEL2 : Hid (Calls Tryz.prog 199 #[rp W1, .int .u8 2] W0 (PostR W1 wv ws c t W0 (FT ShE W0.heap.size) (elemP (ws.map nol) ex 2 t d))) := hel 2 (by decide) (by decide) t d W0 (Nat.le_refl _) hr0
  have HEL3 : Hid (Calls Tryz.prog 199 #[rp W1, .int .u8 3] W0 (PostR W1 wv ws c t W0 (FT ShE W0.heap.size) (elemP (ws.map nol) ex 3 t d))) := hel 3 (by decide) (by decide) t d W0 (Nat.le_refl _) hr0
  have HEL4 : Hid (Calls Tryz.prog 199 #[rp W1, .int .u8 4] W0 (PostR W1 wv ws c t W0 (FT ShE W0.heap.size) (elemP (ws.map nol) ex 4 t d))) := hel 4 (by decide) (by decide) t d W0 (Nat.le_refl _) hr0
  have HEL5 : Hid (Calls Tryz.prog 199 #[rp W1, .int .u8 5] W0 (PostR W1 wv ws c t W0 (FT ShE W0.heap.size) (elemP (ws.map nol) ex 5 t d))) := hel 5 (by decide) (by decide) t d W0 (Nat.le_refl _) hr0
  have HEL6 : Hid (Calls Tryz.prog 199 #[rp W1, .int .u8 6] W0 (PostR W1 wv ws c t W0 (FT ShE W0.heap.size) (elemP (ws.map nol) ex 6 t d))) := hel 6 (by decide) (by decide) t d W0 (Nat.le_refl _) hr0
  have HEL7 : Hid (Calls Tryz.prog 199 #[rp W1, .int .u8 7] W0 (PostR W1 wv ws c t W0 (FT ShE W0.heap.size) (elemP (ws.map nol) ex 7 t d))) := hel 7 (by decide) (by decide) t d W0 (Nat.le_refl _) hr0
  have HEL8 : Hid (Calls Tryz.prog 199 #[rp W1, .int .u8 8] W0 (PostR W1 wv ws c t W0 (FT ShE W0.heap.size) (elemP (ws.map nol) ex 8 t d))) := hel 8 (by decide) (by decide) t d W0 (Nat.le_refl _) hr0
  obtain ⟨rs, hrs⟩ : ∃ r, (compoundP (ws.map nol) c ex s t d) = r := ⟨_, rfl⟩
  rw [hrs]
  obtain ⟨post, hpost⟩ : ∃ p, PostR W1 wv ws c (t) W (FT ShE W.heap.size) rs = p := ⟨_, rfl⟩
  have HB : Hid (∀ t' w', rs = .bad t' → (∃ d, RD W1 wv ws c t' d w') → Gr W1 W w' → post (.panicked [pz]) w') := fun t' w' h1 h2 h3 => by rw [← hpost]; exact .inl ⟨t', h1, rfl, h2, h3⟩
  have HO : Hid (∀ x t' d' v w', rs = .ok x t' d' → (FT ShE W.heap.size) x v w' → t ≤ t' → RD' W1 wv ws c t' d' w' → Gr W1 W w' → post (.returned v) w') := fun x t' d' v w' h1 h2 h3 h4 h5 => by rw [← hpost]; exact .inr ⟨x, t', d', v, h1, rfl, h2, h3, h4, h5⟩
  rw [hpost]
  have HRS := Lib.hid hrs
  clear hrs hpost
  clear h hb0
  rcases compound_cases s with rfl | rfl | rfl | rfl | rfl | rfl | rfl | rfl | rfl | rfl | rfl | rfl | rfl | rfl | ⟨n0, q0, n1, q1, n2, q2, n3, q3, n4, q4, n5, q5, n6, q6, n7, q7, n8, q8, n9, q9, n10, q10, n11, q11, n12, q12, n13, q13⟩
  · go_enter Tryz.func167, Tryz.ntmps167
    go_wp2_with (first
      | (go_at_call 194; (with_reducible refine (HX3.out _ _ _ (by omega) hr0).mono ?_); rintro e1 w1 (⟨t1, hp1, rfl, hb1, hk1⟩ | ⟨x1, t1, d1, v1, hp1, rfl, ⟨la1, ln1, lc1, rfl, hf1, rfl, hle1⟩, hl1, hr1, hk1⟩))
      | (go_at_call 193; (refine (HC.out _ _ _ hr1 _ (by exact ⟨_, _, _, _, _, _, _, _, _, _, _, _, _, _, _, _, _, _, _, _, rfl⟩)).mono ?_); rintro e2 w2 (⟨t2, hp2, rfl, hb2, hk2⟩ | ⟨x2, t2, d2, v2, hp2, rfl, rfl, hl2, hr2, hk2⟩))
      | (refine wpList_store_row rfl 42 _ _ rfl W.heap.size _ rfl rfl 42 #[.int .u8 0, .int .i64 0, .string ⟨#[]⟩, .slice none 0 0, .slice none 0 0, .slice none 0 0, .int .u8 0, .slice none 0 0, .slice none 0 0, .string ⟨#[]⟩] (gr_block (hk1.trans hk2) hlt HK0.out) iszE rfl (all_one (shE_one (by exact ⟨_, _, _, _, _, _, _, _, _, _, _, _, _, _, _, _, _, _, _, _, rfl⟩)).1) ?_))
    · exact ⟨rfl, HB.out _ _ (by rw [← HRS.out]; simp [compoundP, hp1]) hb1 (hg0.trans hk1)⟩
    · exact ⟨rfl, HB.out _ _ (by rw [← HRS.out]; simp [compoundP, hp1, hp2]) hb2 ((hg0.trans hk1).trans hk2)⟩
    · have hsz := (hk1.trans hk2).size
      have hs1 := hk1.size
      have hz1 := hr1.2.1
      have hs2 := (hk1.trans hk2).size
      have hz2 := hr2.2.1
      refine bodyPost_ret (results_cell_row Tryz.results167 _ _ W.heap.size 42 _ (0, 0) _ rfl (setRow_heap _ _ _ _ _ _ (gr_block (hk1.trans hk2) hlt HK0.out)) Tryz.underlying42 rfl iszE) rfl ?_
      refine HO.out (eCols 6 0 [] x1 [] [] 0 [] [] []) t2 d2 _ _ (by rw [← HRS.out]; simp [compoundP, hp1, hp2]) ⟨_, rfl, ⟨_, _, _, _, _, _, _, _, _, _, _, _, _, _, _, _, _, _, _, _, rfl⟩, ?_⟩ (by omega) ((put_row _ _ _).rd hr2 hlt) ((put_row _ _ _).gr ((hg0.trans hk1).trans hk2) (Nat.le_refl _))
      exact Row.low (C := W.heap.size) (by omega) (Put.rowB (g := W.heap.size) (put_row _ _ _) (B := W.heap.size + 1) (Nat.lt_succ_self _) (row_one _ (row_one _ (row_one _ (row_rows (frows_rep hf1 hk2 (by omega) (by omega)) (row_rows (rep_nil 1) (row_rows (rep_nil 10) (row_one _ (row_rows (rep_nil 10) (row_rows (rep_nil 12) (row_one _ .nil)))))))))))
  · go_enter Tryz.func167, Tryz.ntmps167
    go_wp2_with (first
      | (go_at_call 62; (with_reducible refine (HN.out _ _ _ hr0).mono ?_); rintro e1 w1 (⟨t1, hp1, rfl, hb1, hk1⟩ | ⟨x1, t1, d1, v1, hp1, rfl, rfl, hl1, hr1, hk1⟩))
      | (go_at_call 194; (with_reducible refine (HX2.out _ _ _ (by omega) hr1).mono ?_); rintro e2 w2 (⟨t2, hp2, rfl, hb2, hk2⟩ | ⟨x2, t2, d2, v2, hp2, rfl, ⟨la2, ln2, lc2, rfl, hf2, rfl, hle2⟩, hl2, hr2, hk2⟩))
      | (go_at_call 193; (refine (HC.out _ _ _ hr2 _ (by exact ⟨_, _, _, _, _, _, _, _, _, _, _, _, _, _, _, _, _, _, _, _, rfl⟩)).mono ?_); rintro e3 w3 (⟨t3, hp3, rfl, hb3, hk3⟩ | ⟨x3, t3, d3, v3, hp3, rfl, rfl, hl3, hr3, hk3⟩))
      | (refine wpList_store_row rfl 42 _ _ rfl W.heap.size _ rfl rfl 42 #[.int .u8 0, .int .i64 0, .string ⟨#[]⟩, .slice none 0 0, .slice none 0 0, .slice none 0 0, .int .u8 0, .slice none 0 0, .slice none 0 0, .string ⟨#[]⟩] (gr_block ((hk1.trans hk2).trans hk3) hlt HK0.out) iszE rfl (all_one (shE_one (by exact ⟨_, _, _, _, _, _, _, _, _, _, _, _, _, _, _, _, _, _, _, _, rfl⟩)).1) ?_))
    · exact ⟨rfl, HB.out _ _ (by rw [← HRS.out]; simp [compoundP, hp1]) hb1 (hg0.trans hk1)⟩
    · exact ⟨rfl, HB.out _ _ (by rw [← HRS.out]; simp [compoundP, hp1, hp2]) hb2 ((hg0.trans hk1).trans hk2)⟩
    · exact ⟨rfl, HB.out _ _ (by rw [← HRS.out]; simp [compoundP, hp1, hp2, hp3]) hb3 (((hg0.trans hk1).trans hk2).trans hk3)⟩
    · have hsz := ((hk1.trans hk2).trans hk3).size
      have hs1 := hk1.size
      have hz1 := hr1.2.1
      have hs2 := (hk1.trans hk2).size
      have hz2 := hr2.2.1
      have hs3 := ((hk1.trans hk2).trans hk3).size
      have hz3 := hr3.2.1
      refine bodyPost_ret (results_cell_row Tryz.results167 _ _ W.heap.size 42 _ (0, 0) _ rfl (setRow_heap _ _ _ _ _ _ (gr_block ((hk1.trans hk2).trans hk3) hlt HK0.out)) Tryz.underlying42 rfl iszE) rfl ?_
      refine HO.out (eCols 7 0 x1 x2 [] [] 0 [] [] []) t3 d3 _ _ (by rw [← HRS.out]; simp [compoundP, hp1, hp2, hp3]) ⟨_, rfl, ⟨_, _, _, _, _, _, _, _, _, _, _, _, _, _, _, _, _, _, _, _, rfl⟩, ?_⟩ (by omega) ((put_row _ _ _).rd hr3 hlt) ((put_row _ _ _).gr (((hg0.trans hk1).trans hk2).trans hk3) (Nat.le_refl _))
      exact Row.low (C := W.heap.size) (by omega) (Put.rowB (g := W.heap.size) (put_row _ _ _) (B := W.heap.size + 1) (Nat.lt_succ_self _) (row_one _ (row_one _ (row_one _ (row_rows (frows_rep hf2 hk3 (by omega) (by omega)) (row_rows (rep_nil 1) (row_rows (rep_nil 10) (row_one _ (row_rows (rep_nil 10) (row_rows (rep_nil 12) (row_one _ .nil)))))))))))
  · go_enter Tryz.func167, Tryz.ntmps167
    go_wp2_with (first
      | (go_at_call 194; (with_reducible refine (HX1.out _ _ _ (by omega) hr0).mono ?_); rintro e1 w1 (⟨t1, hp1, rfl, hb1, hk1⟩ | ⟨x1, t1, d1, v1, hp1, rfl, ⟨la1, ln1, lc1, rfl, hf1, rfl, hle1⟩, hl1, hr1, hk1⟩))
      | (go_at_call 193; (refine (HC.out _ _ _ hr1 _ (by exact ⟨_, _, _, _, _, _, _, _, _, _, _, _, _, _, _, _, _, _, _, _, rfl⟩)).mono ?_); rintro e2 w2 (⟨t2, hp2, rfl, hb2, hk2⟩ | ⟨x2, t2, d2, v2, hp2, rfl, rfl, hl2, hr2, hk2⟩))
      | (refine wpList_store_row rfl 42 _ _ rfl W.heap.size _ rfl rfl 42 #[.int .u8 0, .int .i64 0, .string ⟨#[]⟩, .slice none 0 0, .slice none 0 0, .slice none 0 0, .int .u8 0, .slice none 0 0, .slice none 0 0, .string ⟨#[]⟩] (gr_block (hk1.trans hk2) hlt HK0.out) iszE rfl (all_one (shE_one (by exact ⟨_, _, _, _, _, _, _, _, _, _, _, _, _, _, _, _, _, _, _, _, rfl⟩)).1) ?_))
    · exact ⟨rfl, HB.out _ _ (by rw [← HRS.out]; simp [compoundP, hp1]) hb1 (hg0.trans hk1)⟩
    · exact ⟨rfl, HB.out _ _ (by rw [← HRS.out]; simp [compoundP, hp1, hp2]) hb2 ((hg0.trans hk1).trans hk2)⟩
    · have hsz := (hk1.trans hk2).size
      have hs1 := hk1.size
      have hz1 := hr1.2.1
      have hs2 := (hk1.trans hk2).size
      have hz2 := hr2.2.1
      refine bodyPost_ret (results_cell_row Tryz.results167 _ _ W.heap.size 42 _ (0, 0) _ rfl (setRow_heap _ _ _ _ _ _ (gr_block (hk1.trans hk2) hlt HK0.out)) Tryz.underlying42 rfl iszE) rfl ?_
      refine HO.out (eCols 8 0 [] x1 [] [] 0 [] [] []) t2 d2 _ _ (by rw [← HRS.out]; simp [compoundP, hp1, hp2]) ⟨_, rfl, ⟨_, _, _, _, _, _, _, _, _, _, _, _, _, _, _, _, _, _, _, _, rfl⟩, ?_⟩ (by omega) ((put_row _ _ _).rd hr2 hlt) ((put_row _ _ _).gr ((hg0.trans hk1).trans hk2) (Nat.le_refl _))
      exact Row.low (C := W.heap.size) (by omega) (Put.rowB (g := W.heap.size) (put_row _ _ _) (B := W.heap.size + 1) (Nat.lt_succ_self _) (row_one _ (row_one _ (row_one _ (row_rows (frows_rep hf1 hk2 (by omega) (by omega)) (row_rows (rep_nil 1) (row_rows (rep_nil 10) (row_one _ (row_rows (rep_nil 10) (row_rows (rep_nil 12) (row_one _ .nil)))))))))))
  · go_enter Tryz.func167, Tryz.ntmps167
    go_wp2_with (first
      | (go_at_call 194; (with_reducible refine (HX1.out _ _ _ (by omega) hr0).mono ?_); rintro e1 w1 (⟨t1, hp1, rfl, hb1, hk1⟩ | ⟨x1, t1, d1, v1, hp1, rfl, ⟨la1, ln1, lc1, rfl, hf1, rfl, hle1⟩, hl1, hr1, hk1⟩))
      | (go_at_call 193; (refine (HC.out _ _ _ hr1 _ (by exact ⟨_, _, _, _, _, _, _, _, _, _, _, _, _, _, _, _, _, _, _, _, rfl⟩)).mono ?_); rintro e2 w2 (⟨t2, hp2, rfl, hb2, hk2⟩ | ⟨x2, t2, d2, v2, hp2, rfl, rfl, hl2, hr2, hk2⟩))
      | (refine wpList_store_row rfl 42 _ _ rfl W.heap.size _ rfl rfl 42 #[.int .u8 0, .int .i64 0, .string ⟨#[]⟩, .slice none 0 0, .slice none 0 0, .slice none 0 0, .int .u8 0, .slice none 0 0, .slice none 0 0, .string ⟨#[]⟩] (gr_block (hk1.trans hk2) hlt HK0.out) iszE rfl (all_one (shE_one (by exact ⟨_, _, _, _, _, _, _, _, _, _, _, _, _, _, _, _, _, _, _, _, rfl⟩)).1) ?_))
    · exact ⟨rfl, HB.out _ _ (by rw [← HRS.out]; simp [compoundP, hp1]) hb1 (hg0.trans hk1)⟩
    · exact ⟨rfl, HB.out _ _ (by rw [← HRS.out]; simp [compoundP, hp1, hp2]) hb2 ((hg0.trans hk1).trans hk2)⟩
    · have hsz := (hk1.trans hk2).size
      have hs1 := hk1.size
      have hz1 := hr1.2.1
      have hs2 := (hk1.trans hk2).size
      have hz2 := hr2.2.1
      refine bodyPost_ret (results_cell_row Tryz.results167 _ _ W.heap.size 42 _ (0, 0) _ rfl (setRow_heap _ _ _ _ _ _ (gr_block (hk1.trans hk2) hlt HK0.out)) Tryz.underlying42 rfl iszE) rfl ?_
      refine HO.out (eCols 9 0 [] x1 [] [] 0 [] [] []) t2 d2 _ _ (by rw [← HRS.out]; simp [compoundP, hp1, hp2]) ⟨_, rfl, ⟨_, _, _, _, _, _, _, _, _, _, _, _, _, _, _, _, _, _, _, _, rfl⟩, ?_⟩ (by omega) ((put_row _ _ _).rd hr2 hlt) ((put_row _ _ _).gr ((hg0.trans hk1).trans hk2) (Nat.le_refl _))
      exact Row.low (C := W.heap.size) (by omega) (Put.rowB (g := W.heap.size) (put_row _ _ _) (B := W.heap.size + 1) (Nat.lt_succ_self _) (row_one _ (row_one _ (row_one _ (row_rows (frows_rep hf1 hk2 (by omega) (by omega)) (row_rows (rep_nil 1) (row_rows (rep_nil 10) (row_one _ (row_rows (rep_nil 10) (row_rows (rep_nil 12) (row_one _ .nil)))))))))))
  · go_enter Tryz.func167, Tryz.ntmps167
    go_wp2_with (first
      | (go_at_call 196; (with_reducible refine (HLP.out _ _ _ (by omega) hr0).mono ?_); rintro e1 w1 (⟨t1, hp1, rfl, hb1, hk1⟩ | ⟨x1, t1, d1, v1, hp1, rfl, ⟨la1, ln1, lc1, rfl, hf1, rfl, hle1⟩, hl1, hr1, hk1⟩))
      | (go_at_call 195; (with_reducible refine (HPD.out _ _ _ _ _ hf1 hk1.size hle1).mono ?_); rintro e2 w2 ⟨aN2, nN2, cN2, aV2, nV2, cV2, rfl, hrn2, hrv2, hB2⟩; have hk2 : Gr W1 w1 w2 := (gr_refl W1 w1).below hB2; have hr2 := hr1.keep hB2; have hp2 : True := trivial; have hl2 : True := trivial)
      | (refine wpList_store_row rfl 42 _ _ rfl W.heap.size _ rfl rfl 42 #[.int .u8 0, .int .i64 0, .string ⟨#[]⟩, .slice none 0 0, .slice none 0 0, .slice none 0 0, .int .u8 0, .slice none 0 0, .slice none 0 0, .string ⟨#[]⟩] (gr_block (hk1.trans hk2) hlt HK0.out) iszE rfl (all_one (shE_one (by exact ⟨_, _, _, _, _, _, _, _, _, _, _, _, _, _, _, _, _, _, _, _, rfl⟩)).1) ?_))
    · exact ⟨rfl, HB.out _ _ (by rw [← HRS.out]; simp [compoundP, hp1]) hb1 (hg0.trans hk1)⟩
    · have hsz := (hk1.trans hk2).size
      have hs1 := hk1.size
      have hz1 := hr1.2.1
      have hs2 := (hk1.trans hk2).size
      have hz2 := hr2.2.1
      refine bodyPost_ret (results_cell_row Tryz.results167 _ _ W.heap.size 42 _ (0, 0) _ rfl (setRow_heap _ _ _ _ _ _ (gr_block (hk1.trans hk2) hlt HK0.out)) Tryz.underlying42 rfl iszE) rfl ?_
      refine HO.out (eCols 10 0 [] [] (x1.map (·.take 1)) (x1.map (·.drop 1)) 0 [] [] []) t1 d1 _ _ (by rw [← HRS.out]; simp [compoundP, hp1, hp2]) ⟨_, rfl, ⟨_, _, _, _, _, _, _, _, _, _, _, _, _, _, _, _, _, _, _, _, rfl⟩, ?_⟩ (by omega) ((put_row _ _ _).rd hr2 hlt) ((put_row _ _ _).gr ((hg0.trans hk1).trans hk2) (Nat.le_refl _))
      exact Row.low (C := W.heap.size) (by omega) (Put.rowB (g := W.heap.size) (put_row _ _ _) (B := W.heap.size + 1) (Nat.lt_succ_self _) (row_one _ (row_one _ (row_one _ (row_rows (rep_nil 10) (row_rows (repLow hrn2 (by omega)) (row_rows (repLow hrv2 (by omega)) (row_one _ (row_rows (rep_nil 10) (row_rows (rep_nil 12) (row_one _ .nil)))))))))))
  · go_enter Tryz.func167, Tryz.ntmps167
    go_wp2_with (first
      | (go_at_call 198; (with_reducible refine HSI.out.mono ?_); rintro e1 w1 ⟨rfl, hr1, hk1⟩; have hp1 : True := trivial; have hl1 : True := trivial)
      | (go_at_call 163; (with_reducible refine (HLA.out _ _ _ (by omega) hr1).mono ?_); rintro e2 w2 (⟨t2, hp2, rfl, hb2, hk2⟩ | ⟨x2, t2, d2, v2, hp2, rfl, ⟨la2, ln2, lc2, rfl, hf2, rfl, hle2⟩, hl2, hr2, hk2⟩))
      | (refine wpList_store_row rfl 42 _ _ rfl W.heap.size _ rfl rfl 42 #[.int .u8 0, .int .i64 0, .string ⟨#[]⟩, .slice none 0 0, .slice none 0 0, .slice none 0 0, .int .u8 0, .slice none 0 0, .slice none 0 0, .string ⟨#[]⟩] (gr_block (hk1.trans hk2) hlt HK0.out) iszE rfl (all_one (shE_one (by exact ⟨_, _, _, _, _, _, _, _, _, _, _, _, _, _, _, _, _, _, _, _, rfl⟩)).1) ?_))
    · exact ⟨rfl, HB.out _ _ (by rw [← HRS.out]; simp [compoundP, hp1, hp2]) hb2 ((hg0.trans hk1).trans hk2)⟩
    · have hsz := (hk1.trans hk2).size
      have hs1 := hk1.size
      have hz1 := hr1.2.1
      have hs2 := (hk1.trans hk2).size
      have hz2 := hr2.2.1
      refine bodyPost_ret (results_cell_row Tryz.results167 _ _ W.heap.size 42 _ (0, 0) _ rfl (setRow_heap _ _ _ _ _ _ (gr_block (hk1.trans hk2) hlt HK0.out)) Tryz.underlying42 rfl iszE) rfl ?_
      refine HO.out (eCols 12 0 [] [] [] [] 0 [] x2 (siteS c d)) t2 d2 _ _ (by rw [← HRS.out]; simp [compoundP, hp1, hp2]) ⟨_, rfl, ⟨_, _, _, _, _, _, _, _, _, _, _, _, _, _, _, _, _, _, _, _, rfl⟩, ?_⟩ (by omega) ((put_row _ _ _).rd hr2 hlt) ((put_row _ _ _).gr ((hg0.trans hk1).trans hk2) (Nat.le_refl _))
      exact Row.low (C := W.heap.size) (by omega) (Put.rowB (g := W.heap.size) (put_row _ _ _) (B := W.heap.size + 1) (Nat.lt_succ_self _) (row_one _ (row_one _ (row_one _ (row_rows (rep_nil 10) (row_rows (rep_nil 1) (row_rows (rep_nil 10) (row_one _ (row_rows (rep_nil 10) (row_rows (frows_rep hf2 (gr_refl W1 w2) (by omega) (by omega)) (row_one _ .nil)))))))))))
  · go_enter Tryz.func167, Tryz.ntmps167
    go_wp2_with (first
      | (go_at_call 199; (with_reducible refine (HEL1.out).mono ?_); rintro e1 w1 (⟨t1, hp1, rfl, hb1, hk1⟩ | ⟨x1, t1, d1, v1, hp1, rfl, ⟨vs1, rfl, ⟨ya0, ya1, ys2, yp3, yl3, yq3, yp4, yl4, yq4, yp5, yl5, yq5, ya6, yp7, yl7, yq7, yp8, yl8, yq8, ys9, rfl⟩, hrow1⟩, hl1, hr1, hk1⟩))
      | (refine wpList_store_row rfl 42 _ _ rfl W.heap.size _ rfl rfl 42 #[.int .u8 0, .int .i64 0, .string ⟨#[]⟩, .slice none 0 0, .slice none 0 0, .slice none 0 0, .int .u8 0, .slice none 0 0, .slice none 0 0, .string ⟨#[]⟩] (gr_block hk1 hlt HK0.out) iszE rfl (all_one (shE_one (by exact ⟨_, _, _, _, _, _, _, _, _, _, _, _, _, _, _, _, _, _, _, _, rfl⟩)).1) ?_))
    · exact ⟨rfl, HB.out _ _ (by rw [← HRS.out]; simp [compoundP, hp1]) hb1 (hg0.trans hk1)⟩
    · have hsz := hk1.size
      have hs1 := hk1.size
      have hz1 := hr1.2.1
      refine bodyPost_ret (results_cell_row Tryz.results167 _ _ W.heap.size 42 _ (0, 0) _ rfl (setRow_heap _ _ _ _ _ _ (gr_block hk1 hlt HK0.out)) Tryz.underlying42 rfl iszE) rfl ?_
      refine HO.out (x1) t1 d1 _ _ (by rw [← HRS.out]; simp [compoundP, hp1]) ⟨_, rfl, ⟨_, _, _, _, _, _, _, _, _, _, _, _, _, _, _, _, _, _, _, _, rfl⟩, ?_⟩ (by omega) ((put_row _ _ _).rd hr1 hlt) ((put_row _ _ _).gr (hg0.trans hk1) (Nat.le_refl _))
      exact Row.low (C := W.heap.size) (by omega) (Put.rowB (g := W.heap.size) (put_row _ _ _) (B := W.heap.size + 1) (Nat.lt_succ_self _) ((Row.low (C := W.heap.size + 1) (by have := hg0.size; omega) (Row.gr (gr_refl W1 w1) (by omega) hrow1))))
  · go_enter Tryz.func167, Tryz.ntmps167
    go_wp2_with (first
      | (go_at_call 199; (with_reducible refine (HEL2.out).mono ?_); rintro e1 w1 (⟨t1, hp1, rfl, hb1, hk1⟩ | ⟨x1, t1, d1, v1, hp1, rfl, ⟨vs1, rfl, ⟨ya0, ya1, ys2, yp3, yl3, yq3, yp4, yl4, yq4, yp5, yl5, yq5, ya6, yp7, yl7, yq7, yp8, yl8, yq8, ys9, rfl⟩, hrow1⟩, hl1, hr1, hk1⟩))
      | (refine wpList_store_row rfl 42 _ _ rfl W.heap.size _ rfl rfl 42 #[.int .u8 0, .int .i64 0, .string ⟨#[]⟩, .slice none 0 0, .slice none 0 0, .slice none 0 0, .int .u8 0, .slice none 0 0, .slice none 0 0, .string ⟨#[]⟩] (gr_block hk1 hlt HK0.out) iszE rfl (all_one (shE_one (by exact ⟨_, _, _, _, _, _, _, _, _, _, _, _, _, _, _, _, _, _, _, _, rfl⟩)).1) ?_))
    · exact ⟨rfl, HB.out _ _ (by rw [← HRS.out]; simp [compoundP, hp1]) hb1 (hg0.trans hk1)⟩
    · have hsz := hk1.size
      have hs1 := hk1.size
      have hz1 := hr1.2.1
      refine bodyPost_ret (results_cell_row Tryz.results167 _ _ W.heap.size 42 _ (0, 0) _ rfl (setRow_heap _ _ _ _ _ _ (gr_block hk1 hlt HK0.out)) Tryz.underlying42 rfl iszE) rfl ?_
      refine HO.out (x1) t1 d1 _ _ (by rw [← HRS.out]; simp [compoundP, hp1]) ⟨_, rfl, ⟨_, _, _, _, _, _, _, _, _, _, _, _, _, _, _, _, _, _, _, _, rfl⟩, ?_⟩ (by omega) ((put_row _ _ _).rd hr1 hlt) ((put_row _ _ _).gr (hg0.trans hk1) (Nat.le_refl _))
      exact Row.low (C := W.heap.size) (by omega) (Put.rowB (g := W.heap.size) (put_row _ _ _) (B := W.heap.size + 1) (Nat.lt_succ_self _) ((Row.low (C := W.heap.size + 1) (by have := hg0.size; omega) (Row.gr (gr_refl W1 w1) (by omega) hrow1))))
  · go_enter Tryz.func167, Tryz.ntmps167
    go_wp2_with (first
      | (go_at_call 199; (with_reducible refine (HEL3.out).mono ?_); rintro e1 w1 (⟨t1, hp1, rfl, hb1, hk1⟩ | ⟨x1, t1, d1, v1, hp1, rfl, ⟨vs1, rfl, ⟨ya0, ya1, ys2, yp3, yl3, yq3, yp4, yl4, yq4, yp5, yl5, yq5, ya6, yp7, yl7, yq7, yp8, yl8, yq8, ys9, rfl⟩, hrow1⟩, hl1, hr1, hk1⟩))
      | (refine wpList_store_row rfl 42 _ _ rfl W.heap.size _ rfl rfl 42 #[.int .u8 0, .int .i64 0, .string ⟨#[]⟩, .slice none 0 0, .slice none 0 0, .slice none 0 0, .int .u8 0, .slice none 0 0, .slice none 0 0, .string ⟨#[]⟩] (gr_block hk1 hlt HK0.out) iszE rfl (all_one (shE_one (by exact ⟨_, _, _, _, _, _, _, _, _, _, _, _, _, _, _, _, _, _, _, _, rfl⟩)).1) ?_))
    · exact ⟨rfl, HB.out _ _ (by rw [← HRS.out]; simp [compoundP, hp1]) hb1 (hg0.trans hk1)⟩
    · have hsz := hk1.size
      have hs1 := hk1.size
      have hz1 := hr1.2.1
      refine bodyPost_ret (results_cell_row Tryz.results167 _ _ W.heap.size 42 _ (0, 0) _ rfl (setRow_heap _ _ _ _ _ _ (gr_block hk1 hlt HK0.out)) Tryz.underlying42 rfl iszE) rfl ?_
      refine HO.out (x1) t1 d1 _ _ (by rw [← HRS.out]; simp [compoundP, hp1]) ⟨_, rfl, ⟨_, _, _, _, _, _, _, _, _, _, _, _, _, _, _, _, _, _, _, _, rfl⟩, ?_⟩ (by omega) ((put_row _ _ _).rd hr1 hlt) ((put_row _ _ _).gr (hg0.trans hk1) (Nat.le_refl _))
      exact Row.low (C := W.heap.size) (by omega) (Put.rowB (g := W.heap.size) (put_row _ _ _) (B := W.heap.size + 1) (Nat.lt_succ_self _) ((Row.low (C := W.heap.size + 1) (by have := hg0.size; omega) (Row.gr (gr_refl W1 w1) (by omega) hrow1))))
  · go_enter Tryz.func167, Tryz.ntmps167
    go_wp2_with (first
      | (go_at_call 199; (with_reducible refine (HEL4.out).mono ?_); rintro e1 w1 (⟨t1, hp1, rfl, hb1, hk1⟩ | ⟨x1, t1, d1, v1, hp1, rfl, ⟨vs1, rfl, ⟨ya0, ya1, ys2, yp3, yl3, yq3, yp4, yl4, yq4, yp5, yl5, yq5, ya6, yp7, yl7, yq7, yp8, yl8, yq8, ys9, rfl⟩, hrow1⟩, hl1, hr1, hk1⟩))
      | (refine wpList_store_row rfl 42 _ _ rfl W.heap.size _ rfl rfl 42 #[.int .u8 0, .int .i64 0, .string ⟨#[]⟩, .slice none 0 0, .slice none 0 0, .slice none 0 0, .int .u8 0, .slice none 0 0, .slice none 0 0, .string ⟨#[]⟩] (gr_block hk1 hlt HK0.out) iszE rfl (all_one (shE_one (by exact ⟨_, _, _, _, _, _, _, _, _, _, _, _, _, _, _, _, _, _, _, _, rfl⟩)).1) ?_))
    · exact ⟨rfl, HB.out _ _ (by rw [← HRS.out]; simp [compoundP, hp1]) hb1 (hg0.trans hk1)⟩
    · have hsz := hk1.size
      have hs1 := hk1.size
      have hz1 := hr1.2.1
      refine bodyPost_ret (results_cell_row Tryz.results167 _ _ W.heap.size 42 _ (0, 0) _ rfl (setRow_heap _ _ _ _ _ _ (gr_block hk1 hlt HK0.out)) Tryz.underlying42 rfl iszE) rfl ?_
      refine HO.out (x1) t1 d1 _ _ (by rw [← HRS.out]; simp [compoundP, hp1]) ⟨_, rfl, ⟨_, _, _, _, _, _, _, _, _, _, _, _, _, _, _, _, _, _, _, _, rfl⟩, ?_⟩ (by omega) ((put_row _ _ _).rd hr1 hlt) ((put_row _ _ _).gr (hg0.trans hk1) (Nat.le_refl _))
      exact Row.low (C := W.heap.size) (by omega) (Put.rowB (g := W.heap.size) (put_row _ _ _) (B := W.heap.size + 1) (Nat.lt_succ_self _) ((Row.low (C := W.heap.size + 1) (by have := hg0.size; omega) (Row.gr (gr_refl W1 w1) (by omega) hrow1))))
  · go_enter Tryz.func167, Tryz.ntmps167
    go_wp2_with (first
      | (go_at_call 199; (with_reducible refine (HEL5.out).mono ?_); rintro e1 w1 (⟨t1, hp1, rfl, hb1, hk1⟩ | ⟨x1, t1, d1, v1, hp1, rfl, ⟨vs1, rfl, ⟨ya0, ya1, ys2, yp3, yl3, yq3, yp4, yl4, yq4, yp5, yl5, yq5, ya6, yp7, yl7, yq7, yp8, yl8, yq8, ys9, rfl⟩, hrow1⟩, hl1, hr1, hk1⟩))
      | (refine wpList_store_row rfl 42 _ _ rfl W.heap.size _ rfl rfl 42 #[.int .u8 0, .int .i64 0, .string ⟨#[]⟩, .slice none 0 0, .slice none 0 0, .slice none 0 0, .int .u8 0, .slice none 0 0, .slice none 0 0, .string ⟨#[]⟩] (gr_block hk1 hlt HK0.out) iszE rfl (all_one (shE_one (by exact ⟨_, _, _, _, _, _, _, _, _, _, _, _, _, _, _, _, _, _, _, _, rfl⟩)).1) ?_))
    · exact ⟨rfl, HB.out _ _ (by rw [← HRS.out]; simp [compoundP, hp1]) hb1 (hg0.trans hk1)⟩
    · have hsz := hk1.size
      have hs1 := hk1.size
      have hz1 := hr1.2.1
      refine bodyPost_ret (results_cell_row Tryz.results167 _ _ W.heap.size 42 _ (0, 0) _ rfl (setRow_heap _ _ _ _ _ _ (gr_block hk1 hlt HK0.out)) Tryz.underlying42 rfl iszE) rfl ?_
      refine HO.out (x1) t1 d1 _ _ (by rw [← HRS.out]; simp [compoundP, hp1]) ⟨_, rfl, ⟨_, _, _, _, _, _, _, _, _, _, _, _, _, _, _, _, _, _, _, _, rfl⟩, ?_⟩ (by omega) ((put_row _ _ _).rd hr1 hlt) ((put_row _ _ _).gr (hg0.trans hk1) (Nat.le_refl _))
      exact Row.low (C := W.heap.size) (by omega) (Put.rowB (g := W.heap.size) (put_row _ _ _) (B := W.heap.size + 1) (Nat.lt_succ_self _) ((Row.low (C := W.heap.size + 1) (by have := hg0.size; omega) (Row.gr (gr_refl W1 w1) (by omega) hrow1))))
  · go_enter Tryz.func167, Tryz.ntmps167
    go_wp2_with (first
      | (go_at_call 199; (with_reducible refine (HEL6.out).mono ?_); rintro e1 w1 (⟨t1, hp1, rfl, hb1, hk1⟩ | ⟨x1, t1, d1, v1, hp1, rfl, ⟨vs1, rfl, ⟨ya0, ya1, ys2, yp3, yl3, yq3, yp4, yl4, yq4, yp5, yl5, yq5, ya6, yp7, yl7, yq7, yp8, yl8, yq8, ys9, rfl⟩, hrow1⟩, hl1, hr1, hk1⟩))
      | (refine wpList_store_row rfl 42 _ _ rfl W.heap.size _ rfl rfl 42 #[.int .u8 0, .int .i64 0, .string ⟨#[]⟩, .slice none 0 0, .slice none 0 0, .slice none 0 0, .int .u8 0, .slice none 0 0, .slice none 0 0, .string ⟨#[]⟩] (gr_block hk1 hlt HK0.out) iszE rfl (all_one (shE_one (by exact ⟨_, _, _, _, _, _, _, _, _, _, _, _, _, _, _, _, _, _, _, _, rfl⟩)).1) ?_))
    · exact ⟨rfl, HB.out _ _ (by rw [← HRS.out]; simp [compoundP, hp1]) hb1 (hg0.trans hk1)⟩
    · have hsz := hk1.size
      have hs1 := hk1.size
      have hz1 := hr1.2.1
      refine bodyPost_ret (results_cell_row Tryz.results167 _ _ W.heap.size 42 _ (0, 0) _ rfl (setRow_heap _ _ _ _ _ _ (gr_block hk1 hlt HK0.out)) Tryz.underlying42 rfl iszE) rfl ?_
      refine HO.out (x1) t1 d1 _ _ (by rw [← HRS.out]; simp [compoundP, hp1]) ⟨_, rfl, ⟨_, _, _, _, _, _, _, _, _, _, _, _, _, _, _, _, _, _, _, _, rfl⟩, ?_⟩ (by omega) ((put_row _ _ _).rd hr1 hlt) ((put_row _ _ _).gr (hg0.trans hk1) (Nat.le_refl _))
      exact Row.low (C := W.heap.size) (by omega) (Put.rowB (g := W.heap.size) (put_row _ _ _) (B := W.heap.size + 1) (Nat.lt_succ_self _) ((Row.low (C := W.heap.size + 1) (by have := hg0.size; omega) (Row.gr (gr_refl W1 w1) (by omega) hrow1))))
  · go_enter Tryz.func167, Tryz.ntmps167
    go_wp2_with (first
      | (go_at_call 199; (with_reducible refine (HEL7.out).mono ?_); rintro e1 w1 (⟨t1, hp1, rfl, hb1, hk1⟩ | ⟨x1, t1, d1, v1, hp1, rfl, ⟨vs1, rfl, ⟨ya0, ya1, ys2, yp3, yl3, yq3, yp4, yl4, yq4, yp5, yl5, yq5, ya6, yp7, yl7, yq7, yp8, yl8, yq8, ys9, rfl⟩, hrow1⟩, hl1, hr1, hk1⟩))
      | (refine wpList_store_row rfl 42 _ _ rfl W.heap.size _ rfl rfl 42 #[.int .u8 0, .int .i64 0, .string ⟨#[]⟩, .slice none 0 0, .slice none 0 0, .slice none 0 0, .int .u8 0, .slice none 0 0, .slice none 0 0, .string ⟨#[]⟩] (gr_block hk1 hlt HK0.out) iszE rfl (all_one (shE_one (by exact ⟨_, _, _, _, _, _, _, _, _, _, _, _, _, _, _, _, _, _, _, _, rfl⟩)).1) ?_))
    · exact ⟨rfl, HB.out _ _ (by rw [← HRS.out]; simp [compoundP, hp1]) hb1 (hg0.trans hk1)⟩
    · have hsz := hk1.size
      have hs1 := hk1.size
      have hz1 := hr1.2.1
      refine bodyPost_ret (results_cell_row Tryz.results167 _ _ W.heap.size 42 _ (0, 0) _ rfl (setRow_heap _ _ _ _ _ _ (gr_block hk1 hlt HK0.out)) Tryz.underlying42 rfl iszE) rfl ?_
      refine HO.out (x1) t1 d1 _ _ (by rw [← HRS.out]; simp [compoundP, hp1]) ⟨_, rfl, ⟨_, _, _, _, _, _, _, _, _, _, _, _, _, _, _, _, _, _, _, _, rfl⟩, ?_⟩ (by omega) ((put_row _ _ _).rd hr1 hlt) ((put_row _ _ _).gr (hg0.trans hk1) (Nat.le_refl _))
      exact Row.low (C := W.heap.size) (by omega) (Put.rowB (g := W.heap.size) (put_row _ _ _) (B := W.heap.size + 1) (Nat.lt_succ_self _) ((Row.low (C := W.heap.size + 1) (by have := hg0.size; omega) (Row.gr (gr_refl W1 w1) (by omega) hrow1))))
  · go_enter Tryz.func167, Tryz.ntmps167
    go_wp2_with (first
      | (go_at_call 199; (with_reducible refine (HEL8.out).mono ?_); rintro e1 w1 (⟨t1, hp1, rfl, hb1, hk1⟩ | ⟨x1, t1, d1, v1, hp1, rfl, ⟨vs1, rfl, ⟨ya0, ya1, ys2, yp3, yl3, yq3, yp4, yl4, yq4, yp5, yl5, yq5, ya6, yp7, yl7, yq7, yp8, yl8, yq8, ys9, rfl⟩, hrow1⟩, hl1, hr1, hk1⟩))
      | (refine wpList_store_row rfl 42 _ _ rfl W.heap.size _ rfl rfl 42 #[.int .u8 0, .int .i64 0, .string ⟨#[]⟩, .slice none 0 0, .slice none 0 0, .slice none 0 0, .int .u8 0, .slice none 0 0, .slice none 0 0, .string ⟨#[]⟩] (gr_block hk1 hlt HK0.out) iszE rfl (all_one (shE_one (by exact ⟨_, _, _, _, _, _, _, _, _, _, _, _, _, _, _, _, _, _, _, _, rfl⟩)).1) ?_))
    · exact ⟨rfl, HB.out _ _ (by rw [← HRS.out]; simp [compoundP, hp1]) hb1 (hg0.trans hk1)⟩
    · have hsz := hk1.size
      have hs1 := hk1.size
      have hz1 := hr1.2.1
      refine bodyPost_ret (results_cell_row Tryz.results167 _ _ W.heap.size 42 _ (0, 0) _ rfl (setRow_heap _ _ _ _ _ _ (gr_block hk1 hlt HK0.out)) Tryz.underlying42 rfl iszE) rfl ?_
      refine HO.out (x1) t1 d1 _ _ (by rw [← HRS.out]; simp [compoundP, hp1]) ⟨_, rfl, ⟨_, _, _, _, _, _, _, _, _, _, _, _, _, _, _, _, _, _, _, _, rfl⟩, ?_⟩ (by omega) ((put_row _ _ _).rd hr1 hlt) ((put_row _ _ _).gr (hg0.trans hk1) (Nat.le_refl _))
      exact Row.low (C := W.heap.size) (by omega) (Put.rowB (g := W.heap.size) (put_row _ _ _) (B := W.heap.size + 1) (Nat.lt_succ_self _) ((Row.low (C := W.heap.size + 1) (by have := hg0.size; omega) (Row.gr (gr_refl W1 w1) (by omega) hrow1))))
  · go_enter Tryz.func167, Tryz.ntmps167
    go_wp2_with (first
      | (go_at_call 162; (with_reducible refine (HLE.out _ _ _ (by omega) hr0).mono ?_); rintro e1 w1 (⟨t1, hp1, rfl, hb1, hk1⟩ | ⟨x1, t1, d1, v1, hp1, rfl, ⟨la1, ln1, lc1, rfl, hf1, rfl, hle1⟩, hl1, hr1, hk1⟩))
      | (refine wpList_store_row rfl 42 _ _ rfl W.heap.size _ rfl rfl 42 #[.int .u8 0, .int .i64 0, .string ⟨#[]⟩, .slice none 0 0, .slice none 0 0, .slice none 0 0, .int .u8 0, .slice none 0 0, .slice none 0 0, .string ⟨#[]⟩] (gr_block hk1 hlt HK0.out) iszE rfl (all_one (shE_one (by exact ⟨_, _, _, _, _, _, _, _, _, _, _, _, _, _, _, _, _, _, _, _, rfl⟩)).1) ?_))
    · exact ⟨rfl, HB.out _ _ (by rw [← HRS.out]; simp [compoundP, n0, n1, n2, n3, n4, n5, n6, n7, n8, n9, n10, n11, n12, n13, hp1]) hb1 (hg0.trans hk1)⟩
    · have hsz := hk1.size
      have hs1 := hk1.size
      have hz1 := hr1.2.1
      refine bodyPost_ret (results_cell_row Tryz.results167 _ _ W.heap.size 42 _ (0, 0) _ rfl (setRow_heap _ _ _ _ _ _ (gr_block hk1 hlt HK0.out)) Tryz.underlying42 rfl iszE) rfl ?_
      refine HO.out (eCols 5 0 s x1 [] [] 0 [] [] []) t1 d1 _ _ (by rw [← HRS.out]; simp [compoundP, n0, n1, n2, n3, n4, n5, n6, n7, n8, n9, n10, n11, n12, n13, hp1]) ⟨_, rfl, ⟨_, _, _, _, _, _, _, _, _, _, _, _, _, _, _, _, _, _, _, _, rfl⟩, ?_⟩ (by omega) ((put_row _ _ _).rd hr1 hlt) ((put_row _ _ _).gr (hg0.trans hk1) (Nat.le_refl _))
      exact Row.low (C := W.heap.size) (by omega) (Put.rowB (g := W.heap.size) (put_row _ _ _) (B := W.heap.size + 1) (Nat.lt_succ_self _) (row_one _ (row_one _ (row_one _ (row_rows (frows_rep hf1 (gr_refl W1 w1) (by omega) (by omega)) (row_rows (rep_nil 1) (row_rows (rep_nil 10) (row_one _ (row_rows (rep_nil 10) (row_rows (rep_nil 12) (row_one _ .nil)))))))))))
end Go.Proofs.YtedmmgfnplbkjaaGreatDoor
