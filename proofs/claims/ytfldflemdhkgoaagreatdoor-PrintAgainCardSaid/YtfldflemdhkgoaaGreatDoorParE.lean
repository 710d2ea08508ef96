/-
  Walks: plain, site, key.
  Conditions: the reader lies as 'RD' says; its words are at most 65536.
-/
import Derived.Test.YtfldflemdhkgoaaGreatDoorParT
namespace Go.Proofs.YtfldflemdhkgoaaGreatDoor
set_option linter.unusedVariables false
set_option linter.unusedSimpArgs false
open Go.RowKit G

theorem plain_cases (s : Str) : s = [121, 101, 115] ∨ s = [110, 111] ∨ s = [110, 111, 110, 101] ∨ s = [45] ∨ (¬ s = [121, 101, 115] ∧ (s == [121, 101, 115]) = false ∧ ¬ s = [110, 111] ∧ (s == [110, 111]) = false ∧ ¬ s = [110, 111, 110, 101] ∧ (s == [110, 111, 110, 101]) = false ∧ ¬ s = [45] ∧ (s == [45]) = false) := by
  by_cases h0 : s = [121, 101, 115]
  · exact .inl h0
  by_cases h1 : s = [110, 111]
  · exact .inr (.inl h1)
  by_cases h2 : s = [110, 111, 110, 101]
  · exact .inr (.inr (.inl h2))
  by_cases h3 : s = [45]
  · exact .inr (.inr (.inr (.inl h3)))
  exact .inr (.inr (.inr (.inr (⟨h0, by simpa using h0, h1, by simpa using h1, h2, by simpa using h2, h3, by simpa using h3⟩))))
set_option maxRecDepth 100000 in
set_option maxHeartbeats 16000000 in
theorem plain_any {W1 : World} {wv : Value} {ws : List LX.LW} {c : Str} {t d : Nat} {W : World} (h : RD' W1 wv ws c t d W) (hn : ws.length ≤ 65536) (s : Str) :
    Calls Tryz.prog 126 #[.string ⟨s.toArray⟩] W (PostR W1 wv ws c (t) W (FT ShE W.heap.size) (plainP s t d)) := by
  obtain ⟨W0, hW0⟩ : ∃ W0, W.alloc (.cells #[.int .u8 0, .int .i64 0, .string ⟨#[]⟩, .slice none 0 0, .slice none 0 0, .slice none 0 0, .int .u8 0, .slice none 0 0, .slice none 0 0, .string ⟨#[]⟩] 43) = W0 := ⟨_, rfl⟩
  have hlt := h.1.lt
  have hr0 : RD' W1 wv ws c t d W0 := by rw [← hW0]; exact h.alloc _
  have hg0 : Gr W1 W W0 := by rw [← hW0]; exact (gr_refl W1 W).alloc _
  have hz0 : W0.heap.size = W.heap.size + 1 := by rw [← hW0]; simp
  have hb0 : W0.heap[W.heap.size]? = some (.cells #[.int .u8 0, .int .i64 0, .string ⟨#[]⟩, .slice none 0 0, .slice none 0 0, .slice none 0 0, .int .u8 0, .slice none 0 0, .slice none 0 0, .string ⟨#[]⟩] 43 (0, 0)) := by rw [← hW0]; exact heap_alloc_new _ _
  have HK0 := Lib.hid hb0
  have htn := h.2.1
  have hdn := h.2.2
  obtain ⟨rs, hrs⟩ : ∃ r, (plainP s t d) = r := ⟨_, rfl⟩
  rw [hrs]
  obtain ⟨post, hpost⟩ : ∃ p, PostR W1 wv ws c (t) W (FT ShE W.heap.size) rs = p := ⟨_, rfl⟩
  have HB : Hid (∀ t' w', rs = .bad t' → (∃ d, RD W1 wv ws c t' d w') → Gr W1 W w' → post (.panicked [pz]) w') := fun t' w' h1 h2 h3 => by rw [← hpost]; exact .inl ⟨t', h1, rfl, h2, h3⟩
  have HO : Hid (∀ x t' d' v w', rs = .ok x t' d' → (FT ShE W.heap.size) x v w' → t ≤ t' → RD' W1 wv ws c t' d' w' → Gr W1 W w' → post (.returned v) w') := fun x t' d' v w' h1 h2 h3 h4 h5 => by rw [← hpost]; exact .inr ⟨x, t', d', v, h1, rfl, h2, h3, h4, h5⟩
  rw [hpost]
  have HRS := Lib.hid hrs
  clear hrs hpost
  clear h hb0
  rcases plain_cases s with rfl | rfl | rfl | rfl | ⟨n0, q0, n1, q1, n2, q2, n3, q3⟩
  · go_enter Tryz.func126, Tryz.ntmps126
    go_wp2_with (first
      | (refine wpList_store_row rfl 43 _ _ rfl W.heap.size _ rfl rfl 43 #[.int .u8 0, .int .i64 0, .string ⟨#[]⟩, .slice none 0 0, .slice none 0 0, .slice none 0 0, .int .u8 0, .slice none 0 0, .slice none 0 0, .string ⟨#[]⟩] HK0.out iszE rfl (all_one (shE_one (by exact ⟨_, _, _, _, _, _, _, _, _, _, _, _, _, _, _, _, _, _, _, _, rfl⟩)).1) ?_))
    · have hsz := Nat.le_refl W0.heap.size
      refine bodyPost_ret (results_cell_row Tryz.results126 _ _ W.heap.size 43 _ (0, 0) _ rfl (setRow_heap _ _ _ _ _ _ HK0.out) Tryz.underlying43 rfl iszE) rfl ?_
      refine HO.out (eCols 2 1 [] [] [] [] 0 [] [] []) t d _ _ (by rw [← HRS.out]; simp [plainP]) ⟨_, rfl, ⟨_, _, _, _, _, _, _, _, _, _, _, _, _, _, _, _, _, _, _, _, rfl⟩, ?_⟩ (by omega) ((put_row _ _ _).rd hr0 hlt) ((put_row _ _ _).gr hg0 (Nat.le_refl _))
      exact Row.low (C := W.heap.size) (by omega) (Put.rowB (g := W.heap.size) (put_row _ _ _) (B := W.heap.size + 1) (Nat.lt_succ_self _) (row_one _ (row_one _ (row_one _ (row_rows (rep_nil 10) (row_rows (rep_nil 1) (row_rows (rep_nil 10) (row_one _ (row_rows (rep_nil 10) (row_rows (rep_nil 12) (row_one _ .nil)))))))))))
  · go_enter Tryz.func126, Tryz.ntmps126
    go_wp2_with (first
      | (refine wpList_store_row rfl 43 _ _ rfl W.heap.size _ rfl rfl 43 #[.int .u8 0, .int .i64 0, .string ⟨#[]⟩, .slice none 0 0, .slice none 0 0, .slice none 0 0, .int .u8 0, .slice none 0 0, .slice none 0 0, .string ⟨#[]⟩] HK0.out iszE rfl (all_one (shE_one (by exact ⟨_, _, _, _, _, _, _, _, _, _, _, _, _, _, _, _, _, _, _, _, rfl⟩)).1) ?_))
    · have hsz := Nat.le_refl W0.heap.size
      refine bodyPost_ret (results_cell_row Tryz.results126 _ _ W.heap.size 43 _ (0, 0) _ rfl (setRow_heap _ _ _ _ _ _ HK0.out) Tryz.underlying43 rfl iszE) rfl ?_
      refine HO.out (eCols 2 0 [] [] [] [] 0 [] [] []) t d _ _ (by rw [← HRS.out]; simp [plainP]) ⟨_, rfl, ⟨_, _, _, _, _, _, _, _, _, _, _, _, _, _, _, _, _, _, _, _, rfl⟩, ?_⟩ (by omega) ((put_row _ _ _).rd hr0 hlt) ((put_row _ _ _).gr hg0 (Nat.le_refl _))
      exact Row.low (C := W.heap.size) (by omega) (Put.rowB (g := W.heap.size) (put_row _ _ _) (B := W.heap.size + 1) (Nat.lt_succ_self _) (row_one _ (row_one _ (row_one _ (row_rows (rep_nil 10) (row_rows (rep_nil 1) (row_rows (rep_nil 10) (row_one _ (row_rows (rep_nil 10) (row_rows (rep_nil 12) (row_one _ .nil)))))))))))
  · go_enter Tryz.func126, Tryz.ntmps126
    go_wp2_with (first
      | (refine wpList_store_row rfl 43 _ _ rfl W.heap.size _ rfl rfl 43 #[.int .u8 0, .int .i64 0, .string ⟨#[]⟩, .slice none 0 0, .slice none 0 0, .slice none 0 0, .int .u8 0, .slice none 0 0, .slice none 0 0, .string ⟨#[]⟩] HK0.out iszE rfl (all_one (shE_one (by exact ⟨_, _, _, _, _, _, _, _, _, _, _, _, _, _, _, _, _, _, _, _, rfl⟩)).1) ?_))
    · have hsz := Nat.le_refl W0.heap.size
      refine bodyPost_ret (results_cell_row Tryz.results126 _ _ W.heap.size 43 _ (0, 0) _ rfl (setRow_heap _ _ _ _ _ _ HK0.out) Tryz.underlying43 rfl iszE) rfl ?_
      refine HO.out (eNone) t d _ _ (by rw [← HRS.out]; simp [plainP]) ⟨_, rfl, ⟨_, _, _, _, _, _, _, _, _, _, _, _, _, _, _, _, _, _, _, _, rfl⟩, ?_⟩ (by omega) ((put_row _ _ _).rd hr0 hlt) ((put_row _ _ _).gr hg0 (Nat.le_refl _))
      exact Row.low (C := W.heap.size) (by omega) (Put.rowB (g := W.heap.size) (put_row _ _ _) (B := W.heap.size + 1) (Nat.lt_succ_self _) (row_one _ (row_one _ (row_one _ (row_rows (rep_nil 10) (row_rows (rep_nil 1) (row_rows (rep_nil 10) (row_one _ (row_rows (rep_nil 10) (row_rows (rep_nil 12) (row_one _ .nil)))))))))))
  · go_enter Tryz.func126, Tryz.ntmps126
    go_wp2
    exact ⟨rfl, HB.out _ _ (by rw [← HRS.out]; simp [plainP]) ⟨_, hr0.1⟩ hg0⟩
  · go_enter Tryz.func126, Tryz.ntmps126
    go_wp2_with (refine wpList_store_row rfl 43 _ _ rfl W.heap.size _ rfl rfl 43 #[.int .u8 0, .int .i64 0, .string ⟨#[]⟩, .slice none 0 0, .slice none 0 0, .slice none 0 0, .int .u8 0, .slice none 0 0, .slice none 0 0, .string ⟨#[]⟩] HK0.out iszE rfl (all_one (shE_one (by exact ⟨_, _, _, _, _, _, _, _, _, _, _, _, _, _, _, _, _, _, _, _, rfl⟩)).1) ?_)
    refine bodyPost_ret (results_cell_row Tryz.results126 _ _ W.heap.size 43 _ (0, 0) _ rfl (setRow_heap _ _ _ _ _ _ HK0.out) Tryz.underlying43 rfl iszE) rfl ?_
    refine HO.out (eCols 4 0 s [] [] [] 0 [] [] []) t d _ _ (by rw [← HRS.out]; simp [plainP, n0, n1, n2, n3]) ⟨_, rfl, ⟨_, _, _, _, _, _, _, _, _, _, _, _, _, _, _, _, _, _, _, _, rfl⟩, ?_⟩ (by omega) ((put_row _ _ _).rd hr0 hlt) ((put_row _ _ _).gr hg0 (Nat.le_refl _))
    exact Row.low (C := W.heap.size) (by omega) (Put.rowB (g := W.heap.size) (put_row _ _ _) (B := W.heap.size + 1) (Nat.lt_succ_self _) (row_one _ (row_one _ (row_one _ (row_rows (rep_nil 10) (row_rows (rep_nil 1) (row_rows (rep_nil 10) (row_one _ (row_rows (rep_nil 10) (row_rows (rep_nil 12) (row_one _ .nil)))))))))))

end Go.Proofs.YtfldflemdhkgoaaGreatDoor
