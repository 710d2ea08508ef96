/-
  Walks: pair, act.
  Conditions: the reader lies as 'RD' says; its words are at most 65536.
-/
import Derived.Test.YtedmmgfnplbkjaaGreatDoorParL
namespace Go.Proofs.YtedmmgfnplbkjaaGreatDoor
set_option linter.unusedVariables false
set_option linter.unusedSimpArgs false
open Go.RowKit G
theorem Put.rowB {B g : Nat} {w w' : World} (k : Put g w w') (hg : g < B) {ts : List T} {vs : List Value} (h : Row w (B ≤ ·) ts vs) : Row w' (B ≤ ·) ts vs := k.row hg h
theorem row_none {w : World} {ok : Nat → Prop} : Row w ok eNone [.int .u8 0, .int .i64 0, .string ⟨#[]⟩, .slice none 0 0, .slice none 0 0, .slice none 0 0, .int .u8 0, .slice none 0 0, .slice none 0 0, .string ⟨#[]⟩] :=
  row_one _ (row_one _ (row_one _ (row_rows (rep_nil 10) (row_rows (rep_nil 1) (row_rows (rep_nil 10) (row_one _ (row_rows (rep_nil 10) (row_rows (rep_nil 12) (row_one _ .nil)))))))))
set_option maxRecDepth 100000 in
set_option maxHeartbeats 4000000 in
theorem pair_any {W1 : World} {wv : Value} {ws : List LX.LW} {c : Str} {t d : Nat} {W : World} (h : RD' W1 wv ws c t d W) (hn : ws.length ≤ 65536) {ex : Nat → Nat → Rs (List T)} (he : ∀ t' d' W', t ≤ t' → RD' W1 wv ws c t' d' W' → Calls Tryz.prog 64 #[rp W1] W' (PostR W1 wv ws c (t' + 1) W' (FT ShE W'.heap.size) (ex t' d'))) :
    Calls Tryz.prog 197 #[rp W1] W (PostR W1 wv ws c (t + 1) W (FT ShP W.heap.size) (pairP (ws.map nol) ex t d)) := by
  obtain ⟨W0, hW0⟩ : ∃ W0, W.alloc (.cells #[.string ⟨#[]⟩, .int .u8 0, .int .i64 0, .string ⟨#[]⟩, .slice none 0 0, .slice none 0 0, .slice none 0 0, .int .u8 0, .slice none 0 0, .slice none 0 0, .string ⟨#[]⟩] 231) = W0 := ⟨_, rfl⟩
  have hlt := h.1.lt
  have hr0 : RD' W1 wv ws c t d W0 := by rw [← hW0]; exact h.alloc _
  have hg0 : Gr W1 W W0 := by rw [← hW0]; exact (gr_refl W1 W).alloc _
  have hz0 : W0.heap.size = W.heap.size + 1 := by rw [← hW0]; simp
  have hb0 : W0.heap[W.heap.size]? = some (.cells #[.string ⟨#[]⟩, .int .u8 0, .int .i64 0, .string ⟨#[]⟩, .slice none 0 0, .slice none 0 0, .slice none 0 0, .int .u8 0, .slice none 0 0, .slice none 0 0, .string ⟨#[]⟩] 231 (0, 0)) := by rw [← hW0]; exact heap_alloc_new _ _
  have HK0 := Lib.hid hb0
  have htn := h.2.1
  have hdn := h.2.2
  have HOP := Lib.hid (fun t d W (h : RD' W1 wv ws c t d W) => open_any h hn)
  have HN := Lib.hid (fun t d W (h : RD' W1 wv ws c t d W) => name_any h hn)
  have HE := Lib.hid he
  have HC := Lib.hid (fun t d W (h : RD' W1 wv ws c t d W) => closedP_any h hn)
  obtain ⟨rs, hrs⟩ : ∃ r, (pairP (ws.map nol) ex t d) = r := ⟨_, rfl⟩
  rw [hrs]
  obtain ⟨post, hpost⟩ : ∃ p, PostR W1 wv ws c (t + 1) W (FT ShP W.heap.size) rs = p := ⟨_, rfl⟩
  have HB : Hid (∀ t' w', rs = .bad t' → (∃ d, RD W1 wv ws c t' d w') → Gr W1 W w' → post (.panicked [pz]) w') := fun t' w' h1 h2 h3 => by rw [← hpost]; exact .inl ⟨t', h1, rfl, h2, h3⟩
  have HO : Hid (∀ x t' d' v w', rs = .ok x t' d' → (FT ShP W.heap.size) x v w' → t + 1 ≤ t' → RD' W1 wv ws c t' d' w' → Gr W1 W w' → post (.returned v) w') := fun x t' d' v w' h1 h2 h3 h4 h5 => by rw [← hpost]; exact .inr ⟨x, t', d', v, h1, rfl, h2, h3, h4, h5⟩
  rw [hpost]
  rw [show pairP (ws.map nol) ex t d = (openP (ws.map nol) t d).bind fun _ t d => (nameP (ws.map nol) t d).bind fun s t d => (ex t d).bind fun e t d => (shutP (ws.map nol) t d).bind fun _ t d => .ok (.sc (str s) :: e) t d from rfl] at hrs
  have HRS := Lib.hid hrs
  clear hrs hpost
  clear h hb0
  go_enter Tryz.func197, Tryz.ntmps197
  go_wp2_with (first
    | (go_at_call 61; (with_reducible refine (HOP.out _ _ _ hr0).mono ?_); rintro e1 w1 (⟨t1, hp1, rfl, hb1, hk1⟩ | ⟨x1, t1, d1, v1, hp1, rfl, rfl, hl1, hr1, hk1⟩))
    | (go_at_call 62; (with_reducible refine (HN.out _ _ _ hr1).mono ?_); rintro e2 w2 (⟨t2, hp2, rfl, hb2, hk2⟩ | ⟨x2, t2, d2, v2, hp2, rfl, rfl, hl2, hr2, hk2⟩))
    | (go_at_call 64; (with_reducible refine (HE.out _ _ _ (by omega) hr2).mono ?_); rintro e3 w3 (⟨t3, hp3, rfl, hb3, hk3⟩ | ⟨x3, t3, d3, v3, hp3, rfl, ⟨vs3, rfl, ⟨ya0, ya1, ys2, yp3, yl3, yq3, yp4, yl4, yq4, yp5, yl5, yq5, ya6, yp7, yl7, yq7, yp8, yl8, yq8, ys9, rfl⟩, hrow3⟩, hl3, hr3, hk3⟩))
    | (go_at_call 223; (refine (HC.out _ _ _ hr3 _ (by exact ⟨_, _, _, _, _, _, _, _, _, _, _, _, _, _, _, _, _, _, _, _, _, rfl⟩)).mono ?_); rintro e4 w4 (⟨t4, hp4, rfl, hb4, hk4⟩ | ⟨x4, t4, d4, v4, hp4, rfl, rfl, hl4, hr4, hk4⟩))
    | (refine wpList_store_row rfl 231 _ _ rfl W.heap.size _ rfl rfl 231 #[.string ⟨#[]⟩, .int .u8 0, .int .i64 0, .string ⟨#[]⟩, .slice none 0 0, .slice none 0 0, .slice none 0 0, .int .u8 0, .slice none 0 0, .slice none 0 0, .string ⟨#[]⟩] (gr_block (((hk1.trans hk2).trans hk3).trans hk4) hlt HK0.out) iszP rfl (all_one (shP_one (by exact ⟨_, _, _, _, _, _, _, _, _, _, _, _, _, _, _, _, _, _, _, _, _, rfl⟩)).1) ?_))
  · exact ⟨rfl, HB.out _ _ (by rw [← HRS.out]; simp only [hp1, Rs.bind_ok, Rs.bind_bad]) hb1 (hg0.trans hk1)⟩
  · exact ⟨rfl, HB.out _ _ (by rw [← HRS.out]; simp only [hp1, hp2, Rs.bind_ok, Rs.bind_bad]) hb2 ((hg0.trans hk1).trans hk2)⟩
  · exact ⟨rfl, HB.out _ _ (by rw [← HRS.out]; simp only [hp1, hp2, hp3, Rs.bind_ok, Rs.bind_bad]) hb3 (((hg0.trans hk1).trans hk2).trans hk3)⟩
  · exact ⟨rfl, HB.out _ _ (by rw [← HRS.out]; simp only [hp1, hp2, hp3, hp4, Rs.bind_ok, Rs.bind_bad]) hb4 ((((hg0.trans hk1).trans hk2).trans hk3).trans hk4)⟩
  · have hsz := (((hk1.trans hk2).trans hk3).trans hk4).size
    have hs1 := hk1.size
    have hz1 := hr1.2.1
    have hs2 := (hk1.trans hk2).size
    have hz2 := hr2.2.1
    have hs3 := ((hk1.trans hk2).trans hk3).size
    have hz3 := hr3.2.1
    have hs4 := (((hk1.trans hk2).trans hk3).trans hk4).size
    have hz4 := hr4.2.1
    refine bodyPost_ret (results_cell_row Tryz.results197 _ _ W.heap.size 231 _ (0, 0) _ rfl (setRow_heap _ _ _ _ _ _ (gr_block (((hk1.trans hk2).trans hk3).trans hk4) hlt HK0.out)) Tryz.underlying231 rfl iszP) rfl ?_
    refine HO.out (.sc (str x2) :: x3) t4 d4 _ _ (by rw [← HRS.out]; simp only [hp1, hp2, hp3, hp4, Rs.bind_ok]) ⟨_, rfl, ⟨_, _, _, _, _, _, _, _, _, _, _, _, _, _, _, _, _, _, _, _, _, rfl⟩, ?_⟩ (by omega) ((put_row _ _ _).rd hr4 hlt) ((put_row _ _ _).gr ((((hg0.trans hk1).trans hk2).trans hk3).trans hk4) (Nat.le_refl _))
    exact Row.low (C := W.heap.size) (by omega) (Put.rowB (g := W.heap.size) (put_row _ _ _) (B := W.heap.size + 1) (Nat.lt_succ_self _) (row_one _ (Row.low (C := W.heap.size + 1) (by have := hg0.size; omega) (Row.gr hk4 (by omega) hrow3))))
theorem act_cases (s : Str) : s = [115, 101, 116] ∨ s = [108, 111, 103] ∨ s = [102, 97, 105, 108] ∨ s = [115, 116, 111, 112] ∨ (¬ s = [115, 101, 116] ∧ (s == [115, 101, 116]) = false ∧ ¬ s = [108, 111, 103] ∧ (s == [108, 111, 103]) = false ∧ ¬ s = [102, 97, 105, 108] ∧ (s == [102, 97, 105, 108]) = false ∧ ¬ s = [115, 116, 111, 112] ∧ (s == [115, 116, 111, 112]) = false) := by
  by_cases h0 : s = [115, 101, 116]
  · exact .inl h0
  by_cases h1 : s = [108, 111, 103]
  · exact .inr (.inl h1)
  by_cases h2 : s = [102, 97, 105, 108]
  · exact .inr (.inr (.inl h2))
  by_cases h3 : s = [115, 116, 111, 112]
  · exact .inr (.inr (.inr (.inl h3)))
  exact .inr (.inr (.inr (.inr (⟨h0, by simpa using h0, h1, by simpa using h1, h2, by simpa using h2, h3, by simpa using h3⟩))))
set_option maxRecDepth 100000 in
set_option maxHeartbeats 8000000 in
theorem act_any {W1 : World} {wv : Value} {ws : List LX.LW} {c : Str} {t d : Nat} {W : World} (h : RD' W1 wv ws c t d W) (hn : ws.length ≤ 65536) {ex : Nat → Nat → Rs (List T)} (he : ∀ t' d' W', t ≤ t' → RD' W1 wv ws c t' d' W' → Calls Tryz.prog 64 #[rp W1] W' (PostR W1 wv ws c (t' + 1) W' (FT ShE W'.heap.size) (ex t' d'))) :
    Calls Tryz.prog 112 #[rp W1] W (PostR W1 wv ws c (t + 1) W (FT ShA W.heap.size) (actP (ws.map nol) ex t d)) := by
  obtain ⟨W0, hW0⟩ : ∃ W0, W.alloc (.cells #[.int .u8 0, .string ⟨#[]⟩, .int .u8 0, .int .i64 0, .string ⟨#[]⟩, .slice none 0 0, .slice none 0 0, .slice none 0 0, .int .u8 0, .slice none 0 0, .slice none 0 0, .string ⟨#[]⟩] 112) = W0 := ⟨_, rfl⟩
  have hlt := h.1.lt
  have hr0 : RD' W1 wv ws c t d W0 := by rw [← hW0]; exact h.alloc _
  have hg0 : Gr W1 W W0 := by rw [← hW0]; exact (gr_refl W1 W).alloc _
  have hz0 : W0.heap.size = W.heap.size + 1 := by rw [← hW0]; simp
  have hb0 : W0.heap[W.heap.size]? = some (.cells #[.int .u8 0, .string ⟨#[]⟩, .int .u8 0, .int .i64 0, .string ⟨#[]⟩, .slice none 0 0, .slice none 0 0, .slice none 0 0, .int .u8 0, .slice none 0 0, .slice none 0 0, .string ⟨#[]⟩] 112 (0, 0)) := by rw [← hW0]; exact heap_alloc_new _ _
  have HK0 := Lib.hid hb0
  have htn := h.2.1
  have hdn := h.2.2
  have HOP := Lib.hid (fun t d W (h : RD' W1 wv ws c t d W) => open_any h hn)
  have HN := Lib.hid (fun t d W (h : RD' W1 wv ws c t d W) => name_any h hn)
  have HE := Lib.hid he
  have HC := Lib.hid (fun t d W (h : RD' W1 wv ws c t d W) => closedA_any h hn)
  obtain ⟨rs, hrs⟩ : ∃ r, (actP (ws.map nol) ex t d) = r := ⟨_, rfl⟩
  rw [hrs]
  obtain ⟨post, hpost⟩ : ∃ p, PostR W1 wv ws c (t + 1) W (FT ShA W.heap.size) rs = p := ⟨_, rfl⟩
  have HB : Hid (∀ t' w', rs = .bad t' → (∃ d, RD W1 wv ws c t' d w') → Gr W1 W w' → post (.panicked [pz]) w') := fun t' w' h1 h2 h3 => by rw [← hpost]; exact .inl ⟨t', h1, rfl, h2, h3⟩
  have HO : Hid (∀ x t' d' v w', rs = .ok x t' d' → (FT ShA W.heap.size) x v w' → t + 1 ≤ t' → RD' W1 wv ws c t' d' w' → Gr W1 W w' → post (.returned v) w') := fun x t' d' v w' h1 h2 h3 h4 h5 => by rw [← hpost]; exact .inr ⟨x, t', d', v, h1, rfl, h2, h3, h4, h5⟩
  rw [hpost]
  rw [show actP (ws.map nol) ex t d = (openP (ws.map nol) t d).bind fun _ t d => (nameP (ws.map nol) t d).bind fun s t d =>
    if s = [115, 101, 116] then (nameP (ws.map nol) t d).bind fun n t d => (ex t d).bind fun e t d => (shutP (ws.map nol) t d).bind fun _ t d => .ok (aCols 1 n e) t d
    else if s = [108, 111, 103] then (ex t d).bind fun e t d => (shutP (ws.map nol) t d).bind fun _ t d => .ok (aCols 2 [] e) t d
    else if s = [102, 97, 105, 108] then (ex t d).bind fun e t d => (shutP (ws.map nol) t d).bind fun _ t d => .ok (aCols 3 [] e) t d
    else if s = [115, 116, 111, 112] then (shutP (ws.map nol) t d).bind fun _ t d => .ok (aCols 4 [] eNone) t d
    else .bad t from rfl] at hrs
  have HRS := Lib.hid hrs
  clear hrs hpost
  clear h hb0
  go_enter Tryz.func112, Tryz.ntmps112
  go_wp2_with (first
    | (go_at_call 61; (with_reducible refine (HOP.out _ _ _ hr0).mono ?_); rintro e1 w1 (⟨t1, hp1, rfl, hb1, hk1⟩ | ⟨x1, t1, d1, v1, hp1, rfl, rfl, hl1, hr1, hk1⟩))
    | (go_at_call 62; (with_reducible refine (HN.out _ _ _ hr1).mono ?_); rintro e2 w2 (⟨t2, hp2, rfl, hb2, hk2⟩ | ⟨x2, t2, d2, v2, hp2, rfl, rfl, hl2, hr2, hk2⟩); all_goals (try (rcases act_cases x2 with rfl | rfl | rfl | rfl | ⟨n0, q0, n1, q1, n2, q2, n3, q3⟩)))
    | (go_at_call 62; (with_reducible refine (HN.out _ _ _ hr2).mono ?_); rintro e3 w3 (⟨t3, hp3, rfl, hb3, hk3⟩ | ⟨x3, t3, d3, v3, hp3, rfl, rfl, hl3, hr3, hk3⟩))
    | (go_at_call 64; (with_reducible refine (HE.out _ _ _ (by omega) hr3).mono ?_); rintro e4 w4 (⟨t4, hp4, rfl, hb4, hk4⟩ | ⟨x4, t4, d4, v4, hp4, rfl, ⟨vs4, rfl, ⟨ya0, ya1, ys2, yp3, yl3, yq3, yp4, yl4, yq4, yp5, yl5, yq5, ya6, yp7, yl7, yq7, yp8, yl8, yq8, ys9, rfl⟩, hrow4⟩, hl4, hr4, hk4⟩))
    | (go_at_call 164; (refine (HC.out _ _ _ hr4 _ (by exact ⟨_, _, _, _, _, _, _, _, _, _, _, _, _, _, _, _, _, _, _, _, _, _, rfl⟩)).mono ?_); rintro e5 w5 (⟨t5, hp5, rfl, hb5, hk5⟩ | ⟨x5, t5, d5, v5, hp5, rfl, rfl, hl5, hr5, hk5⟩))
    | (go_at_call 64; (with_reducible refine (HE.out _ _ _ (by omega) hr2).mono ?_); rintro e3 w3 (⟨t3, hp3, rfl, hb3, hk3⟩ | ⟨x3, t3, d3, v3, hp3, rfl, ⟨vs3, rfl, ⟨ya0, ya1, ys2, yp3, yl3, yq3, yp4, yl4, yq4, yp5, yl5, yq5, ya6, yp7, yl7, yq7, yp8, yl8, yq8, ys9, rfl⟩, hrow3⟩, hl3, hr3, hk3⟩))
    | (go_at_call 164; (refine (HC.out _ _ _ hr3 _ (by exact ⟨_, _, _, _, _, _, _, _, _, _, _, _, _, _, _, _, _, _, _, _, _, _, rfl⟩)).mono ?_); rintro e4 w4 (⟨t4, hp4, rfl, hb4, hk4⟩ | ⟨x4, t4, d4, v4, hp4, rfl, rfl, hl4, hr4, hk4⟩))
    | (go_at_call 164; (refine (HC.out _ _ _ hr2 _ (by exact ⟨_, _, _, _, _, _, _, _, _, _, _, _, _, _, _, _, _, _, _, _, _, _, rfl⟩)).mono ?_); rintro e3 w3 (⟨t3, hp3, rfl, hb3, hk3⟩ | ⟨x3, t3, d3, v3, hp3, rfl, rfl, hl3, hr3, hk3⟩))
    | (refine wpList_store_row rfl 112 _ _ rfl W.heap.size _ rfl rfl 112 #[.int .u8 0, .string ⟨#[]⟩, .int .u8 0, .int .i64 0, .string ⟨#[]⟩, .slice none 0 0, .slice none 0 0, .slice none 0 0, .int .u8 0, .slice none 0 0, .slice none 0 0, .string ⟨#[]⟩] (gr_block ((((hk1.trans hk2).trans hk3).trans hk4).trans hk5) hlt HK0.out) iszA rfl (all_one (shA_one (by exact ⟨_, _, _, _, _, _, _, _, _, _, _, _, _, _, _, _, _, _, _, _, _, _, rfl⟩)).1) ?_)
    | (refine wpList_store_row rfl 112 _ _ rfl W.heap.size _ rfl rfl 112 #[.int .u8 0, .string ⟨#[]⟩, .int .u8 0, .int .i64 0, .string ⟨#[]⟩, .slice none 0 0, .slice none 0 0, .slice none 0 0, .int .u8 0, .slice none 0 0, .slice none 0 0, .string ⟨#[]⟩] (gr_block (((hk1.trans hk2).trans hk3).trans hk4) hlt HK0.out) iszA rfl (all_one (shA_one (by exact ⟨_, _, _, _, _, _, _, _, _, _, _, _, _, _, _, _, _, _, _, _, _, _, rfl⟩)).1) ?_)
    | (refine wpList_store_row rfl 112 _ _ rfl W.heap.size _ rfl rfl 112 #[.int .u8 0, .string ⟨#[]⟩, .int .u8 0, .int .i64 0, .string ⟨#[]⟩, .slice none 0 0, .slice none 0 0, .slice none 0 0, .int .u8 0, .slice none 0 0, .slice none 0 0, .string ⟨#[]⟩] (gr_block ((hk1.trans hk2).trans hk3) hlt HK0.out) iszA rfl (all_one (shA_one (by exact ⟨_, _, _, _, _, _, _, _, _, _, _, _, _, _, _, _, _, _, _, _, _, _, rfl⟩)).1) ?_))
  · exact ⟨rfl, HB.out _ _ (by rw [← HRS.out]; simp [hp1]) hb1 (hg0.trans hk1)⟩
  · exact ⟨rfl, HB.out _ _ (by rw [← HRS.out]; simp [hp1, hp2]) hb2 ((hg0.trans hk1).trans hk2)⟩
  · exact ⟨rfl, HB.out _ _ (by rw [← HRS.out]; simp [hp1, hp2, hp3]) hb3 (((hg0.trans hk1).trans hk2).trans hk3)⟩
  · exact ⟨rfl, HB.out _ _ (by rw [← HRS.out]; simp [hp1, hp2, hp3, hp4]) hb4 ((((hg0.trans hk1).trans hk2).trans hk3).trans hk4)⟩
  · exact ⟨rfl, HB.out _ _ (by rw [← HRS.out]; simp [hp1, hp2, hp3, hp4, hp5]) hb5 (((((hg0.trans hk1).trans hk2).trans hk3).trans hk4).trans hk5)⟩
  · have hsz := ((((hk1.trans hk2).trans hk3).trans hk4).trans hk5).size
    have hs1 := hk1.size
    have hz1 := hr1.2.1
    have hs2 := (hk1.trans hk2).size
    have hz2 := hr2.2.1
    have hs3 := ((hk1.trans hk2).trans hk3).size
    have hz3 := hr3.2.1
    have hs4 := (((hk1.trans hk2).trans hk3).trans hk4).size
    have hz4 := hr4.2.1
    have hs5 := ((((hk1.trans hk2).trans hk3).trans hk4).trans hk5).size
    have hz5 := hr5.2.1
    refine bodyPost_ret (results_cell_row Tryz.results112 _ _ W.heap.size 112 _ (0, 0) _ rfl (setRow_heap _ _ _ _ _ _ (gr_block ((((hk1.trans hk2).trans hk3).trans hk4).trans hk5) hlt HK0.out)) Tryz.underlying112 rfl iszA) rfl ?_
    refine HO.out (aCols 1 x3 x4) t5 d5 _ _ (by rw [← HRS.out]; simp [hp1, hp2, hp3, hp4, hp5]) ⟨_, rfl, ⟨_, _, _, _, _, _, _, _, _, _, _, _, _, _, _, _, _, _, _, _, _, _, rfl⟩, ?_⟩ (by omega) ((put_row _ _ _).rd hr5 hlt) ((put_row _ _ _).gr (((((hg0.trans hk1).trans hk2).trans hk3).trans hk4).trans hk5) (Nat.le_refl _))
    exact Row.low (C := W.heap.size) (by omega) (Put.rowB (g := W.heap.size) (put_row _ _ _) (B := W.heap.size + 1) (Nat.lt_succ_self _) (row_one _ (row_one _ (Row.low (C := W.heap.size + 1) (by have := hg0.size; omega) (Row.gr hk5 (by omega) hrow4)))))
  · exact ⟨rfl, HB.out _ _ (by rw [← HRS.out]; simp [hp1, hp2, hp3]) hb3 (((hg0.trans hk1).trans hk2).trans hk3)⟩
  · exact ⟨rfl, HB.out _ _ (by rw [← HRS.out]; simp [hp1, hp2, hp3, hp4]) hb4 ((((hg0.trans hk1).trans hk2).trans hk3).trans hk4)⟩
  · have hsz := (((hk1.trans hk2).trans hk3).trans hk4).size
    have hs1 := hk1.size
    have hz1 := hr1.2.1
    have hs2 := (hk1.trans hk2).size
    have hz2 := hr2.2.1
    have hs3 := ((hk1.trans hk2).trans hk3).size
    have hz3 := hr3.2.1
    have hs4 := (((hk1.trans hk2).trans hk3).trans hk4).size
    have hz4 := hr4.2.1
    refine bodyPost_ret (results_cell_row Tryz.results112 _ _ W.heap.size 112 _ (0, 0) _ rfl (setRow_heap _ _ _ _ _ _ (gr_block (((hk1.trans hk2).trans hk3).trans hk4) hlt HK0.out)) Tryz.underlying112 rfl iszA) rfl ?_
    refine HO.out (aCols 2 [] x3) t4 d4 _ _ (by rw [← HRS.out]; simp [hp1, hp2, hp3, hp4]) ⟨_, rfl, ⟨_, _, _, _, _, _, _, _, _, _, _, _, _, _, _, _, _, _, _, _, _, _, rfl⟩, ?_⟩ (by omega) ((put_row _ _ _).rd hr4 hlt) ((put_row _ _ _).gr ((((hg0.trans hk1).trans hk2).trans hk3).trans hk4) (Nat.le_refl _))
    exact Row.low (C := W.heap.size) (by omega) (Put.rowB (g := W.heap.size) (put_row _ _ _) (B := W.heap.size + 1) (Nat.lt_succ_self _) (row_one _ (row_one _ (Row.low (C := W.heap.size + 1) (by have := hg0.size; omega) (Row.gr hk4 (by omega) hrow3)))))
  · exact ⟨rfl, HB.out _ _ (by rw [← HRS.out]; simp [hp1, hp2, hp3]) hb3 (((hg0.trans hk1).trans hk2).trans hk3)⟩
  · exact ⟨rfl, HB.out _ _ (by rw [← HRS.out]; simp [hp1, hp2, hp3, hp4]) hb4 ((((hg0.trans hk1).trans hk2).trans hk3).trans hk4)⟩
  · have hsz := (((hk1.trans hk2).trans hk3).trans hk4).size
    have hs1 := hk1.size
    have hz1 := hr1.2.1
    have hs2 := (hk1.trans hk2).size
    have hz2 := hr2.2.1
    have hs3 := ((hk1.trans hk2).trans hk3).size
    have hz3 := hr3.2.1
    have hs4 := (((hk1.trans hk2).trans hk3).trans hk4).size
    have hz4 := hr4.2.1
    refine bodyPost_ret (results_cell_row Tryz.results112 _ _ W.heap.size 112 _ (0, 0) _ rfl (setRow_heap _ _ _ _ _ _ (gr_block (((hk1.trans hk2).trans hk3).trans hk4) hlt HK0.out)) Tryz.underlying112 rfl iszA) rfl ?_
    refine HO.out (aCols 3 [] x3) t4 d4 _ _ (by rw [← HRS.out]; simp [hp1, hp2, hp3, hp4]) ⟨_, rfl, ⟨_, _, _, _, _, _, _, _, _, _, _, _, _, _, _, _, _, _, _, _, _, _, rfl⟩, ?_⟩ (by omega) ((put_row _ _ _).rd hr4 hlt) ((put_row _ _ _).gr ((((hg0.trans hk1).trans hk2).trans hk3).trans hk4) (Nat.le_refl _))
    exact Row.low (C := W.heap.size) (by omega) (Put.rowB (g := W.heap.size) (put_row _ _ _) (B := W.heap.size + 1) (Nat.lt_succ_self _) (row_one _ (row_one _ (Row.low (C := W.heap.size + 1) (by have := hg0.size; omega) (Row.gr hk4 (by omega) hrow3)))))
  · exact ⟨rfl, HB.out _ _ (by rw [← HRS.out]; simp [hp1, hp2, hp3]) hb3 (((hg0.trans hk1).trans hk2).trans hk3)⟩
  · have hsz := ((hk1.trans hk2).trans hk3).size
    have hs1 := hk1.size
    have hz1 := hr1.2.1
    have hs2 := (hk1.trans hk2).size
    have hz2 := hr2.2.1
    have hs3 := ((hk1.trans hk2).trans hk3).size
    have hz3 := hr3.2.1
    refine bodyPost_ret (results_cell_row Tryz.results112 _ _ W.heap.size 112 _ (0, 0) _ rfl (setRow_heap _ _ _ _ _ _ (gr_block ((hk1.trans hk2).trans hk3) hlt HK0.out)) Tryz.underlying112 rfl iszA) rfl ?_
    refine HO.out (aCols 4 [] eNone) t3 d3 _ _ (by rw [← HRS.out]; simp [hp1, hp2, hp3]) ⟨_, rfl, ⟨_, _, _, _, _, _, _, _, _, _, _, _, _, _, _, _, _, _, _, _, _, _, rfl⟩, ?_⟩ (by omega) ((put_row _ _ _).rd hr3 hlt) ((put_row _ _ _).gr (((hg0.trans hk1).trans hk2).trans hk3) (Nat.le_refl _))
    exact Row.low (C := W.heap.size) (by omega) (Put.rowB (g := W.heap.size) (put_row _ _ _) (B := W.heap.size + 1) (Nat.lt_succ_self _) (row_one _ (row_one _ row_none)))
  · exact ⟨rfl, HB.out _ _ (by rw [← HRS.out]; simp [hp1, hp2, n0, n1, n2, n3]) ⟨_, hr2.1⟩ ((hg0.trans hk1).trans hk2)⟩
end Go.Proofs.YtedmmgfnplbkjaaGreatDoor
