/-
  Walks: statements, their own statements one level less.
  Conditions: the reader lies as 'RD' says; its words are at most 65536.
-/
import Derived.Test.YtfldflemdhkgoaaGreatDoorParT
namespace Go.Proofs.YtfldflemdhkgoaaGreatDoor
set_option linter.unusedVariables false
set_option linter.unusedSimpArgs false
open Go.RowKit G

set_option maxRecDepth 100000 in
set_option maxHeartbeats 4000000 in
theorem stmt2_any {W1 : World} {wv : Value} {ws : List LX.LW} {c : Str} {t d : Nat} {W : World} (h : RD' W1 wv ws c t d W) (hn : ws.length ≤ 65536) {ex st : Nat → Nat → Rs (List T)} (he : ∀ t' d' W', t ≤ t' → RD' W1 wv ws c t' d' W' → Calls Tryz.prog 60 #[rp W1] W' (PostR W1 wv ws c (t' + 1) W' (FT ShE W'.heap.size) (ex t' d'))) (hs : ∀ t' d' W', t + 1 ≤ t' → RD' W1 wv ws c t' d' W' → Calls Tryz.prog 103 #[rp W1] W' (PostR W1 wv ws c (t' + 1) W' (FT ShS W'.heap.size) (st t' d'))) :
    Calls Tryz.prog 103 #[rp W1] W (PostR W1 wv ws c (t + 1) W (FT ShS W.heap.size) ((openP (ws.map nol) t d).bind fun _ t d => (nameP (ws.map nol) t d).bind fun s t d => stmtOfP (ws.map nol) ex st s t d)) := by
  obtain ⟨W0, hW0⟩ : ∃ W0, W.alloc (.cells #[.int .u8 0, .string ⟨#[]⟩, .string ⟨#[]⟩, .int .u8 0, .int .i64 0, .string ⟨#[]⟩, .slice none 0 0, .slice none 0 0, .slice none 0 0, .int .u8 0, .slice none 0 0, .slice none 0 0, .string ⟨#[]⟩, .slice none 0 0, .slice none 0 0, .slice none 0 0, .slice none 0 0] 72) = W0 := ⟨_, rfl⟩
  have hlt := h.1.lt
  have hr0 : RD' W1 wv ws c t d W0 := by rw [← hW0]; exact h.alloc _
  have hg0 : Gr W1 W W0 := by rw [← hW0]; exact (gr_refl W1 W).alloc _
  have hz0 : W0.heap.size = W.heap.size + 1 := by rw [← hW0]; simp
  have hb0 : W0.heap[W.heap.size]? = some (.cells #[.int .u8 0, .string ⟨#[]⟩, .string ⟨#[]⟩, .int .u8 0, .int .i64 0, .string ⟨#[]⟩, .slice none 0 0, .slice none 0 0, .slice none 0 0, .int .u8 0, .slice none 0 0, .slice none 0 0, .string ⟨#[]⟩, .slice none 0 0, .slice none 0 0, .slice none 0 0, .slice none 0 0] 72 (0, 0)) := by rw [← hW0]; exact heap_alloc_new _ _
  have HK0 := Lib.hid hb0
  have htn := h.2.1
  have hdn := h.2.2
  have HOP := Lib.hid (fun t d W (h : RD' W1 wv ws c t d W) => open_any h hn)
  have HN := Lib.hid (fun t d W (h : RD' W1 wv ws c t d W) => name_any h hn)
  have HST := Lib.hid (fun t' d' W' s (h1 : t + 1 ≤ t') (h2 : RD' W1 wv ws c t' d' W') => stmtOf_any h2 hn (fun t2 d2 W2 h3 h4 => he t2 d2 W2 (by omega) h4) (fun t2 d2 W2 h3 h4 => hs t2 d2 W2 (Nat.le_trans h1 h3) h4) s)
  obtain ⟨rs, hrs⟩ : ∃ r, ((openP (ws.map nol) t d).bind fun _ t d => (nameP (ws.map nol) t d).bind fun s t d => stmtOfP (ws.map nol) ex st s t d) = r := ⟨_, rfl⟩
  rw [hrs]
  obtain ⟨post, hpost⟩ : ∃ p, PostR W1 wv ws c (t + 1) W (FT ShS W.heap.size) rs = p := ⟨_, rfl⟩
  have HB : Hid (∀ t' w', rs = .bad t' → (∃ d, RD W1 wv ws c t' d w') → Gr W1 W w' → post (.panicked [pz]) w') := fun t' w' h1 h2 h3 => by rw [← hpost]; exact .inl ⟨t', h1, rfl, h2, h3⟩
  have HO : Hid (∀ x t' d' v w', rs = .ok x t' d' → (FT ShS W.heap.size) x v w' → t + 1 ≤ t' → RD' W1 wv ws c t' d' w' → Gr W1 W w' → post (.returned v) w') := fun x t' d' v w' h1 h2 h3 h4 h5 => by rw [← hpost]; exact .inr ⟨x, t', d', v, h1, rfl, h2, h3, h4, h5⟩
  rw [hpost]
  have HRS := Lib.hid hrs
  clear hrs hpost
  clear h hb0
  go_enter Tryz.func103, Tryz.ntmps103
  go_wp2_with (first
    | (go_at_call 57; (with_reducible refine (HOP.out _ _ _ hr0).mono ?_); rintro e1 w1 (⟨t1, hp1, rfl, hb1, hk1⟩ | ⟨x1, t1, d1, v1, hp1, rfl, rfl, hl1, hr1, hk1⟩))
    | (go_at_call 58; (with_reducible refine (HN.out _ _ _ hr1).mono ?_); rintro e2 w2 (⟨t2, hp2, rfl, hb2, hk2⟩ | ⟨x2, t2, d2, v2, hp2, rfl, rfl, hl2, hr2, hk2⟩))
    | (go_at_call 59; (with_reducible refine (HST.out _ _ _ _ (by omega) hr2).mono ?_); rintro e3 w3 (⟨t3, hp3, rfl, hb3, hk3⟩ | ⟨x3, t3, d3, v3, hp3, rfl, ⟨vs3, rfl, ⟨ya0, ys1, ys2, ya3, ya4, ys5, yp6, yl6, yq6, yp7, yl7, yq7, yp8, yl8, yq8, ya9, yp10, yl10, yq10, yp11, yl11, yq11, ys12, yp13, yl13, yq13, yp14, yl14, yq14, yp15, yl15, yq15, yp16, yl16, yq16, rfl⟩, hrow3⟩, hl3, hr3, hk3⟩))
    | (refine wpList_store_row rfl 72 _ _ rfl W.heap.size _ rfl rfl 72 #[.int .u8 0, .string ⟨#[]⟩, .string ⟨#[]⟩, .int .u8 0, .int .i64 0, .string ⟨#[]⟩, .slice none 0 0, .slice none 0 0, .slice none 0 0, .int .u8 0, .slice none 0 0, .slice none 0 0, .string ⟨#[]⟩, .slice none 0 0, .slice none 0 0, .slice none 0 0, .slice none 0 0] (gr_block ((hk1.trans hk2).trans hk3) hlt HK0.out) iszS rfl (all_one (shS_one (by exact ⟨_, _, _, _, _, _, _, _, _, _, _, _, _, _, _, _, _, _, _, _, _, _, _, _, _, _, _, _, _, _, _, _, _, _, _, rfl⟩)).1) ?_))
  · exact ⟨rfl, HB.out _ _ (by rw [← HRS.out]; simp only [hp1, Rs.bind_ok, Rs.bind_bad]) hb1 (hg0.trans hk1)⟩
  · exact ⟨rfl, HB.out _ _ (by rw [← HRS.out]; simp only [hp1, hp2, Rs.bind_ok, Rs.bind_bad]) hb2 ((hg0.trans hk1).trans hk2)⟩
  · exact ⟨rfl, HB.out _ _ (by rw [← HRS.out]; simp only [hp1, hp2, hp3, Rs.bind_ok, Rs.bind_bad]) hb3 (((hg0.trans hk1).trans hk2).trans hk3)⟩
  · have hsz := ((hk1.trans hk2).trans hk3).size
    have hs1 := hk1.size
    have hz1 := hr1.2.1
    have hs2 := (hk1.trans hk2).size
    have hz2 := hr2.2.1
    have hs3 := ((hk1.trans hk2).trans hk3).size
    have hz3 := hr3.2.1
    refine bodyPost_ret (results_cell_row Tryz.results103 _ _ W.heap.size 72 _ (0, 0) _ rfl (setRow_heap _ _ _ _ _ _ (gr_block ((hk1.trans hk2).trans hk3) hlt HK0.out)) Tryz.underlying72 rfl iszS) rfl ?_
    refine HO.out (x3) t3 d3 _ _ (by rw [← HRS.out]; simp only [hp1, hp2, hp3, Rs.bind_ok]) ⟨_, rfl, ⟨_, _, _, _, _, _, _, _, _, _, _, _, _, _, _, _, _, _, _, _, _, _, _, _, _, _, _, _, _, _, _, _, _, _, _, rfl⟩, ?_⟩ (by omega) ((put_row _ _ _).rd hr3 hlt) ((put_row _ _ _).gr (((hg0.trans hk1).trans hk2).trans hk3) (Nat.le_refl _))
    exact Row.low (C := W.heap.size) (by omega) (Put.rowB (g := W.heap.size) (put_row _ _ _) (B := W.heap.size + 1) (Nat.lt_succ_self _) ((Row.low (C := W.heap.size + 1) (by have := hg0.size; omega) (Row.gr (gr_refl W1 w3) (by omega) hrow3))))

end Go.Proofs.YtfldflemdhkgoaaGreatDoor
