/-
  Walks: statements, their own statements one level less.
  Conditions: the reader lies as 'RD' says; its words are at most 65536.
  Walks: THE READER IN WHOLE: expr, exprOf, stmt, with more fuel than words.
  Conditions: the reader lies as 'RD' says; its words are at most 65536.
-/
import Derived.Test.YtedmmgfnplbkjaaGreatDoorParT
import Derived.Test.YtedmmgfnplbkjaaGreatDoorParY
import Derived.Test.YtedmmgfnplbkjaaGreatDoorParU2
import Derived.Test.YtedmmgfnplbkjaaGreatDoorParU8
namespace Go.Proofs.YtedmmgfnplbkjaaGreatDoor
set_option linter.unusedVariables false
set_option linter.unusedSimpArgs false
open Go.RowKit G
set_option maxRecDepth 100000 in
set_option maxHeartbeats 4000000 in
theorem stmt2_any {W1 : World} {wv : Value} {ws : List LX.LW} {c : Str} {t d : Nat} {W : World} (h : RD' W1 wv ws c t d W) (hn : ws.length ≤ 65536) {ex st : Nat → Nat → Rs (List T)} (he : ∀ t' d' W', t ≤ t' → RD' W1 wv ws c t' d' W' → Calls Tryz.prog 64 #[rp W1] W' (PostR W1 wv ws c (t' + 1) W' (FT ShE W'.heap.size) (ex t' d'))) (hs : ∀ t' d' W', t + 1 ≤ t' → RD' W1 wv ws c t' d' W' → Calls Tryz.prog 114 #[rp W1] W' (PostR W1 wv ws c (t' + 1) W' (FT ShS W'.heap.size) (st t' d'))) :
    Calls Tryz.prog 114 #[rp W1] W (PostR W1 wv ws c (t + 1) W (FT ShS W.heap.size) ((openP (ws.map nol) t d).bind fun _ t d => (nameP (ws.map nol) t d).bind fun s t d => stmtOfP (ws.map nol) ex st s t d)) := by
  obtain ⟨W0, hW0⟩ : ∃ W0, W.alloc (.cells #[.int .u8 0, .string ⟨#[]⟩, .string ⟨#[]⟩, .int .u8 0, .int .i64 0, .string ⟨#[]⟩, .slice none 0 0, .slice none 0 0, .slice none 0 0, .int .u8 0, .slice none 0 0, .slice none 0 0, .string ⟨#[]⟩, .slice none 0 0, .slice none 0 0, .slice none 0 0, .slice none 0 0] 55) = W0 := ⟨_, rfl⟩
  have hlt := h.1.lt
  have hr0 : RD' W1 wv ws c t d W0 := by rw [← hW0]; exact h.alloc _
  have hg0 : Gr W1 W W0 := by rw [← hW0]; exact (gr_refl W1 W).alloc _
  have hz0 : W0.heap.size = W.heap.size + 1 := by rw [← hW0]; simp
  have hb0 : W0.heap[W.heap.size]? = some (.cells #[.int .u8 0, .string ⟨#[]⟩, .string ⟨#[]⟩, .int .u8 0, .int .i64 0, .string ⟨#[]⟩, .slice none 0 0, .slice none 0 0, .slice none 0 0, .int .u8 0, .slice none 0 0, .slice none 0 0, .string ⟨#[]⟩, .slice none 0 0, .slice none 0 0, .slice none 0 0, .slice none 0 0] 55 (0, 0)) := by rw [← hW0]; exact heap_alloc_new _ _
  have HK0 := Lib.hid hb0
  have htn := h.2.1
  have hdn := h.2.2
  have HOP := Lib.hid (fun t d W (h : RD' W1 wv ws c t d W) => open_any h hn)
  have HN := Lib.hid (fun t d W (h : RD' W1 wv ws c t d W) => name_any h hn)
  have HST := Lib.hid (fun t' d' W' s (h1 : t + 1 ≤ t') (h2 : RD' W1 wv ws c t' d' W') => stmtOf_any h2 hn (fun t2 d2 W2 h3 h4 => he t2 d2 W2 (by omega) h4) (fun t2 d2 W2 h3 h4 => hs t2 d2 W2 (Nat.le_trans h1 h3) h4) s)
  obtain ⟨rs, hrs⟩ : ∃ r, ((openP (ws.map nol) t d).bind fun _ t d => (nameP (ws.map nol) t d).bind fun s t d => stmtOfP (ws.map nol) ex st s t d) = r := ⟨_, rfl⟩
  rw [hrs]
  obtain ⟨post, hpost⟩ : ∃ p, PostR W1 wv ws c (t + 1) W (FT ShS W.heap.size) rs = p := ⟨_, rfl⟩
  have HB : Hid (∀ t' w', rs = .bad t' → (∃ d, RD W1 wv ws c t' d w') → Gr W1 W w' → post (.panicked [pz]) w') := fun t' w' h1 h2 h3 => by rw [← hpost]; exact .inl ⟨t', h1, rfl, h2, h3⟩
  have HO : Hid (∀ x t' d' v w', rs = .ok x t' d' → (FT ShS W.heap.size) x v w' → t + 1 ≤ t' → RD' W1 wv ws c t' d' w' → Gr W1 W w' → post (.returned v) w') := fun x t' d' v w' h1 h2 h3 h4 h5 => by rw [← hpost]; exact .inr ⟨x, t', d', v, h1, rfl, h2, h3, h4, h5⟩
  rw [hpost]
  have HRS := Lib.hid hrs
  clear hrs hpost
  clear h hb0
  go_enter Tryz.func114, Tryz.ntmps114
  go_wp2_with (first
    | (go_at_call 61; (with_reducible refine (HOP.out _ _ _ hr0).mono ?_); rintro e1 w1 (⟨t1, hp1, rfl, hb1, hk1⟩ | ⟨x1, t1, d1, v1, hp1, rfl, rfl, hl1, hr1, hk1⟩))
    | (go_at_call 62; (with_reducible refine (HN.out _ _ _ hr1).mono ?_); rintro e2 w2 (⟨t2, hp2, rfl, hb2, hk2⟩ | ⟨x2, t2, d2, v2, hp2, rfl, rfl, hl2, hr2, hk2⟩))
    | (go_at_call 63; (with_reducible refine (HST.out _ _ _ _ (by omega) hr2).mono ?_); rintro e3 w3 (⟨t3, hp3, rfl, hb3, hk3⟩ | ⟨x3, t3, d3, v3, hp3, rfl, ⟨vs3, rfl, ⟨ya0, ys1, ys2, ya3, ya4, ys5, yp6, yl6, yq6, yp7, yl7, yq7, yp8, yl8, yq8, ya9, yp10, yl10, yq10, yp11, yl11, yq11, ys12, yp13, yl13, yq13, yp14, yl14, yq14, yp15, yl15, yq15, yp16, yl16, yq16, rfl⟩, hrow3⟩, hl3, hr3, hk3⟩))
    | (refine wpList_store_row rfl 55 _ _ rfl W.heap.size _ rfl rfl 55 #[.int .u8 0, .string ⟨#[]⟩, .string ⟨#[]⟩, .int .u8 0, .int .i64 0, .string ⟨#[]⟩, .slice none 0 0, .slice none 0 0, .slice none 0 0, .int .u8 0, .slice none 0 0, .slice none 0 0, .string ⟨#[]⟩, .slice none 0 0, .slice none 0 0, .slice none 0 0, .slice none 0 0] (gr_block ((hk1.trans hk2).trans hk3) hlt HK0.out) iszS rfl (all_one (shS_one (by exact ⟨_, _, _, _, _, _, _, _, _, _, _, _, _, _, _, _, _, _, _, _, _, _, _, _, _, _, _, _, _, _, _, _, _, _, _, rfl⟩)).1) ?_))
  · exact ⟨rfl, HB.out _ _ (by rw [← HRS.out]; simp only [hp1, Rs.bind_ok, Rs.bind_bad]) hb1 (hg0.trans hk1)⟩
  · exact ⟨rfl, HB.out _ _ (by rw [← HRS.out]; simp only [hp1, hp2, Rs.bind_ok, Rs.bind_bad]) hb2 ((hg0.trans hk1).trans hk2)⟩
  · exact ⟨rfl, HB.out _ _ (by rw [← HRS.out]; simp only [hp1, hp2, hp3, Rs.bind_ok, Rs.bind_bad]) hb3 (((hg0.trans hk1).trans hk2).trans hk3)⟩
  · have hsz := ((hk1.trans hk2).trans hk3).size
    have hs1 := hk1.size
    have hz1 := hr1.2.1
    have hs2 := (hk1.trans hk2).size
    have hz2 := hr2.2.1
    have hs3 := ((hk1.trans hk2).trans hk3).size
    have hz3 := hr3.2.1
    refine bodyPost_ret (results_cell_row Tryz.results114 _ _ W.heap.size 55 _ (0, 0) _ rfl (setRow_heap _ _ _ _ _ _ (gr_block ((hk1.trans hk2).trans hk3) hlt HK0.out)) Tryz.underlying55 rfl iszS) rfl ?_
    refine HO.out (x3) t3 d3 _ _ (by rw [← HRS.out]; simp only [hp1, hp2, hp3, Rs.bind_ok]) ⟨_, rfl, ⟨_, _, _, _, _, _, _, _, _, _, _, _, _, _, _, _, _, _, _, _, _, _, _, _, _, _, _, _, _, _, _, _, _, _, _, rfl⟩, ?_⟩ (by omega) ((put_row _ _ _).rd hr3 hlt) ((put_row _ _ _).gr (((hg0.trans hk1).trans hk2).trans hk3) (Nat.le_refl _))
    exact Row.low (C := W.heap.size) (by omega) (Put.rowB (g := W.heap.size) (put_row _ _ _) (B := W.heap.size + 1) (Nat.lt_succ_self _) ((Row.low (C := W.heap.size + 1) (by have := hg0.size; omega) (Row.gr (gr_refl W1 w3) (by omega) hrow3))))
end Go.Proofs.YtedmmgfnplbkjaaGreatDoor
namespace Go.Proofs.YtedmmgfnplbkjaaGreatDoor
set_option linter.unusedVariables false
set_option linter.unusedSimpArgs false
open Go.RowKit G
theorem elem_any {W1 : World} {wv : Value} {ws : List LX.LW} {c : Str} {t d : Nat} {W : World} (h : RD' W1 wv ws c t d W) (hn : ws.length ≤ 65536) {ex : Nat → Nat → Rs (List T)} (he : ∀ t' d' W', t ≤ t' → RD' W1 wv ws c t' d' W' → Calls Tryz.prog 64 #[rp W1] W' (PostR W1 wv ws c (t' + 1) W' (FT ShE W'.heap.size) (ex t' d'))) (hky : ∀ t' d' W', t ≤ t' → RD' W1 wv ws c t' d' W' → Calls Tryz.prog 224 #[rp W1] W' (PostR W1 wv ws c (t' + 1) W' (FSl ShE 42 10 W'.heap.size) (keyP (ws.map nol) ex t' d'))) (k : Int) (k1 : 1 ≤ k) (k8 : k ≤ 8) :
    Calls Tryz.prog 199 #[rp W1, .int .u8 k] W (PostR W1 wv ws c t W (FT ShE W.heap.size) (elemP (ws.map nol) ex k t d)) := by
  have hk : k = 1 ∨ k = 2 ∨ k = 3 ∨ k = 4 ∨ k = 5 ∨ k = 6 ∨ k = 7 ∨ k = 8 := by omega
  rcases hk with rfl | rfl | rfl | rfl | rfl | rfl | rfl | rfl
  · exact elem1_any h hn he hky
  · exact elem2_any h hn he hky
  · exact elem3_any h hn he hky
  · exact elem4_any h hn he hky
  · exact elem5_any h hn he hky
  · exact elem6_any h hn he hky
  · exact elem7_any h hn he hky
  · exact elem8_any h hn he hky
theorem exprP_none {ws : List LX.LW} {c : Str} (f : Nat) {t d : Nat} (h : ws[t]? = none) : exprP (ws.map nol) c f t d = .bad (t + 1) := by
  cases f with
  | zero => rfl
  | succ f => rw [exprP_succ]; exact nextP_none h
theorem knot {W1 : World} {wv : Value} {ws : List LX.LW} {c : Str} (hn : ws.length ≤ 65536) (hc : c.length ≤ 70000) (htab : LTabs W1) : ∀ f : Nat,
    (∀ t d W, ws.length < f + t → RD' W1 wv ws c t d W → Calls Tryz.prog 64 #[rp W1] W (PostR W1 wv ws c (t + 1) W (FT ShE W.heap.size) (exprP (ws.map nol) c f t d))) ∧
    (∀ t d w W, ws.length < f + t → ws[t]? = some w → RD' W1 wv ws c (t + 1) d W → d ≤ t → Calls Tryz.prog 115 #[rp W1, .agg #[.int .u8 (w.k : Nat), .string ⟨w.s.toArray⟩, .int .i64 w.n, .int .i64 (w.line : Nat)]] W (PostR W1 wv ws c (t + 1) W (FT ShE W.heap.size) (exprP (ws.map nol) c f t d)))
  | 0 => ⟨fun t d W h1 h2 => by have := h2.2.1; omega, fun t d w W h1 h2 => by have := (List.getElem?_eq_some_iff.1 h2).1; omega⟩
  | f + 1 => by
    obtain ⟨ih1, ih2⟩ := knot hn hc htab f
    have hB : ∀ t d w W, ws.length < f + 1 + t → ws[t]? = some w → RD' W1 wv ws c (t + 1) d W → d ≤ t → Calls Tryz.prog 115 #[rp W1, .agg #[.int .u8 (w.k : Nat), .string ⟨w.s.toArray⟩, .int .i64 w.n, .int .i64 (w.line : Nat)]] W (PostR W1 wv ws c (t + 1) W (FT ShE W.heap.size) (exprP (ws.map nol) c (f + 1) t d)) := by
      intro t d w W h1 h2 h3 h4
      obtain ⟨k, s, n, l⟩ := w
      rw [exprP_succ, nextP_some h2]
      exact exprOf_any h3 hn (fun t' d' W' h5 h6 => ih1 t' d' W' (by omega) h6)
        (fun k k1 k8 t' d' W' h5 h6 => elem_any h6 hn (fun t2 d2 W2 h7 h8 => ih1 t2 d2 W2 (by omega) h8)
          (fun t2 d2 W2 h7 h8 => key_any h8 hn (fun t3 d3 w3 W3 h9 h10 h11 h12 => ih2 t3 d3 w3 W3 (by omega) h10 h11 h12) (fun t d h => exprP_none f h)) k k1 k8)
        hc htab (by omega) k s n l
    refine ⟨fun t d W h1 h2 => ?_, hB⟩
    have hd := h2.2.2
    rw [exprP_succ]
    exact expr_any h2 hn (fun kk s n ln W' h3 h4 => by
      have := hB t d ⟨kk, s, n, ln⟩ W' h1 h3 h4 hd
      rw [exprP_succ, nextP_some h3] at this
      exact this)
theorem stmt_knot {W1 : World} {wv : Value} {ws : List LX.LW} {c : Str} (hn : ws.length ≤ 65536) (hc : c.length ≤ 70000) (htab : LTabs W1) : ∀ f t d W, ws.length < f + t → RD' W1 wv ws c t d W →
    Calls Tryz.prog 114 #[rp W1] W (PostR W1 wv ws c (t + 1) W (FT ShS W.heap.size) (stmtP (ws.map nol) (exprP (ws.map nol) c FU) f t d))
  | 0, t, d, W, h1, h2 => by have := h2.2.1; omega
  | f + 1, t, d, W, h1, h2 => stmt2_any h2 hn (fun t' d' W' h3 h4 => (knot hn hc htab FU).1 t' d' W' (by unfold FU; omega) h4) (fun t' d' W' h3 h4 => stmt_knot hn hc htab f t' d' W' (by omega) h4)
theorem expr_whole {W1 : World} {wv : Value} {ws : List LX.LW} {c : Str} (hn : ws.length ≤ 65536) (hc : c.length ≤ 70000) (htab : LTabs W1) {t d : Nat} {W : World} (h : RD' W1 wv ws c t d W) :
    Calls Tryz.prog 64 #[rp W1] W (PostR W1 wv ws c (t + 1) W (FT ShE W.heap.size) (exprP (ws.map nol) c FU t d)) := (knot hn hc htab FU).1 t d W (by unfold FU; omega) h
theorem stmtOf_whole {W1 : World} {wv : Value} {ws : List LX.LW} {c : Str} (hn : ws.length ≤ 65536) (hc : c.length ≤ 70000) (htab : LTabs W1) {t d : Nat} {W : World} (h : RD' W1 wv ws c t d W) (s : Str) :
    Calls Tryz.prog 63 #[rp W1, .string ⟨s.toArray⟩] W (PostR W1 wv ws c t W (FT ShS W.heap.size) (stmtOfP (ws.map nol) (exprP (ws.map nol) c FU) (stmtP (ws.map nol) (exprP (ws.map nol) c FU) FU) s t d)) :=
  stmtOf_any h hn (fun t' d' W' _ h4 => expr_whole hn hc htab h4) (fun t' d' W' _ h4 => stmt_knot hn hc htab FU t' d' W' (by unfold FU; omega) h4) s
end Go.Proofs.YtedmmgfnplbkjaaGreatDoor
