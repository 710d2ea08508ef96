/-
  Walks: elem: of one's children alone.
  Conditions: the reader lies as 'RD' says; its words are at most 65536.
-/
import Derived.Test.YtedmmgfnplbkjaaGreatDoorParR
import Derived.Deep.RegionHeld3
namespace Go.Proofs.YtedmmgfnplbkjaaGreatDoor
set_option linter.unusedVariables false
set_option linter.unusedSimpArgs false
open Go.RowKit G
theorem rep_key {W1 w1 W5 w6 w7 : World} {B C n cap : Nat} {la : Option Addr} {l : List (List T)} (hf : FRows ShE 42 10 B l (.slice la n cap) w1) (h1 : Gr W1 w1 W5) (h6 : Gr W1 W5 w6) (h7 : ∀ b, B ≤ b → b ≠ w1.heap.size → b < w6.heap.size → w7.heap[b]? = w6.heap[b]?) (hs7 : w6.heap.size ≤ w7.heap.size) (hB : W1.heap.size < B) (hC : C ≤ B) : (ofRows 10 l).Rep w7 (C ≤ ·) (.slice la n cap) := by
  have hs1 := h1.size
  have hs6 := h6.size
  refine hf.rep.keep (Nat.le_trans hs1 (Nat.le_trans hs6 hs7)) (fun _ _ h => Nat.le_trans hC h) (fun b hb hlt => ?_)
  rw [h7 b hb (by omega) (by omega)]
  exact (h1.trans h6).block b hlt (by intro e; cases e; omega)
theorem rep_pairs {W1 W5 w6 w7 : World} {B B0 C g : Nat} {u : T} {v : Value} (hu : u.Rep W5 (B ≤ ·) v) (h6 : Gr W1 W5 w6) (h7 : ∀ b, B0 ≤ b → b ≠ g → b < w6.heap.size → w7.heap[b]? = w6.heap[b]?) (hs7 : w6.heap.size ≤ w7.heap.size) (hB0 : B0 ≤ B) (hg : g < B) (hB : W1.heap.size < B) (hC : C ≤ B) : u.Rep w7 (C ≤ ·) v := by
  have hs6 := h6.size
  refine hu.keep (Nat.le_trans hs6 hs7) (fun _ _ h => Nat.le_trans hC h) (fun b hb hlt => ?_)
  rw [h7 b (by omega) (by omega) (by omega)]
  exact h6.block b hlt (by intro e; cases e; omega)
theorem RD'.drew {W1 : World} {wv : Value} {ws : List LX.LW} {c : Str} {t d : Nat} {W : World} (h : RD' W1 wv ws c t d W) : RD' W1 wv ws c t d W.drew := h.keep (Below.refl _ _).drew
theorem PostR.of_bad {α : Type} {W1 : World} {wv : Value} {ws : List LX.LW} {c : Str} {t0 t : Nat} {W : World} {F : α → Value → World → Prop} {r : Rs α} {e : Ending} {w' : World} (h : PostR W1 wv ws c t0 W F r e w') (hr : r = .bad t) : e = .panicked [pz] ∧ (∃ d, RD W1 wv ws c t d w') ∧ Gr W1 W w' := by
  subst hr
  rcases h with ⟨t', h1, h2, h3, h4⟩ | ⟨x, t', d, v, h1, -⟩
  · injection h1 with h1; subst h1; exact ⟨h2, h3, h4⟩
  · cases h1
theorem PostR.of_ok {α : Type} {W1 : World} {wv : Value} {ws : List LX.LW} {c : Str} {t0 t d : Nat} {x : α} {W : World} {F : α → Value → World → Prop} {r : Rs α} {e : Ending} {w' : World} (h : PostR W1 wv ws c t0 W F r e w') (hr : r = .ok x t d) : ∃ v, e = .returned v ∧ F x v w' ∧ t0 ≤ t ∧ RD' W1 wv ws c t d w' ∧ Gr W1 W w' := by
  subst hr
  rcases h with ⟨t', h1, -⟩ | ⟨x', t', d', v, h1, h2, h3, h4, h5, h6⟩
  · cases h1
  · injection h1 with h1 h1' h1''; subst h1 h1' h1''; exact ⟨v, h2, h3, h4, h5, h6⟩
set_option maxRecDepth 100000 in
set_option maxHeartbeats 16000000 in
theorem elem4_any {W1 : World} {wv : Value} {ws : List LX.LW} {c : Str} {t d : Nat} {W : World} (h : RD' W1 wv ws c t d W) (hn : ws.length ≤ 65536) {ex : Nat → Nat → Rs (List T)} (he : ∀ t' d' W', t ≤ t' → RD' W1 wv ws c t' d' W' → Calls Tryz.prog 64 #[rp W1] W' (PostR W1 wv ws c (t' + 1) W' (FT ShE W'.heap.size) (ex t' d'))) (hky : ∀ t' d' W', t ≤ t' → RD' W1 wv ws c t' d' W' → Calls Tryz.prog 224 #[rp W1] W' (PostR W1 wv ws c (t' + 1) W' (FSl ShE 42 10 W'.heap.size) (keyP (ws.map nol) ex t' d'))) :
    Calls Tryz.prog 199 #[rp W1, .int .u8 4] W (PostR W1 wv ws c t W (FT ShE W.heap.size) (elemP (ws.map nol) ex 4 t d)) := by
  obtain ⟨W0, hW0⟩ : ∃ W0, W.alloc (.cells #[.int .u8 0, .int .i64 0, .string ⟨#[]⟩, .slice none 0 0, .slice none 0 0, .slice none 0 0, .int .u8 0, .slice none 0 0, .slice none 0 0, .string ⟨#[]⟩] 42) = W0 := ⟨_, rfl⟩
  have hlt := h.1.lt
  have hr0 : RD' W1 wv ws c t d W0 := by rw [← hW0]; exact h.alloc _
  have hg0 : Gr W1 W W0 := by rw [← hW0]; exact (gr_refl W1 W).alloc _
  have hz0 : W0.heap.size = W.heap.size + 1 := by rw [← hW0]; simp
  have hb0 : W0.heap[W.heap.size]? = some (.cells #[.int .u8 0, .int .i64 0, .string ⟨#[]⟩, .slice none 0 0, .slice none 0 0, .slice none 0 0, .int .u8 0, .slice none 0 0, .slice none 0 0, .string ⟨#[]⟩] 42 (0, 0)) := by rw [← hW0]; exact heap_alloc_new _ _
  have HK0 := Lib.hid hb0
  have HKY := Lib.hid (hky t d W0 (Nat.le_refl _) hr0)
  have HN := Lib.hid (fun t d W (h : RD' W1 wv ws c t d W) => name_any h hn)
  have HWP : Hid (∀ t' d' W', t ≤ t' → RD' W1 wv ws c t' d' W' → Calls Tryz.prog 225 #[rp W1, .func (.func 197) #[rp W1] #[]] W' (PostR W1 wv ws c (t' + 1) W' (FSl ShP 231 11 W'.heap.size) (withinP (ws.map nol) (pairP (ws.map nol) ex) t' d'))) := Lib.hid fun t' d' W' h1 h2 => withinP_any h2 hn (fun t2 d2 W2 h3 h4 => pair_any h4 hn (fun t3 d3 W3 h5 h6 => he t3 d3 W3 (Nat.le_trans (Nat.le_trans h1 h3) h5) h6))
  have HLE : Hid (∀ t' d' W', t ≤ t' → RD' W1 wv ws c t' d' W' → Calls Tryz.prog 162 #[rp W1, .func (.func 64) #[rp W1] #[]] W' (PostR W1 wv ws c (t' + 1) W' (FSl ShE 42 10 W'.heap.size) (allP (ws.map nol) (ex) FU t' d'))) := Lib.hid fun t' d' W' h1 h2 => allE_any h2 hn (fun t2 d2 W2 h3 h4 => he t2 d2 W2 (Nat.le_trans h1 h3) h4) FU (by unfold FU; omega)
  have HPD := Lib.hid (fun (k : Int) (S : ByteArray) (kp : Option Addr) (kl kq : Nat) (l : List (List T)) (al : Option Addr) (cap B : Nat) (W : World) (hf : FRows ShP 231 11 B l (.slice al l.length cap) W) (hB : B ≤ W.heap.size) (hl : l.length ≤ 65537) => paired_any 11 0 S none 0 0 k kp kl kq none 0 0 ⟨#[]⟩ l al cap B W hf hB hl)
  obtain ⟨rs, hrs⟩ : ∃ r, (elemP (ws.map nol) ex 4 t d) = r := ⟨_, rfl⟩
  rw [hrs]
  obtain ⟨post, hpost⟩ : ∃ p, PostR W1 wv ws c (t) W (FT ShE W.heap.size) rs = p := ⟨_, rfl⟩
  have HB : Hid (∀ t' w', rs = .bad t' → (∃ d, RD W1 wv ws c t' d w') → Gr W1 W w' → post (.panicked [pz]) w') := fun t' w' h1 h2 h3 => by rw [← hpost]; exact .inl ⟨t', h1, rfl, h2, h3⟩
  have HO : Hid (∀ x t' d' v w', rs = .ok x t' d' → (FT ShE W.heap.size) x v w' → t ≤ t' → RD' W1 wv ws c t' d' w' → Gr W1 W w' → post (.returned v) w') := fun x t' d' v w' h1 h2 h3 h4 h5 => by rw [← hpost]; exact .inr ⟨x, t', d', v, h1, rfl, h2, h3, h4, h5⟩
  rw [hpost]
  have HRS := Lib.hid hrs
  clear hrs hpost
  clear h hb0 hky he
  go_enter Tryz.func199, Tryz.ntmps199
  go_upto_region 17 with (go_at_call 224; (with_reducible refine (HKY.out).mono ?_); rintro e1 w1 (⟨t1, hp1, rfl, hb1, hk1⟩ | ⟨x1, t1, d1, v1, hp1, rfl, ⟨la1, ln1, lc1, rfl, hf1, rfl, hle1⟩, hl1, hr1, hk1⟩))
  · exact ⟨rfl, HB.out _ _ (by rw [← HRS.out]; simp [elemP, hp1]) hb1 (hg0.trans hk1)⟩
  have hlt1 := hr1.1.lt
  have hsz1 := hk1.size
  have hltW0 := Nat.lt_of_lt_of_le hlt hg0.size
  obtain ⟨W5, hW5⟩ : ∃ W5, w1.alloc (.cells #[.int .u8 11, .int .i64 0, .string ⟨#[]⟩, .slice none 0 0, .slice none 0 0, .slice none 0 0, .int .u8 4, .slice la1 x1.length lc1, .slice none 0 0, .string ⟨#[]⟩] 42) = W5 := ⟨_, rfl⟩
  have hr5 : RD' W1 wv ws c t1 d1 W5 := by rw [← hW5]; exact hr1.alloc _
  have hg5 : Gr W1 W W5 := by rw [← hW5]; exact (hg0.trans hk1).alloc _
  have hk5 : Gr W1 W0 W5 := by rw [← hW5]; exact hk1.alloc _
  have hk15 : Gr W1 w1 W5 := by rw [← hW5]; exact (gr_refl W1 w1).alloc _
  have hz5 : W5.heap.size = w1.heap.size + 1 := by rw [← hW5]; simp
  have HE5 : Hid (W5.heap[w1.heap.size]? = some (.cells #[.int .u8 11, .int .i64 0, .string ⟨#[]⟩, .slice none 0 0, .slice none 0 0, .slice none 0 0, .int .u8 4, .slice la1 x1.length lc1, .slice none 0 0, .string ⟨#[]⟩] 42 (0, 0))) := Lib.hid (by rw [← hW5]; exact heap_alloc_new _ _)
  try rw [hW5]
  clear hW5
  have HKR : Hid (∀ w6 w7, Gr W1 W5 w6 → (∀ b, W0.heap.size ≤ b → b ≠ w1.heap.size → b < w6.heap.size → w7.heap[b]? = w6.heap[b]?) → w6.heap.size ≤ w7.heap.size → (ofRows 10 x1).Rep w7 (W.heap.size ≤ ·) (.slice la1 x1.length lc1)) := Lib.hid fun w6 w7 h6 h7 hs7 => rep_key hf1 hk15 h6 h7 hs7 hltW0 (by omega)
  have HNR : Hid (∀ w6 w7, Gr W1 W5 w6 → (∀ b, W0.heap.size ≤ b → b ≠ w1.heap.size → b < w6.heap.size → w7.heap[b]? = w6.heap[b]?) → w6.heap.size ≤ w7.heap.size → (ofRows 1 []).Rep w7 (W.heap.size ≤ ·) (.slice none 0 0)) := Lib.hid fun w6 w7 h6 h7 hs7 => rep_nil 1
  have HVR : Hid (∀ w6 w7, Gr W1 W5 w6 → (∀ b, W0.heap.size ≤ b → b ≠ w1.heap.size → b < w6.heap.size → w7.heap[b]? = w6.heap[b]?) → w6.heap.size ≤ w7.heap.size → (ofRows 10 []).Rep w7 (W.heap.size ≤ ·) (.slice none 0 0)) := Lib.hid fun w6 w7 h6 h7 hs7 => rep_nil 10
  clear HKY HN HWP HPD
  obtain ⟨⟨e0, e1, e2, e3, e4, e5, e6, e7, e8, e9⟩, ⟨k0, k1, k2, k3, k4, k5, k6, k7, k8, k9⟩⟩ := blk10 HE5.out
  go_wp2_with (first
    | (go_at_call 162; (with_reducible refine (HLE.out _ _ _ (by omega) hr5).mono ?_); rintro e6 w6 (⟨t6, hp6, rfl, hb6, hk6⟩ | ⟨x6, t6, d6, v6, hp6, rfl, ⟨la6, ln6, lc6, rfl, hf6, rfl, hle6⟩, hl6, hr6, hk6⟩); all_goals (obtain ⟨⟨f0, f1, f2, f3, f4, f5, f6, f7, f8, f9⟩, ⟨g0, g1, g2, g3, g4, g5, g6, g7, g8, g9⟩⟩ := blk10 (gr_block hk6 (by omega) HE5.out)))
    | (refine wpList_load_row rfl 42 _ rfl w1.heap.size rfl 42 #[.int .u8 11, .int .i64 0, .string ⟨#[]⟩, .slice la6 x6.length lc6, .slice none 0 0, .slice none 0 0, .int .u8 4, .slice la1 x1.length lc1, .slice none 0 0, .string ⟨#[]⟩] (0, 0) _ (set_row (gr_block hk6 (by omega) HE5.out) 3 _) Tryz.underlying42 rfl iszE ?_)
    | (refine wpList_store_row rfl 42 _ _ rfl W.heap.size _ rfl rfl 42 #[.int .u8 0, .int .i64 0, .string ⟨#[]⟩, .slice none 0 0, .slice none 0 0, .slice none 0 0, .int .u8 0, .slice none 0 0, .slice none 0 0, .string ⟨#[]⟩] ((Below.heap_setCell _ _ _ _ (by show W.heap.size ≠ w1.heap.size; omega)).trans (gr_block (hk5.trans hk6) hlt HK0.out)) iszE rfl (all_one (shE_one (by exact ⟨_, _, _, _, _, _, _, _, _, _, _, _, _, _, _, _, _, _, _, _, rfl⟩)).1) ?_))
  · exact ⟨rfl, HB.out _ _ (by rw [← HRS.out]; simp [elemP, hp1, hp6]) hb6 (hg5.trans hk6)⟩
  · have hsz6 := hk6.size
    refine bodyPost_ret (results_cell_row Tryz.results199 _ _ W.heap.size 42 _ (0, 0) _ rfl (setRow_heap _ _ _ _ _ _ ((Below.heap_setCell _ _ _ _ (by show W.heap.size ≠ w1.heap.size; omega)).trans (gr_block (hk5.trans hk6) hlt HK0.out))) Tryz.underlying42 rfl iszE) rfl ?_
    have hrow : ∀ w7, (∀ b, W0.heap.size ≤ b → b ≠ w1.heap.size → b < w6.heap.size → w7.heap[b]? = w6.heap[b]?) → w6.heap.size ≤ w7.heap.size → Row w7 (W.heap.size ≤ ·) (eCols 11 0 [] x6 [] [] 4 x1 [] []) [.int .u8 11, .int .i64 0, .string ⟨#[]⟩, .slice la6 x6.length lc6, .slice none 0 0, .slice none 0 0, .int .u8 4, .slice la1 x1.length lc1, .slice none 0 0, .string ⟨#[]⟩] := fun w7 h7 hs7 =>
      row_one _ (row_one _ (row_one _ (row_rows (hf6.rep.keep hs7 (fun _ _ h => by omega) (fun b h1 h2 => h7 b (by omega) (by omega) h2)) (row_rows (HNR.out w6 w7 hk6 h7 hs7) (row_rows (HVR.out w6 w7 hk6 h7 hs7) (row_one _ (row_rows (HKR.out w6 w7 hk6 h7 hs7) (row_rows (rep_nil 12) (row_one _ .nil)))))))))
    refine HO.out (eCols 11 0 [] x6 [] [] 4 x1 [] []) t6 d6 _ _ (by rw [← HRS.out]; simp [elemP, hp1, hp6]) ⟨_, rfl, ⟨_, _, _, _, _, _, _, _, _, _, _, _, _, _, _, _, _, _, _, _, rfl⟩, hrow _ (fun b h1 h2 h3 => by rw [setRow_other _ _ _ _ (by omega), Below.heap_setCell _ _ _ _ (by show b ≠ w1.heap.size; exact h2)]) (by simp [World.setRow, World.setCell])⟩ (by omega) ((put_row _ _ _).rd (hr6.setN (by omega) 3 _) hlt) ((put_row _ _ _).gr ((hg5.trans hk6).setN (by omega) 3 _) (Nat.le_refl _))
set_option maxRecDepth 100000 in
set_option maxHeartbeats 16000000 in
theorem elem5_any {W1 : World} {wv : Value} {ws : List LX.LW} {c : Str} {t d : Nat} {W : World} (h : RD' W1 wv ws c t d W) (hn : ws.length ≤ 65536) {ex : Nat → Nat → Rs (List T)} (he : ∀ t' d' W', t ≤ t' → RD' W1 wv ws c t' d' W' → Calls Tryz.prog 64 #[rp W1] W' (PostR W1 wv ws c (t' + 1) W' (FT ShE W'.heap.size) (ex t' d'))) (hky : ∀ t' d' W', t ≤ t' → RD' W1 wv ws c t' d' W' → Calls Tryz.prog 224 #[rp W1] W' (PostR W1 wv ws c (t' + 1) W' (FSl ShE 42 10 W'.heap.size) (keyP (ws.map nol) ex t' d'))) :
    Calls Tryz.prog 199 #[rp W1, .int .u8 5] W (PostR W1 wv ws c t W (FT ShE W.heap.size) (elemP (ws.map nol) ex 5 t d)) := by
  obtain ⟨W0, hW0⟩ : ∃ W0, W.alloc (.cells #[.int .u8 0, .int .i64 0, .string ⟨#[]⟩, .slice none 0 0, .slice none 0 0, .slice none 0 0, .int .u8 0, .slice none 0 0, .slice none 0 0, .string ⟨#[]⟩] 42) = W0 := ⟨_, rfl⟩
  have hlt := h.1.lt
  have hr0 : RD' W1 wv ws c t d W0 := by rw [← hW0]; exact h.alloc _
  have hg0 : Gr W1 W W0 := by rw [← hW0]; exact (gr_refl W1 W).alloc _
  have hz0 : W0.heap.size = W.heap.size + 1 := by rw [← hW0]; simp
  have hb0 : W0.heap[W.heap.size]? = some (.cells #[.int .u8 0, .int .i64 0, .string ⟨#[]⟩, .slice none 0 0, .slice none 0 0, .slice none 0 0, .int .u8 0, .slice none 0 0, .slice none 0 0, .string ⟨#[]⟩] 42 (0, 0)) := by rw [← hW0]; exact heap_alloc_new _ _
  have HK0 := Lib.hid hb0
  have HKY := Lib.hid (hky t d W0 (Nat.le_refl _) hr0)
  have HN := Lib.hid (fun t d W (h : RD' W1 wv ws c t d W) => name_any h hn)
  have HWP : Hid (∀ t' d' W', t ≤ t' → RD' W1 wv ws c t' d' W' → Calls Tryz.prog 225 #[rp W1, .func (.func 197) #[rp W1] #[]] W' (PostR W1 wv ws c (t' + 1) W' (FSl ShP 231 11 W'.heap.size) (withinP (ws.map nol) (pairP (ws.map nol) ex) t' d'))) := Lib.hid fun t' d' W' h1 h2 => withinP_any h2 hn (fun t2 d2 W2 h3 h4 => pair_any h4 hn (fun t3 d3 W3 h5 h6 => he t3 d3 W3 (Nat.le_trans (Nat.le_trans h1 h3) h5) h6))
  have HLE : Hid (∀ t' d' W', t ≤ t' → RD' W1 wv ws c t' d' W' → Calls Tryz.prog 162 #[rp W1, .func (.func 64) #[rp W1] #[]] W' (PostR W1 wv ws c (t' + 1) W' (FSl ShE 42 10 W'.heap.size) (allP (ws.map nol) (ex) FU t' d'))) := Lib.hid fun t' d' W' h1 h2 => allE_any h2 hn (fun t2 d2 W2 h3 h4 => he t2 d2 W2 (Nat.le_trans h1 h3) h4) FU (by unfold FU; omega)
  have HPD := Lib.hid (fun (k : Int) (S : ByteArray) (kp : Option Addr) (kl kq : Nat) (l : List (List T)) (al : Option Addr) (cap B : Nat) (W : World) (hf : FRows ShP 231 11 B l (.slice al l.length cap) W) (hB : B ≤ W.heap.size) (hl : l.length ≤ 65537) => paired_any 11 0 S none 0 0 k kp kl kq none 0 0 ⟨#[]⟩ l al cap B W hf hB hl)
  obtain ⟨rs, hrs⟩ : ∃ r, (elemP (ws.map nol) ex 5 t d) = r := ⟨_, rfl⟩
  rw [hrs]
  obtain ⟨post, hpost⟩ : ∃ p, PostR W1 wv ws c (t) W (FT ShE W.heap.size) rs = p := ⟨_, rfl⟩
  have HB : Hid (∀ t' w', rs = .bad t' → (∃ d, RD W1 wv ws c t' d w') → Gr W1 W w' → post (.panicked [pz]) w') := fun t' w' h1 h2 h3 => by rw [← hpost]; exact .inl ⟨t', h1, rfl, h2, h3⟩
  have HO : Hid (∀ x t' d' v w', rs = .ok x t' d' → (FT ShE W.heap.size) x v w' → t ≤ t' → RD' W1 wv ws c t' d' w' → Gr W1 W w' → post (.returned v) w') := fun x t' d' v w' h1 h2 h3 h4 h5 => by rw [← hpost]; exact .inr ⟨x, t', d', v, h1, rfl, h2, h3, h4, h5⟩
  rw [hpost]
  have HRS := Lib.hid hrs
  clear hrs hpost
  clear h hb0 hky he
  go_enter Tryz.func199, Tryz.ntmps199
  go_upto_region 17 with (first
    | (go_at_call 224; (with_reducible refine (HKY.out).mono ?_); rintro e1 w1 (⟨t1, hp1, rfl, hb1, hk1⟩ | ⟨x1, t1, d1, v1, hp1, rfl, ⟨la1, ln1, lc1, rfl, hf1, rfl, hle1⟩, hl1, hr1, hk1⟩))
    | (go_at_call 62; (with_reducible refine (HN.out _ _ _ (hr1.alloc _)).mono ?_); rintro e2 w2 (⟨t2, hp2, rfl, hb2, hk2⟩ | ⟨x2, t2, d2, v2, hp2, rfl, rfl, hl2, hr2, hk2⟩); all_goals (obtain ⟨⟨e0, e1, e2, e3, e4, e5, e6, e7, e8, e9⟩, ⟨k0, k1, k2, k3, k4, k5, k6, k7, k8, k9⟩⟩ := blk10 (gr_block hk2 (by have := hr1.1.lt; omega) (heap_alloc_new w1 (.cells #[.int .u8 11, .int .i64 0, .string ⟨#[]⟩, .slice none 0 0, .slice none 0 0, .slice none 0 0, .int .u8 5, .slice la1 x1.length lc1, .slice none 0 0, .string ⟨#[]⟩] 42))))))
  · exact ⟨rfl, HB.out _ _ (by rw [← HRS.out]; simp [elemP, hp1]) hb1 (hg0.trans hk1)⟩
  · exact ⟨rfl, HB.out _ _ (by rw [← HRS.out]; simp [elemP, hp1, hp2]) hb2 (((hg0.trans hk1).alloc _).trans hk2)⟩
  have hlt1 := hr1.1.lt
  have hsz1 := hk1.size
  have hsz2 := hk2.size
  have hsz2' : w1.heap.size + 1 ≤ w2.heap.size := by simpa using hsz2
  have hltW0 := Nat.lt_of_lt_of_le hlt hg0.size
  have hbk := gr_block hk2 (by omega) (heap_alloc_new w1 (.cells #[.int .u8 11, .int .i64 0, .string ⟨#[]⟩, .slice none 0 0, .slice none 0 0, .slice none 0 0, .int .u8 5, .slice la1 x1.length lc1, .slice none 0 0, .string ⟨#[]⟩] 42))
  obtain ⟨W5, hW5⟩ : ∃ W5, w2.setCell ⟨w1.heap.size, 2, none⟩ (.string ⟨x2.toArray⟩) = W5 := ⟨_, rfl⟩
  have hr5 : RD' W1 wv ws c t2 d2 W5 := by rw [← hW5]; exact hr2.setN (by omega) 2 _
  have hg5 : Gr W1 W W5 := by rw [← hW5]; exact (((hg0.trans hk1).alloc _).trans hk2).setN (by omega) 2 _
  have hk5 : Gr W1 W0 W5 := by rw [← hW5]; exact ((hk1.alloc _).trans hk2).setN (by omega) 2 _
  have hk15 : Gr W1 w1 W5 := by rw [← hW5]; exact (((gr_refl W1 w1).alloc _).trans hk2).setN (Nat.le_refl _) 2 _
  have hz5 : W5.heap.size = w2.heap.size := by rw [← hW5]; simp [World.setCell]
  have HE5 : Hid (W5.heap[w1.heap.size]? = some (.cells #[.int .u8 11, .int .i64 0, .string ⟨x2.toArray⟩, .slice none 0 0, .slice none 0 0, .slice none 0 0, .int .u8 5, .slice la1 x1.length lc1, .slice none 0 0, .string ⟨#[]⟩] 42 (0, 0))) := Lib.hid (by rw [← hW5]; exact set_row hbk 2 _)
  clear e0 e1 e2 e3 e4 e5 e6 e7 e8 e9 k0 k1 k2 k3 k4 k5 k6 k7 k8 k9 hbk hsz2
  try rw [hW5]
  clear hW5
  have HKR : Hid (∀ w6 w7, Gr W1 W5 w6 → (∀ b, W0.heap.size ≤ b → b ≠ w1.heap.size → b < w6.heap.size → w7.heap[b]? = w6.heap[b]?) → w6.heap.size ≤ w7.heap.size → (ofRows 10 x1).Rep w7 (W.heap.size ≤ ·) (.slice la1 x1.length lc1)) := Lib.hid fun w6 w7 h6 h7 hs7 => rep_key hf1 hk15 h6 h7 hs7 hltW0 (by omega)
  have HNR : Hid (∀ w6 w7, Gr W1 W5 w6 → (∀ b, W0.heap.size ≤ b → b ≠ w1.heap.size → b < w6.heap.size → w7.heap[b]? = w6.heap[b]?) → w6.heap.size ≤ w7.heap.size → (ofRows 1 []).Rep w7 (W.heap.size ≤ ·) (.slice none 0 0)) := Lib.hid fun w6 w7 h6 h7 hs7 => rep_nil 1
  have HVR : Hid (∀ w6 w7, Gr W1 W5 w6 → (∀ b, W0.heap.size ≤ b → b ≠ w1.heap.size → b < w6.heap.size → w7.heap[b]? = w6.heap[b]?) → w6.heap.size ≤ w7.heap.size → (ofRows 10 []).Rep w7 (W.heap.size ≤ ·) (.slice none 0 0)) := Lib.hid fun w6 w7 h6 h7 hs7 => rep_nil 10
  clear HKY HN HWP HPD
  obtain ⟨⟨e0, e1, e2, e3, e4, e5, e6, e7, e8, e9⟩, ⟨k0, k1, k2, k3, k4, k5, k6, k7, k8, k9⟩⟩ := blk10 HE5.out
  go_wp2_with (first
    | (go_at_call 162; (with_reducible refine (HLE.out _ _ _ (by omega) hr5).mono ?_); rintro e6 w6 (⟨t6, hp6, rfl, hb6, hk6⟩ | ⟨x6, t6, d6, v6, hp6, rfl, ⟨la6, ln6, lc6, rfl, hf6, rfl, hle6⟩, hl6, hr6, hk6⟩); all_goals (obtain ⟨⟨f0, f1, f2, f3, f4, f5, f6, f7, f8, f9⟩, ⟨g0, g1, g2, g3, g4, g5, g6, g7, g8, g9⟩⟩ := blk10 (gr_block hk6 (by omega) HE5.out)))
    | (refine wpList_load_row rfl 42 _ rfl w1.heap.size rfl 42 #[.int .u8 11, .int .i64 0, .string ⟨x2.toArray⟩, .slice la6 x6.length lc6, .slice none 0 0, .slice none 0 0, .int .u8 5, .slice la1 x1.length lc1, .slice none 0 0, .string ⟨#[]⟩] (0, 0) _ (set_row (gr_block hk6 (by omega) HE5.out) 3 _) Tryz.underlying42 rfl iszE ?_)
    | (refine wpList_store_row rfl 42 _ _ rfl W.heap.size _ rfl rfl 42 #[.int .u8 0, .int .i64 0, .string ⟨#[]⟩, .slice none 0 0, .slice none 0 0, .slice none 0 0, .int .u8 0, .slice none 0 0, .slice none 0 0, .string ⟨#[]⟩] ((Below.heap_setCell _ _ _ _ (by show W.heap.size ≠ w1.heap.size; omega)).trans (gr_block (hk5.trans hk6) hlt HK0.out)) iszE rfl (all_one (shE_one (by exact ⟨_, _, _, _, _, _, _, _, _, _, _, _, _, _, _, _, _, _, _, _, rfl⟩)).1) ?_))
  · exact ⟨rfl, HB.out _ _ (by rw [← HRS.out]; simp [elemP, hp1, hp2, hp6]) hb6 (hg5.trans hk6)⟩
  · have hsz6 := hk6.size
    refine bodyPost_ret (results_cell_row Tryz.results199 _ _ W.heap.size 42 _ (0, 0) _ rfl (setRow_heap _ _ _ _ _ _ ((Below.heap_setCell _ _ _ _ (by show W.heap.size ≠ w1.heap.size; omega)).trans (gr_block (hk5.trans hk6) hlt HK0.out))) Tryz.underlying42 rfl iszE) rfl ?_
    have hrow : ∀ w7, (∀ b, W0.heap.size ≤ b → b ≠ w1.heap.size → b < w6.heap.size → w7.heap[b]? = w6.heap[b]?) → w6.heap.size ≤ w7.heap.size → Row w7 (W.heap.size ≤ ·) (eCols 11 0 x2 x6 [] [] 5 x1 [] []) [.int .u8 11, .int .i64 0, .string ⟨x2.toArray⟩, .slice la6 x6.length lc6, .slice none 0 0, .slice none 0 0, .int .u8 5, .slice la1 x1.length lc1, .slice none 0 0, .string ⟨#[]⟩] := fun w7 h7 hs7 =>
      row_one _ (row_one _ (row_one _ (row_rows (hf6.rep.keep hs7 (fun _ _ h => by omega) (fun b h1 h2 => h7 b (by omega) (by omega) h2)) (row_rows (HNR.out w6 w7 hk6 h7 hs7) (row_rows (HVR.out w6 w7 hk6 h7 hs7) (row_one _ (row_rows (HKR.out w6 w7 hk6 h7 hs7) (row_rows (rep_nil 12) (row_one _ .nil)))))))))
    refine HO.out (eCols 11 0 x2 x6 [] [] 5 x1 [] []) t6 d6 _ _ (by rw [← HRS.out]; simp [elemP, hp1, hp2, hp6]) ⟨_, rfl, ⟨_, _, _, _, _, _, _, _, _, _, _, _, _, _, _, _, _, _, _, _, rfl⟩, hrow _ (fun b h1 h2 h3 => by rw [setRow_other _ _ _ _ (by omega), Below.heap_setCell _ _ _ _ (by show b ≠ w1.heap.size; exact h2)]) (by simp [World.setRow, World.setCell])⟩ (by omega) ((put_row _ _ _).rd (hr6.setN (by omega) 3 _) hlt) ((put_row _ _ _).gr ((hg5.trans hk6).setN (by omega) 3 _) (Nat.le_refl _))
end Go.Proofs.YtedmmgfnplbkjaaGreatDoor
