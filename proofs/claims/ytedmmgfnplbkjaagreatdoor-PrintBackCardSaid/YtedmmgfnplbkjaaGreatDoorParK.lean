/-
  Walks: plain, site, key.
  Conditions: the reader lies as 'RD' says; its words are at most 65536.
  Walks: site.
  Conditions: the reader lies as 'RD' says; its words are at most 65536; the component's name is no longer than a text.
  Walks: key, pairsOf.
  Conditions: the reader lies as 'RD' says; its words are at most 65536.
-/
import Derived.Test.YtedmmgfnplbkjaaGreatDoorParT
import Derived.Test.YtedmmgfnplbkjaaGreatDoorShelfI
import Derived.Lib.ItoaLen
import Derived.Deep.RegionHeld3
import Derived.Lib.AppendIntMem
namespace Go.Proofs.YtedmmgfnplbkjaaGreatDoor
set_option linter.unusedVariables false
set_option linter.unusedSimpArgs false
open Go.RowKit G
theorem plain_cases (s : Str) : s = [121, 101, 115] ∨ s = [110, 111] ∨ s = [110, 111, 110, 101] ∨ s = [45] ∨ (¬ s = [121, 101, 115] ∧ (s == [121, 101, 115]) = false ∧ ¬ s = [110, 111] ∧ (s == [110, 111]) = false ∧ ¬ s = [110, 111, 110, 101] ∧ (s == [110, 111, 110, 101]) = false ∧ ¬ s = [45] ∧ (s == [45]) = false) := by
  by_cases h0 : s = [121, 101, 115]
  · exact .inl h0
  by_cases h1 : s = [110, 111]
  · exact .inr (.inl h1)
  by_cases h2 : s = [110, 111, 110, 101]
  · exact .inr (.inr (.inl h2))
  by_cases h3 : s = [45]
  · exact .inr (.inr (.inr (.inl h3)))
  exact .inr (.inr (.inr (.inr (⟨h0, by simpa using h0, h1, by simpa using h1, h2, by simpa using h2, h3, by simpa using h3⟩))))
set_option maxRecDepth 100000 in
set_option maxHeartbeats 16000000 in
theorem plain_any {W1 : World} {wv : Value} {ws : List LX.LW} {c : Str} {t d : Nat} {W : World} (h : RD' W1 wv ws c t d W) (hn : ws.length ≤ 65536) (s : Str) :
    Calls Tryz.prog 166 #[.string ⟨s.toArray⟩] W (PostR W1 wv ws c (t) W (FT ShE W.heap.size) (plainP s t d)) := by
  obtain ⟨W0, hW0⟩ : ∃ W0, W.alloc (.cells #[.int .u8 0, .int .i64 0, .string ⟨#[]⟩, .slice none 0 0, .slice none 0 0, .slice none 0 0, .int .u8 0, .slice none 0 0, .slice none 0 0, .string ⟨#[]⟩] 42) = W0 := ⟨_, rfl⟩
  have hlt := h.1.lt
  have hr0 : RD' W1 wv ws c t d W0 := by rw [← hW0]; exact h.alloc _
  have hg0 : Gr W1 W W0 := by rw [← hW0]; exact (gr_refl W1 W).alloc _
  have hz0 : W0.heap.size = W.heap.size + 1 := by rw [← hW0]; simp
  have hb0 : W0.heap[W.heap.size]? = some (.cells #[.int .u8 0, .int .i64 0, .string ⟨#[]⟩, .slice none 0 0, .slice none 0 0, .slice none 0 0, .int .u8 0, .slice none 0 0, .slice none 0 0, .string ⟨#[]⟩] 42 (0, 0)) := by rw [← hW0]; exact heap_alloc_new _ _
  have HK0 := Lib.hid hb0
  have htn := h.2.1
  have hdn := h.2.2
  obtain ⟨rs, hrs⟩ : ∃ r, (plainP s t d) = r := ⟨_, rfl⟩
  rw [hrs]
  obtain ⟨post, hpost⟩ : ∃ p, PostR W1 wv ws c (t) W (FT ShE W.heap.size) rs = p := ⟨_, rfl⟩
  have HB : Hid (∀ t' w', rs = .bad t' → (∃ d, RD W1 wv ws c t' d w') → Gr W1 W w' → post (.panicked [pz]) w') := fun t' w' h1 h2 h3 => by rw [← hpost]; exact .inl ⟨t', h1, rfl, h2, h3⟩
  have HO : Hid (∀ x t' d' v w', rs = .ok x t' d' → (FT ShE W.heap.size) x v w' → t ≤ t' → RD' W1 wv ws c t' d' w' → Gr W1 W w' → post (.returned v) w') := fun x t' d' v w' h1 h2 h3 h4 h5 => by rw [← hpost]; exact .inr ⟨x, t', d', v, h1, rfl, h2, h3, h4, h5⟩
  rw [hpost]
  have HRS := Lib.hid hrs
  clear hrs hpost
  clear h hb0
  rcases plain_cases s with rfl | rfl | rfl | rfl | ⟨n0, q0, n1, q1, n2, q2, n3, q3⟩
  · go_enter Tryz.func166, Tryz.ntmps166
    go_wp2_with (first
      | (refine wpList_store_row rfl 42 _ _ rfl W.heap.size _ rfl rfl 42 #[.int .u8 0, .int .i64 0, .string ⟨#[]⟩, .slice none 0 0, .slice none 0 0, .slice none 0 0, .int .u8 0, .slice none 0 0, .slice none 0 0, .string ⟨#[]⟩] HK0.out iszE rfl (all_one (shE_one (by exact ⟨_, _, _, _, _, _, _, _, _, _, _, _, _, _, _, _, _, _, _, _, rfl⟩)).1) ?_))
    · have hsz := Nat.le_refl W0.heap.size
      refine bodyPost_ret (results_cell_row Tryz.results166 _ _ W.heap.size 42 _ (0, 0) _ rfl (setRow_heap _ _ _ _ _ _ HK0.out) Tryz.underlying42 rfl iszE) rfl ?_
      refine HO.out (eCols 2 1 [] [] [] [] 0 [] [] []) t d _ _ (by rw [← HRS.out]; simp [plainP]) ⟨_, rfl, ⟨_, _, _, _, _, _, _, _, _, _, _, _, _, _, _, _, _, _, _, _, rfl⟩, ?_⟩ (by omega) ((put_row _ _ _).rd hr0 hlt) ((put_row _ _ _).gr hg0 (Nat.le_refl _))
      exact Row.low (C := W.heap.size) (by omega) (Put.rowB (g := W.heap.size) (put_row _ _ _) (B := W.heap.size + 1) (Nat.lt_succ_self _) (row_one _ (row_one _ (row_one _ (row_rows (rep_nil 10) (row_rows (rep_nil 1) (row_rows (rep_nil 10) (row_one _ (row_rows (rep_nil 10) (row_rows (rep_nil 12) (row_one _ .nil)))))))))))
  · go_enter Tryz.func166, Tryz.ntmps166
    go_wp2_with (first
      | (refine wpList_store_row rfl 42 _ _ rfl W.heap.size _ rfl rfl 42 #[.int .u8 0, .int .i64 0, .string ⟨#[]⟩, .slice none 0 0, .slice none 0 0, .slice none 0 0, .int .u8 0, .slice none 0 0, .slice none 0 0, .string ⟨#[]⟩] HK0.out iszE rfl (all_one (shE_one (by exact ⟨_, _, _, _, _, _, _, _, _, _, _, _, _, _, _, _, _, _, _, _, rfl⟩)).1) ?_))
    · have hsz := Nat.le_refl W0.heap.size
      refine bodyPost_ret (results_cell_row Tryz.results166 _ _ W.heap.size 42 _ (0, 0) _ rfl (setRow_heap _ _ _ _ _ _ HK0.out) Tryz.underlying42 rfl iszE) rfl ?_
      refine HO.out (eCols 2 0 [] [] [] [] 0 [] [] []) t d _ _ (by rw [← HRS.out]; simp [plainP]) ⟨_, rfl, ⟨_, _, _, _, _, _, _, _, _, _, _, _, _, _, _, _, _, _, _, _, rfl⟩, ?_⟩ (by omega) ((put_row _ _ _).rd hr0 hlt) ((put_row _ _ _).gr hg0 (Nat.le_refl _))
      exact Row.low (C := W.heap.size) (by omega) (Put.rowB (g := W.heap.size) (put_row _ _ _) (B := W.heap.size + 1) (Nat.lt_succ_self _) (row_one _ (row_one _ (row_one _ (row_rows (rep_nil 10) (row_rows (rep_nil 1) (row_rows (rep_nil 10) (row_one _ (row_rows (rep_nil 10) (row_rows (rep_nil 12) (row_one _ .nil)))))))))))
  · go_enter Tryz.func166, Tryz.ntmps166
    go_wp2_with (first
      | (refine wpList_store_row rfl 42 _ _ rfl W.heap.size _ rfl rfl 42 #[.int .u8 0, .int .i64 0, .string ⟨#[]⟩, .slice none 0 0, .slice none 0 0, .slice none 0 0, .int .u8 0, .slice none 0 0, .slice none 0 0, .string ⟨#[]⟩] HK0.out iszE rfl (all_one (shE_one (by exact ⟨_, _, _, _, _, _, _, _, _, _, _, _, _, _, _, _, _, _, _, _, rfl⟩)).1) ?_))
    · have hsz := Nat.le_refl W0.heap.size
      refine bodyPost_ret (results_cell_row Tryz.results166 _ _ W.heap.size 42 _ (0, 0) _ rfl (setRow_heap _ _ _ _ _ _ HK0.out) Tryz.underlying42 rfl iszE) rfl ?_
      refine HO.out (eNone) t d _ _ (by rw [← HRS.out]; simp [plainP]) ⟨_, rfl, ⟨_, _, _, _, _, _, _, _, _, _, _, _, _, _, _, _, _, _, _, _, rfl⟩, ?_⟩ (by omega) ((put_row _ _ _).rd hr0 hlt) ((put_row _ _ _).gr hg0 (Nat.le_refl _))
      exact Row.low (C := W.heap.size) (by omega) (Put.rowB (g := W.heap.size) (put_row _ _ _) (B := W.heap.size + 1) (Nat.lt_succ_self _) (row_one _ (row_one _ (row_one _ (row_rows (rep_nil 10) (row_rows (rep_nil 1) (row_rows (rep_nil 10) (row_one _ (row_rows (rep_nil 10) (row_rows (rep_nil 12) (row_one _ .nil)))))))))))
  · go_enter Tryz.func166, Tryz.ntmps166
    go_wp2
    exact ⟨rfl, HB.out _ _ (by rw [← HRS.out]; simp [plainP]) ⟨_, hr0.1⟩ hg0⟩
  · go_enter Tryz.func166, Tryz.ntmps166
    go_wp2_with (refine wpList_store_row rfl 42 _ _ rfl W.heap.size _ rfl rfl 42 #[.int .u8 0, .int .i64 0, .string ⟨#[]⟩, .slice none 0 0, .slice none 0 0, .slice none 0 0, .int .u8 0, .slice none 0 0, .slice none 0 0, .string ⟨#[]⟩] HK0.out iszE rfl (all_one (shE_one (by exact ⟨_, _, _, _, _, _, _, _, _, _, _, _, _, _, _, _, _, _, _, _, rfl⟩)).1) ?_)
    refine bodyPost_ret (results_cell_row Tryz.results166 _ _ W.heap.size 42 _ (0, 0) _ rfl (setRow_heap _ _ _ _ _ _ HK0.out) Tryz.underlying42 rfl iszE) rfl ?_
    refine HO.out (eCols 4 0 s [] [] [] 0 [] [] []) t d _ _ (by rw [← HRS.out]; simp [plainP, n0, n1, n2, n3]) ⟨_, rfl, ⟨_, _, _, _, _, _, _, _, _, _, _, _, _, _, _, _, _, _, _, _, rfl⟩, ?_⟩ (by omega) ((put_row _ _ _).rd hr0 hlt) ((put_row _ _ _).gr hg0 (Nat.le_refl _))
    exact Row.low (C := W.heap.size) (by omega) (Put.rowB (g := W.heap.size) (put_row _ _ _) (B := W.heap.size + 1) (Nat.lt_succ_self _) (row_one _ (row_one _ (row_one _ (row_rows (rep_nil 10) (row_rows (rep_nil 1) (row_rows (rep_nil 10) (row_one _ (row_rows (rep_nil 10) (row_rows (rep_nil 12) (row_one _ .nil)))))))))))
end Go.Proofs.YtedmmgfnplbkjaaGreatDoor
namespace Go.Proofs.YtedmmgfnplbkjaaGreatDoor
set_option linter.unusedVariables false
set_option linter.unusedSimpArgs false
open Go.RowKit G
set_option maxRecDepth 100000 in
set_option maxHeartbeats 8000000 in
theorem site_any {W1 : World} {wv : Value} {ws : List LX.LW} {c : Str} {t d : Nat} {W : World} (h : RD' W1 wv ws c t d W) (hn : ws.length ≤ 65536) (hc : c.length ≤ 70000) (hdt : d + 1 ≤ t) (ht : LTabs W) :
    Calls Tryz.prog 198 #[rp W1] W fun e w' => e = .returned (.string ⟨(siteS c d).toArray⟩) ∧ RD' W1 wv ws c t (d + 1) w' ∧ Gr W1 W w' := by
  obtain ⟨h0, htn, hd⟩ := h
  have hlen := Lib.itoa_length_le (d : Int) (by omega) (by omega)
  have HI : Hid (∀ w, LTabs w → Calls Tryz.prog 176 #[.int .i64 d] w fun e w' => e = .returned (.string ⟨(Lib.itoa (d : Int)).toArray⟩) ∧ Below w.heap.size w w') := fun w ht => (Tryz.strconv_Itoa (d : Int) (by omega) (by omega) w ht.1).mono (by
    rintro e w' ⟨rfl, k, os, rfl⟩
    exact ⟨rfl, Lib.below_grow _ _ (Nat.le_refl _) _ _⟩)
  have HT := Lib.hid ht
  have HR := Lib.hid h0
  obtain ⟨⟨c0, c1, c2, c3⟩, f0, f1, f2, f3⟩ := h0.cells
  obtain ⟨x1, hx1⟩ : ∃ x, ByteArray.append ⟨c.toArray⟩ ⟨#[35]⟩ = x := ⟨_, rfl⟩
  obtain ⟨bi, hbi⟩ : ∃ bc : ByteArray, (⟨(Lib.itoa (d : Int)).toArray⟩ : ByteArray) = bc := ⟨_, rfl⟩
  obtain ⟨x2, hx2⟩ : ∃ x, ByteArray.append x1 bi = x := ⟨_, rfl⟩
  have hs1 : x1.size = c.length + 1 := by rw [← hx1]; simp [ByteArray.append, ByteArray.size]
  have hsi : bi.size ≤ 21 := by rw [← hbi]; exact hlen
  have K1 : ∀ W, (Op.stringOp .add ⟨c.toArray⟩ ⟨#[35]⟩).run Tryz.prog W = .ok (.string x1) W := fun W => by rw [← hx1]; exact run_string_add_sum W _ _ (by show c.length + 1 ≤ _; omega)
  have K2' : ∀ W, (Op.stringOp .add x1 bi).run Tryz.prog W = .ok (.string x2) W := fun W => by rw [← hx2]; exact run_string_add_sum W _ _ (by omega)
  have hx : x2 = ⟨(siteS c d).toArray⟩ := by
    rw [← hx2, ← hx1, ← hbi]
    simp [ByteArray.append, siteS]
  have HX := Lib.hid hx
  clear hx
  rw [hbi] at HI
  have HW1 : Hid (∀ w1, Below W.heap.size W w1 → w1.cell? ⟨W1.heap.size, 2, none⟩ = some (.string ⟨c.toArray⟩) ∧ w1.cell? ⟨W1.heap.size, 3, none⟩ = some (.int .i64 d)) := fun w1 hb =>
    ⟨by rw [hb.cell (p := ⟨W1.heap.size, 2, none⟩) HR.out.lt]; exact HR.out.cells.1.2.2.1, by rw [hb.cell (p := ⟨W1.heap.size, 3, none⟩) HR.out.lt]; exact HR.out.cells.1.2.2.2⟩
  have hw1 : IntKind.i64.wrap ((d : Int) + 1) = (d : Int) + 1 := IntWalk.i64_in _ (by omega)
  clear h0 ht hx1 hx2 hbi
  go_enter Tryz.func198, Tryz.ntmps198
  go_wp2
  go_region_held3 (fun w' => Below W.heap.size W w' ∧ w'.cell? ⟨W1.heap.size, 2, none⟩ = some (.string ⟨c.toArray⟩) ∧ w'.cell? ⟨W1.heap.size, 3, none⟩ = some (.int .i64 d)) (first | exact ⟨(Below.refl _ _).drew, HW1.out _ ((Below.refl _ _).drew)⟩ | exact ⟨hbx, HW1.out _ hbx⟩)
    (first | (go_at_call 176; (with_reducible refine (HI.out _ (HT.out.below (Below.refl _ _).drew HT.out.gb)).mono ?_); rintro x w1 ⟨rfl, hby⟩; have hbx : Below W.heap.size W w1 := (Below.refl W.heap.size W).drew.trans hby))
  have HBX := Lib.hid (hbx : Below W.heap.size W w1)
  obtain ⟨d0, d1⟩ := HW1.out _ hbx
  have hrd := HR.out.keep hbx
  obtain ⟨-, f0, f1, f2, f3⟩ := hrd.cells
  have HR2 := Lib.hid hrd
  clear hrd
  go_wp2
  refine bodyPost_ret (results_tmp Tryz.results198 _ _ _) rfl ?_
  refine ⟨?_, ⟨HR2.out.setD (d + 1), htn, hdt⟩, ((gr_refl W1 W).below HBX.out).set 3 _⟩
  rw [← HX.out]
  rfl
end Go.Proofs.YtedmmgfnplbkjaaGreatDoor
namespace Go.Proofs.YtedmmgfnplbkjaaGreatDoor
set_option linter.unusedVariables false
set_option linter.unusedSimpArgs false
open Go.RowKit G
theorem frows_one {Sh : List Value → Prop} {ty : TypeId} {k B : Nat} {w : World} {ts : List T} {vs : List Value} (hs : Sh vs) (hk : ts.length = k) (hr : Row w (B ≤ ·) ts vs) (hB : B ≤ w.heap.size) :
    FRows Sh ty k B [ts] (.slice (some ⟨w.heap.size, 0, none⟩) 1 1) (w.alloc (.cells vs.toArray ty)) := by
  have hl : vs.length = k := by rw [hr.length, hk]
  have hz : (w.alloc (.cells vs.toArray ty)).heap.size = w.heap.size + 1 := by simp
  refine ⟨[vs], ⟨by simp [hl], .inr ⟨w.heap.size, 1, vs.toArray, rfl, hB, heap_alloc_new _ _, Nat.le_refl _, by unfold maxLen; omega, by simp [hl], ?_⟩⟩, .cons ⟨hk, hr.keep (by omega) (fun b h1 h2 => ⟨h2, fun e => ?_⟩) (fun b _ h2 => Below.heap_alloc _ _ _ h2)⟩ .nil, fun x hx => by rw [List.mem_singleton.1 hx]; exact hs⟩
  · simp [List.take_of_length_le (Nat.le_of_eq hl)]
  · simp only [Value.ownBlock, Option.some.injEq] at e
    omega
theorem key_cases (k : Nat) (s : Str) : (k = 1 ∧ s = [45]) ∨ (Hid (k = 1) ∧ ((k : Int) == 1) = true ∧ ¬ s = [45] ∧ (s == [45]) = false) ∨ (¬ k = 1 ∧ ¬ (k : Int) = 1 ∧ ((k : Int) == 1) = false) := by
  by_cases h : k = 1
  · by_cases h2 : s = [45]
    · exact .inl ⟨h, h2⟩
    · exact .inr (.inl ⟨Lib.hid h, by rw [h]; rfl, h2, by simpa using h2⟩)
  · exact .inr (.inr ⟨h, by omega, by have : ¬ (k : Int) = 1 := by omega
                                      simpa using this⟩)
theorem isDash_of {ws : List LX.LW} {t k l : Nat} {s : Str} {n : Int} (h : ws[t]? = some ⟨k, s, n, l⟩) : isDash (ws.map nol) t = (k == 1 && s == [45]) := by
  unfold isDash
  rw [nol_get, h]
  rfl
theorem isDash_end {ws : List LX.LW} {t : Nat} (h : ws[t]? = none) : isDash (ws.map nol) t = false := by
  unfold isDash
  rw [nol_get, h]
  rfl
set_option maxRecDepth 100000 in
set_option maxHeartbeats 8000000 in
theorem key_any {W1 : World} {wv : Value} {ws : List LX.LW} {c : Str} {t d : Nat} {W : World} (h : RD' W1 wv ws c t d W) (hn : ws.length ≤ 65536) {ex : Nat → Nat → Rs (List T)} (heo : ∀ t' d' w W', t ≤ t' → ws[t']? = some w → RD' W1 wv ws c (t' + 1) d' W' → d' ≤ t' → Calls Tryz.prog 115 #[rp W1, .agg #[.int .u8 (w.k : Nat), .string ⟨w.s.toArray⟩, .int .i64 w.n, .int .i64 (w.line : Nat)]] W' (PostR W1 wv ws c (t' + 1) W' (FT ShE W'.heap.size) (ex t' d'))) (hn0 : ∀ t d, ws[t]? = none → ex t d = .bad (t + 1)) :
    Calls Tryz.prog 224 #[rp W1] W (PostR W1 wv ws c (t + 1) W (FSl ShE 42 10 W.heap.size) (keyP (ws.map nol) ex t d)) := by
  have HT := Lib.hid (take_out h hn)
  have HE := Lib.hid (fun kk s nn ll w' (h1 : ws[t]? = some ⟨kk, s, nn, ll⟩) (h2 : RD' W1 wv ws c (t + 1) d w') => heo t d _ w' (Nat.le_refl _) h1 h2 h.2.2)
  have HN0 := Lib.hid (hn0 t d)
  have hlt := h.1.lt
  obtain ⟨rs, hrs⟩ : ∃ r, (keyP (ws.map nol) ex t d) = r := ⟨_, rfl⟩
  rw [hrs]
  obtain ⟨post, hpost⟩ : ∃ p, PostR W1 wv ws c (t + 1) W (FSl ShE 42 10 W.heap.size) rs = p := ⟨_, rfl⟩
  have HB : Hid (∀ t' w', rs = .bad t' → (∃ d, RD W1 wv ws c t' d w') → Gr W1 W w' → post (.panicked [pz]) w') := fun t' w' h1 h2 h3 => by rw [← hpost]; exact .inl ⟨t', h1, rfl, h2, h3⟩
  have HO : Hid (∀ x t' d' v w', rs = .ok x t' d' → (FSl ShE 42 10 W.heap.size) x v w' → t + 1 ≤ t' → RD' W1 wv ws c t' d' w' → Gr W1 W w' → post (.returned v) w') := fun x t' d' v w' h1 h2 h3 h4 h5 => by rw [← hpost]; exact .inr ⟨x, t', d', v, h1, rfl, h2, h3, h4, h5⟩
  rw [hpost]
  have HRS := Lib.hid hrs
  clear hrs hpost
  clear h heo hn0
  go_enter Tryz.func224, Tryz.ntmps224
  go_wp2_with (first
    | (go_at_call 107; (with_reducible refine HT.out.mono ?_); rintro e w1 (⟨hp1, rfl, hb, hk⟩ | ⟨kk, s, nn, ll, hp1, rfl, hr, hk⟩); all_goals (try (rcases key_cases kk s with ⟨rfl, rfl⟩ | ⟨n1, q0, n2, q1⟩ | ⟨n1, q1, q2⟩)))
    | (refine wpList_load_row rfl 90 _ rfl w1.heap.size rfl 90 _ (0, 0) _ (heap_alloc_new w1 _) Tryz.underlying90 rfl (by kernel_rfl) ?_)
    | (go_at_call 115; (with_reducible refine (HE.out _ _ _ _ _ hp1 (hr.alloc _)).mono ?_); rintro e2 w2 (⟨t2, hp2, rfl, hb2, hk2⟩ | ⟨x2, t2, d2, v2, hp2, rfl, ⟨vs2, rfl, ⟨ya0, ya1, ys2, yp3, yl3, yq3, yp4, yl4, yq4, yp5, yl5, yq5, ya6, yp7, yl7, yq7, yp8, yl8, yq8, ys9, rfl⟩, hrow2⟩, hl2, hr2, hk2⟩)))
  · exact ⟨rfl, HB.out _ _ (by rw [← HRS.out]; simp [keyP, isDash_end hp1, HN0.out hp1]) hb hk⟩
  · exact HO.out [] (t + 1) d _ _ (by rw [← HRS.out]; simp [keyP, isDash_of hp1]) ⟨none, 0, 0, rfl, FRows.nil _ _ _ _ _, rfl, by simp⟩ (Nat.le_refl _) (hr.alloc _) (hk.alloc _)
  · exact ⟨rfl, HB.out _ _ (by rw [← HRS.out]; simp [keyP, isDash_of hp1, n1, n2, hp2]) hb2 ((hk.alloc _).trans hk2)⟩
  · refine HO.out [x2] t2 d2 _ _ (by rw [← HRS.out]; simp [keyP, isDash_of hp1, n1, n2, hp2]) ⟨_, 1, 1, rfl, frows_one (ty := 42) ⟨_, _, _, _, _, _, _, _, _, _, _, _, _, _, _, _, _, _, _, _, rfl⟩ (by rw [← hrow2.length]; rfl) (Row.low (C := W.heap.size) ?_ hrow2) ?_, rfl, by simp⟩ hl2 (hr2.alloc _) (((hk.alloc _).trans hk2).alloc _)
    · have := hk.size; simp; omega
    · have := ((hk.alloc _).trans hk2).size; omega
  · exact ⟨rfl, HB.out _ _ (by rw [← HRS.out]; simp [keyP, isDash_of hp1, n1, hp2]) hb2 ((hk.alloc _).trans hk2)⟩
  · refine HO.out [x2] t2 d2 _ _ (by rw [← HRS.out]; simp [keyP, isDash_of hp1, n1, hp2]) ⟨_, 1, 1, rfl, frows_one (ty := 42) ⟨_, _, _, _, _, _, _, _, _, _, _, _, _, _, _, _, _, _, _, _, rfl⟩ (by rw [← hrow2.length]; rfl) (Row.low (C := W.heap.size) ?_ hrow2) ?_, rfl, by simp⟩ hl2 (hr2.alloc _) (((hk.alloc _).trans hk2).alloc _)
    · have := hk.size; simp; omega
    · have := ((hk.alloc _).trans hk2).size; omega
set_option maxRecDepth 100000 in
set_option maxHeartbeats 8000000 in
theorem pairsOf_any {W1 : World} {wv : Value} {ws : List LX.LW} {c : Str} {t d : Nat} {W : World} (h : RD' W1 wv ws c t d W) (hn : ws.length ≤ 65536) {ex : Nat → Nat → Rs (List T)} (he : ∀ t' d' W', t ≤ t' → RD' W1 wv ws c t' d' W' → Calls Tryz.prog 64 #[rp W1] W' (PostR W1 wv ws c (t' + 1) W' (FT ShE W'.heap.size) (ex t' d'))) (ns : List Str) (hns : ns.length ≤ 3) (b : Nat) (hbR : W1.heap.size < b) (hcell : ∀ i (hi : i < ns.length), W.cell? ⟨b, i, none⟩ = some (.string ⟨ns[i].toArray⟩)) :
    Calls Tryz.prog 226 #[rp W1, .slice (some ⟨b, 0, none⟩) ns.length ns.length] W (PostR W1 wv ws c t W (FSl ShP 231 11 W.heap.size) (pairsOfP ex ns t d)) := by
  have hlt := h.1.lt
  have HE := Lib.hid he
  have HC := Lib.hid hcell
  obtain ⟨rs, hrs⟩ : ∃ r, (pairsOfP ex ns t d) = r := ⟨_, rfl⟩
  rw [hrs]
  obtain ⟨post, hpost⟩ : ∃ p, PostR W1 wv ws c (t) W (FSl ShP 231 11 W.heap.size) rs = p := ⟨_, rfl⟩
  have HB : Hid (∀ t' w', rs = .bad t' → (∃ d, RD W1 wv ws c t' d w') → Gr W1 W w' → post (.panicked [pz]) w') := fun t' w' h1 h2 h3 => by rw [← hpost]; exact .inl ⟨t', h1, rfl, h2, h3⟩
  have HO : Hid (∀ x t' d' v w', rs = .ok x t' d' → (FSl ShP 231 11 W.heap.size) x v w' → t ≤ t' → RD' W1 wv ws c t' d' w' → Gr W1 W w' → post (.returned v) w') := fun x t' d' v w' h1 h2 h3 h4 h5 => by rw [← hpost]; exact .inr ⟨x, t', d', v, h1, rfl, h2, h3, h4, h5⟩
  rw [hpost]
  have HRS := Lib.hid hrs
  clear hrs hpost
  have HR0 := Lib.hid h
  clear h he hcell
  go_enter Tryz.func226, Tryz.ntmps226
  go_wp2
  go_loopw [5, 10] (fun u i wr => ∃ (v : Value) (l : List (List T)) (t' d' j : Nat), v = u ∧ i = .int .i64 j ∧ j ≤ ns.length ∧ FRows ShP 231 11 W.heap.size l v wr ∧ RD' W1 wv ws c t' d' wr ∧ Gr W1 W wr ∧ t ≤ t' ∧ l.length ≤ 3 + j ∧ (pairsOfP ex (ns.drop j) t' d').bind (fun l' t d => .ok (l ++ l') t d) = rs) (fun _ i _ => ns.length - (intOf i).toNat)
  case atStart =>
    refine ⟨_, [], t, d, 0, rfl, rfl, Nat.zero_le _, FRows.nil _ _ _ _ _, HR0.out, gr_refl _ _, Nat.le_refl _, Nat.zero_le _, ?_⟩
    rw [← HRS.out, List.drop_zero]
    cases pairsOfP ex ns t d <;> rfl
  case round =>
    obtain ⟨v, l, t1, d1, j, rfl, rfl, hj, hf, hr, hg, ht1, hl1, hrs⟩ := hrel
    obtain ⟨al, cl, rfl, hcl, hcm⟩ := hf.shape
    have htn := hr.2.1
    have HRR := Lib.hid hrs
    have HF := Lib.hid hf
    have hWs := hg.size
    clear hrs hf
    by_cases hjn : j < ns.length
    · have g1 : (j : Int) < (ns.length : Int) := by omega
      have g0 : (0 : Int) ≤ (j : Int) := by omega
      have hm2 : ns.drop j = ns[j] :: ns.drop (j + 1) := List.drop_eq_getElem_cons hjn
      have hcj := hg.cell (HC.out j hjn) (by intro e; injection e with e; have : b = W1.heap.size := e; omega)
      obtain ⟨nm, hnm⟩ : ∃ nm, ns[j] = nm := ⟨_, rfl⟩
      rw [hnm] at hcj hm2
      have HM := Lib.hid hm2
      clear hnm hm2
      go_wp2_with (first
        | (go_at_call 64; (with_reducible refine (HE.out _ _ _ ht1 hr).mono ?_); rintro e w3 (⟨t3, hp, rfl, hb, hk3⟩ | ⟨x, t3, d3, v3, hp, rfl, ⟨vs3, rfl, ⟨ya0, ya1, ys2, yp3, yl3, yq3, yp4, yl4, yq4, yp5, yl5, yq5, ya6, yp7, yl7, yq7, yp8, yl8, yq8, ys9, rfl⟩, hrow⟩, hl3, hr3, hk3⟩))
        | (have hW3 := hk3.size; refine append_R (ts := .sc (str nm) :: x) Tryz.underlying228 infP rfl (by decide) (by decide) (HF.out.gr hk3 hlt) (by omega) (by omega) (by rw [List.length_cons, ← hrow.length]; rfl) (row_one _ (hrow.keep (Nat.le_refl _) (fun b h1 h2 => ⟨by omega, fun e => by have := HF.out.own e.symm; omega⟩) (fun _ _ _ => rfl))) ⟨_, _, _, _, _, _, _, _, _, _, _, _, _, _, _, _, _, _, _, _, _, rfl⟩ (shP_one ⟨_, _, _, _, _, _, _, _, _, _, _, _, _, _, _, _, _, _, _, _, _, rfl⟩).1 rfl _ _ rfl rfl rfl ?_; intro v4 w4 hf4 hg4 ho4))
      · refine ⟨rfl, HB.out t3 _ ?_ hb (hg.trans hk3)⟩
        rw [← HRR.out, HM.out]
        simp only [pairsOfP, hp, Rs.bind_bad]
      · have HF3 := Lib.hid (HF.out.gr hk3 hlt)
        have hW3 := hk3.size
        go_roundw
        case rel =>
          refine ⟨_, l ++ [.sc (str nm) :: x], t3, d3, j + 1, rfl, by go_num, by omega, hf4, hr3.row hg4 (fun g e => by have := HF3.out.own e; omega), (hg.trans hk3).row hg4 (fun g e => (HF3.out.own e).1), by omega, by rw [List.length_append]; simp; omega, ?_⟩
          rw [← HRR.out, HM.out]
          simp only [pairsOfP, hp, Rs.bind_ok]
          cases pairsOfP ex (ns.drop (j + 1)) t3 d3 with
          | bad u => rfl
          | ok l2 u e => simp only [Rs.bind_ok]; rw [List.append_assoc]; rfl
        case measure => simp [intOf]; omega
    · have g1 : ¬ (j : Int) < (ns.length : Int) := by omega
      have hm2 : ns.drop j = [] := List.drop_eq_nil_of_le (by omega)
      go_wp2
      refine HO.out l t1 d1 _ _ ?_ ⟨al, l.length, cl, rfl, HF.out, rfl, by omega⟩ ht1 hr hg
      rw [← HRR.out, hm2]
      simp only [pairsOfP, Rs.bind_ok, List.append_nil]
end Go.Proofs.YtedmmgfnplbkjaaGreatDoor
