/-
  Walks: component.
  Conditions: the reader lies as 'RD' says; its words are at most 65536.
-/
import Derived.Test.YtedmmgfnplbkjaaGreatDoorParZ
import Derived.Deep.RegionLaw
namespace Go.Proofs.YtedmmgfnplbkjaaGreatDoor
set_option linter.unusedVariables false
set_option linter.unusedSimpArgs false
open Go.RowKit G
theorem comp_cases (s : Str) : s = [99, 111, 109, 112] ∨ (¬ s = [99, 111, 109, 112] ∧ (s == [99, 111, 109, 112]) = false) := by
  by_cases h0 : s = [99, 111, 109, 112]
  · exact .inl h0
  exact .inr (⟨h0, by simpa using h0⟩)
theorem show_cases (s : Str) : s = [115, 104, 111, 119] ∨ (¬ s = [115, 104, 111, 119] ∧ (s == [115, 104, 111, 119]) = false) := by
  by_cases h0 : s = [115, 104, 111, 119]
  · exact .inl h0
  exact .inr (⟨h0, by simpa using h0⟩)
def PostC {α : Type} (W1 : World) (wv : Value) (ws : List LX.LW) (t0 : Nat) (W : World) (F : α → Value → World → Prop) (r : Rs α) (e : Ending) (W' : World) : Prop :=
  (∃ t, r = .bad t ∧ e = .panicked [pz] ∧ (∃ c d, RD W1 wv ws c t d W') ∧ Gr W1 W W') ∨
  (∃ x t d v, r = .ok x t d ∧ e = .returned v ∧ F x v W' ∧ t0 ≤ t ∧ (∃ c, RD' W1 wv ws c t d W') ∧ Gr W1 W W')
theorem nameP_len {ws : List LX.LW} (hwl : ∀ w ∈ ws, w.s.length ≤ 70000) {t d : Nat} {s : Str} {t' d' : Nat} (h : nameP (ws.map nol) t d = .ok s t' d') : s.length ≤ 70000 := by
  unfold nameP at h
  rw [nol_get] at h
  cases hw : ws[t]? with
  | none => rw [hw] at h; cases h
  | some w =>
    rw [hw] at h
    simp only [Option.map_some] at h
    split at h
    · injection h with h1; rw [← h1]; exact hwl w (List.mem_of_getElem? hw)
    · cases h
theorem append_RL {Sh : List Value → Prop} {ty tsl tb : TypeId} {k by_ : Nat} {z : Value} (hsl : Tryz.prog.underlying tsl = some (.slice ty)) (hinf : (Tryz.prog.info? ty).map (fun i => (i.zero, i.size, i.bytes)) = some (some z, k, by_)) (hz : z.cells.size = k) (hk : 0 < k) (hby : by_ ≤ 1000)
    {B : Nat} {l : List (List T)} {v : Value} {W : World} {ts : List T} {vs : List Value} (h : FRows Sh ty k B l v W) (hB : B ≤ W.heap.size) (hl : l.length ≤ 65537) (hts : ts.length = k) (hr : Row W (fun b => B ≤ b ∧ some b ≠ v.ownBlock) ts vs) (hsh : Sh vs) (hone : ∀ u ∈ vs, u.oneCell' = true)
    {ops : Array Oper} {o : Oper} {a : Act} {K : Act → World → Prop} {Q : Exit → Act → World → Prop} {E : Prop} (hgd : o.guard = none) (s x : Operand) (ho : o.op = .call { callee := .builtin .append, args := #[s, x], argTypes := #[tsl, tsl] }) (hs : a.eval s = v)
    (hx : a.eval x = .slice (some ⟨W.heap.size, 0, none⟩) 1 1)
    (hK : ∀ v' W', FRows Sh ty k B (l ++ [ts]) v' W' → W.grownBy W' v.ownBlock → (∀ g, v'.ownBlock = some g → v.ownBlock = some g ∨ W.heap.size ≤ g) → K (a.put o.dst v') W') : if Region.wanted o (yielded ops a.tmps) = true then Oper.wp Tryz.prog o a (W.alloc (.cells vs.toArray tb)) K Q else E := by
  have hw : Region.wanted o (yielded ops a.tmps) = true := by simp [Region.wanted, hgd]
  rw [if_pos hw]
  obtain ⟨i0, hi, hz0, hz1, hz2⟩ := info_parts hinf
  obtain ⟨vss, h1, h2, hss⟩ := h
  have hvl : vs.length = k := by rw [hr.length, hts]
  have hbyt : (l.length + 1) * by_ ≤ 65538 * 1000 := Nat.mul_le_mul (by omega) hby
  obtain ⟨v', w', hrun, hown, h3⟩ := append_twoP (P := Tryz.prog) (W.alloc (.cells vs.toArray tb)) B tsl o.type ty i0 z k by_ hsl hi hz0 hz1 hz2 hz hk v l.length _ (h1.alloc _) ⟨W.heap.size, 0, none⟩ 1 1 vs (by rw [hvl, Nat.one_mul]) cells_at_new hone (by decide) (by unfold maxLen; omega) (by omega) (by simp; omega)
  have hss' : ∀ xs ∈ vss ++ [vs], Sh xs := fun xs hx => (List.mem_append.1 hx).elim (hss xs) (fun hx => by rw [List.mem_singleton.1 hx]; exact hsh)
  have hfin : FRows Sh ty k B (l ++ [ts]) v' w' ∧ W.grownBy w' v.ownBlock ∧ (∀ g, v'.ownBlock = some g → v.ownBlock = some g ∨ W.heap.size ≤ g) := by
    have h4 := h2.snoc hts hr
    have hown' : w'.ownsRow B ty k v' (l ++ [ts]).length (vss ++ [vs]).flatten := by
      rw [List.flatten_append, List.flatten_singleton, List.length_append]
      exact hown
    rcases h3 with ⟨g, cap, e1, e2, hg⟩ | ⟨hg, g, cap, e2, hgs⟩
    · subst e1 e2
      have hg2 := grow_al hg
      refine ⟨⟨_, hown', h4.keep hg2.size (fun _ _ h => h) (fun b h5 h6 => hg2.block b h6 (fun e => h5.2 (by rw [e]; rfl))), hss'⟩, hg2, fun g h => .inl h⟩
    · have hg2 := grow_al hg
      have hfr : ∀ g', v'.ownBlock = some g' → W.heap.size ≤ g' := fun g' h => by
        subst e2
        simp only [Value.ownBlock, Option.some.injEq] at h
        have : (W.alloc (.cells vs.toArray tb)).heap.size = W.heap.size + 1 := by simp
        omega
      exact ⟨⟨_, hown', h4.keep hg2.size (fun b h5 h6 => ⟨h6.1, fun e => by have := hfr b e.symm; omega⟩) (fun b h5 h6 => hg2.block b h6 (by simp)), hss'⟩, ⟨hg2.os, hg2.tape, hg2.output, hg2.size, fun b hb _ => hg2.block b hb (by simp)⟩, fun g' h => .inr (hfr g' h)⟩
  unfold Oper.wp execOp
  simp only [ho, resolve, invoke, builtin, Sem.run_bind, Sem.run_pure, Result.andThen_ok, List.map_toArray, List.map_cons, List.map_nil, hs, hx, hrun]
  exact hK v' w' hfin.1 hfin.2.1 hfin.2.2
theorem set13 {w : World} {g : Nat} {ty : TypeId} {a0 a1 a2 a3 a4 a5 a6 a7 a8 a9 a10 a11 a12 : Value} (h : w.heap[g]? = some (.cells #[a0, a1, a2, a3, a4, a5, a6, a7, a8, a9, a10, a11, a12] ty (0, 0))) (v : Value) : (w.setCell ⟨g, 2, none⟩ v).heap[g]? = some (.cells #[a0, a1, v, a3, a4, a5, a6, a7, a8, a9, a10, a11, a12] ty (0, 0)) := by
  have h := set_row h 2 v
  simpa only [List.setIfInBounds_toArray, List.set_cons_zero, List.set_cons_succ] using h
theorem put13 {w : World} {cb : Nat} {ty : TypeId} {a0 a1 a2 a3 a4 a5 a6 a7 a8 a9 a10 a11 a12 : Value} (h : w.heap[cb]? = some (.cells #[a0, a1, a2, a3, a4, a5, a6, a7, a8, a9, a10, a11, a12] ty (0, 0))) (v0 v1 v2 v3 v4 v5 v6 v7 v8 v9 : Value) : ((((((((((w.setCell ⟨cb, 3, none⟩ (v0)).setCell ⟨cb, 4, none⟩ (v1)).setCell ⟨cb, 5, none⟩ (v2)).setCell ⟨cb, 6, none⟩ (v3)).setCell ⟨cb, 7, none⟩ (v4)).setCell ⟨cb, 8, none⟩ (v5)).setCell ⟨cb, 9, none⟩ (v6)).setCell ⟨cb, 10, none⟩ (v7)).setCell ⟨cb, 11, none⟩ (v8)).setCell ⟨cb, 12, none⟩ (v9)).heap[cb]? = some (.cells #[a0, a1, a2, v0, v1, v2, v3, v4, v5, v6, v7, v8, v9] ty (0, 0)) := by
  have h := set_row h 3 v0
  have h := set_row h 4 v1
  have h := set_row h 5 v2
  have h := set_row h 6 v3
  have h := set_row h 7 v4
  have h := set_row h 8 v5
  have h := set_row h 9 v6
  have h := set_row h 10 v7
  have h := set_row h 11 v8
  have h := set_row h 12 v9
  simpa only [List.setIfInBounds_toArray, List.set_cons_zero, List.set_cons_succ] using h
theorem FRows.slice3 {Sh : List Value → Prop} {ty : TypeId} {k B : Nat} {l : List (List T)} {v : Value} {W : World} (h : FRows Sh ty k B l v W) : ∃ a n c, v = .slice a n c := by
  obtain ⟨a, c, e, -⟩ := h.shape
  exact ⟨a, _, c, e⟩
theorem frows_put {Sh : List Value → Prop} {ty : TypeId} {k g : Nat} {l : List (List T)} {v : Value} {W W' : World} (p : Put g W W') (h : FRows Sh ty k (g + 1) l v W) : FRows Sh ty k (g + 1) l v W' := by
  obtain ⟨vss, h1, h2, h3⟩ := h
  have hk : ∀ b, g + 1 ≤ b → W'.heap[b]? = W.heap[b]? := fun b h4 => p.block b (by omega)
  refine ⟨vss, ⟨h1.1, ?_⟩, h2.keep (Nat.le_of_eq p.size.symm) (fun _ _ h => h) (fun b h4 h5 => hk b h4.1), h3⟩
  rcases h1.2 with h | ⟨g', cap, cur, hv, hb, hw, r⟩
  · exact .inl h
  · exact .inr ⟨g', cap, cur, hv, hb, by rw [hk g' hb]; exact hw, r⟩
set_option maxRecDepth 100000 in
set_option maxHeartbeats 16000000 in
theorem component_any {W1 : World} {wv : Value} {ws : List LX.LW} {c : Str} {t d : Nat} {W : World} (h : RD' W1 wv ws c t d W) (hn : ws.length ≤ 65536) (hwl : ∀ w ∈ ws, w.s.length ≤ 70000) (htab : LTabs W1) :
    Calls Tryz.prog 40 #[rp W1] W (PostC W1 wv ws (t + 1) W (FT ShC W.heap.size) (componentP (ws.map nol) t d)) := by
  obtain ⟨W0, hW0⟩ : ∃ W0, W.alloc (.cells #[.string ⟨#[]⟩, .string ⟨#[]⟩, .slice none 0 0, .int .u8 0, .int .i64 0, .string ⟨#[]⟩, .slice none 0 0, .slice none 0 0, .slice none 0 0, .int .u8 0, .slice none 0 0, .slice none 0 0, .string ⟨#[]⟩] 46) = W0 := ⟨_, rfl⟩
  have hlt := h.1.lt
  have hr0 : RD' W1 wv ws c t d W0 := by rw [← hW0]; exact h.alloc _
  have hg0 : Gr W1 W W0 := by rw [← hW0]; exact (gr_refl W1 W).alloc _
  have hz0 : W0.heap.size = W.heap.size + 1 := by rw [← hW0]; simp
  have hb0 : W0.heap[W.heap.size]? = some (.cells #[.string ⟨#[]⟩, .string ⟨#[]⟩, .slice none 0 0, .int .u8 0, .int .i64 0, .string ⟨#[]⟩, .slice none 0 0, .slice none 0 0, .slice none 0 0, .int .u8 0, .slice none 0 0, .slice none 0 0, .string ⟨#[]⟩] 46 (0, 0)) := by rw [← hW0]; exact heap_alloc_new _ _
  have HK0 := Lib.hid hb0
  have HOP := Lib.hid (fun c t d W (h : RD' W1 wv ws c t d W) => open_any h hn)
  have HSH := Lib.hid (fun c t d W (h : RD' W1 wv ws c t d W) => shut_any h hn)
  have HN := Lib.hid (fun c t d W (h : RD' W1 wv ws c t d W) => name_any h hn)
  have HE := Lib.hid (fun c t d W (hc : c.length ≤ 70000) (h : RD' W1 wv ws c t d W) => expr_whole hn hc htab h)
  have HST := Lib.hid (fun c t d W s (hc : c.length ≤ 70000) (h : RD' W1 wv ws c t d W) => stmtOf_whole hn hc htab h s)
  have HWL := Lib.hid hwl
  obtain ⟨rs, hrs⟩ : ∃ r, (componentP (ws.map nol) t d) = r := ⟨_, rfl⟩
  rw [hrs]
  obtain ⟨post, hpost⟩ : ∃ p, PostC W1 wv ws (t + 1) W (FT ShC W.heap.size) rs = p := ⟨_, rfl⟩
  have HB : Hid (∀ t' w', rs = .bad t' → (∃ c d, RD W1 wv ws c t' d w') → Gr W1 W w' → post (.panicked [pz]) w') := fun t' w' h1 h2 h3 => by rw [← hpost]; exact .inl ⟨t', h1, rfl, h2, h3⟩
  have HO : Hid (∀ x t' d' c v w', rs = .ok x t' d' → (FT ShC W.heap.size) x v w' → t + 1 ≤ t' → RD' W1 wv ws c t' d' w' → Gr W1 W w' → post (.returned v) w') := fun x t' d' c v w' h1 h2 h3 h4 h5 => by rw [← hpost]; exact .inr ⟨x, t', d', v, h1, rfl, h2, h3, ⟨c, h4⟩, h5⟩
  rw [hpost]
  have HRS := Lib.hid hrs
  clear hrs hpost
  clear h hb0 hwl
  go_enter Tryz.func40, Tryz.ntmps40
  go_upto_region 5 with (first
    | (go_at_call 61; (with_reducible refine (HOP.out _ _ _ _ hr0).mono ?_); rintro e1 w1 (⟨t1, hp1, rfl, hb1, hk1⟩ | ⟨x1, t1, d1, v1, hp1, rfl, rfl, hl1, hr1, hk1⟩))
    | (go_at_call 62; (with_reducible refine (HN.out _ _ _ _ hr1).mono ?_); rintro e2 w2 (⟨t2, hp2, rfl, hb2, hk2⟩ | ⟨x2, t2, d2, v2, hp2, rfl, rfl, hl2, hr2, hk2⟩); all_goals (try (rcases comp_cases x2 with rfl | ⟨n0, q0⟩)))
    | (go_at_call 62; (with_reducible refine (HN.out _ _ _ _ hr2).mono ?_); rintro e3 w3 (⟨t3, hp3, rfl, hb3, hk3⟩ | ⟨x3, t3, d3, v3, hp3, rfl, rfl, hl3, hr3, hk3⟩))
    | (go_at_call 62; (with_reducible refine (HN.out _ _ _ _ hr3).mono ?_); rintro e4 w4 (⟨t4, hp4, rfl, hb4, hk4⟩ | ⟨x4, t4, d4, v4, hp4, rfl, rfl, hl4, hr4, hk4⟩)))
  · exact ⟨rfl, HB.out _ _ (by rw [← HRS.out]; simp [componentP, hp1]) ⟨_, hb1⟩ (hg0.trans hk1)⟩
  · exact ⟨rfl, HB.out _ _ (by rw [← HRS.out]; simp [componentP, hp1, hp2]) ⟨_, hb2⟩ ((hg0.trans hk1).trans hk2)⟩
  · exact ⟨rfl, HB.out _ _ (by rw [← HRS.out]; simp [componentP, hp1, hp2, hp3]) ⟨_, hb3⟩ (((hg0.trans hk1).trans hk2).trans hk3)⟩
  · exact ⟨rfl, HB.out _ _ (by rw [← HRS.out]; simp [componentP, hp1, hp2, hp3, hp4]) ⟨_, hb4⟩ ((((hg0.trans hk1).trans hk2).trans hk3).trans hk4)⟩
  rotate_left
  · exact ⟨rfl, HB.out _ _ (by rw [← HRS.out]; simp [componentP, hp1, hp2, n0]) ⟨_, _, hr2.1⟩ ((hg0.trans hk1).trans hk2)⟩
  have hlen3 : x3.length ≤ 70000 := nameP_len HWL.out hp3
  obtain ⟨W4, hW4⟩ : ∃ W4, w4.alloc (.cells #[.string ⟨x3.toArray⟩, .string ⟨x4.toArray⟩, .slice none 0 0, .int .u8 0, .int .i64 0, .string ⟨#[]⟩, .slice none 0 0, .slice none 0 0, .slice none 0 0, .int .u8 0, .slice none 0 0, .slice none 0 0, .string ⟨#[]⟩] 46) = W4 := ⟨_, rfl⟩
  obtain ⟨cb, hcb⟩ : ∃ cb, w4.heap.size = cb := ⟨_, rfl⟩
  have hs4 := ((hk1.trans hk2).trans hk3).trans hk4 |>.size
  have hr4' : RD' W1 wv ws c t4 d4 W4 := by rw [← hW4]; exact hr4.alloc _
  have hg4 : Gr W1 W0 W4 := by rw [← hW4]; exact ((((hk1.trans hk2).trans hk3).trans hk4)).alloc _
  have HC4 : Hid (W4.heap[cb]? = some (.cells #[.string ⟨x3.toArray⟩, .string ⟨x4.toArray⟩, .slice none 0 0, .int .u8 0, .int .i64 0, .string ⟨#[]⟩, .slice none 0 0, .slice none 0 0, .slice none 0 0, .int .u8 0, .slice none 0 0, .slice none 0 0, .string ⟨#[]⟩] 46 (0, 0))) := Lib.hid (by rw [← hW4, ← hcb]; exact heap_alloc_new _ _)
  have hz4 : W4.heap.size = cb + 1 := by rw [← hW4, ← hcb]; simp
  try rw [hW4]
  try rw [hcb]
  have hz4q := Nat.le_of_eq hz4
  clear hW4 hz4
  have hcb0 : W.heap.size < cb := by omega
  clear hcb
  obtain ⟨⟨i0, i1, i2, i3⟩, j0, j1, j2, j3⟩ := hr4'.1.cells
  obtain ⟨⟨y0, -⟩, -⟩ := blk13 HC4.out
  go_upto_region 6 with fail
  obtain ⟨W5, hW5⟩ : ∃ W5, (W4.setCell ⟨W1.heap.size, 2, none⟩ (.string ⟨x3.toArray⟩)).setCell ⟨W1.heap.size, 3, none⟩ (.int .i64 0) = W5 := ⟨_, rfl⟩
  have hr5 : RD' W1 wv ws x3 t4 0 W5 := by rw [← hW5]; exact ⟨(hr4'.1.setC x3).setD 0, hr4'.2.1, Nat.zero_le _⟩
  have hg5 : Gr W1 W0 W5 := by rw [← hW5]; exact (hg4.set 2 _).set 3 _
  have hz5 : W5.heap.size = W4.heap.size := by rw [← hW5]; simp [World.setCell]
  have hcbR : W1.heap.size < cb := by omega
  have HC5 : Hid (W5.heap[cb]? = some (.cells #[.string ⟨x3.toArray⟩, .string ⟨x4.toArray⟩, .slice none 0 0, .int .u8 0, .int .i64 0, .string ⟨#[]⟩, .slice none 0 0, .slice none 0 0, .slice none 0 0, .int .u8 0, .slice none 0 0, .slice none 0 0, .string ⟨#[]⟩] 46 (0, 0))) := Lib.hid (by rw [← hW5, Below.heap_setCell _ _ _ _ (by show cb ≠ W1.heap.size; omega), Below.heap_setCell _ _ _ _ (by show cb ≠ W1.heap.size; omega)]; exact HC4.out)
  have hz5q := Nat.le_of_eq hz5.symm
  try rw [hW5]
  clear hW5 hz5 hr4' hg4 HC4 i0 i1 i2 i3 j0 j1 j2 j3 y0
  go_wp2_with (first
    | (go_at_call 61; (with_reducible refine (HOP.out _ _ _ _ hr5).mono ?_); rintro e6 w6 (⟨t6, hp6, rfl, hb6, hk6⟩ | ⟨x6, t6, d6, v6, hp6, rfl, rfl, hl6, hr6, hk6⟩))
    | (go_at_call 62; (with_reducible refine (HN.out _ _ _ _ hr6).mono ?_); rintro e7 w7 (⟨t7, hp7, rfl, hb7, hk7⟩ | ⟨x7, t7, d7, v7, hp7, rfl, rfl, hl7, hr7, hk7⟩)))
  · exact ⟨rfl, HB.out _ _ (by rw [← HRS.out]; simp [componentP, hp1, hp2, hp3, hp4, hp6]) ⟨_, hb6⟩ ((hg0.trans hg5).trans hk6)⟩
  · exact ⟨rfl, HB.out _ _ (by rw [← HRS.out]; simp [componentP, hp1, hp2, hp3, hp4, hp6, hp7]) ⟨_, hb7⟩ (((hg0.trans hg5).trans hk6).trans hk7)⟩
  have hs5 := hg5.size
  have hk67 := hk6.trans hk7
  have hs67 := hk67.size
  have hz7 := hr7.2.1
  have htt : t + 1 ≤ t7 := by omega
  have HRB : Hid ((bodyP (ws.map nol) (exprP (ws.map nol) x3 FU) FU x7 t7 d7).bind (fun p t d => .ok (cCols x3 x4 ([] ++ p.1) p.2) t d) = rs) := Lib.hid (by rw [← HRS.out]; simp [componentP, hp1, hp2, hp3, hp4, hp6, hp7])
  have HG7 := Lib.hid (hg5.trans hk67)
  have HC7 := Lib.hid (gr_block hk67 hcbR HC5.out)
  have HR7 := Lib.hid hr7
  clear hp1 hp2 hp3 hp4 hp6 hp7 hk1 hk2 hk3 hk4 hk6 hk7 hk67 hg5 hr1 hr2 hr3 hr4 hr5 hr6 hr7 HRS HC5
  go_loopw [4] (fun u wr => ∃ (s : Str) (acc : List (List T)) (t8 d8 m8 : Nat) (bv : Value), u = .string ⟨s.toArray⟩ ∧ wr.heap[cb]? = some (.cells #[.string ⟨x3.toArray⟩, .string ⟨x4.toArray⟩, bv, .int .u8 0, .int .i64 0, .string ⟨#[]⟩, .slice none 0 0, .slice none 0 0, .slice none 0 0, .int .u8 0, .slice none 0 0, .slice none 0 0, .string ⟨#[]⟩] 46 (0, 0)) ∧ FRows ShS 55 17 (cb + 1) acc bv wr ∧ RD' W1 wv ws x3 t8 d8 wr ∧ Gr W1 W0 wr ∧ t + 1 ≤ t8 ∧ acc.length ≤ t8 ∧ ws.length < m8 + t8 ∧ (bodyP (ws.map nol) (exprP (ws.map nol) x3 FU) m8 s t8 d8).bind (fun p t d => .ok (cCols x3 x4 (acc ++ p.1) p.2) t d) = rs) (fun _ wr => ws.length + 1 - tk W1 wr)
  case atStart =>
    exact ⟨x7, [], t7, d7, FU, _, rfl, HC7.out, FRows.nil _ _ _ _ _, HR7.out, HG7.out, htt, Nat.zero_le _, by unfold FU; omega, HRB.out⟩
  case round =>
    obtain ⟨s, acc, t8, d8, m8, bv, rfl, hbe, hf, hr, hg, ht8, hl8, hm8, hrs⟩ := hrel
    obtain ⟨al, cl, rfl, hcl, hcm⟩ := hf.shape
    have htn := hr.2.1
    obtain ⟨m9, rfl⟩ : ∃ m9, m8 = m9 + 1 := ⟨m8 - 1, by omega⟩
    have HRR := Lib.hid hrs
    have HF := Lib.hid hf
    have HBE := Lib.hid hbe
    have HTK := Lib.hid hr.1.tk
    have hWs := hg.size
    have hcs : cb < wr.heap.size := tr_lt_of_block hbe
    clear hrs hf hbe HRB HC7 HR7 HG7
    rcases show_cases s with rfl | ⟨n1, q1⟩
    · go_upto_region 13 with (go_at_call 64; (with_reducible refine (HE.out _ _ _ _ hlen3 hr).mono ?_); rintro e9 w9 (⟨t9, hp9, rfl, hb9, hk9⟩ | ⟨x9, t9, d9, v9, hp9, rfl, ⟨vs9, rfl, ⟨ya0, ya1, ys2, yp3, yl3, yq3, yp4, yl4, yq4, yp5, yl5, yq5, ya6, yp7, yl7, yq7, yp8, yl8, yq8, ys9, rfl⟩, hrow9⟩, hl9, hr9, hk9⟩); all_goals (obtain ⟨⟨p0, p1, p2, p3, p4, p5, p6, p7, p8, p9, p10, p11, p12⟩, ⟨q0, q1, q2, q3, q4, q5, q6, q7, q8, q9, q10, q11, q12⟩⟩ := blk13 (gr_block hk9 hcbR HBE.out)))
      · exact ⟨rfl, HB.out _ _ (by rw [← HRR.out]; simp [bodyP, hp9]) ⟨_, hb9⟩ ((hg0.trans hg).trans hk9)⟩
      obtain ⟨W10, hW10⟩ : ∃ W10, ((((((((((w9.setCell ⟨cb, 3, none⟩ (.int .u8 ya0)).setCell ⟨cb, 4, none⟩ (.int .i64 ya1)).setCell ⟨cb, 5, none⟩ (.string ys2)).setCell ⟨cb, 6, none⟩ (.slice yp3 yl3 yq3)).setCell ⟨cb, 7, none⟩ (.slice yp4 yl4 yq4)).setCell ⟨cb, 8, none⟩ (.slice yp5 yl5 yq5)).setCell ⟨cb, 9, none⟩ (.int .u8 ya6)).setCell ⟨cb, 10, none⟩ (.slice yp7 yl7 yq7)).setCell ⟨cb, 11, none⟩ (.slice yp8 yl8 yq8)).setCell ⟨cb, 12, none⟩ (.string ys9)) = W10 := ⟨_, rfl⟩
      have hput : Put cb w9 W10 := by rw [← hW10]; exact ((((((((((Put.refl _ _).set _ _).set _ _).set _ _).set _ _).set _ _).set _ _).set _ _).set _ _).set _ _).set _ _
      have HC10 : Hid (W10.heap[cb]? = some (.cells #[.string ⟨x3.toArray⟩, .string ⟨x4.toArray⟩, .slice al acc.length cl, .int .u8 ya0, .int .i64 ya1, .string ys2, .slice yp3 yl3 yq3, .slice yp4 yl4 yq4, .slice yp5 yl5 yq5, .int .u8 ya6, .slice yp7 yl7 yq7, .slice yp8 yl8 yq8, .string ys9] 46 (0, 0))) := Lib.hid (by rw [← hW10]; exact put13 (gr_block hk9 hcbR HBE.out) _ _ _ _ _ _ _ _ _ _)
      have hr10 : RD' W1 wv ws x3 t9 d9 W10 := hput.rd hr9 hcbR
      have hg10 : Gr W1 W0 W10 := hput.gr (hg.trans hk9) (by omega)
      have hz10 := hput.size
      have hs9 := hk9.size
      try rw [hW10]
      clear hW10 p0 p1 p2 p3 p4 p5 p6 p7 p8 p9 p10 p11 p12 q0 q1 q2 q3 q4 q5 q6 q7 q8 q9 q10 q11 q12
      have hz10q := Nat.le_of_eq hz10
      have hz10r := Nat.le_of_eq hz10.symm
      clear hz10
      go_wp2_with (first
        | (go_at_call 65; first
          | ((with_reducible refine (HSH.out _ _ _ _ hr11).mono ?_); rintro e12 w12 (⟨t12, hp12, rfl, hb12, hk12⟩ | ⟨x12, t12, d12, v12, hp12, rfl, rfl, hl12, hr12, hk12⟩))
          | ((with_reducible refine (HSH.out _ _ _ _ hr10).mono ?_); rintro e11 w11 (⟨t11, hp11, rfl, hb11, hk11⟩ | ⟨x11, t11, d11, v11, hp11, rfl, rfl, hl11, hr11, hk11⟩)))
        | (refine wpList_load_row rfl 46 _ rfl cb rfl 46 #[.string ⟨x3.toArray⟩, .string ⟨x4.toArray⟩, .slice al acc.length cl, .int .u8 ya0, .int .i64 ya1, .string ys2, .slice yp3 yl3 yq3, .slice yp4 yl4 yq4, .slice yp5 yl5 yq5, .int .u8 ya6, .slice yp7 yl7 yq7, .slice yp8 yl8 yq8, .string ys9] (0, 0) _ (gr_block (hk11.trans hk12) hcbR HC10.out) Tryz.underlying46 rfl iszC ?_)
        | (refine wpList_store_row rfl 46 _ _ rfl W.heap.size _ rfl rfl 46 #[.string ⟨#[]⟩, .string ⟨#[]⟩, .slice none 0 0, .int .u8 0, .int .i64 0, .string ⟨#[]⟩, .slice none 0 0, .slice none 0 0, .slice none 0 0, .int .u8 0, .slice none 0 0, .slice none 0 0, .string ⟨#[]⟩] (gr_block ((hg10.trans hk11).trans hk12) hlt HK0.out) iszC rfl (all_one (shC_one (by exact ⟨_, _, _, _, _, _, _, _, _, _, _, _, _, _, _, _, _, _, _, _, _, _, _, _, _, rfl⟩)).1) ?_))
      · exact ⟨rfl, HB.out _ _ (by rw [← HRR.out]; simp [bodyP, hp9, hp11]) ⟨_, hb11⟩ ((hg0.trans hg10).trans hk11)⟩
      · exact ⟨rfl, HB.out _ _ (by rw [← HRR.out]; simp [bodyP, hp9, hp11, hp12]) ⟨_, hb12⟩ (((hg0.trans hg10).trans hk11).trans hk12)⟩
      · have hk1112 := hk11.trans hk12
        have hs12 := hk1112.size
        refine bodyPost_ret (results_cell_row Tryz.results40 _ _ W.heap.size 46 _ (0, 0) _ rfl (setRow_heap _ _ _ _ _ _ (gr_block (hg10.trans hk1112) hlt HK0.out)) Tryz.underlying46 rfl iszC) rfl ?_
        have hput2 := fun cs => put_row W.heap.size w12 cs
        have hold : ∀ cs b, W.heap.size < b → b ≠ cb → b < w9.heap.size → b ≠ W1.heap.size → (w12.setRow W.heap.size cs).heap[b]? = w9.heap[b]? := fun cs b h1 h2 h3 h4 => by
          rw [(hput2 cs).block b (by omega), hk1112.block b (by omega) (by intro e; injection e with e; omega), hput.block b h2]
        refine HO.out (cCols x3 x4 acc x9) t12 d12 _ _ _ (by rw [← HRR.out]; simp [bodyP, hp9, hp11, hp12]) ⟨_, rfl, ⟨_, _, _, _, _, _, _, _, _, _, _, _, _, _, _, _, _, _, _, _, _, _, _, _, _, rfl⟩, ?_⟩ (by omega) ((put_row _ _ _).rd hr12 hlt) ((put_row _ _ _).gr ((hg0.trans hg10).trans hk1112) (Nat.le_refl _))
        refine row_one _ (row_one _ (row_rows ?_ ?_))
        · refine (HF.out.gr hk9 (by omega)).rep.keep (by simp [World.setRow]; omega) (fun b _ h => by omega) (fun b h1 h2 => hold _ b (by omega) (by omega) h2 (by omega))
        · exact hrow9.keep (by simp [World.setRow]; omega) (fun b h1 h2 => by omega) (fun b h1 h2 => hold _ b (by omega) (by omega) h2 (by omega))
    · cases hps : stmtOfP (ws.map nol) (exprP (ws.map nol) x3 FU) (stmtP (ws.map nol) (exprP (ws.map nol) x3 FU) FU) s t8 d8 with
      | bad t9 =>
        go_upto_region 10 with fail
        refine wp_region_held_drew (S := fun w' => w'.cell? ⟨cb, 2, none⟩ = some (.slice al acc.length cl)) (by kernel_rfl) ((blk13 (gr_block ((gr_refl W1 wr).drew) hcbR HBE.out)).1.2.2.1) (fun hH => ?_)
        refine wpAnyH_take (i := 0) (oi := { dst := some 33, op := Go.Op.fieldAddr 46 (Go.Operand.tmp 3) 2, type := 0, pos := "program.go:23", after := #[], guard := none }) (v := ?_) rfl (by kernel_rfl) (by kernel_rfl) (by kernel_rfl) (fun _ _ _ h => h) (Or.inl ⟨by rfl, ?_⟩) hH ?_; rotate_left; (focus (intro wS hSw; (try dsimp only at hSw); go_simp; (try with_reducible rfl))); simp only [Act.put, List.setIfInBounds_toArray, List.set_cons_zero, List.set_cons_succ]
        refine wpAnyH_take (i := 1) (oi := { dst := some 34, op := Go.Op.load 44 (Go.Operand.tmp 33), type := 44, pos := "program.go:23", after := #[{ on := 0, ground := Go.Ground.data }], guard := none }) (v := ?_) rfl (by kernel_rfl) (by kernel_rfl) (by kernel_rfl) (fun _ _ _ h => h) (Or.inl ⟨by rfl, ?_⟩) hH ?_; rotate_left; (focus (intro wS hSw; (try dsimp only at hSw); go_simp; (try with_reducible rfl))); simp only [Act.put, List.setIfInBounds_toArray, List.set_cons_zero, List.set_cons_succ]
        refine wpAnyH_take (i := 2) (oi := { dst := some 35, op := Go.Op.move (Go.Operand.tmp 0), type := 60, pos := "program.go:23", after := #[], guard := none }) (v := ?_) rfl (by kernel_rfl) (by kernel_rfl) (by kernel_rfl) (fun _ _ _ h => h) (Or.inl ⟨by rfl, ?_⟩) hH ?_; rotate_left; (focus (intro wS hSw; (try dsimp only at hSw); go_simp; (try with_reducible rfl))); simp only [Act.put, List.setIfInBounds_toArray, List.set_cons_zero, List.set_cons_succ]
        refine wpAnyH_take (i := 3) (oi := { dst := some 36, op := Go.Op.move (Go.Operand.tmp 4), type := 9, pos := "program.go:23", after := #[], guard := none }) (v := ?_) rfl (by kernel_rfl) (by kernel_rfl) (by kernel_rfl) (fun _ _ _ h => h) (Or.inl ⟨by rfl, ?_⟩) hH ?_; rotate_left; (focus (intro wS hSw; (try dsimp only at hSw); go_simp; (try with_reducible rfl))); simp only [Act.put, List.setIfInBounds_toArray, List.set_cons_zero, List.set_cons_succ]
        refine wpAnyH_ready (rs := [4]) (by kernel_rfl) (by simp) ?_
        refine AllReadyH.cons (o := { dst := some 37, op := Go.Op.call { callee := Go.Callee.value (Go.Operand.func 63), args := #[Go.Operand.tmp 35, Go.Operand.tmp 36], argTypes := #[60, 9] }, type := 55, pos := "program.go:23", after := #[{ on := 2, ground := Go.Ground.data }, { on := 3, ground := Go.Ground.data }], guard := none }) rfl (fun K hK => ?_) AllReadyH.nil
        go_simp
        go_at_call 63
        with_reducible refine (HST.out _ _ _ _ _ hlen3 hr.drew).mono ?_
        intro e9 w9 hq9
        obtain ⟨rfl, hb9, hk9⟩ := PostR.of_bad hq9 hps
        exact ⟨rfl, HB.out _ _ (by rw [← HRR.out]; simp [bodyP, n1, hps]) ⟨_, hb9⟩ ((hg0.trans hg.drew).trans hk9)⟩
      | ok x9 t9 d9 =>
        have c2w := (blk13 HBE.out).1.2.2.1
        have c2d := (blk13 (gr_block ((gr_refl W1 wr).drew) hcbR HBE.out)).1.2.2.1
        go_upto_region 10 with fail
        go_region_law (first
          | (refine append_RL Tryz.underlying44 infS rfl (by decide) (by decide) HF9.out hsz9.out (by omega) (by rw [← hrow9.length]; rfl) HRW9.out ⟨_, _, _, _, _, _, _, _, _, _, _, _, _, _, _, _, _, _, _, _, _, _, _, _, _, _, _, _, _, _, _, _, _, _, _, rfl⟩ (shS_one ⟨_, _, _, _, _, _, _, _, _, _, _, _, _, _, _, _, _, _, _, _, _, _, _, _, _, _, _, _, _, _, _, _, _, _, _, rfl⟩).1 rfl _ _ (by rfl) (by rfl) (by rfl) ?_; intro v10 w10 hf10 hg10 ho10; obtain ⟨a10, n10, c10, rfl⟩ := hf10.slice3; have HX10 := Lib.hid (HX9.out _ hg10); obtain ⟨⟨p0, p1, p2, -⟩, ⟨q0, q1, q2, -⟩⟩ := blk13 HX10.out)
          | (go_simp; go_wp2_with (go_at_call 63; (with_reducible refine (HST.out _ _ _ _ _ hlen3 hr.drew).mono ?_); intro e9 w9 hq9; obtain ⟨v9, rfl, ⟨vs9, rfl, ⟨ya0, ys1, ys2, ya3, ya4, ys5, yp6, yl6, yq6, yp7, yl7, yq7, yp8, yl8, yq8, ya9, yp10, yl10, yq10, yp11, yl11, yq11, ys12, yp13, yl13, yq13, yp14, yl14, yq14, yp15, yl15, yq15, yp16, yl16, yq16, rfl⟩, hrow9⟩, hl9, hr9, hk9⟩ := PostR.of_ok hq9 hps; have HK9 := Lib.hid ((gr_refl W1 wr).drew.trans hk9); have hsz9 := Lib.hid (show cb + 1 ≤ w9.heap.size by have : wr.heap.size ≤ w9.heap.size := HK9.out.size; omega); have HF9 := Lib.hid (HF.out.gr HK9.out (by omega)); have HRW9 := Lib.hid (hrow9.keep (ok' := fun b => cb + 1 ≤ b ∧ some b ≠ (Value.slice al acc.length cl).ownBlock) (Nat.le_refl _) (fun b h1 h2 => by have h3 : wr.heap.size ≤ b := h2; exact ⟨by omega, fun e => by have := HF.out.own e.symm; omega⟩) (fun _ _ _ => rfl)); have HX9 : Hid (∀ w10, w9.grownBy w10 (Value.slice al acc.length cl).ownBlock → w10.heap[cb]? = some (.cells #[.string ⟨x3.toArray⟩, .string ⟨x4.toArray⟩, .slice al acc.length cl, .int .u8 0, .int .i64 0, .string ⟨#[]⟩, .slice none 0 0, .slice none 0 0, .slice none 0 0, .int .u8 0, .slice none 0 0, .slice none 0 0, .string ⟨#[]⟩] 46 (0, 0))) := Lib.hid (fun w10 hg => by rw [hg.block _ (by have := hsz9.out; omega) (fun e => by have := HF.out.own e.symm; omega)]; exact gr_block HK9.out hcbR HBE.out); have c29 := (blk13 (gr_block HK9.out hcbR HBE.out)).1.2.2.1; have c29a := fun O => (blk13 (gr_block (HK9.out.alloc O) hcbR HBE.out)).1.2.2.1)))
        all_goals (
          obtain ⟨W11, hW11⟩ : ∃ W11, w10.setCell ⟨cb, 2, none⟩ (.slice a10 n10 c10) = W11 := ⟨_, rfl⟩
          have hput : Put cb w10 W11 := by rw [← hW11]; exact (Put.refl _ _).set _ _
          have HC11 : Hid (W11.heap[cb]? = some (.cells #[.string ⟨x3.toArray⟩, .string ⟨x4.toArray⟩, .slice a10 n10 c10, .int .u8 0, .int .i64 0, .string ⟨#[]⟩, .slice none 0 0, .slice none 0 0, .slice none 0 0, .int .u8 0, .slice none 0 0, .slice none 0 0, .string ⟨#[]⟩] 46 (0, 0))) := Lib.hid (by rw [← hW11]; exact set13 HX10.out _)
          have hown : ∀ g, (Value.slice al acc.length cl).ownBlock = some g → cb + 1 ≤ g ∧ g < wr.heap.size := fun g e => HF.out.own e
          have hr10 : RD' W1 wv ws x3 t9 d9 w10 := hr9.row hg10 (fun g e => by have := hown g e; omega)
          have hr11 : RD' W1 wv ws x3 t9 d9 W11 := hput.rd hr10 hcbR
          have hg11 : Gr W1 W0 W11 := hput.gr ((hg.trans HK9.out).row hg10 (fun g e => by have := hown g e; omega)) (by omega)
          have hf11 : FRows ShS 55 17 (cb + 1) (acc ++ [x9]) (.slice a10 n10 c10) W11 := frows_put hput hf10
          try rw [hW11]
          clear hW11 p0 p1 p2 q0 q1 q2 c2w c2d c29 c29a
          have HR11 := Lib.hid hf11
          clear hf10 hf11
          go_wp2_with (first
            | (go_at_call 61; (with_reducible refine (HOP.out _ _ _ _ hr11).mono ?_); rintro e12 w12 (⟨t12, hp12, rfl, hb12, hk12⟩ | ⟨x12, t12, d12, v12, hp12, rfl, rfl, hl12, hr12, hk12⟩))
            | (go_at_call 62; (with_reducible refine (HN.out _ _ _ _ hr12).mono ?_); rintro e13 w13 (⟨t13, hp13, rfl, hb13, hk13⟩ | ⟨x13, t13, d13, v13, hp13, rfl, rfl, hl13, hr13, hk13⟩)))
          · exact ⟨rfl, HB.out _ _ (by rw [← HRR.out]; simp [bodyP, n1, hps, hp12]) ⟨_, hb12⟩ ((hg0.trans hg11).trans hk12)⟩
          · exact ⟨rfl, HB.out _ _ (by rw [← HRR.out]; simp [bodyP, n1, hps, hp12, hp13]) ⟨_, hb13⟩ (((hg0.trans hg11).trans hk12).trans hk13)⟩
          · have hz13 := hr13.2.1
            go_roundw
            case rel =>
              refine ⟨x13, acc ++ [x9], t13, d13, m9, _, rfl, gr_block (hk12.trans hk13) hcbR HC11.out, HR11.out.gr (hk12.trans hk13) (by omega), hr13, (hg11.trans hk12).trans hk13, by omega, by rw [List.length_append]; simp; omega, by omega, ?_⟩
              rw [← HRR.out]
              simp only [bodyP, n1, if_false, hps, hp12, hp13, Rs.bind_ok]
              cases bodyP (ws.map nol) (exprP (ws.map nol) x3 FU) m9 x13 t13 d13 with
              | bad u => rfl
              | ok p u e => simp only [Rs.bind_ok]; rw [List.append_assoc]; rfl
            case measure =>
              have e4 := hr13.1.tk
              have e1 := HTK.out
              omega
          )
end Go.Proofs.YtedmmgfnplbkjaaGreatDoor
