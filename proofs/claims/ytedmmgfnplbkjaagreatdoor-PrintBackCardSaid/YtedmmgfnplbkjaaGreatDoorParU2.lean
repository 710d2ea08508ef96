/-
  Walks: elem: of attributes.
  Conditions: the reader lies as 'RD' says; its words are at most 65536.
-/
import Derived.Test.YtedmmgfnplbkjaaGreatDoorParU1
namespace Go.Proofs.YtedmmgfnplbkjaaGreatDoor
set_option linter.unusedVariables false
set_option linter.unusedSimpArgs false
open Go.RowKit G
theorem put10 {w : World} {g : Nat} {ty : TypeId} {a0 a1 a2 a3 a4 a5 a6 a7 a8 a9 : Value} (h : w.heap[g]? = some (.cells #[a0, a1, a2, a3, a4, a5, a6, a7, a8, a9] ty (0, 0))) (v0 v1 v2 v3 v4 v5 v6 v7 v8 v9 : Value) : ((((((((((w.setCell ⟨g, 0, none⟩ v0).setCell ⟨g, 1, none⟩ v1).setCell ⟨g, 2, none⟩ v2).setCell ⟨g, 3, none⟩ v3).setCell ⟨g, 4, none⟩ v4).setCell ⟨g, 5, none⟩ v5).setCell ⟨g, 6, none⟩ v6).setCell ⟨g, 7, none⟩ v7).setCell ⟨g, 8, none⟩ v8).setCell ⟨g, 9, none⟩ v9).heap[g]? = some (.cells #[v0, v1, v2, v3, v4, v5, v6, v7, v8, v9] ty (0, 0)) := by
  have h := set_row h 0 v0
  have h := set_row h 1 v1
  have h := set_row h 2 v2
  have h := set_row h 3 v3
  have h := set_row h 4 v4
  have h := set_row h 5 v5
  have h := set_row h 6 v6
  have h := set_row h 7 v7
  have h := set_row h 8 v8
  have h := set_row h 9 v9
  simpa only [List.setIfInBounds_toArray, List.set_cons_zero, List.set_cons_succ] using h
set_option maxRecDepth 100000 in
set_option maxHeartbeats 16000000 in
theorem elem1_any {W1 : World} {wv : Value} {ws : List LX.LW} {c : Str} {t d : Nat} {W : World} (h : RD' W1 wv ws c t d W) (hn : ws.length ≤ 65536) {ex : Nat → Nat → Rs (List T)} (he : ∀ t' d' W', t ≤ t' → RD' W1 wv ws c t' d' W' → Calls Tryz.prog 64 #[rp W1] W' (PostR W1 wv ws c (t' + 1) W' (FT ShE W'.heap.size) (ex t' d'))) (hky : ∀ t' d' W', t ≤ t' → RD' W1 wv ws c t' d' W' → Calls Tryz.prog 224 #[rp W1] W' (PostR W1 wv ws c (t' + 1) W' (FSl ShE 42 10 W'.heap.size) (keyP (ws.map nol) ex t' d'))) :
    Calls Tryz.prog 199 #[rp W1, .int .u8 1] W (PostR W1 wv ws c t W (FT ShE W.heap.size) (elemP (ws.map nol) ex 1 t d)) := by
  obtain ⟨W0, hW0⟩ : ∃ W0, W.alloc (.cells #[.int .u8 0, .int .i64 0, .string ⟨#[]⟩, .slice none 0 0, .slice none 0 0, .slice none 0 0, .int .u8 0, .slice none 0 0, .slice none 0 0, .string ⟨#[]⟩] 42) = W0 := ⟨_, rfl⟩
  have hlt := h.1.lt
  have hr0 : RD' W1 wv ws c t d W0 := by rw [← hW0]; exact h.alloc _
  have hg0 : Gr W1 W W0 := by rw [← hW0]; exact (gr_refl W1 W).alloc _
  have hz0 : W0.heap.size = W.heap.size + 1 := by rw [← hW0]; simp
  have hb0 : W0.heap[W.heap.size]? = some (.cells #[.int .u8 0, .int .i64 0, .string ⟨#[]⟩, .slice none 0 0, .slice none 0 0, .slice none 0 0, .int .u8 0, .slice none 0 0, .slice none 0 0, .string ⟨#[]⟩] 42 (0, 0)) := by rw [← hW0]; exact heap_alloc_new _ _
  have HK0 := Lib.hid hb0
  have HKY := Lib.hid (hky t d W0 (Nat.le_refl _) hr0)
  have HN := Lib.hid (fun t d W (h : RD' W1 wv ws c t d W) => name_any h hn)
  have HWP : Hid (∀ t' d' W', t ≤ t' → RD' W1 wv ws c t' d' W' → Calls Tryz.prog 225 #[rp W1, .func (.func 197) #[rp W1] #[]] W' (PostR W1 wv ws c (t' + 1) W' (FSl ShP 231 11 W'.heap.size) (withinP (ws.map nol) (pairP (ws.map nol) ex) t' d'))) := Lib.hid fun t' d' W' h1 h2 => withinP_any h2 hn (fun t2 d2 W2 h3 h4 => pair_any h4 hn (fun t3 d3 W3 h5 h6 => he t3 d3 W3 (Nat.le_trans (Nat.le_trans h1 h3) h5) h6))
  have HLE : Hid (∀ t' d' W', t ≤ t' → RD' W1 wv ws c t' d' W' → Calls Tryz.prog 162 #[rp W1, .func (.func 64) #[rp W1] #[]] W' (PostR W1 wv ws c (t' + 1) W' (FSl ShE 42 10 W'.heap.size) (allP (ws.map nol) (ex) FU t' d'))) := Lib.hid fun t' d' W' h1 h2 => allE_any h2 hn (fun t2 d2 W2 h3 h4 => he t2 d2 W2 (Nat.le_trans h1 h3) h4) FU (by unfold FU; omega)
  have HPD := Lib.hid (fun (k : Int) (S : ByteArray) (kp : Option Addr) (kl kq : Nat) (l : List (List T)) (al : Option Addr) (cap B : Nat) (W : World) (hf : FRows ShP 231 11 B l (.slice al l.length cap) W) (hB : B ≤ W.heap.size) (hl : l.length ≤ 65537) => paired_any 11 0 S none 0 0 k kp kl kq none 0 0 ⟨#[]⟩ l al cap B W hf hB hl)
  obtain ⟨rs, hrs⟩ : ∃ r, (elemP (ws.map nol) ex 1 t d) = r := ⟨_, rfl⟩
  rw [hrs]
  obtain ⟨post, hpost⟩ : ∃ p, PostR W1 wv ws c (t) W (FT ShE W.heap.size) rs = p := ⟨_, rfl⟩
  have HB : Hid (∀ t' w', rs = .bad t' → (∃ d, RD W1 wv ws c t' d w') → Gr W1 W w' → post (.panicked [pz]) w') := fun t' w' h1 h2 h3 => by rw [← hpost]; exact .inl ⟨t', h1, rfl, h2, h3⟩
  have HO : Hid (∀ x t' d' v w', rs = .ok x t' d' → (FT ShE W.heap.size) x v w' → t ≤ t' → RD' W1 wv ws c t' d' w' → Gr W1 W w' → post (.returned v) w') := fun x t' d' v w' h1 h2 h3 h4 h5 => by rw [← hpost]; exact .inr ⟨x, t', d', v, h1, rfl, h2, h3, h4, h5⟩
  rw [hpost]
  have HRS := Lib.hid hrs
  clear hrs hpost
  clear h hb0 hky he
  go_enter Tryz.func199, Tryz.ntmps199
  go_upto_region 7 with (first
    | (go_at_call 224; (with_reducible refine (HKY.out).mono ?_); rintro e1 w1 (⟨t1, hp1, rfl, hb1, hk1⟩ | ⟨x1, t1, d1, v1, hp1, rfl, ⟨la1, ln1, lc1, rfl, hf1, rfl, hle1⟩, hl1, hr1, hk1⟩))
    | (go_at_call 62; (with_reducible refine (HN.out _ _ _ (hr1.alloc _)).mono ?_); rintro e2 w2 (⟨t2, hp2, rfl, hb2, hk2⟩ | ⟨x2, t2, d2, v2, hp2, rfl, rfl, hl2, hr2, hk2⟩); all_goals (obtain ⟨⟨e0, e1, e2, e3, e4, e5, e6, e7, e8, e9⟩, ⟨k0, k1, k2, k3, k4, k5, k6, k7, k8, k9⟩⟩ := blk10 (gr_block hk2 (by have := hr1.1.lt; omega) (heap_alloc_new w1 (.cells #[.int .u8 11, .int .i64 0, .string ⟨#[]⟩, .slice none 0 0, .slice none 0 0, .slice none 0 0, .int .u8 1, .slice la1 x1.length lc1, .slice none 0 0, .string ⟨#[]⟩] 42))))))
  · exact ⟨rfl, HB.out _ _ (by rw [← HRS.out]; simp [elemP, hp1]) hb1 (hg0.trans hk1)⟩
  · exact ⟨rfl, HB.out _ _ (by rw [← HRS.out]; simp [elemP, hp1, hp2]) hb2 (((hg0.trans hk1).alloc _).trans hk2)⟩
  have hlt1 := hr1.1.lt
  have hsz1 := hk1.size
  have hsz2 := hk2.size
  have hsz2' : w1.heap.size + 1 ≤ w2.heap.size := by simpa using hsz2
  have hltW0 := Nat.lt_of_lt_of_le hlt hg0.size
  have hbk := gr_block hk2 (by omega) (heap_alloc_new w1 (.cells #[.int .u8 11, .int .i64 0, .string ⟨#[]⟩, .slice none 0 0, .slice none 0 0, .slice none 0 0, .int .u8 1, .slice la1 x1.length lc1, .slice none 0 0, .string ⟨#[]⟩] 42))
  obtain ⟨W3, hW3⟩ : ∃ W3, w2.setCell ⟨w1.heap.size, 2, none⟩ (.string ⟨x2.toArray⟩) = W3 := ⟨_, rfl⟩
  have hr3 : RD' W1 wv ws c t2 d2 W3 := by rw [← hW3]; exact hr2.setN (by omega) 2 _
  have hg3 : Gr W1 W W3 := by rw [← hW3]; exact (((hg0.trans hk1).alloc _).trans hk2).setN (by omega) 2 _
  have hk3 : Gr W1 W0 W3 := by rw [← hW3]; exact ((hk1.alloc _).trans hk2).setN (by omega) 2 _
  have hk13 : Gr W1 w1 W3 := by rw [← hW3]; exact (((gr_refl W1 w1).alloc _).trans hk2).setN (Nat.le_refl _) 2 _
  have hz3 : W3.heap.size = w2.heap.size := by rw [← hW3]; simp [World.setCell]
  have HE3 : Hid (W3.heap[w1.heap.size]? = some (.cells #[.int .u8 11, .int .i64 0, .string ⟨x2.toArray⟩, .slice none 0 0, .slice none 0 0, .slice none 0 0, .int .u8 1, .slice la1 x1.length lc1, .slice none 0 0, .string ⟨#[]⟩] 42 (0, 0))) := Lib.hid (by rw [← hW3]; exact set_row hbk 2 _)
  clear e0 e1 e2 e3 e4 e5 e6 e7 e8 e9 k0 k1 k2 k3 k4 k5 k6 k7 k8 k9 hbk hsz2
  try rw [hW3]
  clear hW3
  have HS : Hid (∀ w', Gr W1 W3 w' → w'.cell? ⟨w1.heap.size, 0, none⟩ = some (.int .u8 11) ∧ w'.cell? ⟨w1.heap.size, 1, none⟩ = some (.int .i64 0) ∧ w'.cell? ⟨w1.heap.size, 2, none⟩ = some (.string ⟨x2.toArray⟩) ∧ w'.cell? ⟨w1.heap.size, 3, none⟩ = some (.slice none 0 0) ∧ w'.cell? ⟨w1.heap.size, 4, none⟩ = some (.slice none 0 0) ∧ w'.cell? ⟨w1.heap.size, 5, none⟩ = some (.slice none 0 0) ∧ w'.cell? ⟨w1.heap.size, 6, none⟩ = some (.int .u8 1) ∧ w'.cell? ⟨w1.heap.size, 7, none⟩ = some (.slice la1 x1.length lc1) ∧ w'.cell? ⟨w1.heap.size, 8, none⟩ = some (.slice none 0 0) ∧ w'.cell? ⟨w1.heap.size, 9, none⟩ = some (.string ⟨#[]⟩)) := Lib.hid fun w' hw => (blk10 (gr_block hw (by omega) HE3.out)).1
  have hszw3 : w1.heap.size < W3.heap.size := tr_lt_of_block HE3.out
  have hz2n := hr3.2.1
  cases hp4 : withinP (ws.map nol) (pairP (ws.map nol) ex) t2 d2 with
  | bad t4 =>
    have hmf : ∀ (fn : Fn) (first cap : Array Value) (w : World), (Instr.makeFunc fn first cap).run Tryz.prog w = .ok (.func fn first cap) w := fun _ _ _ _ => rfl
    refine wp_region_held_drew (S := fun w' => w'.cell? ⟨w1.heap.size, 0, none⟩ = some (.int .u8 11) ∧ w'.cell? ⟨w1.heap.size, 1, none⟩ = some (.int .i64 0) ∧ w'.cell? ⟨w1.heap.size, 2, none⟩ = some (.string ⟨x2.toArray⟩) ∧ w'.cell? ⟨w1.heap.size, 3, none⟩ = some (.slice none 0 0) ∧ w'.cell? ⟨w1.heap.size, 4, none⟩ = some (.slice none 0 0) ∧ w'.cell? ⟨w1.heap.size, 5, none⟩ = some (.slice none 0 0) ∧ w'.cell? ⟨w1.heap.size, 6, none⟩ = some (.int .u8 1) ∧ w'.cell? ⟨w1.heap.size, 7, none⟩ = some (.slice la1 x1.length lc1) ∧ w'.cell? ⟨w1.heap.size, 8, none⟩ = some (.slice none 0 0) ∧ w'.cell? ⟨w1.heap.size, 9, none⟩ = some (.string ⟨#[]⟩)) (by kernel_rfl) (HS.out _ ((gr_refl W1 W3).drew)) (fun hH => ?_)
    refine wpAnyH_take (i := 0) (oi := { dst := some 18, op := Go.Op.load 42 (Go.Operand.tmp 5), type := 42, pos := "expr.go:81", after := #[], guard := none }) (v := ?_) rfl (by kernel_rfl) (by kernel_rfl) (by kernel_rfl) (fun _ _ _ h => h) (Or.inl ⟨by rfl, ?_⟩) hH ?_; rotate_left; (focus (intro wS hSw; (try dsimp only at hSw); go_simp; (try with_reducible rfl))); simp only [Act.put, List.setIfInBounds_toArray, List.set_cons_zero, List.set_cons_succ]
    refine wpAnyH_take (i := 1) (oi := { dst := some 19, op := Go.Op.move (Go.Operand.tmp 0), type := 60, pos := "expr.go:81", after := #[], guard := none }) (v := ?_) rfl (by kernel_rfl) (by kernel_rfl) (by kernel_rfl) (fun _ _ _ h => h) (Or.inl ⟨by rfl, ?_⟩) hH ?_; rotate_left; (focus (intro wS hSw; (try dsimp only at hSw); go_simp; (try with_reducible rfl))); simp only [Act.put, List.setIfInBounds_toArray, List.set_cons_zero, List.set_cons_succ]
    refine wpAnyH_take (i := 2) (oi := { dst := some 20, op := Go.Op.move (Go.Operand.tmp 0), type := 60, pos := "expr.go:81", after := #[], guard := none }) (v := ?_) rfl (by kernel_rfl) (by kernel_rfl) (by kernel_rfl) (fun _ _ _ h => h) (Or.inl ⟨by rfl, ?_⟩) hH ?_; rotate_left; (focus (intro wS hSw; (try dsimp only at hSw); go_simp; (try with_reducible rfl))); simp only [Act.put, List.setIfInBounds_toArray, List.set_cons_zero, List.set_cons_succ]
    refine wpAnyH_take (i := 3) (oi := { dst := some 21, op := Go.Op.makeFunc (Go.Fn.func 197) #[Go.Operand.tmp 20] #[], type := 232, pos := "expr.go:81", after := #[{ on := 2, ground := Go.Ground.data }], guard := none }) (v := ?_) rfl (by kernel_rfl) (by kernel_rfl) (by kernel_rfl) (fun _ _ _ h => h) (Or.inl ⟨by rfl, ?_⟩) hH ?_; rotate_left; (focus (intro wS hSw; (try dsimp only at hSw); go_simp; (try with_reducible rfl))); simp only [Act.put, List.setIfInBounds_toArray, List.set_cons_zero, List.set_cons_succ]
    refine wpAnyH_ready (rs := [4]) (by kernel_rfl) (by simp) ?_
    refine AllReadyH.cons (o := { dst := some 22, op := Go.Op.call { callee := Go.Callee.value (Go.Operand.func 225), args := #[Go.Operand.tmp 19, Go.Operand.tmp 21], argTypes := #[60, 232] }, type := 228, pos := "expr.go:81", after := #[{ on := 1, ground := Go.Ground.data }, { on := 3, ground := Go.Ground.data }], guard := none }) rfl (fun K hK => ?_) AllReadyH.nil
    go_simp
    go_at_call 225
    with_reducible refine (HWP.out _ _ _ (by omega) hr3.drew).mono ?_
    intro e4 w4 hq4
    obtain ⟨rfl, hb4, hk4⟩ := PostR.of_bad hq4 hp4
    exact ⟨rfl, HB.out _ _ (by rw [← HRS.out]; simp [elemP, hp1, hp2, hp4]) hb4 ((hg3.below (Below.refl _ _).drew).trans hk4)⟩
  | ok x4 t4 d4 =>
    obtain ⟨e0, e1, e2, e3, e4, e5, e6, e7, e8, e9⟩ := HS.out _ (gr_refl W1 W3)
    go_region_with (first
      | (go_at_call 225; (with_reducible refine (HWP.out _ _ _ (by omega) hr3.drew).mono ?_); intro e4 w4 hq4; obtain ⟨v4, rfl, ⟨la4, ln4, lc4, rfl, hf4, rfl, hle4⟩, hl4, hr4, hk4⟩ := PostR.of_ok hq4 hp4; obtain ⟨g0, g1, g2, g3, g4, g5, g6, g7, g8, g9⟩ := HS.out _ ((gr_refl W1 W3).drew.trans hk4))
      | (go_at_call 195; (with_reducible refine (HPD.out _ _ _ _ _ _ _ _ _ _ hf4 hk4.size hle4).mono ?_); rintro e5 w5 ⟨aN, nN, cN, aV, nV, cV, rfl, hrn, hrv, hb5⟩; have hk5 := Lib.hid (((gr_refl W1 W3).drew.trans hk4).below hb5); obtain ⟨⟨p0, p1, p2, p3, p4, p5, p6, p7, p8, p9⟩, ⟨q0, q1, q2, q3, q4, q5, q6, q7, q8, q9⟩⟩ := blk10 (gr_block hk5.out (by omega) HE3.out)))
    all_goals (
      have hsz4 := hk4.size
      have hBle : W3.heap.size ≤ (W3.drew).heap.size := Nat.le_refl _
      have hsz4' : W3.heap.size ≤ w4.heap.size := Nat.le_trans hBle hsz4
      have hsz5 := hb5.size
      obtain ⟨W5, hW5⟩ : ∃ W5, ((((((((((w5.setCell ⟨w1.heap.size, 0, none⟩ (.int .u8 11)).setCell ⟨w1.heap.size, 1, none⟩ (.int .i64 0)).setCell ⟨w1.heap.size, 2, none⟩ (.string ⟨x2.toArray⟩)).setCell ⟨w1.heap.size, 3, none⟩ (.slice none 0 0)).setCell ⟨w1.heap.size, 4, none⟩ (.slice aN nN cN)).setCell ⟨w1.heap.size, 5, none⟩ (.slice aV nV cV)).setCell ⟨w1.heap.size, 6, none⟩ (.int .u8 1)).setCell ⟨w1.heap.size, 7, none⟩ (.slice la1 x1.length lc1)).setCell ⟨w1.heap.size, 8, none⟩ (.slice none 0 0)).setCell ⟨w1.heap.size, 9, none⟩ (.string ⟨#[]⟩)) = W5 := ⟨_, rfl⟩
      have hput : Put w1.heap.size w5 W5 := by rw [← hW5]; exact ((((((((((Put.refl _ _).set _ _).set _ _).set _ _).set _ _).set _ _).set _ _).set _ _).set _ _).set _ _).set _ _
      have hzp : W5.heap.size = w5.heap.size := hput.size
      have HE5 : Hid (W5.heap[w1.heap.size]? = some (.cells #[.int .u8 11, .int .i64 0, .string ⟨x2.toArray⟩, .slice none 0 0, .slice aN nN cN, .slice aV nV cV, .int .u8 1, .slice la1 x1.length lc1, .slice none 0 0, .string ⟨#[]⟩] 42 (0, 0))) := Lib.hid (by rw [← hW5]; exact put10 (gr_block hk5.out (by omega) HE3.out) _ _ _ _ _ _ _ _ _ _)
      have hr5 : RD' W1 wv ws c t4 d4 W5 := hput.rd (hr4.keep hb5) hlt1
      have hg5 : Gr W1 W W5 := hput.gr (hg3.trans hk5.out) (by omega)
      have hk50 : Gr W1 W0 W5 := hput.gr (hk3.trans hk5.out) (by omega)
      have hk15 : Gr W1 w1 W5 := hput.gr (hk13.trans hk5.out) (Nat.le_refl _)
      have hrn5 : (ofRows 1 (x4.map (·.take 1))).Rep W5 (W3.heap.size ≤ ·) (.slice aN nN cN) := hrn.keep (Nat.le_of_eq hzp.symm) (fun b _ h => Nat.le_trans hBle h) (fun b h1 h2 => hput.block b (by have : W3.heap.size ≤ b := Nat.le_trans hBle h1; omega))
      have hrv5 : (ofRows 10 (x4.map (·.drop 1))).Rep W5 (W3.heap.size ≤ ·) (.slice aV nV cV) := hrv.keep (Nat.le_of_eq hzp.symm) (fun b _ h => Nat.le_trans hBle h) (fun b h1 h2 => hput.block b (by have : W3.heap.size ≤ b := Nat.le_trans hBle h1; omega))
      try rw [hW5]
      clear hW5
      clear e0 e1 e2 e3 e4 e5 e6 e7 e8 e9 g0 g1 g2 g3 g4 g5 g6 g7 g8 g9 p0 p1 p2 p3 p4 p5 p6 p7 p8 p9 q0 q1 q2 q3 q4 q5 q6 q7 q8 q9
      have hk5' := hk5
      clear hk5
      have hk5 := hk50
      have HKR : Hid (∀ w6 w7, Gr W1 W5 w6 → (∀ b, W0.heap.size ≤ b → b ≠ w1.heap.size → b < w6.heap.size → w7.heap[b]? = w6.heap[b]?) → w6.heap.size ≤ w7.heap.size → (ofRows 10 x1).Rep w7 (W.heap.size ≤ ·) (.slice la1 x1.length lc1)) := Lib.hid fun w6 w7 h6 h7 hs7 => rep_key hf1 hk15 h6 h7 hs7 hltW0 (by omega)
      have HNR : Hid (∀ w6 w7, Gr W1 W5 w6 → (∀ b, W0.heap.size ≤ b → b ≠ w1.heap.size → b < w6.heap.size → w7.heap[b]? = w6.heap[b]?) → w6.heap.size ≤ w7.heap.size → (ofRows 1 (x4.map (·.take 1))).Rep w7 (W.heap.size ≤ ·) (.slice aN nN cN)) := Lib.hid fun w6 w7 h6 h7 hs7 => rep_pairs hrn5 h6 h7 hs7 (by omega) (by omega) (by omega) (by omega)
      have HVR : Hid (∀ w6 w7, Gr W1 W5 w6 → (∀ b, W0.heap.size ≤ b → b ≠ w1.heap.size → b < w6.heap.size → w7.heap[b]? = w6.heap[b]?) → w6.heap.size ≤ w7.heap.size → (ofRows 10 (x4.map (·.drop 1))).Rep w7 (W.heap.size ≤ ·) (.slice aV nV cV)) := Lib.hid fun w6 w7 h6 h7 hs7 => rep_pairs hrv5 h6 h7 hs7 (by omega) (by omega) (by omega) (by omega)
      clear HKY HN HWP HPD
      obtain ⟨⟨e0, e1, e2, e3, e4, e5, e6, e7, e8, e9⟩, ⟨k0, k1, k2, k3, k4, k5, k6, k7, k8, k9⟩⟩ := blk10 HE5.out
      go_wp2_with (first
        | (go_at_call 162; (with_reducible refine (HLE.out _ _ _ (by omega) hr5).mono ?_); rintro e6 w6 (⟨t6, hp6, rfl, hb6, hk6⟩ | ⟨x6, t6, d6, v6, hp6, rfl, ⟨la6, ln6, lc6, rfl, hf6, rfl, hle6⟩, hl6, hr6, hk6⟩); all_goals (obtain ⟨⟨f0, f1, f2, f3, f4, f5, f6, f7, f8, f9⟩, ⟨g0, g1, g2, g3, g4, g5, g6, g7, g8, g9⟩⟩ := blk10 (gr_block hk6 (by omega) HE5.out)))
        | (refine wpList_load_row rfl 42 _ rfl w1.heap.size rfl 42 #[.int .u8 11, .int .i64 0, .string ⟨x2.toArray⟩, .slice la6 x6.length lc6, .slice aN nN cN, .slice aV nV cV, .int .u8 1, .slice la1 x1.length lc1, .slice none 0 0, .string ⟨#[]⟩] (0, 0) _ (set_row (gr_block hk6 (by omega) HE5.out) 3 _) Tryz.underlying42 rfl iszE ?_)
        | (refine wpList_store_row rfl 42 _ _ rfl W.heap.size _ rfl rfl 42 #[.int .u8 0, .int .i64 0, .string ⟨#[]⟩, .slice none 0 0, .slice none 0 0, .slice none 0 0, .int .u8 0, .slice none 0 0, .slice none 0 0, .string ⟨#[]⟩] ((Below.heap_setCell _ _ _ _ (by show W.heap.size ≠ w1.heap.size; omega)).trans (gr_block (hk5.trans hk6) hlt HK0.out)) iszE rfl (all_one (shE_one (by exact ⟨_, _, _, _, _, _, _, _, _, _, _, _, _, _, _, _, _, _, _, _, rfl⟩)).1) ?_))
      · exact ⟨rfl, HB.out _ _ (by rw [← HRS.out]; simp [elemP, hp1, hp2, hp4, hp6]) hb6 (hg5.trans hk6)⟩
      · have hsz6 := hk6.size
        refine bodyPost_ret (results_cell_row Tryz.results199 _ _ W.heap.size 42 _ (0, 0) _ rfl (setRow_heap _ _ _ _ _ _ ((Below.heap_setCell _ _ _ _ (by show W.heap.size ≠ w1.heap.size; omega)).trans (gr_block (hk5.trans hk6) hlt HK0.out))) Tryz.underlying42 rfl iszE) rfl ?_
        have hrow : ∀ w7, (∀ b, W0.heap.size ≤ b → b ≠ w1.heap.size → b < w6.heap.size → w7.heap[b]? = w6.heap[b]?) → w6.heap.size ≤ w7.heap.size → Row w7 (W.heap.size ≤ ·) (eCols 11 0 x2 x6 (x4.map (·.take 1)) (x4.map (·.drop 1)) 1 x1 [] []) [.int .u8 11, .int .i64 0, .string ⟨x2.toArray⟩, .slice la6 x6.length lc6, .slice aN nN cN, .slice aV nV cV, .int .u8 1, .slice la1 x1.length lc1, .slice none 0 0, .string ⟨#[]⟩] := fun w7 h7 hs7 =>
          row_one _ (row_one _ (row_one _ (row_rows (hf6.rep.keep hs7 (fun _ _ h => by omega) (fun b h1 h2 => h7 b (by omega) (by omega) h2)) (row_rows (HNR.out w6 w7 hk6 h7 hs7) (row_rows (HVR.out w6 w7 hk6 h7 hs7) (row_one _ (row_rows (HKR.out w6 w7 hk6 h7 hs7) (row_rows (rep_nil 12) (row_one _ .nil)))))))))
        refine HO.out (eCols 11 0 x2 x6 (x4.map (·.take 1)) (x4.map (·.drop 1)) 1 x1 [] []) t6 d6 _ _ (by rw [← HRS.out]; simp [elemP, hp1, hp2, hp4, hp6]) ⟨_, rfl, ⟨_, _, _, _, _, _, _, _, _, _, _, _, _, _, _, _, _, _, _, _, rfl⟩, hrow _ (fun b h1 h2 h3 => by rw [setRow_other _ _ _ _ (by omega), Below.heap_setCell _ _ _ _ (by show b ≠ w1.heap.size; exact h2)]) (by simp [World.setRow, World.setCell])⟩ (by omega) ((put_row _ _ _).rd (hr6.setN (by omega) 3 _) hlt) ((put_row _ _ _).gr ((hg5.trans hk6).setN (by omega) 3 _) (Nat.le_refl _))
    )
set_option maxRecDepth 100000 in
set_option maxHeartbeats 16000000 in
theorem elem2_any {W1 : World} {wv : Value} {ws : List LX.LW} {c : Str} {t d : Nat} {W : World} (h : RD' W1 wv ws c t d W) (hn : ws.length ≤ 65536) {ex : Nat → Nat → Rs (List T)} (he : ∀ t' d' W', t ≤ t' → RD' W1 wv ws c t' d' W' → Calls Tryz.prog 64 #[rp W1] W' (PostR W1 wv ws c (t' + 1) W' (FT ShE W'.heap.size) (ex t' d'))) (hky : ∀ t' d' W', t ≤ t' → RD' W1 wv ws c t' d' W' → Calls Tryz.prog 224 #[rp W1] W' (PostR W1 wv ws c (t' + 1) W' (FSl ShE 42 10 W'.heap.size) (keyP (ws.map nol) ex t' d'))) :
    Calls Tryz.prog 199 #[rp W1, .int .u8 2] W (PostR W1 wv ws c t W (FT ShE W.heap.size) (elemP (ws.map nol) ex 2 t d)) := by
  obtain ⟨W0, hW0⟩ : ∃ W0, W.alloc (.cells #[.int .u8 0, .int .i64 0, .string ⟨#[]⟩, .slice none 0 0, .slice none 0 0, .slice none 0 0, .int .u8 0, .slice none 0 0, .slice none 0 0, .string ⟨#[]⟩] 42) = W0 := ⟨_, rfl⟩
  have hlt := h.1.lt
  have hr0 : RD' W1 wv ws c t d W0 := by rw [← hW0]; exact h.alloc _
  have hg0 : Gr W1 W W0 := by rw [← hW0]; exact (gr_refl W1 W).alloc _
  have hz0 : W0.heap.size = W.heap.size + 1 := by rw [← hW0]; simp
  have hb0 : W0.heap[W.heap.size]? = some (.cells #[.int .u8 0, .int .i64 0, .string ⟨#[]⟩, .slice none 0 0, .slice none 0 0, .slice none 0 0, .int .u8 0, .slice none 0 0, .slice none 0 0, .string ⟨#[]⟩] 42 (0, 0)) := by rw [← hW0]; exact heap_alloc_new _ _
  have HK0 := Lib.hid hb0
  have HKY := Lib.hid (hky t d W0 (Nat.le_refl _) hr0)
  have HN := Lib.hid (fun t d W (h : RD' W1 wv ws c t d W) => name_any h hn)
  have HWP : Hid (∀ t' d' W', t ≤ t' → RD' W1 wv ws c t' d' W' → Calls Tryz.prog 225 #[rp W1, .func (.func 197) #[rp W1] #[]] W' (PostR W1 wv ws c (t' + 1) W' (FSl ShP 231 11 W'.heap.size) (withinP (ws.map nol) (pairP (ws.map nol) ex) t' d'))) := Lib.hid fun t' d' W' h1 h2 => withinP_any h2 hn (fun t2 d2 W2 h3 h4 => pair_any h4 hn (fun t3 d3 W3 h5 h6 => he t3 d3 W3 (Nat.le_trans (Nat.le_trans h1 h3) h5) h6))
  have HLE : Hid (∀ t' d' W', t ≤ t' → RD' W1 wv ws c t' d' W' → Calls Tryz.prog 162 #[rp W1, .func (.func 64) #[rp W1] #[]] W' (PostR W1 wv ws c (t' + 1) W' (FSl ShE 42 10 W'.heap.size) (allP (ws.map nol) (ex) FU t' d'))) := Lib.hid fun t' d' W' h1 h2 => allE_any h2 hn (fun t2 d2 W2 h3 h4 => he t2 d2 W2 (Nat.le_trans h1 h3) h4) FU (by unfold FU; omega)
  have HPD := Lib.hid (fun (k : Int) (S : ByteArray) (kp : Option Addr) (kl kq : Nat) (l : List (List T)) (al : Option Addr) (cap B : Nat) (W : World) (hf : FRows ShP 231 11 B l (.slice al l.length cap) W) (hB : B ≤ W.heap.size) (hl : l.length ≤ 65537) => paired_any 11 0 S none 0 0 k kp kl kq none 0 0 ⟨#[]⟩ l al cap B W hf hB hl)
  obtain ⟨rs, hrs⟩ : ∃ r, (elemP (ws.map nol) ex 2 t d) = r := ⟨_, rfl⟩
  rw [hrs]
  obtain ⟨post, hpost⟩ : ∃ p, PostR W1 wv ws c (t) W (FT ShE W.heap.size) rs = p := ⟨_, rfl⟩
  have HB : Hid (∀ t' w', rs = .bad t' → (∃ d, RD W1 wv ws c t' d w') → Gr W1 W w' → post (.panicked [pz]) w') := fun t' w' h1 h2 h3 => by rw [← hpost]; exact .inl ⟨t', h1, rfl, h2, h3⟩
  have HO : Hid (∀ x t' d' v w', rs = .ok x t' d' → (FT ShE W.heap.size) x v w' → t ≤ t' → RD' W1 wv ws c t' d' w' → Gr W1 W w' → post (.returned v) w') := fun x t' d' v w' h1 h2 h3 h4 h5 => by rw [← hpost]; exact .inr ⟨x, t', d', v, h1, rfl, h2, h3, h4, h5⟩
  rw [hpost]
  have HRS := Lib.hid hrs
  clear hrs hpost
  clear h hb0 hky he
  go_enter Tryz.func199, Tryz.ntmps199
  go_upto_region 7 with (first
    | (go_at_call 224; (with_reducible refine (HKY.out).mono ?_); rintro e1 w1 (⟨t1, hp1, rfl, hb1, hk1⟩ | ⟨x1, t1, d1, v1, hp1, rfl, ⟨la1, ln1, lc1, rfl, hf1, rfl, hle1⟩, hl1, hr1, hk1⟩))
    | (go_at_call 62; (with_reducible refine (HN.out _ _ _ (hr1.alloc _)).mono ?_); rintro e2 w2 (⟨t2, hp2, rfl, hb2, hk2⟩ | ⟨x2, t2, d2, v2, hp2, rfl, rfl, hl2, hr2, hk2⟩); all_goals (obtain ⟨⟨e0, e1, e2, e3, e4, e5, e6, e7, e8, e9⟩, ⟨k0, k1, k2, k3, k4, k5, k6, k7, k8, k9⟩⟩ := blk10 (gr_block hk2 (by have := hr1.1.lt; omega) (heap_alloc_new w1 (.cells #[.int .u8 11, .int .i64 0, .string ⟨#[]⟩, .slice none 0 0, .slice none 0 0, .slice none 0 0, .int .u8 2, .slice la1 x1.length lc1, .slice none 0 0, .string ⟨#[]⟩] 42))))))
  · exact ⟨rfl, HB.out _ _ (by rw [← HRS.out]; simp [elemP, hp1]) hb1 (hg0.trans hk1)⟩
  · exact ⟨rfl, HB.out _ _ (by rw [← HRS.out]; simp [elemP, hp1, hp2]) hb2 (((hg0.trans hk1).alloc _).trans hk2)⟩
  have hlt1 := hr1.1.lt
  have hsz1 := hk1.size
  have hsz2 := hk2.size
  have hsz2' : w1.heap.size + 1 ≤ w2.heap.size := by simpa using hsz2
  have hltW0 := Nat.lt_of_lt_of_le hlt hg0.size
  have hbk := gr_block hk2 (by omega) (heap_alloc_new w1 (.cells #[.int .u8 11, .int .i64 0, .string ⟨#[]⟩, .slice none 0 0, .slice none 0 0, .slice none 0 0, .int .u8 2, .slice la1 x1.length lc1, .slice none 0 0, .string ⟨#[]⟩] 42))
  obtain ⟨W3, hW3⟩ : ∃ W3, w2.setCell ⟨w1.heap.size, 2, none⟩ (.string ⟨x2.toArray⟩) = W3 := ⟨_, rfl⟩
  have hr3 : RD' W1 wv ws c t2 d2 W3 := by rw [← hW3]; exact hr2.setN (by omega) 2 _
  have hg3 : Gr W1 W W3 := by rw [← hW3]; exact (((hg0.trans hk1).alloc _).trans hk2).setN (by omega) 2 _
  have hk3 : Gr W1 W0 W3 := by rw [← hW3]; exact ((hk1.alloc _).trans hk2).setN (by omega) 2 _
  have hk13 : Gr W1 w1 W3 := by rw [← hW3]; exact (((gr_refl W1 w1).alloc _).trans hk2).setN (Nat.le_refl _) 2 _
  have hz3 : W3.heap.size = w2.heap.size := by rw [← hW3]; simp [World.setCell]
  have HE3 : Hid (W3.heap[w1.heap.size]? = some (.cells #[.int .u8 11, .int .i64 0, .string ⟨x2.toArray⟩, .slice none 0 0, .slice none 0 0, .slice none 0 0, .int .u8 2, .slice la1 x1.length lc1, .slice none 0 0, .string ⟨#[]⟩] 42 (0, 0))) := Lib.hid (by rw [← hW3]; exact set_row hbk 2 _)
  clear e0 e1 e2 e3 e4 e5 e6 e7 e8 e9 k0 k1 k2 k3 k4 k5 k6 k7 k8 k9 hbk hsz2
  try rw [hW3]
  clear hW3
  have HS : Hid (∀ w', Gr W1 W3 w' → w'.cell? ⟨w1.heap.size, 0, none⟩ = some (.int .u8 11) ∧ w'.cell? ⟨w1.heap.size, 1, none⟩ = some (.int .i64 0) ∧ w'.cell? ⟨w1.heap.size, 2, none⟩ = some (.string ⟨x2.toArray⟩) ∧ w'.cell? ⟨w1.heap.size, 3, none⟩ = some (.slice none 0 0) ∧ w'.cell? ⟨w1.heap.size, 4, none⟩ = some (.slice none 0 0) ∧ w'.cell? ⟨w1.heap.size, 5, none⟩ = some (.slice none 0 0) ∧ w'.cell? ⟨w1.heap.size, 6, none⟩ = some (.int .u8 2) ∧ w'.cell? ⟨w1.heap.size, 7, none⟩ = some (.slice la1 x1.length lc1) ∧ w'.cell? ⟨w1.heap.size, 8, none⟩ = some (.slice none 0 0) ∧ w'.cell? ⟨w1.heap.size, 9, none⟩ = some (.string ⟨#[]⟩)) := Lib.hid fun w' hw => (blk10 (gr_block hw (by omega) HE3.out)).1
  have hszw3 : w1.heap.size < W3.heap.size := tr_lt_of_block HE3.out
  have hz2n := hr3.2.1
  cases hp4 : withinP (ws.map nol) (pairP (ws.map nol) ex) t2 d2 with
  | bad t4 =>
    have hmf : ∀ (fn : Fn) (first cap : Array Value) (w : World), (Instr.makeFunc fn first cap).run Tryz.prog w = .ok (.func fn first cap) w := fun _ _ _ _ => rfl
    refine wp_region_held_drew (S := fun w' => w'.cell? ⟨w1.heap.size, 0, none⟩ = some (.int .u8 11) ∧ w'.cell? ⟨w1.heap.size, 1, none⟩ = some (.int .i64 0) ∧ w'.cell? ⟨w1.heap.size, 2, none⟩ = some (.string ⟨x2.toArray⟩) ∧ w'.cell? ⟨w1.heap.size, 3, none⟩ = some (.slice none 0 0) ∧ w'.cell? ⟨w1.heap.size, 4, none⟩ = some (.slice none 0 0) ∧ w'.cell? ⟨w1.heap.size, 5, none⟩ = some (.slice none 0 0) ∧ w'.cell? ⟨w1.heap.size, 6, none⟩ = some (.int .u8 2) ∧ w'.cell? ⟨w1.heap.size, 7, none⟩ = some (.slice la1 x1.length lc1) ∧ w'.cell? ⟨w1.heap.size, 8, none⟩ = some (.slice none 0 0) ∧ w'.cell? ⟨w1.heap.size, 9, none⟩ = some (.string ⟨#[]⟩)) (by kernel_rfl) (HS.out _ ((gr_refl W1 W3).drew)) (fun hH => ?_)
    refine wpAnyH_take (i := 0) (oi := { dst := some 18, op := Go.Op.load 42 (Go.Operand.tmp 5), type := 42, pos := "expr.go:81", after := #[], guard := none }) (v := ?_) rfl (by kernel_rfl) (by kernel_rfl) (by kernel_rfl) (fun _ _ _ h => h) (Or.inl ⟨by rfl, ?_⟩) hH ?_; rotate_left; (focus (intro wS hSw; (try dsimp only at hSw); go_simp; (try with_reducible rfl))); simp only [Act.put, List.setIfInBounds_toArray, List.set_cons_zero, List.set_cons_succ]
    refine wpAnyH_take (i := 1) (oi := { dst := some 19, op := Go.Op.move (Go.Operand.tmp 0), type := 60, pos := "expr.go:81", after := #[], guard := none }) (v := ?_) rfl (by kernel_rfl) (by kernel_rfl) (by kernel_rfl) (fun _ _ _ h => h) (Or.inl ⟨by rfl, ?_⟩) hH ?_; rotate_left; (focus (intro wS hSw; (try dsimp only at hSw); go_simp; (try with_reducible rfl))); simp only [Act.put, List.setIfInBounds_toArray, List.set_cons_zero, List.set_cons_succ]
    refine wpAnyH_take (i := 2) (oi := { dst := some 20, op := Go.Op.move (Go.Operand.tmp 0), type := 60, pos := "expr.go:81", after := #[], guard := none }) (v := ?_) rfl (by kernel_rfl) (by kernel_rfl) (by kernel_rfl) (fun _ _ _ h => h) (Or.inl ⟨by rfl, ?_⟩) hH ?_; rotate_left; (focus (intro wS hSw; (try dsimp only at hSw); go_simp; (try with_reducible rfl))); simp only [Act.put, List.setIfInBounds_toArray, List.set_cons_zero, List.set_cons_succ]
    refine wpAnyH_take (i := 3) (oi := { dst := some 21, op := Go.Op.makeFunc (Go.Fn.func 197) #[Go.Operand.tmp 20] #[], type := 232, pos := "expr.go:81", after := #[{ on := 2, ground := Go.Ground.data }], guard := none }) (v := ?_) rfl (by kernel_rfl) (by kernel_rfl) (by kernel_rfl) (fun _ _ _ h => h) (Or.inl ⟨by rfl, ?_⟩) hH ?_; rotate_left; (focus (intro wS hSw; (try dsimp only at hSw); go_simp; (try with_reducible rfl))); simp only [Act.put, List.setIfInBounds_toArray, List.set_cons_zero, List.set_cons_succ]
    refine wpAnyH_ready (rs := [4]) (by kernel_rfl) (by simp) ?_
    refine AllReadyH.cons (o := { dst := some 22, op := Go.Op.call { callee := Go.Callee.value (Go.Operand.func 225), args := #[Go.Operand.tmp 19, Go.Operand.tmp 21], argTypes := #[60, 232] }, type := 228, pos := "expr.go:81", after := #[{ on := 1, ground := Go.Ground.data }, { on := 3, ground := Go.Ground.data }], guard := none }) rfl (fun K hK => ?_) AllReadyH.nil
    go_simp
    go_at_call 225
    with_reducible refine (HWP.out _ _ _ (by omega) hr3.drew).mono ?_
    intro e4 w4 hq4
    obtain ⟨rfl, hb4, hk4⟩ := PostR.of_bad hq4 hp4
    exact ⟨rfl, HB.out _ _ (by rw [← HRS.out]; simp [elemP, hp1, hp2, hp4]) hb4 ((hg3.below (Below.refl _ _).drew).trans hk4)⟩
  | ok x4 t4 d4 =>
    obtain ⟨e0, e1, e2, e3, e4, e5, e6, e7, e8, e9⟩ := HS.out _ (gr_refl W1 W3)
    go_region_with (first
      | (go_at_call 225; (with_reducible refine (HWP.out _ _ _ (by omega) hr3.drew).mono ?_); intro e4 w4 hq4; obtain ⟨v4, rfl, ⟨la4, ln4, lc4, rfl, hf4, rfl, hle4⟩, hl4, hr4, hk4⟩ := PostR.of_ok hq4 hp4; obtain ⟨g0, g1, g2, g3, g4, g5, g6, g7, g8, g9⟩ := HS.out _ ((gr_refl W1 W3).drew.trans hk4))
      | (go_at_call 195; (with_reducible refine (HPD.out _ _ _ _ _ _ _ _ _ _ hf4 hk4.size hle4).mono ?_); rintro e5 w5 ⟨aN, nN, cN, aV, nV, cV, rfl, hrn, hrv, hb5⟩; have hk5 := Lib.hid (((gr_refl W1 W3).drew.trans hk4).below hb5); obtain ⟨⟨p0, p1, p2, p3, p4, p5, p6, p7, p8, p9⟩, ⟨q0, q1, q2, q3, q4, q5, q6, q7, q8, q9⟩⟩ := blk10 (gr_block hk5.out (by omega) HE3.out)))
    all_goals (
      have hsz4 := hk4.size
      have hBle : W3.heap.size ≤ (W3.drew).heap.size := Nat.le_refl _
      have hsz4' : W3.heap.size ≤ w4.heap.size := Nat.le_trans hBle hsz4
      have hsz5 := hb5.size
      obtain ⟨W5, hW5⟩ : ∃ W5, ((((((((((w5.setCell ⟨w1.heap.size, 0, none⟩ (.int .u8 11)).setCell ⟨w1.heap.size, 1, none⟩ (.int .i64 0)).setCell ⟨w1.heap.size, 2, none⟩ (.string ⟨x2.toArray⟩)).setCell ⟨w1.heap.size, 3, none⟩ (.slice none 0 0)).setCell ⟨w1.heap.size, 4, none⟩ (.slice aN nN cN)).setCell ⟨w1.heap.size, 5, none⟩ (.slice aV nV cV)).setCell ⟨w1.heap.size, 6, none⟩ (.int .u8 2)).setCell ⟨w1.heap.size, 7, none⟩ (.slice la1 x1.length lc1)).setCell ⟨w1.heap.size, 8, none⟩ (.slice none 0 0)).setCell ⟨w1.heap.size, 9, none⟩ (.string ⟨#[]⟩)) = W5 := ⟨_, rfl⟩
      have hput : Put w1.heap.size w5 W5 := by rw [← hW5]; exact ((((((((((Put.refl _ _).set _ _).set _ _).set _ _).set _ _).set _ _).set _ _).set _ _).set _ _).set _ _).set _ _
      have hzp : W5.heap.size = w5.heap.size := hput.size
      have HE5 : Hid (W5.heap[w1.heap.size]? = some (.cells #[.int .u8 11, .int .i64 0, .string ⟨x2.toArray⟩, .slice none 0 0, .slice aN nN cN, .slice aV nV cV, .int .u8 2, .slice la1 x1.length lc1, .slice none 0 0, .string ⟨#[]⟩] 42 (0, 0))) := Lib.hid (by rw [← hW5]; exact put10 (gr_block hk5.out (by omega) HE3.out) _ _ _ _ _ _ _ _ _ _)
      have hr5 : RD' W1 wv ws c t4 d4 W5 := hput.rd (hr4.keep hb5) hlt1
      have hg5 : Gr W1 W W5 := hput.gr (hg3.trans hk5.out) (by omega)
      have hk50 : Gr W1 W0 W5 := hput.gr (hk3.trans hk5.out) (by omega)
      have hk15 : Gr W1 w1 W5 := hput.gr (hk13.trans hk5.out) (Nat.le_refl _)
      have hrn5 : (ofRows 1 (x4.map (·.take 1))).Rep W5 (W3.heap.size ≤ ·) (.slice aN nN cN) := hrn.keep (Nat.le_of_eq hzp.symm) (fun b _ h => Nat.le_trans hBle h) (fun b h1 h2 => hput.block b (by have : W3.heap.size ≤ b := Nat.le_trans hBle h1; omega))
      have hrv5 : (ofRows 10 (x4.map (·.drop 1))).Rep W5 (W3.heap.size ≤ ·) (.slice aV nV cV) := hrv.keep (Nat.le_of_eq hzp.symm) (fun b _ h => Nat.le_trans hBle h) (fun b h1 h2 => hput.block b (by have : W3.heap.size ≤ b := Nat.le_trans hBle h1; omega))
      try rw [hW5]
      clear hW5
      clear e0 e1 e2 e3 e4 e5 e6 e7 e8 e9 g0 g1 g2 g3 g4 g5 g6 g7 g8 g9 p0 p1 p2 p3 p4 p5 p6 p7 p8 p9 q0 q1 q2 q3 q4 q5 q6 q7 q8 q9
      have hk5' := hk5
      clear hk5
      have hk5 := hk50
      have HKR : Hid (∀ w6 w7, Gr W1 W5 w6 → (∀ b, W0.heap.size ≤ b → b ≠ w1.heap.size → b < w6.heap.size → w7.heap[b]? = w6.heap[b]?) → w6.heap.size ≤ w7.heap.size → (ofRows 10 x1).Rep w7 (W.heap.size ≤ ·) (.slice la1 x1.length lc1)) := Lib.hid fun w6 w7 h6 h7 hs7 => rep_key hf1 hk15 h6 h7 hs7 hltW0 (by omega)
      have HNR : Hid (∀ w6 w7, Gr W1 W5 w6 → (∀ b, W0.heap.size ≤ b → b ≠ w1.heap.size → b < w6.heap.size → w7.heap[b]? = w6.heap[b]?) → w6.heap.size ≤ w7.heap.size → (ofRows 1 (x4.map (·.take 1))).Rep w7 (W.heap.size ≤ ·) (.slice aN nN cN)) := Lib.hid fun w6 w7 h6 h7 hs7 => rep_pairs hrn5 h6 h7 hs7 (by omega) (by omega) (by omega) (by omega)
      have HVR : Hid (∀ w6 w7, Gr W1 W5 w6 → (∀ b, W0.heap.size ≤ b → b ≠ w1.heap.size → b < w6.heap.size → w7.heap[b]? = w6.heap[b]?) → w6.heap.size ≤ w7.heap.size → (ofRows 10 (x4.map (·.drop 1))).Rep w7 (W.heap.size ≤ ·) (.slice aV nV cV)) := Lib.hid fun w6 w7 h6 h7 hs7 => rep_pairs hrv5 h6 h7 hs7 (by omega) (by omega) (by omega) (by omega)
      clear HKY HN HWP HPD
      obtain ⟨⟨e0, e1, e2, e3, e4, e5, e6, e7, e8, e9⟩, ⟨k0, k1, k2, k3, k4, k5, k6, k7, k8, k9⟩⟩ := blk10 HE5.out
      go_wp2_with (first
        | (go_at_call 162; (with_reducible refine (HLE.out _ _ _ (by omega) hr5).mono ?_); rintro e6 w6 (⟨t6, hp6, rfl, hb6, hk6⟩ | ⟨x6, t6, d6, v6, hp6, rfl, ⟨la6, ln6, lc6, rfl, hf6, rfl, hle6⟩, hl6, hr6, hk6⟩); all_goals (obtain ⟨⟨f0, f1, f2, f3, f4, f5, f6, f7, f8, f9⟩, ⟨g0, g1, g2, g3, g4, g5, g6, g7, g8, g9⟩⟩ := blk10 (gr_block hk6 (by omega) HE5.out)))
        | (refine wpList_load_row rfl 42 _ rfl w1.heap.size rfl 42 #[.int .u8 11, .int .i64 0, .string ⟨x2.toArray⟩, .slice la6 x6.length lc6, .slice aN nN cN, .slice aV nV cV, .int .u8 2, .slice la1 x1.length lc1, .slice none 0 0, .string ⟨#[]⟩] (0, 0) _ (set_row (gr_block hk6 (by omega) HE5.out) 3 _) Tryz.underlying42 rfl iszE ?_)
        | (refine wpList_store_row rfl 42 _ _ rfl W.heap.size _ rfl rfl 42 #[.int .u8 0, .int .i64 0, .string ⟨#[]⟩, .slice none 0 0, .slice none 0 0, .slice none 0 0, .int .u8 0, .slice none 0 0, .slice none 0 0, .string ⟨#[]⟩] ((Below.heap_setCell _ _ _ _ (by show W.heap.size ≠ w1.heap.size; omega)).trans (gr_block (hk5.trans hk6) hlt HK0.out)) iszE rfl (all_one (shE_one (by exact ⟨_, _, _, _, _, _, _, _, _, _, _, _, _, _, _, _, _, _, _, _, rfl⟩)).1) ?_))
      · exact ⟨rfl, HB.out _ _ (by rw [← HRS.out]; simp [elemP, hp1, hp2, hp4, hp6]) hb6 (hg5.trans hk6)⟩
      · have hsz6 := hk6.size
        refine bodyPost_ret (results_cell_row Tryz.results199 _ _ W.heap.size 42 _ (0, 0) _ rfl (setRow_heap _ _ _ _ _ _ ((Below.heap_setCell _ _ _ _ (by show W.heap.size ≠ w1.heap.size; omega)).trans (gr_block (hk5.trans hk6) hlt HK0.out))) Tryz.underlying42 rfl iszE) rfl ?_
        have hrow : ∀ w7, (∀ b, W0.heap.size ≤ b → b ≠ w1.heap.size → b < w6.heap.size → w7.heap[b]? = w6.heap[b]?) → w6.heap.size ≤ w7.heap.size → Row w7 (W.heap.size ≤ ·) (eCols 11 0 x2 x6 (x4.map (·.take 1)) (x4.map (·.drop 1)) 2 x1 [] []) [.int .u8 11, .int .i64 0, .string ⟨x2.toArray⟩, .slice la6 x6.length lc6, .slice aN nN cN, .slice aV nV cV, .int .u8 2, .slice la1 x1.length lc1, .slice none 0 0, .string ⟨#[]⟩] := fun w7 h7 hs7 =>
          row_one _ (row_one _ (row_one _ (row_rows (hf6.rep.keep hs7 (fun _ _ h => by omega) (fun b h1 h2 => h7 b (by omega) (by omega) h2)) (row_rows (HNR.out w6 w7 hk6 h7 hs7) (row_rows (HVR.out w6 w7 hk6 h7 hs7) (row_one _ (row_rows (HKR.out w6 w7 hk6 h7 hs7) (row_rows (rep_nil 12) (row_one _ .nil)))))))))
        refine HO.out (eCols 11 0 x2 x6 (x4.map (·.take 1)) (x4.map (·.drop 1)) 2 x1 [] []) t6 d6 _ _ (by rw [← HRS.out]; simp [elemP, hp1, hp2, hp4, hp6]) ⟨_, rfl, ⟨_, _, _, _, _, _, _, _, _, _, _, _, _, _, _, _, _, _, _, _, rfl⟩, hrow _ (fun b h1 h2 h3 => by rw [setRow_other _ _ _ _ (by omega), Below.heap_setCell _ _ _ _ (by show b ≠ w1.heap.size; exact h2)]) (by simp [World.setRow, World.setCell])⟩ (by omega) ((put_row _ _ _).rd (hr6.setN (by omega) 3 _) hlt) ((put_row _ _ _).gr ((hg5.trans hk6).setN (by omega) 3 _) (Nat.le_refl _))
    )
set_option maxRecDepth 100000 in
set_option maxHeartbeats 16000000 in
theorem elem3_any {W1 : World} {wv : Value} {ws : List LX.LW} {c : Str} {t d : Nat} {W : World} (h : RD' W1 wv ws c t d W) (hn : ws.length ≤ 65536) {ex : Nat → Nat → Rs (List T)} (he : ∀ t' d' W', t ≤ t' → RD' W1 wv ws c t' d' W' → Calls Tryz.prog 64 #[rp W1] W' (PostR W1 wv ws c (t' + 1) W' (FT ShE W'.heap.size) (ex t' d'))) (hky : ∀ t' d' W', t ≤ t' → RD' W1 wv ws c t' d' W' → Calls Tryz.prog 224 #[rp W1] W' (PostR W1 wv ws c (t' + 1) W' (FSl ShE 42 10 W'.heap.size) (keyP (ws.map nol) ex t' d'))) :
    Calls Tryz.prog 199 #[rp W1, .int .u8 3] W (PostR W1 wv ws c t W (FT ShE W.heap.size) (elemP (ws.map nol) ex 3 t d)) := by
  obtain ⟨W0, hW0⟩ : ∃ W0, W.alloc (.cells #[.int .u8 0, .int .i64 0, .string ⟨#[]⟩, .slice none 0 0, .slice none 0 0, .slice none 0 0, .int .u8 0, .slice none 0 0, .slice none 0 0, .string ⟨#[]⟩] 42) = W0 := ⟨_, rfl⟩
  have hlt := h.1.lt
  have hr0 : RD' W1 wv ws c t d W0 := by rw [← hW0]; exact h.alloc _
  have hg0 : Gr W1 W W0 := by rw [← hW0]; exact (gr_refl W1 W).alloc _
  have hz0 : W0.heap.size = W.heap.size + 1 := by rw [← hW0]; simp
  have hb0 : W0.heap[W.heap.size]? = some (.cells #[.int .u8 0, .int .i64 0, .string ⟨#[]⟩, .slice none 0 0, .slice none 0 0, .slice none 0 0, .int .u8 0, .slice none 0 0, .slice none 0 0, .string ⟨#[]⟩] 42 (0, 0)) := by rw [← hW0]; exact heap_alloc_new _ _
  have HK0 := Lib.hid hb0
  have HKY := Lib.hid (hky t d W0 (Nat.le_refl _) hr0)
  have HN := Lib.hid (fun t d W (h : RD' W1 wv ws c t d W) => name_any h hn)
  have HWP : Hid (∀ t' d' W', t ≤ t' → RD' W1 wv ws c t' d' W' → Calls Tryz.prog 225 #[rp W1, .func (.func 197) #[rp W1] #[]] W' (PostR W1 wv ws c (t' + 1) W' (FSl ShP 231 11 W'.heap.size) (withinP (ws.map nol) (pairP (ws.map nol) ex) t' d'))) := Lib.hid fun t' d' W' h1 h2 => withinP_any h2 hn (fun t2 d2 W2 h3 h4 => pair_any h4 hn (fun t3 d3 W3 h5 h6 => he t3 d3 W3 (Nat.le_trans (Nat.le_trans h1 h3) h5) h6))
  have HLE : Hid (∀ t' d' W', t ≤ t' → RD' W1 wv ws c t' d' W' → Calls Tryz.prog 162 #[rp W1, .func (.func 64) #[rp W1] #[]] W' (PostR W1 wv ws c (t' + 1) W' (FSl ShE 42 10 W'.heap.size) (allP (ws.map nol) (ex) FU t' d'))) := Lib.hid fun t' d' W' h1 h2 => allE_any h2 hn (fun t2 d2 W2 h3 h4 => he t2 d2 W2 (Nat.le_trans h1 h3) h4) FU (by unfold FU; omega)
  have HPD := Lib.hid (fun (k : Int) (S : ByteArray) (kp : Option Addr) (kl kq : Nat) (l : List (List T)) (al : Option Addr) (cap B : Nat) (W : World) (hf : FRows ShP 231 11 B l (.slice al l.length cap) W) (hB : B ≤ W.heap.size) (hl : l.length ≤ 65537) => paired_any 11 0 S none 0 0 k kp kl kq none 0 0 ⟨#[]⟩ l al cap B W hf hB hl)
  obtain ⟨rs, hrs⟩ : ∃ r, (elemP (ws.map nol) ex 3 t d) = r := ⟨_, rfl⟩
  rw [hrs]
  obtain ⟨post, hpost⟩ : ∃ p, PostR W1 wv ws c (t) W (FT ShE W.heap.size) rs = p := ⟨_, rfl⟩
  have HB : Hid (∀ t' w', rs = .bad t' → (∃ d, RD W1 wv ws c t' d w') → Gr W1 W w' → post (.panicked [pz]) w') := fun t' w' h1 h2 h3 => by rw [← hpost]; exact .inl ⟨t', h1, rfl, h2, h3⟩
  have HO : Hid (∀ x t' d' v w', rs = .ok x t' d' → (FT ShE W.heap.size) x v w' → t ≤ t' → RD' W1 wv ws c t' d' w' → Gr W1 W w' → post (.returned v) w') := fun x t' d' v w' h1 h2 h3 h4 h5 => by rw [← hpost]; exact .inr ⟨x, t', d', v, h1, rfl, h2, h3, h4, h5⟩
  rw [hpost]
  have HRS := Lib.hid hrs
  clear hrs hpost
  clear h hb0 hky he
  go_enter Tryz.func199, Tryz.ntmps199
  go_upto_region 7 with (first
    | (go_at_call 224; (with_reducible refine (HKY.out).mono ?_); rintro e1 w1 (⟨t1, hp1, rfl, hb1, hk1⟩ | ⟨x1, t1, d1, v1, hp1, rfl, ⟨la1, ln1, lc1, rfl, hf1, rfl, hle1⟩, hl1, hr1, hk1⟩))
    | (go_at_call 62; (with_reducible refine (HN.out _ _ _ (hr1.alloc _)).mono ?_); rintro e2 w2 (⟨t2, hp2, rfl, hb2, hk2⟩ | ⟨x2, t2, d2, v2, hp2, rfl, rfl, hl2, hr2, hk2⟩); all_goals (obtain ⟨⟨e0, e1, e2, e3, e4, e5, e6, e7, e8, e9⟩, ⟨k0, k1, k2, k3, k4, k5, k6, k7, k8, k9⟩⟩ := blk10 (gr_block hk2 (by have := hr1.1.lt; omega) (heap_alloc_new w1 (.cells #[.int .u8 11, .int .i64 0, .string ⟨#[]⟩, .slice none 0 0, .slice none 0 0, .slice none 0 0, .int .u8 3, .slice la1 x1.length lc1, .slice none 0 0, .string ⟨#[]⟩] 42))))))
  · exact ⟨rfl, HB.out _ _ (by rw [← HRS.out]; simp [elemP, hp1]) hb1 (hg0.trans hk1)⟩
  · exact ⟨rfl, HB.out _ _ (by rw [← HRS.out]; simp [elemP, hp1, hp2]) hb2 (((hg0.trans hk1).alloc _).trans hk2)⟩
  have hlt1 := hr1.1.lt
  have hsz1 := hk1.size
  have hsz2 := hk2.size
  have hsz2' : w1.heap.size + 1 ≤ w2.heap.size := by simpa using hsz2
  have hltW0 := Nat.lt_of_lt_of_le hlt hg0.size
  have hbk := gr_block hk2 (by omega) (heap_alloc_new w1 (.cells #[.int .u8 11, .int .i64 0, .string ⟨#[]⟩, .slice none 0 0, .slice none 0 0, .slice none 0 0, .int .u8 3, .slice la1 x1.length lc1, .slice none 0 0, .string ⟨#[]⟩] 42))
  obtain ⟨W3, hW3⟩ : ∃ W3, w2.setCell ⟨w1.heap.size, 2, none⟩ (.string ⟨x2.toArray⟩) = W3 := ⟨_, rfl⟩
  have hr3 : RD' W1 wv ws c t2 d2 W3 := by rw [← hW3]; exact hr2.setN (by omega) 2 _
  have hg3 : Gr W1 W W3 := by rw [← hW3]; exact (((hg0.trans hk1).alloc _).trans hk2).setN (by omega) 2 _
  have hk3 : Gr W1 W0 W3 := by rw [← hW3]; exact ((hk1.alloc _).trans hk2).setN (by omega) 2 _
  have hk13 : Gr W1 w1 W3 := by rw [← hW3]; exact (((gr_refl W1 w1).alloc _).trans hk2).setN (Nat.le_refl _) 2 _
  have hz3 : W3.heap.size = w2.heap.size := by rw [← hW3]; simp [World.setCell]
  have HE3 : Hid (W3.heap[w1.heap.size]? = some (.cells #[.int .u8 11, .int .i64 0, .string ⟨x2.toArray⟩, .slice none 0 0, .slice none 0 0, .slice none 0 0, .int .u8 3, .slice la1 x1.length lc1, .slice none 0 0, .string ⟨#[]⟩] 42 (0, 0))) := Lib.hid (by rw [← hW3]; exact set_row hbk 2 _)
  clear e0 e1 e2 e3 e4 e5 e6 e7 e8 e9 k0 k1 k2 k3 k4 k5 k6 k7 k8 k9 hbk hsz2
  try rw [hW3]
  clear hW3
  have HS : Hid (∀ w', Gr W1 W3 w' → w'.cell? ⟨w1.heap.size, 0, none⟩ = some (.int .u8 11) ∧ w'.cell? ⟨w1.heap.size, 1, none⟩ = some (.int .i64 0) ∧ w'.cell? ⟨w1.heap.size, 2, none⟩ = some (.string ⟨x2.toArray⟩) ∧ w'.cell? ⟨w1.heap.size, 3, none⟩ = some (.slice none 0 0) ∧ w'.cell? ⟨w1.heap.size, 4, none⟩ = some (.slice none 0 0) ∧ w'.cell? ⟨w1.heap.size, 5, none⟩ = some (.slice none 0 0) ∧ w'.cell? ⟨w1.heap.size, 6, none⟩ = some (.int .u8 3) ∧ w'.cell? ⟨w1.heap.size, 7, none⟩ = some (.slice la1 x1.length lc1) ∧ w'.cell? ⟨w1.heap.size, 8, none⟩ = some (.slice none 0 0) ∧ w'.cell? ⟨w1.heap.size, 9, none⟩ = some (.string ⟨#[]⟩)) := Lib.hid fun w' hw => (blk10 (gr_block hw (by omega) HE3.out)).1
  have hszw3 : w1.heap.size < W3.heap.size := tr_lt_of_block HE3.out
  have hz2n := hr3.2.1
  cases hp4 : withinP (ws.map nol) (pairP (ws.map nol) ex) t2 d2 with
  | bad t4 =>
    have hmf : ∀ (fn : Fn) (first cap : Array Value) (w : World), (Instr.makeFunc fn first cap).run Tryz.prog w = .ok (.func fn first cap) w := fun _ _ _ _ => rfl
    refine wp_region_held_drew (S := fun w' => w'.cell? ⟨w1.heap.size, 0, none⟩ = some (.int .u8 11) ∧ w'.cell? ⟨w1.heap.size, 1, none⟩ = some (.int .i64 0) ∧ w'.cell? ⟨w1.heap.size, 2, none⟩ = some (.string ⟨x2.toArray⟩) ∧ w'.cell? ⟨w1.heap.size, 3, none⟩ = some (.slice none 0 0) ∧ w'.cell? ⟨w1.heap.size, 4, none⟩ = some (.slice none 0 0) ∧ w'.cell? ⟨w1.heap.size, 5, none⟩ = some (.slice none 0 0) ∧ w'.cell? ⟨w1.heap.size, 6, none⟩ = some (.int .u8 3) ∧ w'.cell? ⟨w1.heap.size, 7, none⟩ = some (.slice la1 x1.length lc1) ∧ w'.cell? ⟨w1.heap.size, 8, none⟩ = some (.slice none 0 0) ∧ w'.cell? ⟨w1.heap.size, 9, none⟩ = some (.string ⟨#[]⟩)) (by kernel_rfl) (HS.out _ ((gr_refl W1 W3).drew)) (fun hH => ?_)
    refine wpAnyH_take (i := 0) (oi := { dst := some 18, op := Go.Op.load 42 (Go.Operand.tmp 5), type := 42, pos := "expr.go:81", after := #[], guard := none }) (v := ?_) rfl (by kernel_rfl) (by kernel_rfl) (by kernel_rfl) (fun _ _ _ h => h) (Or.inl ⟨by rfl, ?_⟩) hH ?_; rotate_left; (focus (intro wS hSw; (try dsimp only at hSw); go_simp; (try with_reducible rfl))); simp only [Act.put, List.setIfInBounds_toArray, List.set_cons_zero, List.set_cons_succ]
    refine wpAnyH_take (i := 1) (oi := { dst := some 19, op := Go.Op.move (Go.Operand.tmp 0), type := 60, pos := "expr.go:81", after := #[], guard := none }) (v := ?_) rfl (by kernel_rfl) (by kernel_rfl) (by kernel_rfl) (fun _ _ _ h => h) (Or.inl ⟨by rfl, ?_⟩) hH ?_; rotate_left; (focus (intro wS hSw; (try dsimp only at hSw); go_simp; (try with_reducible rfl))); simp only [Act.put, List.setIfInBounds_toArray, List.set_cons_zero, List.set_cons_succ]
    refine wpAnyH_take (i := 2) (oi := { dst := some 20, op := Go.Op.move (Go.Operand.tmp 0), type := 60, pos := "expr.go:81", after := #[], guard := none }) (v := ?_) rfl (by kernel_rfl) (by kernel_rfl) (by kernel_rfl) (fun _ _ _ h => h) (Or.inl ⟨by rfl, ?_⟩) hH ?_; rotate_left; (focus (intro wS hSw; (try dsimp only at hSw); go_simp; (try with_reducible rfl))); simp only [Act.put, List.setIfInBounds_toArray, List.set_cons_zero, List.set_cons_succ]
    refine wpAnyH_take (i := 3) (oi := { dst := some 21, op := Go.Op.makeFunc (Go.Fn.func 197) #[Go.Operand.tmp 20] #[], type := 232, pos := "expr.go:81", after := #[{ on := 2, ground := Go.Ground.data }], guard := none }) (v := ?_) rfl (by kernel_rfl) (by kernel_rfl) (by kernel_rfl) (fun _ _ _ h => h) (Or.inl ⟨by rfl, ?_⟩) hH ?_; rotate_left; (focus (intro wS hSw; (try dsimp only at hSw); go_simp; (try with_reducible rfl))); simp only [Act.put, List.setIfInBounds_toArray, List.set_cons_zero, List.set_cons_succ]
    refine wpAnyH_ready (rs := [4]) (by kernel_rfl) (by simp) ?_
    refine AllReadyH.cons (o := { dst := some 22, op := Go.Op.call { callee := Go.Callee.value (Go.Operand.func 225), args := #[Go.Operand.tmp 19, Go.Operand.tmp 21], argTypes := #[60, 232] }, type := 228, pos := "expr.go:81", after := #[{ on := 1, ground := Go.Ground.data }, { on := 3, ground := Go.Ground.data }], guard := none }) rfl (fun K hK => ?_) AllReadyH.nil
    go_simp
    go_at_call 225
    with_reducible refine (HWP.out _ _ _ (by omega) hr3.drew).mono ?_
    intro e4 w4 hq4
    obtain ⟨rfl, hb4, hk4⟩ := PostR.of_bad hq4 hp4
    exact ⟨rfl, HB.out _ _ (by rw [← HRS.out]; simp [elemP, hp1, hp2, hp4]) hb4 ((hg3.below (Below.refl _ _).drew).trans hk4)⟩
  | ok x4 t4 d4 =>
    obtain ⟨e0, e1, e2, e3, e4, e5, e6, e7, e8, e9⟩ := HS.out _ (gr_refl W1 W3)
    go_region_with (first
      | (go_at_call 225; (with_reducible refine (HWP.out _ _ _ (by omega) hr3.drew).mono ?_); intro e4 w4 hq4; obtain ⟨v4, rfl, ⟨la4, ln4, lc4, rfl, hf4, rfl, hle4⟩, hl4, hr4, hk4⟩ := PostR.of_ok hq4 hp4; obtain ⟨g0, g1, g2, g3, g4, g5, g6, g7, g8, g9⟩ := HS.out _ ((gr_refl W1 W3).drew.trans hk4))
      | (go_at_call 195; (with_reducible refine (HPD.out _ _ _ _ _ _ _ _ _ _ hf4 hk4.size hle4).mono ?_); rintro e5 w5 ⟨aN, nN, cN, aV, nV, cV, rfl, hrn, hrv, hb5⟩; have hk5 := Lib.hid (((gr_refl W1 W3).drew.trans hk4).below hb5); obtain ⟨⟨p0, p1, p2, p3, p4, p5, p6, p7, p8, p9⟩, ⟨q0, q1, q2, q3, q4, q5, q6, q7, q8, q9⟩⟩ := blk10 (gr_block hk5.out (by omega) HE3.out)))
    all_goals (
      have hsz4 := hk4.size
      have hBle : W3.heap.size ≤ (W3.drew).heap.size := Nat.le_refl _
      have hsz4' : W3.heap.size ≤ w4.heap.size := Nat.le_trans hBle hsz4
      have hsz5 := hb5.size
      obtain ⟨W5, hW5⟩ : ∃ W5, ((((((((((w5.setCell ⟨w1.heap.size, 0, none⟩ (.int .u8 11)).setCell ⟨w1.heap.size, 1, none⟩ (.int .i64 0)).setCell ⟨w1.heap.size, 2, none⟩ (.string ⟨x2.toArray⟩)).setCell ⟨w1.heap.size, 3, none⟩ (.slice none 0 0)).setCell ⟨w1.heap.size, 4, none⟩ (.slice aN nN cN)).setCell ⟨w1.heap.size, 5, none⟩ (.slice aV nV cV)).setCell ⟨w1.heap.size, 6, none⟩ (.int .u8 3)).setCell ⟨w1.heap.size, 7, none⟩ (.slice la1 x1.length lc1)).setCell ⟨w1.heap.size, 8, none⟩ (.slice none 0 0)).setCell ⟨w1.heap.size, 9, none⟩ (.string ⟨#[]⟩)) = W5 := ⟨_, rfl⟩
      have hput : Put w1.heap.size w5 W5 := by rw [← hW5]; exact ((((((((((Put.refl _ _).set _ _).set _ _).set _ _).set _ _).set _ _).set _ _).set _ _).set _ _).set _ _).set _ _
      have hzp : W5.heap.size = w5.heap.size := hput.size
      have HE5 : Hid (W5.heap[w1.heap.size]? = some (.cells #[.int .u8 11, .int .i64 0, .string ⟨x2.toArray⟩, .slice none 0 0, .slice aN nN cN, .slice aV nV cV, .int .u8 3, .slice la1 x1.length lc1, .slice none 0 0, .string ⟨#[]⟩] 42 (0, 0))) := Lib.hid (by rw [← hW5]; exact put10 (gr_block hk5.out (by omega) HE3.out) _ _ _ _ _ _ _ _ _ _)
      have hr5 : RD' W1 wv ws c t4 d4 W5 := hput.rd (hr4.keep hb5) hlt1
      have hg5 : Gr W1 W W5 := hput.gr (hg3.trans hk5.out) (by omega)
      have hk50 : Gr W1 W0 W5 := hput.gr (hk3.trans hk5.out) (by omega)
      have hk15 : Gr W1 w1 W5 := hput.gr (hk13.trans hk5.out) (Nat.le_refl _)
      have hrn5 : (ofRows 1 (x4.map (·.take 1))).Rep W5 (W3.heap.size ≤ ·) (.slice aN nN cN) := hrn.keep (Nat.le_of_eq hzp.symm) (fun b _ h => Nat.le_trans hBle h) (fun b h1 h2 => hput.block b (by have : W3.heap.size ≤ b := Nat.le_trans hBle h1; omega))
      have hrv5 : (ofRows 10 (x4.map (·.drop 1))).Rep W5 (W3.heap.size ≤ ·) (.slice aV nV cV) := hrv.keep (Nat.le_of_eq hzp.symm) (fun b _ h => Nat.le_trans hBle h) (fun b h1 h2 => hput.block b (by have : W3.heap.size ≤ b := Nat.le_trans hBle h1; omega))
      try rw [hW5]
      clear hW5
      clear e0 e1 e2 e3 e4 e5 e6 e7 e8 e9 g0 g1 g2 g3 g4 g5 g6 g7 g8 g9 p0 p1 p2 p3 p4 p5 p6 p7 p8 p9 q0 q1 q2 q3 q4 q5 q6 q7 q8 q9
      have hk5' := hk5
      clear hk5
      have hk5 := hk50
      have HKR : Hid (∀ w6 w7, Gr W1 W5 w6 → (∀ b, W0.heap.size ≤ b → b ≠ w1.heap.size → b < w6.heap.size → w7.heap[b]? = w6.heap[b]?) → w6.heap.size ≤ w7.heap.size → (ofRows 10 x1).Rep w7 (W.heap.size ≤ ·) (.slice la1 x1.length lc1)) := Lib.hid fun w6 w7 h6 h7 hs7 => rep_key hf1 hk15 h6 h7 hs7 hltW0 (by omega)
      have HNR : Hid (∀ w6 w7, Gr W1 W5 w6 → (∀ b, W0.heap.size ≤ b → b ≠ w1.heap.size → b < w6.heap.size → w7.heap[b]? = w6.heap[b]?) → w6.heap.size ≤ w7.heap.size → (ofRows 1 (x4.map (·.take 1))).Rep w7 (W.heap.size ≤ ·) (.slice aN nN cN)) := Lib.hid fun w6 w7 h6 h7 hs7 => rep_pairs hrn5 h6 h7 hs7 (by omega) (by omega) (by omega) (by omega)
      have HVR : Hid (∀ w6 w7, Gr W1 W5 w6 → (∀ b, W0.heap.size ≤ b → b ≠ w1.heap.size → b < w6.heap.size → w7.heap[b]? = w6.heap[b]?) → w6.heap.size ≤ w7.heap.size → (ofRows 10 (x4.map (·.drop 1))).Rep w7 (W.heap.size ≤ ·) (.slice aV nV cV)) := Lib.hid fun w6 w7 h6 h7 hs7 => rep_pairs hrv5 h6 h7 hs7 (by omega) (by omega) (by omega) (by omega)
      clear HKY HN HWP HPD
      obtain ⟨⟨e0, e1, e2, e3, e4, e5, e6, e7, e8, e9⟩, ⟨k0, k1, k2, k3, k4, k5, k6, k7, k8, k9⟩⟩ := blk10 HE5.out
      go_wp2_with (first
        | (go_at_call 162; (with_reducible refine (HLE.out _ _ _ (by omega) hr5).mono ?_); rintro e6 w6 (⟨t6, hp6, rfl, hb6, hk6⟩ | ⟨x6, t6, d6, v6, hp6, rfl, ⟨la6, ln6, lc6, rfl, hf6, rfl, hle6⟩, hl6, hr6, hk6⟩); all_goals (obtain ⟨⟨f0, f1, f2, f3, f4, f5, f6, f7, f8, f9⟩, ⟨g0, g1, g2, g3, g4, g5, g6, g7, g8, g9⟩⟩ := blk10 (gr_block hk6 (by omega) HE5.out)))
        | (refine wpList_load_row rfl 42 _ rfl w1.heap.size rfl 42 #[.int .u8 11, .int .i64 0, .string ⟨x2.toArray⟩, .slice la6 x6.length lc6, .slice aN nN cN, .slice aV nV cV, .int .u8 3, .slice la1 x1.length lc1, .slice none 0 0, .string ⟨#[]⟩] (0, 0) _ (set_row (gr_block hk6 (by omega) HE5.out) 3 _) Tryz.underlying42 rfl iszE ?_)
        | (refine wpList_store_row rfl 42 _ _ rfl W.heap.size _ rfl rfl 42 #[.int .u8 0, .int .i64 0, .string ⟨#[]⟩, .slice none 0 0, .slice none 0 0, .slice none 0 0, .int .u8 0, .slice none 0 0, .slice none 0 0, .string ⟨#[]⟩] ((Below.heap_setCell _ _ _ _ (by show W.heap.size ≠ w1.heap.size; omega)).trans (gr_block (hk5.trans hk6) hlt HK0.out)) iszE rfl (all_one (shE_one (by exact ⟨_, _, _, _, _, _, _, _, _, _, _, _, _, _, _, _, _, _, _, _, rfl⟩)).1) ?_))
      · exact ⟨rfl, HB.out _ _ (by rw [← HRS.out]; simp [elemP, hp1, hp2, hp4, hp6]) hb6 (hg5.trans hk6)⟩
      · have hsz6 := hk6.size
        refine bodyPost_ret (results_cell_row Tryz.results199 _ _ W.heap.size 42 _ (0, 0) _ rfl (setRow_heap _ _ _ _ _ _ ((Below.heap_setCell _ _ _ _ (by show W.heap.size ≠ w1.heap.size; omega)).trans (gr_block (hk5.trans hk6) hlt HK0.out))) Tryz.underlying42 rfl iszE) rfl ?_
        have hrow : ∀ w7, (∀ b, W0.heap.size ≤ b → b ≠ w1.heap.size → b < w6.heap.size → w7.heap[b]? = w6.heap[b]?) → w6.heap.size ≤ w7.heap.size → Row w7 (W.heap.size ≤ ·) (eCols 11 0 x2 x6 (x4.map (·.take 1)) (x4.map (·.drop 1)) 3 x1 [] []) [.int .u8 11, .int .i64 0, .string ⟨x2.toArray⟩, .slice la6 x6.length lc6, .slice aN nN cN, .slice aV nV cV, .int .u8 3, .slice la1 x1.length lc1, .slice none 0 0, .string ⟨#[]⟩] := fun w7 h7 hs7 =>
          row_one _ (row_one _ (row_one _ (row_rows (hf6.rep.keep hs7 (fun _ _ h => by omega) (fun b h1 h2 => h7 b (by omega) (by omega) h2)) (row_rows (HNR.out w6 w7 hk6 h7 hs7) (row_rows (HVR.out w6 w7 hk6 h7 hs7) (row_one _ (row_rows (HKR.out w6 w7 hk6 h7 hs7) (row_rows (rep_nil 12) (row_one _ .nil)))))))))
        refine HO.out (eCols 11 0 x2 x6 (x4.map (·.take 1)) (x4.map (·.drop 1)) 3 x1 [] []) t6 d6 _ _ (by rw [← HRS.out]; simp [elemP, hp1, hp2, hp4, hp6]) ⟨_, rfl, ⟨_, _, _, _, _, _, _, _, _, _, _, _, _, _, _, _, _, _, _, _, rfl⟩, hrow _ (fun b h1 h2 h3 => by rw [setRow_other _ _ _ _ (by omega), Below.heap_setCell _ _ _ _ (by show b ≠ w1.heap.size; exact h2)]) (by simp [World.setRow, World.setCell])⟩ (by omega) ((put_row _ _ _).rd (hr6.setN (by omega) 3 _) hlt) ((put_row _ _ _).gr ((hg5.trans hk6).setN (by omega) 3 _) (Nat.le_refl _))
    )
end Go.Proofs.YtedmmgfnplbkjaaGreatDoor
