/-
  Walks: all[..], a loop of things up to a parenthesis; within[..].
  Conditions: the reader lies as 'RD' says; its words are at most 65536.
-/
import Derived.Test.YtedmmgfnplbkjaaGreatDoorParN
import Derived.IntWalk
namespace Go.Proofs.YtedmmgfnplbkjaaGreatDoor
set_option linter.unusedVariables false
set_option linter.unusedSimpArgs false
open Go.RowKit G
def FSl (Sh : List Value → Prop) (ty : TypeId) (k B : Nat) (l : List (List T)) (v : Value) (W : World) : Prop := ∃ a n cap, v = .slice a n cap ∧ FRows Sh ty k B l (.slice a n cap) W ∧ n = l.length ∧ l.length ≤ 65537
theorem infE : (Tryz.prog.info? 42).map (fun i => (i.zero, i.size, i.bytes)) = some (some (.agg #[.int .u8 0, .int .i64 0, .string ⟨#[]⟩, .slice none 0 0, .slice none 0 0, .slice none 0 0, .int .u8 0, .slice none 0 0, .slice none 0 0, .string ⟨#[]⟩]), 10, 176) := by kernel_rfl
theorem infA : (Tryz.prog.info? 112).map (fun i => (i.zero, i.size, i.bytes)) = some (some (.agg #[.int .u8 0, .string ⟨#[]⟩, .int .u8 0, .int .i64 0, .string ⟨#[]⟩, .slice none 0 0, .slice none 0 0, .slice none 0 0, .int .u8 0, .slice none 0 0, .slice none 0 0, .string ⟨#[]⟩]), 12, 200) := by kernel_rfl
theorem infP : (Tryz.prog.info? 231).map (fun i => (i.zero, i.size, i.bytes)) = some (some (.agg #[.string ⟨#[]⟩, .int .u8 0, .int .i64 0, .string ⟨#[]⟩, .slice none 0 0, .slice none 0 0, .slice none 0 0, .int .u8 0, .slice none 0 0, .slice none 0 0, .string ⟨#[]⟩]), 11, 192) := by kernel_rfl
theorem infS : (Tryz.prog.info? 55).map (fun i => (i.zero, i.size, i.bytes)) = some (some (.agg #[.int .u8 0, .string ⟨#[]⟩, .string ⟨#[]⟩, .int .u8 0, .int .i64 0, .string ⟨#[]⟩, .slice none 0 0, .slice none 0 0, .slice none 0 0, .int .u8 0, .slice none 0 0, .slice none 0 0, .string ⟨#[]⟩, .slice none 0 0, .slice none 0 0, .slice none 0 0, .slice none 0 0]), 17, 312) := by kernel_rfl
theorem infC : (Tryz.prog.info? 46).map (fun i => (i.zero, i.size, i.bytes)) = some (some (.agg #[.string ⟨#[]⟩, .string ⟨#[]⟩, .slice none 0 0, .int .u8 0, .int .i64 0, .string ⟨#[]⟩, .slice none 0 0, .slice none 0 0, .slice none 0 0, .int .u8 0, .slice none 0 0, .slice none 0 0, .string ⟨#[]⟩]), 13, 232) := by kernel_rfl
set_option maxRecDepth 100000 in
set_option maxHeartbeats 4000000 in
theorem allE_any {W1 : World} {wv : Value} {ws : List LX.LW} {c : Str} {t d : Nat} {W : World} (h : RD' W1 wv ws c t d W) (hn : ws.length ≤ 65536) {one : Nat → Nat → Rs (List T)} (ho : ∀ t' d' W', t ≤ t' → RD' W1 wv ws c t' d' W' → Calls Tryz.prog 64 #[rp W1] W' (PostR W1 wv ws c (t' + 1) W' (FT ShE W'.heap.size) (one t' d'))) (m : Nat) (hm : ws.length < m + t) :
    Calls Tryz.prog 162 #[rp W1, .func (.func 64) #[rp W1] #[]] W (PostR W1 wv ws c (t + 1) W (FSl ShE 42 10 W.heap.size) (allP (ws.map nol) one m t d)) := by
  have hlt := h.1.lt
  have HI := Lib.hid (fun c t d W (h : RD' W1 wv ws c t d W) => is_any h hn)
  have HE := Lib.hid ho
  obtain ⟨rs, hrs⟩ : ∃ r, (allP (ws.map nol) one m t d) = r := ⟨_, rfl⟩
  rw [hrs]
  obtain ⟨post, hpost⟩ : ∃ p, PostR W1 wv ws c (t + 1) W (FSl ShE 42 10 W.heap.size) rs = p := ⟨_, rfl⟩
  have HB : Hid (∀ t' w', rs = .bad t' → (∃ d, RD W1 wv ws c t' d w') → Gr W1 W w' → post (.panicked [pz]) w') := fun t' w' h1 h2 h3 => by rw [← hpost]; exact .inl ⟨t', h1, rfl, h2, h3⟩
  have HO : Hid (∀ x t' d' v w', rs = .ok x t' d' → (FSl ShE 42 10 W.heap.size) x v w' → t + 1 ≤ t' → RD' W1 wv ws c t' d' w' → Gr W1 W w' → post (.returned v) w') := fun x t' d' v w' h1 h2 h3 h4 h5 => by rw [← hpost]; exact .inr ⟨x, t', d', v, h1, rfl, h2, h3, h4, h5⟩
  rw [hpost]
  have HRS := Lib.hid hrs
  clear hrs hpost
  have HR0 := Lib.hid h
  clear h ho
  go_enter Tryz.func162, Tryz.ntmps162
  go_wp2
  go_loopw [5] (fun u wr => ∃ (v : Value) (l : List (List T)) (t' d' m' : Nat), v = u ∧ FRows ShE 42 10 W.heap.size l v wr ∧ RD' W1 wv ws c t' d' wr ∧ Gr W1 W wr ∧ t ≤ t' ∧ l.length ≤ t' ∧ ws.length < m' + t' ∧ (allP (ws.map nol) one m' t' d').bind (fun l' t d => .ok (l ++ l') t d) = rs) (fun _ wr => ws.length + 1 - tk W1 wr)
  case atStart =>
    refine ⟨_, [], t, d, m, rfl, FRows.nil _ _ _ _ _, HR0.out, gr_refl _ _, Nat.le_refl _, Nat.zero_le _, hm, ?_⟩
    rw [← HRS.out]
    cases allP (ws.map nol) one m t d <;> rfl
  case round =>
    obtain ⟨v, l, t1, d1, m1, rfl, hf, hr, hg, ht1, hl1, hm1, hrs⟩ := hrel
    obtain ⟨al, cl, rfl, hcl, hcm⟩ := hf.shape
    have htn := hr.2.1
    obtain ⟨m2, rfl⟩ : ∃ m2, m1 = m2 + 1 := ⟨m1 - 1, by omega⟩
    have HRR := Lib.hid hrs
    have HF := Lib.hid hf
    have HTK := Lib.hid hr.1.tk
    have hWs := hg.size
    clear hrs hf
    go_wp2_with (go_at_call 165; (with_reducible refine (HI.out _ _ _ _ hr).mono ?_); rintro e w2 (⟨hs, rfl, hr2, hk2⟩ | ⟨hs, rfl, hr2, hk2⟩))
    · refine HO.out l (t1 + 1) d1 _ _ ?_ ⟨al, l.length, cl, rfl, HF.out.gr hk2 hlt, rfl, by omega⟩ (by omega) hr2 (hg.trans hk2)
      rw [← HRR.out]
      simp only [allP, hs, if_true, Rs.bind_ok, List.append_nil]
    · have HF2 := Lib.hid (HF.out.gr hk2 hlt)
      have hW2 := hk2.size
      go_wp2_with (first
        | (go_at_call 64; (with_reducible refine (HE.out _ _ _ ht1 hr2).mono ?_); rintro e w3 (⟨t3, hp, rfl, hb, hk3⟩ | ⟨x, t3, d3, v3, hp, rfl, ⟨vs3, rfl, ⟨ya0, ya1, ys2, yp3, yl3, yq3, yp4, yl4, yq4, yp5, yl5, yq5, ya6, yp7, yl7, yq7, yp8, yl8, yq8, ys9, rfl⟩, hrow⟩, hl3, hr3, hk3⟩))
        | (have hW3 := hk3.size; refine append_R Tryz.underlying37 infE rfl (by decide) (by decide) (HF2.out.gr hk3 hlt) (by omega) (by omega) (by rw [← hrow.length]; rfl) (hrow.keep (Nat.le_refl _) (fun b h1 h2 => ⟨by omega, fun e => by have := HF2.out.own e.symm; omega⟩) (fun _ _ _ => rfl)) ⟨_, _, _, _, _, _, _, _, _, _, _, _, _, _, _, _, _, _, _, _, rfl⟩ (shE_one ⟨_, _, _, _, _, _, _, _, _, _, _, _, _, _, _, _, _, _, _, _, rfl⟩).1 rfl _ _ rfl rfl rfl ?_; intro v4 w4 hf4 hg4 ho4))
      · refine ⟨rfl, HB.out t3 _ ?_ hb ((hg.trans hk2).trans hk3)⟩
        rw [← HRR.out]
        simp only [allP, hs, Bool.false_eq_true, if_false, hp, Rs.bind_bad]
      · have HF3 := Lib.hid (HF2.out.gr hk3 hlt)
        have hW3 := hk3.size
        go_roundw
        case rel =>
          refine ⟨_, l ++ [x], t3, d3, m2, rfl, hf4, hr3.row hg4 (fun g e => by have := HF3.out.own e; omega), ((hg.trans hk2).trans hk3).row hg4 (fun g e => (HF3.out.own e).1), by omega, by rw [List.length_append]; simp; omega, by omega, ?_⟩
          rw [← HRR.out]
          simp only [allP, hs, Bool.false_eq_true, if_false, hp, Rs.bind_ok]
          cases allP (ws.map nol) one m2 t3 d3 with
          | bad u => rfl
          | ok l2 u e => simp only [Rs.bind_ok]; rw [List.append_assoc]; rfl
        case measure =>
          have e4 := (hr3.row hg4 (fun g e => by have := HF3.out.own e; omega)).1.tk
          have e1 := HTK.out
          have := hr3.2.1
          omega
set_option maxRecDepth 100000 in
set_option maxHeartbeats 4000000 in
theorem allA_any {W1 : World} {wv : Value} {ws : List LX.LW} {c : Str} {t d : Nat} {W : World} (h : RD' W1 wv ws c t d W) (hn : ws.length ≤ 65536) {one : Nat → Nat → Rs (List T)} (ho : ∀ t' d' W', t ≤ t' → RD' W1 wv ws c t' d' W' → Calls Tryz.prog 112 #[rp W1] W' (PostR W1 wv ws c (t' + 1) W' (FT ShA W'.heap.size) (one t' d'))) (m : Nat) (hm : ws.length < m + t) :
    Calls Tryz.prog 163 #[rp W1, .func (.func 112) #[rp W1] #[]] W (PostR W1 wv ws c (t + 1) W (FSl ShA 112 12 W.heap.size) (allP (ws.map nol) one m t d)) := by
  have hlt := h.1.lt
  have HI := Lib.hid (fun c t d W (h : RD' W1 wv ws c t d W) => is_any h hn)
  have HE := Lib.hid ho
  obtain ⟨rs, hrs⟩ : ∃ r, (allP (ws.map nol) one m t d) = r := ⟨_, rfl⟩
  rw [hrs]
  obtain ⟨post, hpost⟩ : ∃ p, PostR W1 wv ws c (t + 1) W (FSl ShA 112 12 W.heap.size) rs = p := ⟨_, rfl⟩
  have HB : Hid (∀ t' w', rs = .bad t' → (∃ d, RD W1 wv ws c t' d w') → Gr W1 W w' → post (.panicked [pz]) w') := fun t' w' h1 h2 h3 => by rw [← hpost]; exact .inl ⟨t', h1, rfl, h2, h3⟩
  have HO : Hid (∀ x t' d' v w', rs = .ok x t' d' → (FSl ShA 112 12 W.heap.size) x v w' → t + 1 ≤ t' → RD' W1 wv ws c t' d' w' → Gr W1 W w' → post (.returned v) w') := fun x t' d' v w' h1 h2 h3 h4 h5 => by rw [← hpost]; exact .inr ⟨x, t', d', v, h1, rfl, h2, h3, h4, h5⟩
  rw [hpost]
  have HRS := Lib.hid hrs
  clear hrs hpost
  have HR0 := Lib.hid h
  clear h ho
  go_enter Tryz.func163, Tryz.ntmps163
  go_wp2
  go_loopw [5] (fun u wr => ∃ (v : Value) (l : List (List T)) (t' d' m' : Nat), v = u ∧ FRows ShA 112 12 W.heap.size l v wr ∧ RD' W1 wv ws c t' d' wr ∧ Gr W1 W wr ∧ t ≤ t' ∧ l.length ≤ t' ∧ ws.length < m' + t' ∧ (allP (ws.map nol) one m' t' d').bind (fun l' t d => .ok (l ++ l') t d) = rs) (fun _ wr => ws.length + 1 - tk W1 wr)
  case atStart =>
    refine ⟨_, [], t, d, m, rfl, FRows.nil _ _ _ _ _, HR0.out, gr_refl _ _, Nat.le_refl _, Nat.zero_le _, hm, ?_⟩
    rw [← HRS.out]
    cases allP (ws.map nol) one m t d <;> rfl
  case round =>
    obtain ⟨v, l, t1, d1, m1, rfl, hf, hr, hg, ht1, hl1, hm1, hrs⟩ := hrel
    obtain ⟨al, cl, rfl, hcl, hcm⟩ := hf.shape
    have htn := hr.2.1
    obtain ⟨m2, rfl⟩ : ∃ m2, m1 = m2 + 1 := ⟨m1 - 1, by omega⟩
    have HRR := Lib.hid hrs
    have HF := Lib.hid hf
    have HTK := Lib.hid hr.1.tk
    have hWs := hg.size
    clear hrs hf
    go_wp2_with (go_at_call 165; (with_reducible refine (HI.out _ _ _ _ hr).mono ?_); rintro e w2 (⟨hs, rfl, hr2, hk2⟩ | ⟨hs, rfl, hr2, hk2⟩))
    · refine HO.out l (t1 + 1) d1 _ _ ?_ ⟨al, l.length, cl, rfl, HF.out.gr hk2 hlt, rfl, by omega⟩ (by omega) hr2 (hg.trans hk2)
      rw [← HRR.out]
      simp only [allP, hs, if_true, Rs.bind_ok, List.append_nil]
    · have HF2 := Lib.hid (HF.out.gr hk2 hlt)
      have hW2 := hk2.size
      go_wp2_with (first
        | (go_at_call 112; (with_reducible refine (HE.out _ _ _ ht1 hr2).mono ?_); rintro e w3 (⟨t3, hp, rfl, hb, hk3⟩ | ⟨x, t3, d3, v3, hp, rfl, ⟨vs3, rfl, ⟨ya0, ys1, ya2, ya3, ys4, yp5, yl5, yq5, yp6, yl6, yq6, yp7, yl7, yq7, ya8, yp9, yl9, yq9, yp10, yl10, yq10, ys11, rfl⟩, hrow⟩, hl3, hr3, hk3⟩))
        | (have hW3 := hk3.size; refine append_R Tryz.underlying40 infA rfl (by decide) (by decide) (HF2.out.gr hk3 hlt) (by omega) (by omega) (by rw [← hrow.length]; rfl) (hrow.keep (Nat.le_refl _) (fun b h1 h2 => ⟨by omega, fun e => by have := HF2.out.own e.symm; omega⟩) (fun _ _ _ => rfl)) ⟨_, _, _, _, _, _, _, _, _, _, _, _, _, _, _, _, _, _, _, _, _, _, rfl⟩ (shA_one ⟨_, _, _, _, _, _, _, _, _, _, _, _, _, _, _, _, _, _, _, _, _, _, rfl⟩).1 rfl _ _ rfl rfl rfl ?_; intro v4 w4 hf4 hg4 ho4))
      · refine ⟨rfl, HB.out t3 _ ?_ hb ((hg.trans hk2).trans hk3)⟩
        rw [← HRR.out]
        simp only [allP, hs, Bool.false_eq_true, if_false, hp, Rs.bind_bad]
      · have HF3 := Lib.hid (HF2.out.gr hk3 hlt)
        have hW3 := hk3.size
        go_roundw
        case rel =>
          refine ⟨_, l ++ [x], t3, d3, m2, rfl, hf4, hr3.row hg4 (fun g e => by have := HF3.out.own e; omega), ((hg.trans hk2).trans hk3).row hg4 (fun g e => (HF3.out.own e).1), by omega, by rw [List.length_append]; simp; omega, by omega, ?_⟩
          rw [← HRR.out]
          simp only [allP, hs, Bool.false_eq_true, if_false, hp, Rs.bind_ok]
          cases allP (ws.map nol) one m2 t3 d3 with
          | bad u => rfl
          | ok l2 u e => simp only [Rs.bind_ok]; rw [List.append_assoc]; rfl
        case measure =>
          have e4 := (hr3.row hg4 (fun g e => by have := HF3.out.own e; omega)).1.tk
          have e1 := HTK.out
          have := hr3.2.1
          omega
set_option maxRecDepth 100000 in
set_option maxHeartbeats 4000000 in
theorem allP_any {W1 : World} {wv : Value} {ws : List LX.LW} {c : Str} {t d : Nat} {W : World} (h : RD' W1 wv ws c t d W) (hn : ws.length ≤ 65536) {one : Nat → Nat → Rs (List T)} (ho : ∀ t' d' W', t ≤ t' → RD' W1 wv ws c t' d' W' → Calls Tryz.prog 197 #[rp W1] W' (PostR W1 wv ws c (t' + 1) W' (FT ShP W'.heap.size) (one t' d'))) (m : Nat) (hm : ws.length < m + t) :
    Calls Tryz.prog 196 #[rp W1, .func (.func 197) #[rp W1] #[]] W (PostR W1 wv ws c (t + 1) W (FSl ShP 231 11 W.heap.size) (allP (ws.map nol) one m t d)) := by
  have hlt := h.1.lt
  have HI := Lib.hid (fun c t d W (h : RD' W1 wv ws c t d W) => is_any h hn)
  have HE := Lib.hid ho
  obtain ⟨rs, hrs⟩ : ∃ r, (allP (ws.map nol) one m t d) = r := ⟨_, rfl⟩
  rw [hrs]
  obtain ⟨post, hpost⟩ : ∃ p, PostR W1 wv ws c (t + 1) W (FSl ShP 231 11 W.heap.size) rs = p := ⟨_, rfl⟩
  have HB : Hid (∀ t' w', rs = .bad t' → (∃ d, RD W1 wv ws c t' d w') → Gr W1 W w' → post (.panicked [pz]) w') := fun t' w' h1 h2 h3 => by rw [← hpost]; exact .inl ⟨t', h1, rfl, h2, h3⟩
  have HO : Hid (∀ x t' d' v w', rs = .ok x t' d' → (FSl ShP 231 11 W.heap.size) x v w' → t + 1 ≤ t' → RD' W1 wv ws c t' d' w' → Gr W1 W w' → post (.returned v) w') := fun x t' d' v w' h1 h2 h3 h4 h5 => by rw [← hpost]; exact .inr ⟨x, t', d', v, h1, rfl, h2, h3, h4, h5⟩
  rw [hpost]
  have HRS := Lib.hid hrs
  clear hrs hpost
  have HR0 := Lib.hid h
  clear h ho
  go_enter Tryz.func196, Tryz.ntmps196
  go_wp2
  go_loopw [5] (fun u wr => ∃ (v : Value) (l : List (List T)) (t' d' m' : Nat), v = u ∧ FRows ShP 231 11 W.heap.size l v wr ∧ RD' W1 wv ws c t' d' wr ∧ Gr W1 W wr ∧ t ≤ t' ∧ l.length ≤ t' ∧ ws.length < m' + t' ∧ (allP (ws.map nol) one m' t' d').bind (fun l' t d => .ok (l ++ l') t d) = rs) (fun _ wr => ws.length + 1 - tk W1 wr)
  case atStart =>
    refine ⟨_, [], t, d, m, rfl, FRows.nil _ _ _ _ _, HR0.out, gr_refl _ _, Nat.le_refl _, Nat.zero_le _, hm, ?_⟩
    rw [← HRS.out]
    cases allP (ws.map nol) one m t d <;> rfl
  case round =>
    obtain ⟨v, l, t1, d1, m1, rfl, hf, hr, hg, ht1, hl1, hm1, hrs⟩ := hrel
    obtain ⟨al, cl, rfl, hcl, hcm⟩ := hf.shape
    have htn := hr.2.1
    obtain ⟨m2, rfl⟩ : ∃ m2, m1 = m2 + 1 := ⟨m1 - 1, by omega⟩
    have HRR := Lib.hid hrs
    have HF := Lib.hid hf
    have HTK := Lib.hid hr.1.tk
    have hWs := hg.size
    clear hrs hf
    go_wp2_with (go_at_call 165; (with_reducible refine (HI.out _ _ _ _ hr).mono ?_); rintro e w2 (⟨hs, rfl, hr2, hk2⟩ | ⟨hs, rfl, hr2, hk2⟩))
    · refine HO.out l (t1 + 1) d1 _ _ ?_ ⟨al, l.length, cl, rfl, HF.out.gr hk2 hlt, rfl, by omega⟩ (by omega) hr2 (hg.trans hk2)
      rw [← HRR.out]
      simp only [allP, hs, if_true, Rs.bind_ok, List.append_nil]
    · have HF2 := Lib.hid (HF.out.gr hk2 hlt)
      have hW2 := hk2.size
      go_wp2_with (first
        | (go_at_call 197; (with_reducible refine (HE.out _ _ _ ht1 hr2).mono ?_); rintro e w3 (⟨t3, hp, rfl, hb, hk3⟩ | ⟨x, t3, d3, v3, hp, rfl, ⟨vs3, rfl, ⟨ys0, ya1, ya2, ys3, yp4, yl4, yq4, yp5, yl5, yq5, yp6, yl6, yq6, ya7, yp8, yl8, yq8, yp9, yl9, yq9, ys10, rfl⟩, hrow⟩, hl3, hr3, hk3⟩))
        | (have hW3 := hk3.size; refine append_R Tryz.underlying228 infP rfl (by decide) (by decide) (HF2.out.gr hk3 hlt) (by omega) (by omega) (by rw [← hrow.length]; rfl) (hrow.keep (Nat.le_refl _) (fun b h1 h2 => ⟨by omega, fun e => by have := HF2.out.own e.symm; omega⟩) (fun _ _ _ => rfl)) ⟨_, _, _, _, _, _, _, _, _, _, _, _, _, _, _, _, _, _, _, _, _, rfl⟩ (shP_one ⟨_, _, _, _, _, _, _, _, _, _, _, _, _, _, _, _, _, _, _, _, _, rfl⟩).1 rfl _ _ rfl rfl rfl ?_; intro v4 w4 hf4 hg4 ho4))
      · refine ⟨rfl, HB.out t3 _ ?_ hb ((hg.trans hk2).trans hk3)⟩
        rw [← HRR.out]
        simp only [allP, hs, Bool.false_eq_true, if_false, hp, Rs.bind_bad]
      · have HF3 := Lib.hid (HF2.out.gr hk3 hlt)
        have hW3 := hk3.size
        go_roundw
        case rel =>
          refine ⟨_, l ++ [x], t3, d3, m2, rfl, hf4, hr3.row hg4 (fun g e => by have := HF3.out.own e; omega), ((hg.trans hk2).trans hk3).row hg4 (fun g e => (HF3.out.own e).1), by omega, by rw [List.length_append]; simp; omega, by omega, ?_⟩
          rw [← HRR.out]
          simp only [allP, hs, Bool.false_eq_true, if_false, hp, Rs.bind_ok]
          cases allP (ws.map nol) one m2 t3 d3 with
          | bad u => rfl
          | ok l2 u e => simp only [Rs.bind_ok]; rw [List.append_assoc]; rfl
        case measure =>
          have e4 := (hr3.row hg4 (fun g e => by have := HF3.out.own e; omega)).1.tk
          have e1 := HTK.out
          have := hr3.2.1
          omega
set_option maxRecDepth 100000 in
set_option maxHeartbeats 4000000 in
theorem allS_any {W1 : World} {wv : Value} {ws : List LX.LW} {c : Str} {t d : Nat} {W : World} (h : RD' W1 wv ws c t d W) (hn : ws.length ≤ 65536) {one : Nat → Nat → Rs (List T)} (ho : ∀ t' d' W', t ≤ t' → RD' W1 wv ws c t' d' W' → Calls Tryz.prog 114 #[rp W1] W' (PostR W1 wv ws c (t' + 1) W' (FT ShS W'.heap.size) (one t' d'))) (m : Nat) (hm : ws.length < m + t) :
    Calls Tryz.prog 113 #[rp W1, .func (.func 114) #[rp W1] #[]] W (PostR W1 wv ws c (t + 1) W (FSl ShS 55 17 W.heap.size) (allP (ws.map nol) one m t d)) := by
  have hlt := h.1.lt
  have HI := Lib.hid (fun c t d W (h : RD' W1 wv ws c t d W) => is_any h hn)
  have HE := Lib.hid ho
  obtain ⟨rs, hrs⟩ : ∃ r, (allP (ws.map nol) one m t d) = r := ⟨_, rfl⟩
  rw [hrs]
  obtain ⟨post, hpost⟩ : ∃ p, PostR W1 wv ws c (t + 1) W (FSl ShS 55 17 W.heap.size) rs = p := ⟨_, rfl⟩
  have HB : Hid (∀ t' w', rs = .bad t' → (∃ d, RD W1 wv ws c t' d w') → Gr W1 W w' → post (.panicked [pz]) w') := fun t' w' h1 h2 h3 => by rw [← hpost]; exact .inl ⟨t', h1, rfl, h2, h3⟩
  have HO : Hid (∀ x t' d' v w', rs = .ok x t' d' → (FSl ShS 55 17 W.heap.size) x v w' → t + 1 ≤ t' → RD' W1 wv ws c t' d' w' → Gr W1 W w' → post (.returned v) w') := fun x t' d' v w' h1 h2 h3 h4 h5 => by rw [← hpost]; exact .inr ⟨x, t', d', v, h1, rfl, h2, h3, h4, h5⟩
  rw [hpost]
  have HRS := Lib.hid hrs
  clear hrs hpost
  have HR0 := Lib.hid h
  clear h ho
  go_enter Tryz.func113, Tryz.ntmps113
  go_wp2
  go_loopw [5] (fun u wr => ∃ (v : Value) (l : List (List T)) (t' d' m' : Nat), v = u ∧ FRows ShS 55 17 W.heap.size l v wr ∧ RD' W1 wv ws c t' d' wr ∧ Gr W1 W wr ∧ t ≤ t' ∧ l.length ≤ t' ∧ ws.length < m' + t' ∧ (allP (ws.map nol) one m' t' d').bind (fun l' t d => .ok (l ++ l') t d) = rs) (fun _ wr => ws.length + 1 - tk W1 wr)
  case atStart =>
    refine ⟨_, [], t, d, m, rfl, FRows.nil _ _ _ _ _, HR0.out, gr_refl _ _, Nat.le_refl _, Nat.zero_le _, hm, ?_⟩
    rw [← HRS.out]
    cases allP (ws.map nol) one m t d <;> rfl
  case round =>
    obtain ⟨v, l, t1, d1, m1, rfl, hf, hr, hg, ht1, hl1, hm1, hrs⟩ := hrel
    obtain ⟨al, cl, rfl, hcl, hcm⟩ := hf.shape
    have htn := hr.2.1
    obtain ⟨m2, rfl⟩ : ∃ m2, m1 = m2 + 1 := ⟨m1 - 1, by omega⟩
    have HRR := Lib.hid hrs
    have HF := Lib.hid hf
    have HTK := Lib.hid hr.1.tk
    have hWs := hg.size
    clear hrs hf
    go_wp2_with (go_at_call 165; (with_reducible refine (HI.out _ _ _ _ hr).mono ?_); rintro e w2 (⟨hs, rfl, hr2, hk2⟩ | ⟨hs, rfl, hr2, hk2⟩))
    · refine HO.out l (t1 + 1) d1 _ _ ?_ ⟨al, l.length, cl, rfl, HF.out.gr hk2 hlt, rfl, by omega⟩ (by omega) hr2 (hg.trans hk2)
      rw [← HRR.out]
      simp only [allP, hs, if_true, Rs.bind_ok, List.append_nil]
    · have HF2 := Lib.hid (HF.out.gr hk2 hlt)
      have hW2 := hk2.size
      go_wp2_with (first
        | (go_at_call 114; (with_reducible refine (HE.out _ _ _ ht1 hr2).mono ?_); rintro e w3 (⟨t3, hp, rfl, hb, hk3⟩ | ⟨x, t3, d3, v3, hp, rfl, ⟨vs3, rfl, ⟨ya0, ys1, ys2, ya3, ya4, ys5, yp6, yl6, yq6, yp7, yl7, yq7, yp8, yl8, yq8, ya9, yp10, yl10, yq10, yp11, yl11, yq11, ys12, yp13, yl13, yq13, yp14, yl14, yq14, yp15, yl15, yq15, yp16, yl16, yq16, rfl⟩, hrow⟩, hl3, hr3, hk3⟩))
        | (have hW3 := hk3.size; refine append_R Tryz.underlying44 infS rfl (by decide) (by decide) (HF2.out.gr hk3 hlt) (by omega) (by omega) (by rw [← hrow.length]; rfl) (hrow.keep (Nat.le_refl _) (fun b h1 h2 => ⟨by omega, fun e => by have := HF2.out.own e.symm; omega⟩) (fun _ _ _ => rfl)) ⟨_, _, _, _, _, _, _, _, _, _, _, _, _, _, _, _, _, _, _, _, _, _, _, _, _, _, _, _, _, _, _, _, _, _, _, rfl⟩ (shS_one ⟨_, _, _, _, _, _, _, _, _, _, _, _, _, _, _, _, _, _, _, _, _, _, _, _, _, _, _, _, _, _, _, _, _, _, _, rfl⟩).1 rfl _ _ rfl rfl rfl ?_; intro v4 w4 hf4 hg4 ho4))
      · refine ⟨rfl, HB.out t3 _ ?_ hb ((hg.trans hk2).trans hk3)⟩
        rw [← HRR.out]
        simp only [allP, hs, Bool.false_eq_true, if_false, hp, Rs.bind_bad]
      · have HF3 := Lib.hid (HF2.out.gr hk3 hlt)
        have hW3 := hk3.size
        go_roundw
        case rel =>
          refine ⟨_, l ++ [x], t3, d3, m2, rfl, hf4, hr3.row hg4 (fun g e => by have := HF3.out.own e; omega), ((hg.trans hk2).trans hk3).row hg4 (fun g e => (HF3.out.own e).1), by omega, by rw [List.length_append]; simp; omega, by omega, ?_⟩
          rw [← HRR.out]
          simp only [allP, hs, Bool.false_eq_true, if_false, hp, Rs.bind_ok]
          cases allP (ws.map nol) one m2 t3 d3 with
          | bad u => rfl
          | ok l2 u e => simp only [Rs.bind_ok]; rw [List.append_assoc]; rfl
        case measure =>
          have e4 := (hr3.row hg4 (fun g e => by have := HF3.out.own e; omega)).1.tk
          have e1 := HTK.out
          have := hr3.2.1
          omega
set_option maxRecDepth 100000 in
set_option maxHeartbeats 4000000 in
theorem withinE_any {W1 : World} {wv : Value} {ws : List LX.LW} {c : Str} {t d : Nat} {W : World} (h : RD' W1 wv ws c t d W) (hn : ws.length ≤ 65536) {one : Nat → Nat → Rs (List T)} (ho : ∀ t' d' W', t ≤ t' → RD' W1 wv ws c t' d' W' → Calls Tryz.prog 64 #[rp W1] W' (PostR W1 wv ws c (t' + 1) W' (FT ShE W'.heap.size) (one t' d'))) :
    Calls Tryz.prog 110 #[rp W1, .func (.func 64) #[rp W1] #[]] W (PostR W1 wv ws c (t + 1) W (FSl ShE 42 10 W.heap.size) (withinP (ws.map nol) one t d)) := by
  have HOP := Lib.hid (open_any h hn)
  have HA : Hid (∀ t' d' W', t ≤ t' → RD' W1 wv ws c t' d' W' → Calls Tryz.prog 162 #[rp W1, .func (.func 64) #[rp W1] #[]] W' (PostR W1 wv ws c (t' + 1) W' (FSl ShE 42 10 W'.heap.size) (allP (ws.map nol) one FU t' d'))) := fun t' d' W' h1 h2 => allE_any h2 hn (fun t2 d2 W2 h3 h4 => ho t2 d2 W2 (Nat.le_trans h1 h3) h4) FU (by unfold FU; omega)
  obtain ⟨rs, hrs⟩ : ∃ r, (withinP (ws.map nol) one t d) = r := ⟨_, rfl⟩
  rw [hrs]
  obtain ⟨post, hpost⟩ : ∃ p, PostR W1 wv ws c (t + 1) W (FSl ShE 42 10 W.heap.size) rs = p := ⟨_, rfl⟩
  have HB : Hid (∀ t' w', rs = .bad t' → (∃ d, RD W1 wv ws c t' d w') → Gr W1 W w' → post (.panicked [pz]) w') := fun t' w' h1 h2 h3 => by rw [← hpost]; exact .inl ⟨t', h1, rfl, h2, h3⟩
  have HO : Hid (∀ x t' d' v w', rs = .ok x t' d' → (FSl ShE 42 10 W.heap.size) x v w' → t + 1 ≤ t' → RD' W1 wv ws c t' d' w' → Gr W1 W w' → post (.returned v) w') := fun x t' d' v w' h1 h2 h3 h4 h5 => by rw [← hpost]; exact .inr ⟨x, t', d', v, h1, rfl, h2, h3, h4, h5⟩
  rw [hpost]
  rw [show withinP (ws.map nol) one t d = (openP (ws.map nol) t d).bind fun _ t d => allP (ws.map nol) one FU t d from rfl] at hrs
  have HRS := Lib.hid hrs
  clear hrs hpost
  clear h ho
  go_enter Tryz.func110, Tryz.ntmps110
  go_wp2_with (first
    | (go_at_call 61; (with_reducible refine HOP.out.mono ?_); rintro e w1 (⟨t1, hp1, rfl, hb1, hk1⟩ | ⟨x1, t1, d1, v1, hp1, rfl, rfl, hl1, hr1, hk1⟩))
    | (go_at_call 162; (with_reducible refine (HA.out _ _ _ (by omega) hr1).mono ?_); rintro e w2 (⟨t2, hp2, rfl, hb2, hk2⟩ | ⟨x2, t2, d2, v2, hp2, rfl, ⟨a2, n2, c2, rfl, hf2, rfl, hle2⟩, hl2, hr2, hk2⟩)))
  · exact ⟨rfl, HB.out _ _ (by rw [← HRS.out, hp1, Rs.bind_bad]) hb1 hk1⟩
  · exact ⟨rfl, HB.out _ _ (by rw [← HRS.out, hp1, Rs.bind_ok, hp2]) hb2 (hk1.trans hk2)⟩
  · exact HO.out x2 t2 d2 _ _ (by rw [← HRS.out, hp1, Rs.bind_ok, hp2]) ⟨a2, x2.length, c2, rfl, hf2.low hk1.size, rfl, hle2⟩ (by omega) hr2 (hk1.trans hk2)
set_option maxRecDepth 100000 in
set_option maxHeartbeats 4000000 in
theorem withinA_any {W1 : World} {wv : Value} {ws : List LX.LW} {c : Str} {t d : Nat} {W : World} (h : RD' W1 wv ws c t d W) (hn : ws.length ≤ 65536) {one : Nat → Nat → Rs (List T)} (ho : ∀ t' d' W', t ≤ t' → RD' W1 wv ws c t' d' W' → Calls Tryz.prog 112 #[rp W1] W' (PostR W1 wv ws c (t' + 1) W' (FT ShA W'.heap.size) (one t' d'))) :
    Calls Tryz.prog 111 #[rp W1, .func (.func 112) #[rp W1] #[]] W (PostR W1 wv ws c (t + 1) W (FSl ShA 112 12 W.heap.size) (withinP (ws.map nol) one t d)) := by
  have HOP := Lib.hid (open_any h hn)
  have HA : Hid (∀ t' d' W', t ≤ t' → RD' W1 wv ws c t' d' W' → Calls Tryz.prog 163 #[rp W1, .func (.func 112) #[rp W1] #[]] W' (PostR W1 wv ws c (t' + 1) W' (FSl ShA 112 12 W'.heap.size) (allP (ws.map nol) one FU t' d'))) := fun t' d' W' h1 h2 => allA_any h2 hn (fun t2 d2 W2 h3 h4 => ho t2 d2 W2 (Nat.le_trans h1 h3) h4) FU (by unfold FU; omega)
  obtain ⟨rs, hrs⟩ : ∃ r, (withinP (ws.map nol) one t d) = r := ⟨_, rfl⟩
  rw [hrs]
  obtain ⟨post, hpost⟩ : ∃ p, PostR W1 wv ws c (t + 1) W (FSl ShA 112 12 W.heap.size) rs = p := ⟨_, rfl⟩
  have HB : Hid (∀ t' w', rs = .bad t' → (∃ d, RD W1 wv ws c t' d w') → Gr W1 W w' → post (.panicked [pz]) w') := fun t' w' h1 h2 h3 => by rw [← hpost]; exact .inl ⟨t', h1, rfl, h2, h3⟩
  have HO : Hid (∀ x t' d' v w', rs = .ok x t' d' → (FSl ShA 112 12 W.heap.size) x v w' → t + 1 ≤ t' → RD' W1 wv ws c t' d' w' → Gr W1 W w' → post (.returned v) w') := fun x t' d' v w' h1 h2 h3 h4 h5 => by rw [← hpost]; exact .inr ⟨x, t', d', v, h1, rfl, h2, h3, h4, h5⟩
  rw [hpost]
  rw [show withinP (ws.map nol) one t d = (openP (ws.map nol) t d).bind fun _ t d => allP (ws.map nol) one FU t d from rfl] at hrs
  have HRS := Lib.hid hrs
  clear hrs hpost
  clear h ho
  go_enter Tryz.func111, Tryz.ntmps111
  go_wp2_with (first
    | (go_at_call 61; (with_reducible refine HOP.out.mono ?_); rintro e w1 (⟨t1, hp1, rfl, hb1, hk1⟩ | ⟨x1, t1, d1, v1, hp1, rfl, rfl, hl1, hr1, hk1⟩))
    | (go_at_call 163; (with_reducible refine (HA.out _ _ _ (by omega) hr1).mono ?_); rintro e w2 (⟨t2, hp2, rfl, hb2, hk2⟩ | ⟨x2, t2, d2, v2, hp2, rfl, ⟨a2, n2, c2, rfl, hf2, rfl, hle2⟩, hl2, hr2, hk2⟩)))
  · exact ⟨rfl, HB.out _ _ (by rw [← HRS.out, hp1, Rs.bind_bad]) hb1 hk1⟩
  · exact ⟨rfl, HB.out _ _ (by rw [← HRS.out, hp1, Rs.bind_ok, hp2]) hb2 (hk1.trans hk2)⟩
  · exact HO.out x2 t2 d2 _ _ (by rw [← HRS.out, hp1, Rs.bind_ok, hp2]) ⟨a2, x2.length, c2, rfl, hf2.low hk1.size, rfl, hle2⟩ (by omega) hr2 (hk1.trans hk2)
set_option maxRecDepth 100000 in
set_option maxHeartbeats 4000000 in
theorem withinP_any {W1 : World} {wv : Value} {ws : List LX.LW} {c : Str} {t d : Nat} {W : World} (h : RD' W1 wv ws c t d W) (hn : ws.length ≤ 65536) {one : Nat → Nat → Rs (List T)} (ho : ∀ t' d' W', t ≤ t' → RD' W1 wv ws c t' d' W' → Calls Tryz.prog 197 #[rp W1] W' (PostR W1 wv ws c (t' + 1) W' (FT ShP W'.heap.size) (one t' d'))) :
    Calls Tryz.prog 225 #[rp W1, .func (.func 197) #[rp W1] #[]] W (PostR W1 wv ws c (t + 1) W (FSl ShP 231 11 W.heap.size) (withinP (ws.map nol) one t d)) := by
  have HOP := Lib.hid (open_any h hn)
  have HA : Hid (∀ t' d' W', t ≤ t' → RD' W1 wv ws c t' d' W' → Calls Tryz.prog 196 #[rp W1, .func (.func 197) #[rp W1] #[]] W' (PostR W1 wv ws c (t' + 1) W' (FSl ShP 231 11 W'.heap.size) (allP (ws.map nol) one FU t' d'))) := fun t' d' W' h1 h2 => allP_any h2 hn (fun t2 d2 W2 h3 h4 => ho t2 d2 W2 (Nat.le_trans h1 h3) h4) FU (by unfold FU; omega)
  obtain ⟨rs, hrs⟩ : ∃ r, (withinP (ws.map nol) one t d) = r := ⟨_, rfl⟩
  rw [hrs]
  obtain ⟨post, hpost⟩ : ∃ p, PostR W1 wv ws c (t + 1) W (FSl ShP 231 11 W.heap.size) rs = p := ⟨_, rfl⟩
  have HB : Hid (∀ t' w', rs = .bad t' → (∃ d, RD W1 wv ws c t' d w') → Gr W1 W w' → post (.panicked [pz]) w') := fun t' w' h1 h2 h3 => by rw [← hpost]; exact .inl ⟨t', h1, rfl, h2, h3⟩
  have HO : Hid (∀ x t' d' v w', rs = .ok x t' d' → (FSl ShP 231 11 W.heap.size) x v w' → t + 1 ≤ t' → RD' W1 wv ws c t' d' w' → Gr W1 W w' → post (.returned v) w') := fun x t' d' v w' h1 h2 h3 h4 h5 => by rw [← hpost]; exact .inr ⟨x, t', d', v, h1, rfl, h2, h3, h4, h5⟩
  rw [hpost]
  rw [show withinP (ws.map nol) one t d = (openP (ws.map nol) t d).bind fun _ t d => allP (ws.map nol) one FU t d from rfl] at hrs
  have HRS := Lib.hid hrs
  clear hrs hpost
  clear h ho
  go_enter Tryz.func225, Tryz.ntmps225
  go_wp2_with (first
    | (go_at_call 61; (with_reducible refine HOP.out.mono ?_); rintro e w1 (⟨t1, hp1, rfl, hb1, hk1⟩ | ⟨x1, t1, d1, v1, hp1, rfl, rfl, hl1, hr1, hk1⟩))
    | (go_at_call 196; (with_reducible refine (HA.out _ _ _ (by omega) hr1).mono ?_); rintro e w2 (⟨t2, hp2, rfl, hb2, hk2⟩ | ⟨x2, t2, d2, v2, hp2, rfl, ⟨a2, n2, c2, rfl, hf2, rfl, hle2⟩, hl2, hr2, hk2⟩)))
  · exact ⟨rfl, HB.out _ _ (by rw [← HRS.out, hp1, Rs.bind_bad]) hb1 hk1⟩
  · exact ⟨rfl, HB.out _ _ (by rw [← HRS.out, hp1, Rs.bind_ok, hp2]) hb2 (hk1.trans hk2)⟩
  · exact HO.out x2 t2 d2 _ _ (by rw [← HRS.out, hp1, Rs.bind_ok, hp2]) ⟨a2, x2.length, c2, rfl, hf2.low hk1.size, rfl, hle2⟩ (by omega) hr2 (hk1.trans hk2)
set_option maxRecDepth 100000 in
set_option maxHeartbeats 4000000 in
theorem exprs_any {W1 : World} {wv : Value} {ws : List LX.LW} {c : Str} {t d : Nat} {W : World} (h : RD' W1 wv ws c t d W) (hn : ws.length ≤ 65536) {one : Nat → Nat → Rs (List T)} (ho : ∀ t' d' W', t ≤ t' → RD' W1 wv ws c t' d' W' → Calls Tryz.prog 64 #[rp W1] W' (PostR W1 wv ws c (t' + 1) W' (FT ShE W'.heap.size) (one t' d'))) (N : Nat) (hN : N ≤ 3) :
    Calls Tryz.prog 194 #[rp W1, .int .i64 N] W (PostR W1 wv ws c t W (FSl ShE 42 10 W.heap.size) (timesP one N t d)) := by
  have hlt := h.1.lt
  have HE := Lib.hid ho
  obtain ⟨rs, hrs⟩ : ∃ r, (timesP one N t d) = r := ⟨_, rfl⟩
  rw [hrs]
  obtain ⟨post, hpost⟩ : ∃ p, PostR W1 wv ws c (t) W (FSl ShE 42 10 W.heap.size) rs = p := ⟨_, rfl⟩
  have HB : Hid (∀ t' w', rs = .bad t' → (∃ d, RD W1 wv ws c t' d w') → Gr W1 W w' → post (.panicked [pz]) w') := fun t' w' h1 h2 h3 => by rw [← hpost]; exact .inl ⟨t', h1, rfl, h2, h3⟩
  have HO : Hid (∀ x t' d' v w', rs = .ok x t' d' → (FSl ShE 42 10 W.heap.size) x v w' → t ≤ t' → RD' W1 wv ws c t' d' w' → Gr W1 W w' → post (.returned v) w') := fun x t' d' v w' h1 h2 h3 h4 h5 => by rw [← hpost]; exact .inr ⟨x, t', d', v, h1, rfl, h2, h3, h4, h5⟩
  rw [hpost]
  have HRS := Lib.hid hrs
  clear hrs hpost
  have HR0 := Lib.hid h
  clear h ho
  go_enter Tryz.func194, Tryz.ntmps194
  go_wp2
  go_loopw [5, 7] (fun u i wr => ∃ (v : Value) (l : List (List T)) (t' d' j : Nat), v = u ∧ i = .int .i64 j ∧ j ≤ N ∧ FRows ShE 42 10 W.heap.size l v wr ∧ RD' W1 wv ws c t' d' wr ∧ Gr W1 W wr ∧ t ≤ t' ∧ l.length ≤ 3 + j ∧ (timesP one (N - j) t' d').bind (fun l' t d => .ok (l ++ l') t d) = rs) (fun _ i _ => N - (intOf i).toNat)
  case atStart =>
    refine ⟨_, [], t, d, 0, rfl, rfl, Nat.zero_le _, FRows.nil _ _ _ _ _, HR0.out, gr_refl _ _, Nat.le_refl _, Nat.zero_le _, ?_⟩
    rw [← HRS.out, Nat.sub_zero]
    cases timesP one N t d <;> rfl
  case round =>
    obtain ⟨v, l, t1, d1, j, rfl, rfl, hj, hf, hr, hg, ht1, hl1, hrs⟩ := hrel
    obtain ⟨al, cl, rfl, hcl, hcm⟩ := hf.shape
    have htn := hr.2.1
    have HRR := Lib.hid hrs
    have HF := Lib.hid hf
    have hWs := hg.size
    clear hrs hf
    by_cases hjn : j < N
    · have g1 : (j : Int) < (N : Int) := by omega
      obtain ⟨m2, hm2⟩ : ∃ m2, N - j = m2 + 1 := ⟨N - j - 1, by omega⟩
      have hm3 : N - (j + 1) = m2 := by omega
      go_wp2_with (first
        | (go_at_call 64; (with_reducible refine (HE.out _ _ _ ht1 hr).mono ?_); rintro e w3 (⟨t3, hp, rfl, hb, hk3⟩ | ⟨x, t3, d3, v3, hp, rfl, ⟨vs3, rfl, ⟨ya0, ya1, ys2, yp3, yl3, yq3, yp4, yl4, yq4, yp5, yl5, yq5, ya6, yp7, yl7, yq7, yp8, yl8, yq8, ys9, rfl⟩, hrow⟩, hl3, hr3, hk3⟩))
        | (have hW3 := hk3.size; refine append_R Tryz.underlying37 infE rfl (by decide) (by decide) (HF.out.gr hk3 hlt) (by omega) (by omega) (by rw [← hrow.length]; rfl) (hrow.keep (Nat.le_refl _) (fun b h1 h2 => ⟨by omega, fun e => by have := HF.out.own e.symm; omega⟩) (fun _ _ _ => rfl)) ⟨_, _, _, _, _, _, _, _, _, _, _, _, _, _, _, _, _, _, _, _, rfl⟩ (shE_one ⟨_, _, _, _, _, _, _, _, _, _, _, _, _, _, _, _, _, _, _, _, rfl⟩).1 rfl _ _ rfl rfl rfl ?_; intro v4 w4 hf4 hg4 ho4))
      · refine ⟨rfl, HB.out t3 _ ?_ hb (hg.trans hk3)⟩
        rw [← HRR.out, hm2]
        simp only [timesP, hp, Rs.bind_bad]
      · have HF3 := Lib.hid (HF.out.gr hk3 hlt)
        have hW3 := hk3.size
        go_roundw
        case rel =>
          refine ⟨_, l ++ [x], t3, d3, j + 1, rfl, by go_num, by omega, hf4, hr3.row hg4 (fun g e => by have := HF3.out.own e; omega), (hg.trans hk3).row hg4 (fun g e => (HF3.out.own e).1), by omega, by rw [List.length_append]; simp; omega, ?_⟩
          rw [← HRR.out, hm2, hm3]
          simp only [timesP, hp, Rs.bind_ok]
          cases timesP one m2 t3 d3 with
          | bad u => rfl
          | ok l2 u e => simp only [Rs.bind_ok]; rw [List.append_assoc]; rfl
        case measure => simp [intOf]; omega
    · have g1 : ¬ (j : Int) < (N : Int) := by omega
      have hm2 : N - j = 0 := by omega
      go_wp2
      refine HO.out l t1 d1 _ _ ?_ ⟨al, l.length, cl, rfl, HF.out, rfl, by omega⟩ ht1 hr hg
      rw [← HRR.out, hm2]
      simp only [timesP, Rs.bind_ok, List.append_nil]
end Go.Proofs.YtedmmgfnplbkjaaGreatDoor
