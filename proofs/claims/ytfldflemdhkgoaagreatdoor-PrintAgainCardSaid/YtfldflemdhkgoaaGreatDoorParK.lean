/-
  Walks: key, pairsOf.
  Conditions: the reader lies as 'RD' says; its words are at most 65536.
-/
import Derived.Test.YtfldflemdhkgoaaGreatDoorParI
namespace Go.Proofs.YtfldflemdhkgoaaGreatDoor
set_option linter.unusedVariables false
set_option linter.unusedSimpArgs false
open Go.RowKit G

theorem frows_one {Sh : List Value → Prop} {ty : TypeId} {k B : Nat} {w : World} {ts : List T} {vs : List Value} (hs : Sh vs) (hk : ts.length = k) (hr : Row w (B ≤ ·) ts vs) (hB : B ≤ w.heap.size) :
    FRows Sh ty k B [ts] (.slice (some ⟨w.heap.size, 0, none⟩) 1 1) (w.alloc (.cells vs.toArray ty)) := by
  have hl : vs.length = k := by rw [hr.length, hk]
  have hz : (w.alloc (.cells vs.toArray ty)).heap.size = w.heap.size + 1 := by simp
  refine ⟨[vs], ⟨by simp [hl], .inr ⟨w.heap.size, 1, vs.toArray, rfl, hB, heap_alloc_new _ _, Nat.le_refl _, by unfold maxLen; omega, by simp [hl], ?_⟩⟩, .cons ⟨hk, hr.keep (by omega) (fun b h1 h2 => ⟨h2, fun e => ?_⟩) (fun b _ h2 => Below.heap_alloc _ _ _ h2)⟩ .nil, fun x hx => by rw [List.mem_singleton.1 hx]; exact hs⟩
  · simp [List.take_of_length_le (Nat.le_of_eq hl)]
  · simp only [Value.ownBlock, Option.some.injEq] at e
    omega
theorem key_cases (k : Nat) (s : Str) : (k = 1 ∧ s = [45]) ∨ (Hid (k = 1) ∧ ((k : Int) == 1) = true ∧ ¬ s = [45] ∧ (s == [45]) = false) ∨ (¬ k = 1 ∧ ¬ (k : Int) = 1 ∧ ((k : Int) == 1) = false) := by
  by_cases h : k = 1
  · by_cases h2 : s = [45]
    · exact .inl ⟨h, h2⟩
    · exact .inr (.inl ⟨Lib.hid h, by rw [h]; rfl, h2, by simpa using h2⟩)
  · exact .inr (.inr ⟨h, by omega, by have : ¬ (k : Int) = 1 := by omega
                                      simpa using this⟩)
theorem isDash_of {ws : List LX.LW} {t k l : Nat} {s : Str} {n : Int} (h : ws[t]? = some ⟨k, s, n, l⟩) : isDash (ws.map nol) t = (k == 1 && s == [45]) := by
  unfold isDash
  rw [nol_get, h]
  rfl
theorem isDash_end {ws : List LX.LW} {t : Nat} (h : ws[t]? = none) : isDash (ws.map nol) t = false := by
  unfold isDash
  rw [nol_get, h]
  rfl
set_option maxRecDepth 100000 in
set_option maxHeartbeats 8000000 in
theorem key_any {W1 : World} {wv : Value} {ws : List LX.LW} {c : Str} {t d : Nat} {W : World} (h : RD' W1 wv ws c t d W) (hn : ws.length ≤ 65536) {ex : Nat → Nat → Rs (List T)} (heo : ∀ t' d' w W', t ≤ t' → ws[t']? = some w → RD' W1 wv ws c (t' + 1) d' W' → d' ≤ t' → Calls Tryz.prog 104 #[rp W1, .agg #[.int .u8 (w.k : Nat), .string ⟨w.s.toArray⟩, .int .i64 w.n, .int .i64 (w.line : Nat)]] W' (PostR W1 wv ws c (t' + 1) W' (FT ShE W'.heap.size) (ex t' d'))) (hn0 : ∀ t d, ws[t]? = none → ex t d = .bad (t + 1)) :
    Calls Tryz.prog 154 #[rp W1] W (PostR W1 wv ws c (t + 1) W (FSl ShE 43 10 W.heap.size) (keyP (ws.map nol) ex t d)) := by
  have HT := Lib.hid (take_out h hn)
  have HE := Lib.hid (fun kk s nn ll w' (h1 : ws[t]? = some ⟨kk, s, nn, ll⟩) (h2 : RD' W1 wv ws c (t + 1) d w') => heo t d _ w' (Nat.le_refl _) h1 h2 h.2.2)
  have HN0 := Lib.hid (hn0 t d)
  have hlt := h.1.lt
  obtain ⟨rs, hrs⟩ : ∃ r, (keyP (ws.map nol) ex t d) = r := ⟨_, rfl⟩
  rw [hrs]
  obtain ⟨post, hpost⟩ : ∃ p, PostR W1 wv ws c (t + 1) W (FSl ShE 43 10 W.heap.size) rs = p := ⟨_, rfl⟩
  have HB : Hid (∀ t' w', rs = .bad t' → (∃ d, RD W1 wv ws c t' d w') → Gr W1 W w' → post (.panicked [pz]) w') := fun t' w' h1 h2 h3 => by rw [← hpost]; exact .inl ⟨t', h1, rfl, h2, h3⟩
  have HO : Hid (∀ x t' d' v w', rs = .ok x t' d' → (FSl ShE 43 10 W.heap.size) x v w' → t + 1 ≤ t' → RD' W1 wv ws c t' d' w' → Gr W1 W w' → post (.returned v) w') := fun x t' d' v w' h1 h2 h3 h4 h5 => by rw [← hpost]; exact .inr ⟨x, t', d', v, h1, rfl, h2, h3, h4, h5⟩
  rw [hpost]
  have HRS := Lib.hid hrs
  clear hrs hpost
  clear h heo hn0
  go_enter Tryz.func154, Tryz.ntmps154
  go_wp2_with (first
    | (go_at_call 96; (with_reducible refine HT.out.mono ?_); rintro e w1 (⟨hp1, rfl, hb, hk⟩ | ⟨kk, s, nn, ll, hp1, rfl, hr, hk⟩); all_goals (try (rcases key_cases kk s with ⟨rfl, rfl⟩ | ⟨n1, q0, n2, q1⟩ | ⟨n1, q1, q2⟩)))
    | (refine wpList_load_row rfl 81 _ rfl w1.heap.size rfl 81 _ (0, 0) _ (heap_alloc_new w1 _) Tryz.underlying81 rfl (by kernel_rfl) ?_)
    | (go_at_call 104; (with_reducible refine (HE.out _ _ _ _ _ hp1 (hr.alloc _)).mono ?_); rintro e2 w2 (⟨t2, hp2, rfl, hb2, hk2⟩ | ⟨x2, t2, d2, v2, hp2, rfl, ⟨vs2, rfl, ⟨ya0, ya1, ys2, yp3, yl3, yq3, yp4, yl4, yq4, yp5, yl5, yq5, ya6, yp7, yl7, yq7, yp8, yl8, yq8, ys9, rfl⟩, hrow2⟩, hl2, hr2, hk2⟩)))
  · exact ⟨rfl, HB.out _ _ (by rw [← HRS.out]; simp [keyP, isDash_end hp1, HN0.out hp1]) hb hk⟩
  · exact HO.out [] (t + 1) d _ _ (by rw [← HRS.out]; simp [keyP, isDash_of hp1]) ⟨none, 0, 0, rfl, FRows.nil _ _ _ _ _, rfl, by simp⟩ (Nat.le_refl _) (hr.alloc _) (hk.alloc _)
  · exact ⟨rfl, HB.out _ _ (by rw [← HRS.out]; simp [keyP, isDash_of hp1, n1, n2, hp2]) hb2 ((hk.alloc _).trans hk2)⟩
  · refine HO.out [x2] t2 d2 _ _ (by rw [← HRS.out]; simp [keyP, isDash_of hp1, n1, n2, hp2]) ⟨_, 1, 1, rfl, frows_one (ty := 43) ⟨_, _, _, _, _, _, _, _, _, _, _, _, _, _, _, _, _, _, _, _, rfl⟩ (by rw [← hrow2.length]; rfl) (Row.low (C := W.heap.size) ?_ hrow2) ?_, rfl, by simp⟩ hl2 (hr2.alloc _) (((hk.alloc _).trans hk2).alloc _)
    · have := hk.size; simp; omega
    · have := ((hk.alloc _).trans hk2).size; omega
  · exact ⟨rfl, HB.out _ _ (by rw [← HRS.out]; simp [keyP, isDash_of hp1, n1, hp2]) hb2 ((hk.alloc _).trans hk2)⟩
  · refine HO.out [x2] t2 d2 _ _ (by rw [← HRS.out]; simp [keyP, isDash_of hp1, n1, hp2]) ⟨_, 1, 1, rfl, frows_one (ty := 43) ⟨_, _, _, _, _, _, _, _, _, _, _, _, _, _, _, _, _, _, _, _, rfl⟩ (by rw [← hrow2.length]; rfl) (Row.low (C := W.heap.size) ?_ hrow2) ?_, rfl, by simp⟩ hl2 (hr2.alloc _) (((hk.alloc _).trans hk2).alloc _)
    · have := hk.size; simp; omega
    · have := ((hk.alloc _).trans hk2).size; omega
set_option maxRecDepth 100000 in
set_option maxHeartbeats 8000000 in
theorem pairsOf_any {W1 : World} {wv : Value} {ws : List LX.LW} {c : Str} {t d : Nat} {W : World} (h : RD' W1 wv ws c t d W) (hn : ws.length ≤ 65536) {ex : Nat → Nat → Rs (List T)} (he : ∀ t' d' W', t ≤ t' → RD' W1 wv ws c t' d' W' → Calls Tryz.prog 60 #[rp W1] W' (PostR W1 wv ws c (t' + 1) W' (FT ShE W'.heap.size) (ex t' d'))) (ns : List Str) (hns : ns.length ≤ 3) (b : Nat) (hbR : W1.heap.size < b) (hcell : ∀ i (hi : i < ns.length), W.cell? ⟨b, i, none⟩ = some (.string ⟨ns[i].toArray⟩)) :
    Calls Tryz.prog 156 #[rp W1, .slice (some ⟨b, 0, none⟩) ns.length ns.length] W (PostR W1 wv ws c t W (FSl ShP 183 11 W.heap.size) (pairsOfP ex ns t d)) := by
  have hlt := h.1.lt
  have HE := Lib.hid he
  have HC := Lib.hid hcell
  obtain ⟨rs, hrs⟩ : ∃ r, (pairsOfP ex ns t d) = r := ⟨_, rfl⟩
  rw [hrs]
  obtain ⟨post, hpost⟩ : ∃ p, PostR W1 wv ws c (t) W (FSl ShP 183 11 W.heap.size) rs = p := ⟨_, rfl⟩
  have HB : Hid (∀ t' w', rs = .bad t' → (∃ d, RD W1 wv ws c t' d w') → Gr W1 W w' → post (.panicked [pz]) w') := fun t' w' h1 h2 h3 => by rw [← hpost]; exact .inl ⟨t', h1, rfl, h2, h3⟩
  have HO : Hid (∀ x t' d' v w', rs = .ok x t' d' → (FSl ShP 183 11 W.heap.size) x v w' → t ≤ t' → RD' W1 wv ws c t' d' w' → Gr W1 W w' → post (.returned v) w') := fun x t' d' v w' h1 h2 h3 h4 h5 => by rw [← hpost]; exact .inr ⟨x, t', d', v, h1, rfl, h2, h3, h4, h5⟩
  rw [hpost]
  have HRS := Lib.hid hrs
  clear hrs hpost
  have HR0 := Lib.hid h
  clear h he hcell
  go_enter Tryz.func156, Tryz.ntmps156
  go_wp2
  go_loopw [5, 10] (fun u i wr => ∃ (v : Value) (l : List (List T)) (t' d' j : Nat), v = u ∧ i = .int .i64 j ∧ j ≤ ns.length ∧ FRows ShP 183 11 W.heap.size l v wr ∧ RD' W1 wv ws c t' d' wr ∧ Gr W1 W wr ∧ t ≤ t' ∧ l.length ≤ 3 + j ∧ (pairsOfP ex (ns.drop j) t' d').bind (fun l' t d => .ok (l ++ l') t d) = rs) (fun _ i _ => ns.length - (intOf i).toNat)
  case atStart =>
    refine ⟨_, [], t, d, 0, rfl, rfl, Nat.zero_le _, FRows.nil _ _ _ _ _, HR0.out, gr_refl _ _, Nat.le_refl _, Nat.zero_le _, ?_⟩
    rw [← HRS.out, List.drop_zero]
    cases pairsOfP ex ns t d <;> rfl
  case round =>
    obtain ⟨v, l, t1, d1, j, rfl, rfl, hj, hf, hr, hg, ht1, hl1, hrs⟩ := hrel
    obtain ⟨al, cl, rfl, hcl, hcm⟩ := hf.shape
    have htn := hr.2.1
    have HRR := Lib.hid hrs
    have HF := Lib.hid hf
    have hWs := hg.size
    clear hrs hf
    by_cases hjn : j < ns.length
    · have g1 : (j : Int) < (ns.length : Int) := by omega
      have g0 : (0 : Int) ≤ (j : Int) := by omega
      have hm2 : ns.drop j = ns[j] :: ns.drop (j + 1) := List.drop_eq_getElem_cons hjn
      have hcj := hg.cell (HC.out j hjn) (by intro e; injection e with e; have : b = W1.heap.size := e; omega)
      obtain ⟨nm, hnm⟩ : ∃ nm, ns[j] = nm := ⟨_, rfl⟩
      rw [hnm] at hcj hm2
      have HM := Lib.hid hm2
      clear hnm hm2
      go_wp2_with (first
        | (go_at_call 60; (with_reducible refine (HE.out _ _ _ ht1 hr).mono ?_); rintro e w3 (⟨t3, hp, rfl, hb, hk3⟩ | ⟨x, t3, d3, v3, hp, rfl, ⟨vs3, rfl, ⟨ya0, ya1, ys2, yp3, yl3, yq3, yp4, yl4, yq4, yp5, yl5, yq5, ya6, yp7, yl7, yq7, yp8, yl8, yq8, ys9, rfl⟩, hrow⟩, hl3, hr3, hk3⟩))
        | (have hW3 := hk3.size; refine append_R (ts := .sc (str nm) :: x) Tryz.underlying180 infP rfl (by decide) (by decide) (HF.out.gr hk3 hlt) (by omega) (by omega) (by rw [List.length_cons, ← hrow.length]; rfl) (row_one _ (hrow.keep (Nat.le_refl _) (fun b h1 h2 => ⟨by omega, fun e => by have := HF.out.own e.symm; omega⟩) (fun _ _ _ => rfl))) ⟨_, _, _, _, _, _, _, _, _, _, _, _, _, _, _, _, _, _, _, _, _, rfl⟩ (shP_one ⟨_, _, _, _, _, _, _, _, _, _, _, _, _, _, _, _, _, _, _, _, _, rfl⟩).1 rfl _ _ rfl rfl rfl ?_; intro v4 w4 hf4 hg4 ho4))
      · refine ⟨rfl, HB.out t3 _ ?_ hb (hg.trans hk3)⟩
        rw [← HRR.out, HM.out]
        simp only [pairsOfP, hp, Rs.bind_bad]
      · have HF3 := Lib.hid (HF.out.gr hk3 hlt)
        have hW3 := hk3.size
        go_roundw
        case rel =>
          refine ⟨_, l ++ [.sc (str nm) :: x], t3, d3, j + 1, rfl, by go_num, by omega, hf4, hr3.row hg4 (fun g e => by have := HF3.out.own e; omega), (hg.trans hk3).row hg4 (fun g e => (HF3.out.own e).1), by omega, by rw [List.length_append]; simp; omega, ?_⟩
          rw [← HRR.out, HM.out]
          simp only [pairsOfP, hp, Rs.bind_ok]
          cases pairsOfP ex (ns.drop (j + 1)) t3 d3 with
          | bad u => rfl
          | ok l2 u e => simp only [Rs.bind_ok]; rw [List.append_assoc]; rfl
        case measure => simp [intOf]; omega
    · have g1 : ¬ (j : Int) < (ns.length : Int) := by omega
      have hm2 : ns.drop j = [] := List.drop_eq_nil_of_le (by omega)
      go_wp2
      refine HO.out l t1 d1 _ _ ?_ ⟨al, l.length, cl, rfl, HF.out, rfl, by omega⟩ ht1 hr hg
      rw [← HRR.out, hm2]
      simp only [pairsOfP, Rs.bind_ok, List.append_nil]

end Go.Proofs.YtfldflemdhkgoaaGreatDoor
