/-
  Walks: norm.child answers 'V.kid', in memory of its own.
  Conditions: the value lies in memory, each of its lists takes no more than the reach; the three tables hold what the program's text lays in them.
-/
import Derived.Test.YtnmindcofdcncaaGreatDoorNkC
namespace Go.Proofs.YtnmindcofdcncaaGreatDoor
set_option linter.unusedVariables false
set_option linter.unusedSimpArgs false
open Go.RowKit Go.Deep Go.WideShapes
theorem vz_new {w w' : World} (k n : Int) (s : ByteArray) (hk : 0 ≤ k ∧ k ≤ 255) (hn : -9223372036854775808 ≤ n ∧ n ≤ 9223372036854775807) (hs : s.size ≤ maxLen) (hb : Below w.heap.size w w') : NewOf w (vz k n s) (vz k n s) w' :=
  ⟨vz_in _ hk hn hs, by simp [vz, V.same, ownB, allB], ⟨(fun _ h => by cases h), (fun _ h => by cases h), fun _ hi => absurd hi (Nat.not_lt_zero _), fun _ hi => absurd hi (Nat.not_lt_zero _)⟩,
   ⟨.inl ⟨rfl, rfl, rfl⟩, .inl ⟨rfl, rfl, rfl⟩, fun _ hi => absurd hi (Nat.not_lt_zero _), fun _ hi => absurd hi (Nat.not_lt_zero _)⟩, by simp [vz, V.blocks, joinTo, addrs], hb⟩
theorem itoa_size (n : Int) (hn : -9223372036854775808 ≤ n ∧ n ≤ 9223372036854775807) : (⟨(Lib.itoa n).toArray⟩ : ByteArray).size ≤ 21 := by
  have := Lib.itoa_length_le n hn.1 hn.2
  simpa [ByteArray.size] using this
def KidPost (w : World) (v : V) (x : Ending) (w' : World) : Prop := Below w.heap.size w w' ∧
  (v.kid = none → x = .returned (.tuple #[nc.agg, .bool false])) ∧
  ∀ c, v.kid = some c → ∃ t, x = .returned (.tuple #[(C.mk c.key c.kind c.name t).agg, .bool true]) ∧ NewOf w c.val t w'
theorem zc {w W : World} (hb : Below (w.alloc (.cells #[.string ⟨#[]⟩, .int .u8 0, .string ⟨#[]⟩, .int .u8 0, .int .i64 0, .string ⟨#[]⟩, .slice none 0 0, .slice none 0 0, .int .u8 0, .string ⟨#[]⟩, .bool false] 70)).heap.size (w.alloc (.cells #[.string ⟨#[]⟩, .int .u8 0, .string ⟨#[]⟩, .int .u8 0, .int .i64 0, .string ⟨#[]⟩, .slice none 0 0, .slice none 0 0, .int .u8 0, .string ⟨#[]⟩, .bool false] 70)) W) : Below w.heap.size w W ∧ (∀ j, W.frozen? ⟨w.heap.size, j, none⟩ = false) ∧ W.cell? ⟨w.heap.size, 0, none⟩ = some (.string ⟨#[]⟩) ∧ W.cell? ⟨w.heap.size, 1, none⟩ = some (.int .u8 0) ∧ W.cell? ⟨w.heap.size, 2, none⟩ = some (.string ⟨#[]⟩) ∧ W.cell? ⟨w.heap.size, 3, none⟩ = some (.int .u8 0) ∧ W.cell? ⟨w.heap.size, 4, none⟩ = some (.int .i64 0) ∧ W.cell? ⟨w.heap.size, 5, none⟩ = some (.string ⟨#[]⟩) ∧ W.cell? ⟨w.heap.size, 6, none⟩ = some (.slice none 0 0) ∧ W.cell? ⟨w.heap.size, 7, none⟩ = some (.slice none 0 0) ∧ W.cell? ⟨w.heap.size, 8, none⟩ = some (.int .u8 0) ∧ W.cell? ⟨w.heap.size, 9, none⟩ = some (.string ⟨#[]⟩) ∧ W.cell? ⟨w.heap.size, 10, none⟩ = some (.bool false) :=
  ⟨(below_alloc w _).trans (hb.mono (by simp)), laid_bfz hb, laid_cell hb 0, laid_cell hb 1, laid_cell hb 2, laid_cell hb 3, laid_cell hb 4, laid_cell hb 5, laid_cell hb 6, laid_cell hb 7, laid_cell hb 8, laid_cell hb 9, laid_cell hb 10⟩
theorem kid_text {w w' : World} {v : V} {s : ByteArray} (hv : v.kid = some (textC s)) (hs : s.size ≤ maxLen) (hb : Below w.heap.size w w') :
    KidPost w v (.returned (.tuple #[.agg #[.string ⟨#[]⟩, .int .u8 9, .string ⟨#[]⟩, .int .u8 3, .int .i64 0, .string s, .slice none 0 0, .slice none 0 0, .int .u8 0, .string ⟨#[]⟩, .bool false], .bool true])) w' := by
  refine ⟨hb, fun h => ?_, fun c hc => ?_⟩
  · rw [hv] at h; cases h
  · rw [hv] at hc
    cases hc
    exact ⟨vz 3 0 s, rfl, vz_new 3 0 s (by decide) (by decide) hs hb⟩
theorem kid_no {w w' : World} {v : V} (hv : v.kid = none) (hb : Below w.heap.size w w') :
    KidPost w v (.returned (.tuple #[.agg #[.string ⟨#[]⟩, .int .u8 0, .string ⟨#[]⟩, .int .u8 0, .int .i64 0, .string ⟨#[]⟩, .slice none 0 0, .slice none 0 0, .int .u8 0, .string ⟨#[]⟩, .bool false], .bool false])) w' := by
  refine ⟨hb, fun h => rfl, fun c hc => ?_⟩
  rw [hv] at hc; cases hc
theorem kid_elem {w w' : World} {v t : V} {e : Int} {s : ByteArray} (hv : v.kid = some ⟨⟨#[]⟩, e, s, v⟩) (hn : NewOf w v t w') :
    KidPost w v (.returned (.tuple #[(C.mk ⟨#[]⟩ e s t).agg, .bool true])) w' := by
  refine ⟨hn.low, fun h => ?_, fun c hc => ?_⟩
  · rw [hv] at h; cases h
  · rw [hv] at hc
    cases hc
    exact ⟨t, rfl, hn⟩
set_option maxRecDepth 100000 in
set_option maxHeartbeats 4000000 in
theorem child_any (b o : Nat) (v : V) (w : World) (h : v.In w) (hf : v.Fit) (hat : At w b o v.cells) (ht : Tabs w) :
    Calls Tryz.prog 17 #[.pointer (some ⟨b, o, none⟩)] w (KidPost w v) := by
  cases v with
  | leaf => exact h.elim
  | mk k n s la ll lc L fa fl fc fn F e key hk =>
  have hbw : Hid (b < w.heap.size) := World.block_lt_of_cell? _ _ (at8 hat).1
  have hc := fun O => at8 (hat.below (below_alloc w O))
  have c0 := fun O => (hc O).1
  have c1 := fun O => (hc O).2.1
  have c2 := fun O => (hc O).2.2.1
  have hn := h.2.1
  have hs := h.2.2.1
  have HT : Hid (∀ W, Below w.heap.size w W → Calls Tryz.prog 81 #[(vz 1 n ⟨#[]⟩).agg] W fun x w' => x = .returned (.string ⟨(Lib.itoa n).toArray⟩) ∧ Below W.heap.size W w') := fun W hb => by
    have := text_any (vz 1 n ⟨#[]⟩) W (vz_in W (by decide) hn (by decide)) (ht.below hb).1 (ht.below hb).2.1 (ht.below hb).2.2
    rwa [int_told n hn] at this
  have HE : Hid (∀ W, Below w.heap.size w W → Calls Tryz.prog 82 #[.pointer (some ⟨b, o, none⟩)] W (ElemPost W (V.mk k n s la ll lc L fa fl fc fn F e key hk) e s)) := fun W hb => kelem_any b o k n s la ll lc L fa fl fc fn F e key hk W (h.below hb) hf (hat.below hb)
  have HK := Lib.hid (fun s W => ktext_any s W)
  have HNW : Hid (∀ W W1 w' t, Below w.heap.size w W → NewOf W (V.mk k n s la ll lc L fa fl fc fn F e key hk) t W1 → (∀ g, W.heap.size ≤ g → g < W1.heap.size → w'.heap[g]? = W1.heap[g]?) → Below w.heap.size w w' → NewOf w (V.mk k n s la ll lc L fa fl fc fn F e key hk) t w') := fun W W1 w' t hb hn hk hb' =>
    ⟨V.In.from (B := W.heap.size) (fun a h1 h2 => World.cell?_of_block (hk _ h1 h2)) hn.frm hn.inn, hn.sm, hn.frm.mono hb.size, V.Own.from (B := W.heap.size) hk hn.frm hn.own, hn.nod, hb'⟩
  have hi := itoa_size n hn
  clear h hf hat hc ht
  simp only [V.agg, vz, V.cells] at HT
  simp only [C.agg, C.cells, textC, vz, V.cells] at HK
  have HS := Lib.hid (show s.size ≤ maxLen from hs)
  clear hs
  by_cases h1 : k = 1
  · subst h1
    have R : Hid (∀ w', Below w.heap.size w w' → KidPost w (V.mk 1 n s la ll lc L fa fl fc fn F e key hk) (.returned (.tuple #[.agg #[.string ⟨#[]⟩, .int .u8 9, .string ⟨#[]⟩, .int .u8 3, .int .i64 0, .string ⟨(Lib.itoa n).toArray⟩, .slice none 0 0, .slice none 0 0, .int .u8 0, .string ⟨#[]⟩, .bool false], .bool true])) w') := fun w' hb => kid_text rfl (by unfold maxLen; omega) hb
    clear HE HNW HS hi
    generalize KidPost w (V.mk 1 n s la ll lc L fa fl fc fn F e key hk) = R0 at R ⊢
    generalize (⟨(Lib.itoa n).toArray⟩ : ByteArray) = d at HT R
    go_enter Tryz.func17, Tryz.ntmps17
    go_wp2_with fail
    refine (HT.out _ (below_alloc w _)).mono ?_
    rintro x w1 ⟨rfl, hb1⟩
    have HB1 := Lib.hid hb1
    clear hb1 c0 c1 c2
    go_wp2_with fail
    refine (HK.out d w1).mono ?_
    rintro x w2 ⟨rfl, hb2⟩
    obtain ⟨hb, zf, z0, z1, z2, z3, z4, z5, z6, z7, z8, z9, z10⟩ := zc (HB1.out.trans (hb2.mono HB1.out.size))
    have HB := Lib.hid hb
    clear hb hb2
    have hr := R.out (putL w2 w.heap.size 0 [.string ⟨#[]⟩, .int .u8 9, .string ⟨#[]⟩, .int .u8 3, .int .i64 0, .string d, .slice none 0 0, .slice none 0 0, .int .u8 0, .string ⟨#[]⟩, .bool false]) (putL_low HB.out _ _ _ (Nat.le_refl _))
    have HR := Lib.hid hr
    clear hr
    go_wp2_with fail
    refine bodyPost_ret (v := .tuple #[.agg #[.string ⟨#[]⟩, .int .u8 9, .string ⟨#[]⟩, .int .u8 3, .int .i64 0, .string d, .slice none 0 0, .slice none 0 0, .int .u8 0, .string ⟨#[]⟩, .bool false], .bool true]) (by simp [results, Tryz.results17, go_sem, zf, z0, z1, z2, z3, z4, z5, z6, z7, z8, z9, z10]) rfl ?_
    exact HR.out
  · have h1' : (k == 1) = false := by simp [h1]
    by_cases h3 : k = 3
    · subst h3
      have R : Hid (∀ w', Below w.heap.size w w' → KidPost w (V.mk 3 n s la ll lc L fa fl fc fn F e key hk) (.returned (.tuple #[.agg #[.string ⟨#[]⟩, .int .u8 9, .string ⟨#[]⟩, .int .u8 3, .int .i64 0, .string s, .slice none 0 0, .slice none 0 0, .int .u8 0, .string ⟨#[]⟩, .bool false], .bool true])) w') := fun w' hb => kid_text rfl HS.out hb
      clear HE HNW HS hi HT h1
      generalize KidPost w (V.mk 3 n s la ll lc L fa fl fc fn F e key hk) = R0 at R ⊢
      go_enter Tryz.func17, Tryz.ntmps17
      go_wp2_with fail
      refine (HK.out s _).mono ?_
      rintro x w2 ⟨rfl, hb2⟩
      obtain ⟨hb, zf, z0, z1, z2, z3, z4, z5, z6, z7, z8, z9, z10⟩ := zc hb2
      have HB := Lib.hid hb
      clear hb hb2 c0 c1 c2
      have hr := R.out (putL w2 w.heap.size 0 [.string ⟨#[]⟩, .int .u8 9, .string ⟨#[]⟩, .int .u8 3, .int .i64 0, .string s, .slice none 0 0, .slice none 0 0, .int .u8 0, .string ⟨#[]⟩, .bool false]) (putL_low HB.out _ _ _ (Nat.le_refl _))
      have HR := Lib.hid hr
      clear hr
      go_wp2_with fail
      refine bodyPost_ret (v := .tuple #[.agg #[.string ⟨#[]⟩, .int .u8 9, .string ⟨#[]⟩, .int .u8 3, .int .i64 0, .string s, .slice none 0 0, .slice none 0 0, .int .u8 0, .string ⟨#[]⟩, .bool false], .bool true]) (by simp [results, Tryz.results17, go_sem, zf, z0, z1, z2, z3, z4, z5, z6, z7, z8, z9, z10]) rfl ?_
      exact HR.out
    · have h3' : (k == 3) = false := by simp [h3]
      by_cases h6 : k = 6
      · subst h6
        have R1 : Hid (0 < e ∧ e < 9 → ∀ t w', NewOf w (V.mk 6 n s la ll lc L fa fl fc fn F e key hk) t w' → KidPost w (V.mk 6 n s la ll lc L fa fl fc fn F e key hk) (.returned (.tuple #[(C.mk ⟨#[]⟩ e s t).agg, .bool true])) w') := fun he t w' hn => kid_elem (by simp [V.kid, he.1, he.2]) hn
        have R0 : Hid (¬ (0 < e ∧ e < 9) → ∀ w', Below w.heap.size w w' → KidPost w (V.mk 6 n s la ll lc L fa fl fc fn F e key hk) (.returned (.tuple #[.agg #[.string ⟨#[]⟩, .int .u8 0, .string ⟨#[]⟩, .int .u8 0, .int .i64 0, .string ⟨#[]⟩, .slice none 0 0, .slice none 0 0, .int .u8 0, .string ⟨#[]⟩, .bool false], .bool false])) w') := fun he w' hb => kid_no (by simp only [V.kid]; rw [if_neg (by decide), if_neg (by decide), if_neg (fun q => he q.2)]) hb
        clear HS hi HT HK h1 h3
        have HE2 : Hid (∀ O, Calls Tryz.prog 82 #[.pointer (some ⟨b, o, none⟩)] (w.alloc O) (ElemPost (w.alloc O) (V.mk 6 n s la ll lc L fa fl fc fn F e key hk) e s)) := fun O => HE.out _ (below_alloc w O)
        clear HE
        generalize KidPost w (V.mk 6 n s la ll lc L fa fl fc fn F e key hk) = R at R1 R0 ⊢
        go_enter Tryz.func17, Tryz.ntmps17
        go_wp2_with fail
        refine (HE2.out _).mono ?_
        rintro x w2 ⟨hb2, hy, hno⟩
        obtain ⟨hb, zf, z0, z1, z2, z3, z4, z5, z6, z7, z8, z9, z10⟩ := zc hb2
        have HB := Lib.hid hb
        clear c0 c1 c2
        by_cases he : 0 < e ∧ e < 9
        · obtain ⟨t, hn, rfl⟩ := hy he
          have ht8 := hn.inn
          cases t with
          | leaf => exact ht8.elim
          | mk k4 n4 s4 la4 ll4 lc4 L4 fa4 fl4 fc4 fn4 F4 e4' key4 hk4 =>
          have hP := HNW.out _ _ (putL w2 w.heap.size 0 (C.mk ⟨#[]⟩ e s (V.mk k4 n4 s4 la4 ll4 lc4 L4 fa4 fl4 fc4 fn4 F4 e4' key4 hk4)).cells) _ (below_alloc w _) hn (fun g hg hl => putL_block _ _ _ _ _ (by simp at hg; omega)) (putL_low hb _ _ _ (Nat.le_refl _))
          have HR := Lib.hid (R1.out he _ _ hP)
          clear hP hn ht8 hy hno hb hb2 he R1 R0
          simp only [C.agg, C.cells, V.cells] at HR ⊢
          go_wp2_with fail
          refine bodyPost_ret (v := .tuple #[.agg #[.string ⟨#[]⟩, .int .u8 e, .string s, .int .u8 k4, .int .i64 n4, .string s4, .slice la4 ll4 lc4, .slice fa4 fl4 fc4, .int .u8 e4', .string key4, .bool hk4], .bool true]) (by simp [results, Tryz.results17, go_sem, zf, z0, z1, z2, z3, z4, z5, z6, z7, z8, z9, z10]) rfl ?_
          exact HR.out
        · obtain rfl := hno he
          have HR := Lib.hid (R0.out he (putL w2 w.heap.size 0 [.string ⟨#[]⟩, .int .u8 0, .string ⟨#[]⟩, .int .u8 0, .int .i64 0, .string ⟨#[]⟩, .slice none 0 0, .slice none 0 0, .int .u8 0, .string ⟨#[]⟩, .bool false]) (putL_low hb _ _ _ (Nat.le_refl _)))
          clear hy hno hb hb2 he R1 R0
          simp only [C.agg, C.cells, V.cells, nc, nv, vz]
          go_wp2_with fail
          refine bodyPost_ret (v := .tuple #[.agg #[.string ⟨#[]⟩, .int .u8 0, .string ⟨#[]⟩, .int .u8 0, .int .i64 0, .string ⟨#[]⟩, .slice none 0 0, .slice none 0 0, .int .u8 0, .string ⟨#[]⟩, .bool false], .bool false]) (by simp [results, Tryz.results17, go_sem, zf, z0, z1, z2, z3, z4, z5, z6, z7, z8, z9, z10]) rfl ?_
          exact HR.out
      · have h6' : (k == 6) = false := by simp [h6]
        have R : Hid (∀ w', Below w.heap.size w w' → KidPost w (V.mk k n s la ll lc L fa fl fc fn F e key hk) (.returned (.tuple #[.agg #[.string ⟨#[]⟩, .int .u8 0, .string ⟨#[]⟩, .int .u8 0, .int .i64 0, .string ⟨#[]⟩, .slice none 0 0, .slice none 0 0, .int .u8 0, .string ⟨#[]⟩, .bool false], .bool false])) w') := fun w' hb => kid_no (by simp only [V.kid]; rw [if_neg h1, if_neg h3, if_neg (fun q => h6 q.1)]) hb
        clear HE HNW HS hi HT HK h1 h3 h6
        generalize KidPost w (V.mk k n s la ll lc L fa fl fc fn F e key hk) = R0 at R ⊢
        have HR := Lib.hid (R.out (w.alloc (.cells #[.string ⟨#[]⟩, .int .u8 0, .string ⟨#[]⟩, .int .u8 0, .int .i64 0, .string ⟨#[]⟩, .slice none 0 0, .slice none 0 0, .int .u8 0, .string ⟨#[]⟩, .bool false] 70)) (below_alloc w _))
        go_enter Tryz.func17, Tryz.ntmps17
        go_wp2_with fail
        refine bodyPost_ret (v := .tuple #[.agg #[.string ⟨#[]⟩, .int .u8 0, .string ⟨#[]⟩, .int .u8 0, .int .i64 0, .string ⟨#[]⟩, .slice none 0 0, .slice none 0 0, .int .u8 0, .string ⟨#[]⟩, .bool false], .bool false]) (by simp [results, Tryz.results17, go_sem]) rfl ?_
        exact HR.out
end Go.Proofs.YtnmindcofdcncaaGreatDoor
