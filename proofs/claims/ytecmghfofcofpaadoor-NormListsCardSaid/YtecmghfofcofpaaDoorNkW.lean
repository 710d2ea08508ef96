/-
  Walks: NormLists returns true: a stretch of values put into a list of its own changes no child.
  Conditions: the list is not long; the three tables hold what the program's text lays in them.
-/
import Derived.Test.YtecmghfofcofpaaDoorNkR
import Derived.Test.YtecmghfofcofpaaDoorNkV
namespace Go.Proofs.YtecmghfofcofpaaDoor
set_option linter.unusedVariables false
set_option linter.unusedSimpArgs false
open Go.ChangeShapes Go.WideShapes Go.ChangeAt Go.RowKit Go.Deep

/-- Two rows of children that are the same, held against one another. -/
theorem same_call {W : World} {a b : Option Addr} {cs ds : List C} {c1 c2 : Nat} (ha : KRow W a cs) (hb : KRow W b ds) (h : Sms cs ds) (h1 : cs.length ≤ c1 ∧ c1 ≤ maxLen) :
    Calls Tryd.prog 11 #[.slice a cs.length c1, .slice b ds.length c2] W fun x w' => x = .returned (.bool true) ∧ Below W.heap.size W w' := by
  have hlen := h.length
  have hn : cs.length ≤ 9223372036854775807 := by have := h1.1; have := h1.2; unfold maxLen at this; omega
  have hels : ∀ {a : Option Addr} {cs : List C}, KRow W a cs → ∀ i, i < cs.length → (∃ b o, a = some ⟨b, o, none⟩ ∧ At W b (o + i * 11) (cs.getD i ⟨⟨#[]⟩, 0, ⟨#[]⟩, .leaf⟩).cells) ∧ (cs.getD i ⟨⟨#[]⟩, 0, ⟨#[]⟩, .leaf⟩).val.In W := fun {a cs} hk i hi => by
    have e : cs.getD i ⟨⟨#[]⟩, 0, ⟨#[]⟩, .leaf⟩ = cs[i] := by simp [List.getD, List.getElem?_eq_getElem hi]
    obtain ⟨g, he, hat⟩ := hk.at' i hi
    rw [e]
    exact ⟨⟨g, 0, he, by rw [Nat.zero_add]; exact hat⟩, hk.vals _ (List.getElem_mem hi)⟩
  have key := scs_any W a b cs.length c1 ds.length c2 (fun i => cs.getD i ⟨⟨#[]⟩, 0, ⟨#[]⟩, .leaf⟩) (fun i => ds.getD i ⟨⟨#[]⟩, 0, ⟨#[]⟩, .leaf⟩) hn (by omega) (hels ha) (hels hb)
  refine key.mono fun x w' hx => ⟨?_, hx.2⟩
  rw [hx.1, decide_eq_true hlen, Bool.true_and]
  congr 2
  rw [allB_iff]
  intro i hi
  clear key hels ha hb h1 hn hx hlen
  induction cs generalizing ds i with
  | nil => exact absurd hi (by simp)
  | cons x r ih =>
    cases ds with
    | nil => exact h.elim
    | cons y s =>
      cases i with
      | zero =>
        show C.smB x y = true
        unfold C.smB
        rw [h.1.1, h.1.2.1, h.1.2.2.1, h.1.2.2.2]
        simp
      | succ i => exact ih h.2 i (by simpa using hi)

theorem big_num {ll : Nat} (h : ll * 112 ≤ 140737488351232) : (ll : Int) ≤ 1256584717422 := by omega
theorem lists_nums (ll : Nat) (from_ cnt : Int) : ∃ p d q : Nat, from_ % ((ll : Int) + 1) = (p : Int) ∧ (p : Int) ≤ (ll : Int) ∧ cnt % ((ll : Int) - (p : Int) + 1) = (d : Int) ∧ (d : Int) ≤ (ll : Int) ∧ (p : Int) + (d : Int) = (q : Int) ∧ (p : Int) ≤ (q : Int) ∧ (q : Int) ≤ (ll : Int) ∧ (p ≤ q ∧ q ≤ ll) := by
  have e1 := Int.emod_nonneg from_ (show ((ll : Int) + 1) ≠ 0 by omega)
  have e2 := Int.emod_lt_of_pos from_ (show (0 : Int) < (ll : Int) + 1 by omega)
  generalize from_ % ((ll : Int) + 1) = x at e1 e2
  obtain ⟨p, rfl⟩ := Int.eq_ofNat_of_zero_le e1
  have e3 := Int.emod_nonneg cnt (show ((ll : Int) - (p : Int) + 1) ≠ 0 by omega)
  have e4 := Int.emod_lt_of_pos cnt (show (0 : Int) < (ll : Int) - (p : Int) + 1 by omega)
  refine ⟨p, (cnt % ((ll : Int) - (p : Int) + 1)).toNat, p + (cnt % ((ll : Int) - (p : Int) + 1)).toNat, ?_⟩
  generalize cnt % ((ll : Int) - (p : Int) + 1) = y at e3 e4 ⊢
  refine ⟨rfl, ?_, ?_, ?_, ?_, ?_, ?_, ?_, ?_⟩ <;> omega

set_option maxRecDepth 100000 in
set_option maxHeartbeats 4000000 in
theorem nl_any (la : Option Addr) (ll lc : Nat) (L : Nat → V) (from_ cnt : Int) (hf : 0 ≤ from_ ∧ from_ ≤ 255) (hcnt : 0 ≤ cnt ∧ cnt ≤ 255) (w : World) (h : Lst w la ll lc L) (hll : ll * 112 ≤ 140737488351232) (ht : Tabs w) :
    Calls Tryd.prog 4 #[.slice la ll lc, .int .u8 from_, .int .u8 cnt] w fun x w' => x = .returned (.bool true) ∧ Below w.heap.size w w' := by
  have HAL := Lib.hid (fun W (hb : Below w.heap.size w W) => alive_any W (ht.below hb))
  have HVS := Lib.hid (fun W (hb : Below w.heap.size w W) => vs_size (h.below hb))
  have HBY := Lib.hid (fun x hx W => beyond_one x hx W)
  have HKD := Lib.hid (fun la' ll' lc' L' W (hl : Lst W la' ll' lc' L') (hb : Below w.heap.size w W) => kids_any la' ll' lc' L' W hl (ht.below hb))
  have HH := Lib.hid h
  obtain ⟨p, d, q, hp, hpl, hd, hdr, hpd, hpq, hql, hqn⟩ := lists_nums ll from_ cnt
  obtain ⟨A1, hA1⟩ : ∃ A, (if lc = p then la else Option.map (fun x => x.add (p * 8)) la) = A := ⟨_, rfl⟩
  obtain ⟨A2, hA2⟩ : ∃ A, (if lc = q then la else Option.map (fun x => x.add (q * 8)) la) = A := ⟨_, rfl⟩
  have H1 : Hid (Lst w A1 (q - p) (lc - p) (fun i => L (p + i))) := hA1 ▸ lst_sub h p (q - p) (by omega)
  have H2 : Hid (Lst w A2 (ll - q) (lc - q) (fun i => L (q + i))) := hA2 ▸ lst_sub h q (ll - q) (by omega)
  have hcap := h.cap.1
  have hlc : (ll : Int) ≤ (lc : Int) := Int.ofNat_le.2 hcap
  have hpc : (p : Int) ≤ (lc : Int) := Int.le_trans hpl hlc
  have hqc : (q : Int) ≤ (lc : Int) := Int.le_trans hql hlc
  have hq0 : (0 : Int) ≤ (q : Int) := Int.natCast_nonneg _
  have hp0 : (0 : Int) ≤ (p : Int) := Int.natCast_nonneg _
  have hd0 : (0 : Int) ≤ (d : Int) := Int.natCast_nonneg _
  have hll2 : (ll : Int) ≤ 1256584717422 := big_num hll
  have hll3 : (0 : Int) ≤ (ll : Int) := Int.natCast_nonneg _
  have HN := Lib.hid (And.intro hqn hll)
  clear h ht hll hcap hqn
  have hf0 := hf.1
  have hf1 := hf.2
  have hcnt0 := hcnt.1
  have hcnt1 := hcnt.2
  clear hf hcnt
  go_enter Tryd.func4, Tryd.ntmps4
  go_wp2_with (first
    | (go_at_call 7; (with_reducible refine (HAL.out _ (Below.refl _ _)).mono ?_); rintro x w1 ⟨rfl, hb1⟩; have HB1 := Lib.hid hb1; clear hb1)
    | (go_at_call 9; (with_reducible refine (HVS.out _ HB1.out).mono ?_); rintro x w2 ⟨⟨n, hn, rfl⟩, hb2⟩; have HB2 : Hid (Below w.heap.size w w2) := HB1.out.trans (hb2.mono HB1.out.size); clear hb2)
    | (go_at_call 8; (with_reducible refine (HBY.out n hn w2).mono ?_); rintro x w3 ⟨⟨bq, rfl⟩, hb3⟩; have HB3 : Hid (Below w.heap.size w w3) := HB2.out.trans (((below_alloc w2 _).trans (hb3.mono (by simp))).mono HB2.out.size); clear hb3)
    | (go_at_call 7; (with_reducible refine (HAL.out _ HB3.out).mono ?_); rintro x w4 ⟨rfl, hb4⟩; have HB4 : Hid (Below w.heap.size w w4) := HB3.out.trans (hb4.mono HB3.out.size); clear hb4)
    | (at_builtin; refine append_row (base := w.heap.size) (v := .slice none 0 0) (n := 0) (xs := []) ⟨by simp, .inl ⟨rfl, rfl⟩⟩ HB3.out.size rfl _ _ rfl rfl la p lc rfl L (lst_head (HH.out.below HB3.out) p (by have := HN.out; omega)) (by have := HN.out; omega) ?_; intro v5 w5 hown5 hb5; have HO5 : Hid (w5.ownsRow w.heap.size 32 8 v5 p (flV p L)) := (by rw [Nat.zero_add, List.nil_append] at hown5; exact hown5); have HB5 : Hid (Below w.heap.size w w5) := HB3.out.trans hb5; clear hown5 hb5)
    | (at_builtin; refine append_row (base := w.heap.size) (v := v5) (n := p) (xs := flV p L) (HO5.out.alloc _) (by have := HB5.out.size; simp; omega) rfl _ _ rfl rfl _ 1 1 rfl (fun _ => lz A1 (q - p) (lc - p) (fun i => L (p + i))) (lst_one (w := w5) (lz_ok (H1.out.below HB5.out))) (by have := HN.out; omega) ?_; intro v6 w6 hown6 hb6; have HO6 := Lib.hid hown6; have HB6 : Hid (Below w.heap.size w w6) := (HB5.out.trans ((below_alloc w5 _).mono HB5.out.size)).trans hb6; clear hown6 hb6)
    | (at_builtin; refine append_row (base := w.heap.size) (v := v6) (n := p + 1) HO6.out HB6.out.size rfl _ _ rfl rfl A2 (ll - q) (lc - q) rfl (fun i => L (q + i)) (H2.out.below HB6.out) (by have := HN.out; omega) ?_; intro v7 w7 hown7 hb7; have HB7 : Hid (Below w.heap.size w w7) := HB6.out.trans hb7; obtain ⟨g7, n7, c7, M, rfl, hm7, hM⟩ := lists_row HN.out.1.1 HN.out.1.2 HN.out.2 (HH.out.below HB7.out) (H1.out.below HB7.out) hown7; have HM7 := Lib.hid (And.intro hm7 hM); clear hown7 hb7 hm7 hM))
  · go_ret
    exact ⟨rfl, HB4.out⟩
  obtain ⟨W8, hW8⟩ : ∃ W, ((w7.alloc (.cells (lz (some ⟨g7, 0, none⟩) n7 c7 M).cells.toArray 32)).alloc (.cells (lz (some ⟨w7.heap.size, 0, none⟩) 1 1 (fun _ => lz (some ⟨g7, 0, none⟩) n7 c7 M)).cells.toArray 32)) = W := ⟨_, rfl⟩
  have HB8 : Hid (Below w.heap.size w W8) := (HB7.out.trans ((below_alloc w7 _).mono HB7.out.size)).trans ((hW8 ▸ below_alloc (w7.alloc _) _ : Below (w7.alloc (.cells (lz (some ⟨g7, 0, none⟩) n7 c7 M).cells.toArray 32)).heap.size _ W8).mono (by have := HB7.out.size; simp; omega))
  have HM8 : Hid (Lst W8 (some ⟨g7, 0, none⟩) n7 c7 M) := hW8 ▸ (HM7.out.1.below (below_alloc w7 _)).below (below_alloc _ _)
  have HW8 : Hid (Lst W8 (some ⟨w7.heap.size + 1, 0, none⟩) 1 1 (fun _ => lz (some ⟨w7.heap.size, 0, none⟩) 1 1 (fun _ => lz (some ⟨g7, 0, none⟩) n7 c7 M))) := by
    have := lst_one (T := 32) (w := w7.alloc (.cells (lz (some ⟨g7, 0, none⟩) n7 c7 M).cells.toArray 32)) (lz_ok (lst_one (T := 32) (lz_ok HM7.out.1)))
    rw [hW8] at this
    exact Lib.hid (by simpa using this)
  have hV1 : listV M n7 = listV L ll := HM7.out.2
  have hV2 : listV (fun _ : Nat => lz (some ⟨w7.heap.size, 0, none⟩) 1 1 (fun _ => lz (some ⟨g7, 0, none⟩) n7 c7 M)) 1 = listV L ll := by
    rw [listV_one, lz_flat, listV_one, lz_flat, hV1]
  have HK1 := Lib.hid (HKD.out la ll lc L W8 (HH.out.below HB8.out) HB8.out)
  have HK2 := Lib.hid (fun W (hb : Below W8.heap.size W8 W) => hV1 ▸ HKD.out _ _ _ _ W (HM8.out.below hb) (HB8.out.trans (hb.mono HB8.out.size)))
  have HK3 := Lib.hid (fun W (hb : Below W8.heap.size W8 W) => hV2 ▸ HKD.out _ _ _ _ W (HW8.out.below hb) (HB8.out.trans (hb.mono HB8.out.size)))
  clear hV1 hV2 HAL HVS HBY HKD HM8 HW8 HM7 H1 H2 hA1 hA2
  have hW8' := hW8
  simp only [lz, V.cells] at hW8'
  rw [hW8']
  clear hW8 hW8'
  refine HK1.out.mono ?_
  rintro x w9 ⟨u, cs1, rfl, hp1⟩
  obtain ⟨a1, c1, rfl, hr1, hc1, hm1⟩ := kd_row hp1
  have HB9 := Lib.hid hp1.low
  have HS1 := Lib.hid hp1.sms
  have HR1 := Lib.hid hr1
  have HC1 := Lib.hid (And.intro hc1 hm1)
  clear hp1 hr1 hc1 hm1 HK1
  go_wp2_with (first
    | (go_at_call 10; (with_reducible refine (HK2.out _ HB9.out).mono ?_); rintro x w10 ⟨u, cs2, rfl, hp2⟩; obtain ⟨a2, c2, rfl, hr2, hc2, hm2⟩ := kd_row hp2; have HB10 : Hid (Below W8.heap.size W8 w10) := HB9.out.trans (hp2.low.mono HB9.out.size); have HR1b := Lib.hid (HR1.out.below hp2.low); have HQ2 := Lib.hid (same_call (c2 := c1) hr2 HR1b.out (same_rows hp2.sms HS1.out) (And.intro hc2 hm2)); clear hp2 hr2 hc2 hm2)
    | (go_at_call 11; (with_reducible refine HQ2.out.mono ?_); rintro x w11 ⟨rfl, hb11⟩; have HB11 : Hid (Below W8.heap.size W8 w11) := HB10.out.trans (hb11.mono HB10.out.size); have HR1b := Lib.hid (HR1b.out.below hb11); clear hb11 HQ2)
    | (go_at_call 10; (with_reducible refine (HK3.out _ HB11.out).mono ?_); rintro x w12 ⟨u, cs3, rfl, hp3⟩; obtain ⟨a3, c3, rfl, hr3, hc3, hm3⟩ := kd_row hp3; have HB12 : Hid (Below W8.heap.size W8 w12) := HB11.out.trans (hp3.low.mono HB11.out.size); have HQ3 := Lib.hid (same_call (c2 := c1) hr3 (HR1b.out.below hp3.low) (same_rows hp3.sms HS1.out) (And.intro hc3 hm3)); clear hp3 hr3 hc3 hm3)
    | (go_at_call 11; (with_reducible refine HQ3.out.mono ?_); rintro x w13 ⟨rfl, hb13⟩; have HB13 : Hid (Below W8.heap.size W8 w13) := HB12.out.trans (hb13.mono HB12.out.size); clear hb13))
  go_ret
  exact ⟨rfl, HB8.out.trans (HB13.out.mono HB8.out.size)⟩
end Go.Proofs.YtecmghfofcofpaaDoor
