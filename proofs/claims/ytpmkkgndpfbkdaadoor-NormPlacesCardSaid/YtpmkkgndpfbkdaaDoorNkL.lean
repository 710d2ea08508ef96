/-
  Walks: alive() of the laws of norm answers true; old memory is as it was.
  Conditions: the three tables hold what the program's text lays in them.
-/
import Derived.Test.YtpmkkgndpfbkdaaDoorNkF
import Derived.Deep.RegionHeld3
namespace Go.Proofs.YtpmkkgndpfbkdaaDoor
set_option linter.unusedVariables false
set_option linter.unusedSimpArgs false
open Go.RowKit Go.Deep Go.WideShapes
open Go.Maps hiding size

theorem itoa1 : Lib.itoa 1 = [49] := by decide +kernel
theorem itoa2 : Lib.itoa 2 = [50] := by decide +kernel
theorem itoa3 : Lib.itoa 3 = [51] := by decide +kernel
/-- The first list of alive. -/
def L5 : Nat → V := fun i => if i = 0 then nv else if i = 1 then vz 2 0 ⟨#[]⟩ else if i = 2 then vz 3 0 ⟨#[97]⟩ else if i = 3 then vz 1 5 ⟨#[]⟩ else vz 5 0 ⟨#[]⟩
/-- The second one. -/
def L3 : Nat → V := fun i => if i = 0 then hostV ⟨#[112]⟩ ⟨#[120]⟩ else if i = 1 then hostV ⟨#[113]⟩ ⟨#[120]⟩ else hostV ⟨#[114]⟩ ⟨#[121]⟩
theorem L5_list : listV L5 5 = [nv, vz 2 0 ⟨#[]⟩, vz 3 0 ⟨#[97]⟩, vz 1 5 ⟨#[]⟩, vz 5 0 ⟨#[]⟩] := rfl
theorem L3_list : listV L3 3 = [hostV ⟨#[112]⟩ ⟨#[120]⟩, hostV ⟨#[113]⟩ ⟨#[120]⟩, hostV ⟨#[114]⟩ ⟨#[121]⟩] := rfl
theorem wrapc (d : Nat) (h : d < 100) : wrap64 (d : Int) = d := by unfold wrap64; omega
theorem L5_kids : kidsM (listV L5 5) = [⟨⟨#[105, 58, 50]⟩, 9, ⟨#[]⟩, vz 3 0 ⟨#[97]⟩⟩, ⟨⟨#[105, 58, 51]⟩, 9, ⟨#[]⟩, vz 3 0 ⟨#[53]⟩⟩] := by
  have w2 : wrap64 2 = 2 := by unfold wrap64; omega
  have w3 : wrap64 3 = 3 := by unfold wrap64; omega
  have i2 : iKey 2 = ⟨#[105, 58, 50]⟩ := by unfold iKey; rw [itoa2]; rfl
  have i3 : iKey 3 = ⟨#[105, 58, 51]⟩ := by unfold iKey; rw [itoa3]; rfl
  rw [L5_list]
  simp [kidsM, runK, stepK, V.kid, nv, vz, textC, keyM, w2, w3, i2, i3, itoa5]
theorem L3_kids : kidsM (listV L3 3) = [⟨⟨#[107, 58, 120]⟩, 1, ⟨#[112]⟩, hostV ⟨#[112]⟩ ⟨#[120]⟩⟩, ⟨⟨#[105, 58, 49]⟩, 1, ⟨#[113]⟩, hostV ⟨#[113]⟩ ⟨#[120]⟩⟩, ⟨⟨#[107, 58, 121]⟩, 1, ⟨#[114]⟩, hostV ⟨#[114]⟩ ⟨#[121]⟩⟩] := by
  have w1 : wrap64 1 = 1 := by unfold wrap64; omega
  have i1 : iKey 1 = ⟨#[105, 58, 49]⟩ := by unfold iKey; rw [itoa1]; rfl
  have k1 : kKey ⟨#[120]⟩ = ⟨#[107, 58, 120]⟩ := rfl
  have k2 : kKey ⟨#[121]⟩ = ⟨#[107, 58, 121]⟩ := rfl
  rw [L3_list]
  simp [kidsM, runK, stepK, V.kid, hostV, keyM, w1, i1, k1, k2]
/-- The row of two, of three children. -/
theorem sms2 {a b : C} {cs : List C} (h : Sms [a, b] cs) : ∃ c d, cs = [c, d] ∧ C.sm a c ∧ C.sm b d := by
  match cs, h with
  | [c, d], h => exact ⟨c, d, rfl, h.1, h.2.1⟩
theorem sms3 {a b e : C} {cs : List C} (h : Sms [a, b, e] cs) : ∃ c d f, cs = [c, d, f] ∧ C.sm a c ∧ C.sm b d ∧ C.sm e f := by
  match cs, h with
  | [c, d, f], h => exact ⟨c, d, f, rfl, h.1, h.2.1, h.2.2.1⟩
/-- A value that is the same as one that is written out. -/
theorem same_own {k n : Int} {s : ByteArray} {la : Option Addr} {ll lc : Nat} {L : Nat → V} {fa : Option Addr} {fl fc : Nat} {fn : Nat → ByteArray} {F : Nat → V} {e : Int} {key : ByteArray} {hk : Bool} {t : V} (h : (V.mk k n s la ll lc L fa fl fc fn F e key hk).same t = true) :
    ∃ la' lc' L' fa' fc' fn' F', t = .mk k n s la' ll lc' L' fa' fl fc' fn' F' e key hk := by
  cases t with
  | leaf => simp [V.same] at h
  | mk k' n' s' la' ll' lc' L' fa' fl' fc' fn' F' e' key' hk' =>
    simp only [V.same, ownB, Bool.and_eq_true, decide_eq_true_eq] at h
    obtain ⟨⟨rfl, rfl, rfl, rfl, rfl, rfl⟩, rfl, rfl, -⟩ := h
    exact ⟨_, _, _, _, _, _, _, rfl⟩

/-- A list of values that was laid as one row. -/
theorem lst_row {W : World} {g n : Nat} {L : Nat → V} {T : TypeId} (h : W.heap[g]? = some (.cells (flatC 8 n (fun i => (L i).cells)).toArray T (0, 0))) (hn : n ≤ 100000) (hi : ∀ i, i < n → (L i).In W ∧ (L i).Fit ∧ (L i).Keys) : Lst W (some ⟨g, 0, none⟩) n n L := by
  refine ⟨⟨Nat.le_refl _, by unfold maxLen; omega⟩, fun i hl => ⟨⟨g, 0, rfl, fun j hj => ?_⟩, (hi i hl).1⟩, ⟨by omega, fun i hl => (hi i hl).2.1⟩, fun i hl => (hi i hl).2.2⟩
  have h8 : ∀ i, i < n → (L i).cells.length = 8 := fun i hl => in_cells (hi i hl).1
  rw [h8 i hl] at hj
  rw [Lib.cell_of_heap h, List.getElem?_toArray, Nat.zero_add, flatC_get h8 i hl j hj]
theorem vz_small (W : World) (k n : Int) (s : ByteArray) (hk : 0 ≤ k ∧ k ≤ 255) (hn : -9223372036854775808 ≤ n ∧ n ≤ 9223372036854775807) (hs : s.size ≤ maxLen) : (vz k n s).In W ∧ (vz k n s).Fit ∧ (vz k n s).Keys :=
  ⟨vz_in W hk hn hs, ⟨by decide, by decide, fun i hi => absurd hi (Nat.not_lt_zero _), fun i hi => absurd hi (Nat.not_lt_zero _)⟩, ⟨by decide, fun i hi => absurd hi (Nat.not_lt_zero _)⟩⟩
theorem host_small (W : World) (tag key : ByteArray) (hs : tag.size ≤ maxLen) (hk : key.size ≤ 1000) : (hostV tag key).In W ∧ (hostV tag key).Fit ∧ (hostV tag key).Keys :=
  ⟨⟨by decide, by decide, hs, by decide, by unfold maxLen; omega, ⟨Nat.le_refl _, by decide⟩, ⟨Nat.le_refl _, by decide⟩, fun i hi => absurd hi (Nat.not_lt_zero _), fun i hi => absurd hi (Nat.not_lt_zero _)⟩, ⟨by decide, by decide, fun i hi => absurd hi (Nat.not_lt_zero _), fun i hi => absurd hi (Nat.not_lt_zero _)⟩, ⟨by omega, fun i hi => absurd hi (Nat.not_lt_zero _)⟩⟩
theorem five_lst (w W : World) (hb : Below (w.alloc (.cells #[.int .u8 0, .int .i64 0, .string ⟨#[]⟩, .slice none 0 0, .slice none 0 0, .int .u8 0, .string ⟨#[]⟩, .bool false, .int .u8 2, .int .i64 0, .string ⟨#[]⟩, .slice none 0 0, .slice none 0 0, .int .u8 0, .string ⟨#[]⟩, .bool false, .int .u8 3, .int .i64 0, .string ⟨#[97]⟩, .slice none 0 0, .slice none 0 0, .int .u8 0, .string ⟨#[]⟩, .bool false, .int .u8 1, .int .i64 5, .string ⟨#[]⟩, .slice none 0 0, .slice none 0 0, .int .u8 0, .string ⟨#[]⟩, .bool false, .int .u8 5, .int .i64 0, .string ⟨#[]⟩, .slice none 0 0, .slice none 0 0, .int .u8 0, .string ⟨#[]⟩, .bool false] 30)).heap.size (w.alloc (.cells #[.int .u8 0, .int .i64 0, .string ⟨#[]⟩, .slice none 0 0, .slice none 0 0, .int .u8 0, .string ⟨#[]⟩, .bool false, .int .u8 2, .int .i64 0, .string ⟨#[]⟩, .slice none 0 0, .slice none 0 0, .int .u8 0, .string ⟨#[]⟩, .bool false, .int .u8 3, .int .i64 0, .string ⟨#[97]⟩, .slice none 0 0, .slice none 0 0, .int .u8 0, .string ⟨#[]⟩, .bool false, .int .u8 1, .int .i64 5, .string ⟨#[]⟩, .slice none 0 0, .slice none 0 0, .int .u8 0, .string ⟨#[]⟩, .bool false, .int .u8 5, .int .i64 0, .string ⟨#[]⟩, .slice none 0 0, .slice none 0 0, .int .u8 0, .string ⟨#[]⟩, .bool false] 30)) W) : Lst W (some ⟨w.heap.size, 0, none⟩) 5 5 L5 := by
  refine lst_row (T := 30) ((hb.block _ (by simp)).trans (Go.Deep.blk_alloc_new w _)) (by decide) fun i hi => ?_
  match i, hi with
  | 0, _ => exact vz_small W 0 0 _ (by decide) (by decide) (by decide)
  | 1, _ => exact vz_small W 2 0 _ (by decide) (by decide) (by decide)
  | 2, _ => exact vz_small W 3 0 _ (by decide) (by decide) (by decide)
  | 3, _ => exact vz_small W 1 5 _ (by decide) (by decide) (by decide)
  | 4, _ => exact vz_small W 5 0 _ (by decide) (by decide) (by decide)
theorem three_lst (w W : World) (hb : Below (w.alloc (.cells #[.int .u8 6, .int .i64 0, .string ⟨#[112]⟩, .slice none 0 0, .slice none 0 0, .int .u8 1, .string ⟨#[120]⟩, .bool true, .int .u8 6, .int .i64 0, .string ⟨#[113]⟩, .slice none 0 0, .slice none 0 0, .int .u8 1, .string ⟨#[120]⟩, .bool true, .int .u8 6, .int .i64 0, .string ⟨#[114]⟩, .slice none 0 0, .slice none 0 0, .int .u8 1, .string ⟨#[121]⟩, .bool true] 30)).heap.size (w.alloc (.cells #[.int .u8 6, .int .i64 0, .string ⟨#[112]⟩, .slice none 0 0, .slice none 0 0, .int .u8 1, .string ⟨#[120]⟩, .bool true, .int .u8 6, .int .i64 0, .string ⟨#[113]⟩, .slice none 0 0, .slice none 0 0, .int .u8 1, .string ⟨#[120]⟩, .bool true, .int .u8 6, .int .i64 0, .string ⟨#[114]⟩, .slice none 0 0, .slice none 0 0, .int .u8 1, .string ⟨#[121]⟩, .bool true] 30)) W) : Lst W (some ⟨w.heap.size, 0, none⟩) 3 3 L3 := by
  refine lst_row (T := 30) ((hb.block _ (by simp)).trans (Go.Deep.blk_alloc_new w _)) (by decide) fun i hi => ?_
  match i, hi with
  | 0, _ => exact host_small W _ _ (by decide) (by decide)
  | 1, _ => exact host_small W _ _ (by decide) (by decide)
  | 2, _ => exact host_small W _ _ (by decide) (by decide)

/-- A row of the call's own, opened. -/
theorem row_open {W : World} {base : Nat} {T : TypeId} {size n : Nat} {u : Value} {xs : List Value} (h : W.ownsRow base T size u n xs) (hn : 0 < n) : ∃ g cap, u = .slice (some ⟨g, 0, none⟩) n cap ∧ At W g 0 xs ∧ n ≤ cap ∧ cap ≤ maxLen ∧ base ≤ g := by
  have h0 := h
  rcases h.2 with ⟨_, h1⟩ | ⟨g, cap, cur, rfl, hbg, hg, hnc, hcm, hcs, htk⟩
  · omega
  · refine ⟨g, cap, rfl, fun j hj => ?_, hnc, hcm, hbg⟩
    have := h0.cells (g := g) rfl j _ (List.getElem?_eq_getElem hj)
    rw [add_plain] at this
    rw [this]
    exact (List.getElem?_eq_getElem hj).symm
theorem at_k {w : World} {b : Nat} {cs : List Value} (h : At w b 0 cs) (j : Nat) (hj : j < cs.length) : w.cell? ⟨b, j, none⟩ = cs[j]? := by
  have := h j hj
  rwa [Nat.zero_add] at this

set_option maxRecDepth 100000 in
set_option maxHeartbeats 8000000 in
theorem alive_any (w : World) (ht : Tabs w) : Calls Tryd.prog 5 #[] w fun x w' => x = .returned (.bool true) ∧ Below w.heap.size w w' := by
  have HK5 := Lib.hid (kids_any _ 5 5 L5 _ (five_lst w _ (Below.refl _ _)) (ht.below (below_alloc w _)))
  have HK3 := Lib.hid (fun W (hb : Below w.heap.size w W) => kids_any _ 3 3 L3 _ (three_lst W _ (Below.refl _ _)) ((ht.below hb).below (below_alloc W _)))
  have HH := Lib.hid (fun tag key W (hk : key.toList.isEmpty = false) => host_any tag key W hk)
  have HAK := Lib.hid (fun c d W (hc : c.val.In W) (hd : d.val.In W) => alike_any c d W hc hd)
  simp only [hostV, V.agg, V.cells] at HH
  clear ht
  go_enter Tryd.func5, Tryd.ntmps5
  go_wp2_with (first
    | (go_at_call 8; (with_reducible refine HK5.out.mono ?_); rintro x w2 ⟨u, cs, rfl, hp⟩; have HP := Lib.hid hp; clear hp))
  have hl2 : Below w.heap.size w w2 := (below_alloc w _).trans (HP.out.low.mono (by simp))
  obtain ⟨c1, c2, rfl, hs1, hs2⟩ := sms2 (L5_kids ▸ HP.out.sms)
  obtain ⟨key1, kind1, name1, val1⟩ := c1
  obtain ⟨key2, kind2, name2, val2⟩ := c2
  obtain ⟨rfl, rfl, rfl, hv1⟩ := hs1
  obtain ⟨rfl, rfl, rfl, hv2⟩ := hs2
  obtain ⟨la1, lc1, LL1, fa1, fc1, fn1, FF1, rfl⟩ := same_own hv1
  obtain ⟨la2, lc2, LL2, fa2, fc2, fn2, FF2, rfl⟩ := same_own hv2
  have hi1 := HP.out.vals _ (List.mem_cons_self ..)
  have hi2 := HP.out.vals _ (List.mem_cons_of_mem _ (List.mem_cons_self ..))
  obtain ⟨ga, ca, rfl, hrow, hca, hcm, -⟩ := row_open HP.out.row (by simp)
  have HI := Lib.hid (And.intro hi1 (And.intro hi2 hrow))
  have HL2 := Lib.hid hl2
  simp only [List.length_cons, List.length_nil] at hca
  clear HP HK5 hi1 hi2 hrow hl2 hv1 hv2
  refine (HH.out _ _ _ (by decide +kernel)).mono ?_
  rintro x w3 ⟨rfl, hb3⟩
  go_wp2_with fail
  refine (HH.out _ _ _ (by decide +kernel)).mono ?_
  rintro x w4 ⟨rfl, hb4⟩
  go_wp2_with fail
  refine (HH.out _ _ _ (by decide +kernel)).mono ?_
  rintro x w5 ⟨rfl, hb5⟩
  have HB5 : Hid (Below w2.heap.size w2 w5) := (hb3.trans (hb4.mono hb3.size)).trans (hb5.mono (Nat.le_trans hb3.size hb4.size))
  clear hb3 hb4 hb5
  have HL5 : Hid (Below w.heap.size w w5) := HL2.out.trans (HB5.out.mono HL2.out.size)
  go_wp2_with fail
  refine (HK3.out w5 HL5.out).mono ?_
  rintro x w6 ⟨u, cs, rfl, hp⟩
  have HP := Lib.hid hp
  clear hp
  obtain ⟨c3, c4, c5, rfl, hs3, hs4, hs5⟩ := sms3 (L3_kids ▸ HP.out.sms)
  obtain ⟨key3, kind3, name3, val3⟩ := c3
  obtain ⟨key4, kind4, name4, val4⟩ := c4
  obtain ⟨key5, kind5, name5, val5⟩ := c5
  obtain ⟨rfl, rfl, rfl, hv3⟩ := hs3
  obtain ⟨rfl, rfl, rfl, hv4⟩ := hs4
  obtain ⟨rfl, rfl, rfl, hv5⟩ := hs5
  obtain ⟨la3, lc3, LL3, fa3, fc3, fn3, FF3, rfl⟩ := same_own hv3
  obtain ⟨la4, lc4, LL4, fa4, fc4, fn4, FF4, rfl⟩ := same_own hv4
  obtain ⟨la5, lc5, LL5, fa5, fc5, fn5, FF5, rfl⟩ := same_own hv5
  have hi3 := HP.out.vals _ (List.mem_cons_self ..)
  have hi4 := HP.out.vals _ (List.mem_cons_of_mem _ (List.mem_cons_self ..))
  obtain ⟨gb, cb, rfl, hrow, hcb, hcm', -⟩ := row_open HP.out.row (by simp)
  have HB6 : Hid (Below w5.heap.size w5 w6) := (below_alloc w5 _).trans (HP.out.low.mono (by simp))
  have HJ := Lib.hid (And.intro hi3 (And.intro hi4 hrow))
  simp only [List.length_cons, List.length_nil] at hcb
  clear HP HK3 hi3 hi4 hrow hv3 hv4 hv5
  have KS : Hid (∀ W, Below w6.heap.size w6 W → (fun W => (Below w6.heap.size w6 W) ∧ W.cell? ⟨ga, 0, none⟩ = some (.string ⟨#[105, 58, 50]⟩) ∧ W.cell? ⟨ga, 1, none⟩ = some (.int .u8 9) ∧ W.cell? ⟨ga, 2, none⟩ = some (.string ⟨#[]⟩) ∧ W.cell? ⟨ga, 3, none⟩ = some (.int .u8 3) ∧ W.cell? ⟨ga, 4, none⟩ = some (.int .i64 0) ∧ W.cell? ⟨ga, 5, none⟩ = some (.string ⟨#[97]⟩) ∧ W.cell? ⟨ga, 6, none⟩ = some (.slice la1 0 lc1) ∧ W.cell? ⟨ga, 7, none⟩ = some (.slice fa1 0 fc1) ∧ W.cell? ⟨ga, 8, none⟩ = some (.int .u8 0) ∧ W.cell? ⟨ga, 9, none⟩ = some (.string ⟨#[]⟩) ∧ W.cell? ⟨ga, 10, none⟩ = some (.bool false) ∧ W.cell? ⟨ga, 11, none⟩ = some (.string ⟨#[105, 58, 51]⟩) ∧ W.cell? ⟨ga, 12, none⟩ = some (.int .u8 9) ∧ W.cell? ⟨ga, 13, none⟩ = some (.string ⟨#[]⟩) ∧ W.cell? ⟨ga, 14, none⟩ = some (.int .u8 3) ∧ W.cell? ⟨ga, 15, none⟩ = some (.int .i64 0) ∧ W.cell? ⟨ga, 16, none⟩ = some (.string ⟨#[53]⟩) ∧ W.cell? ⟨ga, 17, none⟩ = some (.slice la2 0 lc2) ∧ W.cell? ⟨ga, 18, none⟩ = some (.slice fa2 0 fc2) ∧ W.cell? ⟨ga, 19, none⟩ = some (.int .u8 0) ∧ W.cell? ⟨ga, 20, none⟩ = some (.string ⟨#[]⟩) ∧ W.cell? ⟨ga, 21, none⟩ = some (.bool false) ∧ W.cell? ⟨gb, 0, none⟩ = some (.string ⟨#[107, 58, 120]⟩) ∧ W.cell? ⟨gb, 1, none⟩ = some (.int .u8 1) ∧ W.cell? ⟨gb, 2, none⟩ = some (.string ⟨#[112]⟩) ∧ W.cell? ⟨gb, 3, none⟩ = some (.int .u8 6) ∧ W.cell? ⟨gb, 4, none⟩ = some (.int .i64 0) ∧ W.cell? ⟨gb, 5, none⟩ = some (.string ⟨#[112]⟩) ∧ W.cell? ⟨gb, 6, none⟩ = some (.slice la3 0 lc3) ∧ W.cell? ⟨gb, 7, none⟩ = some (.slice fa3 0 fc3) ∧ W.cell? ⟨gb, 8, none⟩ = some (.int .u8 1) ∧ W.cell? ⟨gb, 9, none⟩ = some (.string ⟨#[120]⟩) ∧ W.cell? ⟨gb, 10, none⟩ = some (.bool true) ∧ W.cell? ⟨gb, 11, none⟩ = some (.string ⟨#[105, 58, 49]⟩) ∧ W.cell? ⟨gb, 12, none⟩ = some (.int .u8 1) ∧ W.cell? ⟨gb, 13, none⟩ = some (.string ⟨#[113]⟩) ∧ W.cell? ⟨gb, 14, none⟩ = some (.int .u8 6) ∧ W.cell? ⟨gb, 15, none⟩ = some (.int .i64 0) ∧ W.cell? ⟨gb, 16, none⟩ = some (.string ⟨#[113]⟩) ∧ W.cell? ⟨gb, 17, none⟩ = some (.slice la4 0 lc4) ∧ W.cell? ⟨gb, 18, none⟩ = some (.slice fa4 0 fc4) ∧ W.cell? ⟨gb, 19, none⟩ = some (.int .u8 1) ∧ W.cell? ⟨gb, 20, none⟩ = some (.string ⟨#[120]⟩) ∧ W.cell? ⟨gb, 21, none⟩ = some (.bool true) ∧ W.cell? ⟨gb, 22, none⟩ = some (.string ⟨#[107, 58, 121]⟩) ∧ W.cell? ⟨gb, 23, none⟩ = some (.int .u8 1) ∧ W.cell? ⟨gb, 24, none⟩ = some (.string ⟨#[114]⟩) ∧ W.cell? ⟨gb, 25, none⟩ = some (.int .u8 6) ∧ W.cell? ⟨gb, 26, none⟩ = some (.int .i64 0) ∧ W.cell? ⟨gb, 27, none⟩ = some (.string ⟨#[114]⟩) ∧ W.cell? ⟨gb, 28, none⟩ = some (.slice la5 0 lc5) ∧ W.cell? ⟨gb, 29, none⟩ = some (.slice fa5 0 fc5) ∧ W.cell? ⟨gb, 30, none⟩ = some (.int .u8 1) ∧ W.cell? ⟨gb, 31, none⟩ = some (.string ⟨#[121]⟩) ∧ W.cell? ⟨gb, 32, none⟩ = some (.bool true)) W) := fun W hb => by
    have hb2 : Below w2.heap.size w2 W := (HB5.out.trans (HB6.out.mono HB5.out.size)).trans (hb.mono (Nat.le_trans HB5.out.size HB6.out.size))
    have ha := HI.out.2.2.below hb2
    have hbb := HJ.out.2.2.below hb
    exact ⟨hb, (at_k ha 0 (by simp [C.cells, V.cells])).trans rfl, (at_k ha 1 (by simp [C.cells, V.cells])).trans rfl, (at_k ha 2 (by simp [C.cells, V.cells])).trans rfl, (at_k ha 3 (by simp [C.cells, V.cells])).trans rfl, (at_k ha 4 (by simp [C.cells, V.cells])).trans rfl, (at_k ha 5 (by simp [C.cells, V.cells])).trans rfl, (at_k ha 6 (by simp [C.cells, V.cells])).trans rfl, (at_k ha 7 (by simp [C.cells, V.cells])).trans rfl, (at_k ha 8 (by simp [C.cells, V.cells])).trans rfl, (at_k ha 9 (by simp [C.cells, V.cells])).trans rfl, (at_k ha 10 (by simp [C.cells, V.cells])).trans rfl, (at_k ha 11 (by simp [C.cells, V.cells])).trans rfl, (at_k ha 12 (by simp [C.cells, V.cells])).trans rfl, (at_k ha 13 (by simp [C.cells, V.cells])).trans rfl, (at_k ha 14 (by simp [C.cells, V.cells])).trans rfl, (at_k ha 15 (by simp [C.cells, V.cells])).trans rfl, (at_k ha 16 (by simp [C.cells, V.cells])).trans rfl, (at_k ha 17 (by simp [C.cells, V.cells])).trans rfl, (at_k ha 18 (by simp [C.cells, V.cells])).trans rfl, (at_k ha 19 (by simp [C.cells, V.cells])).trans rfl, (at_k ha 20 (by simp [C.cells, V.cells])).trans rfl, (at_k ha 21 (by simp [C.cells, V.cells])).trans rfl, (at_k hbb 0 (by simp [C.cells, V.cells])).trans rfl, (at_k hbb 1 (by simp [C.cells, V.cells])).trans rfl, (at_k hbb 2 (by simp [C.cells, V.cells])).trans rfl, (at_k hbb 3 (by simp [C.cells, V.cells])).trans rfl, (at_k hbb 4 (by simp [C.cells, V.cells])).trans rfl, (at_k hbb 5 (by simp [C.cells, V.cells])).trans rfl, (at_k hbb 6 (by simp [C.cells, V.cells])).trans rfl, (at_k hbb 7 (by simp [C.cells, V.cells])).trans rfl, (at_k hbb 8 (by simp [C.cells, V.cells])).trans rfl, (at_k hbb 9 (by simp [C.cells, V.cells])).trans rfl, (at_k hbb 10 (by simp [C.cells, V.cells])).trans rfl, (at_k hbb 11 (by simp [C.cells, V.cells])).trans rfl, (at_k hbb 12 (by simp [C.cells, V.cells])).trans rfl, (at_k hbb 13 (by simp [C.cells, V.cells])).trans rfl, (at_k hbb 14 (by simp [C.cells, V.cells])).trans rfl, (at_k hbb 15 (by simp [C.cells, V.cells])).trans rfl, (at_k hbb 16 (by simp [C.cells, V.cells])).trans rfl, (at_k hbb 17 (by simp [C.cells, V.cells])).trans rfl, (at_k hbb 18 (by simp [C.cells, V.cells])).trans rfl, (at_k hbb 19 (by simp [C.cells, V.cells])).trans rfl, (at_k hbb 20 (by simp [C.cells, V.cells])).trans rfl, (at_k hbb 21 (by simp [C.cells, V.cells])).trans rfl, (at_k hbb 22 (by simp [C.cells, V.cells])).trans rfl, (at_k hbb 23 (by simp [C.cells, V.cells])).trans rfl, (at_k hbb 24 (by simp [C.cells, V.cells])).trans rfl, (at_k hbb 25 (by simp [C.cells, V.cells])).trans rfl, (at_k hbb 26 (by simp [C.cells, V.cells])).trans rfl, (at_k hbb 27 (by simp [C.cells, V.cells])).trans rfl, (at_k hbb 28 (by simp [C.cells, V.cells])).trans rfl, (at_k hbb 29 (by simp [C.cells, V.cells])).trans rfl, (at_k hbb 30 (by simp [C.cells, V.cells])).trans rfl, (at_k hbb 31 (by simp [C.cells, V.cells])).trans rfl, (at_k hbb 32 (by simp [C.cells, V.cells])).trans rfl⟩
  have HA1 : Hid (∀ W, Below w6.heap.size w6 W → Calls Tryd.prog 12 #[.agg #[.string ⟨#[105, 58, 50]⟩, .int .u8 9, .string ⟨#[]⟩, .int .u8 3, .int .i64 0, .string ⟨#[97]⟩, .slice la1 0 lc1, .slice fa1 0 fc1, .int .u8 0, .string ⟨#[]⟩, .bool false], .agg #[.string ⟨#[105, 58, 51]⟩, .int .u8 9, .string ⟨#[]⟩, .int .u8 3, .int .i64 0, .string ⟨#[53]⟩, .slice la2 0 lc2, .slice fa2 0 fc2, .int .u8 0, .string ⟨#[]⟩, .bool false]] W fun x w' => x = .returned (.bool true) ∧ Below W.heap.size W w') := fun W hb => by
    have hb2 : Below w2.heap.size w2 W := (HB5.out.trans (HB6.out.mono HB5.out.size)).trans (hb.mono (Nat.le_trans HB5.out.size HB6.out.size))
    have := HAK.out (C.mk ⟨#[105, 58, 50]⟩ 9 ⟨#[]⟩ (V.mk 3 0 ⟨#[97]⟩ la1 0 lc1 LL1 fa1 0 fc1 fn1 FF1 0 ⟨#[]⟩ false)) (C.mk ⟨#[105, 58, 51]⟩ 9 ⟨#[]⟩ (V.mk 3 0 ⟨#[53]⟩ la2 0 lc2 LL2 fa2 0 fc2 fn2 FF2 0 ⟨#[]⟩ false)) W (HI.out.1.below hb2) (HI.out.2.1.below hb2)
    rwa [show C.alike (C.mk ⟨#[105, 58, 50]⟩ 9 ⟨#[]⟩ (V.mk 3 0 ⟨#[97]⟩ la1 0 lc1 LL1 fa1 0 fc1 fn1 FF1 0 ⟨#[]⟩ false)) (C.mk ⟨#[105, 58, 51]⟩ 9 ⟨#[]⟩ (V.mk 3 0 ⟨#[53]⟩ la2 0 lc2 LL2 fa2 0 fc2 fn2 FF2 0 ⟨#[]⟩ false)) = true from rfl] at this
  have HA2 : Hid (∀ W, Below w6.heap.size w6 W → Calls Tryd.prog 12 #[.agg #[.string ⟨#[107, 58, 120]⟩, .int .u8 1, .string ⟨#[112]⟩, .int .u8 6, .int .i64 0, .string ⟨#[112]⟩, .slice la3 0 lc3, .slice fa3 0 fc3, .int .u8 1, .string ⟨#[120]⟩, .bool true], .agg #[.string ⟨#[105, 58, 49]⟩, .int .u8 1, .string ⟨#[113]⟩, .int .u8 6, .int .i64 0, .string ⟨#[113]⟩, .slice la4 0 lc4, .slice fa4 0 fc4, .int .u8 1, .string ⟨#[120]⟩, .bool true]] W fun x w' => x = .returned (.bool false) ∧ Below W.heap.size W w') := fun W hb => by
    have := HAK.out (C.mk ⟨#[107, 58, 120]⟩ 1 ⟨#[112]⟩ (V.mk 6 0 ⟨#[112]⟩ la3 0 lc3 LL3 fa3 0 fc3 fn3 FF3 1 ⟨#[120]⟩ true)) (C.mk ⟨#[105, 58, 49]⟩ 1 ⟨#[113]⟩ (V.mk 6 0 ⟨#[113]⟩ la4 0 lc4 LL4 fa4 0 fc4 fn4 FF4 1 ⟨#[120]⟩ true)) W (HJ.out.1.below hb) (HJ.out.2.1.below hb)
    rwa [show C.alike (C.mk ⟨#[107, 58, 120]⟩ 1 ⟨#[112]⟩ (V.mk 6 0 ⟨#[112]⟩ la3 0 lc3 LL3 fa3 0 fc3 fn3 FF3 1 ⟨#[120]⟩ true)) (C.mk ⟨#[105, 58, 49]⟩ 1 ⟨#[113]⟩ (V.mk 6 0 ⟨#[113]⟩ la4 0 lc4 LL4 fa4 0 fc4 fn4 FF4 1 ⟨#[120]⟩ true)) = false from by simp [C.alike]] at this
  clear HAK
  have HL6 : Hid (Below w.heap.size w w6) := HL5.out.trans (HB6.out.mono HL5.out.size)
  go_wp2_with fail
  simp only [List.append_eq, List.cons_append, List.nil_append]
  have hS0 := KS.out _ (Below.refl _ _)
  go_region_held3 (fun W => (Below w6.heap.size w6 W) ∧ W.cell? ⟨ga, 0, none⟩ = some (.string ⟨#[105, 58, 50]⟩) ∧ W.cell? ⟨ga, 1, none⟩ = some (.int .u8 9) ∧ W.cell? ⟨ga, 2, none⟩ = some (.string ⟨#[]⟩) ∧ W.cell? ⟨ga, 3, none⟩ = some (.int .u8 3) ∧ W.cell? ⟨ga, 4, none⟩ = some (.int .i64 0) ∧ W.cell? ⟨ga, 5, none⟩ = some (.string ⟨#[97]⟩) ∧ W.cell? ⟨ga, 6, none⟩ = some (.slice la1 0 lc1) ∧ W.cell? ⟨ga, 7, none⟩ = some (.slice fa1 0 fc1) ∧ W.cell? ⟨ga, 8, none⟩ = some (.int .u8 0) ∧ W.cell? ⟨ga, 9, none⟩ = some (.string ⟨#[]⟩) ∧ W.cell? ⟨ga, 10, none⟩ = some (.bool false) ∧ W.cell? ⟨ga, 11, none⟩ = some (.string ⟨#[105, 58, 51]⟩) ∧ W.cell? ⟨ga, 12, none⟩ = some (.int .u8 9) ∧ W.cell? ⟨ga, 13, none⟩ = some (.string ⟨#[]⟩) ∧ W.cell? ⟨ga, 14, none⟩ = some (.int .u8 3) ∧ W.cell? ⟨ga, 15, none⟩ = some (.int .i64 0) ∧ W.cell? ⟨ga, 16, none⟩ = some (.string ⟨#[53]⟩) ∧ W.cell? ⟨ga, 17, none⟩ = some (.slice la2 0 lc2) ∧ W.cell? ⟨ga, 18, none⟩ = some (.slice fa2 0 fc2) ∧ W.cell? ⟨ga, 19, none⟩ = some (.int .u8 0) ∧ W.cell? ⟨ga, 20, none⟩ = some (.string ⟨#[]⟩) ∧ W.cell? ⟨ga, 21, none⟩ = some (.bool false) ∧ W.cell? ⟨gb, 0, none⟩ = some (.string ⟨#[107, 58, 120]⟩) ∧ W.cell? ⟨gb, 1, none⟩ = some (.int .u8 1) ∧ W.cell? ⟨gb, 2, none⟩ = some (.string ⟨#[112]⟩) ∧ W.cell? ⟨gb, 3, none⟩ = some (.int .u8 6) ∧ W.cell? ⟨gb, 4, none⟩ = some (.int .i64 0) ∧ W.cell? ⟨gb, 5, none⟩ = some (.string ⟨#[112]⟩) ∧ W.cell? ⟨gb, 6, none⟩ = some (.slice la3 0 lc3) ∧ W.cell? ⟨gb, 7, none⟩ = some (.slice fa3 0 fc3) ∧ W.cell? ⟨gb, 8, none⟩ = some (.int .u8 1) ∧ W.cell? ⟨gb, 9, none⟩ = some (.string ⟨#[120]⟩) ∧ W.cell? ⟨gb, 10, none⟩ = some (.bool true) ∧ W.cell? ⟨gb, 11, none⟩ = some (.string ⟨#[105, 58, 49]⟩) ∧ W.cell? ⟨gb, 12, none⟩ = some (.int .u8 1) ∧ W.cell? ⟨gb, 13, none⟩ = some (.string ⟨#[113]⟩) ∧ W.cell? ⟨gb, 14, none⟩ = some (.int .u8 6) ∧ W.cell? ⟨gb, 15, none⟩ = some (.int .i64 0) ∧ W.cell? ⟨gb, 16, none⟩ = some (.string ⟨#[113]⟩) ∧ W.cell? ⟨gb, 17, none⟩ = some (.slice la4 0 lc4) ∧ W.cell? ⟨gb, 18, none⟩ = some (.slice fa4 0 fc4) ∧ W.cell? ⟨gb, 19, none⟩ = some (.int .u8 1) ∧ W.cell? ⟨gb, 20, none⟩ = some (.string ⟨#[120]⟩) ∧ W.cell? ⟨gb, 21, none⟩ = some (.bool true) ∧ W.cell? ⟨gb, 22, none⟩ = some (.string ⟨#[107, 58, 121]⟩) ∧ W.cell? ⟨gb, 23, none⟩ = some (.int .u8 1) ∧ W.cell? ⟨gb, 24, none⟩ = some (.string ⟨#[114]⟩) ∧ W.cell? ⟨gb, 25, none⟩ = some (.int .u8 6) ∧ W.cell? ⟨gb, 26, none⟩ = some (.int .i64 0) ∧ W.cell? ⟨gb, 27, none⟩ = some (.string ⟨#[114]⟩) ∧ W.cell? ⟨gb, 28, none⟩ = some (.slice la5 0 lc5) ∧ W.cell? ⟨gb, 29, none⟩ = some (.slice fa5 0 fc5) ∧ W.cell? ⟨gb, 30, none⟩ = some (.int .u8 1) ∧ W.cell? ⟨gb, 31, none⟩ = some (.string ⟨#[121]⟩) ∧ W.cell? ⟨gb, 32, none⟩ = some (.bool true))
    (first | exact KS.out _ ((Below.refl _ _).drew) | exact KS.out _ (Below.trans (And.left (by assumption)) (Below.mono (by assumption) (Below.size (And.left (by assumption))))))
    (first
      | (go_at_call_of 12 la1; refine (HA1.out _ ?_).mono ?_; (go_split_ands; assumption); rintro x w7 ⟨rfl, hb7⟩)
      | (go_at_call_of 12 la3; refine (HA2.out _ ?_).mono ?_; (go_split_ands; assumption); rintro x w7 ⟨rfl, hb7⟩))
  go_wp2_with fail
  go_ret
  exact ⟨rfl, HL6.out.trans (Below.mono (And.left (by assumption)) HL6.out.size)⟩
end Go.Proofs.YtpmkkgndpfbkdaaDoor
