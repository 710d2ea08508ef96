/-
  Walks: what the laws of layer 9 put rows together with: has, row, without, step.
  Conditions: the rows lie in memory, 1000 numbers at most.
-/
import Derived.Test.YtglnelkimagihaaPlB
namespace Go.Proofs.Ytglnelkimagihaa
set_option linter.unusedVariables false
set_option linter.unusedSimpArgs false
open Go.RowKit Go.Deep Go.WideShapes
open Go.Maps hiding size

set_option maxHeartbeats 1000000 in
theorem has_any (a : Option Addr) (L : List Int) (cap : Nat) (x : Int) (w : World) (h : RL w a L) (hn : L.length ≤ 2000000) :
    Calls Try.prog 19 #[.slice a L.length cap, .int .i64 x] w fun e w' => e = .returned (.bool (decide (x ∈ L))) ∧ w = w' := by
  have HK := Lib.hid h
  have R1 : Hid (∀ j, j < L.length → Pl.nth L j = x → Ending.returned (.bool true) = .returned (.bool (decide (x ∈ L)))) := Lib.hid (fun j hj e => by rw [decide_eq_true (e ▸ Pl.nth_mem hj)])
  have R0 : Hid ((∀ j, j < L.length → Pl.nth L j ≠ x) → Ending.returned (.bool false) = .returned (.bool (decide (x ∈ L)))) := Lib.hid (fun q => by rw [decide_eq_false (fun hm => by obtain ⟨j, hj, e⟩ := Pl.mem_nth hm; exact q j hj e)])
  clear h
  unfold RL at HK
  generalize decide (x ∈ L) = y at R1 R0 ⊢
  obtain ⟨n, hnE⟩ : ∃ n, L.length = n := ⟨_, rfl⟩
  rw [hnE] at HK R1 R0 hn ⊢
  clear hnE
  go_enter Try.func19, Try.ntmps19
  go_wp2_with fail
  go_loopw [5] (fun i wr => ∃ j : Nat, j ≤ n ∧ i = .int .i64 j ∧ (∀ q, q < j → Pl.nth L q ≠ x) ∧ w = wr) (fun i _ => n - (intOf i).toNat)
  case atStart => exact ⟨0, Nat.zero_le _, rfl, fun q hq => absurd hq (Nat.not_lt_zero _), rfl⟩
  case round =>
    obtain ⟨j, hj, rfl, hne, rfl⟩ := hrel
    have HNE := Lib.hid hne
    clear hne
    by_cases hlt : j < n
    · have hj0 : (0 : Int) ≤ (j : Int) := by omega
      have hj1 : (j : Int) < (n : Int) := by omega
      obtain ⟨b, o, rfl, hc⟩ := HK.out j hlt
      by_cases e : Pl.nth L j = x
      · have HR := Lib.hid (R1.out j hlt e)
        rw [e] at hc
        clear e
        go_wp2_with fail
        go_ret
        exact ⟨HR.out, rfl⟩
      · have HN : Hid (∀ q, q < j + 1 → Pl.nth L q ≠ x) := Lib.hid (fun q hq => by
          rcases Nat.lt_succ_iff_lt_or_eq.1 hq with h | rfl
          · exact HNE.out q h
          · exact e)
        generalize Pl.nth L j = k at hc e
        have hbn : (k == x) = false := by simp [e]
        clear e
        go_wp2_with fail
        go_roundw
        case rel => exact ⟨j + 1, by omega, by go_num, HN.out, trivial⟩
        case measure => simp [intOf]; omega
    · obtain rfl : j = n := by omega
      have HR := Lib.hid (R0.out HNE.out)
      go_wp2_with fail
      go_ret
      exact ⟨HR.out, rfl⟩

/-- The numbers of the first j that stand in another row. -/
def woT (l m : List Int) (j : Nat) : List Int := (l.take j).filter (fun x => decide (x ∈ m))
theorem woT_succ {l m : List Int} {j : Nat} (h : j < l.length) : woT l m (j + 1) = if Pl.nth l j ∈ m then woT l m j ++ [Pl.nth l j] else woT l m j := by
  unfold woT
  rw [Pl.take_snoc h, List.filter_append]
  split
  · rename_i q; simp [q]
  · rename_i q; simp [q]
theorem woT_len (l m : List Int) (j : Nat) : (woT l m j).length ≤ j := Nat.le_trans (List.length_filter_le _ _) (List.length_take_le _ _)
theorem woT_all (l m : List Int) : woT l m l.length = Pl.wo l m := by unfold woT Pl.wo; rw [List.take_length]

set_option maxRecDepth 100000 in
set_option maxHeartbeats 2000000 in
theorem without_any (a : Option Addr) (L : List Int) (cap : Nat) (a' : Option Addr) (M : List Int) (cap' : Nat) (w : World) (h : RL w a L) (hn : L.length ≤ 1000) (h' : RL w a' M) (hn' : M.length ≤ 2000000) :
    Calls Try.prog 16 #[.slice a L.length cap, .slice a' M.length cap'] w fun e w' => ∃ v, e = .returned v ∧ OR w' w.heap.size v (Pl.wo L M) ∧ Below w.heap.size w w' := by
  have HK := Lib.hid (fun W (hb : Below w.heap.size w W) => h.below hb)
  have HH := Lib.hid (fun x W (hb : Below w.heap.size w W) => has_any a' M cap' x W (h'.below hb) hn')
  have HT := Lib.hid (fun j (hj : j < L.length) => woT_succ (m := M) hj)
  have HA := Lib.hid (woT_all L M)
  have HL := Lib.hid (fun j => woT_len L M j)
  clear h h'
  unfold RL at HK
  obtain ⟨n, hnE⟩ : ∃ n, L.length = n := ⟨_, rfl⟩
  rw [hnE] at HK HT HA hn ⊢
  clear hnE
  go_enter Try.func16, Try.ntmps16
  go_wp2_with fail
  go_loopw [5, 6] (fun o i wr => ∃ j : Nat, j ≤ n ∧ i = .int .i64 j ∧ OR wr w.heap.size o (woT L M j) ∧ Below w.heap.size w wr) (fun _ i _ => n - (intOf i).toNat)
  case atStart => exact ⟨0, Nat.zero_le _, rfl, OR.nil _ _, Below.refl _ _⟩
  case round =>
    obtain ⟨j, hj, rfl, ho, hb⟩ := hrel
    have HO := Lib.hid ho
    have HB := Lib.hid hb
    have hb0 := hb.size
    clear ho hb
    by_cases hlt : j < n
    · have hj0 : (0 : Int) ≤ (j : Int) := by omega
      have hj1 : (j : Int) < (n : Int) := by omega
      obtain ⟨b, o, rfl, hc⟩ := HK.out _ HB.out j hlt
      have HHj := Lib.hid (HH.out (Pl.nth L j) wr HB.out)
      have hT := HT.out j hlt
      have hlen := HL.out j
      by_cases hm : Pl.nth L j ∈ M
      · rw [if_pos hm] at hT
        rw [decide_eq_true hm] at HHj
        have HTJ := Lib.hid hT
        clear hT hm
        generalize Pl.nth L j = x at hc HHj HTJ
        go_wp2_with (first
          | (go_at_call 19; (with_reducible refine HHj.out.mono ?_); rintro x2 w2 ⟨rfl, rfl⟩)
          | (at_builtin; refine app_int rfl _ _ rfl wr w.heap.size (woT L M j) x _ HO.out rfl rfl (by omega) hb0 ?_; intro v' w8 hor8 ha8; have HAP := Lib.hid ha8; have HO8 := Lib.hid hor8; clear ha8 hor8))
        go_roundw
        case rel => exact ⟨j + 1, by omega, by go_num, by rw [HTJ.out]; exact HO8.out, HAP.out.below HO.out HB.out (Nat.le_refl _) hb0⟩
        case measure => simp [intOf]; omega
      · rw [if_neg hm] at hT
        rw [decide_eq_false hm] at HHj
        have HTJ := Lib.hid hT
        clear hT hm
        generalize Pl.nth L j = x at hc HHj
        go_wp2_with (first
          | (go_at_call 19; (with_reducible refine HHj.out.mono ?_); rintro x2 w2 ⟨rfl, rfl⟩))
        go_roundw
        case rel => exact ⟨j + 1, by omega, by go_num, by rw [HTJ.out]; exact HO.out, HB.out⟩
        case measure => simp [intOf]; omega
    · obtain rfl : j = n := by omega
      rw [HA.out] at HO
      go_wp2_with fail
      go_ret
      exact ⟨_, rfl, HO.out, HB.out⟩
theorem own_base2 {W : World} {b b' : Nat} {v : Value} {l : List Int} (hb : b ≤ b') (h : OR W b' v l) : OR W b v l := by
  rcases h with ⟨h1, h2⟩
  refine ⟨h1, ?_⟩
  rcases h2 with h | ⟨g, cap, cur, e, g1, h3⟩
  · exact .inl h
  · exact .inr ⟨g, cap, cur, e, Nat.le_trans hb g1, h3⟩
/-- The row on the way, when j have been gone through. -/
def stepT (l : List Int) (x b : Int) (j : Nat) : List Int := (l.take j).flatMap fun e => (if e = b then [x] else []) ++ (if e = x then [] else [e])
theorem stepT_succ {l : List Int} {x b : Int} {j : Nat} (h : j < l.length) : stepT l x b (j + 1) = stepT l x b j ++ ((if Pl.nth l j = b then [x] else []) ++ (if Pl.nth l j = x then [] else [Pl.nth l j])) := by
  unfold stepT
  rw [Pl.take_snoc h, List.flatMap_append]
  simp
theorem stepT_all (l : List Int) (x b : Int) : stepT l x b l.length ++ (if b = 0 then [x] else []) = Pl.stepL l (x, b) := by unfold stepT Pl.stepL; rw [List.take_length]
theorem stepT_len (l : List Int) (x b : Int) : ∀ j, j ≤ l.length → (stepT l x b j).length ≤ 2 * j
  | 0, _ => by simp [stepT]
  | j + 1, h => by
    have ih := stepT_len l x b j (by omega)
    rw [stepT_succ (by omega), List.length_append, List.length_append]
    have h1 : (if Pl.nth l j = b then [x] else []).length ≤ 1 := by split <;> simp
    have h2 : (if Pl.nth l j = x then [] else [Pl.nth l j]).length ≤ 1 := by split <;> simp
    omega
/-- Has what it is to stand ahead of come by now? -/
def okT (l : List Int) (b : Int) (j : Nat) : Bool := decide (b ∈ l.take j)
theorem okT_yes {l : List Int} {b : Int} {j : Nat} (h : j < l.length) (e : Pl.nth l j = b) : okT l b (j + 1) = true := by unfold okT; rw [Pl.take_snoc h]; simp [e]
theorem okT_no {l : List Int} {b : Int} {j : Nat} (h : j < l.length) (e : ¬ Pl.nth l j = b) : okT l b (j + 1) = okT l b j := by
  unfold okT
  rw [Pl.take_snoc h]
  have e' : ¬ b = Pl.nth l j := fun q => e q.symm
  simp [e']

set_option maxRecDepth 100000 in
set_option maxHeartbeats 4000000 in
theorem lstep_any (a : Option Addr) (L : List Int) (cap : Nat) (x b : Int) (w : World) (h : RL w a L) (hn : L.length ≤ 1000) :
    Calls Try.prog 18 #[.slice a L.length cap, .agg #[.int .i64 x, .int .i64 b]] w fun e w' => ∃ v, e = .returned (.tuple #[v, .bool (decide (b = 0 ∨ b ∈ L))]) ∧ OR w' w.heap.size v (Pl.stepL L (x, b)) ∧ Below w.heap.size w w' := by
  obtain ⟨w0, hw0⟩ : ∃ w0, w.alloc (.cells #[.int .i64 x, .int .i64 b] 34) = w0 := ⟨_, rfl⟩
  have hlow0 : Below w.heap.size w w0 := by rw [← hw0]; exact below_alloc _ _
  have hs0 : w0.heap.size = w.heap.size + 1 := by rw [← hw0]; simp
  have hc0 : w0.cell? ⟨w.heap.size, 0, none⟩ = some (.int .i64 x) := by rw [← hw0]; exact World.cell?_alloc_new _ _ _ 0
  have hc1 : w0.cell? ⟨w.heap.size, 1, none⟩ = some (.int .i64 b) := by rw [← hw0]; exact World.cell?_alloc_new _ _ _ 1
  have HK := Lib.hid (fun W (hb : Below w0.heap.size w0 W) => And.intro ((h.below hlow0).below hb) (And.intro (show W.cell? ⟨w.heap.size, 0, none⟩ = some (.int .i64 x) from by rw [hb.cell (p := ⟨w.heap.size, 0, none⟩) (by simp only; omega)]; exact hc0) (show W.cell? ⟨w.heap.size, 1, none⟩ = some (.int .i64 b) from by rw [hb.cell (p := ⟨w.heap.size, 1, none⟩) (by simp only; omega)]; exact hc1)))
  have HLOW := Lib.hid hlow0
  have HS0 := Lib.hid hs0
  have HT := Lib.hid (fun j (hj : j < L.length) => stepT_succ (x := x) (b := b) hj)
  have HTL := Lib.hid (fun j (hj : j ≤ L.length) => stepT_len L x b j hj)
  have HOY := Lib.hid (fun j (hj : j < L.length) => okT_yes (b := b) hj)
  have HON := Lib.hid (fun j (hj : j < L.length) => okT_no (b := b) hj)
  have HALL := Lib.hid (stepT_all L x b)
  have HOK : Hid (okT L b L.length = decide (b ∈ L)) := Lib.hid (by unfold okT; rw [List.take_length])
  have HPR : Hid (decide (b = 0 ∨ b ∈ L) = (decide (b = 0) || decide (b ∈ L))) := Lib.hid (Bool.decide_or _ _)
  clear h hlow0 hs0 hc0 hc1
  unfold RL at HK
  rw [HPR.out]
  obtain ⟨n, hnE⟩ : ∃ n, L.length = n := ⟨_, rfl⟩
  rw [hnE] at HK HT HTL HOY HON HALL HOK hn ⊢
  clear hnE HPR
  go_enter Try.func18, Try.ntmps18
  go_wp2_with fail
  try rw [hw0]
  clear hw0
  obtain ⟨B, hB⟩ : ∃ B, w.heap.size = B := ⟨_, rfl⟩
  have HBE := Lib.hid hB
  rw [hB] at HK HLOW HS0 ⊢
  clear hB
  go_loopw [6, 7, 8] (fun o k i wr => ∃ j : Nat, j ≤ n ∧ i = .int .i64 j ∧ k = .bool (okT L b j) ∧ OR wr w0.heap.size o (stepT L x b j) ∧ Below w0.heap.size w0 wr) (fun _ _ i _ => n - (intOf i).toNat)
  case atStart => exact ⟨0, Nat.zero_le _, rfl, rfl, OR.nil _ _, Below.refl _ _⟩
  case round =>
    obtain ⟨j, hj, rfl, rfl, ho, hb⟩ := hrel
    have HO := Lib.hid ho
    have HB := Lib.hid hb
    have hb0 := hb.size
    have hlen := HTL.out j hj
    clear ho hb
    by_cases hlt : j < n
    · have hj0 : (0 : Int) ≤ (j : Int) := by omega
      have hj1 : (j : Int) < (n : Int) := by omega
      obtain ⟨hil, z0, z1⟩ := HK.out _ HB.out
      obtain ⟨b1, o1, rfl, hc⟩ := hil j hlt
      clear hil
      have HC : Hid (∀ W, Below w0.heap.size w0 W → W.cell? ⟨b1, o1 + j, none⟩ = some (.int .i64 (Pl.nth L j)) ∧ W.cell? ⟨B, 0, none⟩ = some (.int .i64 x) ∧ W.cell? ⟨B, 1, none⟩ = some (.int .i64 b)) := Lib.hid (fun W hb => by
        obtain ⟨q1, q2, q3⟩ := HK.out W hb
        obtain ⟨b2, o2, e2, hc2⟩ := q1 j hlt
        cases e2
        exact ⟨hc2, q2, q3⟩)
      have hT := HT.out j hlt
      have HBD := Lib.hid (HB.out.trans ((below_drawM wr 1).mono HB.out.size))
      have HOD := Lib.hid (HO.out.drewN 1)
      by_cases e1 : Pl.nth L j = b
      · by_cases e2 : Pl.nth L j = x
        · rw [if_pos e1, if_pos e2] at hT
          have HTJ := Lib.hid hT
          have HOKJ := Lib.hid (HOY.out j hlt e1)
          have hq1 : (Pl.nth L j == b) = true := by simp [e1]
          have hq2 : (Pl.nth L j != x) = false := by simp [e2]
          clear hT e1 e2
          obtain ⟨u, hu⟩ : ∃ u, Pl.nth L j = u := ⟨_, rfl⟩
          rw [hu] at hc HC hq1 hq2
          clear hu
          go_wp2_with fail
          go_region
          obtain ⟨hd0, hd1, hd2⟩ := HC.out _ HBD.out
          go_wp2_with (first | (at_builtin; refine app_int rfl _ _ rfl (wr.drew) w0.heap.size (stepT L x b j) x _ HOD.out rfl rfl (by first | omega | (simp only [List.length_append, List.length_singleton]; omega)) (Nat.le_trans HB.out.size (Nat.le_refl _)) ?_; intro v8 w8 hor ha; have HA8 := Lib.hid ha; have HO8 := Lib.hid hor; have HB8 := Lib.hid (ha.below HOD.out HBD.out (Nat.le_refl _) (Nat.le_trans HB.out.size (Nat.le_refl _))); have hz8 := HB8.out.size; obtain ⟨hd0, hd1, hd2⟩ := HC.out _ HB8.out; clear ha hor))
          have HBE := Lib.hid (HB8.out.trans ((below_drawM w8 1).mono HB8.out.size))
          have HOE := Lib.hid (HO8.out.drewN 1)
          go_region
          obtain ⟨hd0, hd1, hd2⟩ := HC.out _ HBE.out
          go_wp2_with fail
          go_roundw
          case rel => exact ⟨j + 1, by omega, by go_num, by rw [HOKJ.out], by rw [HTJ.out, List.append_nil]; exact HOE.out, HBE.out⟩
          case measure => simp [intOf]; omega
        · rw [if_pos e1, if_neg e2] at hT
          have HTJ := Lib.hid hT
          have HOKJ := Lib.hid (HOY.out j hlt e1)
          have hq1 : (Pl.nth L j == b) = true := by simp [e1]
          have hq2 : (Pl.nth L j != x) = true := by simp [e2]
          clear hT e1 e2
          obtain ⟨u, hu⟩ : ∃ u, Pl.nth L j = u := ⟨_, rfl⟩
          rw [hu] at hc HC HTJ hq1 hq2
          clear hu
          go_wp2_with fail
          go_region
          obtain ⟨hd0, hd1, hd2⟩ := HC.out _ HBD.out
          go_wp2_with (first | (at_builtin; refine app_int rfl _ _ rfl (wr.drew) w0.heap.size (stepT L x b j) x _ HOD.out rfl rfl (by first | omega | (simp only [List.length_append, List.length_singleton]; omega)) (Nat.le_trans HB.out.size (Nat.le_refl _)) ?_; intro v8 w8 hor ha; have HA8 := Lib.hid ha; have HO8 := Lib.hid hor; have HB8 := Lib.hid (ha.below HOD.out HBD.out (Nat.le_refl _) (Nat.le_trans HB.out.size (Nat.le_refl _))); have hz8 := HB8.out.size; obtain ⟨hd0, hd1, hd2⟩ := HC.out _ HB8.out; clear ha hor))
          have HBE := Lib.hid (HB8.out.trans ((below_drawM w8 1).mono HB8.out.size))
          have HOE := Lib.hid (HO8.out.drewN 1)
          go_region
          obtain ⟨hd0, hd1, hd2⟩ := HC.out _ HBE.out
          go_wp2_with (first | (at_builtin; refine app_int rfl _ _ rfl (w8.drew) w0.heap.size (stepT L x b j ++ [x]) u _ HOE.out rfl rfl (by first | omega | (simp only [List.length_append, List.length_singleton]; omega)) (Nat.le_trans HB8.out.size (Nat.le_refl _)) ?_; intro v9 w9 hor ha; have HA9 := Lib.hid ha; have HO9 := Lib.hid hor; have HB9 := Lib.hid (ha.below HOE.out HBE.out (Nat.le_refl _) (Nat.le_trans HB8.out.size (Nat.le_refl _))); have hz9 := HB9.out.size; obtain ⟨hd0, hd1, hd2⟩ := HC.out _ HB9.out; clear ha hor))
          go_roundw
          case rel => exact ⟨j + 1, by omega, by go_num, by rw [HOKJ.out], by rw [HTJ.out, ← List.append_assoc]; exact HO9.out, HB9.out⟩
          case measure => simp [intOf]; omega
      · by_cases e2 : Pl.nth L j = x
        · rw [if_neg e1, if_pos e2] at hT
          have HTJ := Lib.hid hT
          have HOKJ := Lib.hid (HON.out j hlt e1)
          have hq1 : (Pl.nth L j == b) = false := by simp [e1]
          have hq2 : (Pl.nth L j != x) = false := by simp [e2]
          clear hT e1 e2
          obtain ⟨u, hu⟩ : ∃ u, Pl.nth L j = u := ⟨_, rfl⟩
          rw [hu] at hc HC hq1 hq2
          clear hu
          go_wp2_with fail
          go_region
          obtain ⟨hd0, hd1, hd2⟩ := HC.out _ HBD.out
          go_wp2_with fail
          have HBE := Lib.hid (HBD.out.trans ((below_drawM wr.drew 1).mono HBD.out.size))
          have HOE := Lib.hid (HOD.out.drewN 1)
          go_region
          obtain ⟨hd0, hd1, hd2⟩ := HC.out _ HBE.out
          go_wp2_with fail
          go_roundw
          case rel => exact ⟨j + 1, by omega, by go_num, by rw [HOKJ.out], by rw [HTJ.out, List.append_nil, List.append_nil]; exact HOE.out, HBE.out⟩
          case measure => simp [intOf]; omega
        · rw [if_neg e1, if_neg e2] at hT
          have HTJ := Lib.hid hT
          have HOKJ := Lib.hid (HON.out j hlt e1)
          have hq1 : (Pl.nth L j == b) = false := by simp [e1]
          have hq2 : (Pl.nth L j != x) = true := by simp [e2]
          clear hT e1 e2
          obtain ⟨u, hu⟩ : ∃ u, Pl.nth L j = u := ⟨_, rfl⟩
          rw [hu] at hc HC HTJ hq1 hq2
          clear hu
          go_wp2_with fail
          go_region
          obtain ⟨hd0, hd1, hd2⟩ := HC.out _ HBD.out
          go_wp2_with fail
          have HBE := Lib.hid (HBD.out.trans ((below_drawM wr.drew 1).mono HBD.out.size))
          have HOE := Lib.hid (HOD.out.drewN 1)
          go_region
          obtain ⟨hd0, hd1, hd2⟩ := HC.out _ HBE.out
          go_wp2_with (first | (at_builtin; refine app_int rfl _ _ rfl (wr.drew.drew) w0.heap.size (stepT L x b j) u _ HOE.out rfl rfl (by first | omega | (simp only [List.length_append, List.length_singleton]; omega)) (Nat.le_trans HBD.out.size (Nat.le_refl _)) ?_; intro v9 w9 hor ha; have HA9 := Lib.hid ha; have HO9 := Lib.hid hor; have HB9 := Lib.hid (ha.below HOE.out HBE.out (Nat.le_refl _) (Nat.le_trans HBD.out.size (Nat.le_refl _))); have hz9 := HB9.out.size; obtain ⟨hd0, hd1, hd2⟩ := HC.out _ HB9.out; clear ha hor))
          go_roundw
          case rel => exact ⟨j + 1, by omega, by go_num, by rw [HOKJ.out], by rw [HTJ.out, List.nil_append]; exact HO9.out, HB9.out⟩
          case measure => simp [intOf]; omega
    · obtain rfl : j = n := by omega
      obtain ⟨-, z0, z1⟩ := HK.out _ HB.out
      by_cases e0 : b = 0
      · have hb1 : (b == 0) = true := by simp [e0]
        have hal := HALL.out
        rw [if_pos e0] at hal
        have HAL := Lib.hid hal
        have HQ : Hid ((decide (b = 0) || decide (b ∈ L)) = true) := Lib.hid (by rw [decide_eq_true e0]; rfl)
        have HE0 := Lib.hid e0
        clear hal e0
        go_wp2_with (first
          | (at_builtin; refine app_int rfl _ _ rfl wr w0.heap.size (stepT L x b j) x _ HO.out rfl rfl (by omega) hb0 ?_; intro v' w8 hor8 ha8; have HAP := Lib.hid ha8; have HO8 := Lib.hid hor8; clear ha8 hor8))
        go_ret2
        have hq := HS0.out
        have hl := HAP.out.below HO.out HB.out (Nat.le_refl _) hb0
        exact ⟨_, by rw [HQ.out]; rfl, by rw [← HAL.out, HBE.out]; exact own_base2 (by omega) HO8.out, by rw [HBE.out]; exact HLOW.out.trans (hl.mono (by omega))⟩
      · have hb1 : (b == 0) = false := by simp [e0]
        have hal := HALL.out
        rw [if_neg e0, List.append_nil] at hal
        have HAL := Lib.hid hal
        have HQ : Hid ((decide (b = 0) || decide (b ∈ L)) = decide (b ∈ L)) := Lib.hid (by rw [decide_eq_false e0]; rfl)
        clear hal e0
        generalize okT L b j = q at HOK ⊢
        go_wp2_with fail
        go_ret2
        have hq := HS0.out
        exact ⟨_, by rw [HQ.out, ← HOK.out]; rfl, by rw [← HAL.out, HBE.out]; exact own_base2 (by omega) HO.out, by rw [HBE.out]; exact HLOW.out.trans (HB.out.mono (by omega))⟩
end Go.Proofs.Ytglnelkimagihaa
