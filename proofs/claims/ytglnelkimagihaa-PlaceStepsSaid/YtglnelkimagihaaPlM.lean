/-
  Walks: place.Moves answers, place by place, which are placed ('plc'); so does the document's (tapestryref09).
  Conditions: the places lie in memory, 1048576 of them at most.
-/
import Derived.Test.YtglnelkimagihaaPlB
namespace Go.Proofs.Ytglnelkimagihaa
set_option linter.unusedVariables false
set_option linter.unusedSimpArgs false
open Go.RowKit Go.Deep Go.WideShapes

theorem plc_row {L : List Int} {j : Nat} (i : Nat) : (if i < j + 1 then Value.bool (Pl.plc L i) else .bool false) = if i = j then .bool (Pl.plc L j) else if i < j then .bool (Pl.plc L i) else .bool false := by
  by_cases e : i = j
  · subst e; simp
  · rw [if_neg e]
    by_cases h : i < j
    · rw [if_pos h, if_pos (by omega)]
    · rw [if_neg h, if_neg (by omega)]

set_option maxRecDepth 100000 in
set_option maxHeartbeats 2000000 in
theorem moves_any (a : Option Addr) (L : List Int) (cap : Nat) (w : World) (h : RL w a L) (hn : L.length ≤ 1048576) :
    Calls Try.prog 10 #[.slice a L.length cap] w fun x w' => ∃ g, x = .returned (.slice (some ⟨g, 0, none⟩) L.length L.length) ∧ OwnV w' w.heap.size g L.length 4 (fun i => .bool (Pl.plc L i)) ∧ Below w.heap.size w w' := by
  obtain ⟨n, hnE⟩ : ∃ n, L.length = n := ⟨_, rfl⟩
  have HR := Lib.hid (fun W (hb : Below w.heap.size w W) => h.below hb)
  obtain ⟨w1, hmk, hown, hb1⟩ := make_bools w L.length (by omega) w.heap.size (Nat.le_refl _)
  have HO1 := Lib.hid hown
  have HB1 := Lib.hid hb1
  clear h hown hb1
  unfold RL at HR
  rw [hnE] at HR hmk HO1 hn ⊢
  clear hnE
  have HN := Lib.hid hn
  go_enter Try.func10, Try.ntmps10
  go_wp2_with fail
  clear hmk
  obtain ⟨g, hgE⟩ : ∃ g, w.heap.size = g := ⟨_, rfl⟩
  have HG := Lib.hid hgE
  rw [hgE] at HO1 HB1 HR ⊢
  clear hgE
  go_loopw [4, 12] (fun m i wr => ∃ j : Nat, j ≤ n ∧ i = .int .i64 j ∧ m = .int .i64 (Pl.grt 0 L j) ∧ OwnV wr g g n 4 (fun i => if i < j then .bool (Pl.plc L i) else .bool false) ∧ Below g w wr) (fun _ i _ => n - (intOf i).toNat)
  case atStart => exact ⟨0, Nat.zero_le _, rfl, rfl, by have := HO1.out; simpa using this, HB1.out⟩
  case round =>
    obtain ⟨j, hj, rfl, rfl, ho, hb⟩ := hrel
    have HO := Lib.hid ho
    have HB := Lib.hid hb
    have ho' := ho
    clear HO1 HB1 hb ho
    by_cases hlt : j < n
    · have hj0 : (0 : Int) ≤ (j : Int) := by omega
      have hj1 : (j : Int) < (n : Int) := by omega
      obtain ⟨b, o, rfl, hc⟩ := HR.out _ HB.out j hlt
      have hcl := ho'.cell hlt
      rw [if_neg (Nat.lt_irrefl j)] at hcl
      have hfz := ho'.frozen j
      obtain ⟨ho4, hg4⟩ := ho'.set (h' := fun i => if i < j + 1 then .bool (Pl.plc L i) else .bool false) j (.bool (Pl.plc L j)) (fun i _ => plc_row i)
      have hgl := ho'.lt
      have HO4 := Lib.hid ho4
      have HB4 : Hid (Below g w (wr.setCell ⟨g, j, none⟩ (.bool (Pl.plc L j)))) := Lib.hid (HB.out.grown hg4 (by rw [← HG.out]; exact HB.out.size) (fun k e => by cases e; exact Nat.le_refl _))
      have hpl := Pl.plc_grt L j
      have HS := Lib.hid (show Pl.grt 0 L (j + 1) = max (Pl.grt 0 L j) (Pl.nth L j) from rfl)
      clear ho' ho4 hg4 HO hgl
      rw [← hpl] at HO4 HB4
      clear hpl
      generalize Pl.grt 0 L j = m at HO4 HB4 HS ⊢
      generalize Pl.nth L j = x at hc HO4 HB4 HS ⊢
      go_wp2_with fail
      go_roundw
      case rel => exact ⟨j + 1, by omega, by go_num, int_is (by rw [HS.out]; first | omega | (split <;> omega)), HO4.out, HB4.out⟩
      case measure => simp [intOf]; omega
    · obtain rfl : j = n := by omega
      have HE : Hid (OwnV wr g g j 4 (fun i => .bool (Pl.plc L i))) := by
        have := HO.out
        unfold OwnV at this ⊢
        rw [rowV_ext (h' := fun i => .bool (Pl.plc L i)) (fun i hi => if_pos hi)] at this
        exact Lib.hid this
      generalize Pl.grt 0 L j = m
      clear ho'
      go_wp2_with fail
      go_ret
      exact ⟨g, rfl, by rw [HG.out]; exact HE.out, by rw [HG.out]; exact HB.out⟩

theorem rowV_snoc (n : Nat) (h : Nat → Value) : rowV (n + 1) h = rowV n h ++ [h n] := by
  unfold rowV
  rw [List.range_succ, List.map_append]
  rfl
/-- A row of truths that was appended to. -/
theorem bl_row {w : World} {base n : Nat} {v : Value} {h : Nat → Value} (ho : w.ownsRow base 4 1 v n (rowV n h)) : ∃ a cap, v = .slice a n cap ∧ n ≤ cap ∧ cap ≤ maxLen ∧ ∀ j, j < n → ∃ b o, a = some ⟨b, o, none⟩ ∧ w.cell? ⟨b, o + j, none⟩ = some (h j) := by
  have hh := ho
  rcases ho.2 with ⟨rfl, h0⟩ | ⟨g, cap, cur, rfl, _, _, h1, h2, _⟩
  · exact ⟨none, 0, by rw [h0], by omega, Nat.zero_le _, fun j hj => absurd hj (by omega)⟩
  · refine ⟨some ⟨g, 0, none⟩, cap, rfl, h1, h2, fun j hj => ⟨g, 0, rfl, ?_⟩⟩
    have := World.ownsRow.cells hh (g := g) rfl j _ (rowV_get hj)
    rw [add_plain] at this
    exact this

set_option maxRecDepth 100000 in
set_option maxHeartbeats 2000000 in
theorem rmoves_any (a : Option Addr) (L : List Int) (cap : Nat) (w : World) (h : RL w a L) (hn : L.length ≤ 1048576) :
    Calls Try.prog 11 #[.slice a L.length cap] w fun x w' => ∃ v, x = .returned v ∧ w'.ownsRow w.heap.size 4 1 v L.length (rowV L.length (fun i => .bool (Pl.plc L i))) ∧ Below w.heap.size w w' := by
  obtain ⟨n, hnE⟩ : ∃ n, L.length = n := ⟨_, rfl⟩
  have HR := Lib.hid (fun W (hb : Below w.heap.size w W) => h.below hb)
  obtain ⟨i0, hi, hz0, hz1, hz2⟩ := info_parts info_bool
  clear h
  unfold RL at HR
  rw [hnE] at HR hn ⊢
  clear hnE
  have HN := Lib.hid hn
  go_enter Try.func11, Try.ntmps11
  go_wp2_with fail
  go_loopw [3, 4, 5] (fun o m i wr => ∃ j : Nat, j ≤ n ∧ i = .int .i64 j ∧ m = .int .i64 (Pl.grt (-1) L j) ∧ wr.ownsRow w.heap.size 4 1 o j (rowV j (fun i => .bool (Pl.plc L i))) ∧ Below w.heap.size w wr) (fun _ _ i _ => n - (intOf i).toNat)
  case atStart => exact ⟨0, Nat.zero_le _, rfl, rfl, World.ownsRow_nil _ _ _ _, Below.refl _ _⟩
  case round =>
    obtain ⟨j, hj, rfl, rfl, ho, hb⟩ := hrel
    have HO := Lib.hid ho
    have HB := Lib.hid hb
    clear hb ho
    by_cases hlt : j < n
    · have hj0 : (0 : Int) ≤ (j : Int) := by omega
      have hj1 : (j : Int) < (n : Int) := by omega
      obtain ⟨b, o, rfl, hc⟩ := HR.out _ HB.out j hlt
      have HC : Hid (∀ W, Below w.heap.size w W → W.cell? ⟨b, o + j, none⟩ = some (.int .i64 (Pl.nth L j))) := Lib.hid (fun W hb => by
        obtain ⟨b2, o2, e2, hc2⟩ := HR.out W hb j hlt
        cases e2
        exact hc2)
      have hpl := Lib.hid (Pl.plc_grt' L j)
      have HS := Lib.hid (show Pl.grt (-1) L (j + 1) = max (Pl.grt (-1) L j) (Pl.nth L j) from rfl)
      have HP := Lib.hid (rowV_snoc j (fun i => .bool (Pl.plc L i)))
      have HBX := Lib.hid (HB.out.trans ((below_drawM wr 0).mono HB.out.size))
      generalize Pl.grt (-1) L j = m at hpl HS ⊢
      generalize Pl.nth L j = x at hc hpl HS HC ⊢
      have hcase : (x < m ∧ Pl.plc L j = true) ∨ (¬ x < m ∧ x < 0 ∧ Pl.plc L j = true) ∨ (¬ x < m ∧ ¬ x < 0 ∧ Pl.plc L j = false) := by
        have := hpl.out
        by_cases h1 : x < m
        · exact .inl ⟨h1, by simpa [h1] using this.symm⟩
        · by_cases h2 : x < 0
          · exact .inr (.inl ⟨h1, h2, by simpa [h1, h2] using this.symm⟩)
          · exact .inr (.inr ⟨h1, h2, by simpa [h1, h2] using this.symm⟩)
      have hb0 := HB.out.size
      rcases hcase with ⟨h1, hp⟩ | ⟨h1, h2, hp⟩ | ⟨h1, h2, hp⟩
      all_goals
        have HPP := Lib.hid hp
        clear hp
        go_wp2_with (at_builtin; refine app_bool rfl _ _ rfl wr w.heap.size j _ _ _ HO.out rfl rfl (by omega) hb0 ?_; intro v' w8 ha8; have HA := Lib.hid ha8; have HB8 := Lib.hid (ha8.below HO.out HB.out (Nat.le_refl _) hb0); have hc8 := HC.out _ HB8.out; clear ha8)
        go_roundw
        case rel => exact ⟨j + 1, by omega, by go_num, int_is (by rw [HS.out]; first | omega | (split <;> omega)), by rw [HP.out, HPP.out]; exact HA.out.own, HB8.out⟩
        case measure => simp [intOf]; omega
    · obtain rfl : j = n := by omega
      generalize Pl.grt (-1) L j = m
      obtain ⟨a', cap', e, -⟩ := bl_row HO.out
      have HE := Lib.hid e
      subst e
      go_wp2_with fail
      go_ret
      exact ⟨_, rfl, HO.out, HB.out⟩
end Go.Proofs.Ytglnelkimagihaa
