/-
  Walks: place.unlike (each number once) and place.stood (the places of one row's numbers in another one).
  Conditions: the rows lie in memory, 1048576 numbers at most.
-/
import Derived.Test.YtglnelkimagihaaPlO
namespace Go.Proofs.Ytglnelkimagihaa
set_option linter.unusedVariables false
set_option linter.unusedSimpArgs false
open Go.RowKit Go.Deep Go.WideShapes
open Go.Maps hiding size

theorem own_base {W : World} {b b' n sz : Nat} {T : TypeId} {v : Value} {xs : List Value} (hb : b ≤ b') (h : W.ownsRow b' T sz v n xs) : W.ownsRow b T sz v n xs := by
  rcases h with ⟨h1, h2⟩
  refine ⟨h1, ?_⟩
  rcases h2 with h | ⟨g, cap, cur, e, g1, h3⟩
  · exact .inl h
  · exact .inr ⟨g, cap, cur, e, Nat.le_trans hb g1, h3⟩
theorem optI_eq (l : List Int) {j : Nat} (hj : j < l.length) : (Pl.optI (Pl.fst l (Pl.nth l j)) = (j : Int)) ↔ Pl.nth l j ∉ l.take j := by
  rw [← Pl.fst_at hj]
  cases h : Pl.fst l (Pl.nth l j) with
  | none =>
    simp only [Pl.optI, reduceCtorEq, iff_false]
    first | done | omega
  | some p =>
    simp only [Pl.optI, Option.some.injEq]
    omega
theorem optI_wf {l : List Int} (hn : l.length ≤ 1048576) (x : Int) : -1 ≤ Pl.optI (Pl.fst l x) ∧ Pl.optI (Pl.fst l x) ≤ 1048576 := by
  cases h : Pl.fst l x with
  | none => simp [Pl.optI]
  | some p => have := (Pl.fst_some h).1; simp only [Pl.optI]; omega

set_option maxRecDepth 100000 in
set_option maxHeartbeats 2000000 in
theorem unlike_any (a : Option Addr) (L : List Int) (cap : Nat) (w : World) (h : RL w a L) (hB : RB L) (hn : L.length ≤ 1048576) :
    Calls Try.prog 21 #[.slice a L.length cap] w fun e w' => ∃ v, e = .returned v ∧ OR w' w.heap.size v (Pl.uq L) ∧ Below w.heap.size w w' := by
  have HP := Lib.hid (placesOf_any a L cap w h hB hn)
  have HR := Lib.hid (fun W (hb : Below w.heap.size w W) => h.below hb)
  have HOF := Lib.hid (fun m x hx W (hm : MapP W m L.length (Pl.fst L)) => of_any m L.length (Pl.fst L) x hx W hm)
  have HBB := Lib.hid hB
  have HNN := Lib.hid hn
  clear h hB
  obtain ⟨n, hnE⟩ : ∃ n, L.length = n := ⟨_, rfl⟩
  have HN := Lib.hid hnE
  unfold RL at HR
  rw [hnE] at HR HP hn ⊢
  go_enter Try.func21, Try.ntmps21
  go_wp2_with (go_at_call 28; (with_reducible refine HP.out.mono ?_); rintro x w1 ⟨rfl, hm, hb⟩; have HM1 := Lib.hid hm; have HB1 := Lib.hid hb; clear hm hb)
  clear HP hnE
  have hml := HM1.out.lt
  go_loopw [4, 11] (fun o i wr => ∃ j : Nat, j ≤ n ∧ i = .int .i64 j ∧ OR wr w1.heap.size o (Pl.uqT L j) ∧ MapP wr w.heap.size n (Pl.fst L) ∧ Below w.heap.size w wr ∧ w1.heap.size ≤ wr.heap.size) (fun _ i _ => n - (intOf i).toNat)
  case atStart => exact ⟨0, Nat.zero_le _, rfl, OR.nil _ _, HM1.out, HB1.out, Nat.le_refl _⟩
  case round =>
    obtain ⟨j, hj, rfl, ho, hm, hb, hz⟩ := hrel
    have HO := Lib.hid ho
    have HM := Lib.hid hm
    have HB := Lib.hid hb
    have HZ := Lib.hid hz
    clear ho hm hb hz HM1 HB1
    by_cases hlt : j < n
    · have hj0 : (0 : Int) ≤ (j : Int) := by omega
      have hj1 : (j : Int) < (n : Int) := by omega
      obtain ⟨b, o, rfl, hc⟩ := HR.out _ HB.out j hlt
      have hjl : j < L.length := by rw [HN.out]; exact hlt
      have HOFj := Lib.hid (HOF.out w.heap.size (Pl.nth L j) (HBB.out.nth hjl) wr (by rw [HN.out]; exact HM.out))
      have hqe := optI_eq L hjl
      have HUL := Pl.uqT_len L j
      have hu : Pl.uqT L (j + 1) = if Pl.nth L j ∈ L.take j then Pl.uqT L j else Pl.uqT L j ++ [Pl.nth L j] := rfl
      by_cases hmem : Pl.nth L j ∈ L.take j
      · rw [if_pos hmem] at hu
        have hne : ¬ Pl.optI (Pl.fst L (Pl.nth L j)) = (j : Int) := fun e => (hqe.1 e) hmem
        have HU := Lib.hid hu
        clear hu hqe hmem HUL
        generalize Pl.optI (Pl.fst L (Pl.nth L j)) = y at HOFj hne
        generalize Pl.nth L j = x at hc HOFj
        go_wp2_with (go_at_call 29; (with_reducible refine HOFj.out.mono ?_); rintro x2 w2 ⟨rfl, hb2⟩; have HB2 := Lib.hid hb2; clear hb2)
        go_roundw
        case rel => exact ⟨j + 1, by omega, by go_num, by rw [HU.out]; exact HO.out.below HB2.out, HM.out.below HB2.out, HB.out.trans (HB2.out.mono HB.out.size), Nat.le_trans HZ.out HB2.out.size⟩
        case measure => simp [intOf]; omega
      · rw [if_neg hmem] at hu
        have hne : Pl.optI (Pl.fst L (Pl.nth L j)) = (j : Int) := hqe.2 hmem
        rw [hne] at HOFj
        have HU := Lib.hid hu
        clear hu hqe hmem hne
        generalize Pl.nth L j = x at hc HOFj HU
        go_wp2_with (first
          | (go_at_call 29; (with_reducible refine HOFj.out.mono ?_); rintro x2 w2 ⟨rfl, hb2⟩; have HB2 := Lib.hid hb2; have HBX := Lib.hid (HB.out.trans (hb2.mono HB.out.size)); have hbs := Nat.le_trans HZ.out hb2.size; clear hb2)
          | (at_builtin; refine app_int rfl _ _ rfl w2 w1.heap.size (Pl.uqT L j) x _ (HO.out.below HB2.out) rfl rfl (by omega) hbs ?_; intro v' w8 hor8 ha8; have HA := Lib.hid ha8; have HO8 := Lib.hid hor8; clear ha8 hor8))
        go_roundw
        case rel =>
          have hmk := (HM.out.below HB2.out).kept HA.out.grown (fun e => by have := ((HO.out.below HB2.out).lt _ e.symm).1; omega)
          exact ⟨j + 1, by omega, by go_num, by rw [HU.out]; exact HO8.out, hmk, HA.out.below (HO.out.below HB2.out) HBX.out (by omega) (Nat.le_trans HB.out.size HB2.out.size), Nat.le_trans hbs HA.out.grown.size⟩
        case measure => simp [intOf]; omega
    · obtain rfl : j = n := by omega
      have HE : Hid (OR wr w.heap.size u4 (Pl.uq L)) := by
        have e : Pl.uq L = Pl.uqT L j := by unfold Pl.uq; rw [HN.out]
        rw [e]
        exact Lib.hid (own_base (by omega) HO.out)
      go_wp2_with fail
      go_ret
      exact ⟨_, rfl, HE.out, HB.out⟩

theorem frm_row {old next : List Int} {j : Nat} (i : Nat) : (if i < j + 1 then Pl.nth (Pl.frm old next) i else (0 : Int)) = if i = j then Pl.nth (Pl.frm old next) j else if i < j then Pl.nth (Pl.frm old next) i else 0 := by
  by_cases e : i = j
  · subst e; simp
  · rw [if_neg e]
    by_cases h : i < j
    · rw [if_pos h, if_pos (by omega)]
    · rw [if_neg h, if_neg (by omega)]

set_option maxRecDepth 100000 in
set_option maxHeartbeats 2000000 in
theorem stood_any (a : Option Addr) (O : List Int) (cap : Nat) (a' : Option Addr) (L : List Int) (cap' : Nat) (w : World) (h : RL w a O) (hB : RB O) (hn : O.length ≤ 1048576) (h' : RL w a' L) (hB' : RB L) (hn' : L.length ≤ 1048576) :
    Calls Try.prog 22 #[.slice a O.length cap, .slice a' L.length cap'] w fun e w' => ∃ g, e = .returned (.slice (some ⟨g, 0, none⟩) L.length L.length) ∧ OwnI w' w.heap.size g L.length (Pl.nth (Pl.frm O L)) ∧ Below w.heap.size w w' := by
  have HP := Lib.hid (placesOf_any a O cap w h hB hn)
  have HR := Lib.hid (fun W (hb : Below w.heap.size w W) => h'.below hb)
  have HOF := Lib.hid (fun m x hx W (hm : MapP W m O.length (Pl.fst O)) => of_any m O.length (Pl.fst O) x hx W hm)
  have HBB := Lib.hid hB'
  have HF := Lib.hid (fun j (hj : j < L.length) => Pl.nth_frm (old := O) (next := L) hj)
  clear h hB h' hB' hn
  obtain ⟨n, hnE⟩ : ∃ n, L.length = n := ⟨_, rfl⟩
  have HN := Lib.hid hnE
  unfold RL at HR
  rw [hnE] at HR hn' ⊢
  have HMK := Lib.hid (fun W (hb : w.heap.size ≤ W.heap.size) => make_ints W n (by omega) w.heap.size hb)
  go_enter Try.func22, Try.ntmps22
  go_wp2_with (go_at_call 28; (with_reducible refine HP.out.mono ?_); rintro x w1 ⟨rfl, hm, hb⟩; have HM1 := Lib.hid hm; have HB1 := Lib.hid hb; obtain ⟨w2, hmk, hown, hb2⟩ := HMK.out w1 hb.size; have HM2 := Lib.hid (hm.below hb2); have HO2 := Lib.hid hown; have HB2 := Lib.hid (hb.trans (hb2.mono hb.size)); clear hm hb hown hb2)
  clear HP hnE hmk
  have hml := HM1.out.lt
  have HG := Lib.hid (show w1.heap.size ≠ w.heap.size by omega)
  generalize w1.heap.size = g at HO2 HG ⊢
  go_loopw [16] (fun i wr => ∃ j : Nat, j ≤ n ∧ i = .int .i64 j ∧ MapP wr w.heap.size O.length (Pl.fst O) ∧ OwnI wr w.heap.size g n (fun i => if i < j then Pl.nth (Pl.frm O L) i else 0) ∧ Below w.heap.size w wr) (fun i _ => n - (intOf i).toNat)
  case atStart => exact ⟨0, Nat.zero_le _, rfl, HM2.out, by have := HO2.out; simpa using this, HB2.out⟩
  case round =>
    obtain ⟨j, hj, rfl, hm, ho, hb⟩ := hrel
    have HO := Lib.hid ho
    have HM := Lib.hid hm
    have HB := Lib.hid hb
    clear ho hm hb HM1 HB1 HM2 HB2 HO2 HMK hml
    by_cases hlt : j < n
    · have hj0 : (0 : Int) ≤ (j : Int) := by omega
      have hj1 : (j : Int) < (n : Int) := by omega
      obtain ⟨b, o, rfl, hc⟩ := HR.out _ HB.out j hlt
      have hjl : j < L.length := by rw [HN.out]; exact hlt
      have HOFj := Lib.hid (HOF.out w.heap.size (Pl.nth L j) (HBB.out.nth hjl) wr HM.out)
      have hfj := HF.out j hjl
      rw [← hfj] at HOFj
      clear hfj
      have HST := Lib.hid (fun W (hb : Below wr.heap.size wr W) => (HO.out.below hb).set (h' := fun i => if i < j + 1 then Pl.nth (Pl.frm O L) i else 0) j (Pl.nth (Pl.frm O L) j) (fun i _ => frm_row i))
      have HCL := Lib.hid (fun W (hb : Below wr.heap.size wr W) => (HO.out.below hb).cell hlt)
      have HFZ := Lib.hid (fun W (hb : Below wr.heap.size wr W) => (HO.out.below hb).frozen j)
      generalize Pl.nth (Pl.frm O L) j = y at HOFj HST
      generalize Pl.nth L j = x at hc HOFj
      go_wp2_with (go_at_call 29; (with_reducible refine HOFj.out.mono ?_); rintro x2 w2 ⟨rfl, hb2⟩; have HB2 := Lib.hid hb2; have hcl := HCL.out _ hb2; have hfz := HFZ.out _ hb2; clear hb2)
      have h4 := HST.out _ HB2.out
      have HM4 := Lib.hid ((HM.out.below HB2.out).kept h4.2 (fun e => HG.out (Option.some.inj e).symm))
      have HB4 := Lib.hid ((HB.out.trans (HB2.out.mono HB.out.size)).grown h4.2 (Nat.le_trans HB.out.size HB2.out.size) (fun k e => by cases e; exact HO.out.lt.1))
      have HO4 := Lib.hid h4.1
      clear h4 hcl hfz
      go_roundw
      case rel => exact ⟨j + 1, by omega, by go_num, HM4.out, HO4.out, HB4.out⟩
      case measure => simp [intOf]; omega
    · obtain rfl : j = n := by omega
      have HE : Hid (OwnI wr w.heap.size g j (Pl.nth (Pl.frm O L))) := by
        have := HO.out
        unfold OwnI at this ⊢
        rw [rowI_ext (h' := Pl.nth (Pl.frm O L)) (fun i hi => if_pos hi)] at this
        exact Lib.hid this
      go_wp2_with fail
      go_ret
      exact ⟨g, rfl, HE.out, HB.out⟩
end Go.Proofs.Ytglnelkimagihaa
