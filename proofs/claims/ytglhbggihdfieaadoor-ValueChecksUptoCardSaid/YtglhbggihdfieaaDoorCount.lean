/-
  Walks: the closures in value.Size and value.Deep, and the two, answer 'V.size', 'V.depth'; old memory is as it was.
  Conditions: the value lies in memory; it has at most 2^40 parts.
-/
import Derived.Test.YtglhbggihdfieaaDoorShape
import Derived.Test.YtglhbggihdfieaaDoorSize
import Derived.Test.YtglhbggihdfieaaDoorCheck
import Derived.Test.YtglhbggihdfieaaDoorSame1
import Derived.Lib.MinMax
namespace Go.Proofs.YtglhbggihdfieaaDoor
open Go.RowKit

theorem sumTo_mono (f : Nat → Nat) {j n : Nat} (h : j ≤ n) : sumTo j f ≤ sumTo n f := by
  induction n with
  | zero => obtain rfl : j = 0 := by omega
            exact Nat.le_refl _
  | succ n ih =>
    rcases Nat.lt_or_ge n j with hj | hj
    · obtain rfl : j = n + 1 := by omega
      exact Nat.le_refl _
    · have := ih hj
      rw [sumTo]; omega

theorem maxTo_mono (f : Nat → Nat) {j n : Nat} (h : j ≤ n) : maxTo j f ≤ maxTo n f := by
  rw [maxTo_le]
  intro i hi
  exact maxTo_le.1 (Nat.le_refl _) i (by omega)

theorem maxTo_le_sumTo (n : Nat) (f g : Nat → Nat) (h : ∀ i, i < n → f i ≤ g i) : maxTo n f ≤ sumTo n g := by
  rw [maxTo_le]
  exact fun i hi => Nat.le_trans (h i hi) (le_sumTo hi)

theorem depth_le_size : ∀ v : V, v.depth ≤ v.size := by
  intro v
  induction v with
  | leaf => exact Nat.le_refl _
  | mk k n s la ll lc L fa fl fc fn F e key hk ihL ihF =>
    have h1 := maxTo_le_sumTo ll (fun i => (L i).depth) (fun i => (L i).size) (fun i _ => ihL i)
    have h2 := maxTo_le_sumTo fl (fun i => (F i).depth) (fun i => (F i).size) (fun i _ => ihF i)
    simp only [V.depth, V.size]
    omega

theorem w64 {n : Int} (h : -9223372036854775808 ≤ n ∧ n ≤ 9223372036854775807) : wrap64 n = n := by unfold wrap64; omega

theorem int_eq {a b : Int} (h : a = b) : Value.int .i64 a = .int .i64 b := by rw [h]
theorem ret_i {a b : Int} (h : a = b) : Ending.returned (.int .i64 a) = .returned (.int .i64 b) := by rw [h]

/-- The closure's own variable holds the closure. -/
def CloS (c : Nat) (w : World) : Prop := w.cell? ⟨c, 0, none⟩ = some (.func (Fn.func 44) #[] #[.pointer (some ⟨c, 0, none⟩)])

theorem CloS.below {c : Nat} {w w' : World} (h : CloS c w) (hb : Below w.heap.size w w') : CloS c w' := by
  unfold CloS at *
  rw [hb.cell (p := ⟨c, 0, none⟩) (World.block_lt_of_cell? _ _ h), h]

def CntS (v : V) : Prop := ∀ (w : World) (b o c : Nat), v.In w → At w b o v.cells → CloS c w → v.size ≤ 1099511627776 →
  Calls Tryd.prog 44 #[.pointer (some ⟨b, o, none⟩), .pointer (some ⟨c, 0, none⟩)] w fun x w' => x = .returned (.int .i64 v.size) ∧ ∃ m, w' = w.drewN m

set_option maxRecDepth 100000 in
set_option maxHeartbeats 2000000 in
theorem cntS : ∀ v : V, CntS v := by
  intro v
  induction v with
  | leaf => exact fun w b o c h => h.elim
  | mk k n s la ll lc L fa fl fc fn F e key hk ihL ihF =>
  intro w b o c h ha hclo hsz
  obtain ⟨-, -, -, -, -, hl1, hf1, hL, hF⟩ := h
  have HC := Lib.hid (fun W (hw : Below w.heap.size w W) => hclo.below hw)
  have hds := Lib.hid (depth_le_size (.mk k n s la ll lc L fa fl fc fn F e key hk))
  have hs2 : 1 + sumTo ll (fun i => (L i).size) + sumTo fl (fun i => (F i).size) ≤ 1099511627776 := hsz
  have RT := Lib.hid (show ((V.mk k n s la ll lc L fa fl fc fn F e key hk).size : Int) = (((1 + sumTo ll (fun i => (L i).size) + sumTo fl (fun i => (F i).size)) : Nat) : Int) from rfl)
  have sL : Hid (∀ j, j < ll → sumTo j (fun i => (L i).size) + (L j).size ≤ sumTo ll (fun i => (L i).size)) := fun j hj => sumTo_mono (fun i => (L i).size) (show j + 1 ≤ ll from hj)
  have sF : Hid (∀ j, j < fl → sumTo j (fun i => (F i).size) + (F j).size ≤ sumTo fl (fun i => (F i).size)) := fun j hj => sumTo_mono (fun i => (F i).size) (show j + 1 ≤ fl from hj)
  have dL : Hid (∀ j, j ≤ ll → maxTo j (fun i => (L i).depth) ≤ sumTo ll (fun i => (L i).size)) := fun j hj => Nat.le_trans (maxTo_le_sumTo j (fun i => (L i).depth) (fun i => (L i).size) (fun i _ => depth_le_size _)) (sumTo_mono _ hj)
  have dF : Hid (∀ j, j ≤ fl → maxTo j (fun i => (F i).depth) ≤ sumTo fl (fun i => (F i).size)) := fun j hj => Nat.le_trans (maxTo_le_sumTo j (fun i => (F i).depth) (fun i => (F i).size) (fun i _ => depth_le_size _)) (sumTo_mono _ hj)
  have HL := Lib.hid hL
  have HF := Lib.hid hF
  have HIL := Lib.hid ihL
  have HIF := Lib.hid ihF
  obtain ⟨c0, c1, c2, c3, c4, c5, c6, c7⟩ := at8 ha
  have HS2 := Lib.hid hs2
  clear ha hsz hL hF ihL ihF hs2
  unfold CloS at hclo
  unfold maxLen at hl1 hf1
  go_enter Tryd.func44, Tryd.ntmps44
  go_wp2_with fail
  go_loopw [4, 12] (fun q i wr => ∃ j : Nat, j ≤ ll ∧ i = .int .i64 j ∧ q = .int .i64 ((1 + sumTo j (fun i => (L i).size) : Nat) : Int) ∧ ∃ m, wr = w.drewN m) (fun _ i _ => ll - (intOf i).toNat)
  case atStart => exact ⟨0, Nat.zero_le _, rfl, rfl, 0, rfl⟩
  case round =>
    obtain ⟨j, hj, rfl, rfl, m, rfl⟩ := hrel
    by_cases hlt : j < ll
    · obtain ⟨⟨b1, o1, he, hat⟩, hin⟩ := HL.out j hlt
      have HX := Lib.hid (fun W (hw : Below w.heap.size w W) => HIL.out j W _ _ c (hin.below hw) (hat.below hw) (HC.out _ hw) (by have := sL.out j hlt; have := HS2.out; omega))
      have hl0 : (0 : Int) ≤ (j : Int) := by omega
      have hli : (j : Int) < (ll : Int) := by omega
      clear hat hin
      subst he
      go_wp2_with fail
      go_quiet ((go_at_call 44; exact quiet_more (HX.out _ (below_drawn _ _))))
      go_wp2_with fail
      go_roundw
      case rel => exact ⟨j + 1, by omega, by go_num, int_eq (by have S1 := sL.out j hlt; have S2 := HS2.out; rw [w64 (by omega)]; simp only [sumTo]; omega), _, rfl⟩
      case measure => simp [intOf]; omega
    · obtain rfl : ll = j := by omega
      go_wp2_with fail
      go_loopw [4, 31] (fun q i wr => ∃ j : Nat, j ≤ fl ∧ i = .int .i64 j ∧ q = .int .i64 ((1 + sumTo ll (fun i => (L i).size) + sumTo j (fun i => (F i).size) : Nat) : Int) ∧ ∃ m, wr = w.drewN m) (fun _ i _ => fl - (intOf i).toNat)
      case atStart => exact ⟨0, Nat.zero_le _, rfl, rfl, _, rfl⟩
      case round =>
        obtain ⟨j, hj, rfl, rfl, m, rfl⟩ := hrel
        by_cases hlt : j < fl
        · obtain ⟨⟨b1, o1, he, hat⟩, -, hin⟩ := HF.out j hlt
          have HX := Lib.hid (fun W (hw : Below w.heap.size w W) => HIF.out j W _ _ c (hin.below hw) (hat.tail.below hw) (HC.out _ hw) (by have := sF.out j hlt; have := HS2.out; omega))
          have hl0 : (0 : Int) ≤ (j : Int) := by omega
          have hli : (j : Int) < (fl : Int) := by omega
          clear hat hin
          subst he
          go_wp2_with fail
          go_quiet ((go_at_call 44; exact quiet_more (HX.out _ (below_drawn _ _))))
          go_wp2_with fail
          go_roundw
          case rel => exact ⟨j + 1, by omega, by go_num, int_eq (by have S1 := sF.out j hlt; have S2 := HS2.out; rw [w64 (by omega)]; simp only [sumTo]; omega), _, rfl⟩
          case measure => simp [intOf]; omega
        · obtain rfl : fl = j := by omega
          go_wp2_with fail
          go_ret
          exact ⟨ret_i (by rw [RT.out]), _, rfl⟩

set_option maxHeartbeats 1000000 in
theorem topS (v : V) (w : World) (h : v.In w) (hsz : v.size ≤ 1099511627776) :
    Calls Tryd.prog 15 #[v.agg] w fun x w' => x = .returned (.int .i64 v.size) ∧ Below w.heap.size w w' := by
  have H := Lib.hid (fun W (hw : Below w.heap.size w W) b o c (ha : At W b o v.cells) (hc : CloS c W) => cntS v W b o c (h.below hw) ha hc hsz)
  cases v with
  | leaf => exact h.elim
  | mk k n s la ll lc L fa fl fc fn F e key hk =>
  clear h hsz
  have hmf : ∀ (fn : Fn) (first cap : Array Value) (w : World), (Instr.makeFunc fn first cap).run Tryd.prog w = .ok (.func fn first cap) w := fun _ _ _ _ => rfl
  revert H
  generalize (V.mk k n s la ll lc L fa fl fc fn F e key hk).size = q
  intro H
  simp only [V.agg, V.cells] at H ⊢
  go_enter Tryd.func15, Tryd.ntmps15
  go_wp2_with fail
  refine (H.out _ ?_ _ _ _ ?_ ?_).mono ?_
  · exact ((Below.refl _ _).alloc (Nat.le_refl _) _).alloc (by simp) _
  · exact at_new' rfl ((Below.refl _ _).alloc (by simp) _)
  · exact at_new' (cs := [_]) (by simp) (Below.refl _ _) 0 (by simp)
  · rintro x w1 ⟨rfl, m, rfl⟩
    go_wp2_with fail
    go_ret
    exact ⟨rfl, below_drewN (((Below.refl _ _).alloc (Nat.le_refl _) _).alloc (by simp) _) _⟩

/-- The closure's own variable holds the closure. -/
def CloD (c : Nat) (w : World) : Prop := w.cell? ⟨c, 0, none⟩ = some (.func (Fn.func 45) #[] #[.pointer (some ⟨c, 0, none⟩)])

theorem CloD.below {c : Nat} {w w' : World} (h : CloD c w) (hb : Below w.heap.size w w') : CloD c w' := by
  unfold CloD at *
  rw [hb.cell (p := ⟨c, 0, none⟩) (World.block_lt_of_cell? _ _ h), h]

def CntD (v : V) : Prop := ∀ (w : World) (b o c : Nat), v.In w → At w b o v.cells → CloD c w → v.size ≤ 1099511627776 →
  Calls Tryd.prog 45 #[.pointer (some ⟨b, o, none⟩), .pointer (some ⟨c, 0, none⟩)] w fun x w' => x = .returned (.int .i64 v.depth) ∧ ∃ m, w' = w.drewN m

set_option maxRecDepth 100000 in
set_option maxHeartbeats 2000000 in
theorem cntD : ∀ v : V, CntD v := by
  intro v
  induction v with
  | leaf => exact fun w b o c h => h.elim
  | mk k n s la ll lc L fa fl fc fn F e key hk ihL ihF =>
  intro w b o c h ha hclo hsz
  obtain ⟨-, -, -, -, -, hl1, hf1, hL, hF⟩ := h
  have HC := Lib.hid (fun W (hw : Below w.heap.size w W) => hclo.below hw)
  have hds := Lib.hid (depth_le_size (.mk k n s la ll lc L fa fl fc fn F e key hk))
  have hs2 : 1 + sumTo ll (fun i => (L i).size) + sumTo fl (fun i => (F i).size) ≤ 1099511627776 := hsz
  have RT := Lib.hid (show ((V.mk k n s la ll lc L fa fl fc fn F e key hk).depth : Int) = (((max (maxTo ll (fun i => (L i).depth)) (maxTo fl (fun i => (F i).depth))) + 1 : Nat) : Int) from rfl)
  have sL : Hid (∀ j, j < ll → sumTo j (fun i => (L i).size) + (L j).size ≤ sumTo ll (fun i => (L i).size)) := fun j hj => sumTo_mono (fun i => (L i).size) (show j + 1 ≤ ll from hj)
  have sF : Hid (∀ j, j < fl → sumTo j (fun i => (F i).size) + (F j).size ≤ sumTo fl (fun i => (F i).size)) := fun j hj => sumTo_mono (fun i => (F i).size) (show j + 1 ≤ fl from hj)
  have dL : Hid (∀ j, j ≤ ll → maxTo j (fun i => (L i).depth) ≤ sumTo ll (fun i => (L i).size)) := fun j hj => Nat.le_trans (maxTo_le_sumTo j (fun i => (L i).depth) (fun i => (L i).size) (fun i _ => depth_le_size _)) (sumTo_mono _ hj)
  have dF : Hid (∀ j, j ≤ fl → maxTo j (fun i => (F i).depth) ≤ sumTo fl (fun i => (F i).size)) := fun j hj => Nat.le_trans (maxTo_le_sumTo j (fun i => (F i).depth) (fun i => (F i).size) (fun i _ => depth_le_size _)) (sumTo_mono _ hj)
  have HL := Lib.hid hL
  have HF := Lib.hid hF
  have HIL := Lib.hid ihL
  have HIF := Lib.hid ihF
  obtain ⟨c0, c1, c2, c3, c4, c5, c6, c7⟩ := at8 ha
  have HS2 := Lib.hid hs2
  clear ha hsz hL hF ihL ihF hs2
  unfold CloD at hclo
  unfold maxLen at hl1 hf1
  go_enter Tryd.func45, Tryd.ntmps45
  go_wp2_with fail
  go_loopw [4, 12] (fun q i wr => ∃ j : Nat, j ≤ ll ∧ i = .int .i64 j ∧ q = .int .i64 ((maxTo j (fun i => (L i).depth) : Nat) : Int) ∧ ∃ m, wr = w.drewN m) (fun _ i _ => ll - (intOf i).toNat)
  case atStart => exact ⟨0, Nat.zero_le _, rfl, rfl, 0, rfl⟩
  case round =>
    obtain ⟨j, hj, rfl, rfl, m, rfl⟩ := hrel
    by_cases hlt : j < ll
    · obtain ⟨⟨b1, o1, he, hat⟩, hin⟩ := HL.out j hlt
      have HX := Lib.hid (fun W (hw : Below w.heap.size w W) => HIL.out j W _ _ c (hin.below hw) (hat.below hw) (HC.out _ hw) (by have := sL.out j hlt; have := HS2.out; omega))
      have hl0 : (0 : Int) ≤ (j : Int) := by omega
      have hli : (j : Int) < (ll : Int) := by omega
      clear hat hin
      subst he
      go_wp2_with fail
      go_quiet ((go_at_call 45; exact quiet_more (HX.out _ (below_drawn _ _))))
      go_wp2_with fail
      go_roundw
      case rel => exact ⟨j + 1, by omega, by go_num, int_eq (by simp only [maxTo]; omega), _, rfl⟩
      case measure => simp [intOf]; omega
    · obtain rfl : ll = j := by omega
      go_wp2_with fail
      go_loopw [4, 31] (fun q i wr => ∃ j : Nat, j ≤ fl ∧ i = .int .i64 j ∧ q = .int .i64 ((max (maxTo ll (fun i => (L i).depth)) (maxTo j (fun i => (F i).depth)) : Nat) : Int) ∧ ∃ m, wr = w.drewN m) (fun _ i _ => fl - (intOf i).toNat)
      case atStart => exact ⟨0, Nat.zero_le _, rfl, int_eq (by simp [maxTo]), _, rfl⟩
      case round =>
        obtain ⟨j, hj, rfl, rfl, m, rfl⟩ := hrel
        by_cases hlt : j < fl
        · obtain ⟨⟨b1, o1, he, hat⟩, -, hin⟩ := HF.out j hlt
          have HX := Lib.hid (fun W (hw : Below w.heap.size w W) => HIF.out j W _ _ c (hin.below hw) (hat.tail.below hw) (HC.out _ hw) (by have := sF.out j hlt; have := HS2.out; omega))
          have hl0 : (0 : Int) ≤ (j : Int) := by omega
          have hli : (j : Int) < (fl : Int) := by omega
          clear hat hin
          subst he
          go_wp2_with fail
          go_quiet ((go_at_call 45; exact quiet_more (HX.out _ (below_drawn _ _))))
          go_wp2_with fail
          go_roundw
          case rel => exact ⟨j + 1, by omega, by go_num, int_eq (by simp only [maxTo]; omega), _, rfl⟩
          case measure => simp [intOf]; omega
        · obtain rfl : fl = j := by omega
          go_wp2_with fail
          go_ret
          exact ⟨ret_i (by rw [RT.out]; have S2 := HS2.out; have S4 := dF.out fl (Nat.le_refl _); have S5 := dL.out ll (Nat.le_refl _); rw [w64 (by omega)]; omega), _, rfl⟩

set_option maxHeartbeats 1000000 in
theorem topD (v : V) (w : World) (h : v.In w) (hsz : v.size ≤ 1099511627776) :
    Calls Tryd.prog 17 #[v.agg] w fun x w' => x = .returned (.int .i64 v.depth) ∧ Below w.heap.size w w' := by
  have H := Lib.hid (fun W (hw : Below w.heap.size w W) b o c (ha : At W b o v.cells) (hc : CloD c W) => cntD v W b o c (h.below hw) ha hc hsz)
  cases v with
  | leaf => exact h.elim
  | mk k n s la ll lc L fa fl fc fn F e key hk =>
  clear h hsz
  have hmf : ∀ (fn : Fn) (first cap : Array Value) (w : World), (Instr.makeFunc fn first cap).run Tryd.prog w = .ok (.func fn first cap) w := fun _ _ _ _ => rfl
  revert H
  generalize (V.mk k n s la ll lc L fa fl fc fn F e key hk).depth = q
  intro H
  simp only [V.agg, V.cells] at H ⊢
  go_enter Tryd.func17, Tryd.ntmps17
  go_wp2_with fail
  refine (H.out _ ?_ _ _ _ ?_ ?_).mono ?_
  · exact ((Below.refl _ _).alloc (Nat.le_refl _) _).alloc (by simp) _
  · exact at_new' rfl ((Below.refl _ _).alloc (by simp) _)
  · exact at_new' (cs := [_]) (by simp) (Below.refl _ _) 0 (by simp)
  · rintro x w1 ⟨rfl, m, rfl⟩
    go_wp2_with fail
    go_ret
    exact ⟨rfl, below_drewN (((Below.refl _ _).alloc (Nat.le_refl _) _).alloc (by simp) _) _⟩

end Go.Proofs.YtglhbggihdfieaaDoor
