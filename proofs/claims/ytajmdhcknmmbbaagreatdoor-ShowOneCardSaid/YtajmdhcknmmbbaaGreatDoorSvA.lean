/-
  Walks: SameValue, SameValues, SameField, SameFields of the laws answer 'V.same'; old memory is as it was.
  Conditions: what is held against one another lies in memory.
-/
import Derived.Test.YtajmdhcknmmbbaaGreatDoorSize
import Derived.Test.YtajmdhcknmmbbaaGreatDoorSameP
import Derived.Deep.Heap
import Derived.Deep.RegionHeld3
namespace Go.Proofs.YtajmdhcknmmbbaaGreatDoor
set_option linter.unusedVariables false
set_option linter.unusedSimpArgs false
open Go.RowKit Go.Deep Go.WideShapes

theorem al_old {W : World} {k : Nat} {o : Obj} (o' : Obj) (h : W.heap[k]? = some o) : (W.alloc o').heap[k]? = some o := (Below.heap_alloc _ _ _ (Array.getElem?_eq_some_iff.1 h).1).trans h
theorem al_new {W : World} {s : Nat} (o : Obj) (h : W.heap.size = s) : (W.alloc o).heap[s]? = some o := by subst h; exact Go.Deep.blk_alloc_new W o
/-- What SameValue's contract says of one value. -/
def SvOk (v : V) : Prop := ∀ (u : V) (w : World), v.In w → u.In w → Calls Tryz.prog 173 #[v.agg, u.agg] w fun x w' => x = .returned (.bool (v.same u)) ∧ Below w.heap.size w w'
theorem dec_bytes (a b : ByteArray) : decide (a = b) = (a.toList == b.toList) := by
  by_cases h : a = b
  · subst h; simp
  · rw [decide_eq_false h, bytes_ne h]
theorem dec_int (a b : Int) : decide (a = b) = (a == b) := by
  by_cases h : a = b
  · subst h; simp
  · rw [decide_eq_false h]; exact (beq_eq_false_iff_ne.2 h).symm
theorem dec_bool (a b : Bool) : decide (a = b) = (a == b) := by cases a <;> cases b <;> rfl

set_option maxRecDepth 100000 in
set_option maxHeartbeats 2000000 in
theorem svs_any (w : World) (la la' : Option Addr) (ll lc ll' lc' : Nat) (L L' : Nat → V) (ih : ∀ i, i < ll → SvOk (L i)) (hcap : ll ≤ 9223372036854775807) (hcap' : ll' ≤ 9223372036854775807)
    (h : ∀ i, i < ll → (∃ b o, la = some ⟨b, o, none⟩ ∧ At w b (o + i * 8) (L i).cells) ∧ (L i).In w) (h' : ∀ i, i < ll' → (∃ b o, la' = some ⟨b, o, none⟩ ∧ At w b (o + i * 8) (L' i).cells) ∧ (L' i).In w) :
    Calls Tryz.prog 196 #[.slice la ll lc, .slice la' ll' lc'] w fun x w' => x = .returned (.bool (decide (ll = ll') && allB ll (fun i => (L i).same (L' i)))) ∧ Below w.heap.size w w' := by
  by_cases hl : ll = ll'
  · have HC := Lib.hid (show ∀ i, i < ll → ∀ W, Below w.heap.size w W → Calls Tryz.prog 173 #[(L i).agg, (L' i).agg] W fun x w' => x = .returned (.bool ((fun i => (L i).same (L' i)) i)) ∧ Below W.heap.size W w' from fun i hi W hb => ih i hi (L' i) W ((h i hi).2.below hb) ((h' i (hl ▸ hi)).2.below hb))
    have R1 : Hid (HeldTo ll (fun i => (L i).same (L' i)) → Ending.returned (.bool true) = .returned (.bool (decide (ll = ll') && allB ll (fun i => (L i).same (L' i))))) := fun q => by rw [decide_eq_true hl, q.all]; rfl
    have R0 : Hid (∀ i, i < ll → (fun i => (L i).same (L' i)) i = false → Ending.returned (.bool false) = .returned (.bool (decide (ll = ll') && allB ll (fun i => (L i).same (L' i))))) := fun i hi q => by rw [allB_false hi q, Bool.and_false]
    have HL := Lib.hid h
    have HL' := Lib.hid (hl ▸ h' : ∀ i, i < ll → (∃ b o, la' = some ⟨b, o, none⟩ ∧ At w b (o + i * 8) (L' i).cells) ∧ (L' i).In w)
    clear h h' ih
    subst hl
    generalize (decide (ll = ll) && allB ll (fun i => (L i).same (L' i))) = ans at R1 R0 ⊢
    go_enter Tryz.func196, Tryz.ntmps196
    go_wp2_with fail
    go_loopw [5] (fun i wr => ∃ j : Nat, j ≤ ll ∧ i = .int .i64 j ∧ HeldTo j (fun i => (L i).same (L' i)) ∧ Below w.heap.size w wr) (fun i _ => ll - (intOf i).toNat)
    case atStart => exact ⟨0, Nat.zero_le _, rfl, HeldTo.zero, Below.refl _ _⟩
    case round =>
    obtain ⟨j, hj, rfl, hheld, hbw⟩ := hrel
    have HH := Lib.hid hheld
    have HB := Lib.hid hbw
    clear hheld hbw
    by_cases hlt : j < ll
    · have hlt' : (j : Int) < (ll : Int) := by omega
      have hj0 : (0 : Int) ≤ (j : Int) := by omega
      obtain ⟨⟨b1, o1, rfl, hat⟩, hin⟩ := HL.out j hlt
      obtain ⟨⟨b2, o2, rfl, hat'⟩, hin'⟩ := HL'.out j hlt
      have HE := Lib.hid (HC.out j hlt)
      have R0j := Lib.hid (R0.out j hlt)
      have HHs := Lib.hid (fun q => HH.out.succ (k := j) q)
      obtain ⟨p, hp⟩ : ∃ p, p = (fun i => (L i).same (L' i)) j := ⟨_, rfl⟩
      simp only [] at hp
      rw [← hp] at HE R0j HHs
      clear hp
      obtain ⟨v, hv⟩ : ∃ v, L j = v := ⟨_, rfl⟩
      obtain ⟨u, hu⟩ : ∃ u, L' j = u := ⟨_, rfl⟩
      rw [hv] at hat hin HE
      rw [hu] at hat' hin' HE
      cases v with
      | leaf => exact hin.elim
      | mk k1 n1 s1 la1 ll1 lc1 L1 fa1 fl1 fc1 fn1 F1 e1 key1 hk1 =>
      cases u with
      | leaf => exact hin'.elim
      | mk k2 n2 s2 la2 ll2 lc2 L2 fa2 fl2 fc2 fn2 F2 e2 key2 hk2 =>
      have KS : Hid (∀ W, Below wr.heap.size wr W → (fun W => Below wr.heap.size wr W ∧ W.cell? ⟨b1, o1 + j * 8, none⟩ = some (.int .u8 k1) ∧ W.cell? ⟨b1, o1 + j * 8 + 1, none⟩ = some (.int .i64 n1) ∧ W.cell? ⟨b1, o1 + j * 8 + 2, none⟩ = some (.string s1) ∧ W.cell? ⟨b1, o1 + j * 8 + 3, none⟩ = some (.slice la1 ll1 lc1) ∧ W.cell? ⟨b1, o1 + j * 8 + 4, none⟩ = some (.slice fa1 fl1 fc1) ∧ W.cell? ⟨b1, o1 + j * 8 + 5, none⟩ = some (.int .u8 e1) ∧ W.cell? ⟨b1, o1 + j * 8 + 6, none⟩ = some (.string key1) ∧ W.cell? ⟨b1, o1 + j * 8 + 7, none⟩ = some (.bool hk1) ∧ W.cell? ⟨b2, o2 + j * 8, none⟩ = some (.int .u8 k2) ∧ W.cell? ⟨b2, o2 + j * 8 + 1, none⟩ = some (.int .i64 n2) ∧ W.cell? ⟨b2, o2 + j * 8 + 2, none⟩ = some (.string s2) ∧ W.cell? ⟨b2, o2 + j * 8 + 3, none⟩ = some (.slice la2 ll2 lc2) ∧ W.cell? ⟨b2, o2 + j * 8 + 4, none⟩ = some (.slice fa2 fl2 fc2) ∧ W.cell? ⟨b2, o2 + j * 8 + 5, none⟩ = some (.int .u8 e2) ∧ W.cell? ⟨b2, o2 + j * 8 + 6, none⟩ = some (.string key2) ∧ W.cell? ⟨b2, o2 + j * 8 + 7, none⟩ = some (.bool hk2)) W) := fun W hb => by
        have ha := hat.below (HB.out.trans (hb.mono HB.out.size))
        have hb2 := hat'.below (HB.out.trans (hb.mono HB.out.size))
        exact ⟨hb, ha 0 (by simp [V.cells]), ha 1 (by simp [V.cells]), ha 2 (by simp [V.cells]), ha 3 (by simp [V.cells]), ha 4 (by simp [V.cells]), ha 5 (by simp [V.cells]), ha 6 (by simp [V.cells]), ha 7 (by simp [V.cells]), hb2 0 (by simp [V.cells]), hb2 1 (by simp [V.cells]), hb2 2 (by simp [V.cells]), hb2 3 (by simp [V.cells]), hb2 4 (by simp [V.cells]), hb2 5 (by simp [V.cells]), hb2 6 (by simp [V.cells]), hb2 7 (by simp [V.cells])⟩
      have hS0 := KS.out _ (Below.refl _ _)
      simp only [V.agg, V.cells] at HE
      clear hin hin' hat hat'
      cases p with
      | true =>
        go_wp2_with fail
        go_region_held3 (fun W => Below wr.heap.size wr W ∧ W.cell? ⟨b1, o1 + j * 8, none⟩ = some (.int .u8 k1) ∧ W.cell? ⟨b1, o1 + j * 8 + 1, none⟩ = some (.int .i64 n1) ∧ W.cell? ⟨b1, o1 + j * 8 + 2, none⟩ = some (.string s1) ∧ W.cell? ⟨b1, o1 + j * 8 + 3, none⟩ = some (.slice la1 ll1 lc1) ∧ W.cell? ⟨b1, o1 + j * 8 + 4, none⟩ = some (.slice fa1 fl1 fc1) ∧ W.cell? ⟨b1, o1 + j * 8 + 5, none⟩ = some (.int .u8 e1) ∧ W.cell? ⟨b1, o1 + j * 8 + 6, none⟩ = some (.string key1) ∧ W.cell? ⟨b1, o1 + j * 8 + 7, none⟩ = some (.bool hk1) ∧ W.cell? ⟨b2, o2 + j * 8, none⟩ = some (.int .u8 k2) ∧ W.cell? ⟨b2, o2 + j * 8 + 1, none⟩ = some (.int .i64 n2) ∧ W.cell? ⟨b2, o2 + j * 8 + 2, none⟩ = some (.string s2) ∧ W.cell? ⟨b2, o2 + j * 8 + 3, none⟩ = some (.slice la2 ll2 lc2) ∧ W.cell? ⟨b2, o2 + j * 8 + 4, none⟩ = some (.slice fa2 fl2 fc2) ∧ W.cell? ⟨b2, o2 + j * 8 + 5, none⟩ = some (.int .u8 e2) ∧ W.cell? ⟨b2, o2 + j * 8 + 6, none⟩ = some (.string key2) ∧ W.cell? ⟨b2, o2 + j * 8 + 7, none⟩ = some (.bool hk2))
          (first | exact KS.out _ ((Below.refl _ _).drew) | exact KS.out _ (Below.trans (And.left (by assumption)) (Below.mono (by assumption) (Below.size (And.left (by assumption))))))
          (first | (go_at_call 173; refine (HE.out _ ?_).mono ?_; (go_split_ands; exact Below.trans HB.out (Below.mono (by assumption) HB.out.size)); rintro x w1 ⟨rfl, hb1⟩))
        have hfin : Hid (Below w.heap.size w _) := HB.out.trans (Below.mono (And.left (by assumption)) HB.out.size)
        go_wp2_with fail
        go_roundw
        case rel => exact ⟨j + 1, by omega, by go_num, HHs.out (by trivial), hfin.out⟩
        case measure => simp [intOf]; omega
      | false =>
        go_wp2_with fail
        go_region_held3 (fun W => Below wr.heap.size wr W ∧ W.cell? ⟨b1, o1 + j * 8, none⟩ = some (.int .u8 k1) ∧ W.cell? ⟨b1, o1 + j * 8 + 1, none⟩ = some (.int .i64 n1) ∧ W.cell? ⟨b1, o1 + j * 8 + 2, none⟩ = some (.string s1) ∧ W.cell? ⟨b1, o1 + j * 8 + 3, none⟩ = some (.slice la1 ll1 lc1) ∧ W.cell? ⟨b1, o1 + j * 8 + 4, none⟩ = some (.slice fa1 fl1 fc1) ∧ W.cell? ⟨b1, o1 + j * 8 + 5, none⟩ = some (.int .u8 e1) ∧ W.cell? ⟨b1, o1 + j * 8 + 6, none⟩ = some (.string key1) ∧ W.cell? ⟨b1, o1 + j * 8 + 7, none⟩ = some (.bool hk1) ∧ W.cell? ⟨b2, o2 + j * 8, none⟩ = some (.int .u8 k2) ∧ W.cell? ⟨b2, o2 + j * 8 + 1, none⟩ = some (.int .i64 n2) ∧ W.cell? ⟨b2, o2 + j * 8 + 2, none⟩ = some (.string s2) ∧ W.cell? ⟨b2, o2 + j * 8 + 3, none⟩ = some (.slice la2 ll2 lc2) ∧ W.cell? ⟨b2, o2 + j * 8 + 4, none⟩ = some (.slice fa2 fl2 fc2) ∧ W.cell? ⟨b2, o2 + j * 8 + 5, none⟩ = some (.int .u8 e2) ∧ W.cell? ⟨b2, o2 + j * 8 + 6, none⟩ = some (.string key2) ∧ W.cell? ⟨b2, o2 + j * 8 + 7, none⟩ = some (.bool hk2))
          (first | exact KS.out _ ((Below.refl _ _).drew) | exact KS.out _ (Below.trans (And.left (by assumption)) (Below.mono (by assumption) (Below.size (And.left (by assumption))))))
          (first | (go_at_call 173; refine (HE.out _ ?_).mono ?_; (go_split_ands; exact Below.trans HB.out (Below.mono (by assumption) HB.out.size)); rintro x w1 ⟨rfl, hb1⟩))
        have hfin : Hid (Below w.heap.size w _) := HB.out.trans (Below.mono (And.left (by assumption)) HB.out.size)
        go_wp2_with fail
        go_ret
        exact ⟨R0j.out (by trivial), hfin.out⟩
    · obtain rfl : j = ll := by omega
      have R := Lib.hid (R1.out HH.out)
      go_wp2_with fail
      go_ret
      exact ⟨R.out, HB.out⟩
  · have R : Hid (Ending.returned (.bool false) = .returned (.bool (decide (ll = ll') && allB ll (fun i => (L i).same (L' i))))) := by rw [decide_eq_false hl]; exact rfl
    have hl' : ((ll : Int) != (ll' : Int)) = true := by simp; omega
    clear h h' ih hl
    generalize (decide (ll = ll') && allB ll (fun i => (L i).same (L' i))) = ans at R ⊢
    go_enter Tryz.func196, Tryz.ntmps196
    go_wp2_with fail
    go_ret
    exact ⟨R.out, Below.refl _ _⟩

set_option maxRecDepth 100000 in
set_option maxHeartbeats 4000000 in
theorem sf_any (nm1 nm2 : ByteArray) (v u : V) (hs : SvOk v) (w : World) (hv : v.In w) (hu : u.In w) :
    Calls Tryz.prog 151 #[.agg (.string nm1 :: v.cells).toArray, .agg (.string nm2 :: u.cells).toArray] w fun x w' => x = .returned (.bool (decide (nm1 = nm2) && v.same u)) ∧ Below w.heap.size w w' := by
  have HS := Lib.hid (fun W (hb : Below w.heap.size w W) => hs u W (hv.below hb) (hu.below hb))
  rw [dec_bytes]
  obtain ⟨q0, hq0⟩ : ∃ q, (nm1.toList == nm2.toList) = q := ⟨_, rfl⟩
  rw [hq0]
  obtain ⟨q1, hq1⟩ : ∃ q, v.same u = q := ⟨_, rfl⟩
  rw [hq1] at HS ⊢
  clear hq1
  cases v with
  | leaf => exact hv.elim
  | mk k1 n1 s1 la1 ll1 lc1 L1 fa1 fl1 fc1 fn1 F1 e1 key1 hk1 =>
  cases u with
  | leaf => exact hu.elim
  | mk k2 n2 s2 la2 ll2 lc2 L2 fa2 fl2 fc2 fn2 F2 e2 key2 hk2 =>
  clear hv hu hs
  simp only [V.agg, V.cells] at HS ⊢
  have hB0 : Below w.heap.size w ((w.alloc (.cells #[.string nm1, .int .u8 k1, .int .i64 n1, .string s1, .slice la1 ll1 lc1, .slice fa1 fl1 fc1, .int .u8 e1, .string key1, .bool hk1] 68)).alloc (.cells #[.string nm2, .int .u8 k2, .int .i64 n2, .string s2, .slice la2 ll2 lc2, .slice fa2 fl2 fc2, .int .u8 e2, .string key2, .bool hk2] 68)) := ((Below.refl _ _).alloc (Nat.le_refl _) _).alloc (by simp) _
  have hK : Hid (∀ W, Below ((w.alloc (.cells #[.string nm1, .int .u8 k1, .int .i64 n1, .string s1, .slice la1 ll1 lc1, .slice fa1 fl1 fc1, .int .u8 e1, .string key1, .bool hk1] 68)).alloc (.cells #[.string nm2, .int .u8 k2, .int .i64 n2, .string s2, .slice la2 ll2 lc2, .slice fa2 fl2 fc2, .int .u8 e2, .string key2, .bool hk2] 68)).heap.size ((w.alloc (.cells #[.string nm1, .int .u8 k1, .int .i64 n1, .string s1, .slice la1 ll1 lc1, .slice fa1 fl1 fc1, .int .u8 e1, .string key1, .bool hk1] 68)).alloc (.cells #[.string nm2, .int .u8 k2, .int .i64 n2, .string s2, .slice la2 ll2 lc2, .slice fa2 fl2 fc2, .int .u8 e2, .string key2, .bool hk2] 68)) W → Below w.heap.size w W ∧ (∀ j, W.cell? ⟨w.heap.size, j, none⟩ = (#[.string nm1, .int .u8 k1, .int .i64 n1, .string s1, .slice la1 ll1 lc1, .slice fa1 fl1 fc1, .int .u8 e1, .string key1, .bool hk1] : Array Value)[j]?) ∧ ∀ j, W.cell? ⟨w.heap.size + 1, j, none⟩ = (#[.string nm2, .int .u8 k2, .int .i64 n2, .string s2, .slice la2 ll2 lc2, .slice fa2 fl2 fc2, .int .u8 e2, .string key2, .bool hk2] : Array Value)[j]?) := fun W hb =>
    ⟨hB0.trans (hb.mono hB0.size), fun j => Lib.cell_of_heap ((hb.block _ (by simp; omega)).trans (al_old _ (al_new _ rfl))) j, fun j => Lib.cell_of_heap ((hb.block _ (by simp)).trans (al_new _ (by simp))) j⟩
  have HB0 := Lib.hid hB0
  clear hB0
  obtain ⟨ans, hans⟩ : ∃ a, a = (q0 && q1) := ⟨_, rfl⟩
  have HANS := Lib.hid hans
  rw [← hans]
  clear hans
  go_enter Tryz.func151, Tryz.ntmps151
  go_wp2_with (first | (go_at_call 173; (with_reducible refine (HS.out _ HB0.out).mono ?_); rintro x w1 ⟨rfl, hb1⟩; have HB1 := Lib.hid hb1; clear hb1))
  all_goals
    go_ret
    first
      | exact ⟨by rw [HANS.out]; simp_all, HB0.out.trans (HB1.out.mono HB0.out.size)⟩
      | exact ⟨by rw [HANS.out]; simp_all, HB0.out⟩

set_option maxRecDepth 100000 in
set_option maxHeartbeats 2000000 in
theorem sfs_any (w : World) (la la' : Option Addr) (ll lc ll' lc' : Nat) (fn fn' : Nat → ByteArray) (F F' : Nat → V) (ih : ∀ i, i < ll → SvOk (F i)) (hcap : ll ≤ 9223372036854775807) (hcap' : ll' ≤ 9223372036854775807)
    (h : ∀ i, i < ll → (∃ b o, la = some ⟨b, o, none⟩ ∧ At w b (o + i * 9) (.string (fn i) :: (F i).cells)) ∧ (F i).In w) (h' : ∀ i, i < ll' → (∃ b o, la' = some ⟨b, o, none⟩ ∧ At w b (o + i * 9) (.string (fn' i) :: (F' i).cells)) ∧ (F' i).In w) :
    Calls Tryz.prog 99 #[.slice la ll lc, .slice la' ll' lc'] w fun x w' => x = .returned (.bool (decide (ll = ll') && allB ll (fun i => decide (fn i = fn' i) && (F i).same (F' i)))) ∧ Below w.heap.size w w' := by
  by_cases hl : ll = ll'
  · have HC := Lib.hid (show ∀ i, i < ll → ∀ W, Below w.heap.size w W → Calls Tryz.prog 151 #[.agg (.string (fn i) :: (F i).cells).toArray, .agg (.string (fn' i) :: (F' i).cells).toArray] W fun x w' => x = .returned (.bool ((fun i => decide (fn i = fn' i) && (F i).same (F' i)) i)) ∧ Below W.heap.size W w' from fun i hi W hb => sf_any (fn i) (fn' i) (F i) (F' i) (ih i hi) W ((h i hi).2.below hb) ((h' i (hl ▸ hi)).2.below hb))
    have R1 : Hid (HeldTo ll (fun i => decide (fn i = fn' i) && (F i).same (F' i)) → Ending.returned (.bool true) = .returned (.bool (decide (ll = ll') && allB ll (fun i => decide (fn i = fn' i) && (F i).same (F' i))))) := fun q => by rw [decide_eq_true hl, q.all]; rfl
    have R0 : Hid (∀ i, i < ll → (fun i => decide (fn i = fn' i) && (F i).same (F' i)) i = false → Ending.returned (.bool false) = .returned (.bool (decide (ll = ll') && allB ll (fun i => decide (fn i = fn' i) && (F i).same (F' i))))) := fun i hi q => by rw [allB_false hi q, Bool.and_false]
    have HL := Lib.hid h
    have HL' := Lib.hid (hl ▸ h' : ∀ i, i < ll → (∃ b o, la' = some ⟨b, o, none⟩ ∧ At w b (o + i * 9) (.string (fn' i) :: (F' i).cells)) ∧ (F' i).In w)
    clear h h' ih
    subst hl
    generalize (decide (ll = ll) && allB ll (fun i => decide (fn i = fn' i) && (F i).same (F' i))) = ans at R1 R0 ⊢
    go_enter Tryz.func99, Tryz.ntmps99
    go_wp2_with fail
    go_loopw [5] (fun i wr => ∃ j : Nat, j ≤ ll ∧ i = .int .i64 j ∧ HeldTo j (fun i => decide (fn i = fn' i) && (F i).same (F' i)) ∧ Below w.heap.size w wr) (fun i _ => ll - (intOf i).toNat)
    case atStart => exact ⟨0, Nat.zero_le _, rfl, HeldTo.zero, Below.refl _ _⟩
    case round =>
    obtain ⟨j, hj, rfl, hheld, hbw⟩ := hrel
    have HH := Lib.hid hheld
    have HB := Lib.hid hbw
    clear hheld hbw
    by_cases hlt : j < ll
    · have hlt' : (j : Int) < (ll : Int) := by omega
      have hj0 : (0 : Int) ≤ (j : Int) := by omega
      obtain ⟨⟨b1, o1, rfl, hat⟩, hin⟩ := HL.out j hlt
      obtain ⟨⟨b2, o2, rfl, hat'⟩, hin'⟩ := HL'.out j hlt
      have HE := Lib.hid (HC.out j hlt)
      have R0j := Lib.hid (R0.out j hlt)
      have HHs := Lib.hid (fun q => HH.out.succ (k := j) q)
      obtain ⟨p, hp⟩ : ∃ p, p = (fun i => decide (fn i = fn' i) && (F i).same (F' i)) j := ⟨_, rfl⟩
      simp only [] at hp
      rw [← hp] at HE R0j HHs
      clear hp
      obtain ⟨v, hv⟩ : ∃ v, F j = v := ⟨_, rfl⟩
      obtain ⟨u, hu⟩ : ∃ u, F' j = u := ⟨_, rfl⟩
      obtain ⟨nm1, hnm1⟩ : ∃ x, fn j = x := ⟨_, rfl⟩
      obtain ⟨nm2, hnm2⟩ : ∃ x, fn' j = x := ⟨_, rfl⟩
      rw [hv, hnm1] at hat
      rw [hv] at hin
      rw [hu, hnm2] at hat'
      rw [hu] at hin'
      rw [hv, hu, hnm1, hnm2] at HE
      cases v with
      | leaf => exact hin.elim
      | mk k1 n1 s1 la1 ll1 lc1 L1 fa1 fl1 fc1 fn1 F1 e1 key1 hk1 =>
      cases u with
      | leaf => exact hin'.elim
      | mk k2 n2 s2 la2 ll2 lc2 L2 fa2 fl2 fc2 fn2 F2 e2 key2 hk2 =>
      have KS : Hid (∀ W, Below wr.heap.size wr W → (fun W => Below wr.heap.size wr W ∧ W.cell? ⟨b1, o1 + j * 9, none⟩ = some (.string nm1) ∧ W.cell? ⟨b1, o1 + j * 9 + 1, none⟩ = some (.int .u8 k1) ∧ W.cell? ⟨b1, o1 + j * 9 + 2, none⟩ = some (.int .i64 n1) ∧ W.cell? ⟨b1, o1 + j * 9 + 3, none⟩ = some (.string s1) ∧ W.cell? ⟨b1, o1 + j * 9 + 4, none⟩ = some (.slice la1 ll1 lc1) ∧ W.cell? ⟨b1, o1 + j * 9 + 5, none⟩ = some (.slice fa1 fl1 fc1) ∧ W.cell? ⟨b1, o1 + j * 9 + 6, none⟩ = some (.int .u8 e1) ∧ W.cell? ⟨b1, o1 + j * 9 + 7, none⟩ = some (.string key1) ∧ W.cell? ⟨b1, o1 + j * 9 + 8, none⟩ = some (.bool hk1) ∧ W.cell? ⟨b2, o2 + j * 9, none⟩ = some (.string nm2) ∧ W.cell? ⟨b2, o2 + j * 9 + 1, none⟩ = some (.int .u8 k2) ∧ W.cell? ⟨b2, o2 + j * 9 + 2, none⟩ = some (.int .i64 n2) ∧ W.cell? ⟨b2, o2 + j * 9 + 3, none⟩ = some (.string s2) ∧ W.cell? ⟨b2, o2 + j * 9 + 4, none⟩ = some (.slice la2 ll2 lc2) ∧ W.cell? ⟨b2, o2 + j * 9 + 5, none⟩ = some (.slice fa2 fl2 fc2) ∧ W.cell? ⟨b2, o2 + j * 9 + 6, none⟩ = some (.int .u8 e2) ∧ W.cell? ⟨b2, o2 + j * 9 + 7, none⟩ = some (.string key2) ∧ W.cell? ⟨b2, o2 + j * 9 + 8, none⟩ = some (.bool hk2)) W) := fun W hb => by
        have ha := hat.below (HB.out.trans (hb.mono HB.out.size))
        have hb2 := hat'.below (HB.out.trans (hb.mono HB.out.size))
        exact ⟨hb, ha 0 (by simp [V.cells]), ha 1 (by simp [V.cells]), ha 2 (by simp [V.cells]), ha 3 (by simp [V.cells]), ha 4 (by simp [V.cells]), ha 5 (by simp [V.cells]), ha 6 (by simp [V.cells]), ha 7 (by simp [V.cells]), ha 8 (by simp [V.cells]), hb2 0 (by simp [V.cells]), hb2 1 (by simp [V.cells]), hb2 2 (by simp [V.cells]), hb2 3 (by simp [V.cells]), hb2 4 (by simp [V.cells]), hb2 5 (by simp [V.cells]), hb2 6 (by simp [V.cells]), hb2 7 (by simp [V.cells]), hb2 8 (by simp [V.cells])⟩
      have hS0 := KS.out _ (Below.refl _ _)
      simp only [V.cells] at HE
      clear hin hin' hat hat'
      cases p with
      | true =>
        go_wp2_with fail
        go_region_held3 (fun W => Below wr.heap.size wr W ∧ W.cell? ⟨b1, o1 + j * 9, none⟩ = some (.string nm1) ∧ W.cell? ⟨b1, o1 + j * 9 + 1, none⟩ = some (.int .u8 k1) ∧ W.cell? ⟨b1, o1 + j * 9 + 2, none⟩ = some (.int .i64 n1) ∧ W.cell? ⟨b1, o1 + j * 9 + 3, none⟩ = some (.string s1) ∧ W.cell? ⟨b1, o1 + j * 9 + 4, none⟩ = some (.slice la1 ll1 lc1) ∧ W.cell? ⟨b1, o1 + j * 9 + 5, none⟩ = some (.slice fa1 fl1 fc1) ∧ W.cell? ⟨b1, o1 + j * 9 + 6, none⟩ = some (.int .u8 e1) ∧ W.cell? ⟨b1, o1 + j * 9 + 7, none⟩ = some (.string key1) ∧ W.cell? ⟨b1, o1 + j * 9 + 8, none⟩ = some (.bool hk1) ∧ W.cell? ⟨b2, o2 + j * 9, none⟩ = some (.string nm2) ∧ W.cell? ⟨b2, o2 + j * 9 + 1, none⟩ = some (.int .u8 k2) ∧ W.cell? ⟨b2, o2 + j * 9 + 2, none⟩ = some (.int .i64 n2) ∧ W.cell? ⟨b2, o2 + j * 9 + 3, none⟩ = some (.string s2) ∧ W.cell? ⟨b2, o2 + j * 9 + 4, none⟩ = some (.slice la2 ll2 lc2) ∧ W.cell? ⟨b2, o2 + j * 9 + 5, none⟩ = some (.slice fa2 fl2 fc2) ∧ W.cell? ⟨b2, o2 + j * 9 + 6, none⟩ = some (.int .u8 e2) ∧ W.cell? ⟨b2, o2 + j * 9 + 7, none⟩ = some (.string key2) ∧ W.cell? ⟨b2, o2 + j * 9 + 8, none⟩ = some (.bool hk2))
          (first | exact KS.out _ ((Below.refl _ _).drew) | exact KS.out _ (Below.trans (And.left (by assumption)) (Below.mono (by assumption) (Below.size (And.left (by assumption))))))
          (first | (go_at_call 151; refine (HE.out _ ?_).mono ?_; (go_split_ands; exact Below.trans HB.out (Below.mono (by assumption) HB.out.size)); rintro x w1 ⟨rfl, hb1⟩))
        have hfin : Hid (Below w.heap.size w _) := HB.out.trans (Below.mono (And.left (by assumption)) HB.out.size)
        go_wp2_with fail
        go_roundw
        case rel => exact ⟨j + 1, by omega, by go_num, HHs.out (by trivial), hfin.out⟩
        case measure => simp [intOf]; omega
      | false =>
        go_wp2_with fail
        go_region_held3 (fun W => Below wr.heap.size wr W ∧ W.cell? ⟨b1, o1 + j * 9, none⟩ = some (.string nm1) ∧ W.cell? ⟨b1, o1 + j * 9 + 1, none⟩ = some (.int .u8 k1) ∧ W.cell? ⟨b1, o1 + j * 9 + 2, none⟩ = some (.int .i64 n1) ∧ W.cell? ⟨b1, o1 + j * 9 + 3, none⟩ = some (.string s1) ∧ W.cell? ⟨b1, o1 + j * 9 + 4, none⟩ = some (.slice la1 ll1 lc1) ∧ W.cell? ⟨b1, o1 + j * 9 + 5, none⟩ = some (.slice fa1 fl1 fc1) ∧ W.cell? ⟨b1, o1 + j * 9 + 6, none⟩ = some (.int .u8 e1) ∧ W.cell? ⟨b1, o1 + j * 9 + 7, none⟩ = some (.string key1) ∧ W.cell? ⟨b1, o1 + j * 9 + 8, none⟩ = some (.bool hk1) ∧ W.cell? ⟨b2, o2 + j * 9, none⟩ = some (.string nm2) ∧ W.cell? ⟨b2, o2 + j * 9 + 1, none⟩ = some (.int .u8 k2) ∧ W.cell? ⟨b2, o2 + j * 9 + 2, none⟩ = some (.int .i64 n2) ∧ W.cell? ⟨b2, o2 + j * 9 + 3, none⟩ = some (.string s2) ∧ W.cell? ⟨b2, o2 + j * 9 + 4, none⟩ = some (.slice la2 ll2 lc2) ∧ W.cell? ⟨b2, o2 + j * 9 + 5, none⟩ = some (.slice fa2 fl2 fc2) ∧ W.cell? ⟨b2, o2 + j * 9 + 6, none⟩ = some (.int .u8 e2) ∧ W.cell? ⟨b2, o2 + j * 9 + 7, none⟩ = some (.string key2) ∧ W.cell? ⟨b2, o2 + j * 9 + 8, none⟩ = some (.bool hk2))
          (first | exact KS.out _ ((Below.refl _ _).drew) | exact KS.out _ (Below.trans (And.left (by assumption)) (Below.mono (by assumption) (Below.size (And.left (by assumption))))))
          (first | (go_at_call 151; refine (HE.out _ ?_).mono ?_; (go_split_ands; exact Below.trans HB.out (Below.mono (by assumption) HB.out.size)); rintro x w1 ⟨rfl, hb1⟩))
        have hfin : Hid (Below w.heap.size w _) := HB.out.trans (Below.mono (And.left (by assumption)) HB.out.size)
        go_wp2_with fail
        go_ret
        exact ⟨R0j.out (by trivial), hfin.out⟩
    · obtain rfl : j = ll := by omega
      have R := Lib.hid (R1.out HH.out)
      go_wp2_with fail
      go_ret
      exact ⟨R.out, HB.out⟩
  · have R : Hid (Ending.returned (.bool false) = .returned (.bool (decide (ll = ll') && allB ll (fun i => decide (fn i = fn' i) && (F i).same (F' i))))) := by rw [decide_eq_false hl]; exact rfl
    have hl' : ((ll : Int) != (ll' : Int)) = true := by simp; omega
    clear h h' ih hl
    generalize (decide (ll = ll') && allB ll (fun i => decide (fn i = fn' i) && (F i).same (F' i))) = ans at R ⊢
    go_enter Tryz.func99, Tryz.ntmps99
    go_wp2_with fail
    go_ret
    exact ⟨R.out, Below.refl _ _⟩

set_option maxRecDepth 100000 in
set_option maxHeartbeats 8000000 in
theorem sv_any : ∀ v : V, SvOk v := by
  intro v
  induction v with
  | leaf => intro u w h; exact h.elim
  | mk k1 n1 s1 la1 ll1 lc1 L1 fa1 fl1 fc1 fn1 F1 e1 key1 hk1 ihL ihF =>
  intro u w hv hu
  cases u with
  | leaf => exact hu.elim
  | mk k2 n2 s2 la2 ll2 lc2 L2 fa2 fl2 fc2 fn2 F2 e2 key2 hk2 =>
  have HL : Hid (∀ W, Below w.heap.size w W → Calls Tryz.prog 196 #[.slice la1 ll1 lc1, .slice la2 ll2 lc2] W fun x w' => x = .returned (.bool (decide (ll1 = ll2) && allB ll1 (fun i => (L1 i).same (L2 i)))) ∧ Below W.heap.size W w') := fun W hb => by
    have a := hv.below hb
    have b := hu.below hb
    exact svs_any W la1 la2 ll1 lc1 ll2 lc2 L1 L2 (fun i _ => ihL i) (by have := a.2.2.2.2.2.1; unfold maxLen at this; omega) (by have := b.2.2.2.2.2.1; unfold maxLen at this; omega) a.2.2.2.2.2.2.2.1 b.2.2.2.2.2.2.2.1
  have HF : Hid (∀ W, Below w.heap.size w W → Calls Tryz.prog 99 #[.slice fa1 fl1 fc1, .slice fa2 fl2 fc2] W fun x w' => x = .returned (.bool (decide (fl1 = fl2) && allB fl1 (fun i => decide (fn1 i = fn2 i) && (F1 i).same (F2 i)))) ∧ Below W.heap.size W w') := fun W hb => by
    have a := hv.below hb
    have b := hu.below hb
    exact sfs_any W fa1 fa2 fl1 fc1 fl2 fc2 fn1 fn2 F1 F2 (fun i _ => ihF i) (by have := a.2.2.2.2.2.2.1; unfold maxLen at this; omega) (by have := b.2.2.2.2.2.2.1; unfold maxLen at this; omega) (fun i hi => ⟨(a.2.2.2.2.2.2.2.2 i hi).1, (a.2.2.2.2.2.2.2.2 i hi).2.2⟩) (fun i hi => ⟨(b.2.2.2.2.2.2.2.2 i hi).1, (b.2.2.2.2.2.2.2.2 i hi).2.2⟩)
  clear hv hu ihL ihF
  obtain ⟨qL, hqL⟩ : ∃ q, (decide (ll1 = ll2) && allB ll1 (fun i => (L1 i).same (L2 i))) = q := ⟨_, rfl⟩
  obtain ⟨qF, hqF⟩ : ∃ q, (decide (fl1 = fl2) && allB fl1 (fun i => decide (fn1 i = fn2 i) && (F1 i).same (F2 i))) = q := ⟨_, rfl⟩
  obtain ⟨q0, hq0⟩ : ∃ q, (k1 == k2) = q := ⟨_, rfl⟩
  obtain ⟨q1, hq1⟩ : ∃ q, (n1 == n2) = q := ⟨_, rfl⟩
  obtain ⟨q2, hq2⟩ : ∃ q, (s1.toList == s2.toList) = q := ⟨_, rfl⟩
  obtain ⟨q3, hq3⟩ : ∃ q, (e1 == e2) = q := ⟨_, rfl⟩
  obtain ⟨q4, hq4⟩ : ∃ q, (key1.toList == key2.toList) = q := ⟨_, rfl⟩
  obtain ⟨q5, hq5⟩ : ∃ q, (hk1 == hk2) = q := ⟨_, rfl⟩
  have HANS : Hid ((V.mk k1 n1 s1 la1 ll1 lc1 L1 fa1 fl1 fc1 fn1 F1 e1 key1 hk1).same (.mk k2 n2 s2 la2 ll2 lc2 L2 fa2 fl2 fc2 fn2 F2 e2 key2 hk2) = (q0 && (q1 && (q2 && (qL && (qF && (q3 && (q4 && q5)))))))) := by
    rw [← hqL, ← hqF, ← hq0, ← hq1, ← hq2, ← hq3, ← hq4, ← hq5]
    rw [show (V.mk k1 n1 s1 la1 ll1 lc1 L1 fa1 fl1 fc1 fn1 F1 e1 key1 hk1).same (.mk k2 n2 s2 la2 ll2 lc2 L2 fa2 fl2 fc2 fn2 F2 e2 key2 hk2) = (ownB k1 n1 s1 e1 key1 hk1 k2 n2 s2 e2 key2 hk2 && (decide (ll1 = ll2) && (decide (fl1 = fl2) && (allB ll1 (fun i => (L1 i).same (L2 i)) && allB fl1 (fun i => decide (fn1 i = fn2 i) && (F1 i).same (F2 i)))))) from rfl]
    unfold ownB
    rw [dec_int k1 k2, dec_int n1 n2, dec_bytes s1 s2, dec_int e1 e2, dec_bytes key1 key2, dec_bool hk1 hk2]
    generalize allB ll1 _ = x1
    generalize allB fl1 _ = x2
    generalize decide (ll1 = ll2) = x3
    generalize decide (fl1 = fl2) = x4
    ac_rfl
  rw [hqL] at HL
  rw [hqF] at HF
  clear hqL hqF
  obtain ⟨ans, hans⟩ : ∃ a, a = (V.mk k1 n1 s1 la1 ll1 lc1 L1 fa1 fl1 fc1 fn1 F1 e1 key1 hk1).same (.mk k2 n2 s2 la2 ll2 lc2 L2 fa2 fl2 fc2 fn2 F2 e2 key2 hk2) := ⟨_, rfl⟩
  rw [← hans] at HANS ⊢
  clear hans
  simp only [V.agg, V.cells]
  have hB0 : Below w.heap.size w ((w.alloc (.cells #[.int .u8 k1, .int .i64 n1, .string s1, .slice la1 ll1 lc1, .slice fa1 fl1 fc1, .int .u8 e1, .string key1, .bool hk1] 66)).alloc (.cells #[.int .u8 k2, .int .i64 n2, .string s2, .slice la2 ll2 lc2, .slice fa2 fl2 fc2, .int .u8 e2, .string key2, .bool hk2] 66)) := ((Below.refl _ _).alloc (Nat.le_refl _) _).alloc (by simp) _
  have hK : Hid (∀ W, Below ((w.alloc (.cells #[.int .u8 k1, .int .i64 n1, .string s1, .slice la1 ll1 lc1, .slice fa1 fl1 fc1, .int .u8 e1, .string key1, .bool hk1] 66)).alloc (.cells #[.int .u8 k2, .int .i64 n2, .string s2, .slice la2 ll2 lc2, .slice fa2 fl2 fc2, .int .u8 e2, .string key2, .bool hk2] 66)).heap.size ((w.alloc (.cells #[.int .u8 k1, .int .i64 n1, .string s1, .slice la1 ll1 lc1, .slice fa1 fl1 fc1, .int .u8 e1, .string key1, .bool hk1] 66)).alloc (.cells #[.int .u8 k2, .int .i64 n2, .string s2, .slice la2 ll2 lc2, .slice fa2 fl2 fc2, .int .u8 e2, .string key2, .bool hk2] 66)) W → Below w.heap.size w W ∧ (∀ j, W.cell? ⟨w.heap.size, j, none⟩ = (#[.int .u8 k1, .int .i64 n1, .string s1, .slice la1 ll1 lc1, .slice fa1 fl1 fc1, .int .u8 e1, .string key1, .bool hk1] : Array Value)[j]?) ∧ ∀ j, W.cell? ⟨w.heap.size + 1, j, none⟩ = (#[.int .u8 k2, .int .i64 n2, .string s2, .slice la2 ll2 lc2, .slice fa2 fl2 fc2, .int .u8 e2, .string key2, .bool hk2] : Array Value)[j]?) := fun W hb =>
    ⟨hB0.trans (hb.mono hB0.size), fun j => Lib.cell_of_heap ((hb.block _ (by simp; omega)).trans (al_old _ (al_new _ rfl))) j, fun j => Lib.cell_of_heap ((hb.block _ (by simp)).trans (al_new _ (by simp))) j⟩
  have HB0 := Lib.hid hB0
  clear hB0
  go_enter Tryz.func173, Tryz.ntmps173
  go_wp2_with (first
    | (go_at_call 196; (with_reducible refine (HL.out _ HB0.out).mono ?_); rintro x w1 ⟨rfl, hb1⟩; have HB1 := Lib.hid hb1; have hq := hK.out _ hb1; have cw14 : w1.cell? ⟨w.heap.size, 4, none⟩ = some (.slice fa1 fl1 fc1) := (hq.2.1 4).trans rfl; have cw15 : w1.cell? ⟨w.heap.size, 5, none⟩ = some (.int .u8 e1) := (hq.2.1 5).trans rfl; have cw16 : w1.cell? ⟨w.heap.size, 6, none⟩ = some (.string key1) := (hq.2.1 6).trans rfl; have cw17 : w1.cell? ⟨w.heap.size, 7, none⟩ = some (.bool hk1) := (hq.2.1 7).trans rfl; have dw14 : w1.cell? ⟨w.heap.size + 1, 4, none⟩ = some (.slice fa2 fl2 fc2) := (hq.2.2 4).trans rfl; have dw15 : w1.cell? ⟨w.heap.size + 1, 5, none⟩ = some (.int .u8 e2) := (hq.2.2 5).trans rfl; have dw16 : w1.cell? ⟨w.heap.size + 1, 6, none⟩ = some (.string key2) := (hq.2.2 6).trans rfl; have dw17 : w1.cell? ⟨w.heap.size + 1, 7, none⟩ = some (.bool hk2) := (hq.2.2 7).trans rfl; clear hq hb1)
    | (go_at_call 99; (with_reducible refine (HF.out _ (HB0.out.trans (HB1.out.mono HB0.out.size))).mono ?_); rintro x w2 ⟨rfl, hb2⟩; have HB2 : Hid (Below ((w.alloc (.cells #[.int .u8 k1, .int .i64 n1, .string s1, .slice la1 ll1 lc1, .slice fa1 fl1 fc1, .int .u8 e1, .string key1, .bool hk1] 66)).alloc (.cells #[.int .u8 k2, .int .i64 n2, .string s2, .slice la2 ll2 lc2, .slice fa2 fl2 fc2, .int .u8 e2, .string key2, .bool hk2] 66)).heap.size ((w.alloc (.cells #[.int .u8 k1, .int .i64 n1, .string s1, .slice la1 ll1 lc1, .slice fa1 fl1 fc1, .int .u8 e1, .string key1, .bool hk1] 66)).alloc (.cells #[.int .u8 k2, .int .i64 n2, .string s2, .slice la2 ll2 lc2, .slice fa2 fl2 fc2, .int .u8 e2, .string key2, .bool hk2] 66)) w2) := HB1.out.trans (hb2.mono HB1.out.size); have hq := hK.out _ HB2.out; have cw25 : w2.cell? ⟨w.heap.size, 5, none⟩ = some (.int .u8 e1) := (hq.2.1 5).trans rfl; have cw26 : w2.cell? ⟨w.heap.size, 6, none⟩ = some (.string key1) := (hq.2.1 6).trans rfl; have cw27 : w2.cell? ⟨w.heap.size, 7, none⟩ = some (.bool hk1) := (hq.2.1 7).trans rfl; have dw25 : w2.cell? ⟨w.heap.size + 1, 5, none⟩ = some (.int .u8 e2) := (hq.2.2 5).trans rfl; have dw26 : w2.cell? ⟨w.heap.size + 1, 6, none⟩ = some (.string key2) := (hq.2.2 6).trans rfl; have dw27 : w2.cell? ⟨w.heap.size + 1, 7, none⟩ = some (.bool hk2) := (hq.2.2 7).trans rfl; clear hq hb2))
  all_goals
    go_ret
    first
      | exact ⟨by rw [HANS.out]; simp_all, HB0.out.trans (HB2.out.mono HB0.out.size)⟩
      | exact ⟨by rw [HANS.out]; simp_all, HB0.out.trans (HB1.out.mono HB0.out.size)⟩
      | exact ⟨by rw [HANS.out]; simp_all, HB0.out⟩

end Go.Proofs.YtajmdhcknmmbbaaGreatDoor
