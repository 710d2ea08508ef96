/-
  Names alone: what is imported under this name lies in other texts.
  Conditions: none.
  Walks: SameValue, SameValues, SameField, SameFields of the laws answer 'V.same'; old memory is as it was.
  Conditions: what is held against one another lies in memory.
  Walks: OperDoes returns true; old memory is as it was.
  Conditions: the list lies in memory, its values have at most 2^20 parts together; the three tables hold what the program's text lays in them.
-/
import Derived.Test.YtmhemajcnfcdmaaGreatDoorOMb
import Derived.Test.YtmhemajcnfcdmaaGreatDoorSize
import Derived.Deep.Heap
import Derived.Deep.RegionHeld3
import Derived.Test.YtmhemajcnfcdmaaGreatDoorOdB
import Derived.Test.YtmhemajcnfcdmaaGreatDoorOMi

namespace Go.Proofs.YtmhemajcnfcdmaaGreatDoor
set_option linter.unusedVariables false
set_option linter.unusedSimpArgs false
open Go.RowKit Go.Deep Go.WideShapes
theorem al_old {W : World} {k : Nat} {o : Obj} (o' : Obj) (h : W.heap[k]? = some o) : (W.alloc o').heap[k]? = some o := (Below.heap_alloc _ _ _ (Array.getElem?_eq_some_iff.1 h).1).trans h
theorem al_new {W : World} {s : Nat} (o : Obj) (h : W.heap.size = s) : (W.alloc o).heap[s]? = some o := by subst h; exact Go.Deep.blk_alloc_new W o
def SvOk (v : V) : Prop := ∀ (u : V) (w : World), v.In w → u.In w → Calls Tryz.prog 9 #[v.agg, u.agg] w fun x w' => x = .returned (.bool (v.same u)) ∧ Below w.heap.size w w'
theorem dec_bytes (a b : ByteArray) : decide (a = b) = (a.toList == b.toList) := by
  by_cases h : a = b
  · subst h; simp
  · rw [decide_eq_false h, bytes_ne h]
theorem dec_int (a b : Int) : decide (a = b) = (a == b) := by
  by_cases h : a = b
  · subst h; simp
  · rw [decide_eq_false h]; exact (beq_eq_false_iff_ne.2 h).symm
theorem dec_bool (a b : Bool) : decide (a = b) = (a == b) := by cases a <;> cases b <;> rfl
set_option maxRecDepth 100000 in
set_option maxHeartbeats 2000000 in
theorem svs_any (w : World) (la la' : Option Addr) (ll lc ll' lc' : Nat) (L L' : Nat → V) (ih : ∀ i, i < ll → SvOk (L i)) (hcap : ll ≤ 9223372036854775807) (hcap' : ll' ≤ 9223372036854775807)
    (h : ∀ i, i < ll → (∃ b o, la = some ⟨b, o, none⟩ ∧ At w b (o + i * 8) (L i).cells) ∧ (L i).In w) (h' : ∀ i, i < ll' → (∃ b o, la' = some ⟨b, o, none⟩ ∧ At w b (o + i * 8) (L' i).cells) ∧ (L' i).In w) :
    Calls Tryz.prog 23 #[.slice la ll lc, .slice la' ll' lc'] w fun x w' => x = .returned (.bool (decide (ll = ll') && allB ll (fun i => (L i).same (L' i)))) ∧ Below w.heap.size w w' := by
  by_cases hl : ll = ll'
  · have HC := Lib.hid (show ∀ i, i < ll → ∀ W, Below w.heap.size w W → Calls Tryz.prog 9 #[(L i).agg, (L' i).agg] W fun x w' => x = .returned (.bool ((fun i => (L i).same (L' i)) i)) ∧ Below W.heap.size W w' from fun i hi W hb => ih i hi (L' i) W ((h i hi).2.below hb) ((h' i (hl ▸ hi)).2.below hb))
    have R1 : Hid (HeldTo ll (fun i => (L i).same (L' i)) → Ending.returned (.bool true) = .returned (.bool (decide (ll = ll') && allB ll (fun i => (L i).same (L' i))))) := fun q => by rw [decide_eq_true hl, q.all]; rfl
    have R0 : Hid (∀ i, i < ll → (fun i => (L i).same (L' i)) i = false → Ending.returned (.bool false) = .returned (.bool (decide (ll = ll') && allB ll (fun i => (L i).same (L' i))))) := fun i hi q => by rw [allB_false hi q, Bool.and_false]
    have HL := Lib.hid h
    have HL' := Lib.hid (hl ▸ h' : ∀ i, i < ll → (∃ b o, la' = some ⟨b, o, none⟩ ∧ At w b (o + i * 8) (L' i).cells) ∧ (L' i).In w)
    clear h h' ih
    subst hl
    generalize (decide (ll = ll) && allB ll (fun i => (L i).same (L' i))) = ans at R1 R0 ⊢
    go_enter Tryz.func23, Tryz.ntmps23
    go_wp2_with fail
    go_loopw [5] (fun i wr => ∃ j : Nat, j ≤ ll ∧ i = .int .i64 j ∧ HeldTo j (fun i => (L i).same (L' i)) ∧ Below w.heap.size w wr) (fun i _ => ll - (intOf i).toNat)
    case atStart => exact ⟨0, Nat.zero_le _, rfl, HeldTo.zero, Below.refl _ _⟩
    case round =>
    obtain ⟨j, hj, rfl, hheld, hbw⟩ := hrel
    have HH := Lib.hid hheld
    have HB := Lib.hid hbw
    clear hheld hbw
    by_cases hlt : j < ll
    · have hlt' : (j : Int) < (ll : Int) := by omega
      have hj0 : (0 : Int) ≤ (j : Int) := by omega
      obtain ⟨⟨b1, o1, rfl, hat⟩, hin⟩ := HL.out j hlt
      obtain ⟨⟨b2, o2, rfl, hat'⟩, hin'⟩ := HL'.out j hlt
      have HE := Lib.hid (HC.out j hlt)
      have R0j := Lib.hid (R0.out j hlt)
      have HHs := Lib.hid (fun q => HH.out.succ (k := j) q)
      obtain ⟨p, hp⟩ : ∃ p, p = (fun i => (L i).same (L' i)) j := ⟨_, rfl⟩
      simp only [] at hp
      rw [← hp] at HE R0j HHs
      clear hp
      obtain ⟨v, hv⟩ : ∃ v, L j = v := ⟨_, rfl⟩
      obtain ⟨u, hu⟩ : ∃ u, L' j = u := ⟨_, rfl⟩
      rw [hv] at hat hin HE
      rw [hu] at hat' hin' HE
      cases v with
      | leaf => exact hin.elim
      | mk k1 n1 s1 la1 ll1 lc1 L1 fa1 fl1 fc1 fn1 F1 e1 key1 hk1 =>
      cases u with
      | leaf => exact hin'.elim
      | mk k2 n2 s2 la2 ll2 lc2 L2 fa2 fl2 fc2 fn2 F2 e2 key2 hk2 =>
      have KS : Hid (∀ W, Below wr.heap.size wr W → (fun W => Below wr.heap.size wr W ∧ W.cell? ⟨b1, o1 + j * 8, none⟩ = some (.int .u8 k1) ∧ W.cell? ⟨b1, o1 + j * 8 + 1, none⟩ = some (.int .i64 n1) ∧ W.cell? ⟨b1, o1 + j * 8 + 2, none⟩ = some (.string s1) ∧ W.cell? ⟨b1, o1 + j * 8 + 3, none⟩ = some (.slice la1 ll1 lc1) ∧ W.cell? ⟨b1, o1 + j * 8 + 4, none⟩ = some (.slice fa1 fl1 fc1) ∧ W.cell? ⟨b1, o1 + j * 8 + 5, none⟩ = some (.int .u8 e1) ∧ W.cell? ⟨b1, o1 + j * 8 + 6, none⟩ = some (.string key1) ∧ W.cell? ⟨b1, o1 + j * 8 + 7, none⟩ = some (.bool hk1) ∧ W.cell? ⟨b2, o2 + j * 8, none⟩ = some (.int .u8 k2) ∧ W.cell? ⟨b2, o2 + j * 8 + 1, none⟩ = some (.int .i64 n2) ∧ W.cell? ⟨b2, o2 + j * 8 + 2, none⟩ = some (.string s2) ∧ W.cell? ⟨b2, o2 + j * 8 + 3, none⟩ = some (.slice la2 ll2 lc2) ∧ W.cell? ⟨b2, o2 + j * 8 + 4, none⟩ = some (.slice fa2 fl2 fc2) ∧ W.cell? ⟨b2, o2 + j * 8 + 5, none⟩ = some (.int .u8 e2) ∧ W.cell? ⟨b2, o2 + j * 8 + 6, none⟩ = some (.string key2) ∧ W.cell? ⟨b2, o2 + j * 8 + 7, none⟩ = some (.bool hk2)) W) := fun W hb => by
        have ha := hat.below (HB.out.trans (hb.mono HB.out.size))
        have hb2 := hat'.below (HB.out.trans (hb.mono HB.out.size))
        exact ⟨hb, ha 0 (by simp [V.cells]), ha 1 (by simp [V.cells]), ha 2 (by simp [V.cells]), ha 3 (by simp [V.cells]), ha 4 (by simp [V.cells]), ha 5 (by simp [V.cells]), ha 6 (by simp [V.cells]), ha 7 (by simp [V.cells]), hb2 0 (by simp [V.cells]), hb2 1 (by simp [V.cells]), hb2 2 (by simp [V.cells]), hb2 3 (by simp [V.cells]), hb2 4 (by simp [V.cells]), hb2 5 (by simp [V.cells]), hb2 6 (by simp [V.cells]), hb2 7 (by simp [V.cells])⟩
      have hS0 := KS.out _ (Below.refl _ _)
      simp only [V.agg, V.cells] at HE
      clear hin hin' hat hat'
      cases p with
      | true =>
        go_wp2_with fail
        go_region_held3 (fun W => Below wr.heap.size wr W ∧ W.cell? ⟨b1, o1 + j * 8, none⟩ = some (.int .u8 k1) ∧ W.cell? ⟨b1, o1 + j * 8 + 1, none⟩ = some (.int .i64 n1) ∧ W.cell? ⟨b1, o1 + j * 8 + 2, none⟩ = some (.string s1) ∧ W.cell? ⟨b1, o1 + j * 8 + 3, none⟩ = some (.slice la1 ll1 lc1) ∧ W.cell? ⟨b1, o1 + j * 8 + 4, none⟩ = some (.slice fa1 fl1 fc1) ∧ W.cell? ⟨b1, o1 + j * 8 + 5, none⟩ = some (.int .u8 e1) ∧ W.cell? ⟨b1, o1 + j * 8 + 6, none⟩ = some (.string key1) ∧ W.cell? ⟨b1, o1 + j * 8 + 7, none⟩ = some (.bool hk1) ∧ W.cell? ⟨b2, o2 + j * 8, none⟩ = some (.int .u8 k2) ∧ W.cell? ⟨b2, o2 + j * 8 + 1, none⟩ = some (.int .i64 n2) ∧ W.cell? ⟨b2, o2 + j * 8 + 2, none⟩ = some (.string s2) ∧ W.cell? ⟨b2, o2 + j * 8 + 3, none⟩ = some (.slice la2 ll2 lc2) ∧ W.cell? ⟨b2, o2 + j * 8 + 4, none⟩ = some (.slice fa2 fl2 fc2) ∧ W.cell? ⟨b2, o2 + j * 8 + 5, none⟩ = some (.int .u8 e2) ∧ W.cell? ⟨b2, o2 + j * 8 + 6, none⟩ = some (.string key2) ∧ W.cell? ⟨b2, o2 + j * 8 + 7, none⟩ = some (.bool hk2))
          (first | exact KS.out _ ((Below.refl _ _).drew) | exact KS.out _ (Below.trans (And.left (by assumption)) (Below.mono (by assumption) (Below.size (And.left (by assumption))))))
          (first | (go_at_call 9; refine (HE.out _ ?_).mono ?_; (go_split_ands; exact Below.trans HB.out (Below.mono (by assumption) HB.out.size)); rintro x w1 ⟨rfl, hb1⟩))
        have hfin : Hid (Below w.heap.size w _) := HB.out.trans (Below.mono (And.left (by assumption)) HB.out.size)
        go_wp2_with fail
        go_roundw
        case rel => exact ⟨j + 1, by omega, by go_num, HHs.out (by trivial), hfin.out⟩
        case measure => simp [intOf]; omega
      | false =>
        go_wp2_with fail
        go_region_held3 (fun W => Below wr.heap.size wr W ∧ W.cell? ⟨b1, o1 + j * 8, none⟩ = some (.int .u8 k1) ∧ W.cell? ⟨b1, o1 + j * 8 + 1, none⟩ = some (.int .i64 n1) ∧ W.cell? ⟨b1, o1 + j * 8 + 2, none⟩ = some (.string s1) ∧ W.cell? ⟨b1, o1 + j * 8 + 3, none⟩ = some (.slice la1 ll1 lc1) ∧ W.cell? ⟨b1, o1 + j * 8 + 4, none⟩ = some (.slice fa1 fl1 fc1) ∧ W.cell? ⟨b1, o1 + j * 8 + 5, none⟩ = some (.int .u8 e1) ∧ W.cell? ⟨b1, o1 + j * 8 + 6, none⟩ = some (.string key1) ∧ W.cell? ⟨b1, o1 + j * 8 + 7, none⟩ = some (.bool hk1) ∧ W.cell? ⟨b2, o2 + j * 8, none⟩ = some (.int .u8 k2) ∧ W.cell? ⟨b2, o2 + j * 8 + 1, none⟩ = some (.int .i64 n2) ∧ W.cell? ⟨b2, o2 + j * 8 + 2, none⟩ = some (.string s2) ∧ W.cell? ⟨b2, o2 + j * 8 + 3, none⟩ = some (.slice la2 ll2 lc2) ∧ W.cell? ⟨b2, o2 + j * 8 + 4, none⟩ = some (.slice fa2 fl2 fc2) ∧ W.cell? ⟨b2, o2 + j * 8 + 5, none⟩ = some (.int .u8 e2) ∧ W.cell? ⟨b2, o2 + j * 8 + 6, none⟩ = some (.string key2) ∧ W.cell? ⟨b2, o2 + j * 8 + 7, none⟩ = some (.bool hk2))
          (first | exact KS.out _ ((Below.refl _ _).drew) | exact KS.out _ (Below.trans (And.left (by assumption)) (Below.mono (by assumption) (Below.size (And.left (by assumption))))))
          (first | (go_at_call 9; refine (HE.out _ ?_).mono ?_; (go_split_ands; exact Below.trans HB.out (Below.mono (by assumption) HB.out.size)); rintro x w1 ⟨rfl, hb1⟩))
        have hfin : Hid (Below w.heap.size w _) := HB.out.trans (Below.mono (And.left (by assumption)) HB.out.size)
        go_wp2_with fail
        go_ret
        exact ⟨R0j.out (by trivial), hfin.out⟩
    · obtain rfl : j = ll := by omega
      have R := Lib.hid (R1.out HH.out)
      go_wp2_with fail
      go_ret
      exact ⟨R.out, HB.out⟩
  · have R : Hid (Ending.returned (.bool false) = .returned (.bool (decide (ll = ll') && allB ll (fun i => (L i).same (L' i))))) := by rw [decide_eq_false hl]; exact rfl
    have hl' : ((ll : Int) != (ll' : Int)) = true := by simp; omega
    clear h h' ih hl
    generalize (decide (ll = ll') && allB ll (fun i => (L i).same (L' i))) = ans at R ⊢
    go_enter Tryz.func23, Tryz.ntmps23
    go_wp2_with fail
    go_ret
    exact ⟨R.out, Below.refl _ _⟩
set_option maxRecDepth 100000 in
set_option maxHeartbeats 4000000 in
theorem sf_any (nm1 nm2 : ByteArray) (v u : V) (hs : SvOk v) (w : World) (hv : v.In w) (hu : u.In w) :
    Calls Tryz.prog 87 #[.agg (.string nm1 :: v.cells).toArray, .agg (.string nm2 :: u.cells).toArray] w fun x w' => x = .returned (.bool (decide (nm1 = nm2) && v.same u)) ∧ Below w.heap.size w w' := by
  have HS := Lib.hid (fun W (hb : Below w.heap.size w W) => hs u W (hv.below hb) (hu.below hb))
  rw [dec_bytes]
  obtain ⟨q0, hq0⟩ : ∃ q, (nm1.toList == nm2.toList) = q := ⟨_, rfl⟩
  rw [hq0]
  obtain ⟨q1, hq1⟩ : ∃ q, v.same u = q := ⟨_, rfl⟩
  rw [hq1] at HS ⊢
  clear hq1
  cases v with
  | leaf => exact hv.elim
  | mk k1 n1 s1 la1 ll1 lc1 L1 fa1 fl1 fc1 fn1 F1 e1 key1 hk1 =>
  cases u with
  | leaf => exact hu.elim
  | mk k2 n2 s2 la2 ll2 lc2 L2 fa2 fl2 fc2 fn2 F2 e2 key2 hk2 =>
  clear hv hu hs
  simp only [V.agg, V.cells] at HS ⊢
  have hB0 : Below w.heap.size w ((w.alloc (.cells #[.string nm1, .int .u8 k1, .int .i64 n1, .string s1, .slice la1 ll1 lc1, .slice fa1 fl1 fc1, .int .u8 e1, .string key1, .bool hk1] 78)).alloc (.cells #[.string nm2, .int .u8 k2, .int .i64 n2, .string s2, .slice la2 ll2 lc2, .slice fa2 fl2 fc2, .int .u8 e2, .string key2, .bool hk2] 78)) := ((Below.refl _ _).alloc (Nat.le_refl _) _).alloc (by simp) _
  have hK : Hid (∀ W, Below ((w.alloc (.cells #[.string nm1, .int .u8 k1, .int .i64 n1, .string s1, .slice la1 ll1 lc1, .slice fa1 fl1 fc1, .int .u8 e1, .string key1, .bool hk1] 78)).alloc (.cells #[.string nm2, .int .u8 k2, .int .i64 n2, .string s2, .slice la2 ll2 lc2, .slice fa2 fl2 fc2, .int .u8 e2, .string key2, .bool hk2] 78)).heap.size ((w.alloc (.cells #[.string nm1, .int .u8 k1, .int .i64 n1, .string s1, .slice la1 ll1 lc1, .slice fa1 fl1 fc1, .int .u8 e1, .string key1, .bool hk1] 78)).alloc (.cells #[.string nm2, .int .u8 k2, .int .i64 n2, .string s2, .slice la2 ll2 lc2, .slice fa2 fl2 fc2, .int .u8 e2, .string key2, .bool hk2] 78)) W → Below w.heap.size w W ∧ (∀ j, W.cell? ⟨w.heap.size, j, none⟩ = (#[.string nm1, .int .u8 k1, .int .i64 n1, .string s1, .slice la1 ll1 lc1, .slice fa1 fl1 fc1, .int .u8 e1, .string key1, .bool hk1] : Array Value)[j]?) ∧ ∀ j, W.cell? ⟨w.heap.size + 1, j, none⟩ = (#[.string nm2, .int .u8 k2, .int .i64 n2, .string s2, .slice la2 ll2 lc2, .slice fa2 fl2 fc2, .int .u8 e2, .string key2, .bool hk2] : Array Value)[j]?) := fun W hb =>
    ⟨hB0.trans (hb.mono hB0.size), fun j => Lib.cell_of_heap ((hb.block _ (by simp; omega)).trans (al_old _ (al_new _ rfl))) j, fun j => Lib.cell_of_heap ((hb.block _ (by simp)).trans (al_new _ (by simp))) j⟩
  have HB0 := Lib.hid hB0
  clear hB0
  obtain ⟨ans, hans⟩ : ∃ a, a = (q0 && q1) := ⟨_, rfl⟩
  have HANS := Lib.hid hans
  rw [← hans]
  clear hans
  go_enter Tryz.func87, Tryz.ntmps87
  go_wp2_with (first | (go_at_call 9; (with_reducible refine (HS.out _ HB0.out).mono ?_); rintro x w1 ⟨rfl, hb1⟩; have HB1 := Lib.hid hb1; clear hb1))
  all_goals
    go_ret
    first
      | exact ⟨by rw [HANS.out]; simp_all, HB0.out.trans (HB1.out.mono HB0.out.size)⟩
      | exact ⟨by rw [HANS.out]; simp_all, HB0.out⟩
set_option maxRecDepth 100000 in
set_option maxHeartbeats 2000000 in
theorem sfs_any (w : World) (la la' : Option Addr) (ll lc ll' lc' : Nat) (fn fn' : Nat → ByteArray) (F F' : Nat → V) (ih : ∀ i, i < ll → SvOk (F i)) (hcap : ll ≤ 9223372036854775807) (hcap' : ll' ≤ 9223372036854775807)
    (h : ∀ i, i < ll → (∃ b o, la = some ⟨b, o, none⟩ ∧ At w b (o + i * 9) (.string (fn i) :: (F i).cells)) ∧ (F i).In w) (h' : ∀ i, i < ll' → (∃ b o, la' = some ⟨b, o, none⟩ ∧ At w b (o + i * 9) (.string (fn' i) :: (F' i).cells)) ∧ (F' i).In w) :
    Calls Tryz.prog 24 #[.slice la ll lc, .slice la' ll' lc'] w fun x w' => x = .returned (.bool (decide (ll = ll') && allB ll (fun i => decide (fn i = fn' i) && (F i).same (F' i)))) ∧ Below w.heap.size w w' := by
  by_cases hl : ll = ll'
  · have HC := Lib.hid (show ∀ i, i < ll → ∀ W, Below w.heap.size w W → Calls Tryz.prog 87 #[.agg (.string (fn i) :: (F i).cells).toArray, .agg (.string (fn' i) :: (F' i).cells).toArray] W fun x w' => x = .returned (.bool ((fun i => decide (fn i = fn' i) && (F i).same (F' i)) i)) ∧ Below W.heap.size W w' from fun i hi W hb => sf_any (fn i) (fn' i) (F i) (F' i) (ih i hi) W ((h i hi).2.below hb) ((h' i (hl ▸ hi)).2.below hb))
    have R1 : Hid (HeldTo ll (fun i => decide (fn i = fn' i) && (F i).same (F' i)) → Ending.returned (.bool true) = .returned (.bool (decide (ll = ll') && allB ll (fun i => decide (fn i = fn' i) && (F i).same (F' i))))) := fun q => by rw [decide_eq_true hl, q.all]; rfl
    have R0 : Hid (∀ i, i < ll → (fun i => decide (fn i = fn' i) && (F i).same (F' i)) i = false → Ending.returned (.bool false) = .returned (.bool (decide (ll = ll') && allB ll (fun i => decide (fn i = fn' i) && (F i).same (F' i))))) := fun i hi q => by rw [allB_false hi q, Bool.and_false]
    have HL := Lib.hid h
    have HL' := Lib.hid (hl ▸ h' : ∀ i, i < ll → (∃ b o, la' = some ⟨b, o, none⟩ ∧ At w b (o + i * 9) (.string (fn' i) :: (F' i).cells)) ∧ (F' i).In w)
    clear h h' ih
    subst hl
    generalize (decide (ll = ll) && allB ll (fun i => decide (fn i = fn' i) && (F i).same (F' i))) = ans at R1 R0 ⊢
    go_enter Tryz.func24, Tryz.ntmps24
    go_wp2_with fail
    go_loopw [5] (fun i wr => ∃ j : Nat, j ≤ ll ∧ i = .int .i64 j ∧ HeldTo j (fun i => decide (fn i = fn' i) && (F i).same (F' i)) ∧ Below w.heap.size w wr) (fun i _ => ll - (intOf i).toNat)
    case atStart => exact ⟨0, Nat.zero_le _, rfl, HeldTo.zero, Below.refl _ _⟩
    case round =>
    obtain ⟨j, hj, rfl, hheld, hbw⟩ := hrel
    have HH := Lib.hid hheld
    have HB := Lib.hid hbw
    clear hheld hbw
    by_cases hlt : j < ll
    · have hlt' : (j : Int) < (ll : Int) := by omega
      have hj0 : (0 : Int) ≤ (j : Int) := by omega
      obtain ⟨⟨b1, o1, rfl, hat⟩, hin⟩ := HL.out j hlt
      obtain ⟨⟨b2, o2, rfl, hat'⟩, hin'⟩ := HL'.out j hlt
      have HE := Lib.hid (HC.out j hlt)
      have R0j := Lib.hid (R0.out j hlt)
      have HHs := Lib.hid (fun q => HH.out.succ (k := j) q)
      obtain ⟨p, hp⟩ : ∃ p, p = (fun i => decide (fn i = fn' i) && (F i).same (F' i)) j := ⟨_, rfl⟩
      simp only [] at hp
      rw [← hp] at HE R0j HHs
      clear hp
      obtain ⟨v, hv⟩ : ∃ v, F j = v := ⟨_, rfl⟩
      obtain ⟨u, hu⟩ : ∃ u, F' j = u := ⟨_, rfl⟩
      obtain ⟨nm1, hnm1⟩ : ∃ x, fn j = x := ⟨_, rfl⟩
      obtain ⟨nm2, hnm2⟩ : ∃ x, fn' j = x := ⟨_, rfl⟩
      rw [hv, hnm1] at hat
      rw [hv] at hin
      rw [hu, hnm2] at hat'
      rw [hu] at hin'
      rw [hv, hu, hnm1, hnm2] at HE
      cases v with
      | leaf => exact hin.elim
      | mk k1 n1 s1 la1 ll1 lc1 L1 fa1 fl1 fc1 fn1 F1 e1 key1 hk1 =>
      cases u with
      | leaf => exact hin'.elim
      | mk k2 n2 s2 la2 ll2 lc2 L2 fa2 fl2 fc2 fn2 F2 e2 key2 hk2 =>
      have KS : Hid (∀ W, Below wr.heap.size wr W → (fun W => Below wr.heap.size wr W ∧ W.cell? ⟨b1, o1 + j * 9, none⟩ = some (.string nm1) ∧ W.cell? ⟨b1, o1 + j * 9 + 1, none⟩ = some (.int .u8 k1) ∧ W.cell? ⟨b1, o1 + j * 9 + 2, none⟩ = some (.int .i64 n1) ∧ W.cell? ⟨b1, o1 + j * 9 + 3, none⟩ = some (.string s1) ∧ W.cell? ⟨b1, o1 + j * 9 + 4, none⟩ = some (.slice la1 ll1 lc1) ∧ W.cell? ⟨b1, o1 + j * 9 + 5, none⟩ = some (.slice fa1 fl1 fc1) ∧ W.cell? ⟨b1, o1 + j * 9 + 6, none⟩ = some (.int .u8 e1) ∧ W.cell? ⟨b1, o1 + j * 9 + 7, none⟩ = some (.string key1) ∧ W.cell? ⟨b1, o1 + j * 9 + 8, none⟩ = some (.bool hk1) ∧ W.cell? ⟨b2, o2 + j * 9, none⟩ = some (.string nm2) ∧ W.cell? ⟨b2, o2 + j * 9 + 1, none⟩ = some (.int .u8 k2) ∧ W.cell? ⟨b2, o2 + j * 9 + 2, none⟩ = some (.int .i64 n2) ∧ W.cell? ⟨b2, o2 + j * 9 + 3, none⟩ = some (.string s2) ∧ W.cell? ⟨b2, o2 + j * 9 + 4, none⟩ = some (.slice la2 ll2 lc2) ∧ W.cell? ⟨b2, o2 + j * 9 + 5, none⟩ = some (.slice fa2 fl2 fc2) ∧ W.cell? ⟨b2, o2 + j * 9 + 6, none⟩ = some (.int .u8 e2) ∧ W.cell? ⟨b2, o2 + j * 9 + 7, none⟩ = some (.string key2) ∧ W.cell? ⟨b2, o2 + j * 9 + 8, none⟩ = some (.bool hk2)) W) := fun W hb => by
        have ha := hat.below (HB.out.trans (hb.mono HB.out.size))
        have hb2 := hat'.below (HB.out.trans (hb.mono HB.out.size))
        exact ⟨hb, ha 0 (by simp [V.cells]), ha 1 (by simp [V.cells]), ha 2 (by simp [V.cells]), ha 3 (by simp [V.cells]), ha 4 (by simp [V.cells]), ha 5 (by simp [V.cells]), ha 6 (by simp [V.cells]), ha 7 (by simp [V.cells]), ha 8 (by simp [V.cells]), hb2 0 (by simp [V.cells]), hb2 1 (by simp [V.cells]), hb2 2 (by simp [V.cells]), hb2 3 (by simp [V.cells]), hb2 4 (by simp [V.cells]), hb2 5 (by simp [V.cells]), hb2 6 (by simp [V.cells]), hb2 7 (by simp [V.cells]), hb2 8 (by simp [V.cells])⟩
      have hS0 := KS.out _ (Below.refl _ _)
      simp only [V.cells] at HE
      clear hin hin' hat hat'
      cases p with
      | true =>
        go_wp2_with fail
        go_region_held3 (fun W => Below wr.heap.size wr W ∧ W.cell? ⟨b1, o1 + j * 9, none⟩ = some (.string nm1) ∧ W.cell? ⟨b1, o1 + j * 9 + 1, none⟩ = some (.int .u8 k1) ∧ W.cell? ⟨b1, o1 + j * 9 + 2, none⟩ = some (.int .i64 n1) ∧ W.cell? ⟨b1, o1 + j * 9 + 3, none⟩ = some (.string s1) ∧ W.cell? ⟨b1, o1 + j * 9 + 4, none⟩ = some (.slice la1 ll1 lc1) ∧ W.cell? ⟨b1, o1 + j * 9 + 5, none⟩ = some (.slice fa1 fl1 fc1) ∧ W.cell? ⟨b1, o1 + j * 9 + 6, none⟩ = some (.int .u8 e1) ∧ W.cell? ⟨b1, o1 + j * 9 + 7, none⟩ = some (.string key1) ∧ W.cell? ⟨b1, o1 + j * 9 + 8, none⟩ = some (.bool hk1) ∧ W.cell? ⟨b2, o2 + j * 9, none⟩ = some (.string nm2) ∧ W.cell? ⟨b2, o2 + j * 9 + 1, none⟩ = some (.int .u8 k2) ∧ W.cell? ⟨b2, o2 + j * 9 + 2, none⟩ = some (.int .i64 n2) ∧ W.cell? ⟨b2, o2 + j * 9 + 3, none⟩ = some (.string s2) ∧ W.cell? ⟨b2, o2 + j * 9 + 4, none⟩ = some (.slice la2 ll2 lc2) ∧ W.cell? ⟨b2, o2 + j * 9 + 5, none⟩ = some (.slice fa2 fl2 fc2) ∧ W.cell? ⟨b2, o2 + j * 9 + 6, none⟩ = some (.int .u8 e2) ∧ W.cell? ⟨b2, o2 + j * 9 + 7, none⟩ = some (.string key2) ∧ W.cell? ⟨b2, o2 + j * 9 + 8, none⟩ = some (.bool hk2))
          (first | exact KS.out _ ((Below.refl _ _).drew) | exact KS.out _ (Below.trans (And.left (by assumption)) (Below.mono (by assumption) (Below.size (And.left (by assumption))))))
          (first | (go_at_call 87; refine (HE.out _ ?_).mono ?_; (go_split_ands; exact Below.trans HB.out (Below.mono (by assumption) HB.out.size)); rintro x w1 ⟨rfl, hb1⟩))
        have hfin : Hid (Below w.heap.size w _) := HB.out.trans (Below.mono (And.left (by assumption)) HB.out.size)
        go_wp2_with fail
        go_roundw
        case rel => exact ⟨j + 1, by omega, by go_num, HHs.out (by trivial), hfin.out⟩
        case measure => simp [intOf]; omega
      | false =>
        go_wp2_with fail
        go_region_held3 (fun W => Below wr.heap.size wr W ∧ W.cell? ⟨b1, o1 + j * 9, none⟩ = some (.string nm1) ∧ W.cell? ⟨b1, o1 + j * 9 + 1, none⟩ = some (.int .u8 k1) ∧ W.cell? ⟨b1, o1 + j * 9 + 2, none⟩ = some (.int .i64 n1) ∧ W.cell? ⟨b1, o1 + j * 9 + 3, none⟩ = some (.string s1) ∧ W.cell? ⟨b1, o1 + j * 9 + 4, none⟩ = some (.slice la1 ll1 lc1) ∧ W.cell? ⟨b1, o1 + j * 9 + 5, none⟩ = some (.slice fa1 fl1 fc1) ∧ W.cell? ⟨b1, o1 + j * 9 + 6, none⟩ = some (.int .u8 e1) ∧ W.cell? ⟨b1, o1 + j * 9 + 7, none⟩ = some (.string key1) ∧ W.cell? ⟨b1, o1 + j * 9 + 8, none⟩ = some (.bool hk1) ∧ W.cell? ⟨b2, o2 + j * 9, none⟩ = some (.string nm2) ∧ W.cell? ⟨b2, o2 + j * 9 + 1, none⟩ = some (.int .u8 k2) ∧ W.cell? ⟨b2, o2 + j * 9 + 2, none⟩ = some (.int .i64 n2) ∧ W.cell? ⟨b2, o2 + j * 9 + 3, none⟩ = some (.string s2) ∧ W.cell? ⟨b2, o2 + j * 9 + 4, none⟩ = some (.slice la2 ll2 lc2) ∧ W.cell? ⟨b2, o2 + j * 9 + 5, none⟩ = some (.slice fa2 fl2 fc2) ∧ W.cell? ⟨b2, o2 + j * 9 + 6, none⟩ = some (.int .u8 e2) ∧ W.cell? ⟨b2, o2 + j * 9 + 7, none⟩ = some (.string key2) ∧ W.cell? ⟨b2, o2 + j * 9 + 8, none⟩ = some (.bool hk2))
          (first | exact KS.out _ ((Below.refl _ _).drew) | exact KS.out _ (Below.trans (And.left (by assumption)) (Below.mono (by assumption) (Below.size (And.left (by assumption))))))
          (first | (go_at_call 87; refine (HE.out _ ?_).mono ?_; (go_split_ands; exact Below.trans HB.out (Below.mono (by assumption) HB.out.size)); rintro x w1 ⟨rfl, hb1⟩))
        have hfin : Hid (Below w.heap.size w _) := HB.out.trans (Below.mono (And.left (by assumption)) HB.out.size)
        go_wp2_with fail
        go_ret
        exact ⟨R0j.out (by trivial), hfin.out⟩
    · obtain rfl : j = ll := by omega
      have R := Lib.hid (R1.out HH.out)
      go_wp2_with fail
      go_ret
      exact ⟨R.out, HB.out⟩
  · have R : Hid (Ending.returned (.bool false) = .returned (.bool (decide (ll = ll') && allB ll (fun i => decide (fn i = fn' i) && (F i).same (F' i))))) := by rw [decide_eq_false hl]; exact rfl
    have hl' : ((ll : Int) != (ll' : Int)) = true := by simp; omega
    clear h h' ih hl
    generalize (decide (ll = ll') && allB ll (fun i => decide (fn i = fn' i) && (F i).same (F' i))) = ans at R ⊢
    go_enter Tryz.func24, Tryz.ntmps24
    go_wp2_with fail
    go_ret
    exact ⟨R.out, Below.refl _ _⟩
set_option maxRecDepth 100000 in
set_option maxHeartbeats 8000000 in
theorem sv_any : ∀ v : V, SvOk v := by
  intro v
  induction v with
  | leaf => intro u w h; exact h.elim
  | mk k1 n1 s1 la1 ll1 lc1 L1 fa1 fl1 fc1 fn1 F1 e1 key1 hk1 ihL ihF =>
  intro u w hv hu
  cases u with
  | leaf => exact hu.elim
  | mk k2 n2 s2 la2 ll2 lc2 L2 fa2 fl2 fc2 fn2 F2 e2 key2 hk2 =>
  have HL : Hid (∀ W, Below w.heap.size w W → Calls Tryz.prog 23 #[.slice la1 ll1 lc1, .slice la2 ll2 lc2] W fun x w' => x = .returned (.bool (decide (ll1 = ll2) && allB ll1 (fun i => (L1 i).same (L2 i)))) ∧ Below W.heap.size W w') := fun W hb => by
    have a := hv.below hb
    have b := hu.below hb
    exact svs_any W la1 la2 ll1 lc1 ll2 lc2 L1 L2 (fun i _ => ihL i) (by have := a.2.2.2.2.2.1; unfold maxLen at this; omega) (by have := b.2.2.2.2.2.1; unfold maxLen at this; omega) a.2.2.2.2.2.2.2.1 b.2.2.2.2.2.2.2.1
  have HF : Hid (∀ W, Below w.heap.size w W → Calls Tryz.prog 24 #[.slice fa1 fl1 fc1, .slice fa2 fl2 fc2] W fun x w' => x = .returned (.bool (decide (fl1 = fl2) && allB fl1 (fun i => decide (fn1 i = fn2 i) && (F1 i).same (F2 i)))) ∧ Below W.heap.size W w') := fun W hb => by
    have a := hv.below hb
    have b := hu.below hb
    exact sfs_any W fa1 fa2 fl1 fc1 fl2 fc2 fn1 fn2 F1 F2 (fun i _ => ihF i) (by have := a.2.2.2.2.2.2.1; unfold maxLen at this; omega) (by have := b.2.2.2.2.2.2.1; unfold maxLen at this; omega) (fun i hi => ⟨(a.2.2.2.2.2.2.2.2 i hi).1, (a.2.2.2.2.2.2.2.2 i hi).2.2⟩) (fun i hi => ⟨(b.2.2.2.2.2.2.2.2 i hi).1, (b.2.2.2.2.2.2.2.2 i hi).2.2⟩)
  clear hv hu ihL ihF
  obtain ⟨qL, hqL⟩ : ∃ q, (decide (ll1 = ll2) && allB ll1 (fun i => (L1 i).same (L2 i))) = q := ⟨_, rfl⟩
  obtain ⟨qF, hqF⟩ : ∃ q, (decide (fl1 = fl2) && allB fl1 (fun i => decide (fn1 i = fn2 i) && (F1 i).same (F2 i))) = q := ⟨_, rfl⟩
  obtain ⟨q0, hq0⟩ : ∃ q, (k1 == k2) = q := ⟨_, rfl⟩
  obtain ⟨q1, hq1⟩ : ∃ q, (n1 == n2) = q := ⟨_, rfl⟩
  obtain ⟨q2, hq2⟩ : ∃ q, (s1.toList == s2.toList) = q := ⟨_, rfl⟩
  obtain ⟨q3, hq3⟩ : ∃ q, (e1 == e2) = q := ⟨_, rfl⟩
  obtain ⟨q4, hq4⟩ : ∃ q, (key1.toList == key2.toList) = q := ⟨_, rfl⟩
  obtain ⟨q5, hq5⟩ : ∃ q, (hk1 == hk2) = q := ⟨_, rfl⟩
  have HANS : Hid ((V.mk k1 n1 s1 la1 ll1 lc1 L1 fa1 fl1 fc1 fn1 F1 e1 key1 hk1).same (.mk k2 n2 s2 la2 ll2 lc2 L2 fa2 fl2 fc2 fn2 F2 e2 key2 hk2) = (q0 && (q1 && (q2 && (qL && (qF && (q3 && (q4 && q5)))))))) := by
    rw [← hqL, ← hqF, ← hq0, ← hq1, ← hq2, ← hq3, ← hq4, ← hq5]
    rw [show (V.mk k1 n1 s1 la1 ll1 lc1 L1 fa1 fl1 fc1 fn1 F1 e1 key1 hk1).same (.mk k2 n2 s2 la2 ll2 lc2 L2 fa2 fl2 fc2 fn2 F2 e2 key2 hk2) = (ownB k1 n1 s1 e1 key1 hk1 k2 n2 s2 e2 key2 hk2 && (decide (ll1 = ll2) && (decide (fl1 = fl2) && (allB ll1 (fun i => (L1 i).same (L2 i)) && allB fl1 (fun i => decide (fn1 i = fn2 i) && (F1 i).same (F2 i)))))) from rfl]
    unfold ownB
    rw [dec_int k1 k2, dec_int n1 n2, dec_bytes s1 s2, dec_int e1 e2, dec_bytes key1 key2, dec_bool hk1 hk2]
    generalize allB ll1 _ = x1
    generalize allB fl1 _ = x2
    generalize decide (ll1 = ll2) = x3
    generalize decide (fl1 = fl2) = x4
    ac_rfl
  rw [hqL] at HL
  rw [hqF] at HF
  clear hqL hqF
  obtain ⟨ans, hans⟩ : ∃ a, a = (V.mk k1 n1 s1 la1 ll1 lc1 L1 fa1 fl1 fc1 fn1 F1 e1 key1 hk1).same (.mk k2 n2 s2 la2 ll2 lc2 L2 fa2 fl2 fc2 fn2 F2 e2 key2 hk2) := ⟨_, rfl⟩
  rw [← hans] at HANS ⊢
  clear hans
  simp only [V.agg, V.cells]
  have hB0 : Below w.heap.size w ((w.alloc (.cells #[.int .u8 k1, .int .i64 n1, .string s1, .slice la1 ll1 lc1, .slice fa1 fl1 fc1, .int .u8 e1, .string key1, .bool hk1] 30)).alloc (.cells #[.int .u8 k2, .int .i64 n2, .string s2, .slice la2 ll2 lc2, .slice fa2 fl2 fc2, .int .u8 e2, .string key2, .bool hk2] 30)) := ((Below.refl _ _).alloc (Nat.le_refl _) _).alloc (by simp) _
  have hK : Hid (∀ W, Below ((w.alloc (.cells #[.int .u8 k1, .int .i64 n1, .string s1, .slice la1 ll1 lc1, .slice fa1 fl1 fc1, .int .u8 e1, .string key1, .bool hk1] 30)).alloc (.cells #[.int .u8 k2, .int .i64 n2, .string s2, .slice la2 ll2 lc2, .slice fa2 fl2 fc2, .int .u8 e2, .string key2, .bool hk2] 30)).heap.size ((w.alloc (.cells #[.int .u8 k1, .int .i64 n1, .string s1, .slice la1 ll1 lc1, .slice fa1 fl1 fc1, .int .u8 e1, .string key1, .bool hk1] 30)).alloc (.cells #[.int .u8 k2, .int .i64 n2, .string s2, .slice la2 ll2 lc2, .slice fa2 fl2 fc2, .int .u8 e2, .string key2, .bool hk2] 30)) W → Below w.heap.size w W ∧ (∀ j, W.cell? ⟨w.heap.size, j, none⟩ = (#[.int .u8 k1, .int .i64 n1, .string s1, .slice la1 ll1 lc1, .slice fa1 fl1 fc1, .int .u8 e1, .string key1, .bool hk1] : Array Value)[j]?) ∧ ∀ j, W.cell? ⟨w.heap.size + 1, j, none⟩ = (#[.int .u8 k2, .int .i64 n2, .string s2, .slice la2 ll2 lc2, .slice fa2 fl2 fc2, .int .u8 e2, .string key2, .bool hk2] : Array Value)[j]?) := fun W hb =>
    ⟨hB0.trans (hb.mono hB0.size), fun j => Lib.cell_of_heap ((hb.block _ (by simp; omega)).trans (al_old _ (al_new _ rfl))) j, fun j => Lib.cell_of_heap ((hb.block _ (by simp)).trans (al_new _ (by simp))) j⟩
  have HB0 := Lib.hid hB0
  clear hB0
  go_enter Tryz.func9, Tryz.ntmps9
  go_wp2_with (first
    | (go_at_call 23; (with_reducible refine (HL.out _ HB0.out).mono ?_); rintro x w1 ⟨rfl, hb1⟩; have HB1 := Lib.hid hb1; have hq := hK.out _ hb1; have cw14 : w1.cell? ⟨w.heap.size, 4, none⟩ = some (.slice fa1 fl1 fc1) := (hq.2.1 4).trans rfl; have cw15 : w1.cell? ⟨w.heap.size, 5, none⟩ = some (.int .u8 e1) := (hq.2.1 5).trans rfl; have cw16 : w1.cell? ⟨w.heap.size, 6, none⟩ = some (.string key1) := (hq.2.1 6).trans rfl; have cw17 : w1.cell? ⟨w.heap.size, 7, none⟩ = some (.bool hk1) := (hq.2.1 7).trans rfl; have dw14 : w1.cell? ⟨w.heap.size + 1, 4, none⟩ = some (.slice fa2 fl2 fc2) := (hq.2.2 4).trans rfl; have dw15 : w1.cell? ⟨w.heap.size + 1, 5, none⟩ = some (.int .u8 e2) := (hq.2.2 5).trans rfl; have dw16 : w1.cell? ⟨w.heap.size + 1, 6, none⟩ = some (.string key2) := (hq.2.2 6).trans rfl; have dw17 : w1.cell? ⟨w.heap.size + 1, 7, none⟩ = some (.bool hk2) := (hq.2.2 7).trans rfl; clear hq hb1)
    | (go_at_call 24; (with_reducible refine (HF.out _ (HB0.out.trans (HB1.out.mono HB0.out.size))).mono ?_); rintro x w2 ⟨rfl, hb2⟩; have HB2 : Hid (Below ((w.alloc (.cells #[.int .u8 k1, .int .i64 n1, .string s1, .slice la1 ll1 lc1, .slice fa1 fl1 fc1, .int .u8 e1, .string key1, .bool hk1] 30)).alloc (.cells #[.int .u8 k2, .int .i64 n2, .string s2, .slice la2 ll2 lc2, .slice fa2 fl2 fc2, .int .u8 e2, .string key2, .bool hk2] 30)).heap.size ((w.alloc (.cells #[.int .u8 k1, .int .i64 n1, .string s1, .slice la1 ll1 lc1, .slice fa1 fl1 fc1, .int .u8 e1, .string key1, .bool hk1] 30)).alloc (.cells #[.int .u8 k2, .int .i64 n2, .string s2, .slice la2 ll2 lc2, .slice fa2 fl2 fc2, .int .u8 e2, .string key2, .bool hk2] 30)) w2) := HB1.out.trans (hb2.mono HB1.out.size); have hq := hK.out _ HB2.out; have cw25 : w2.cell? ⟨w.heap.size, 5, none⟩ = some (.int .u8 e1) := (hq.2.1 5).trans rfl; have cw26 : w2.cell? ⟨w.heap.size, 6, none⟩ = some (.string key1) := (hq.2.1 6).trans rfl; have cw27 : w2.cell? ⟨w.heap.size, 7, none⟩ = some (.bool hk1) := (hq.2.1 7).trans rfl; have dw25 : w2.cell? ⟨w.heap.size + 1, 5, none⟩ = some (.int .u8 e2) := (hq.2.2 5).trans rfl; have dw26 : w2.cell? ⟨w.heap.size + 1, 6, none⟩ = some (.string key2) := (hq.2.2 6).trans rfl; have dw27 : w2.cell? ⟨w.heap.size + 1, 7, none⟩ = some (.bool hk2) := (hq.2.2 7).trans rfl; clear hq hb2))
  all_goals
    go_ret
    first
      | exact ⟨by rw [HANS.out]; simp_all, HB0.out.trans (HB2.out.mono HB0.out.size)⟩
      | exact ⟨by rw [HANS.out]; simp_all, HB0.out.trans (HB1.out.mono HB0.out.size)⟩
      | exact ⟨by rw [HANS.out]; simp_all, HB0.out⟩
end Go.Proofs.YtmhemajcnfcdmaaGreatDoor
namespace Go.Proofs.YtmhemajcnfcdmaaGreatDoor
set_option linter.unusedVariables false
set_option linter.unusedSimpArgs false
open Go.RowKit Go.Deep Go.WideShapes
theorem VOwn.mono {b b' hi : Nat} {W : World} {v : V} (hb : b' ≤ b) (h : VOwn b hi W v) : VOwn b' hi W v :=
  ⟨h.size, h.inn, h.own, h.frm.mono hb, fun x hx => by have := h.rng x hx; omega, h.nod⟩
theorem doV_check {name : ByteArray} {n : Nat} {L : Nat → V} (h : doB name n L = true) : (doV name n L).check = true := by
  cases hk : opAt name with
  | none => rw [doB_none hk] at h; cases h
  | some k =>
    rw [doB_some hk] at h
    rw [doV_some hk]
    simp only [Bool.and_eq_true] at h
    exact h.2.2.2
theorem do_same {name : ByteArray} {n : Nat} {L L' : Nat → V} {w w' w2 w2' : World} {u v : V} {e : Ending} (hs : ∀ i, i < n → (L i).same (L' i) = true) (hu : DoneV w (doB name n L') (doV name n L') u w') (hv : doB name n L = true → v.same (doV name n L) = true) (hv0 : doB name n L = false → v = nv) :
    u.same v = true ∧ u.size ≤ 4096 := by
  obtain ⟨e1, e2⟩ := do_ext hs
  cases hb : doB name n L with
  | true =>
    have h1 := hu.yes (by rw [e1, hb])
    have h2 := e2 hb
    have h3 := hv hb
    refine ⟨?_, ?_⟩
    · exact same_trans _ _ _ (by rw [same_symm]; exact h1) (same_trans _ _ _ (by rw [same_symm]; exact h2) (by rw [same_symm]; exact h3))
    · have h4 := doV_check (name := name) (n := n) (L := L') (by rw [e1, hb])
      rw [(same_size _ _ h1).1]
      exact ((check_iff _).1 h4).2.1
  | false =>
    rw [hu.no (by rw [e1, hb]), hv0 hb]
    exact ⟨vz_same _ _ _, by rw [nv, Od.vz_size]; omega⟩
set_option maxRecDepth 100000 in
set_option maxHeartbeats 8000000 in
theorem od_any (name : ByteArray) (la : Option Addr) (ll lc : Nat) (L : Nat → V) (w : World) (h : Vals w la ll lc L) (ht : Tabs w) (hz : sumTo ll (fun i => (L i).size) ≤ 1048576) :
    Calls Tryz.prog 3 #[.string name, .slice la ll lc] w fun x w' => x = .returned (.bool true) ∧ Below w.heap.size w w' := by
  have hll : ll ≤ 1048576 := Nat.le_trans (sum_all (f := fun i => (L i).size) (fun i hi => one_size (h.el i hi).2)) hz
  have hzi : ∀ i, i < ll → (L i).size ≤ 1048576 := fun i hi => Nat.le_trans (sum_at (f := fun i => (L i).size) hi) hz
  have hfi : ∀ i, i < ll → (L i).Fits := fun i hi => fits_size (h.el i hi).2 (by have := hzi i hi; omega)
  have HC1 := Lib.hid (vs_size h)
  have HBY := Lib.hid (fun x hx W => beyond_one x hx W)
  have HT1 := Lib.hid (fun W (hb : Below w.heap.size w W) => Two.twinValues_any la ll lc L (fun i _ => Two.twinValue_any (L i)) W h.hlc (by omega) hfi (h.below hb).el)
  have HSM : Hid (∀ (g : Nat) (W : World) (L' : Nat → V), Two.NL w.heap.size W g ll L L' → ∀ i, i < ll → (L i).same (L' i) = true) := Lib.hid (fun g W L' hn i hi => twin_same _ _ (hn.lok.ok i hi).tw)
  have HDO : Hid (∀ (g : Nat) (W : World) (L' : Nat → V), Two.NL w.heap.size W g ll L L' → Below w.heap.size w W → Calls Tryz.prog 7 #[.string name, .slice (some ⟨g, 0, none⟩) ll (ll + 1)] W fun e w' => ∃ u : V, e = .returned (.tuple #[u.agg, .bool (doB name ll L)]) ∧ DoneV W (doB name ll L') (doV name ll L') u w') := Lib.hid (fun g W L' hn hb => by
    refine (oDo_any name (some ⟨g, 0, none⟩) ll (ll + 1) L' W (vals_twin h hll hn) (ht.below hb)).mono ?_
    rintro e w' ⟨u, rfl, hd⟩
    exact ⟨u, by rw [(do_ext (HSM.out g W L' hn)).1], hd⟩)
  have HRD : Hid (∀ W, Below w.heap.size w W → Calls Tryz.prog 8 #[.string name, .slice la ll lc] W (Od.DoX name ll L W)) := Lib.hid (fun W hb =>
    Od.rDo_any name la ll lc L W (h.below hb) (fun i hi => by have := hzi i hi; omega) hll)
  have HLF : Hid (∀ (g : Nat) (W : World) (L' : Nat → V), Two.NL w.heap.size W g ll L L' → Below w.heap.size w W → Calls Tryz.prog 10 #[.slice (some ⟨g, 0, none⟩) ll (ll + 1), .slice la ll lc] W fun e w' => e = .returned (.bool true) ∧ Below W.heap.size W w') := Lib.hid (fun g W L' hn hb =>
    Tw.leftValues_any la ll lc L L' g (fun i _ => Tw.leftValue_is (L i)) W (by omega) (fun i hi => by have := hzi i hi; omega) (h.below hb).el
      (fun i hi => ⟨hn.lok.cs i hi, (hn.lok.ok i hi).inn, (hn.lok.ok i hi).tw, (hn.lok.ok i hi).mks⟩) hn.lok.spr)
  have HTS : Hid (∀ (b g : Nat) (W : World) (L' : Nat → V), Two.NL b W g ll L L' → sumTo ll (fun i => (L' i).size) ≤ 1048576) := Lib.hid (fun b g W L' hn => by
    rw [sum_eq (g := fun i => (L i).size) fun i hi => (same_size _ _ (twin_same _ _ (hn.lok.ok i hi).tw)).1]; exact hz)
  have HSV := Lib.hid (fun (u v : V) W (hu : u.In W) (hv : v.In W) => sv_any u v W hu hv)
  have HPT : Hid (Bk.PT w) := Lib.hid ht.2.2
  have HLL := Lib.hid hll
  have HDS : Hid (∀ (L' : Nat → V) (w1 w1' : World) (u v : V), (∀ i, i < ll → (L i).same (L' i) = true) → DoneV w1 (doB name ll L') (doV name ll L') u w1' → (doB name ll L = true → v.same (doV name ll L) = true) → (doB name ll L = false → v = nv) → u.same v = true ∧ u.size ≤ 4096) := Lib.hid (fun L' w1 w1' u v hs hu hv hv0 => do_same (w2 := w1) (w2' := w1) (e := .returned (.bool true)) hs hu hv hv0)
  unfold Od.DoX at HRD
  clear h ht hz hzi hfi
  generalize doB name ll L = db at HDO HRD HDS
  generalize doV name ll L = dv at HRD HDS
  go_enter Tryz.func3, Tryz.ntmps3
  go_wp2_with (first
    | (go_at_call 5; (with_reducible refine HC1.out.mono ?_); rintro x w1 ⟨⟨n1, hn1, rfl⟩, hb1⟩; have HB1 := Lib.hid hb1; clear hb1)
    | (go_at_call 4; (with_reducible refine (HBY.out n1 hn1 w1).mono ?_); rintro x w3 ⟨⟨bq, rfl⟩, hb3⟩; have HB3 : Hid (Below w.heap.size w w3) := HB1.out.trans (((below_alloc w1 _).trans (hb3.mono (by simp))).mono HB1.out.size); clear hb3; cases bq)
    | (go_at_call 6; (with_reducible refine (HT1.out w3 HB3.out).mono ?_); rintro x w4 ⟨L', rfl, hn, hb⟩; have HN4 : Hid (Two.NL w.heap.size w4 w3.heap.size ll L L') := Lib.hid (hn.mono HB3.out.size); have HB4 : Hid (Below w.heap.size w w4) := HB3.out.trans (hb.mono HB3.out.size); clear hn hb; generalize w3.heap.size = g at HN4 ⊢; refine Hid.out ?_))
  · refine Lib.hid ?_
    clear HC1 HBY HT1 HB1 HB3
    have HS4 := Lib.hid (HSM.out g w4 L' HN4.out)
    go_upto_region 5 with (go_at_call 7; (with_reducible refine (HDO.out g w4 L' HN4.out HB4.out).mono ?_); rintro x w5 ⟨u1, rfl, hd⟩; have HD1 := Lib.hid hd; obtain ⟨k1, n1, s1, la1, ll1, lc1, L1, fa1, fl1, fc1, fn1, F1, e1, key1, hk1, rfl⟩ := Od.in8 hd.inn; clear hd; simp only [V.agg, V.cells])
    have HA5 := Lib.hid (at_new (w := w5) (cs := (V.mk k1 n1 s1 la1 ll1 lc1 L1 fa1 fl1 fc1 fn1 F1 e1 key1 hk1).cells) (T := 30) rfl (Below.refl _ _))
    have HG5 := Lib.hid (below_alloc w5 (.cells (V.mk k1 n1 s1 la1 ll1 lc1 L1 fa1 fl1 fc1 fn1 F1 e1 key1 hk1).cells.toArray 30))
    simp only [V.cells] at HA5 HG5
    revert HA5 HG5
    generalize w5.alloc (.cells #[.int .u8 k1, .int .i64 n1, .string s1, .slice la1 ll1 lc1, .slice fa1 fl1 fc1, .int .u8 e1, .string key1, .bool hk1] 30) = x5
    intro HA5 HG5
    have HA5 : Hid (At x5 w5.heap.size 0 (V.mk k1 n1 s1 la1 ll1 lc1 L1 fa1 fl1 fc1 fn1 F1 e1 key1 hk1).cells) := HA5
    have HO5 : Hid (VOwn w4.heap.size w5.heap.size x5 (V.mk k1 n1 s1 la1 ll1 lc1 L1 fa1 fl1 fc1 fn1 F1 e1 key1 hk1)) := Lib.hid ((vown_of HD1.out).below HG5.out)
    have HB5 : Hid (Below w4.heap.size w4 x5) := Lib.hid (HD1.out.low.trans (HG5.out.mono HD1.out.low.size))
    have HW5 : Hid (Below w.heap.size w x5) := Lib.hid (HB4.out.trans (HB5.out.mono HB4.out.size))
    go_upto_region 6 with (go_at_call 7; (with_reducible refine (HDO.out g x5 L' (HN4.out.below HB5.out) HW5.out).mono ?_); rintro x w6 ⟨u2, rfl, hd⟩; have HD2 := Lib.hid hd; obtain ⟨k2, n2, s2, la2, ll2, lc2, L2, fa2, fl2, fc2, fn2, F2, e2, key2, hk2, rfl⟩ := Od.in8 hd.inn; clear hd; simp only [V.agg, V.cells])
    have HA6 := Lib.hid (at_new (w := w6) (cs := (V.mk k2 n2 s2 la2 ll2 lc2 L2 fa2 fl2 fc2 fn2 F2 e2 key2 hk2).cells) (T := 30) rfl (Below.refl _ _))
    have HG6 := Lib.hid (below_alloc w6 (.cells (V.mk k2 n2 s2 la2 ll2 lc2 L2 fa2 fl2 fc2 fn2 F2 e2 key2 hk2).cells.toArray 30))
    simp only [V.cells] at HA6 HG6
    revert HA6 HG6
    generalize w6.alloc (.cells #[.int .u8 k2, .int .i64 n2, .string s2, .slice la2 ll2 lc2, .slice fa2 fl2 fc2, .int .u8 e2, .string key2, .bool hk2] 30) = x6
    intro HA6 HG6
    have HA6 : Hid (At x6 w6.heap.size 0 (V.mk k2 n2 s2 la2 ll2 lc2 L2 fa2 fl2 fc2 fn2 F2 e2 key2 hk2).cells) := HA6
    have HO6 : Hid (VOwn w5.heap.size w6.heap.size x6 (V.mk k2 n2 s2 la2 ll2 lc2 L2 fa2 fl2 fc2 fn2 F2 e2 key2 hk2)) := Lib.hid (((vown_of HD2.out).below HG6.out).mono HG5.out.size)
    have HB6 : Hid (Below x5.heap.size x5 x6) := Lib.hid (HD2.out.low.trans (HG6.out.mono HD2.out.low.size))
    have HW6 : Hid (Below w.heap.size w x6) := Lib.hid (HW5.out.trans (HB6.out.mono HW5.out.size))
    have HK5 := Lib.hid (And.intro (HO5.out.below HB6.out) (HA5.out.below HB6.out))
    have HK4 : Hid (Below w4.heap.size w4 x6) := Lib.hid (HB5.out.trans (HB6.out.mono HB5.out.size))
    have HZ5 := Lib.hid (show w4.heap.size ≤ w5.heap.size from HD1.out.low.size)
    go_upto_region 7 with (go_at_call 8; (with_reducible refine (HRD.out x6 HW6.out).mono ?_); rintro x w7 ⟨u3, rfl, hlow, hin3, hy3, hn3⟩; have HQ3 := Lib.hid (And.intro hlow (And.intro hin3 (And.intro hy3 hn3))); obtain ⟨k3, n3, s3, la3, ll3, lc3, L3, fa3, fl3, fc3, fn3, F3, e3, key3, hk3, rfl⟩ := Od.in8 hin3; clear hlow hin3 hy3 hn3; simp only [V.agg, V.cells])
    have HA7 := Lib.hid (at_new (w := w7) (cs := (V.mk k3 n3 s3 la3 ll3 lc3 L3 fa3 fl3 fc3 fn3 F3 e3 key3 hk3).cells) (T := 30) rfl (Below.refl _ _))
    have HG7 := Lib.hid (below_alloc w7 (.cells (V.mk k3 n3 s3 la3 ll3 lc3 L3 fa3 fl3 fc3 fn3 F3 e3 key3 hk3).cells.toArray 30))
    simp only [V.cells] at HA7 HG7
    revert HA7 HG7
    generalize w7.alloc (.cells #[.int .u8 k3, .int .i64 n3, .string s3, .slice la3 ll3 lc3, .slice fa3 fl3 fc3, .int .u8 e3, .string key3, .bool hk3] 30) = x7
    intro HA7 HG7
    have HA7 : Hid (At x7 w7.heap.size 0 (V.mk k3 n3 s3 la3 ll3 lc3 L3 fa3 fl3 fc3 fn3 F3 e3 key3 hk3).cells) := HA7
    have HS1 := Lib.hid (HDS.out L' w4 w5 _ _ HS4.out HD1.out HQ3.out.2.2.1 HQ3.out.2.2.2)
    have HS2 := Lib.hid (HDS.out L' x5 w6 _ _ HS4.out HD2.out HQ3.out.2.2.1 HQ3.out.2.2.2)
    have HB7 : Hid (Below x6.heap.size x6 x7) := Lib.hid (HQ3.out.1.trans (HG7.out.mono HQ3.out.1.size))
    have HI3 := Lib.hid (HQ3.out.2.1.below HG7.out)
    have HW7 : Hid (Below w.heap.size w x7) := Lib.hid (HW6.out.trans (HB7.out.mono HW6.out.size))
    have HP1 := Lib.hid (And.intro (HK5.out.1.below HB7.out) (HK5.out.2.below HB7.out))
    have HP2 := Lib.hid (And.intro (HO6.out.below HB7.out) (HA6.out.below HB7.out))
    have HP4 : Hid (Below w4.heap.size w4 x7) := Lib.hid (HK4.out.trans (HB7.out.mono HK4.out.size))
    clear HD1 HD2 HQ3 HDS HDO HRD HK5 HK4 HO5 HO6 HA5 HA6 HB5 HB6 HB7 HG6 HG7 HW5 HW6 HG5
    have HV1 := Lib.hid (fun W (hb : Below x7.heap.size x7 W) => HSV.out (V.mk k1 n1 s1 la1 ll1 lc1 L1 fa1 fl1 fc1 fn1 F1 e1 key1 hk1) (V.mk k3 n3 s3 la3 ll3 lc3 L3 fa3 fl3 fc3 fn3 F3 e3 key3 hk3) W (HP1.out.1.inn.below hb) (HI3.out.below hb))
    have HV2 := Lib.hid (fun W (hb : Below x7.heap.size x7 W) => HSV.out (V.mk k2 n2 s2 la2 ll2 lc2 L2 fa2 fl2 fc2 fn2 F2 e2 key2 hk2) (V.mk k3 n3 s3 la3 ll3 lc3 L3 fa3 fl3 fc3 fn3 F3 e3 key3 hk3) W (HP2.out.1.inn.below hb) (HI3.out.below hb))
    rw [HS1.out.1] at HV1
    rw [HS2.out.1] at HV2
    simp only [V.agg, V.cells] at HV1 HV2
    have KC := Lib.hid (fun W (hb : Below x7.heap.size x7 W) => And.intro (at80 (HP1.out.2.below hb)) (And.intro (at80 (HP2.out.2.below hb)) (at80 (HA7.out.below hb))))
    obtain ⟨⟨a0, a1, a2, a3, a4, a5, a6, a7⟩, ⟨b0, b1, b2, b3, b4, b5, b6, b7⟩, c0, c1, c2, c3, c4, c5, c6, c7⟩ := KC.out _ (Below.refl _ _)
    go_wp2_with (first
      | (go_at_call 9; (with_reducible refine (HV1.out _ (Below.refl _ _)).mono ?_); rintro x w8 ⟨rfl, hb8⟩; have HB8 := Lib.hid hb8; clear hb8 a0 a1 a2 a3 a4 a5 a6 a7 b0 b1 b2 b3 b4 b5 b6 b7 c0 c1 c2 c3 c4 c5 c6 c7; obtain ⟨⟨a0, a1, a2, a3, a4, a5, a6, a7⟩, ⟨b0, b1, b2, b3, b4, b5, b6, b7⟩, c0, c1, c2, c3, c4, c5, c6, c7⟩ := KC.out _ HB8.out)
      | (go_at_call 9; (with_reducible refine (HV2.out _ HB8.out).mono ?_); rintro x w9 ⟨rfl, hb9⟩; have HB9 : Hid (Below x7.heap.size x7 w9) := Lib.hid (HB8.out.trans (hb9.mono HB8.out.size)); clear hb9 a0 a1 a2 a3 a4 a5 a6 a7 b0 b1 b2 b3 b4 b5 b6 b7 c0 c1 c2 c3 c4 c5 c6 c7; obtain ⟨⟨a0, a1, a2, a3, a4, a5, a6, a7⟩, ⟨b0, b1, b2, b3, b4, b5, b6, b7⟩, c0, c1, c2, c3, c4, c5, c6, c7⟩ := KC.out _ HB9.out)
      | (go_at_call 10; (with_reducible refine (HLF.out g w9 L' ((HN4.out.below HP4.out).below HB9.out) (HW7.out.trans (HB9.out.mono HW7.out.size))).mono ?_); rintro x w10 ⟨rfl, hb10⟩; have HBA : Hid (Below x7.heap.size x7 w10) := Lib.hid (HB9.out.trans (hb10.mono HB9.out.size)); clear hb10 a0 a1 a2 a3 a4 a5 a6 a7 b0 b1 b2 b3 b4 b5 b6 b7 c0 c1 c2 c3 c4 c5 c6 c7; refine Hid.out ?_))
    refine Lib.hid ?_
    have hts := HTS.out _ _ _ _ HN4.out
    have HKL := od_len (g := g) hts HS1.out.2 HS2.out.2
    have hll := HLL.out
    have hlow : Below w.heap.size w w10 := HW7.out.trans (HBA.out.mono HW7.out.size)
    have H4A : Below w4.heap.size w4 w10 := HP4.out.trans (HBA.out.mono HP4.out.size)
    have K1 := HP1.out.1.below HBA.out
    have K2 := HP2.out.1.below HBA.out
    have hNA := HN4.out.below H4A
    have hg := od_good hlow hll HN4.out H4A (fun i hi => by have := sum_at (f := fun i => (L' i).size) hi; omega) HB4.out.size HZ5.out K1 K2 HS1.out.2 HS2.out.2
    obtain ⟨p1, hp1⟩ : ∃ p, p = Bk.toldVs (some ⟨g, 0, none⟩) ll (ll + 1) L' := ⟨_, rfl⟩
    obtain ⟨p2, hp2⟩ : ∃ p, p = Bk.toldV (V.mk k1 n1 s1 la1 ll1 lc1 L1 fa1 fl1 fc1 fn1 F1 e1 key1 hk1) := ⟨_, rfl⟩
    obtain ⟨p3, hp3⟩ : ∃ p, p = Bk.toldV (V.mk k2 n2 s2 la2 ll2 lc2 L2 fa2 fl2 fc2 fn2 F2 e2 key2 hk2) := ⟨_, rfl⟩
    have hT : odT g ll L' (V.mk k1 n1 s1 la1 ll1 lc1 L1 fa1 fl1 fc1 fn1 F1 e1 key1 hk1) (V.mk k2 n2 s2 la2 ll2 lc2 L2 fa2 fl2 fc2 fn2 F2 e2 key2 hk2) = (p1 ++ p2) ++ p3 := by rw [hp1, hp2, hp3]; rfl
    have D4 : Hid (∀ W, Bk.BT odH w10 w10.heap.size ((p1 ++ p2) ++ p3) (fun _ => False) w10 ((p1 ++ p2) ++ p3) W → Calls Tryz.prog 13 #[.pointer (some ⟨w10.heap.size, 0, none⟩)] W fun e w' => e = .returned (.bool true) ∧ Below w.heap.size w w') := Lib.hid (fun W hb => by
      rw [← hT] at hb
      exact od_apart HPT.out hlow HKL hg hb)
    rw [hT] at HKL
    have D1 : Hid (∀ W, Bk.BT odH w10 w10.heap.size ((p1 ++ p2) ++ p3) (fun _ => False) w10 [] W → Calls Tryz.prog 11 #[.pointer (some ⟨w10.heap.size, 0, none⟩), .slice (some ⟨g, 0, none⟩) ll (ll + 1)] W fun e w' => e = .returned (.tuple #[]) ∧ Bk.BT odH w10 w10.heap.size ((p1 ++ p2) ++ p3) (fun _ => False) w10 p1 w') := Lib.hid (fun W hb => by
      have := Bk.valuesT_any (ht := odH) (by rfl) HKL (some ⟨g, 0, none⟩) ll (ll + 1) L' (fun i _ => Bk.valueT_any (by rfl) (by rfl) HKL (L' i)) _ _ [] W ⟨by omega, by unfold maxLen; omega⟩ (fun i hi => ⟨⟨g, 0, rfl, by rw [Nat.zero_add]; exact hNA.lok.cs i hi⟩, (hNA.lok.ok i hi).inn⟩) hb (by rw [← hp1]; exact ⟨p2 ++ p3, by simp⟩)
      rw [← hp1] at this
      exact this)
    have D2 : Hid (∀ W, Bk.BT odH w10 w10.heap.size ((p1 ++ p2) ++ p3) (fun _ => False) w10 p1 W → Calls Tryz.prog 12 #[.pointer (some ⟨w10.heap.size, 0, none⟩), (V.mk k1 n1 s1 la1 ll1 lc1 L1 fa1 fl1 fc1 fn1 F1 e1 key1 hk1).agg] W fun e w' => e = .returned (.tuple #[]) ∧ Bk.BT odH w10 w10.heap.size ((p1 ++ p2) ++ p3) (fun _ => False) w10 (p1 ++ p2) w') := Lib.hid (fun W hb => by
      have := Bk.valueT_any (ht := odH) (by rfl) (by rfl) HKL (V.mk k1 n1 s1 la1 ll1 lc1 L1 fa1 fl1 fc1 fn1 F1 e1 key1 hk1) _ _ p1 W hb K1.inn (by rw [← hp2]; exact ⟨p3, rfl⟩)
      rw [← hp2] at this
      exact this)
    have D3 : Hid (∀ W, Bk.BT odH w10 w10.heap.size ((p1 ++ p2) ++ p3) (fun _ => False) w10 (p1 ++ p2) W → Calls Tryz.prog 12 #[.pointer (some ⟨w10.heap.size, 0, none⟩), (V.mk k2 n2 s2 la2 ll2 lc2 L2 fa2 fl2 fc2 fn2 F2 e2 key2 hk2).agg] W fun e w' => e = .returned (.tuple #[]) ∧ Bk.BT odH w10 w10.heap.size ((p1 ++ p2) ++ p3) (fun _ => False) w10 ((p1 ++ p2) ++ p3) w') := Lib.hid (fun W hb => by
      have := Bk.valueT_any (ht := odH) (by rfl) (by rfl) HKL (V.mk k2 n2 s2 la2 ll2 lc2 L2 fa2 fl2 fc2 fn2 F2 e2 key2 hk2) _ _ (p1 ++ p2) W hb K2.inn (by rw [← hp3]; exact List.prefix_refl _)
      rw [← hp3] at this
      exact this)
    simp only [V.agg, V.cells] at D2 D3
    have HBK := Lib.hid (bt_new (ht := odH) (wb := w10) (T := (p1 ++ p2) ++ p3) (T' := 52))
    have XA := Lib.hid (HP1.out.2.below HBA.out)
    have XB := Lib.hid (HP2.out.2.below HBA.out)
    have XC : Hid (∀ p q X W, Bk.BT odH w10 w10.heap.size p X w10 q W → Below w10.heap.size w10 W) := Lib.hid (fun p q X W h => h.low)
    clear hg hT hp1 hp2 hp3 HKL K1 K2 hNA H4A hts HN4 HB4 HS1 HS2 HS4 HSM HSV HTS HPT HP1 HP2 HP4 HA7 HI3 HV1 HV2 HB8 HB9 HBA HW7 HLF hll HLL HZ5 hlow KC
    go_upto_region 10 with fail
    revert HBK
    generalize w10.alloc (.cells #[.int .i64 0, .slice none 0 0, .slice none 0 0, .slice none 0 0, .slice none 0 0, .slice none 0 0, .slice none 0 0, .slice none 0 0, .slice none 0 0, .slice none 0 0, .slice none 0 0, .slice none 0 0, .slice none 0 0, .slice none 0 0, .slice none 0 0, .slice none 0 0, .slice none 0 0] 52) = W1
    intro HBK
    have XC := Lib.hid (fun q W h => XC.out ((p1 ++ p2) ++ p3) q (fun _ => False) W h)
    generalize (p1 ++ p2) ++ p3 = T at HBK D1 D2 D3 D4 XC
    generalize p1 ++ p2 = q2 at D2 D3
    have XA := Lib.hid (fun W (hb : Below w10.heap.size w10 W) => at80 (XA.out.below hb))
    have XB := Lib.hid (fun W (hb : Below w10.heap.size w10 W) => at80 (XB.out.below hb))
    go_wp2_with (first
      | (go_at_call 11; (with_reducible refine (D1.out _ HBK.out).mono ?_); rintro q w11 ⟨rfl, hk⟩; have HK1 := Lib.hid hk; clear hk D1; obtain ⟨a0, a1, a2, a3, a4, a5, a6, a7⟩ := XA.out _ (XC.out _ _ HK1.out))
      | (go_at_call 12; (with_reducible refine (D2.out _ HK1.out).mono ?_); rintro q w12 ⟨rfl, hk⟩; have HK2 := Lib.hid hk; clear hk D2 a0 a1 a2 a3 a4 a5 a6 a7; obtain ⟨b0, b1, b2, b3, b4, b5, b6, b7⟩ := XB.out _ (XC.out _ _ HK2.out))
      | (go_at_call 12; (with_reducible refine (D3.out _ HK2.out).mono ?_); rintro q w13 ⟨rfl, hk⟩; have HK3 := Lib.hid hk; clear hk D3 b0 b1 b2 b3 b4 b5 b6 b7)
      | (go_at_call 13; (with_reducible refine (D4.out _ HK3.out).mono ?_); rintro q w14 ⟨rfl, hb⟩; have HE := Lib.hid hb; clear hb))
    go_ret
    exact ⟨rfl, HE.out⟩
  · go_ret
    exact ⟨rfl, HB3.out⟩
end Go.Proofs.YtmhemajcnfcdmaaGreatDoor
