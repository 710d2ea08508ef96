/-
  Walks: SameValue, SameChild, SameChildren of the laws answer 'V.same', 'C.smB'; old memory is as it was.
  Conditions: what is held against one another lies in memory.
-/
import Derived.Test.YtpmkkgndpfbkdaaDoorNkS
namespace Go.Proofs.YtpmkkgndpfbkdaaDoor
set_option linter.unusedVariables false
set_option linter.unusedSimpArgs false
open Go.RowKit Go.Deep Go.WideShapes

set_option maxRecDepth 100000 in
set_option maxHeartbeats 8000000 in
theorem sv_any : ∀ v : V, SvOk v := by
  intro v
  induction v with
  | leaf => intro u w h; exact h.elim
  | mk k1 n1 s1 la1 ll1 lc1 L1 fa1 fl1 fc1 fn1 F1 e1 key1 hk1 ihL ihF =>
  intro u w hv hu
  cases u with
  | leaf => exact hu.elim
  | mk k2 n2 s2 la2 ll2 lc2 L2 fa2 fl2 fc2 fn2 F2 e2 key2 hk2 =>
  have HL : Hid (∀ W, Below w.heap.size w W → Calls Tryd.prog 29 #[.slice la1 ll1 lc1, .slice la2 ll2 lc2] W fun x w' => x = .returned (.bool (decide (ll1 = ll2) && allB ll1 (fun i => (L1 i).same (L2 i)))) ∧ Below W.heap.size W w') := fun W hb => by
    have a := hv.below hb
    have b := hu.below hb
    exact svs_any W la1 la2 ll1 lc1 ll2 lc2 L1 L2 (fun i _ => ihL i) (by have := a.2.2.2.2.2.1; unfold maxLen at this; omega) (by have := b.2.2.2.2.2.1; unfold maxLen at this; omega) a.2.2.2.2.2.2.2.1 b.2.2.2.2.2.2.2.1
  have HF : Hid (∀ W, Below w.heap.size w W → Calls Tryd.prog 30 #[.slice fa1 fl1 fc1, .slice fa2 fl2 fc2] W fun x w' => x = .returned (.bool (decide (fl1 = fl2) && allB fl1 (fun i => decide (fn1 i = fn2 i) && (F1 i).same (F2 i)))) ∧ Below W.heap.size W w') := fun W hb => by
    have a := hv.below hb
    have b := hu.below hb
    exact sfs_any W fa1 fa2 fl1 fc1 fl2 fc2 fn1 fn2 F1 F2 (fun i _ => ihF i) (by have := a.2.2.2.2.2.2.1; unfold maxLen at this; omega) (by have := b.2.2.2.2.2.2.1; unfold maxLen at this; omega) (fun i hi => ⟨(a.2.2.2.2.2.2.2.2 i hi).1, (a.2.2.2.2.2.2.2.2 i hi).2.2⟩) (fun i hi => ⟨(b.2.2.2.2.2.2.2.2 i hi).1, (b.2.2.2.2.2.2.2.2 i hi).2.2⟩)
  clear hv hu ihL ihF
  obtain ⟨qL, hqL⟩ : ∃ q, (decide (ll1 = ll2) && allB ll1 (fun i => (L1 i).same (L2 i))) = q := ⟨_, rfl⟩
  obtain ⟨qF, hqF⟩ : ∃ q, (decide (fl1 = fl2) && allB fl1 (fun i => decide (fn1 i = fn2 i) && (F1 i).same (F2 i))) = q := ⟨_, rfl⟩
  obtain ⟨q0, hq0⟩ : ∃ q, (k1 == k2) = q := ⟨_, rfl⟩
  obtain ⟨q1, hq1⟩ : ∃ q, (n1 == n2) = q := ⟨_, rfl⟩
  obtain ⟨q2, hq2⟩ : ∃ q, (s1.toList == s2.toList) = q := ⟨_, rfl⟩
  obtain ⟨q3, hq3⟩ : ∃ q, (e1 == e2) = q := ⟨_, rfl⟩
  obtain ⟨q4, hq4⟩ : ∃ q, (key1.toList == key2.toList) = q := ⟨_, rfl⟩
  obtain ⟨q5, hq5⟩ : ∃ q, (hk1 == hk2) = q := ⟨_, rfl⟩
  have HANS : Hid ((V.mk k1 n1 s1 la1 ll1 lc1 L1 fa1 fl1 fc1 fn1 F1 e1 key1 hk1).same (.mk k2 n2 s2 la2 ll2 lc2 L2 fa2 fl2 fc2 fn2 F2 e2 key2 hk2) = (q0 && (q1 && (q2 && (qL && (qF && (q3 && (q4 && q5)))))))) := by
    rw [← hqL, ← hqF, ← hq0, ← hq1, ← hq2, ← hq3, ← hq4, ← hq5]
    rw [show (V.mk k1 n1 s1 la1 ll1 lc1 L1 fa1 fl1 fc1 fn1 F1 e1 key1 hk1).same (.mk k2 n2 s2 la2 ll2 lc2 L2 fa2 fl2 fc2 fn2 F2 e2 key2 hk2) = (ownB k1 n1 s1 e1 key1 hk1 k2 n2 s2 e2 key2 hk2 && (decide (ll1 = ll2) && (decide (fl1 = fl2) && (allB ll1 (fun i => (L1 i).same (L2 i)) && allB fl1 (fun i => decide (fn1 i = fn2 i) && (F1 i).same (F2 i)))))) from rfl]
    unfold ownB
    rw [dec_int k1 k2, dec_int n1 n2, dec_bytes s1 s2, dec_int e1 e2, dec_bytes key1 key2, dec_bool hk1 hk2]
    generalize allB ll1 _ = x1
    generalize allB fl1 _ = x2
    generalize decide (ll1 = ll2) = x3
    generalize decide (fl1 = fl2) = x4
    ac_rfl
  rw [hqL] at HL
  rw [hqF] at HF
  clear hqL hqF
  obtain ⟨ans, hans⟩ : ∃ a, a = (V.mk k1 n1 s1 la1 ll1 lc1 L1 fa1 fl1 fc1 fn1 F1 e1 key1 hk1).same (.mk k2 n2 s2 la2 ll2 lc2 L2 fa2 fl2 fc2 fn2 F2 e2 key2 hk2) := ⟨_, rfl⟩
  rw [← hans] at HANS ⊢
  clear hans
  simp only [V.agg, V.cells]
  have hB0 : Below w.heap.size w ((w.alloc (.cells #[.int .u8 k1, .int .i64 n1, .string s1, .slice la1 ll1 lc1, .slice fa1 fl1 fc1, .int .u8 e1, .string key1, .bool hk1] 30)).alloc (.cells #[.int .u8 k2, .int .i64 n2, .string s2, .slice la2 ll2 lc2, .slice fa2 fl2 fc2, .int .u8 e2, .string key2, .bool hk2] 30)) := ((Below.refl _ _).alloc (Nat.le_refl _) _).alloc (by simp) _
  have hK : Hid (∀ W, Below ((w.alloc (.cells #[.int .u8 k1, .int .i64 n1, .string s1, .slice la1 ll1 lc1, .slice fa1 fl1 fc1, .int .u8 e1, .string key1, .bool hk1] 30)).alloc (.cells #[.int .u8 k2, .int .i64 n2, .string s2, .slice la2 ll2 lc2, .slice fa2 fl2 fc2, .int .u8 e2, .string key2, .bool hk2] 30)).heap.size ((w.alloc (.cells #[.int .u8 k1, .int .i64 n1, .string s1, .slice la1 ll1 lc1, .slice fa1 fl1 fc1, .int .u8 e1, .string key1, .bool hk1] 30)).alloc (.cells #[.int .u8 k2, .int .i64 n2, .string s2, .slice la2 ll2 lc2, .slice fa2 fl2 fc2, .int .u8 e2, .string key2, .bool hk2] 30)) W → Below w.heap.size w W ∧ (∀ j, W.cell? ⟨w.heap.size, j, none⟩ = (#[.int .u8 k1, .int .i64 n1, .string s1, .slice la1 ll1 lc1, .slice fa1 fl1 fc1, .int .u8 e1, .string key1, .bool hk1] : Array Value)[j]?) ∧ ∀ j, W.cell? ⟨w.heap.size + 1, j, none⟩ = (#[.int .u8 k2, .int .i64 n2, .string s2, .slice la2 ll2 lc2, .slice fa2 fl2 fc2, .int .u8 e2, .string key2, .bool hk2] : Array Value)[j]?) := fun W hb =>
    ⟨hB0.trans (hb.mono hB0.size), fun j => Lib.cell_of_heap ((hb.block _ (by simp; omega)).trans (al_old _ (al_new _ rfl))) j, fun j => Lib.cell_of_heap ((hb.block _ (by simp)).trans (al_new _ (by simp))) j⟩
  have HB0 := Lib.hid hB0
  clear hB0
  go_enter Tryd.func18, Tryd.ntmps18
  go_wp2_with (first
    | (go_at_call 29; (with_reducible refine (HL.out _ HB0.out).mono ?_); rintro x w1 ⟨rfl, hb1⟩; have HB1 := Lib.hid hb1; have hq := hK.out _ hb1; have cw14 : w1.cell? ⟨w.heap.size, 4, none⟩ = some (.slice fa1 fl1 fc1) := (hq.2.1 4).trans rfl; have cw15 : w1.cell? ⟨w.heap.size, 5, none⟩ = some (.int .u8 e1) := (hq.2.1 5).trans rfl; have cw16 : w1.cell? ⟨w.heap.size, 6, none⟩ = some (.string key1) := (hq.2.1 6).trans rfl; have cw17 : w1.cell? ⟨w.heap.size, 7, none⟩ = some (.bool hk1) := (hq.2.1 7).trans rfl; have dw14 : w1.cell? ⟨w.heap.size + 1, 4, none⟩ = some (.slice fa2 fl2 fc2) := (hq.2.2 4).trans rfl; have dw15 : w1.cell? ⟨w.heap.size + 1, 5, none⟩ = some (.int .u8 e2) := (hq.2.2 5).trans rfl; have dw16 : w1.cell? ⟨w.heap.size + 1, 6, none⟩ = some (.string key2) := (hq.2.2 6).trans rfl; have dw17 : w1.cell? ⟨w.heap.size + 1, 7, none⟩ = some (.bool hk2) := (hq.2.2 7).trans rfl; clear hq hb1)
    | (go_at_call 30; (with_reducible refine (HF.out _ (HB0.out.trans (HB1.out.mono HB0.out.size))).mono ?_); rintro x w2 ⟨rfl, hb2⟩; have HB2 : Hid (Below ((w.alloc (.cells #[.int .u8 k1, .int .i64 n1, .string s1, .slice la1 ll1 lc1, .slice fa1 fl1 fc1, .int .u8 e1, .string key1, .bool hk1] 30)).alloc (.cells #[.int .u8 k2, .int .i64 n2, .string s2, .slice la2 ll2 lc2, .slice fa2 fl2 fc2, .int .u8 e2, .string key2, .bool hk2] 30)).heap.size ((w.alloc (.cells #[.int .u8 k1, .int .i64 n1, .string s1, .slice la1 ll1 lc1, .slice fa1 fl1 fc1, .int .u8 e1, .string key1, .bool hk1] 30)).alloc (.cells #[.int .u8 k2, .int .i64 n2, .string s2, .slice la2 ll2 lc2, .slice fa2 fl2 fc2, .int .u8 e2, .string key2, .bool hk2] 30)) w2) := HB1.out.trans (hb2.mono HB1.out.size); have hq := hK.out _ HB2.out; have cw25 : w2.cell? ⟨w.heap.size, 5, none⟩ = some (.int .u8 e1) := (hq.2.1 5).trans rfl; have cw26 : w2.cell? ⟨w.heap.size, 6, none⟩ = some (.string key1) := (hq.2.1 6).trans rfl; have cw27 : w2.cell? ⟨w.heap.size, 7, none⟩ = some (.bool hk1) := (hq.2.1 7).trans rfl; have dw25 : w2.cell? ⟨w.heap.size + 1, 5, none⟩ = some (.int .u8 e2) := (hq.2.2 5).trans rfl; have dw26 : w2.cell? ⟨w.heap.size + 1, 6, none⟩ = some (.string key2) := (hq.2.2 6).trans rfl; have dw27 : w2.cell? ⟨w.heap.size + 1, 7, none⟩ = some (.bool hk2) := (hq.2.2 7).trans rfl; clear hq hb2))
  all_goals
    go_ret
    first
      | exact ⟨by rw [HANS.out]; simp_all, HB0.out.trans (HB2.out.mono HB0.out.size)⟩
      | exact ⟨by rw [HANS.out]; simp_all, HB0.out.trans (HB1.out.mono HB0.out.size)⟩
      | exact ⟨by rw [HANS.out]; simp_all, HB0.out⟩

/-- Are two children the same? -/
def C.smB (c d : C) : Bool := decide (c.key = d.key) && (decide (c.kind = d.kind) && (decide (c.name = d.name) && c.val.same d.val))
set_option maxRecDepth 100000 in
set_option maxHeartbeats 8000000 in
theorem sc_any (c d : C) (w : World) (hv : c.val.In w) (hu : d.val.In w) :
    Calls Tryd.prog 9 #[c.agg, d.agg] w fun x w' => x = .returned (.bool (c.smB d)) ∧ Below w.heap.size w w' := by
  obtain ⟨ck1, ce1, cn1, v⟩ := c
  obtain ⟨ck2, ce2, cn2, u⟩ := d
  have HS := Lib.hid (fun W (hb : Below w.heap.size w W) => sv_any v u W (hv.below hb) (hu.below hb))
  obtain ⟨qL, hqL⟩ : ∃ q, v.same u = q := ⟨_, rfl⟩
  obtain ⟨q0, hq0⟩ : ∃ q, (ck1.toList == ck2.toList) = q := ⟨_, rfl⟩
  obtain ⟨q1, hq1⟩ : ∃ q, (ce1 == ce2) = q := ⟨_, rfl⟩
  obtain ⟨q2, hq2⟩ : ∃ q, (cn1.toList == cn2.toList) = q := ⟨_, rfl⟩
  have HANS : Hid (C.smB ⟨ck1, ce1, cn1, v⟩ ⟨ck2, ce2, cn2, u⟩ = (q0 && (q1 && (q2 && qL)))) := by
    rw [← hqL, ← hq0, ← hq1, ← hq2]
    show (decide (ck1 = ck2) && (decide (ce1 = ce2) && (decide (cn1 = cn2) && v.same u))) = _
    rw [dec_int ce1 ce2, dec_bytes ck1 ck2, dec_bytes cn1 cn2]
  rw [hqL] at HS
  clear hqL
  obtain ⟨ans, hans⟩ : ∃ a, a = C.smB ⟨ck1, ce1, cn1, v⟩ ⟨ck2, ce2, cn2, u⟩ := ⟨_, rfl⟩
  rw [← hans] at HANS ⊢
  clear hans
  cases v with
  | leaf => exact hv.elim
  | mk k1 n1 s1 la1 ll1 lc1 L1 fa1 fl1 fc1 fn1 F1 e1 key1 hk1 =>
  cases u with
  | leaf => exact hu.elim
  | mk k2 n2 s2 la2 ll2 lc2 L2 fa2 fl2 fc2 fn2 F2 e2 key2 hk2 =>
  clear hv hu
  simp only [C.agg, C.cells, V.agg, V.cells] at HS ⊢
  have hB0 : Below w.heap.size w ((w.alloc (.cells #[.string ck1, .int .u8 ce1, .string cn1, .int .u8 k1, .int .i64 n1, .string s1, .slice la1 ll1 lc1, .slice fa1 fl1 fc1, .int .u8 e1, .string key1, .bool hk1] 35)).alloc (.cells #[.string ck2, .int .u8 ce2, .string cn2, .int .u8 k2, .int .i64 n2, .string s2, .slice la2 ll2 lc2, .slice fa2 fl2 fc2, .int .u8 e2, .string key2, .bool hk2] 35)) := ((Below.refl _ _).alloc (Nat.le_refl _) _).alloc (by simp) _
  have hK : Hid (∀ W, Below ((w.alloc (.cells #[.string ck1, .int .u8 ce1, .string cn1, .int .u8 k1, .int .i64 n1, .string s1, .slice la1 ll1 lc1, .slice fa1 fl1 fc1, .int .u8 e1, .string key1, .bool hk1] 35)).alloc (.cells #[.string ck2, .int .u8 ce2, .string cn2, .int .u8 k2, .int .i64 n2, .string s2, .slice la2 ll2 lc2, .slice fa2 fl2 fc2, .int .u8 e2, .string key2, .bool hk2] 35)).heap.size ((w.alloc (.cells #[.string ck1, .int .u8 ce1, .string cn1, .int .u8 k1, .int .i64 n1, .string s1, .slice la1 ll1 lc1, .slice fa1 fl1 fc1, .int .u8 e1, .string key1, .bool hk1] 35)).alloc (.cells #[.string ck2, .int .u8 ce2, .string cn2, .int .u8 k2, .int .i64 n2, .string s2, .slice la2 ll2 lc2, .slice fa2 fl2 fc2, .int .u8 e2, .string key2, .bool hk2] 35)) W → Below w.heap.size w W ∧ (∀ j, W.cell? ⟨w.heap.size, j, none⟩ = (#[.string ck1, .int .u8 ce1, .string cn1, .int .u8 k1, .int .i64 n1, .string s1, .slice la1 ll1 lc1, .slice fa1 fl1 fc1, .int .u8 e1, .string key1, .bool hk1] : Array Value)[j]?) ∧ ∀ j, W.cell? ⟨w.heap.size + 1, j, none⟩ = (#[.string ck2, .int .u8 ce2, .string cn2, .int .u8 k2, .int .i64 n2, .string s2, .slice la2 ll2 lc2, .slice fa2 fl2 fc2, .int .u8 e2, .string key2, .bool hk2] : Array Value)[j]?) := fun W hb =>
    ⟨hB0.trans (hb.mono hB0.size), fun j => Lib.cell_of_heap ((hb.block _ (by simp; omega)).trans (al_old _ (al_new _ rfl))) j, fun j => Lib.cell_of_heap ((hb.block _ (by simp)).trans (al_new _ (by simp))) j⟩
  have HB0 := Lib.hid hB0
  clear hB0
  go_enter Tryd.func9, Tryd.ntmps9
  go_wp2_with (first
    | (go_at_call 18; (with_reducible refine (HS.out _ HB0.out).mono ?_); rintro x w1 ⟨rfl, hb1⟩; have HB1 := Lib.hid hb1; clear hb1))
  all_goals
    go_ret
    first
      | exact ⟨by rw [HANS.out]; simp_all, HB0.out.trans (HB1.out.mono HB0.out.size)⟩
      | exact ⟨by rw [HANS.out]; simp_all, HB0.out⟩

end Go.Proofs.YtpmkkgndpfbkdaaDoor
