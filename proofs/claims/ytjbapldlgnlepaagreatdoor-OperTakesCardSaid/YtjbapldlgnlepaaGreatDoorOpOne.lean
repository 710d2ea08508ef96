/-
  Walks: the small makers of package oper (anInt, aText, aBool, aList), and are: which kinds the first values have.
  Conditions: the values lie in memory.
  Walks: add, sub, mul of package oper answer 'opV', 'opOk'.
  Conditions: the two values lie in memory.
  Walks: not, lt, eq, length, list of package oper answer 'opV', 'opOk'.
  Conditions: the values lie in memory.
  Walks: eq, length, list of package oper answer 'opV', 'opOk'.
  Conditions: the values lie in memory.
-/
import Derived.Test.YtjbapldlgnlepaaGreatDoorOperP
import Derived.Test.YtjbapldlgnlepaaGreatDoorSize
import Derived.Test.YtjbapldlgnlepaaGreatDoorOperQ
import Derived.Test.YtjbapldlgnlepaaGreatDoorTabs
import Derived.Deep.RegionHeld3
import Derived.Deep.RegionWith
import Derived.IntWalk
import Derived.Deep.CutRange
import Derived.Deep.DeepCutAuto
namespace Go.Proofs.YtjbapldlgnlepaaGreatDoor
open Go.RowKit

/-- A list of values lies in memory. -/
structure Vals (w : World) (la : Option Addr) (ll lc : Nat) (L : Nat → V) : Prop where
  hlc : ll ≤ lc ∧ lc ≤ maxLen
  el : ∀ i, i < ll → (∃ b o, la = some ⟨b, o, none⟩ ∧ At w b (o + i * 8) (L i).cells) ∧ (L i).In w

theorem Vals.below {w w' : World} {la : Option Addr} {ll lc : Nat} {L : Nat → V} (h : Vals w la ll lc L) (hb : Below w.heap.size w w') : Vals w' la ll lc L :=
  ⟨h.hlc, fun i hi => ⟨let ⟨b, o, e, ha⟩ := (h.el i hi).1; ⟨b, o, e, ha.below hb⟩, (h.el i hi).2.below hb⟩⟩

set_option maxHeartbeats 400000 in
theorem anInt_any (x : Int) (w : World) : Calls Tryz.prog 133 #[.int .i64 x] w fun e w' => e = .returned (iv x).agg ∧ Below w.heap.size w w' := by
  go_enter Tryz.func133, Tryz.ntmps133
  go_wp2
  exact bodyPost_ret (v := (iv x).agg) (by simp [results, Tryz.results133, go_sem, iv, vz, V.agg, V.cells]) rfl ⟨rfl, (below_alloc w _)⟩
set_option maxHeartbeats 400000 in
theorem aText_any (s : ByteArray) (w : World) : Calls Tryz.prog 140 #[.string s] w fun e w' => e = .returned (sv s).agg ∧ Below w.heap.size w w' := by
  go_enter Tryz.func140, Tryz.ntmps140
  go_wp2
  exact bodyPost_ret (v := (sv s).agg) (by simp [results, Tryz.results140, go_sem, sv, vz, V.agg, V.cells]) rfl ⟨rfl, (below_alloc w _)⟩
set_option maxHeartbeats 400000 in
theorem aList_any (la : Option Addr) (ll lc : Nat) (L : Nat → V) (w : World) : Calls Tryz.prog 142 #[.slice la ll lc] w fun e w' => e = .returned (lv la ll lc L).agg ∧ Below w.heap.size w w' := by
  go_enter Tryz.func142, Tryz.ntmps142
  go_wp2
  exact bodyPost_ret (v := (lv la ll lc L).agg) (by simp [results, Tryz.results142, go_sem, lv, V.agg, V.cells]) rfl ⟨rfl, (below_alloc w _)⟩
set_option maxHeartbeats 400000 in
theorem aBool_any (b : Bool) (w : World) : Calls Tryz.prog 135 #[.bool b] w fun e w' => e = .returned (bv b).agg ∧ Below w.heap.size w w' := by
  cases b
  · go_enter Tryz.func135, Tryz.ntmps135
    go_wp2
    exact bodyPost_ret (v := (bv false).agg) (by simp [results, Tryz.results135, go_sem, bv, vz, V.agg, V.cells]) rfl ⟨rfl, (below_alloc w _)⟩
  · go_enter Tryz.func135, Tryz.ntmps135
    go_wp2
    exact bodyPost_ret (v := (bv true).agg) (by simp [results, Tryz.results135, go_sem, bv, vz, V.agg, V.cells]) rfl ⟨rfl, (below_alloc w _)⟩

/-- Kinds in a list. -/
def KAt (w : World) (kb m : Nat) (ks : Nat → Int) : Prop := ∀ j, j < m → w.cell? ⟨kb, j, none⟩ = some (.int .u8 (ks j))
theorem KAt.below {w w' : World} {kb m : Nat} {ks : Nat → Int} (h : KAt w kb m ks) (hb : Below w.heap.size w w') : KAt w' kb m ks := fun j hj => by
  rw [hb.cell (World.block_lt_of_cell? _ _ (h j hj)), h j hj]
def areB (m : Nat) (ks : Nat → Int) (L : Nat → V) : Bool := allB m (fun i => decide ((L i).kind = ks i))

theorem cells_kind {w : World} {b o : Nat} : ∀ {v : V}, v.In w → At w b o v.cells → w.cell? ⟨b, o, none⟩ = some (.int .u8 v.kind) := by
  intro v h ha
  cases v with
  | leaf => exact h.elim
  | mk => exact (at8 ha).1

set_option maxHeartbeats 1000000 in
theorem are_any (la : Option Addr) (ll lc : Nat) (L : Nat → V) (kb m kc : Nat) (ks : Nat → Int) (w : World) (h : Vals w la ll lc L) (hk : KAt w kb m ks) (hm : m ≤ ll) :
    Calls Tryz.prog 134 #[.slice la ll lc, .slice (some ⟨kb, 0, none⟩) m kc] w fun e w' => e = .returned (.bool (areB m ks L)) ∧ w' = w := by
  have hlc := h.hlc
  unfold maxLen at hlc
  have HE := Lib.hid (fun i (hi : i < m) => And.intro (h.el i (by omega)).1 (And.intro (h.el i (by omega)).2 (hk i hi)))
  have HT : Hid (∀ i, i < m → (L i).kind ≠ ks i → areB m ks L = false) := fun i hi hne => allB_false hi (by simpa using hne)
  have HA : Hid (HeldTo m (fun i => decide ((L i).kind = ks i)) → areB m ks L = true) := fun h => h.all
  generalize areB m ks L = r at HT HA ⊢
  clear h hk
  go_enter Tryz.func134, Tryz.ntmps134
  go_wp2
  go_loop [9] (fun i => ∃ k : Nat, i = .int .i64 k ∧ k ≤ m ∧ HeldTo k (fun i => decide ((L i).kind = ks i))) (fun i => m - (intOf i).toNat)
  case atStart => exact ⟨0, rfl, Nat.zero_le _, HeldTo.zero⟩
  case round =>
    obtain ⟨k, rfl, hkm, hheld⟩ := hrel
    have HH := Lib.hid hheld
    clear hheld
    by_cases hlt : k < m
    · obtain ⟨⟨b, o, rfl, hat⟩, hin, hkc⟩ := HE.out k hlt
      have hc := cells_kind hin hat
      have HK := Lib.hid hin
      clear hin hat
      have hlt' : (k : Int) < (m : Int) := by omega
      have hk0 : (0 : Int) ≤ (k : Int) := by omega
      have hlt2 : (k : Int) < (ll : Int) := by omega
      by_cases he : (L k).kind = ks k
      · have hq : ((L k).kind != ks k) = false := by simpa using he
        have HQ := Lib.hid he
        clear he
        go_wp2
        go_round
        case rel => exact ⟨k + 1, by go_num, by omega, HH.out.succ (by simpa using HQ.out)⟩
        case measure => simp [intOf]; omega
      · have hq : ((L k).kind != ks k) = true := by simpa using he
        have HQ := Lib.hid (HT.out k hlt he)
        clear he
        go_wp2
        go_ret
        exact ⟨by rw [HQ.out]; rfl, rfl⟩
    · obtain rfl : m = k := by omega
      have HQ := Lib.hid (HA.out HH.out)
      go_wp2
      go_ret
      exact ⟨by rw [HQ.out]; rfl, rfl⟩
end Go.Proofs.YtjbapldlgnlepaaGreatDoor
namespace Go.Proofs.YtjbapldlgnlepaaGreatDoor
open Go.RowKit Go.Deep Go.WideShapes

/-- What an operation leaves. -/
def OpPost (k n : Nat) (L : Nat → V) (w : World) (e : Ending) (w' : World) : Prop :=
  ∃ u : V, e = .returned (.tuple #[u.agg, .bool (opOk k n L)]) ∧ Below w.heap.size w w' ∧ u.In w' ∧ (opOk k n L = true → u.same (opV k n L) = true)

/-- What stands in a cell that is there. -/
def rs (W : World) (b i : Nat) : Value := (W.cell? ⟨b, i, none⟩).getD undef
theorem rs_some {W : World} {b i : Nat} {v : Value} (h : W.cell? ⟨b, i, none⟩ = some v) : W.cell? ⟨b, i, none⟩ = some (rs W b i) := by
  rw [rs, h]; rfl

/-- The values lie in memory, and so does the variable of the result, the first block behind 'w'. -/
structure OW (w : World) (la : Option Addr) (ll lc : Nat) (L : Nat → V) (W : World) : Prop where
  low : Below w.heap.size w W
  base : Vals w la ll lc L
  res : ∀ i, i < 8 → (∃ v, W.cell? ⟨w.heap.size, i, none⟩ = some v) ∧ W.frozen? ⟨w.heap.size, i, none⟩ = false
  big : w.heap.size < W.heap.size

theorem OW.vals {w W : World} {la : Option Addr} {ll lc : Nat} {L : Nat → V} (h : OW w la ll lc L W) : Vals W la ll lc L := h.base.below h.low

theorem OW.below {w W W' : World} {la : Option Addr} {ll lc : Nat} {L : Nat → V} (h : OW w la ll lc L W) (hb : Below W.heap.size W W') : OW w la ll lc L W' := by
  refine ⟨h.low.trans (hb.mono h.low.size), h.base, fun i hi => ?_, Nat.lt_of_lt_of_le h.big hb.size⟩
  obtain ⟨⟨v, h1⟩, h2⟩ := h.res i hi
  exact ⟨⟨v, by rw [hb.cell (World.block_lt_of_cell? _ _ h1), h1]⟩, by rw [hb.frozen (World.block_lt_of_cell? _ _ h1), h2]⟩

theorem OW.start {w : World} {la : Option Addr} {ll lc : Nat} {L : Nat → V} (h : Vals w la ll lc L) (T : TypeId) : OW w la ll lc L (w.alloc (.cells nv.cells.toArray T)) := by
  refine ⟨below_alloc _ _, h, fun i hi => ?_, by simp⟩
  have := at_new (w := w) (cs := nv.cells) (T := T) rfl (Below.refl _ _) i hi
  rw [Nat.zero_add] at this
  exact ⟨⟨nv.cells[i]'hi, by rw [this]; exact List.getElem?_eq_getElem hi⟩, by simp⟩

theorem cells_num {w : World} {b o : Nat} : ∀ {v : V}, v.In w → At w b o v.cells → w.cell? ⟨b, o + 1, none⟩ = some (.int .i64 v.num) := by
  intro v h ha
  cases v with
  | leaf => exact h.elim
  | mk => exact (at8 ha).2.1

theorem OW.two {w W : World} {la : Option Addr} {lc : Nat} {L : Nat → V} (h : OW w la 2 lc L W) : ∃ b o, la = some ⟨b, o, none⟩ ∧ (At W b o (L 0).cells ∧ (L 0).In W) ∧ (At W b (o + 8) (L 1).cells ∧ (L 1).In W) := by
  obtain ⟨⟨b, o, e, ha⟩, hi⟩ := h.vals.el 0 (by decide)
  obtain ⟨⟨b', o', e', ha'⟩, hi'⟩ := h.vals.el 1 (by decide)
  subst e
  simp only [Option.some.injEq, Addr.mk.injEq, and_true] at e'
  obtain ⟨rfl, rfl⟩ := e'
  simp only [Nat.zero_mul, Nat.add_zero, Nat.one_mul] at ha ha'
  exact ⟨b, o, rfl, ⟨ha, hi⟩, ⟨ha', hi'⟩⟩

/-- Two kinds. -/
def k2 (x y : Int) : Nat → Int := fun i => if i = 0 then x else y
theorem kat2 (W : World) (x y : Int) (T : TypeId) : KAt (W.alloc (.cells #[.int .u8 x, .int .u8 y] T)) W.heap.size 2 (k2 x y) := by
  intro j hj
  match j, hj with
  | 0, _ => simp [k2]
  | 1, _ => simp [k2]
theorem are_two (x y : Int) (L : Nat → V) : areB 2 (k2 x y) L = (decide ((L 0).kind = x) && decide ((L 1).kind = y)) := by
  rw [areB, allB2]; rfl

theorem OW.set {w W : World} {la : Option Addr} {ll lc : Nat} {L : Nat → V} (h : OW w la ll lc L W) (i : Nat) (u : Value) : OW w la ll lc L (W.setCell ⟨w.heap.size, i, none⟩ u) := by
  refine ⟨h.low.setCell (p := ⟨w.heap.size, i, none⟩) (Nat.le_refl _) u, h.base, fun j hj => ?_, by simpa using h.big⟩
  obtain ⟨⟨v, h1⟩, h2⟩ := h.res j hj
  refine ⟨?_, ?_⟩
  · by_cases e : i = j
    · subst e
      exact ⟨u, World.cell?_setCell_same _ _ _ h1⟩
    · exact ⟨v, by rw [World.cell?_setCell_other _ _ _ _ (fun e' => e (congrArg (fun a : Addr => a.off) e')), h1]⟩
  · rw [World.frozen?_setCell, h2]

theorem OW.drew {w W : World} {la : Option Addr} {ll lc : Nat} {L : Nat → V} (h : OW w la ll lc L W) : OW w la ll lc L W.drew := h.below (Below.refl _ _).drew
theorem OW.alloc {w W : World} {la : Option Addr} {ll lc : Nat} {L : Nat → V} (h : OW w la ll lc L W) (O : Obj) : OW w la ll lc L (W.alloc O) := h.below (below_alloc _ _)

/-- What a walk takes out of it: the result variable's cells. -/
theorem OW.rcells {w W : World} {la : Option Addr} {ll lc : Nat} {L : Nat → V} (h : OW w la ll lc L W) :
    (W.cell? ⟨w.heap.size, 0, none⟩ = some (rs W w.heap.size 0) ∧ W.cell? ⟨w.heap.size, 1, none⟩ = some (rs W w.heap.size 1) ∧ W.cell? ⟨w.heap.size, 2, none⟩ = some (rs W w.heap.size 2) ∧ W.cell? ⟨w.heap.size, 3, none⟩ = some (rs W w.heap.size 3) ∧
      W.cell? ⟨w.heap.size, 4, none⟩ = some (rs W w.heap.size 4) ∧ W.cell? ⟨w.heap.size, 5, none⟩ = some (rs W w.heap.size 5) ∧ W.cell? ⟨w.heap.size, 6, none⟩ = some (rs W w.heap.size 6) ∧ W.cell? ⟨w.heap.size, 7, none⟩ = some (rs W w.heap.size 7)) ∧
    (W.frozen? ⟨w.heap.size, 0, none⟩ = false ∧ W.frozen? ⟨w.heap.size, 1, none⟩ = false ∧ W.frozen? ⟨w.heap.size, 2, none⟩ = false ∧ W.frozen? ⟨w.heap.size, 3, none⟩ = false ∧ W.frozen? ⟨w.heap.size, 4, none⟩ = false ∧ W.frozen? ⟨w.heap.size, 5, none⟩ = false ∧
      W.frozen? ⟨w.heap.size, 6, none⟩ = false ∧ W.frozen? ⟨w.heap.size, 7, none⟩ = false) :=
  ⟨⟨rs_some (h.res 0 (by decide)).1.choose_spec, rs_some (h.res 1 (by decide)).1.choose_spec, rs_some (h.res 2 (by decide)).1.choose_spec, rs_some (h.res 3 (by decide)).1.choose_spec, rs_some (h.res 4 (by decide)).1.choose_spec, rs_some (h.res 5 (by decide)).1.choose_spec, rs_some (h.res 6 (by decide)).1.choose_spec, rs_some (h.res 7 (by decide)).1.choose_spec⟩,
    (h.res 0 (by decide)).2, (h.res 1 (by decide)).2, (h.res 2 (by decide)).2, (h.res 3 (by decide)).2, (h.res 4 (by decide)).2, (h.res 5 (by decide)).2, (h.res 6 (by decide)).2, (h.res 7 (by decide)).2⟩

theorem ow_nums {w W : World} {b o lc : Nat} {L : Nat → V} (h : OW w (some ⟨b, o, none⟩) 2 lc L W) : W.cell? ⟨b, o + 1, none⟩ = some (.int .i64 (L 0).num) ∧ W.cell? ⟨b, o + 8 + 1, none⟩ = some (.int .i64 (L 1).num) := by
  obtain ⟨b', o', e, ⟨a1, a2⟩, a3, a4⟩ := h.two
  cases e
  exact ⟨cells_num a2 a1, cells_num a4 a3⟩

theorem iv_in (n : Int) (W : World) (h : -9223372036854775808 ≤ n ∧ n ≤ 9223372036854775807) : (iv n).In W := vz_in W (by omega) h (by decide)
theorem bv_in (b : Bool) (W : World) : (bv b).In W := vz_in W (by omega) (by cases b <;> decide) (by decide)
theorem nv_in (W : World) : nv.In W := vz_in W (by omega) (by omega) (by decide)

set_option maxRecDepth 100000 in
set_option maxHeartbeats 4000000 in
theorem add_any (la : Option Addr) (lc : Nat) (L : Nat → V) (w : World) (h : Vals w la 2 lc L) : Calls Tryz.prog 83 #[.slice la 2 lc] w (OpPost 0 2 L w) := by
  have OK0 := OW.start h 55
  have hlc := h.hlc
  unfold maxLen at hlc
  obtain ⟨b, o, rfl, -⟩ := OK0.two
  obtain ⟨r, hr⟩ : ∃ r, opOk 0 2 L = r := ⟨_, rfl⟩
  have HC := Lib.hid (fun W kb (h : OW w (some ⟨b, o, none⟩) 2 lc L W) (hk : KAt W kb 2 (k2 1 1)) => (are_any _ 2 lc L kb 2 2 (k2 1 1) W h.vals hk (by decide)).mono (R' := fun e w' => e = .returned (.bool r) ∧ OW w (some ⟨b, o, none⟩) 2 lc L w') (fun e w' ⟨h1, h2⟩ => ⟨by rw [h1, are_two, ← hr]; rfl, by rw [h2]; exact h⟩))
  have KS := Lib.hid (fun W (h : OW w (some ⟨b, o, none⟩) 2 lc L W) => And.intro h (And.intro (ow_nums h) h.rcells))
  have HP : Hid (∀ e w', (∃ u : V, e = .returned (.tuple #[u.agg, .bool r]) ∧ Below w.heap.size w w' ∧ u.In w' ∧ u = iv (wrap64 ((L 0).num + (L 1).num))) → OpPost 0 2 L w e w') := by
    rintro e w' ⟨u, h1, h2, h3, rfl⟩
    exact ⟨_, by rw [hr]; exact h1, h2, h3, fun _ => iv_same _⟩
  clear hr
  generalize (L 0).num = x at KS HP
  generalize (L 1).num = y at KS HP
  simp only [nv, vz, V.cells] at OK0
  have OKH := Lib.hid OK0
  clear OK0 h
  go_enter Tryz.func83, Tryz.ntmps83
  go_wp2_with fail
  have OKu := OKH.out
  generalize w.alloc (.cells #[.int .u8 0, .int .i64 0, .string ⟨#[]⟩, .slice none 0 0, .slice none 0 0, .int .u8 0, .string ⟨#[]⟩, .bool false] 55) = W0 at OKu ⊢
  clear OKH
  have OK : OW w (some ⟨b, o, none⟩) 2 lc L W0 := OKu
  clear OKu
  go_region_held3 (fun W => OW w (some ⟨b, o, none⟩) 2 lc L W ∧
      (W.cell? ⟨b, o + 1, none⟩ = some (.int .i64 x) ∧ W.cell? ⟨b, o + 8 + 1, none⟩ = some (.int .i64 y)) ∧
      (W.cell? ⟨w.heap.size, 0, none⟩ = some (rs W w.heap.size 0) ∧ W.cell? ⟨w.heap.size, 1, none⟩ = some (rs W w.heap.size 1) ∧ W.cell? ⟨w.heap.size, 2, none⟩ = some (rs W w.heap.size 2) ∧ W.cell? ⟨w.heap.size, 3, none⟩ = some (rs W w.heap.size 3) ∧ W.cell? ⟨w.heap.size, 4, none⟩ = some (rs W w.heap.size 4) ∧ W.cell? ⟨w.heap.size, 5, none⟩ = some (rs W w.heap.size 5) ∧ W.cell? ⟨w.heap.size, 6, none⟩ = some (rs W w.heap.size 6) ∧ W.cell? ⟨w.heap.size, 7, none⟩ = some (rs W w.heap.size 7)) ∧
      (W.frozen? ⟨w.heap.size, 0, none⟩ = false ∧ W.frozen? ⟨w.heap.size, 1, none⟩ = false ∧ W.frozen? ⟨w.heap.size, 2, none⟩ = false ∧ W.frozen? ⟨w.heap.size, 3, none⟩ = false ∧ W.frozen? ⟨w.heap.size, 4, none⟩ = false ∧ W.frozen? ⟨w.heap.size, 5, none⟩ = false ∧ W.frozen? ⟨w.heap.size, 6, none⟩ = false ∧ W.frozen? ⟨w.heap.size, 7, none⟩ = false))
    (first
      | (refine KS.out _ ?_; with_reducible assumption)
      | (refine KS.out _ ?_; ((with_reducible refine OW.set ?_ _ _); (repeat' (with_reducible refine OW.set ?_ _ _)); go_split_ands; with_reducible assumption))
      | (with_reducible exact KS.out _ (OW.drew OK))
      | (with_reducible exact KS.out _ (OW.drew (OW.alloc OK _)))
      | (refine KS.out _ (OW.below ?_ (by with_reducible assumption)); go_split_ands; with_reducible assumption)
      | (with_reducible refine KS.out _ (OW.alloc ?_ _); go_split_ands; with_reducible assumption))
    (first
      | (go_at_call 133; refine (anInt_any _ _).mono ?_; rintro z w1 ⟨rfl, hb1⟩; simp only [iv, vz, V.agg, V.cells]; try (have HK1 := ((kat2 _ _ _ _).below (Below.refl _ _).drew).below hb1))
      | (go_at_call 134; refine (HC.out _ _ ?_ ?_).mono ?_; (go_split_ands; assumption); (first | assumption | exact kat2 _ _ _ _); rintro z w2 ⟨rfl, OK2⟩))
  all_goals
    go_wp2_with fail
    rename_i hS
    have HS := Lib.hid hS.1
    obtain ⟨-, -, ⟨d0, d1, d2, d3, d4, d5, d6, d7⟩, -⟩ := KS.out _ OK2
    clear hS KS HC OK
    refine bodyPost_ret (v := .tuple #[(iv (wrap64 (x + y))).agg, .bool r]) (by simp [results, Tryz.results83, go_sem, d0, d1, d2, d3, d4, d5, d6, d7, iv, vz, V.agg, V.cells, IntWalk.i64_left]) rfl (HP.out _ _ ⟨_, rfl, HS.out.low, iv_in _ _ (wrap64_range _), rfl⟩)

set_option maxRecDepth 100000 in
set_option maxHeartbeats 4000000 in
theorem sub_any (la : Option Addr) (lc : Nat) (L : Nat → V) (w : World) (h : Vals w la 2 lc L) : Calls Tryz.prog 84 #[.slice la 2 lc] w (OpPost 1 2 L w) := by
  have OK0 := OW.start h 55
  have hlc := h.hlc
  unfold maxLen at hlc
  obtain ⟨b, o, rfl, -⟩ := OK0.two
  obtain ⟨r, hr⟩ : ∃ r, opOk 1 2 L = r := ⟨_, rfl⟩
  have HC := Lib.hid (fun W kb (h : OW w (some ⟨b, o, none⟩) 2 lc L W) (hk : KAt W kb 2 (k2 1 1)) => (are_any _ 2 lc L kb 2 2 (k2 1 1) W h.vals hk (by decide)).mono (R' := fun e w' => e = .returned (.bool r) ∧ OW w (some ⟨b, o, none⟩) 2 lc L w') (fun e w' ⟨h1, h2⟩ => ⟨by rw [h1, are_two, ← hr]; rfl, by rw [h2]; exact h⟩))
  have KS := Lib.hid (fun W (h : OW w (some ⟨b, o, none⟩) 2 lc L W) => And.intro h (And.intro (ow_nums h) h.rcells))
  have HP : Hid (∀ e w', (∃ u : V, e = .returned (.tuple #[u.agg, .bool r]) ∧ Below w.heap.size w w' ∧ u.In w' ∧ u = iv (wrap64 ((L 0).num - (L 1).num))) → OpPost 1 2 L w e w') := by
    rintro e w' ⟨u, h1, h2, h3, rfl⟩
    exact ⟨_, by rw [hr]; exact h1, h2, h3, fun _ => iv_same _⟩
  clear hr
  generalize (L 0).num = x at KS HP
  generalize (L 1).num = y at KS HP
  simp only [nv, vz, V.cells] at OK0
  have OKH := Lib.hid OK0
  clear OK0 h
  go_enter Tryz.func84, Tryz.ntmps84
  go_wp2_with fail
  have OKu := OKH.out
  generalize w.alloc (.cells #[.int .u8 0, .int .i64 0, .string ⟨#[]⟩, .slice none 0 0, .slice none 0 0, .int .u8 0, .string ⟨#[]⟩, .bool false] 55) = W0 at OKu ⊢
  clear OKH
  have OK : OW w (some ⟨b, o, none⟩) 2 lc L W0 := OKu
  clear OKu
  go_region_held3 (fun W => OW w (some ⟨b, o, none⟩) 2 lc L W ∧
      (W.cell? ⟨b, o + 1, none⟩ = some (.int .i64 x) ∧ W.cell? ⟨b, o + 8 + 1, none⟩ = some (.int .i64 y)) ∧
      (W.cell? ⟨w.heap.size, 0, none⟩ = some (rs W w.heap.size 0) ∧ W.cell? ⟨w.heap.size, 1, none⟩ = some (rs W w.heap.size 1) ∧ W.cell? ⟨w.heap.size, 2, none⟩ = some (rs W w.heap.size 2) ∧ W.cell? ⟨w.heap.size, 3, none⟩ = some (rs W w.heap.size 3) ∧ W.cell? ⟨w.heap.size, 4, none⟩ = some (rs W w.heap.size 4) ∧ W.cell? ⟨w.heap.size, 5, none⟩ = some (rs W w.heap.size 5) ∧ W.cell? ⟨w.heap.size, 6, none⟩ = some (rs W w.heap.size 6) ∧ W.cell? ⟨w.heap.size, 7, none⟩ = some (rs W w.heap.size 7)) ∧
      (W.frozen? ⟨w.heap.size, 0, none⟩ = false ∧ W.frozen? ⟨w.heap.size, 1, none⟩ = false ∧ W.frozen? ⟨w.heap.size, 2, none⟩ = false ∧ W.frozen? ⟨w.heap.size, 3, none⟩ = false ∧ W.frozen? ⟨w.heap.size, 4, none⟩ = false ∧ W.frozen? ⟨w.heap.size, 5, none⟩ = false ∧ W.frozen? ⟨w.heap.size, 6, none⟩ = false ∧ W.frozen? ⟨w.heap.size, 7, none⟩ = false))
    (first
      | (refine KS.out _ ?_; with_reducible assumption)
      | (refine KS.out _ ?_; ((with_reducible refine OW.set ?_ _ _); (repeat' (with_reducible refine OW.set ?_ _ _)); go_split_ands; with_reducible assumption))
      | (with_reducible exact KS.out _ (OW.drew OK))
      | (with_reducible exact KS.out _ (OW.drew (OW.alloc OK _)))
      | (refine KS.out _ (OW.below ?_ (by with_reducible assumption)); go_split_ands; with_reducible assumption)
      | (with_reducible refine KS.out _ (OW.alloc ?_ _); go_split_ands; with_reducible assumption))
    (first
      | (go_at_call 133; refine (anInt_any _ _).mono ?_; rintro z w1 ⟨rfl, hb1⟩; simp only [iv, vz, V.agg, V.cells]; try (have HK1 := ((kat2 _ _ _ _).below (Below.refl _ _).drew).below hb1))
      | (go_at_call 134; refine (HC.out _ _ ?_ ?_).mono ?_; (go_split_ands; assumption); (first | assumption | exact kat2 _ _ _ _); rintro z w2 ⟨rfl, OK2⟩))
  all_goals
    go_wp2_with fail
    rename_i hS
    have HS := Lib.hid hS.1
    obtain ⟨-, -, ⟨d0, d1, d2, d3, d4, d5, d6, d7⟩, -⟩ := KS.out _ OK2
    clear hS KS HC OK
    refine bodyPost_ret (v := .tuple #[(iv (wrap64 (x - y))).agg, .bool r]) (by simp [results, Tryz.results84, go_sem, d0, d1, d2, d3, d4, d5, d6, d7, iv, vz, V.agg, V.cells, IntWalk.i64_left]) rfl (HP.out _ _ ⟨_, rfl, HS.out.low, iv_in _ _ (wrap64_range _), rfl⟩)

set_option maxRecDepth 100000 in
set_option maxHeartbeats 4000000 in
theorem mul_any (la : Option Addr) (lc : Nat) (L : Nat → V) (w : World) (h : Vals w la 2 lc L) : Calls Tryz.prog 85 #[.slice la 2 lc] w (OpPost 2 2 L w) := by
  have OK0 := OW.start h 55
  have hlc := h.hlc
  unfold maxLen at hlc
  obtain ⟨b, o, rfl, -⟩ := OK0.two
  obtain ⟨r, hr⟩ : ∃ r, opOk 2 2 L = r := ⟨_, rfl⟩
  have HC := Lib.hid (fun W kb (h : OW w (some ⟨b, o, none⟩) 2 lc L W) (hk : KAt W kb 2 (k2 1 1)) => (are_any _ 2 lc L kb 2 2 (k2 1 1) W h.vals hk (by decide)).mono (R' := fun e w' => e = .returned (.bool r) ∧ OW w (some ⟨b, o, none⟩) 2 lc L w') (fun e w' ⟨h1, h2⟩ => ⟨by rw [h1, are_two, ← hr]; rfl, by rw [h2]; exact h⟩))
  have KS := Lib.hid (fun W (h : OW w (some ⟨b, o, none⟩) 2 lc L W) => And.intro h (And.intro (ow_nums h) h.rcells))
  have HP : Hid (∀ e w', (∃ u : V, e = .returned (.tuple #[u.agg, .bool r]) ∧ Below w.heap.size w w' ∧ u.In w' ∧ u = iv (wrap64 ((L 0).num * (L 1).num))) → OpPost 2 2 L w e w') := by
    rintro e w' ⟨u, h1, h2, h3, rfl⟩
    exact ⟨_, by rw [hr]; exact h1, h2, h3, fun _ => iv_same _⟩
  clear hr
  generalize (L 0).num = x at KS HP
  generalize (L 1).num = y at KS HP
  simp only [nv, vz, V.cells] at OK0
  have OKH := Lib.hid OK0
  clear OK0 h
  go_enter Tryz.func85, Tryz.ntmps85
  go_wp2_with fail
  have OKu := OKH.out
  generalize w.alloc (.cells #[.int .u8 0, .int .i64 0, .string ⟨#[]⟩, .slice none 0 0, .slice none 0 0, .int .u8 0, .string ⟨#[]⟩, .bool false] 55) = W0 at OKu ⊢
  clear OKH
  have OK : OW w (some ⟨b, o, none⟩) 2 lc L W0 := OKu
  clear OKu
  go_region_held3 (fun W => OW w (some ⟨b, o, none⟩) 2 lc L W ∧
      (W.cell? ⟨b, o + 1, none⟩ = some (.int .i64 x) ∧ W.cell? ⟨b, o + 8 + 1, none⟩ = some (.int .i64 y)) ∧
      (W.cell? ⟨w.heap.size, 0, none⟩ = some (rs W w.heap.size 0) ∧ W.cell? ⟨w.heap.size, 1, none⟩ = some (rs W w.heap.size 1) ∧ W.cell? ⟨w.heap.size, 2, none⟩ = some (rs W w.heap.size 2) ∧ W.cell? ⟨w.heap.size, 3, none⟩ = some (rs W w.heap.size 3) ∧ W.cell? ⟨w.heap.size, 4, none⟩ = some (rs W w.heap.size 4) ∧ W.cell? ⟨w.heap.size, 5, none⟩ = some (rs W w.heap.size 5) ∧ W.cell? ⟨w.heap.size, 6, none⟩ = some (rs W w.heap.size 6) ∧ W.cell? ⟨w.heap.size, 7, none⟩ = some (rs W w.heap.size 7)) ∧
      (W.frozen? ⟨w.heap.size, 0, none⟩ = false ∧ W.frozen? ⟨w.heap.size, 1, none⟩ = false ∧ W.frozen? ⟨w.heap.size, 2, none⟩ = false ∧ W.frozen? ⟨w.heap.size, 3, none⟩ = false ∧ W.frozen? ⟨w.heap.size, 4, none⟩ = false ∧ W.frozen? ⟨w.heap.size, 5, none⟩ = false ∧ W.frozen? ⟨w.heap.size, 6, none⟩ = false ∧ W.frozen? ⟨w.heap.size, 7, none⟩ = false))
    (first
      | (refine KS.out _ ?_; with_reducible assumption)
      | (refine KS.out _ ?_; ((with_reducible refine OW.set ?_ _ _); (repeat' (with_reducible refine OW.set ?_ _ _)); go_split_ands; with_reducible assumption))
      | (with_reducible exact KS.out _ (OW.drew OK))
      | (with_reducible exact KS.out _ (OW.drew (OW.alloc OK _)))
      | (refine KS.out _ (OW.below ?_ (by with_reducible assumption)); go_split_ands; with_reducible assumption)
      | (with_reducible refine KS.out _ (OW.alloc ?_ _); go_split_ands; with_reducible assumption))
    (first
      | (go_at_call 133; refine (anInt_any _ _).mono ?_; rintro z w1 ⟨rfl, hb1⟩; simp only [iv, vz, V.agg, V.cells]; try (have HK1 := ((kat2 _ _ _ _).below (Below.refl _ _).drew).below hb1))
      | (go_at_call 134; refine (HC.out _ _ ?_ ?_).mono ?_; (go_split_ands; assumption); (first | assumption | exact kat2 _ _ _ _); rintro z w2 ⟨rfl, OK2⟩))
  all_goals
    go_wp2_with fail
    rename_i hS
    have HS := Lib.hid hS.1
    obtain ⟨-, -, ⟨d0, d1, d2, d3, d4, d5, d6, d7⟩, -⟩ := KS.out _ OK2
    clear hS KS HC OK
    refine bodyPost_ret (v := .tuple #[(iv (wrap64 (x * y))).agg, .bool r]) (by simp [results, Tryz.results85, go_sem, d0, d1, d2, d3, d4, d5, d6, d7, iv, vz, V.agg, V.cells, IntWalk.i64_left]) rfl (HP.out _ _ ⟨_, rfl, HS.out.low, iv_in _ _ (wrap64_range _), rfl⟩)
end Go.Proofs.YtjbapldlgnlepaaGreatDoor
namespace Go.Proofs.YtjbapldlgnlepaaGreatDoor
open Go.RowKit Go.Deep Go.WideShapes

theorem OW.one {w W : World} {la : Option Addr} {lc : Nat} {L : Nat → V} (h : OW w la 1 lc L W) : ∃ b o, la = some ⟨b, o, none⟩ ∧ At W b o (L 0).cells ∧ (L 0).In W := by
  obtain ⟨⟨b, o, e, ha⟩, hi⟩ := h.vals.el 0 (by decide)
  subst e
  simp only [Nat.zero_mul, Nat.add_zero] at ha
  exact ⟨b, o, rfl, ha, hi⟩

theorem cells_str {w : World} {b o : Nat} : ∀ {v : V}, v.In w → At w b o v.cells → w.cell? ⟨b, o + 2, none⟩ = some (.string v.str) := by
  intro v h ha
  cases v with
  | leaf => exact h.elim
  | mk => exact (at8 ha).2.2.1
theorem cells_len {w : World} {b o : Nat} : ∀ {v : V}, v.In w → At w b o v.cells → ∃ la lc, w.cell? ⟨b, o + 3, none⟩ = some (.slice la v.len lc) ∧ Vals w la v.len lc v.el := by
  intro v h ha
  cases v with
  | leaf => exact h.elim
  | mk k n s la ll lc L fa fl fc fn F e key hk =>
    exact ⟨la, lc, (at8 ha).2.2.2.1, ⟨h.2.2.2.2.2.1, h.2.2.2.2.2.2.2.1⟩⟩

theorem ow_num1 {w W : World} {b o lc : Nat} {L : Nat → V} (h : OW w (some ⟨b, o, none⟩) 1 lc L W) : W.cell? ⟨b, o + 1, none⟩ = some (.int .i64 (L 0).num) := by
  obtain ⟨b', o', e, a1, a2⟩ := h.one
  cases e
  exact cells_num a2 a1
theorem ow_strs {w W : World} {b o lc : Nat} {L : Nat → V} (h : OW w (some ⟨b, o, none⟩) 2 lc L W) : W.cell? ⟨b, o + 2, none⟩ = some (.string (L 0).str) ∧ W.cell? ⟨b, o + 8 + 2, none⟩ = some (.string (L 1).str) := by
  obtain ⟨b', o', e, ⟨a1, a2⟩, a3, a4⟩ := h.two
  cases e
  exact ⟨cells_str a2 a1, cells_str a4 a3⟩

theorem kat1 (W : World) (x : Int) (T : TypeId) : KAt (W.alloc (.cells #[.int .u8 x] T)) W.heap.size 1 (fun _ => x) := by
  intro j hj
  obtain rfl : j = 0 := by omega
  simp
theorem are_one (x : Int) (L : Nat → V) : areB 1 (fun _ => x) L = decide ((L 0).kind = x) := by
  rw [areB, allB1]

theorem low_set {w W : World} (h : Below w.heap.size w W) (i : Nat) (u : Value) : Below w.heap.size w (W.setCell ⟨w.heap.size, i, none⟩ u) := h.setCell (p := ⟨w.heap.size, i, none⟩) (Nat.le_refl _) u

/-- A bool as a number. -/
def bq (b : Bool) : Int := if b then 1 else 0
theorem bq_bv (b : Bool) : vz 2 (bq b) ⟨#[]⟩ = bv b := rfl
theorem aBool_q (b : Bool) (q : Int) (hq : bq b = q) (w : World) : Calls Tryz.prog 135 #[.bool b] w fun e w' => e = .returned (.agg #[.int .u8 2, .int .i64 q, .string ⟨#[]⟩, .slice none 0 0, .slice none 0 0, .int .u8 0, .string ⟨#[]⟩, .bool false]) ∧ Below w.heap.size w w' :=
  (aBool_any b w).mono fun e w' ⟨h1, h2⟩ => ⟨by rw [h1, ← bq_bv, hq]; rfl, h2⟩

/-- are, of one value. -/
theorem are1 {w : World} {b o lc : Nat} {L : Nat → V} (x : Int) (W : World) (kb : Nat) (h : OW w (some ⟨b, o, none⟩) 1 lc L W) (hk : KAt W kb 1 (fun _ => x)) :
    Calls Tryz.prog 134 #[.slice (some ⟨b, o, none⟩) 1 lc, .slice (some ⟨kb, 0, none⟩) 1 1] W fun e w' => e = .returned (.bool (decide ((L 0).kind = x))) ∧ OW w (some ⟨b, o, none⟩) 1 lc L w' :=
  (are_any _ 1 lc L kb 1 1 (fun _ => x) W h.vals hk (by decide)).mono fun e w' ⟨h1, h2⟩ => ⟨by rw [h1, are_one], by rw [h2]; exact h⟩
/-- are, of two values. -/
theorem are2 {w : World} {b o lc : Nat} {L : Nat → V} (x y : Int) (W : World) (kb : Nat) (h : OW w (some ⟨b, o, none⟩) 2 lc L W) (hk : KAt W kb 2 (k2 x y)) :
    Calls Tryz.prog 134 #[.slice (some ⟨b, o, none⟩) 2 lc, .slice (some ⟨kb, 0, none⟩) 2 2] W fun e w' => e = .returned (.bool (decide ((L 0).kind = x) && decide ((L 1).kind = y))) ∧ OW w (some ⟨b, o, none⟩) 2 lc L w' :=
  (are_any _ 2 lc L kb 2 2 (k2 x y) W h.vals hk (by decide)).mono fun e w' ⟨h1, h2⟩ => ⟨by rw [h1, are_two], by rw [h2]; exact h⟩

set_option maxRecDepth 100000 in
set_option maxHeartbeats 4000000 in
theorem not_any (la : Option Addr) (lc : Nat) (L : Nat → V) (w : World) (h : Vals w la 1 lc L) : Calls Tryz.prog 88 #[.slice la 1 lc] w (OpPost 5 1 L w) := by
  have OK0 := OW.start h 55
  have hlc := h.hlc
  unfold maxLen at hlc
  obtain ⟨b, o, rfl, -⟩ := OK0.one
  have KS := Lib.hid (fun W (h : OW w (some ⟨b, o, none⟩) 1 lc L W) => And.intro h (And.intro (ow_num1 h) h.rcells))
  obtain ⟨r, hr⟩ : ∃ r, decide ((L 0).kind = 2) = r := ⟨_, rfl⟩
  have HC := Lib.hid (fun W kb (h : OW w (some ⟨b, o, none⟩) 1 lc L W) hk => are1 2 W kb h hk)
  have HP : Hid (∀ e w', (∃ u : V, e = .returned (.tuple #[u.agg, .bool r]) ∧ Below w.heap.size w w' ∧ u.In w' ∧ u = bv (decide ((L 0).num = 0))) → OpPost 5 1 L w e w') := by
    rintro e w' ⟨u, h1, h2, h3, rfl⟩
    exact ⟨_, by rw [show opOk 5 1 L = r from hr]; exact h1, h2, h3, fun _ => bv_same _⟩
  rw [hr] at HC
  clear hr
  generalize (L 0).num = x at KS HP
  simp only [nv, vz, V.cells] at OK0
  have OKH := Lib.hid OK0
  clear OK0 h
  go_enter Tryz.func88, Tryz.ntmps88
  go_upto_region 1 with fail
  have OKu := OKH.out
  generalize w.alloc (.cells #[.int .u8 0, .int .i64 0, .string ⟨#[]⟩, .slice none 0 0, .slice none 0 0, .int .u8 0, .string ⟨#[]⟩, .bool false] 55) = W0 at OKu ⊢
  have OK : OW w (some ⟨b, o, none⟩) 1 lc L W0 := OKu
  clear OKu OKH
  obtain ⟨-, c0, -⟩ := KS.out _ OK
  obtain ⟨z, hz⟩ : ∃ z, decide (x = 0) = z := ⟨_, rfl⟩
  have hz' : (x == 0) = z := hz
  obtain ⟨q, hq⟩ : ∃ q, bq z = q := ⟨_, rfl⟩
  rw [hz, ← bq_bv, hq] at HP
  have HI : Hid (∀ W, (vz 2 q ⟨#[]⟩).In W) := fun W => by rw [← hq, bq_bv]; exact bv_in z W
  have HQ := Lib.hid hq
  clear hz hq
  go_wp2_with (first
    | (go_at_call 135; refine (aBool_q _ q HQ.out _).mono ?_; rintro p w1 ⟨rfl, hb1⟩; have OK1 := OK.below hb1; clear c0)
    | (go_at_call 134; refine (HC.out _ _ (OW.alloc OK1 _) (kat1 _ _ _)).mono ?_; rintro q w2 ⟨rfl, OK2⟩; have HB := Lib.hid OK2.low; obtain ⟨-, -, ⟨d0, d1, d2, d3, d4, d5, d6, d7⟩, e0, e1, e2, e3, e4, e5, e6, e7⟩ := KS.out _ OK2))
  refine bodyPost_ret (v := .tuple #[(vz 2 q ⟨#[]⟩).agg, .bool r]) (by simp [results, Tryz.results88, go_sem, d0, d1, d2, d3, d4, d5, d6, d7, vz, V.agg, V.cells]) rfl (HP.out _ _ ⟨_, rfl, ?_, ?_, rfl⟩)
  · iterate 8 (with_reducible refine low_set ?_ _ _)
    exact HB.out
  · exact HI.out _

set_option maxRecDepth 100000 in
set_option maxHeartbeats 4000000 in
theorem lt_any (la : Option Addr) (lc : Nat) (L : Nat → V) (w : World) (h : Vals w la 2 lc L) : Calls Tryz.prog 86 #[.slice la 2 lc] w (OpPost 3 2 L w) := by
  have OK0 := OW.start h 55
  have hlc := h.hlc
  unfold maxLen at hlc
  obtain ⟨b, o, rfl, -⟩ := OK0.two
  have KS := Lib.hid (fun W (h : OW w (some ⟨b, o, none⟩) 2 lc L W) => And.intro h (And.intro (And.intro (And.intro (ow_strs h).1 (ow_strs h).2) (ow_nums h)) h.rcells))
  obtain ⟨r3, hr3⟩ : ∃ r, (decide ((L 0).kind = 3) && decide ((L 1).kind = 3)) = r := ⟨_, rfl⟩
  obtain ⟨r1, hr1⟩ : ∃ r, (decide ((L 0).kind = 1) && decide ((L 1).kind = 1)) = r := ⟨_, rfl⟩
  have HC3 := Lib.hid (fun W kb (h : OW w (some ⟨b, o, none⟩) 2 lc L W) hk => are2 3 3 W kb h hk)
  have HC1 := Lib.hid (fun W kb (h : OW w (some ⟨b, o, none⟩) 2 lc L W) hk => are2 1 1 W kb h hk)
  have HP : Hid (∀ e w', (∃ u : V, e = .returned (.tuple #[u.agg, .bool (r3 || r1)]) ∧ Below w.heap.size w w' ∧ u.In w' ∧ u = vz 2 (bq (if r3 then Op.bytesLess (L 0).str.toList (L 1).str.toList else decide ((L 0).num < (L 1).num))) ⟨#[]⟩) → OpPost 3 2 L w e w') := by
    rintro e w' ⟨u, h1, h2, h3, rfl⟩
    have e1 : opOk 3 2 L = (r3 || r1) := by rw [← hr3, ← hr1]; rfl
    refine ⟨_, by rw [e1]; exact h1, h2, h3, fun _ => ?_⟩
    have e2 : opV 3 2 L = bv (if r3 then Op.bytesLess (L 0).str.toList (L 1).str.toList else decide ((L 0).num < (L 1).num)) := by
      show (if (L 0).kind = 3 ∧ (L 1).kind = 3 then _ else _) = _
      have e3 : ((L 0).kind = 3 ∧ (L 1).kind = 3) ↔ r3 = true := by rw [← hr3]; simp
      simp only [e3]
      split <;> rfl
    rw [e2, bq_bv]
    exact bv_same _
  rw [hr3] at HC3
  rw [hr1] at HC1
  clear hr3 hr1
  generalize (L 0).num = x at KS HP
  generalize (L 1).num = y at KS HP
  generalize (L 0).str = s1 at KS HP
  generalize (L 1).str = s2 at KS HP
  obtain ⟨zs, hzs⟩ : ∃ z, Op.bytesLess s1.toList s2.toList = z := ⟨_, rfl⟩
  obtain ⟨zn, hzn⟩ : ∃ z, decide (x < y) = z := ⟨_, rfl⟩
  rw [hzs, hzn] at HP
  obtain ⟨qs, hqs⟩ : ∃ q, bq zs = q := ⟨_, rfl⟩
  obtain ⟨qn, hqn⟩ : ∃ q, bq zn = q := ⟨_, rfl⟩
  have HIs : Hid (∀ W, (vz 2 qs ⟨#[]⟩).In W) := fun W => by rw [← hqs, bq_bv]; exact bv_in zs W
  have HIn : Hid (∀ W, (vz 2 qn ⟨#[]⟩).In W) := fun W => by rw [← hqn, bq_bv]; exact bv_in zn W
  have HQs := Lib.hid hqs
  have HQn := Lib.hid hqn
  have HP3 : Hid (r3 = true → ∀ e w', (∃ u : V, e = .returned (.tuple #[u.agg, .bool true]) ∧ Below w.heap.size w w' ∧ u.In w' ∧ u = vz 2 qs ⟨#[]⟩) → OpPost 3 2 L w e w') := by
    rintro rfl e w' ⟨u, h1, h2, h3, rfl⟩
    exact HP.out _ _ ⟨_, h1, h2, h3, by rw [if_pos rfl, hqs]⟩
  have HP1 : Hid (r3 = false → ∀ e w', (∃ u : V, e = .returned (.tuple #[u.agg, .bool r1]) ∧ Below w.heap.size w w' ∧ u.In w' ∧ u = vz 2 qn ⟨#[]⟩) → OpPost 3 2 L w e w') := by
    rintro rfl e w' ⟨u, h1, h2, h3, rfl⟩
    exact HP.out _ _ ⟨_, h1, h2, h3, by rw [if_neg (by decide), hqn]⟩
  clear HP hqs hqn
  simp only [nv, vz, V.cells] at OK0
  have OKH := Lib.hid OK0
  clear OK0 h
  cases r3
  · go_enter Tryz.func86, Tryz.ntmps86
    go_upto_region 1 with fail
    have OKu := OKH.out
    generalize w.alloc (.cells #[.int .u8 0, .int .i64 0, .string ⟨#[]⟩, .slice none 0 0, .slice none 0 0, .int .u8 0, .string ⟨#[]⟩, .bool false] 55) = W0 at OKu ⊢
    have OK : OW w (some ⟨b, o, none⟩) 2 lc L W0 := OKu
    clear OKu OKH
    go_wp2_with (go_at_call 134; refine (HC3.out _ _ (OW.alloc OK _) (kat2 _ _ _ _)).mono ?_; rintro q w2 ⟨rfl, OK2⟩)
    clear OK
    have OK : OW w (some ⟨b, o, none⟩) 2 lc L w2 := OK2
    clear OK2 HC3
    go_region_held3 (fun W => OW w (some ⟨b, o, none⟩) 2 lc L W ∧
        ((W.cell? ⟨b, o + 2, none⟩ = some (.string s1) ∧ W.cell? ⟨b, o + 8 + 2, none⟩ = some (.string s2)) ∧ (W.cell? ⟨b, o + 1, none⟩ = some (.int .i64 x) ∧ W.cell? ⟨b, o + 8 + 1, none⟩ = some (.int .i64 y))) ∧
        (W.cell? ⟨w.heap.size, 0, none⟩ = some (rs W w.heap.size 0) ∧ W.cell? ⟨w.heap.size, 1, none⟩ = some (rs W w.heap.size 1) ∧ W.cell? ⟨w.heap.size, 2, none⟩ = some (rs W w.heap.size 2) ∧ W.cell? ⟨w.heap.size, 3, none⟩ = some (rs W w.heap.size 3) ∧ W.cell? ⟨w.heap.size, 4, none⟩ = some (rs W w.heap.size 4) ∧ W.cell? ⟨w.heap.size, 5, none⟩ = some (rs W w.heap.size 5) ∧ W.cell? ⟨w.heap.size, 6, none⟩ = some (rs W w.heap.size 6) ∧ W.cell? ⟨w.heap.size, 7, none⟩ = some (rs W w.heap.size 7)) ∧
        (W.frozen? ⟨w.heap.size, 0, none⟩ = false ∧ W.frozen? ⟨w.heap.size, 1, none⟩ = false ∧ W.frozen? ⟨w.heap.size, 2, none⟩ = false ∧ W.frozen? ⟨w.heap.size, 3, none⟩ = false ∧ W.frozen? ⟨w.heap.size, 4, none⟩ = false ∧ W.frozen? ⟨w.heap.size, 5, none⟩ = false ∧ W.frozen? ⟨w.heap.size, 6, none⟩ = false ∧ W.frozen? ⟨w.heap.size, 7, none⟩ = false))
      (first
        | (refine KS.out _ ?_; with_reducible assumption)
        | (refine KS.out _ ?_; ((with_reducible refine OW.set ?_ _ _); (repeat' (with_reducible refine OW.set ?_ _ _)); go_split_ands; with_reducible assumption))
        | (with_reducible exact KS.out _ (OW.drew OK))
        | (with_reducible exact KS.out _ (OW.drew (OW.alloc OK _)))
        | (refine KS.out _ (OW.below ?_ (by with_reducible assumption)); go_split_ands; with_reducible assumption)
        | (with_reducible refine KS.out _ (OW.alloc ?_ _); go_split_ands; with_reducible assumption))
      (first
        | (go_at_call 135; refine (aBool_q _ qn HQn.out _).mono ?_; rintro p w1 ⟨rfl, hb1⟩; try (have HK1 := ((kat2 _ _ _ _).below (Below.refl _ _).drew).below hb1))
        | (go_at_call 134; refine (HC1.out _ _ ?_ ?_).mono ?_; (go_split_ands; assumption); (first | assumption | exact kat2 _ _ _ _); rintro z w3 ⟨rfl, OK2⟩))
    all_goals
      go_wp2_with fail
      rename_i hS
      have HS := Lib.hid hS.1
      obtain ⟨-, -, ⟨d0, d1, d2, d3, d4, d5, d6, d7⟩, -⟩ := KS.out _ OK2
      clear hS KS OK
      refine bodyPost_ret (v := .tuple #[(vz 2 qn ⟨#[]⟩).agg, .bool r1]) (by simp [results, Tryz.results86, go_sem, d0, d1, d2, d3, d4, d5, d6, d7, vz, V.agg, V.cells]) rfl (HP1.out (by trivial) _ _ ⟨_, rfl, HS.out.low, HIn.out _, rfl⟩)
  · go_enter Tryz.func86, Tryz.ntmps86
    go_upto_region 1 with fail
    have OKu := OKH.out
    generalize w.alloc (.cells #[.int .u8 0, .int .i64 0, .string ⟨#[]⟩, .slice none 0 0, .slice none 0 0, .int .u8 0, .string ⟨#[]⟩, .bool false] 55) = W0 at OKu ⊢
    have OK : OW w (some ⟨b, o, none⟩) 2 lc L W0 := OKu
    clear OKu OKH
    go_wp2_with (go_at_call 134; refine (HC3.out _ _ (OW.alloc OK _) (kat2 _ _ _ _)).mono ?_; rintro q w2 ⟨rfl, OK2⟩)
    clear OK
    have OK : OW w (some ⟨b, o, none⟩) 2 lc L w2 := OK2
    clear OK2 HC3
    go_region_held3 (fun W => OW w (some ⟨b, o, none⟩) 2 lc L W ∧
        ((W.cell? ⟨b, o + 2, none⟩ = some (.string s1) ∧ W.cell? ⟨b, o + 8 + 2, none⟩ = some (.string s2)) ∧ (W.cell? ⟨b, o + 1, none⟩ = some (.int .i64 x) ∧ W.cell? ⟨b, o + 8 + 1, none⟩ = some (.int .i64 y))) ∧
        (W.cell? ⟨w.heap.size, 0, none⟩ = some (rs W w.heap.size 0) ∧ W.cell? ⟨w.heap.size, 1, none⟩ = some (rs W w.heap.size 1) ∧ W.cell? ⟨w.heap.size, 2, none⟩ = some (rs W w.heap.size 2) ∧ W.cell? ⟨w.heap.size, 3, none⟩ = some (rs W w.heap.size 3) ∧ W.cell? ⟨w.heap.size, 4, none⟩ = some (rs W w.heap.size 4) ∧ W.cell? ⟨w.heap.size, 5, none⟩ = some (rs W w.heap.size 5) ∧ W.cell? ⟨w.heap.size, 6, none⟩ = some (rs W w.heap.size 6) ∧ W.cell? ⟨w.heap.size, 7, none⟩ = some (rs W w.heap.size 7)) ∧
        (W.frozen? ⟨w.heap.size, 0, none⟩ = false ∧ W.frozen? ⟨w.heap.size, 1, none⟩ = false ∧ W.frozen? ⟨w.heap.size, 2, none⟩ = false ∧ W.frozen? ⟨w.heap.size, 3, none⟩ = false ∧ W.frozen? ⟨w.heap.size, 4, none⟩ = false ∧ W.frozen? ⟨w.heap.size, 5, none⟩ = false ∧ W.frozen? ⟨w.heap.size, 6, none⟩ = false ∧ W.frozen? ⟨w.heap.size, 7, none⟩ = false))
      (first
        | (refine KS.out _ ?_; with_reducible assumption)
        | (refine KS.out _ ?_; ((with_reducible refine OW.set ?_ _ _); (repeat' (with_reducible refine OW.set ?_ _ _)); go_split_ands; with_reducible assumption))
        | (with_reducible exact KS.out _ (OW.drew OK))
        | (with_reducible exact KS.out _ (OW.drew (OW.alloc OK _)))
        | (refine KS.out _ (OW.below ?_ (by with_reducible assumption)); go_split_ands; with_reducible assumption)
        | (with_reducible refine KS.out _ (OW.alloc ?_ _); go_split_ands; with_reducible assumption))
      (first
        | (go_at_call 135; refine (aBool_q _ qs HQs.out _).mono ?_; rintro p w1 ⟨rfl, hb1⟩; try (have HK1 := ((kat2 _ _ _ _).below (Below.refl _ _).drew).below hb1)))
    all_goals
      go_wp2_with fail
      rename_i hS
      have HS := Lib.hid hS.1
      obtain ⟨-, -, ⟨d0, d1, d2, d3, d4, d5, d6, d7⟩, -⟩ := KS.out _ (OW.below OK.drew hb1)
      clear hS KS OK
      refine bodyPost_ret (v := .tuple #[(vz 2 qs ⟨#[]⟩).agg, .bool true]) (by simp [results, Tryz.results86, go_sem, d0, d1, d2, d3, d4, d5, d6, d7, vz, V.agg, V.cells]) rfl (HP3.out (by trivial) _ _ ⟨_, rfl, HS.out.low, HIs.out _, rfl⟩)
end Go.Proofs.YtjbapldlgnlepaaGreatDoor
namespace Go.Proofs.YtjbapldlgnlepaaGreatDoor
open Go.RowKit Go.Deep Go.WideShapes

theorem ow_cells1 {w W : World} {b o lc : Nat} {L : Nat → V} (h : OW w (some ⟨b, o, none⟩) 1 lc L W) : At W b o (L 0).cells ∧ (L 0).In W := by
  obtain ⟨b', o', e, a⟩ := h.one
  cases e
  exact a
theorem ow_cells2 {w W : World} {b o lc : Nat} {L : Nat → V} (h : OW w (some ⟨b, o, none⟩) 2 lc L W) : (At W b o (L 0).cells ∧ (L 0).In W) ∧ (At W b (o + 8) (L 1).cells ∧ (L 1).In W) := by
  obtain ⟨b', o', e, a⟩ := h.two
  cases e
  exact a

set_option maxHeartbeats 400000 in
theorem oList_any (la : Option Addr) (ll lc : Nat) (L : Nat → V) (w : World) (h : Vals w la ll lc L) : Calls Tryz.prog 93 #[.slice la ll lc] w (OpPost 10 ll L w) := by
  have HP : Hid (∀ e w', (∃ u : V, e = .returned (.tuple #[u.agg, .bool true]) ∧ Below w.heap.size w w' ∧ u = lv la ll lc L) → OpPost 10 ll L w e w') := by
    rintro e w' ⟨u, h1, h2, rfl⟩
    refine ⟨_, h1, h2, ?_, fun _ => lv_same fun i hi => In_same (h.el i hi).2⟩
    have h' := h.below h2
    exact ⟨by omega, by omega, by decide, by omega, by decide, h'.hlc, ⟨Nat.le_refl _, by decide⟩, h'.el, fun i hi => absurd hi (Nat.not_lt_zero _)⟩
  have OK0 := OW.start h 55
  simp only [nv, vz, V.cells] at OK0
  have OKH := Lib.hid OK0
  clear OK0 h
  have KS := Lib.hid (fun W (h : OW w la ll lc L W) => And.intro h h.rcells)
  go_enter Tryz.func93, Tryz.ntmps93
  go_upto_region 1 with fail
  have OKu := OKH.out
  generalize w.alloc (.cells #[.int .u8 0, .int .i64 0, .string ⟨#[]⟩, .slice none 0 0, .slice none 0 0, .int .u8 0, .string ⟨#[]⟩, .bool false] 55) = W0 at OKu ⊢
  have OK : OW w la ll lc L W0 := OKu
  clear OKu OKH
  go_wp2_with (go_at_call 142; (with_reducible refine (aList_any _ _ _ L _).mono ?_); rintro q w2 ⟨rfl, hb1⟩; have OK2 := OK.below hb1; have HB := Lib.hid OK2.low; clear hb1; obtain ⟨-, ⟨d0, d1, d2, d3, d4, d5, d6, d7⟩, e0, e1, e2, e3, e4, e5, e6, e7⟩ := KS.out _ OK2; clear OK2; simp only [lv, V.agg, V.cells])
  refine bodyPost_ret (v := .tuple #[(lv la ll lc L).agg, .bool true]) (by simp [results, Tryz.results93, go_sem, d0, d1, d2, d3, d4, d5, d6, d7, lv, V.agg, V.cells]) rfl (HP.out _ _ ⟨_, rfl, ?_, rfl⟩)
  iterate 8 (with_reducible refine low_set ?_ _ _)
  exact HB.out

set_option maxRecDepth 100000 in
set_option maxHeartbeats 4000000 in
theorem eq_any (la : Option Addr) (lc : Nat) (L : Nat → V) (w : World) (h : Vals w la 2 lc L) : Calls Tryz.prog 87 #[.slice la 2 lc] w (OpPost 4 2 L w) := by
  have OK0 := OW.start h 55
  have hlc := h.hlc
  unfold maxLen at hlc
  obtain ⟨b, o, rfl, -⟩ := OK0.two
  have HC : Hid (∀ W, OW w (some ⟨b, o, none⟩) 2 lc L W → Calls Tryz.prog 136 #[(L 0).agg, (L 1).agg] W fun e w' => e = .returned (.bool ((L 0).same (L 1))) ∧ Below W.heap.size W w') := fun W h => same_any _ _ W (ow_cells2 h).1.2 (ow_cells2 h).2.2
  have HP : Hid (∀ e w', (∃ u : V, e = .returned (.tuple #[u.agg, .bool true]) ∧ Below w.heap.size w w' ∧ u.In w' ∧ u = vz 2 (bq ((L 0).same (L 1))) ⟨#[]⟩) → OpPost 4 2 L w e w') := by
    rintro e w' ⟨u, h1, h2, h3, rfl⟩
    exact ⟨_, h1, h2, h3, fun _ => by rw [bq_bv]; exact bv_same _⟩
  have HX := Lib.hid (fun W (h : OW w (some ⟨b, o, none⟩) 2 lc L W) => And.intro (ow_cells2 h).1.1 (ow_cells2 h).2.1)
  have hi0 := (ow_cells2 OK0).1.2
  have hi1 := (ow_cells2 OK0).2.2
  obtain ⟨x, hx⟩ : ∃ x, L 0 = x := ⟨_, rfl⟩
  obtain ⟨y, hy⟩ : ∃ y, L 1 = y := ⟨_, rfl⟩
  rw [hx] at HC HX hi0 HP
  rw [hy] at HC HX hi1 HP
  clear hx hy
  cases x with
  | leaf => exact hi0.elim
  | mk k1 n1 s1 la1 ll1 lc1 L1 fa1 fl1 fc1 fn1 F1 e1 key1 hk1 =>
  cases y with
  | leaf => exact hi1.elim
  | mk k2 n2 s2 la2 ll2 lc2 L2 fa2 fl2 fc2 fn2 F2 e2 key2 hk2 =>
  clear hi0 hi1
  generalize (V.mk k1 n1 s1 la1 ll1 lc1 L1 fa1 fl1 fc1 fn1 F1 e1 key1 hk1).same (V.mk k2 n2 s2 la2 ll2 lc2 L2 fa2 fl2 fc2 fn2 F2 e2 key2 hk2) = z at HC HP
  have KS := Lib.hid (fun W (h : OW w (some ⟨b, o, none⟩) 2 lc L W) => And.intro h (And.intro (And.intro (at8 (HX.out W h).1) (at8 (HX.out W h).2)) h.rcells))
  clear HX
  obtain ⟨q, hq⟩ : ∃ q, bq z = q := ⟨_, rfl⟩
  rw [hq] at HP
  have HI : Hid (∀ W, (vz 2 q ⟨#[]⟩).In W) := fun W => by rw [← hq, bq_bv]; exact bv_in z W
  have HQ := Lib.hid hq
  clear hq
  simp only [V.agg, V.cells] at HC
  simp only [nv, vz, V.cells] at OK0
  have OKH := Lib.hid OK0
  clear OK0 h
  go_enter Tryz.func87, Tryz.ntmps87
  go_upto_region 1 with fail
  have OKu := OKH.out
  generalize w.alloc (.cells #[.int .u8 0, .int .i64 0, .string ⟨#[]⟩, .slice none 0 0, .slice none 0 0, .int .u8 0, .string ⟨#[]⟩, .bool false] 55) = W0 at OKu ⊢
  have OK : OW w (some ⟨b, o, none⟩) 2 lc L W0 := OKu
  clear OKu OKH
  go_region_held3 (fun W => OW w (some ⟨b, o, none⟩) 2 lc L W ∧
      ((W.cell? ⟨b, o, none⟩ = some (.int .u8 k1) ∧ W.cell? ⟨b, o + 1, none⟩ = some (.int .i64 n1) ∧ W.cell? ⟨b, o + 2, none⟩ = some (.string s1) ∧ W.cell? ⟨b, o + 3, none⟩ = some (.slice la1 ll1 lc1) ∧ W.cell? ⟨b, o + 4, none⟩ = some (.slice fa1 fl1 fc1) ∧ W.cell? ⟨b, o + 5, none⟩ = some (.int .u8 e1) ∧ W.cell? ⟨b, o + 6, none⟩ = some (.string key1) ∧ W.cell? ⟨b, o + 7, none⟩ = some (.bool hk1)) ∧ (W.cell? ⟨b, o + 8, none⟩ = some (.int .u8 k2) ∧ W.cell? ⟨b, o + 8 + 1, none⟩ = some (.int .i64 n2) ∧ W.cell? ⟨b, o + 8 + 2, none⟩ = some (.string s2) ∧ W.cell? ⟨b, o + 8 + 3, none⟩ = some (.slice la2 ll2 lc2) ∧ W.cell? ⟨b, o + 8 + 4, none⟩ = some (.slice fa2 fl2 fc2) ∧ W.cell? ⟨b, o + 8 + 5, none⟩ = some (.int .u8 e2) ∧ W.cell? ⟨b, o + 8 + 6, none⟩ = some (.string key2) ∧ W.cell? ⟨b, o + 8 + 7, none⟩ = some (.bool hk2))) ∧
      (W.cell? ⟨w.heap.size, 0, none⟩ = some (rs W w.heap.size 0) ∧ W.cell? ⟨w.heap.size, 1, none⟩ = some (rs W w.heap.size 1) ∧ W.cell? ⟨w.heap.size, 2, none⟩ = some (rs W w.heap.size 2) ∧ W.cell? ⟨w.heap.size, 3, none⟩ = some (rs W w.heap.size 3) ∧ W.cell? ⟨w.heap.size, 4, none⟩ = some (rs W w.heap.size 4) ∧ W.cell? ⟨w.heap.size, 5, none⟩ = some (rs W w.heap.size 5) ∧ W.cell? ⟨w.heap.size, 6, none⟩ = some (rs W w.heap.size 6) ∧ W.cell? ⟨w.heap.size, 7, none⟩ = some (rs W w.heap.size 7)) ∧
      (W.frozen? ⟨w.heap.size, 0, none⟩ = false ∧ W.frozen? ⟨w.heap.size, 1, none⟩ = false ∧ W.frozen? ⟨w.heap.size, 2, none⟩ = false ∧ W.frozen? ⟨w.heap.size, 3, none⟩ = false ∧ W.frozen? ⟨w.heap.size, 4, none⟩ = false ∧ W.frozen? ⟨w.heap.size, 5, none⟩ = false ∧ W.frozen? ⟨w.heap.size, 6, none⟩ = false ∧ W.frozen? ⟨w.heap.size, 7, none⟩ = false))
    (first
      | (refine KS.out _ ?_; with_reducible assumption)
      | (refine KS.out _ ?_; ((with_reducible refine OW.set ?_ _ _); (repeat' (with_reducible refine OW.set ?_ _ _)); go_split_ands; with_reducible assumption))
      | (with_reducible exact KS.out _ (OW.drew OK))
      | (with_reducible exact KS.out _ (OW.drew (OW.alloc OK _)))
      | (refine KS.out _ (OW.below ?_ (by with_reducible assumption)); go_split_ands; with_reducible assumption)
      | (with_reducible refine KS.out _ (OW.alloc ?_ _); go_split_ands; with_reducible assumption))
    (first
      | (go_at_call 135; (with_reducible refine (aBool_q _ q HQ.out _).mono ?_); rintro p w1 ⟨rfl, hb1⟩; try (have HK1 := ((kat2 _ _ _ _).below (Below.refl _ _).drew).below hb1))
      | (go_at_call 136; (with_reducible refine (HC.out _ ?_).mono ?_); (go_split_ands; assumption); rintro z w3 ⟨rfl, hb2⟩))
  all_goals
    go_wp2_with fail
    rename_i hS
    have HS := Lib.hid hS.1
    obtain ⟨-, -, ⟨d0, d1, d2, d3, d4, d5, d6, d7⟩, -⟩ := KS.out _ (OW.below (OW.below OK.drew hb2) hb1)
    clear hS KS OK
    refine bodyPost_ret (v := .tuple #[(vz 2 q ⟨#[]⟩).agg, .bool true]) (by simp [results, Tryz.results87, go_sem, d0, d1, d2, d3, d4, d5, d6, d7, vz, V.agg, V.cells]) rfl (HP.out _ _ ⟨_, rfl, HS.out.low, HI.out _, rfl⟩)

set_option maxRecDepth 100000 in
set_option maxHeartbeats 4000000 in
theorem length_any (la : Option Addr) (lc : Nat) (L : Nat → V) (w : World) (h : Vals w la 1 lc L) : Calls Tryz.prog 90 #[.slice la 1 lc] w (OpPost 7 1 L w) := by
  have OK0 := OW.start h 55
  have hlc := h.hlc
  unfold maxLen at hlc
  obtain ⟨b, o, rfl, -⟩ := OK0.one
  have HC := Lib.hid (fun W kb (h : OW w (some ⟨b, o, none⟩) 1 lc L W) hk => are1 3 W kb h hk)
  have HC4 := Lib.hid (fun W kb (h : OW w (some ⟨b, o, none⟩) 1 lc L W) hk => are1 4 W kb h hk)
  have HX := Lib.hid (fun W (h : OW w (some ⟨b, o, none⟩) 1 lc L W) => (ow_cells1 h).1)
  have hi0 := (ow_cells1 OK0).2
  obtain ⟨r3, hr3⟩ : ∃ r, decide ((L 0).kind = 3) = r := ⟨_, rfl⟩
  obtain ⟨r4, hr4⟩ : ∃ r, decide ((L 0).kind = 4) = r := ⟨_, rfl⟩
  have HP : Hid (∀ e w', (∃ u : V, e = .returned (.tuple #[u.agg, .bool (r3 || r4)]) ∧ Below w.heap.size w w' ∧ u.In w' ∧ u = iv (if r3 then (L 0).str.size else (L 0).len)) → OpPost 7 1 L w e w') := by
    rintro e w' ⟨u, h1, h2, h3, rfl⟩
    have e1 : opOk 7 1 L = (r3 || r4) := by rw [← hr3, ← hr4]; rfl
    refine ⟨_, by rw [e1]; exact h1, h2, h3, fun _ => ?_⟩
    have e2 : opV 7 1 L = iv (if r3 then (L 0).str.size else (L 0).len) := by
      show (if (L 0).kind = 3 then _ else _) = _
      have e3 : ((L 0).kind = 3) ↔ r3 = true := by rw [← hr3]; simp
      simp only [e3]
      split <;> rfl
    rw [e2]
    exact iv_same _
  rw [hr3] at HC
  rw [hr4] at HC4
  clear hr3 hr4
  obtain ⟨x, hx⟩ : ∃ x, L 0 = x := ⟨_, rfl⟩
  rw [hx] at HX hi0 HP
  clear hx
  cases x with
  | leaf => exact hi0.elim
  | mk k1 n1 s1 la1 ll1 lc1 L1 fa1 fl1 fc1 fn1 F1 e1 key1 hk1 =>
  have hs1 := hi0.2.2.1
  have hl1 := hi0.2.2.2.2.2.1
  unfold maxLen at hs1 hl1
  clear hi0
  have HI1 : Hid (∀ W, (iv (s1.size : Nat)).In W) := fun W => iv_in _ W (by omega)
  have HI2 : Hid (∀ W, (iv (ll1 : Nat)).In W) := fun W => iv_in _ W (by omega)
  have KS := Lib.hid (fun W (h : OW w (some ⟨b, o, none⟩) 1 lc L W) => And.intro h (And.intro (at8 (HX.out W h)) h.rcells))
  clear HX
  simp only [nv, vz, V.cells] at OK0
  have OKH := Lib.hid OK0
  clear OK0 h
  cases r3
  · go_enter Tryz.func90, Tryz.ntmps90
    go_upto_region 1 with fail
    have OKu := OKH.out
    generalize w.alloc (.cells #[.int .u8 0, .int .i64 0, .string ⟨#[]⟩, .slice none 0 0, .slice none 0 0, .int .u8 0, .string ⟨#[]⟩, .bool false] 55) = W0 at OKu ⊢
    have OK : OW w (some ⟨b, o, none⟩) 1 lc L W0 := OKu
    clear OKu OKH
    go_wp2_with (first
      | (go_at_call 133; (with_reducible refine (anInt_any _ _).mono ?_); rintro p w3 ⟨rfl, hb3⟩; have OK3 := OK2.below hb3; have HB := Lib.hid OK3.low; clear hb3 c0 c1 c2 c3 c4 c5 c6 c7; obtain ⟨-, -, ⟨d0, d1, d2, d3, d4, d5, d6, d7⟩, e0, e1, e2, e3, e4, e5, e6, e7⟩ := KS.out _ OK3; simp only [iv, vz, V.agg, V.cells])
      | (go_at_call 134; (with_reducible refine (HC.out _ _ (OW.alloc OK _) (kat1 _ _ _)).mono ?_); rintro q w2 ⟨rfl, OK2⟩; obtain ⟨-, ⟨c0, c1, c2, c3, c4, c5, c6, c7⟩, -⟩ := KS.out _ OK2)
      | (go_at_call 134; (with_reducible refine (HC4.out _ _ (OW.alloc OK3 _) (kat1 _ _ _)).mono ?_); rintro q w4 ⟨rfl, OK4⟩; clear HB d0 d1 d2 d3 d4 d5 d6 d7 e0 e1 e2 e3 e4 e5 e6 e7; have HB := Lib.hid OK4.low; obtain ⟨-, -, ⟨d0, d1, d2, d3, d4, d5, d6, d7⟩, e0, e1, e2, e3, e4, e5, e6, e7⟩ := KS.out _ OK4))
    refine bodyPost_ret (v := .tuple #[(iv (ll1 : Nat)).agg, .bool r4]) (by simp [results, Tryz.results90, go_sem, d0, d1, d2, d3, d4, d5, d6, d7, iv, vz, V.agg, V.cells]) rfl (HP.out _ _ ⟨_, rfl, ?_, HI2.out _, rfl⟩)
    iterate 8 (with_reducible refine low_set ?_ _ _)
    exact HB.out
  · go_enter Tryz.func90, Tryz.ntmps90
    go_upto_region 1 with fail
    have OKu := OKH.out
    generalize w.alloc (.cells #[.int .u8 0, .int .i64 0, .string ⟨#[]⟩, .slice none 0 0, .slice none 0 0, .int .u8 0, .string ⟨#[]⟩, .bool false] 55) = W0 at OKu ⊢
    have OK : OW w (some ⟨b, o, none⟩) 1 lc L W0 := OKu
    clear OKu OKH
    go_wp2_with (first
      | (go_at_call 133; (with_reducible refine (anInt_any _ _).mono ?_); rintro p w3 ⟨rfl, hb3⟩; have OK3 := OK2.below hb3; have HB := Lib.hid OK3.low; clear hb3 c0 c1 c2 c3 c4 c5 c6 c7; obtain ⟨-, -, ⟨d0, d1, d2, d3, d4, d5, d6, d7⟩, e0, e1, e2, e3, e4, e5, e6, e7⟩ := KS.out _ OK3; simp only [iv, vz, V.agg, V.cells])
      | (go_at_call 134; (with_reducible refine (HC.out _ _ (OW.alloc OK _) (kat1 _ _ _)).mono ?_); rintro q w2 ⟨rfl, OK2⟩; obtain ⟨-, ⟨c0, c1, c2, c3, c4, c5, c6, c7⟩, -⟩ := KS.out _ OK2))
    refine bodyPost_ret (v := .tuple #[(iv (s1.size : Nat)).agg, .bool true]) (by simp [results, Tryz.results90, go_sem, d0, d1, d2, d3, d4, d5, d6, d7, iv, vz, V.agg, V.cells]) rfl (HP.out _ _ ⟨_, rfl, ?_, HI1.out _, rfl⟩)
    iterate 8 (with_reducible refine low_set ?_ _ _)
    exact HB.out
end Go.Proofs.YtjbapldlgnlepaaGreatDoor
