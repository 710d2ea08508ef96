/-
  Cells of values one behind the other in a row that the call owns; an append of nothing.
  Conditions: none.
  Walks: slices.Grow of a nil list, slices.Concat of two lists.
  Conditions: the lists lie in memory and are short.
  Walks: push of package oper answers 'opV', 'opOk'.
  Conditions: the values lie in memory, and the first one may be.
-/
import Derived.Test.YtjbapldlgnlepaaGreatDoorOpOne
import Derived.Test.YtjbapldlgnlepaaGreatDoorTwinP
import Derived.Test.YtjbapldlgnlepaaGreatDoorTabs
import Derived.OwnWalk
import Derived.Laws.OwnMore
import Derived.IntWalk
import Derived.Laws.BytesArg
import Derived.Deep.CutRange
import Derived.Deep.DeepCutAuto
import Derived.Lib.AppendZeros
namespace Go.Proofs.YtjbapldlgnlepaaGreatDoor
open Go.RowKit Go.Deep Go.WideShapes

theorem info_val : (Tryz.prog.info? 55).map (fun i => (i.zero, i.size, i.bytes)) = some (some (vz 0 0 ⟨#[]⟩).agg, 8, 112) := by kernel_rfl

theorem v_one : ∀ v : V, ∀ u ∈ v.cells, u.oneCell' = true := by
  intro v u hu
  cases v with
  | leaf => simp [V.cells] at hu
  | mk k n s la ll lc L fa fl fc fn F e key hk =>
    simp [V.cells] at hu
    rcases hu with rfl | rfl | rfl | rfl | rfl | rfl | rfl | rfl <;> rfl

theorem ownsRow_below {base e size n : Nat} {v : Value} {xs : List Value} {W W1 : World} (h : W.ownsRow base e size v n xs) (hb : Below W.heap.size W W1) : W1.ownsRow base e size v n xs := by
  refine ⟨h.1, ?_⟩
  rcases h.2 with hn | ⟨g, cap, cur, rfl, hbb, hgg, rest⟩
  · exact .inl hn
  · exact .inr ⟨g, cap, cur, rfl, hbb, by rw [hb.block g (Array.getElem?_eq_some_iff.1 hgg).1, hgg], rest⟩

theorem in_cells {w : World} {v : V} (h : v.In w) : v.cells.length = 8 := by
  cases v with
  | leaf => exact h.elim
  | mk => rfl

/-- Cells of values that stand one behind the other. -/
theorem flat_cells {W : World} {b o ll : Nat} {L : Nat → V} (h8 : ∀ i, i < ll → (L i).cells.length = 8) (h : ∀ i, i < ll → At W b (o + i * 8) (L i).cells) : ∀ j u, (flatV ll L)[j]? = some u → W.cell? ((⟨b, o, none⟩ : Addr).add j) = some u := by
  intro j u hu
  have hl := flatV_length h8
  have hj : j < ll * 8 := by have := (List.getElem?_eq_some_iff.1 hu).1; omega
  have hg := flatV_get h8 (j / 8) (by omega) (j % 8) (by omega)
  have e : j / 8 * 8 + j % 8 = j := by omega
  rw [e, hu] at hg
  have := h (j / 8) (by omega) (j % 8) (by rw [h8 _ (by omega)]; omega)
  rw [add_plain]
  have e2 : o + j / 8 * 8 + j % 8 = o + j := by omega
  rw [e2] at this
  rw [this, ← hg]

theorem flat_one {ll : Nat} {L : Nat → V} : ∀ u ∈ flatV ll L, u.oneCell' = true := by
  induction ll with
  | zero => intro u hu; simp [flatV] at hu
  | succ n ih =>
    intro u hu
    rw [flatV, List.mem_append] at hu
    exact hu.elim (ih u) (v_one _ u)

/-- Two lists, one behind the other. -/
def catV (n : Nat) (P Q : Nat → V) : Nat → V := fun i => if i < n then P i else Q (i - n)

theorem flatV_cat (n : Nat) (P Q : Nat → V) : ∀ m, flatV (n + m) (catV n P Q) = flatV n P ++ flatV m Q
  | 0 => by
    rw [Nat.add_zero, flatV, List.append_nil]
    exact flatV_ext fun i hi => if_pos hi
  | m + 1 => by
    rw [← Nat.add_assoc, flatV, flatV_cat n P Q m, flatV, List.append_assoc]
    congr 2
    rw [catV, if_neg (by omega), Nat.add_sub_cancel_left]

/-- Nothing is appended. -/
theorem wpList_append_nothing {P : Program} {w : World} {ops : Array Oper} {rest : List Oper} {o : Oper} {a : Act} {Q : Exit → Act → World → Prop} (hgd : o.guard = none) (s x : Operand) (t : TypeId)
    (ho : o.op = .call { callee := .builtin .append, args := #[s, x], argTypes := #[t, t] })
    (e : TypeId) (i : TypeInfo) (ht : P.underlying t = some (.slice e)) (hi : P.info? e = some i)
    (sa : Option Addr) (n cap : Nat) (hnc : n ≤ cap) (hs : a.eval s = .slice sa n cap) (la : Option Addr) (lc : Nat) (hx : a.eval x = .slice la 0 lc)
    (h : wpList P ops Q rest (a.put o.dst (.slice sa n cap)) w) : wpList P ops Q (o :: rest) a w := by
  refine wpList_plain hgd fun K hK => ?_
  have hrun : (Builtin.append_ #[t, t] o.type #[.slice sa n cap, .slice la 0 lc]).run P w = .ok (.slice sa n cap) w := by
    cases la <;> cases sa <;> simp [Builtin.append_, run_underlying ht, sizeOf, typeInfo, hi, Builtin.lenOf, Builtin.firstCells, loadCells, loadCellsFrom, hnc, storeCells]
  unfold Oper.wp
  simp [execOp, ho, resolve, invoke, builtin, hs, hx, hrun, Result.andThen]
  exact hK _ _ h

/-- A row of values that the call owns, told as a list of values. -/
theorem own_vals {base g n cap : Nat} {P : Nat → V} {W : World} (hn : n ≤ cap) (hm : cap ≤ maxLen) (hin : ∀ i, i < n → (P i).In W) (hown : W.ownsRow base 55 8 (.slice (some ⟨g, 0, none⟩) n cap) n (flatV n P)) : Vals W (some ⟨g, 0, none⟩) n cap P := by
  have h8 : ∀ i, i < n → (P i).cells.length = 8 := fun i hi => in_cells (hin i hi)
  refine ⟨⟨hn, hm⟩, fun i hi => ⟨⟨g, 0, rfl, fun j hj => ?_⟩, hin i hi⟩⟩
  have hj8 : j < 8 := by rw [h8 i hi] at hj; exact hj
  have := hown.cells (g := g) rfl (i * 8 + j) _ (by rw [flatV_get h8 i hi j hj8]; exact List.getElem?_eq_getElem hj)
  rw [add_plain, Nat.zero_add] at this
  rw [Nat.zero_add, this]
  exact (List.getElem?_eq_getElem hj).symm
theorem own_cap {base g n cap : Nat} {xs : List Value} {W : World} {T : TypeId} (hown : W.ownsRow base T 8 (.slice (some ⟨g, 0, none⟩) n cap) n xs) : n ≤ cap ∧ cap ≤ maxLen := by
  rcases hown.2 with ⟨h0, _⟩ | ⟨g', cap', cur, e, _, _, h1, h2, _⟩
  · cases h0
  · cases e
    exact ⟨h1, h2⟩
end Go.Proofs.YtjbapldlgnlepaaGreatDoor
namespace Go.Proofs.YtjbapldlgnlepaaGreatDoor
open Go.RowKit Go.Deep Go.WideShapes

/-- What slices.Grow leaves: an empty row with room. -/
def Grown (w : World) (n : Nat) (e : Ending) (w' : World) : Prop := ∃ g cap, e = .returned (.slice (some ⟨g, 0, none⟩) 0 cap) ∧ w'.ownsRow w.heap.size 55 8 (.slice (some ⟨g, 0, none⟩) 0 cap) 0 [] ∧ n ≤ cap ∧ Below w.heap.size w w'

theorem grown_of {w : World} {n : Nat} (h0 : 0 < n) (hn : n ≤ 10000) (z : Value) (hz : z.cells.size = 8) :
    Grown w n (.returned (.slice (some ⟨w.heap.size, 0, none⟩) 0 (grownCap w n 0 55))) (w.drew.alloc (.cells (Builtin.zeroCells z.cells n ++ Builtin.zeroCells z.cells (grownCap w n 0 55 - n)) 55)) := by
  refine ⟨w.heap.size, _, rfl, ⟨by simp, .inr ⟨w.heap.size, _, _, rfl, Nat.le_refl _, heap_alloc_new w.drew _, Nat.zero_le _, grownCap_le_maxLen _ _ _ _ (by unfold maxLen; omega), ?_, by simp⟩⟩, grownCap_ge _ _ _ _, ((Below.refl _ _).drew).alloc (Nat.le_refl _) _⟩
  have h1 := grownCap_ge w n 0 55
  rw [Array.size_append, size_zeroCells, size_zeroCells, hz]
  omega

set_option maxRecDepth 100000 in
set_option maxHeartbeats 2000000 in
theorem grow_any (n : Nat) (w : World) (h0 : 0 < n) (hn : n ≤ 10000) :
    Calls Tryz.prog 170 #[.slice none 0 0, .int .i64 n] w (Grown w n) := by
  obtain ⟨i0, hi, hz0, hz1, hz2⟩ := info_parts info_val
  have hrun := fun ty => Lib.run_append_nil_zeros w 48 3 ty 55 i0 _ .i64 .i64 Tryz.underlying48 Tryz.underlying3 hi hz0 n h0 (by omega) (by omega) (by rw [hz2]; omega)
  have hg := grown_of (w := w) h0 hn (vz 0 0 ⟨#[]⟩).agg rfl
  obtain ⟨O, hO⟩ : ∃ O, Obj.cells (Builtin.zeroCells (vz 0 0 ⟨#[]⟩).agg.cells n ++ Builtin.zeroCells (vz 0 0 ⟨#[]⟩).agg.cells (grownCap w n 0 55 - n)) 55 = O := ⟨_, rfl⟩
  simp only [hO] at hg hrun
  obtain ⟨cp, hcp⟩ : ∃ cp, grownCap w n 0 55 = cp := ⟨_, rfl⟩
  simp only [hcp] at hg hrun
  have HG : Hid (Grown w n (.returned (.slice (some ⟨w.heap.size, 0, none⟩) 0 cp)) (w.alloc O).drew) := hg
  have HR := Lib.hid hrun
  clear hg hO hcp
  clear hrun hi hz0 hz1 hz2
  have hn1 : ¬ ((n : Int) < 0) := by omega
  have hn2 : 0 < (n : Int) := by omega
  go_enter Tryz.func170, Tryz.ntmps170
  go_wp2_with (at_builtin; refine Lib.wpList_append_run _ rfl _ _ _ _ rfl _ _ rfl rfl _ _ (HR.out _) ?_)
  go_ret
  exact HG.out

/-- Values are appended to a row that the call owns. -/
theorem append_vals {w0 W : World} {n g cap : Nat} {xs : List Value} {ops : Array Oper} {rest : List Oper} {o : Oper} {a : Act} {Q : Exit → Act → World → Prop}
    (hown : W.ownsRow w0.heap.size 55 8 (.slice (some ⟨g, 0, none⟩) n cap) n xs) (hlow : Below w0.heap.size w0 W) (hgd : o.guard = none) (s x : Operand)
    (ho : o.op = .call { callee := .builtin .append, args := #[s, x], argTypes := #[48, 48] }) (hs : a.eval s = .slice (some ⟨g, 0, none⟩) n cap) (la : Option Addr) (ll lc : Nat) (hx : a.eval x = .slice la ll lc)
    (L : Nat → V) (hV : Vals W la ll lc L) (hb : n + ll ≤ 100000)
    (hr : ∀ g' cap' W', W'.ownsRow w0.heap.size 55 8 (.slice (some ⟨g', 0, none⟩) (n + ll) cap') (n + ll) (xs ++ flatV ll L) → Below w0.heap.size w0 W' → wpList Tryz.prog ops Q rest (a.put o.dst (.slice (some ⟨g', 0, none⟩) (n + ll) cap')) W') : wpList Tryz.prog ops Q (o :: rest) a W := by
  obtain ⟨i0, hi, hz0, hz1, hz2⟩ := info_parts info_val
  have hc := own_cap hown
  by_cases hz : ll = 0
  · subst hz
    refine wpList_append_nothing hgd s x _ ho 55 i0 Tryz.underlying48 hi (some ⟨g, 0, none⟩) n cap hc.1 hs la lc hx ?_
    exact hr g cap W (by simpa [flatV] using hown) hlow
  · obtain ⟨⟨b, o', rfl, -⟩, -⟩ := hV.el 0 (by omega)
    have h8 : ∀ i, i < ll → (L i).cells.length = 8 := fun i hi => in_cells (hV.el i hi).2
    have hat : ∀ i, i < ll → At W b (o' + i * 8) (L i).cells := fun i hi => by
      obtain ⟨⟨b2, o2, he, ha⟩, -⟩ := hV.el i hi
      simp only [Option.some.injEq, Addr.mk.injEq, and_true] at he
      obtain ⟨rfl, rfl⟩ := he
      exact ha
    refine wpList_append_own W hgd s x _ ho w0.heap.size 55 i0 _ 8 112 Tryz.underlying48 hi hz0 hz1 hz2 rfl (by decide) _ n _ hs hown ⟨b, o', none⟩ ll lc (flatV ll L) hx (flatV_length h8) (flat_cells h8 hat) flat_one (by unfold maxLen; omega) (by omega) hlow.size ?_
    intro v' w' hown' hgrow _
    have hlow' : Below w0.heap.size w0 w' := hlow.grown hgrow hlow.size (fun k e => by have := (hown.lt _ e).1; omega)
    rcases hown'.2 with ⟨_, h0⟩ | ⟨g', cap', cur, e, _⟩
    · omega
    · subst e
      exact hr g' cap' w' hown' hlow'

/-- How many are in the first k of two lists; their cells. -/
def tot2 (n1 n2 k : Nat) : Nat := if k = 0 then 0 else if k = 1 then n1 else n1 + n2
def flat2 (n1 : Nat) (L1 : Nat → V) (n2 : Nat) (L2 : Nat → V) (k : Nat) : List Value := if k = 0 then [] else if k = 1 then flatV n1 L1 else flatV n1 L1 ++ flatV n2 L2

theorem tot2_0 (n1 n2 : Nat) : tot2 n1 n2 0 = 0 := rfl
theorem tot2_1 (n1 n2 : Nat) : tot2 n1 n2 1 = n1 := rfl
theorem tot2_2 (n1 n2 : Nat) : tot2 n1 n2 2 = n1 + n2 := rfl
theorem flat2_0 (n1 : Nat) (L1 : Nat → V) (n2 : Nat) (L2 : Nat → V) : flat2 n1 L1 n2 L2 0 = [] := rfl
theorem flat2_1 (n1 : Nat) (L1 : Nat → V) (n2 : Nat) (L2 : Nat → V) : flat2 n1 L1 n2 L2 1 = flatV n1 L1 := rfl
theorem flat2_2 (n1 : Nat) (L1 : Nat → V) (n2 : Nat) (L2 : Nat → V) : flat2 n1 L1 n2 L2 2 = flatV n1 L1 ++ flatV n2 L2 := rfl

/-- What slices.Concat leaves. -/
def Joined (w : World) (n1 n2 : Nat) (L1 L2 : Nat → V) (e : Ending) (w' : World) : Prop := ∃ g cap, e = .returned (.slice (some ⟨g, 0, none⟩) (n1 + n2) cap) ∧ Vals w' (some ⟨g, 0, none⟩) (n1 + n2) cap (catV n1 L1 L2) ∧ w.heap.size ≤ g ∧ Below w.heap.size w w'

set_option maxRecDepth 100000 in
set_option maxHeartbeats 4000000 in
theorem concat_any (sb sc : Nat) (la1 : Option Addr) (n1 c1 : Nat) (L1 : Nat → V) (la2 : Option Addr) (n2 c2 : Nat) (L2 : Nat → V) (w : World) (h1 : Vals w la1 n1 c1 L1) (h2 : Vals w la2 n2 c2 L2)
    (hs0 : w.cell? ⟨sb, 0, none⟩ = some (.slice la1 n1 c1)) (hs1 : w.cell? ⟨sb, 1, none⟩ = some (.slice la2 n2 c2)) (hpos : 0 < n1 + n2) (hmax : n1 + n2 ≤ 10000) :
    Calls Tryz.prog 143 #[.slice (some ⟨sb, 0, none⟩) 2 sc] w (Joined w n1 n2 L1 L2) := by
  have HJ : Hid (∀ g cap W, W.ownsRow w.heap.size 55 8 (.slice (some ⟨g, 0, none⟩) (n1 + n2) cap) (n1 + n2) (flatV n1 L1 ++ flatV n2 L2) → Below w.heap.size w W → Joined w n1 n2 L1 L2 (.returned (.slice (some ⟨g, 0, none⟩) (n1 + n2) cap)) W) := by
    intro g cap W ho hb
    rw [← flatV_cat] at ho
    refine ⟨g, cap, rfl, own_vals (own_cap ho).1 (own_cap ho).2 (fun i hi => ?_) ho, (ho.lt g rfl).1, hb⟩
    unfold catV
    split
    · exact ((h1.below hb).el i ‹_›).2
    · exact ((h2.below hb).el (i - n1) (by omega)).2
  have HV1 := Lib.hid (fun W (hb : Below w.heap.size w W) => h1.below hb)
  have HV2 := Lib.hid (fun W (hb : Below w.heap.size w W) => h2.below hb)
  have HS := Lib.hid (fun W (hb : Below w.heap.size w W) => (show W.cell? ⟨sb, 0, none⟩ = some (.slice la1 n1 c1) ∧ W.cell? ⟨sb, 1, none⟩ = some (.slice la2 n2 c2) from ⟨by rw [hb.cell (World.block_lt_of_cell? _ _ hs0), hs0], by rw [hb.cell (World.block_lt_of_cell? _ _ hs1), hs1]⟩))
  have HG : Hid (∀ W, Calls Tryz.prog 170 #[.slice none 0 0, .int .i64 ((n1 : Int) + (n2 : Int))] W (Grown W (n1 + n2))) := fun W => by
    rw [← Int.natCast_add]
    exact grow_any (n1 + n2) W hpos hmax
  have HP := Lib.hid hpos
  clear h1 h2 hpos
  have hn1 : (n1 : Int) ≤ 10000 := by omega
  have hn2 : (n2 : Int) ≤ 10000 := by omega
  have hn1' : (0 : Int) ≤ (n1 : Int) := by omega
  have hn2' : (0 : Int) ≤ (n2 : Int) := by omega
  go_enter Tryz.func143, Tryz.ntmps143
  go_wp2_with fail
  go_loop [3, 11] (fun s i => ∃ k : Nat, i = .int .i64 k ∧ k ≤ 2 ∧ s = .int .i64 (tot2 n1 n2 k : Nat)) (fun _ i => 2 - (intOf i).toNat)
  case atStart => exact ⟨0, rfl, by omega, rfl⟩
  case round =>
    obtain ⟨k, rfl, hk, rfl⟩ := hrel
    obtain rfl | rfl | rfl : k = 0 ∨ k = 1 ∨ k = 2 := by omega
    · simp only [tot2_0]
      go_wp2_with fail
      go_round
      case rel => exact ⟨1, rfl, by omega, by simp [tot2_1]⟩
      case measure => simp [intOf]
    · simp only [tot2_1]
      go_wp2_with fail
      go_round
      case rel => exact ⟨2, rfl, by omega, by simp [tot2_2]⟩
      case measure => simp [intOf]
    · simp only [tot2_2]
      clear hs0 hs1
      go_wp2_with (go_at_call 170; (with_reducible refine (HG.out _).mono ?_); rintro x w1 ⟨g, cap, rfl, hown, -, hb1⟩)
      have HO := Lib.hid (And.intro hown hb1)
      clear hown hb1
      go_loopw [6, 27] (fun s i W => ∃ k g cap : Nat, i = .int .i64 k ∧ k ≤ 2 ∧ s = .slice (some ⟨g, 0, none⟩) (tot2 n1 n2 k) cap ∧ W.ownsRow w.heap.size 55 8 (.slice (some ⟨g, 0, none⟩) (tot2 n1 n2 k) cap) (tot2 n1 n2 k) (flat2 n1 L1 n2 L2 k) ∧ Below w.heap.size w W) (fun _ i _ => 2 - (intOf i).toNat)
      case atStart => exact ⟨0, g, cap, rfl, by omega, rfl, HO.out.1, HO.out.2⟩
      case round =>
        rename_i W2 _
        obtain ⟨k, g2, cap2, rfl, hk, rfl, hown, hlow⟩ := hrel
        have HO2 := Lib.hid (And.intro hown hlow)
        clear hown hlow HO
        obtain ⟨hc0, hc1⟩ := HS.out _ HO2.out.2
        obtain rfl | rfl | rfl : k = 0 ∨ k = 1 ∨ k = 2 := by omega
        · simp only [tot2_0, flat2_0] at HO2 ⊢
          go_wp2_with (at_builtin; refine append_vals HO2.out.1 HO2.out.2 rfl _ _ rfl rfl la1 n1 c1 rfl L1 (HV1.out _ HO2.out.2) (by omega) ?_)
          intro g3 cap3 W3 ho3 hb3
          have HO3 := Lib.hid (And.intro ho3 hb3)
          clear ho3 hb3
          go_wp2_with fail
          go_roundw
          case rel => exact ⟨1, g3, cap3, rfl, by omega, by simp [tot2_1], by simpa [tot2_1, flat2_1] using HO3.out.1, HO3.out.2⟩
          case measure => simp [intOf]
        · simp only [tot2_1, flat2_1] at HO2 ⊢
          go_wp2_with (at_builtin; refine append_vals HO2.out.1 HO2.out.2 rfl _ _ rfl rfl la2 n2 c2 rfl L2 (HV2.out _ HO2.out.2) (by omega) ?_)
          intro g3 cap3 W3 ho3 hb3
          have HO3 := Lib.hid (And.intro ho3 hb3)
          clear ho3 hb3
          go_wp2_with fail
          go_roundw
          case rel => exact ⟨2, g3, cap3, rfl, by omega, by simp [tot2_2], by simpa [tot2_2, flat2_2] using HO3.out.1, HO3.out.2⟩
          case measure => simp [intOf]
        · simp only [tot2_2, flat2_2] at HO2 ⊢
          go_wp2_with fail
          go_ret
          exact HJ.out _ _ _ HO2.out.1 HO2.out.2
end Go.Proofs.YtjbapldlgnlepaaGreatDoor
namespace Go.Proofs.YtjbapldlgnlepaaGreatDoor
open Go.RowKit Go.Deep Go.WideShapes

theorem check_len {v : V} {w : World} (h : v.check = true) (hin : v.In w) : v.len ≤ 4096 := by
  cases v with
  | leaf => exact hin.elim
  | mk k n s la ll lc L fa fl fc fn F e key hk =>
    have h1 := ((check_iff _).1 h).2.1
    have h2 : ∀ m, m ≤ ll → m ≤ sumTo m (fun i => (L i).size) := by
      intro m
      induction m with
      | zero => exact fun _ => Nat.zero_le _
      | succ m ih =>
        intro hm
        have a := ih (by omega)
        have b := V.size_pos (((check_iff _).1 h).1.2.1 m (by omega))
        rw [sumTo]
        omega
    have h3 := h2 ll (Nat.le_refl _)
    simp only [V.size] at h1
    show ll ≤ 4096
    omega

/-- A new list of values, in a block behind the result's variable. -/
structure JV (w : World) (g n : Nat) (P : Nat → V) (W : World) : Prop where
  hg : w.heap.size < g
  at' : ∀ i, i < n → At W g (i * 8) (P i).cells
theorem JV.below {w W W' : World} {g n : Nat} {P : Nat → V} (h : JV w g n P W) (hb : Below W.heap.size W W') : JV w g n P W' := ⟨h.hg, fun i hi => (h.at' i hi).below hb⟩
theorem JV.alloc {w W : World} {g n : Nat} {P : Nat → V} (h : JV w g n P W) (O : Obj) : JV w g n P (W.alloc O) := h.below (below_alloc _ _)
theorem JV.set {w W : World} {g n : Nat} {P : Nat → V} (h : JV w g n P W) (i : Nat) (u : Value) : JV w g n P (W.setCell ⟨w.heap.size, i, none⟩ u) :=
  ⟨h.hg, fun k hk j hj => by
    have hg := h.hg
    rw [World.cell?_of_block (w := W) (by simp [World.setCell, Array.getElem?_modify]; intro e; omega), h.at' k hk j hj]⟩
theorem jv_of {w W W' : World} {g n cap : Nat} {P : Nat → V} (hw : w.heap.size < W.heap.size) (hg : W.heap.size ≤ g) (hV : Vals W' (some ⟨g, 0, none⟩) n cap P) : JV w g n P W' :=
  ⟨Nat.lt_of_lt_of_le hw hg, fun i hi => by
    obtain ⟨⟨b, o, e, ha⟩, -⟩ := hV.el i hi
    cases e
    rw [Nat.zero_add] at ha
    exact ha⟩

theorem one_val {W : World} {b o : Nat} {y : V} (ha : At W b o y.cells) (hy : y.In W) : ∀ i, i < 1 → (∃ b1 o1, some (⟨b, o, none⟩ : Addr) = some ⟨b1, o1, none⟩ ∧ At W b1 (o1 + i * 8) y.cells) ∧ y.In W := by
  intro i hi
  obtain rfl : i = 0 := by omega
  exact ⟨⟨b, o, rfl, by simpa using ha⟩, hy⟩

/-- are, of one value out of two. -/
theorem are21 {w : World} {b o lc : Nat} {L : Nat → V} (x : Int) (W : World) (kb : Nat) (h : OW w (some ⟨b, o, none⟩) 2 lc L W) (hk : KAt W kb 1 (fun _ => x)) :
    Calls Tryz.prog 134 #[.slice (some ⟨b, o, none⟩) 2 lc, .slice (some ⟨kb, 0, none⟩) 1 1] W fun e w' => e = .returned (.bool (decide ((L 0).kind = x))) ∧ OW w (some ⟨b, o, none⟩) 2 lc L w' ∧ Below W.heap.size W w' :=
  (are_any _ 2 lc L kb 1 1 (fun _ => x) W h.vals hk (by decide)).mono fun e w' ⟨h1, h2⟩ => ⟨by rw [h1, are_one], by rw [h2]; exact h, by rw [h2]; exact Below.refl _ _⟩

set_option maxRecDepth 100000 in
set_option maxHeartbeats 4000000 in
theorem push_any (la : Option Addr) (lc : Nat) (L : Nat → V) (w : World) (h : Vals w la 2 lc L) (hck : (L 0).check = true) : Calls Tryz.prog 94 #[.slice la 2 lc] w (OpPost 11 2 L w) := by
  have OK0 := OW.start h 55
  have hlc := h.hlc
  unfold maxLen at hlc
  obtain ⟨b, o, rfl, -⟩ := OK0.two
  have HC := Lib.hid (fun W kb (h : OW w (some ⟨b, o, none⟩) 2 lc L W) hk => are21 4 W kb h hk)
  have HX := Lib.hid (fun W (h : OW w (some ⟨b, o, none⟩) 2 lc L W) => (ow_cells2 h).1)
  have HY := Lib.hid (fun W (h : OW w (some ⟨b, o, none⟩) 2 lc L W) => (ow_cells2 h).2)
  have hi0 := (ow_cells2 OK0).1.2
  have hlen := check_len hck hi0
  clear hck
  obtain ⟨r, hr⟩ : ∃ r, decide ((L 0).kind = 4) = r := ⟨_, rfl⟩
  rw [hr] at HC
  obtain ⟨y, hy⟩ : ∃ y, L 1 = y := ⟨_, rfl⟩
  have HP : Hid (∀ e w' g cap, e = .returned (.tuple #[(lv (some ⟨g, 0, none⟩) ((L 0).len + 1) cap (catV (L 0).len (L 0).el (fun _ => y))).agg, .bool r]) → ((L 0).len + 1 ≤ cap ∧ cap ≤ maxLen) → OW w (some ⟨b, o, none⟩) 2 lc L w' → JV w g ((L 0).len + 1) (catV (L 0).len (L 0).el (fun _ => y)) w' → OpPost 11 2 L w e w') := by
    rintro e w' g cap he hcap h hj
    have e1 : opOk 11 2 L = r := hr
    obtain ⟨h0, h1⟩ := ow_cells2 h
    obtain ⟨x, hx⟩ : ∃ x, L 0 = x := ⟨_, rfl⟩
    have hin : ∀ i, i < (L 0).len + 1 → (catV (L 0).len (L 0).el (fun _ => y) i).In w' := by
      intro i hi
      unfold catV
      split
      · have h2 := h0.2
        rw [hx] at h2 ⊢
        cases x with
        | leaf => exact h2.elim
        | mk k1 n1 s1 la1 ll1 lc1 L1 fa1 fl1 fc1 fn1 F1 e1 key1 hk1 =>
          rename_i hlt
          rw [hx] at hlt
          exact (h2.2.2.2.2.2.2.2.1 i hlt).2
      · rw [← hy]; exact h1.2
    refine ⟨_, by rw [e1]; exact he, h.low, ?_, fun _ => ?_⟩
    · exact ⟨by omega, by omega, by decide, by omega, by decide, hcap, ⟨Nat.le_refl _, by decide⟩, fun i hi => ⟨⟨g, 0, rfl, by rw [Nat.zero_add]; exact hj.at' i hi⟩, hin i hi⟩, fun i hi => absurd hi (Nat.not_lt_zero _)⟩
    · refine lv_same fun i hi => ?_
      have e2 : snocV (L 0).len (L 0).el (L 1) i = catV (L 0).len (L 0).el (fun _ => y) i := by
        unfold snocV catV
        split
        · rfl
        · exact hy
      rw [e2]
      exact In_same (hin i hi)
  have hi1 := (ow_cells2 OK0).2.2
  rw [hy] at HY
  clear hr
  obtain ⟨x, hx⟩ : ∃ x, L 0 = x := ⟨_, rfl⟩
  rw [hx] at HX hi0 HP hlen
  clear hx hy hi1
  cases x with
  | leaf => exact hi0.elim
  | mk k1 n1 s1 la1 ll1 lc1 L1 fa1 fl1 fc1 fn1 F1 e1 key1 hk1 =>
  simp only [V.len, V.el] at hlen HP
  have HJ := Lib.hid (fun W sb (h : OW w (some ⟨b, o, none⟩) 2 lc L W) (h1 : W.cell? ⟨sb, 0, none⟩ = some (.slice la1 ll1 lc1)) (h2 : W.cell? ⟨sb, 1, none⟩ = some (.slice (some ⟨b, o + 8, none⟩) 1 (lc - 1))) =>
    (concat_any sb 2 la1 ll1 lc1 L1 (some ⟨b, o + 8, none⟩) 1 (lc - 1) (fun _ => y) W ⟨(HX.out W h).2.2.2.2.2.2.1, (HX.out W h).2.2.2.2.2.2.2.2.1⟩
      ⟨⟨by have := h.base.hlc; omega, by have := h.base.hlc; omega⟩, one_val (HY.out W h).1 (HY.out W h).2⟩ h1 h2 (by omega) (by omega)).mono
      (R' := fun e w' => ∃ g cap, e = .returned (.slice (some ⟨g, 0, none⟩) (ll1 + 1) cap) ∧ (ll1 + 1 ≤ cap ∧ cap ≤ maxLen) ∧ JV w g (ll1 + 1) (catV ll1 L1 (fun _ => y)) w' ∧ Below W.heap.size W w')
      (fun e w' ⟨g, cap, q1, q2, q3, q4⟩ => ⟨g, cap, q1, q2.hlc, jv_of h.big q3 q2, q4⟩))
  have KS := Lib.hid (fun W (h : OW w (some ⟨b, o, none⟩) 2 lc L W) => And.intro h (And.intro (at8 (HX.out W h).1) h.rcells))
  clear HX HY hi0 hlen
  have hlc1 : (1 : Int) ≤ (lc : Int) := by omega
  have hlcne : ¬ lc = 1 := by omega
  simp only [nv, vz, V.cells] at OK0
  have OKH := Lib.hid OK0
  clear OK0 h
  go_enter Tryz.func94, Tryz.ntmps94
  go_upto_region 1 with fail
  have OKu := OKH.out
  generalize w.alloc (.cells #[.int .u8 0, .int .i64 0, .string ⟨#[]⟩, .slice none 0 0, .slice none 0 0, .int .u8 0, .string ⟨#[]⟩, .bool false] 55) = W0 at OKu ⊢
  have OK : OW w (some ⟨b, o, none⟩) 2 lc L W0 := OKu
  clear OKu OKH
  go_region_held3 (fun W => OW w (some ⟨b, o, none⟩) 2 lc L W ∧
      (W.cell? ⟨b, o, none⟩ = some (.int .u8 k1) ∧ W.cell? ⟨b, o + 1, none⟩ = some (.int .i64 n1) ∧ W.cell? ⟨b, o + 2, none⟩ = some (.string s1) ∧ W.cell? ⟨b, o + 3, none⟩ = some (.slice la1 ll1 lc1) ∧ W.cell? ⟨b, o + 4, none⟩ = some (.slice fa1 fl1 fc1) ∧ W.cell? ⟨b, o + 5, none⟩ = some (.int .u8 e1) ∧ W.cell? ⟨b, o + 6, none⟩ = some (.string key1) ∧ W.cell? ⟨b, o + 7, none⟩ = some (.bool hk1)) ∧
      (W.cell? ⟨w.heap.size, 0, none⟩ = some (rs W w.heap.size 0) ∧ W.cell? ⟨w.heap.size, 1, none⟩ = some (rs W w.heap.size 1) ∧ W.cell? ⟨w.heap.size, 2, none⟩ = some (rs W w.heap.size 2) ∧ W.cell? ⟨w.heap.size, 3, none⟩ = some (rs W w.heap.size 3) ∧ W.cell? ⟨w.heap.size, 4, none⟩ = some (rs W w.heap.size 4) ∧ W.cell? ⟨w.heap.size, 5, none⟩ = some (rs W w.heap.size 5) ∧ W.cell? ⟨w.heap.size, 6, none⟩ = some (rs W w.heap.size 6) ∧ W.cell? ⟨w.heap.size, 7, none⟩ = some (rs W w.heap.size 7)) ∧
      (W.frozen? ⟨w.heap.size, 0, none⟩ = false ∧ W.frozen? ⟨w.heap.size, 1, none⟩ = false ∧ W.frozen? ⟨w.heap.size, 2, none⟩ = false ∧ W.frozen? ⟨w.heap.size, 3, none⟩ = false ∧ W.frozen? ⟨w.heap.size, 4, none⟩ = false ∧ W.frozen? ⟨w.heap.size, 5, none⟩ = false ∧ W.frozen? ⟨w.heap.size, 6, none⟩ = false ∧ W.frozen? ⟨w.heap.size, 7, none⟩ = false))
    (first
      | (refine KS.out _ ?_; with_reducible assumption)
      | (refine KS.out _ ?_; ((with_reducible refine OW.set ?_ _ _); (repeat' (with_reducible refine OW.set ?_ _ _)); go_split_ands; with_reducible assumption))
      | (with_reducible exact KS.out _ (OW.drew OK))
      | (with_reducible exact KS.out _ (OW.drew (OW.alloc OK _)))
      | (with_reducible exact KS.out _ (OW.drew (OW.alloc (OW.alloc OK _) _)))
      | (refine KS.out _ (OW.below ?_ (by with_reducible assumption)); go_split_ands; with_reducible assumption)
      | (with_reducible refine KS.out _ (OW.alloc ?_ _); go_split_ands; with_reducible assumption))
    (first
      | (go_at_call 143; (with_reducible refine (HJ.out _ _ ?_ ?_ ?_).mono ?_); (go_split_ands; assumption); (simp); (simp); rintro p w3 ⟨g, cap, rfl, hcap, hj3, hb3⟩; have HK1 := (fun kb (h : KAt _ kb 1 (fun _ => (4 : Int))) => h.below hb3))
      | (go_at_call 142; (with_reducible refine (aList_any _ _ _ (catV ll1 L1 (fun _ => y)) _).mono ?_); rintro p w4 ⟨rfl, hb4⟩; have HK2 := (fun kb (h : KAt _ kb 1 (fun _ => (4 : Int))) => h.below hb4); (first | (have hj4 := hj3.below hb4) | (have hj4 := (hj3.alloc _).below hb4)); simp only [lv, V.agg, V.cells])
      | (go_at_call 134; (with_reducible refine (HC.out _ _ ?_ ?_).mono ?_); (go_split_ands; assumption); (first | exact kat1 _ _ _ | exact HK2 _ (kat1 _ _ _) | exact HK2 _ (HK1 _ (by intro j hj; obtain rfl : j = 0 := (by omega); simp))); rintro p w5 ⟨rfl, OK5, hb5⟩; (first | (have hj5 := hj4.below hb5) | (have hj5 := (hj4.alloc _).below hb5))))
  all_goals
    go_wp2_with fail
    rename_i hS
    have HS := Lib.hid hS.1
    obtain ⟨-, -, ⟨d0, d1, d2, d3, d4, d5, d6, d7⟩, -⟩ := KS.out _ OK5
    have HJ5 := Lib.hid hj5
    have HCAP := Lib.hid hcap
    clear hS KS OK hj3 hj4 hj5 hb3 hb4 hb5 HK1 HK2 hcap OK5
    refine bodyPost_ret (v := .tuple #[(lv (some ⟨g, 0, none⟩) (ll1 + 1) cap (catV ll1 L1 (fun _ => y))).agg, .bool r]) (by simp [results, Tryz.results94, go_sem, d0, d1, d2, d3, d4, d5, d6, d7, lv, V.agg, V.cells]) rfl (HP.out _ _ g cap rfl HCAP.out HS.out ?_)
    iterate 8 (with_reducible refine JV.set ?_ _ _)
    exact HJ5.out
end Go.Proofs.YtjbapldlgnlepaaGreatDoor
