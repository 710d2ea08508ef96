/-
  Rows of values that the call owns, value by value: one appended behind the other; lists of values made of lists. Plain but for 'append_row'.
  Conditions: none.
-/
import Derived.Test.YtpmkkgndpfbkdaaDoorNkK
import Derived.Test.YtpmkkgndpfbkdaaDoorEqualP
namespace Go.Proofs.YtpmkkgndpfbkdaaDoor
set_option linter.unusedVariables false
set_option linter.unusedSimpArgs false
open Go.RowKit Go.Deep Go.WideShapes

/-- Cells of values, one behind the other. -/
abbrev flV (n : Nat) (L : Nat → V) : List Value := flatC 8 n (fun i => (L i).cells)
/-- Two lists, one behind the other. -/
def catW (n : Nat) (P Q : Nat → V) : Nat → V := fun i => if i < n then P i else Q (i - n)
theorem flatC_ext {sz : Nat} {f g : Nat → List Value} : ∀ {k : Nat}, (∀ i, i < k → f i = g i) → flatC sz k f = flatC sz k g
  | 0, _ => rfl
  | k + 1, h => by rw [flatC, flatC, flatC_ext (fun i hi => h i (by omega)), h k (by omega)]
theorem flV_cat (n : Nat) (P Q : Nat → V) : ∀ m, flV (n + m) (catW n P Q) = flV n P ++ flV m Q
  | 0 => by
    rw [Nat.add_zero]
    show _ = _ ++ flatC 8 0 _
    rw [flatC, List.append_nil]
    exact flatC_ext fun i hi => by rw [catW, if_pos hi]
  | m + 1 => by
    have ih := flV_cat n P Q m
    rw [← Nat.add_assoc]
    show flatC 8 (n + m) _ ++ (catW n P Q (n + m)).cells = _ ++ (flatC 8 m _ ++ (Q m).cells)
    rw [← List.append_assoc, ← ih, catW, if_neg (by omega), Nat.add_sub_cancel_left]
theorem listV_ext {P Q : Nat → V} : ∀ {k : Nat}, (∀ i, i < k → P i = Q i) → listV P k = listV Q k
  | 0, _ => rfl
  | k + 1, h => by rw [listV_succ, listV_succ, listV_ext (fun i hi => h i (by omega)), h k (by omega)]
theorem listV_cat (n : Nat) (P Q : Nat → V) : ∀ m, listV (catW n P Q) (n + m) = listV P n ++ listV Q m
  | 0 => by
    rw [Nat.add_zero, show listV Q 0 = [] from rfl, List.append_nil]
    exact listV_ext fun i hi => by rw [catW, if_pos hi]
  | m + 1 => by rw [← Nat.add_assoc, listV_succ, listV_cat n P Q m, listV_succ, List.append_assoc, catW, if_neg (by omega), Nat.add_sub_cancel_left]
theorem listV_split (L : Nat → V) (a b : Nat) : listV L (a + b) = listV L a ++ listV (fun i => L (a + i)) b := by
  rw [← listV_cat a L (fun i => L (a + i)) b]
  refine listV_ext fun i hi => ?_
  unfold catW
  split
  · rfl
  · show L i = L (a + (i - a))
    rw [show a + (i - a) = i by omega]

/-- A value that is a list. -/
def lz (la : Option Addr) (n c : Nat) (L : Nat → V) : V := .mk 4 0 ⟨#[]⟩ la n c L none 0 0 (fun _ => ⟨#[]⟩) (fun _ => .leaf) 0 ⟨#[]⟩ false
theorem lz_flat (la : Option Addr) (n c : Nat) (L : Nat → V) : (lz la n c L).flatV = listV L n := by
  show (if (4 : Int) = 4 then _ else _) = _
  rw [if_pos rfl]
  rfl
theorem listV_one (v : V) : listV (fun _ => v) 1 = v.flatV := by
  show List.flatMap _ (List.range 1) = _
  simp
theorem lz_ok {W : World} {la : Option Addr} {n c : Nat} {L : Nat → V} (h : Lst W la n c L) : (lz la n c L).In W ∧ (lz la n c L).Fit ∧ (lz la n c L).Keys :=
  ⟨⟨by decide, by decide, by decide, by decide, by decide, h.cap, ⟨Nat.le_refl _, by decide⟩, h.els, fun i hi => absurd hi (Nat.not_lt_zero _)⟩,
    ⟨h.fit.1, by decide, h.fit.2, fun i hi => absurd hi (Nat.not_lt_zero _)⟩, ⟨by decide, h.key⟩⟩

/-- Where a stretch of a list begins. -/
def offA (la : Option Addr) (lc p : Nat) : Option Addr := if lc = p then la else la.map (fun x => x.add (p * 8))
theorem lst_sub {W : World} {la : Option Addr} {ll lc : Nat} {L : Nat → V} (h : Lst W la ll lc L) (p d : Nat) (hq : p + d ≤ ll) : Lst W (offA la lc p) d (lc - p) (fun i => L (p + i)) := by
  refine ⟨⟨by have := h.cap.1; omega, by have := h.cap.2; omega⟩, fun i hi => ?_, ⟨by have := h.fit.1; omega, fun i hi => h.fit.2 _ (by omega)⟩, fun i hi => h.key _ (by omega)⟩
  obtain ⟨⟨b, o, rfl, ha⟩, hin⟩ := h.els (p + i) (by omega)
  refine ⟨⟨b, o + p * 8, ?_, ?_⟩, hin⟩
  · rw [offA, if_neg (by have := h.cap.1; omega)]
    simp [add_plain]
  · rw [show o + p * 8 + i * 8 = o + (p + i) * 8 by omega]
    exact ha
theorem lst_head {W : World} {la : Option Addr} {ll lc : Nat} {L : Nat → V} (h : Lst W la ll lc L) (p : Nat) (hp : p ≤ ll) : Lst W la p lc L :=
  ⟨⟨Nat.le_trans hp h.cap.1, h.cap.2⟩, fun i hi => h.els i (by omega), ⟨by have := h.fit.1; omega, fun i hi => h.fit.2 i (by omega)⟩, fun i hi => h.key i (by omega)⟩
theorem in_one {w : World} : ∀ {v : V}, ∀ u ∈ v.cells, u.oneCell' = true := by
  intro v u hu
  cases v with
  | leaf => cases hu
  | mk k n s la ll lc L fa fl fc fn F e key hk =>
    simp only [V.cells, List.mem_cons, List.not_mem_nil, or_false] at hu
    rcases hu with rfl | rfl | rfl | rfl | rfl | rfl | rfl | rfl <;> rfl

/-- A row that the call owns is a list of values. -/
theorem lst_own {W : World} {base : Nat} {u : Value} {n : Nat} {L : Nat → V} (h : W.ownsRow base 30 8 u n (flV n L)) (h0 : 0 < n) (hn : n * 112 ≤ 140737488355328) (hi : ∀ i, i < n → (L i).In W ∧ (L i).Fit ∧ (L i).Keys) :
    ∃ g cap, u = .slice (some ⟨g, 0, none⟩) n cap ∧ base ≤ g ∧ Lst W (some ⟨g, 0, none⟩) n cap L := by
  obtain ⟨g, cap, rfl, hat, h1, h2, hbg⟩ := row_open h h0
  refine ⟨g, cap, rfl, hbg, ⟨h1, h2⟩, fun i hl => ⟨⟨g, 0, rfl, fun j hj => ?_⟩, (hi i hl).1⟩, ⟨by omega, fun i hl => (hi i hl).2.1⟩, fun i hl => (hi i hl).2.2⟩
  have h8 : ∀ i, i < n → (L i).cells.length = 8 := fun i hl => in_cells (hi i hl).1
  rw [h8 i hl] at hj
  have hlen := flatC_length (sz := 8) h8
  have := hat (i * 8 + j) (by rw [hlen]; omega)
  rw [Nat.zero_add] at this
  rw [Nat.zero_add, this, flatC_get h8 i hl j hj]

set_option maxRecDepth 100000 in
/-- Values are appended to a row that the call owns. -/
theorem append_row {base : Nat} {W : World} {n : Nat} {xs : List Value} {v : Value} {ops : Array Oper} {rest : List Oper} {o : Oper} {a : Act} {Q : Exit → Act → World → Prop}
    (hown : W.ownsRow base 30 8 v n xs) (hbase : base ≤ W.heap.size) (hgd : o.guard = none) (s x : Operand)
    (ho : o.op = .call { callee := .builtin .append, args := #[s, x], argTypes := #[22, 22] }) (hs : a.eval s = v) (la : Option Addr) (ll lc : Nat) (hx : a.eval x = .slice la ll lc)
    (L : Nat → V) (hV : Lst W la ll lc L) (hb : (n + ll) * 112 ≤ 140737488355328)
    (hr : ∀ v' W', W'.ownsRow base 30 8 v' (n + ll) (xs ++ flV ll L) → Below base W W' → wpList Tryd.prog ops Q rest (a.put o.dst v') W') : wpList Tryd.prog ops Q (o :: rest) a W := by
  obtain ⟨i0, hi, hz0, hz1, hz2⟩ := info_parts info_val
  by_cases hz : ll = 0
  · subst hz
    have hv : ∃ sa cap, v = .slice sa n cap ∧ n ≤ cap := by
      rcases hown.2 with ⟨e, h0⟩ | ⟨g', cap', cur, e, _, _, h1, h2, _⟩
      · exact ⟨none, 0, by rw [h0]; exact e, by omega⟩
      · exact ⟨_, _, e, h1⟩
    obtain ⟨sa, cap, rfl, hc⟩ := hv
    refine wpList_append_nothing hgd s x _ ho 30 i0 Tryd.underlying22 hi sa n cap hc hs la lc hx ?_
    refine hr _ W ?_ (Below.refl _ _ |>.mono hbase)
    show W.ownsRow base _ 8 _ (n + 0) (xs ++ flatC 8 0 _)
    rw [flatC, List.append_nil, Nat.add_zero]
    exact hown
  · obtain ⟨⟨b, o', rfl, -⟩, -⟩ := hV.els 0 (by omega)
    have h8 : ∀ i, i < ll → (L i).cells.length = 8 := fun i hi => in_cells (hV.els i hi).2
    have hat : ∀ i, i < ll → At W b (o' + i * 8) (L i).cells := fun i hi => by
      obtain ⟨⟨b2, o2, he, ha⟩, -⟩ := hV.els i hi
      simp only [Option.some.injEq, Addr.mk.injEq, and_true] at he
      obtain ⟨rfl, rfl⟩ := he
      exact ha
    refine wpList_append_own W hgd s x _ ho base 30 i0 _ 8 112 Tryd.underlying22 hi hz0 hz1 hz2 rfl (by decide) v n xs hs hown ⟨b, o', none⟩ ll lc (flV ll L) hx (flatC_length h8) (flatC_cells (by decide) h8 hat) (flatC_one (fun i => in_one (w := W))) (by unfold maxLen; omega) (by omega) hbase ?_
    intro v' w' hown' hgrow _
    exact hr v' w' hown' (Below.grown (Below.refl _ _ |>.mono hbase) hgrow hbase (fun k e => (hown.lt _ e).1))

/-- A list of one value that was just laid. -/
theorem lst_one {w : World} {v : V} {T : TypeId} (h : v.In w ∧ v.Fit ∧ v.Keys) : Lst (w.alloc (.cells v.cells.toArray T)) (some ⟨w.heap.size, 0, none⟩) 1 1 (fun _ => v) :=
  lst_row (T := T) (L := fun _ => v) (n := 1) (by
    rw [show flatC 8 1 (fun _ => v.cells) = v.cells from List.nil_append _]
    exact Go.Deep.blk_alloc_new w _) (by decide) fun i hi => ⟨h.1.below (below_alloc _ _), h.2⟩
/-- The row with a stretch put into a list of its own. -/
theorem lists_row {W : World} {base : Nat} {u : Value} {la A1 : Option Addr} {ll lc c1 p q : Nat} {L : Nat → V} (hpq : p ≤ q) (hql : q ≤ ll) (hll : ll * 112 ≤ 140737488351232) (hl : Lst W la ll lc L) (h1 : Lst W A1 (q - p) c1 (fun i => L (p + i)))
    (h : W.ownsRow base 30 8 u (p + 1 + (ll - q)) (flV p L ++ flV 1 (fun _ => lz A1 (q - p) c1 (fun i => L (p + i))) ++ flV (ll - q) (fun i => L (q + i)))) :
    ∃ g n cap M, u = .slice (some ⟨g, 0, none⟩) n cap ∧ Lst W (some ⟨g, 0, none⟩) n cap M ∧ listV M n = listV L ll := by
  have hok : ∀ i, i < ll → (L i).In W ∧ (L i).Fit ∧ (L i).Keys := fun i hi => ⟨(hl.els i hi).2, hl.fit.2 i hi, hl.key i hi⟩
  rw [← flV_cat, ← flV_cat] at h
  obtain ⟨g, cap, rfl, -, hL⟩ := lst_own h (by omega) (by omega) (fun i hi => by
    unfold catW
    split
    · split
      · exact hok i (by omega)
      · exact lz_ok h1
    · exact hok _ (by omega))
  refine ⟨g, _, cap, _, rfl, hL, ?_⟩
  rw [listV_cat, listV_cat, listV_one, lz_flat, ← listV_split, ← Nat.add_sub_assoc hpq, Nat.add_sub_cancel_left, ← listV_split, ← Nat.add_sub_assoc hql, Nat.add_sub_cancel_left]
/-- Children that come of the same values are the same. -/
theorem same_rows {vs : List V} {a b : List C} (ha : Sms (kidsM vs) a) (hb : Sms (kidsM vs) b) : Sms a b := by
  generalize kidsM vs = cs at ha hb
  induction cs generalizing a b with
  | nil => cases a <;> cases b <;> first | trivial | exact ha.elim | exact hb.elim
  | cons c r ih =>
    cases a with
    | nil => exact ha.elim
    | cons x s =>
      cases b with
      | nil => exact hb.elim
      | cons y t =>
        refine ⟨⟨ha.1.1.symm.trans hb.1.1, ha.1.2.1.symm.trans hb.1.2.1, ha.1.2.2.1.symm.trans hb.1.2.2.1, same_trans _ _ _ ?_ hb.1.2.2.2⟩, ih ha.2 hb.2⟩
        rw [same_symm]
        exact ha.1.2.2.2
end Go.Proofs.YtpmkkgndpfbkdaaDoor
