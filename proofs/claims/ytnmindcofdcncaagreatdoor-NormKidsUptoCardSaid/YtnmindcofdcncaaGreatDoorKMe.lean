/-
  Rows of values and of children that the call owns; values appended to a row.
  Conditions: none.
  Walks: the reference's Flat answers the values as they are gone through ('listV'), in a row of its own.
  Conditions: the values lie in memory, each list and each key takes no more than the reach, and so do all together.
  Walks: the reference's Digits answers 'itoa'; old memory is as it was.
  Conditions: the number is an int64.
  Walks: the reference's child, has.
  Conditions: the value lies in memory.
-/
import Derived.Test.YtnmindcofdcncaaGreatDoorKMd
import Derived.Test.YtnmindcofdcncaaGreatDoorBkH
import Derived.IntWalk
import Derived.OwnWalk
import Derived.Lib.ItoaNum
import Derived.Test.YtnmindcofdcncaaGreatDoorBkW
namespace Go.Proofs.YtnmindcofdcncaaGreatDoor.Rk
set_option linter.unusedVariables false
set_option linter.unusedSimpArgs false
open Go.RowKit Go.Deep Go.WideShapes
theorem lst_row {W : World} {g n : Nat} {L : Nat → V} {T : TypeId} (h : W.heap[g]? = some (.cells (flatC 8 n (fun i => (L i).cells)).toArray T (0, 0))) (hn : n ≤ 100000) (hi : ∀ i, i < n → (L i).In W ∧ (L i).Fit ∧ (L i).Keys) : Lst W (some ⟨g, 0, none⟩) n n L := by
  refine ⟨⟨Nat.le_refl _, by unfold maxLen; omega⟩, fun i hl => ⟨⟨g, 0, rfl, fun j hj => ?_⟩, (hi i hl).1⟩, ⟨by omega, fun i hl => (hi i hl).2.1⟩, fun i hl => (hi i hl).2.2⟩
  have h8 : ∀ i, i < n → (L i).cells.length = 8 := fun i hl => in_cells (hi i hl).1
  rw [h8 i hl] at hj
  rw [Lib.cell_of_heap h, List.getElem?_toArray, Nat.zero_add, flatC_get h8 i hl j hj]
theorem row_open {W : World} {base : Nat} {T : TypeId} {size n : Nat} {u : Value} {xs : List Value} (h : W.ownsRow base T size u n xs) (hn : 0 < n) : ∃ g cap, u = .slice (some ⟨g, 0, none⟩) n cap ∧ At W g 0 xs ∧ n ≤ cap ∧ cap ≤ maxLen ∧ base ≤ g := by
  have h0 := h
  rcases h.2 with ⟨_, h1⟩ | ⟨g, cap, cur, rfl, hbg, hg, hnc, hcm, hcs, htk⟩
  · omega
  · refine ⟨g, cap, rfl, fun j hj => ?_, hnc, hcm, hbg⟩
    have := h0.cells (g := g) rfl j _ (List.getElem?_eq_getElem hj)
    rw [add_plain] at this
    rw [this]
    exact (List.getElem?_eq_getElem hj).symm
theorem fm_get : ∀ (cs : List C), (∀ c ∈ cs, c.cells.length = 11) → ∀ (j : Nat) (hj : j < cs.length) (q : Nat), q < 11 → (cs.flatMap C.cells)[j * 11 + q]? = (cs[j]).cells[q]?
  | [], _, j, hj, _, _ => absurd hj (by simp)
  | c :: r, h, 0, _, q, hq => by
    rw [List.flatMap_cons, Nat.zero_mul, Nat.zero_add, List.getElem?_append_left (by rw [h c (List.mem_cons_self ..)]; exact hq)]
    rfl
  | c :: r, h, j + 1, hj, q, hq => by
    have h0 := h c (List.mem_cons_self ..)
    rw [List.flatMap_cons, List.getElem?_append_right (by rw [h0]; omega), h0, show (j + 1) * 11 + q - 11 = j * 11 + q by omega, fm_get r (fun d hd => h d (List.mem_cons_of_mem _ hd)) j (by simpa using hj) q hq]
    rfl
theorem c_len {w : World} {c : C} (h : c.val.In w) : c.cells.length = 11 := by
  simp [C.cells, in_cells h]
structure KRow (w : World) (a : Option Addr) (cs : List C) : Prop where
  at' : ∀ (j : Nat) (hj : j < cs.length), ∃ g, a = some ⟨g, 0, none⟩ ∧ At w g (j * 11) (cs[j]).cells
  vals : ∀ c ∈ cs, c.val.In w
theorem KRow.below {w w' : World} {a : Option Addr} {cs : List C} (h : KRow w a cs) (hb : Below w.heap.size w w') : KRow w' a cs :=
  ⟨fun j hj => let ⟨g, e, ha⟩ := h.at' j hj; ⟨g, e, ha.below hb⟩, fun c hc => (h.vals c hc).below hb⟩
theorem kd_row {w W : World} {vs : List V} {u : Value} {cs : List C} (h : KidsPost w vs u cs W) : ∃ a cap, u = .slice a cs.length cap ∧ KRow W a cs ∧ cs.length ≤ cap ∧ cap ≤ maxLen := by
  rcases Nat.eq_zero_or_pos cs.length with h0 | h0
  · rcases h.row.2 with ⟨e, _⟩ | ⟨g, cap, cur, e, _, _, h1, h2, _⟩
    · exact ⟨none, 0, by rw [h0]; exact e, ⟨fun j hj => absurd hj (by omega), h.vals⟩, by omega, by decide⟩
    · exact ⟨_, cap, e, ⟨fun j hj => absurd hj (by omega), h.vals⟩, h1, h2⟩
  · obtain ⟨g, cap, e, hat, h1, h2, -⟩ := row_open h.row h0
    refine ⟨_, cap, e, ⟨fun j hj => ⟨g, rfl, fun q hq => ?_⟩, h.vals⟩, h1, h2⟩
    have h11 : ∀ c ∈ cs, c.cells.length = 11 := fun c hc => c_len (h.vals c hc)
    have hq' : q < 11 := by rw [h11 _ (List.getElem_mem hj)] at hq; exact hq
    have := fm_get cs h11 j hj q hq'
    have hlt : j * 11 + q < (cs.flatMap C.cells).length := by
      rw [h.row.1]
      omega
    have h3 := hat (j * 11 + q) hlt
    rw [Nat.zero_add] at h3
    rw [h3, this]
abbrev flV (n : Nat) (L : Nat → V) : List Value := flatC 8 n (fun i => (L i).cells)
def catW (n : Nat) (P Q : Nat → V) : Nat → V := fun i => if i < n then P i else Q (i - n)
theorem listV_ext {P Q : Nat → V} : ∀ {k : Nat}, (∀ i, i < k → P i = Q i) → listV P k = listV Q k
  | 0, _ => rfl
  | k + 1, h => by rw [listV_succ, listV_succ, listV_ext (fun i hi => h i (by omega)), h k (by omega)]
theorem listV_cat (n : Nat) (P Q : Nat → V) : ∀ m, listV (catW n P Q) (n + m) = listV P n ++ listV Q m
  | 0 => by
    rw [Nat.add_zero, show listV Q 0 = [] from rfl, List.append_nil]
    exact listV_ext fun i hi => by rw [catW, if_pos hi]
  | m + 1 => by rw [← Nat.add_assoc, listV_succ, listV_cat n P Q m, listV_succ, List.append_assoc, catW, if_neg (by omega), Nat.add_sub_cancel_left]
theorem listV_split (L : Nat → V) (a b : Nat) : listV L (a + b) = listV L a ++ listV (fun i => L (a + i)) b := by
  rw [← listV_cat a L (fun i => L (a + i)) b]
  refine listV_ext fun i hi => ?_
  unfold catW
  split
  · rfl
  · show L i = L (a + (i - a))
    rw [show a + (i - a) = i by omega]
theorem in_one {w : World} : ∀ {v : V}, ∀ u ∈ v.cells, u.oneCell' = true := by
  intro v u hu
  cases v with
  | leaf => cases hu
  | mk k n s la ll lc L fa fl fc fn F e key hk =>
    simp only [V.cells, List.mem_cons, List.not_mem_nil, or_false] at hu
    rcases hu with rfl | rfl | rfl | rfl | rfl | rfl | rfl | rfl <;> rfl
theorem lst_own {W : World} {base : Nat} {u : Value} {n : Nat} {L : Nat → V} (h : W.ownsRow base 58 8 u n (flV n L)) (h0 : 0 < n) (hn : n * 112 ≤ 140737488355328) (hi : ∀ i, i < n → (L i).In W ∧ (L i).Fit ∧ (L i).Keys) :
    ∃ g cap, u = .slice (some ⟨g, 0, none⟩) n cap ∧ base ≤ g ∧ Lst W (some ⟨g, 0, none⟩) n cap L := by
  obtain ⟨g, cap, rfl, hat, h1, h2, hbg⟩ := row_open h h0
  refine ⟨g, cap, rfl, hbg, ⟨h1, h2⟩, fun i hl => ⟨⟨g, 0, rfl, fun j hj => ?_⟩, (hi i hl).1⟩, ⟨by omega, fun i hl => (hi i hl).2.1⟩, fun i hl => (hi i hl).2.2⟩
  have h8 : ∀ i, i < n → (L i).cells.length = 8 := fun i hl => in_cells (hi i hl).1
  rw [h8 i hl] at hj
  have hlen := flatC_length (sz := 8) h8
  have := hat (i * 8 + j) (by rw [hlen]; omega)
  rw [Nat.zero_add] at this
  rw [Nat.zero_add, this, flatC_get h8 i hl j hj]
set_option maxRecDepth 100000 in
theorem append_row {base : Nat} {W : World} {n : Nat} {xs : List Value} {v : Value} {ops : Array Oper} {rest : List Oper} {o : Oper} {a : Act} {Q : Exit → Act → World → Prop}
    (hown : W.ownsRow base 58 8 v n xs) (hbase : base ≤ W.heap.size) (hgd : o.guard = none) (s x : Operand)
    (ho : o.op = .call { callee := .builtin .append, args := #[s, x], argTypes := #[22, 22] }) (hs : a.eval s = v) (la : Option Addr) (ll lc : Nat) (hx : a.eval x = .slice la ll lc)
    (L : Nat → V) (hV : Lst W la ll lc L) (hb : (n + ll) * 112 ≤ 140737488355328)
    (hr : ∀ v' W', W'.ownsRow base 58 8 v' (n + ll) (xs ++ flV ll L) → Below base W W' → wpList Tryz.prog ops Q rest (a.put o.dst v') W') : wpList Tryz.prog ops Q (o :: rest) a W := by
  obtain ⟨i0, hi, hz0, hz1, hz2⟩ := info_parts info_val
  by_cases hz : ll = 0
  · subst hz
    have hv : ∃ sa cap, v = .slice sa n cap ∧ n ≤ cap := by
      rcases hown.2 with ⟨e, h0⟩ | ⟨g', cap', cur, e, _, _, h1, h2, _⟩
      · exact ⟨none, 0, by rw [h0]; exact e, by omega⟩
      · exact ⟨_, _, e, h1⟩
    obtain ⟨sa, cap, rfl, hc⟩ := hv
    refine wpList_append_nothing hgd s x _ ho 58 i0 Tryz.underlying22 hi sa n cap hc hs la lc hx ?_
    refine hr _ W ?_ (Below.refl _ _ |>.mono hbase)
    show W.ownsRow base _ 8 _ (n + 0) (xs ++ flatC 8 0 _)
    rw [flatC, List.append_nil, Nat.add_zero]
    exact hown
  · obtain ⟨⟨b, o', rfl, -⟩, -⟩ := hV.els 0 (by omega)
    have h8 : ∀ i, i < ll → (L i).cells.length = 8 := fun i hi => in_cells (hV.els i hi).2
    have hat : ∀ i, i < ll → At W b (o' + i * 8) (L i).cells := fun i hi => by
      obtain ⟨⟨b2, o2, he, ha⟩, -⟩ := hV.els i hi
      simp only [Option.some.injEq, Addr.mk.injEq, and_true] at he
      obtain ⟨rfl, rfl⟩ := he
      exact ha
    refine wpList_append_own W hgd s x _ ho base 58 i0 _ 8 112 Tryz.underlying22 hi hz0 hz1 hz2 rfl (by decide) v n xs hs hown ⟨b, o', none⟩ ll lc (flV ll L) hx (flatC_length h8) (flatC_cells (by decide) h8 hat) (flatC_one (fun i => in_one (w := W))) (by unfold maxLen; omega) (by omega) hbase ?_
    intro v' w' hown' hgrow _
    exact hr v' w' hown' (Below.grown (Below.refl _ _ |>.mono hbase) hgrow hbase (fun k e => (hown.lt _ e).1))
theorem lst_one {w : World} {v : V} {T : TypeId} (h : v.In w ∧ v.Fit ∧ v.Keys) : Lst (w.alloc (.cells v.cells.toArray T)) (some ⟨w.heap.size, 0, none⟩) 1 1 (fun _ => v) :=
  lst_row (T := T) (L := fun _ => v) (n := 1) (by
    rw [show flatC 8 1 (fun _ => v.cells) = v.cells from List.nil_append _]
    exact Go.Deep.blk_alloc_new w _) (by decide) fun i hi => ⟨h.1.below (below_alloc _ _), h.2⟩
end Go.Proofs.YtnmindcofdcncaaGreatDoor.Rk
namespace Go.Proofs.YtnmindcofdcncaaGreatDoor.Rk
set_option linter.unusedVariables false
set_option linter.unusedSimpArgs false
open Go.RowKit Go.Deep Go.WideShapes
def flL (l : List V) : List Value := l.flatMap V.cells
def gV (l : List V) : Nat → V := fun i => (l[i]?).getD .leaf
theorem flL_append (l m : List V) : flL (l ++ m) = flL l ++ flL m := List.flatMap_append
theorem flV_take (l : List V) : ∀ n, n ≤ l.length → flV n (gV l) = flL (l.take n)
  | 0, _ => by rw [List.take_zero]; rfl
  | n + 1, h => by
    have h1 : n < l.length := h
    show flatC 8 n _ ++ (gV l n).cells = _
    rw [List.take_add_one, flL_append, ← flV_take l n (by omega)]
    simp [gV, flL, h1]
    rfl
theorem flV_list (l : List V) : flV l.length (gV l) = flL l := by
  rw [flV_take l _ (Nat.le_refl _), List.take_length]
theorem gV_mem {l : List V} {i : Nat} (hi : i < l.length) : gV l i ∈ l := by
  unfold gV
  rw [List.getElem?_eq_getElem hi]
  exact List.getElem_mem hi
theorem flat_all {w : World} : ∀ {v : V}, v.In w → v.Fit → v.Keys → ∀ x ∈ v.flatV, x.In w ∧ x.Fit ∧ x.Keys := by
  intro v
  induction v with
  | leaf => exact fun h => h.elim
  | mk k n s la ll lc L fa fl fc fn F e key hk ihL ihF =>
    intro h1 h2 h3 x hx
    unfold V.flatV at hx
    split at hx
    · obtain ⟨i, hi, hx⟩ := List.mem_flatMap.1 hx
      rw [List.mem_range] at hi
      exact ihL i (h1.2.2.2.2.2.2.2.1 i hi).2 (h2.2.2.1 i hi) (h3.2 i hi) x hx
    · rw [List.mem_singleton] at hx
      subst hx
      exact ⟨h1, h2, h3⟩
theorem list_all {w : World} {la : Option Addr} {ll lc : Nat} {L : Nat → V} (h : Lst w la ll lc L) (k : Nat) (hk : k ≤ ll) : ∀ x ∈ listV L k, x.In w ∧ x.Fit ∧ x.Keys := by
  intro x hx
  obtain ⟨i, hi, hx⟩ := List.mem_flatMap.1 hx
  rw [List.mem_range] at hi
  exact flat_all (h.els i (by omega)).2 (h.fit.2 i (by omega)) (h.key i (by omega)) x hx
theorem listV_le (L : Nat → V) {k n : Nat} (h : k ≤ n) : (listV L k).length ≤ (listV L n).length := by
  obtain ⟨d, rfl⟩ := Nat.exists_eq_add_of_le h
  rw [listV_split, List.length_append]
  omega
theorem lst_of {W : World} {base : Nat} {u : Value} {l : List V} (h : W.ownsRow base 58 8 u l.length (flL l)) (hn : l.length * 112 ≤ 140737488355328) (hi : ∀ x ∈ l, x.In W ∧ x.Fit ∧ x.Keys) : ∃ a cap, u = .slice a l.length cap ∧ Lst W a l.length cap (gV l) := by
  rcases Nat.eq_zero_or_pos l.length with h0 | h0
  · have e : l = [] := List.length_eq_zero_iff.1 h0
    subst e
    rcases h.2 with ⟨e, -⟩ | ⟨g, cap, cur, e, -, -, h1, h2, -⟩
    · exact ⟨none, 0, e, ⟨⟨Nat.le_refl _, by decide⟩, fun i hi => absurd hi (Nat.not_lt_zero _), ⟨by decide, fun i hi => absurd hi (Nat.not_lt_zero _)⟩, fun i hi => absurd hi (Nat.not_lt_zero _)⟩⟩
    · exact ⟨_, cap, e, ⟨⟨h1, h2⟩, fun i hi => absurd hi (Nat.not_lt_zero _), ⟨by decide, fun i hi => absurd hi (Nat.not_lt_zero _)⟩, fun i hi => absurd hi (Nat.not_lt_zero _)⟩⟩
  · rw [← flV_list] at h
    obtain ⟨g, cap, e, -, hl⟩ := lst_own h h0 hn (fun i hl => hi _ (gV_mem hl))
    exact ⟨_, cap, e, hl⟩
def FlatOk (la : Option Addr) (ll lc : Nat) (L : Nat → V) : Prop := ∀ w : World, Lst w la ll lc L → (listV L ll).length * 112 ≤ 140737488351232 → Calls Tryz.prog 19 #[.slice la ll lc] w fun e w' => ∃ u, e = .returned u ∧ w'.ownsRow w.heap.size 58 8 u (listV L ll).length (flL (listV L ll)) ∧ Below w.heap.size w w'
def FlatIs : V → Prop
  | .leaf => True
  | .mk _ _ _ la ll lc L _ _ _ _ _ _ _ _ => FlatOk la ll lc L
set_option maxRecDepth 100000 in
set_option maxHeartbeats 4000000 in
theorem flat_list (la : Option Addr) (ll lc : Nat) (L : Nat → V) (hv : ∀ i, i < ll → FlatIs (L i)) : FlatOk la ll lc L := by
  intro w h hb
  have H := Lib.hid h
  have H2 := Lib.hid hv
  have HB := Lib.hid hb
  have hcap := h.cap
  unfold maxLen at hcap
  clear h hv hb
  go_enter Tryz.func19, Tryz.ntmps19
  go_wp2_with fail
  go_loopw [3, 4] (fun o i wr => ∃ k : Nat, k ≤ ll ∧ i = .int .i64 k ∧ wr.ownsRow w.heap.size 58 8 o (listV L k).length (flL (listV L k)) ∧ Below w.heap.size w wr) (fun _ i _ => ll - (intOf i).toNat)
  case atStart => exact ⟨0, Nat.zero_le _, rfl, World.ownsRow_nil _ _ _ _, Below.refl _ _⟩
  case round =>
    rename_i o i
    obtain ⟨k, hk, rfl, hown, hlow⟩ := hrel
    by_cases hlt : k < ll
    · obtain ⟨⟨b, of, rfl, hat⟩, hin⟩ := H.out.els k hlt
      have hfit := H.out.fit.2 k hlt
      have hkey := H.out.key k hlt
      have hat := At.below hlow hat
      have HS : Hid (listV L (k + 1) = listV L k ++ (L k).flatV) := listV_succ L k
      have HLE : Hid ((listV L (k + 1)).length * 112 ≤ 140737488351232) := Nat.le_trans (Nat.mul_le_mul_right _ (listV_le L hlt)) HB.out
      have hfl := H2.out k hlt
      generalize L k = v at hat hin hfit hkey HS hfl
      cases v with
      | leaf => exact hin.elim
      | mk k2 n2 s2 la2 ll2 lc2 L2 fa2 fl2 fc2 fn2 F2 e2 key2 hk2 =>
      obtain ⟨c0, c1, c2, c3, c4, c5, c6, c7⟩ := at8 hat
      have HV := Lib.hid (And.intro hin (And.intro hfit hkey))
      have hrg := hin.1
      have HP := Lib.hid (And.intro hown hlow)
      have hlt' : (k : Int) < (ll : Int) := by omega
      have hk0 : (0 : Int) ≤ (k : Int) := by omega
      by_cases h4 : k2 = 4
      · subst h4
        have hlst : Lst w la2 ll2 lc2 L2 := ⟨hin.2.2.2.2.2.1, hin.2.2.2.2.2.2.2.1, ⟨hfit.1, hfit.2.2.1⟩, hkey.2⟩
        have e4 : (V.mk 4 n2 s2 la2 ll2 lc2 L2 fa2 fl2 fc2 fn2 F2 e2 key2 hk2).flatV = listV L2 ll2 := by unfold V.flatV; rw [if_pos rfl]; rfl
        rw [e4] at HS
        have hlen : (listV L (k + 1)).length = (listV L k).length + (listV L2 ll2).length := by rw [HS.out, List.length_append]
        have HLE2 := HLE.out
        rw [hlen] at HLE2
        have HC := Lib.hid (hfl wr (hlst.below hlow) (by omega))
        have HA := Lib.hid (list_all hlst ll2 (Nat.le_refl _))
        have HN : Hid (((listV L k).length + (listV L2 ll2).length) * 112 ≤ 140737488355328) := Lib.hid (by omega)
        clear hat hin hfit hkey hown hfl hlow hlst e4 HLE2 hlen
        go_wp2_with (first
          | (go_at_call 19; (with_reducible refine HC.out.mono ?_); rintro x w1 ⟨u2, rfl, hown2, hlow2⟩; obtain ⟨a2, cp2, rfl, hl2⟩ := lst_of hown2 (by have := HN.out; omega) (fun x hx => let q := HA.out x hx; ⟨(q.1.below HP.out.2).below hlow2, q.2⟩); have H1 := Lib.hid (And.intro (ownsRow_below HP.out.1 hlow2) (And.intro (HP.out.2.trans (hlow2.mono HP.out.2.size)) hl2)); clear hown2 hlow2 hl2)
          | (at_builtin; refine append_row H1.out.1 H1.out.2.1.size rfl _ _ rfl rfl a2 (listV L2 ll2).length cp2 rfl _ H1.out.2.2 HN.out ?_; intro u3 w3 hown3 hlow3; rw [flV_list, ← flL_append, ← List.length_append, ← HS.out] at hown3; have H3 := Lib.hid (And.intro hown3 (H1.out.2.1.trans hlow3)); clear hown3 hlow3))
        refine ⟨⟨k + 1, hlt, by go_num, H3.out.1, H3.out.2⟩, by simp [intOf]; omega⟩
      · have e4 : (V.mk k2 n2 s2 la2 ll2 lc2 L2 fa2 fl2 fc2 fn2 F2 e2 key2 hk2).flatV = [V.mk k2 n2 s2 la2 ll2 lc2 L2 fa2 fl2 fc2 fn2 F2 e2 key2 hk2] := by unfold V.flatV; rw [if_neg h4]
        rw [e4] at HS
        have hlen : (listV L (k + 1)).length = (listV L k).length + 1 := by rw [HS.out, List.length_append]; rfl
        have HLE2 := HLE.out
        rw [hlen] at HLE2
        have HN : Hid (((listV L k).length + 1) * 112 ≤ 140737488355328) := Lib.hid (by omega)
        have hd4 : decide (k2 = 4) = false := decide_eq_false h4
        have hb4 : (k2 == 4) = false := by rw [beq_eq_false_iff_ne]; exact h4
        have HO := Lib.hid (lst_one (T := 58) (w := wr) (v := V.mk k2 n2 s2 la2 ll2 lc2 L2 fa2 fl2 fc2 fn2 F2 e2 key2 hk2) ⟨hin.below hlow, hfit, hkey⟩)
        clear hat hin hfit hkey hown hfl hlow e4 HLE2
        go_wp2_with (at_builtin; refine append_row (HP.out.1.alloc _) (by have := HP.out.2.size; simp; omega) rfl _ _ rfl rfl (some ⟨wr.heap.size, 0, none⟩) 1 1 rfl _ (lst_one (v := V.mk k2 n2 s2 la2 ll2 lc2 L2 fa2 fl2 fc2 fn2 F2 e2 key2 hk2) ⟨HV.out.1.below HP.out.2, HV.out.2⟩) HN.out ?_; intro u3 w3 hown3 hlow3; have H3 := Lib.hid (show w3.ownsRow w.heap.size 58 8 u3 (listV L (k + 1)).length (flL (listV L (k + 1))) ∧ Below w.heap.size w w3 from ⟨by rw [hlen, HS.out, flL_append]; exact hown3, (HP.out.2.alloc HP.out.2.size _).trans hlow3⟩); clear hown3 hlow3)
        refine ⟨⟨k + 1, hlt, by go_num, H3.out.1, H3.out.2⟩, by simp [intOf]; omega⟩
    · obtain rfl : k = ll := by omega
      have HP := Lib.hid (And.intro hown hlow)
      clear hown hlow
      go_wp2_with fail
      go_ret
      exact ⟨_, rfl, HP.out.1, HP.out.2⟩
theorem flat_is : ∀ v : V, FlatIs v := by
  intro v
  induction v with
  | leaf => trivial
  | mk k n s la ll lc L fa fl fc fn F e key hk ihL ihF => exact flat_list la ll lc L (fun i _ => ihL i)
theorem flat_rf (la : Option Addr) (ll lc : Nat) (L : Nat → V) : FlatOk la ll lc L := flat_list la ll lc L (fun i _ => flat_is _)
end Go.Proofs.YtnmindcofdcncaaGreatDoor.Rk
namespace Go.Proofs.YtnmindcofdcncaaGreatDoor.Rk
set_option linter.unusedVariables false
set_option linter.unusedSimpArgs false
open Go.RowKit
open Go.Deep Go.WideShapes
open Bk hiding ownsRow_below
theorem dig_toNat {i : Nat} (h : i < 10) : (UInt8.ofNat (48 + i)).toNat = 48 + i := by
  rw [UInt8.toNat_ofNat']; omega
theorem info_u8 : (Tryz.prog.info? 5).map (fun i => (i.zero, i.size, i.bytes)) = some (some (.int .u8 0), 1, 1) := by kernel_rfl
structure BL (w0 : World) (l : List UInt8) (v : Value) (n : Nat) (W : World) : Prop where
  len : n = l.length
  own : W.ownsRow w0.heap.size 5 1 v n (Lib.byteCells l)
  low : Below w0.heap.size w0 W
theorem BL.start (w : World) : BL w [] (.slice none 0 0) 0 w := ⟨rfl, World.ownsRow_nil _ _ _ _, Below.refl _ _⟩
theorem bytes_one {l : List UInt8} : ∀ u ∈ Lib.byteCells l, u.oneCell' = true := by
  intro u hu
  obtain ⟨_, _, rfl⟩ := List.mem_map.1 hu
  rfl
theorem append_B {w0 : World} {l : List UInt8} {v : Value} {n : Nat} {W : World} {ops : Array Oper} {rest : List Oper} {o : Oper} {a : Act} {Q : Exit → Act → World → Prop} (h : BL w0 l v n W) (hgd : o.guard = none) (s x : Operand)
    (ho : o.op = .call { callee := .builtin .append, args := #[s, x], argTypes := #[91, 91] }) (hs : a.eval s = v) (r : List UInt8) (m : Nat) (cs : List Value) (T : TypeId) (hx : a.eval x = .slice (some ⟨W.heap.size, 0, none⟩) m m)
    (hm : m = r.length) (hm0 : 0 < m) (hcs : cs = Lib.byteCells r) (hb : n + m ≤ 70368744177664)
    (hr : ∀ g cap W', BL w0 (l ++ r) (.slice (some ⟨g, 0, none⟩) (n + m) cap) (n + m) W' → wpList Tryz.prog ops Q rest (a.put o.dst (.slice (some ⟨g, 0, none⟩) (n + m) cap)) W') : wpList Tryz.prog ops Q (o :: rest) a (W.alloc (.cells cs.toArray T)) := by
  subst hcs hm
  obtain ⟨i0, hi, hz0, hz1, hz2⟩ := info_parts info_u8
  have hnew : ∀ j u, (Lib.byteCells r)[j]? = some u → (W.alloc (.cells (Lib.byteCells r).toArray T)).cell? ((⟨W.heap.size, 0, none⟩ : Addr).add j) = some u := new_cells
  refine wpList_append_own _ hgd s x _ ho w0.heap.size 5 i0 (.int .u8 0) 1 1 Tryz.underlying91 hi hz0 hz1 hz2 rfl (by decide) v n _ hs (h.own.alloc _) ⟨W.heap.size, 0, none⟩ r.length r.length (Lib.byteCells r) hx (by rw [Lib.byteCells_length, Nat.mul_one]) hnew bytes_one (by unfold maxLen; omega) (by omega) (by have := h.low.size; simp; omega) ?_
  intro v' w' hown hgrow _
  have hg2 : W.grownBy w' v.ownBlock := grown_trans (World.grownBy_alloc W _ _) hgrow
  have hlow := h.low.grown hg2 h.low.size (fun k e => by have := (h.own.lt _ e).1; omega)
  rcases hown.2 with ⟨_, h0⟩ | ⟨g, cap, cur, e, _⟩
  · omega
  · subst e
    refine hr g cap w' ⟨by rw [h.len, List.length_append], ?_, hlow⟩
    rw [Lib.byteCells_append]
    exact hown
def dgB (i : Nat) : UInt8 := UInt8.ofNat (48 + i)
def DgAt (U q : Nat) (l : List UInt8) : Prop := Lib.decDigits U = Lib.decDigits q ++ l.reverse
theorem dg_step {U q : Nat} {l : List UInt8} (h : DgAt U q l) (hq : ¬ q < 10) : DgAt U (q / 10) (l ++ [dgB (q % 10)]) := by
  unfold DgAt at *
  rw [h, Lib.decDigits, dif_neg hq]
  simp [dgB]
theorem dg_end {U q : Nat} {l : List UInt8} (h : DgAt U q l) (hq : q < 10) : (l ++ [dgB q]).reverse = Lib.decDigits U := by
  unfold DgAt at h
  rw [h, Lib.decDigits_one hq]
  simp [dgB]
theorem dg_byte {i : Nat} (h : i < 10) : [Value.int .u8 (48 + (i : Int))] = Lib.byteCells [dgB i] := by
  simp only [Lib.byteCells, List.map_cons, List.map_nil, dgB, dig_toNat h]
  congr 2
theorem dec_len : ∀ (k u : Nat), u < 10 ^ (k + 1) → (Lib.decDigits u).length ≤ k + 1 := by
  intro k
  induction k with
  | zero => intro u h; rw [Lib.decDigits_one (by simpa using h)]; simp
  | succ k ih =>
    intro u h
    by_cases h10 : u < 10
    · rw [Lib.decDigits_one h10]; simp
    · rw [Lib.decDigits, dif_neg h10, List.length_append]
      have := ih (u / 10) (by rw [Nat.pow_succ] at h; omega)
      simp only [List.length_cons, List.length_nil]; omega
theorem dg_len {U q : Nat} {l : List UInt8} (h : DgAt U q l) (hU : U ≤ 9223372036854775808) : l.length ≤ 19 := by
  have h1 := dec_len 18 U (by omega)
  unfold DgAt at h
  rw [h] at h1
  simp at h1
  omega
theorem dg_mod (q : Nat) : [Value.int .u8 (48 + (q : Int) % 10)] = Lib.byteCells [dgB (q % 10)] := by
  rw [← dg_byte (i := q % 10) (by omega)]
  congr 2
def revAt (l : List UInt8) (i k : Nat) : Int := if k < i ∨ l.length < k + 1 + i then ((l.getD (l.length - 1 - k) 0).toNat : Int) else ((l.getD k 0).toNat : Int)
structure RV (w0 : World) (l : List UInt8) (g i : Nat) (W : World) : Prop where
  low : Below w0.heap.size w0 W
  cell : ∀ k, k < l.length → W.cell? ⟨g, k, none⟩ = some (.int .u8 (revAt l i k))
  thaw : ∀ k, W.frozen? ⟨g, k, none⟩ = false
  gb : w0.heap.size ≤ g
theorem RV.start {w0 : World} {l : List UInt8} {g n cap : Nat} {W : World} (h : BL w0 l (.slice (some ⟨g, 0, none⟩) n cap) n W) : RV w0 l g 0 W := by
  have hc := h.own.cells (g := g) rfl
  rcases h.own.2 with ⟨h0, _⟩ | ⟨g', cap', cur, e, hb, hh, _⟩
  · cases h0
  · cases e
    refine ⟨h.low, fun k hk => ?_, fun k => Lib.frozen_of_heap hh k, hb⟩
    have := hc k (.int .u8 (l[k].toNat : Int)) (by simp [Lib.byteCells, hk])
    rw [add_plain, Nat.zero_add] at this
    rw [this, revAt, if_neg (by omega), List.getD_eq_getElem?_getD, List.getElem?_eq_getElem hk]
    rfl
theorem RV.next {w0 : World} {l : List UInt8} {g i j : Nat} {W : World} (h : RV w0 l g i W) (hl : l.length = i + j + 1) (hij : i < j) :
    RV w0 l g (i + 1) ((W.setCell ⟨g, i, none⟩ (.int .u8 (revAt l i j))).setCell ⟨g, j, none⟩ (.int .u8 (revAt l i i))) := by
  have hgl : w0.heap.size ≤ g := h.gb
  refine ⟨(h.low.setCell (p := ⟨g, i, none⟩) hgl _).setCell (p := ⟨g, j, none⟩) hgl _, fun k hk => ?_, fun k => ?_, h.gb⟩
  · by_cases h1 : k = j
    · subst h1
      rw [World.cell?_setCell_same _ _ _ (show (W.setCell ⟨g, i, none⟩ (.int .u8 (revAt l i k))).cell? ⟨g, k, none⟩ = some (.int .u8 (revAt l i k)) by rw [World.cell?_setCell_other _ _ _ _ (fun e => by have := congrArg (fun a : Addr => a.off) e; simp at this; omega)]; exact h.cell k hk)]
      congr 2
      rw [revAt, revAt, if_neg (by omega), if_pos (by omega)]
      congr 2
      rw [hl]; congr 1; omega
    · rw [World.cell?_setCell_other _ _ _ _ (fun e => by have := congrArg (fun a : Addr => a.off) e; simp at this; omega)]
      by_cases h2 : k = i
      · subst h2
        rw [World.cell?_setCell_same _ _ _ (h.cell k hk)]
        congr 2
        rw [revAt, revAt, if_neg (by omega), if_pos (by omega)]
        congr 2
        rw [hl]; congr 1; omega
      · rw [World.cell?_setCell_other _ _ _ _ (fun e => by have := congrArg (fun a : Addr => a.off) e; simp at this; omega), h.cell k hk]
        congr 2
        unfold revAt
        by_cases h3 : k < i ∨ l.length < k + 1 + i
        · rw [if_pos h3, if_pos (by omega)]
        · rw [if_neg h3, if_neg (by omega)]
  · rw [World.frozen?_setCell, World.frozen?_setCell, h.thaw]
theorem RV.done {w0 : World} {l : List UInt8} {g i cap : Nat} {W : World} (h : RV w0 l g i W) (hl : l.length ≤ 2 * i + 1) :
    (convert 91 9 (.slice (some ⟨g, 0, none⟩) l.length cap)).run Tryz.prog W = .ok (.string ⟨l.reverse.toArray⟩) W := by
  have e : l.length = l.reverse.length := by simp
  rw [e]
  refine run_convert_bytes_back W 91 9 5 ⟨g, 0, none⟩ cap l.reverse Tryz.underlying91 Tryz.underlying5 Tryz.underlying9 (fun j hj => ?_)
  rw [add_plain, Nat.zero_add]
  have hj2 : j < l.length := by simpa using hj
  rw [h.cell j hj2, List.getElem_reverse]
  congr 2
  unfold revAt
  by_cases h3 : j < i ∨ l.length < j + 1 + i
  · rw [if_pos h3, List.getD_eq_getElem?_getD, List.getElem?_eq_getElem (by omega)]
    rfl
  · rw [if_neg h3, List.getD_eq_getElem?_getD, List.getElem?_eq_getElem hj2]
    have : l.length - 1 - j = j := by omega
    simp [this]
structure Abs (n X : Int) (U : Nat) : Prop where
  conv : IntKind.u64.wrap n = X
  pos : 0 ≤ n → X = (U : Int)
  neg : n < 0 → IntKind.u64.wrap (-X) = (U : Int)
theorem abs_of (n : Int) (h : -9223372036854775808 ≤ n ∧ n ≤ 9223372036854775807) : ∃ X, Abs n X n.natAbs := by
  refine ⟨_, rfl, fun h0 => ?_, fun h0 => ?_⟩
  · show IntKind.u64.wrap n = _
    simp [IntKind.wrap, IntKind.bits, IntKind.signed]
    omega
  · show IntKind.u64.wrap (-(IntKind.u64.wrap n)) = _
    simp [IntKind.wrap, IntKind.bits, IntKind.signed]
    omega
theorem append_B2 {w0 : World} {l : List UInt8} {v : Value} {n : Nat} {W : World} {ops : Array Oper} {rest : List Oper} {o : Oper} {a : Act} {Q : Exit → Act → World → Prop} (h : BL w0 l v n W) (hgd : o.guard = none) (s x : Operand)
    (ho : o.op = .call { callee := .builtin .append, args := #[s, x], argTypes := #[91, 91] }) (hs : a.eval s = v) (r : List UInt8) (m : Nat) (cs : List Value) (T : TypeId) (hx : a.eval x = .slice (some ⟨W.heap.size, 0, none⟩) m m)
    (hm : m = r.length) (hm0 : 0 < m) (hcs : cs = Lib.byteCells r) (hb : n + m ≤ 70368744177664) (l2 : List UInt8) (n2 : Nat) (hl2 : Hid (l ++ r = l2)) (hn2 : Hid (n + m = n2))
    (hr : ∀ g cap W', BL w0 l2 (.slice (some ⟨g, 0, none⟩) n2 cap) n2 W' → wpList Tryz.prog ops Q rest (a.put o.dst (.slice (some ⟨g, 0, none⟩) n2 cap)) W') : wpList Tryz.prog ops Q (o :: rest) a (W.alloc (.cells cs.toArray T)) := by
  have e1 := hl2.out
  have e2 := hn2.out
  subst e1 e2
  exact append_B h hgd s x ho hs r m cs T hx hm hm0 hcs hb hr
set_option maxRecDepth 100000 in
set_option maxHeartbeats 4000000 in
theorem rdigits_any (n : Int) (w : World) (hn : -9223372036854775808 ≤ n ∧ n ≤ 9223372036854775807) :
    Calls Tryz.prog 21 #[.int .i64 n] w fun e w' => e = .returned (.string ⟨(Lib.itoa n).toArray⟩) ∧ Below w.heap.size w w' := by
  obtain ⟨X, HX⟩ := abs_of n hn
  have HST := Lib.hid (BL.start w)
  have HU : n.natAbs ≤ 9223372036854775808 := by omega
  obtain ⟨U, hUE⟩ : ∃ U, n.natAbs = U := ⟨_, rfl⟩
  have HUE := Lib.hid hUE
  rw [hUE] at HX HU
  clear hUE
  have HUH := Lib.hid HU
  have hc := HX.conv
  have HP := Lib.hid HX.pos
  have HN := Lib.hid HX.neg
  clear HX HU hn
  by_cases h0 : n < 0
  · have hsub := HN.out h0
    have HAB := Lib.hid (show Lib.itoa n = 45 :: Lib.decDigits U by rw [Lib.itoa, if_pos h0, HUE.out])
    clear HP HN
    go_enter Tryz.func21, Tryz.ntmps21
    go_wp2_with fail
    go_loopw [3, 4] (fun m v wr => ∃ (q nn : Nat) (l : List UInt8), m = .int .u64 q ∧ q ≤ 9223372036854775808 ∧ DgAt U q l ∧ BL w l v nn wr) (fun m _ _ => (intOf m).toNat)
    case atStart => exact ⟨U, 0, [], rfl, HUH.out, by simp [DgAt], HST.out⟩
    case round =>
      obtain ⟨q, nn, l, rfl, hq, hdg, hbl⟩ := hrel
      have HB := Lib.hid hbl
      have HD := Lib.hid hdg
      have hnn : nn ≤ 20 := by have h1 := hbl.len; have h2 := dg_len hdg HUH.out; omega
      clear hbl hdg
      have g0 : (0 : Int) ≤ (q : Int) := by omega
      by_cases hlt : q < 10
      · have g1 : (q : Int) ≤ 9 := by omega
        have HE := Lib.hid (dg_end HD.out hlt)
        obtain ⟨l1, hl1⟩ : ∃ x, l ++ [dgB q] = x := ⟨_, rfl⟩
        obtain ⟨lst, hl2⟩ : ∃ x, l1 ++ [45] = x := ⟨_, rfl⟩
        obtain ⟨n1, hn1⟩ : ∃ x, nn + 1 = x := ⟨_, rfl⟩
        obtain ⟨N, hN⟩ : ∃ x, n1 + 1 = x := ⟨_, rfl⟩
        have hN2 : 1 ≤ N ∧ N ≤ 22 := by omega
        have hN3 : n1 ≤ 21 := by omega
        have HI : Hid (lst.reverse = Lib.itoa n) := by rw [← hl2, ← hl1, List.reverse_append, HE.out, HAB.out]; rfl
        have E1 := Lib.hid hl1
        have E2 := Lib.hid hl2
        have E3 := Lib.hid hn1
        have E4 := Lib.hid hN
        clear hl1 hl2 hn1 hN
        go_wp2_with (at_builtin; refine append_B2 HB.out rfl _ _ rfl rfl [dgB q] 1 _ _ rfl rfl (by omega) (dg_byte hlt) (by omega) l1 n1 E1 E3 ?_)
        intro g1' cap1 W1 hBL1
        have HB1 := Lib.hid hBL1
        clear hBL1
        go_wp2_with (at_builtin; refine append_B2 HB1.out rfl _ _ rfl rfl [45] 1 _ _ rfl rfl (by omega) rfl (by omega) lst N E2 E4 ?_)
        intro g cap W2 hBL
        obtain ⟨N1, hN1⟩ : ∃ N1, N = N1 + 1 := ⟨N - 1, by omega⟩
        have hlen := hBL.len
        rw [hN1] at hlen
        have HV := Lib.hid (RV.start hBL)
        have HLN := Lib.hid hlen
        have hN22 : N1 ≤ 25 := by omega
        clear hBL hlen
        subst hN1
        go_wp2_with fail
        go_loopw [5, 6] (fun i _ W => ∃ i0 : Nat, i = .int .i64 i0 ∧ 2 * i0 ≤ N1 + 1 ∧ RV w lst g i0 W) (fun i _ _ => N1 + 1 - (intOf i).toNat)
        case atStart => exact ⟨0, rfl, by omega, HV.out⟩
        case round =>
          obtain ⟨i0, rfl, hi0, hrv⟩ := hrel
          have HRV := Lib.hid hrv
          clear hrv
          have g1 : (0 : Int) ≤ (i0 : Int) := by omega
          have g2 : IntKind.i64.wrap (N1 : Int) = (N1 : Int) := IntWalk.i64_in _ (by omega)
          have g3 : IntKind.i64.wrap (2 * (i0 : Int)) = 2 * (i0 : Int) := IntWalk.i64_in _ (by omega)
          by_cases hlt : 2 * i0 < N1
          · obtain ⟨j0, rfl⟩ : ∃ j0, N1 = i0 + j0 := ⟨N1 - i0, by omega⟩
            have hij : i0 < j0 := by omega
            have hL : (lst).length = i0 + j0 + 1 := HLN.out.symm
            have p0 := HRV.out.cell i0 (by omega)
            have p1 := HRV.out.cell j0 (by omega)
            have f0 := HRV.out.thaw i0
            have f1 := HRV.out.thaw j0
            have p2 : ∀ v, (wr.setCell ⟨g, i0, none⟩ v).cell? ⟨g, j0, none⟩ = some (.int .u8 (revAt (lst) i0 j0)) := fun v => by
              rw [World.cell?_setCell_other _ _ _ _ (fun e => by have := congrArg (fun a : Addr => a.off) e; simp at this; omega)]; exact p1
            have f2 : ∀ v, (wr.setCell ⟨g, i0, none⟩ v).frozen? ⟨g, j0, none⟩ = false := fun v => by rw [World.frozen?_setCell]; exact f1
            have HN := Lib.hid (RV.next HRV.out hL hij)
            generalize revAt (lst) i0 i0 = x0 at p0 HN
            generalize revAt (lst) i0 j0 = x1 at p1 p2 HN
            have g4 : IntKind.i64.wrap ((i0 : Int) + (j0 : Int) - (i0 : Int)) = (j0 : Int) := by rw [show (i0 : Int) + (j0 : Int) - (i0 : Int) = (j0 : Int) by omega]; exact IntWalk.i64_in _ (by omega)
            have g5 : IntKind.i64.wrap (j0 : Int) = (j0 : Int) := IntWalk.i64_in _ (by omega)
            have g6 : (2 * (i0 : Int)) < (i0 : Int) + (j0 : Int) := by omega
            have g7 : (i0 : Int) < (i0 : Int) + (j0 : Int) + 1 := by omega
            have g8 : (j0 : Int) < (i0 : Int) + (j0 : Int) + 1 := by omega
            clear hL
            go_wp2_with fail
            go_roundw
            case rel => exact ⟨i0 + 1, by go_num, by omega, HN.out⟩
            case measure => simp [intOf]; omega
          · have kc : (convert 91 9 (.slice (some ⟨g, 0, none⟩) (N1 + 1) cap)).run Tryz.prog wr = .ok (.string ⟨(Lib.itoa n).toArray⟩) wr := by
              rw [HLN.out, ← HI.out]
              exact RV.done HRV.out (by have := HLN.out; omega)
            have g4 : ¬ (2 * (i0 : Int)) < (N1 : Int) := by omega
            have HLW := Lib.hid HRV.out.low
            go_wp2_with fail
            go_ret
            exact ⟨rfl, HLW.out⟩
      · have g1 : (9 : Int) < (q : Int) := by omega
        obtain ⟨l1, hl1⟩ : ∃ x, l ++ [dgB (q % 10)] = x := ⟨_, rfl⟩
        obtain ⟨n1, hn1⟩ : ∃ x, nn + 1 = x := ⟨_, rfl⟩
        have HD1 : Hid (DgAt U (q / 10) l1) := by rw [← hl1]; exact dg_step HD.out hlt
        have E1 := Lib.hid hl1
        have E3 := Lib.hid hn1
        clear hl1 hn1
        go_wp2_with (at_builtin; refine append_B2 HB.out rfl _ _ rfl rfl [dgB (q % 10)] 1 _ _ rfl rfl (by omega) (dg_mod q) (by omega) l1 n1 E1 E3 ?_)
        intro g1 cap1 W1 hBL1
        have HB1 := Lib.hid hBL1
        clear hBL1
        go_wp2_with fail
        go_roundw
        case rel => exact ⟨q / 10, _, _, by go_num, by omega, HD1.out, HB1.out⟩
        case measure => simp [intOf]; omega
  · obtain rfl := HP.out (by omega)
    have HAB := Lib.hid (show Lib.itoa n = Lib.decDigits U by rw [Lib.itoa, if_neg h0, ← HUE.out]; congr 1; omega)
    clear HP HN
    go_enter Tryz.func21, Tryz.ntmps21
    go_wp2_with fail
    go_loopw [3, 4] (fun m v wr => ∃ (q nn : Nat) (l : List UInt8), m = .int .u64 q ∧ q ≤ 9223372036854775808 ∧ DgAt U q l ∧ BL w l v nn wr) (fun m _ _ => (intOf m).toNat)
    case atStart => exact ⟨U, 0, [], rfl, HUH.out, by simp [DgAt], HST.out⟩
    case round =>
      obtain ⟨q, nn, l, rfl, hq, hdg, hbl⟩ := hrel
      have HB := Lib.hid hbl
      have HD := Lib.hid hdg
      have hnn : nn ≤ 20 := by have h1 := hbl.len; have h2 := dg_len hdg HUH.out; omega
      clear hbl hdg
      have g0 : (0 : Int) ≤ (q : Int) := by omega
      by_cases hlt : q < 10
      · have g1 : (q : Int) ≤ 9 := by omega
        have HE := Lib.hid (dg_end HD.out hlt)
        obtain ⟨lst, hl1⟩ : ∃ x, l ++ [dgB q] = x := ⟨_, rfl⟩
        obtain ⟨N, hN⟩ : ∃ x, nn + 1 = x := ⟨_, rfl⟩
        have hN2 : 1 ≤ N ∧ N ≤ 22 := by omega
        have HI := Lib.hid (show lst.reverse = Lib.itoa n by rw [← hl1, HE.out, HAB.out])
        have E1 := Lib.hid hl1
        have E3 := Lib.hid hN
        clear hl1 hN
        go_wp2_with (at_builtin; refine append_B2 HB.out rfl _ _ rfl rfl [dgB q] 1 _ _ rfl rfl (by omega) (dg_byte hlt) (by omega) lst N E1 E3 ?_)
        intro g cap W2 hBL
        obtain ⟨N1, hN1⟩ : ∃ N1, N = N1 + 1 := ⟨N - 1, by omega⟩
        have hlen := hBL.len
        rw [hN1] at hlen
        have HV := Lib.hid (RV.start hBL)
        have HLN := Lib.hid hlen
        have hN22 : N1 ≤ 25 := by omega
        clear hBL hlen
        subst hN1
        go_wp2_with fail
        go_loopw [5, 6] (fun i _ W => ∃ i0 : Nat, i = .int .i64 i0 ∧ 2 * i0 ≤ N1 + 1 ∧ RV w lst g i0 W) (fun i _ _ => N1 + 1 - (intOf i).toNat)
        case atStart => exact ⟨0, rfl, by omega, HV.out⟩
        case round =>
          obtain ⟨i0, rfl, hi0, hrv⟩ := hrel
          have HRV := Lib.hid hrv
          clear hrv
          have g1 : (0 : Int) ≤ (i0 : Int) := by omega
          have g2 : IntKind.i64.wrap (N1 : Int) = (N1 : Int) := IntWalk.i64_in _ (by omega)
          have g3 : IntKind.i64.wrap (2 * (i0 : Int)) = 2 * (i0 : Int) := IntWalk.i64_in _ (by omega)
          by_cases hlt : 2 * i0 < N1
          · obtain ⟨j0, rfl⟩ : ∃ j0, N1 = i0 + j0 := ⟨N1 - i0, by omega⟩
            have hij : i0 < j0 := by omega
            have hL : (lst).length = i0 + j0 + 1 := HLN.out.symm
            have p0 := HRV.out.cell i0 (by omega)
            have p1 := HRV.out.cell j0 (by omega)
            have f0 := HRV.out.thaw i0
            have f1 := HRV.out.thaw j0
            have p2 : ∀ v, (wr.setCell ⟨g, i0, none⟩ v).cell? ⟨g, j0, none⟩ = some (.int .u8 (revAt (lst) i0 j0)) := fun v => by
              rw [World.cell?_setCell_other _ _ _ _ (fun e => by have := congrArg (fun a : Addr => a.off) e; simp at this; omega)]; exact p1
            have f2 : ∀ v, (wr.setCell ⟨g, i0, none⟩ v).frozen? ⟨g, j0, none⟩ = false := fun v => by rw [World.frozen?_setCell]; exact f1
            have HN := Lib.hid (RV.next HRV.out hL hij)
            generalize revAt (lst) i0 i0 = x0 at p0 HN
            generalize revAt (lst) i0 j0 = x1 at p1 p2 HN
            have g4 : IntKind.i64.wrap ((i0 : Int) + (j0 : Int) - (i0 : Int)) = (j0 : Int) := by rw [show (i0 : Int) + (j0 : Int) - (i0 : Int) = (j0 : Int) by omega]; exact IntWalk.i64_in _ (by omega)
            have g5 : IntKind.i64.wrap (j0 : Int) = (j0 : Int) := IntWalk.i64_in _ (by omega)
            have g6 : (2 * (i0 : Int)) < (i0 : Int) + (j0 : Int) := by omega
            have g7 : (i0 : Int) < (i0 : Int) + (j0 : Int) + 1 := by omega
            have g8 : (j0 : Int) < (i0 : Int) + (j0 : Int) + 1 := by omega
            clear hL
            go_wp2_with fail
            go_roundw
            case rel => exact ⟨i0 + 1, by go_num, by omega, HN.out⟩
            case measure => simp [intOf]; omega
          · have kc : (convert 91 9 (.slice (some ⟨g, 0, none⟩) (N1 + 1) cap)).run Tryz.prog wr = .ok (.string ⟨(Lib.itoa n).toArray⟩) wr := by
              rw [HLN.out, ← HI.out]
              exact RV.done HRV.out (by have := HLN.out; omega)
            have g4 : ¬ (2 * (i0 : Int)) < (N1 : Int) := by omega
            have HLW := Lib.hid HRV.out.low
            go_wp2_with fail
            go_ret
            exact ⟨rfl, HLW.out⟩
      · have g1 : (9 : Int) < (q : Int) := by omega
        obtain ⟨l1, hl1⟩ : ∃ x, l ++ [dgB (q % 10)] = x := ⟨_, rfl⟩
        obtain ⟨n1, hn1⟩ : ∃ x, nn + 1 = x := ⟨_, rfl⟩
        have HD1 : Hid (DgAt U (q / 10) l1) := by rw [← hl1]; exact dg_step HD.out hlt
        have E1 := Lib.hid hl1
        have E3 := Lib.hid hn1
        clear hl1 hn1
        go_wp2_with (at_builtin; refine append_B2 HB.out rfl _ _ rfl rfl [dgB (q % 10)] 1 _ _ rfl rfl (by omega) (dg_mod q) (by omega) l1 n1 E1 E3 ?_)
        intro g1 cap1 W1 hBL1
        have HB1 := Lib.hid hBL1
        clear hBL1
        go_wp2_with fail
        go_roundw
        case rel => exact ⟨q / 10, _, _, by go_num, by omega, HD1.out, HB1.out⟩
        case measure => simp [intOf]; omega
end Go.Proofs.YtnmindcofdcncaaGreatDoor.Rk
namespace Go.Proofs.YtnmindcofdcncaaGreatDoor.Rk
set_option linter.unusedVariables false
set_option linter.unusedSimpArgs false
open Go.RowKit Go.Deep Go.WideShapes
def ChildPost (w : World) (v : V) (x : Ending) (w' : World) : Prop := x = .returned (.tuple #[(v.kid.getD nc).agg, .bool v.kid.isSome]) ∧ Below w.heap.size w w'
set_option maxRecDepth 100000 in
set_option maxHeartbeats 8000000 in
theorem rchild_any (v : V) (w : World) (h : v.In w) : Calls Tryz.prog 20 #[v.agg] w (ChildPost w v) := by
  cases v with
  | leaf => exact h.elim
  | mk k n s la ll lc L fa fl fc fn F e key hk =>
  have hrg := h.1
  have hn := h.2.1
  have he := h.2.2.2.1
  have hlo : Below w.heap.size w ((w.alloc (.cells #[.int .u8 k, .int .i64 n, .string s, .slice la ll lc, .slice fa fl fc, .int .u8 e, .string key, .bool hk] 58)).alloc (.cells #[.string ⟨#[]⟩, .int .u8 0, .string ⟨#[]⟩, .int .u8 0, .int .i64 0, .string ⟨#[]⟩, .slice none 0 0, .slice none 0 0, .int .u8 0, .string ⟨#[]⟩, .bool false] 70)) := (below_alloc w _).alloc (by simp) _
  have HC : Hid (∀ W, Below ((w.alloc (.cells #[.int .u8 k, .int .i64 n, .string s, .slice la ll lc, .slice fa fl fc, .int .u8 e, .string key, .bool hk] 58)).alloc (.cells #[.string ⟨#[]⟩, .int .u8 0, .string ⟨#[]⟩, .int .u8 0, .int .i64 0, .string ⟨#[]⟩, .slice none 0 0, .slice none 0 0, .int .u8 0, .string ⟨#[]⟩, .bool false] 70)).heap.size ((w.alloc (.cells #[.int .u8 k, .int .i64 n, .string s, .slice la ll lc, .slice fa fl fc, .int .u8 e, .string key, .bool hk] 58)).alloc (.cells #[.string ⟨#[]⟩, .int .u8 0, .string ⟨#[]⟩, .int .u8 0, .int .i64 0, .string ⟨#[]⟩, .slice none 0 0, .slice none 0 0, .int .u8 0, .string ⟨#[]⟩, .bool false] 70)) W → (W.cell? ⟨w.heap.size, 0, none⟩ = some (.int .u8 k) ∧ W.cell? ⟨w.heap.size, 1, none⟩ = some (.int .i64 n) ∧ W.cell? ⟨w.heap.size, 2, none⟩ = some (.string s) ∧ W.cell? ⟨w.heap.size, 3, none⟩ = some (.slice la ll lc) ∧ W.cell? ⟨w.heap.size, 4, none⟩ = some (.slice fa fl fc) ∧ W.cell? ⟨w.heap.size, 5, none⟩ = some (.int .u8 e) ∧ W.cell? ⟨w.heap.size, 6, none⟩ = some (.string key) ∧ W.cell? ⟨w.heap.size, 7, none⟩ = some (.bool hk)) ∧ (W.cell? ⟨w.heap.size + 1, 0, none⟩ = some (.string ⟨#[]⟩) ∧ W.cell? ⟨w.heap.size + 1, 1, none⟩ = some (.int .u8 0) ∧ W.cell? ⟨w.heap.size + 1, 2, none⟩ = some (.string ⟨#[]⟩) ∧ W.cell? ⟨w.heap.size + 1, 3, none⟩ = some (.int .u8 0) ∧ W.cell? ⟨w.heap.size + 1, 4, none⟩ = some (.int .i64 0) ∧ W.cell? ⟨w.heap.size + 1, 5, none⟩ = some (.string ⟨#[]⟩) ∧ W.cell? ⟨w.heap.size + 1, 6, none⟩ = some (.slice none 0 0) ∧ W.cell? ⟨w.heap.size + 1, 7, none⟩ = some (.slice none 0 0) ∧ W.cell? ⟨w.heap.size + 1, 8, none⟩ = some (.int .u8 0) ∧ W.cell? ⟨w.heap.size + 1, 9, none⟩ = some (.string ⟨#[]⟩) ∧ W.cell? ⟨w.heap.size + 1, 10, none⟩ = some (.bool false)) ∧ (W.frozen? ⟨w.heap.size + 1, 0, none⟩ = false ∧ W.frozen? ⟨w.heap.size + 1, 1, none⟩ = false ∧ W.frozen? ⟨w.heap.size + 1, 2, none⟩ = false ∧ W.frozen? ⟨w.heap.size + 1, 3, none⟩ = false ∧ W.frozen? ⟨w.heap.size + 1, 4, none⟩ = false ∧ W.frozen? ⟨w.heap.size + 1, 5, none⟩ = false ∧ W.frozen? ⟨w.heap.size + 1, 6, none⟩ = false ∧ W.frozen? ⟨w.heap.size + 1, 7, none⟩ = false ∧ W.frozen? ⟨w.heap.size + 1, 8, none⟩ = false ∧ W.frozen? ⟨w.heap.size + 1, 9, none⟩ = false ∧ W.frozen? ⟨w.heap.size + 1, 10, none⟩ = false)) := Lib.hid (fun W hb => by
    have hb1 : Below (w.alloc (.cells #[.int .u8 k, .int .i64 n, .string s, .slice la ll lc, .slice fa fl fc, .int .u8 e, .string key, .bool hk] 58)).heap.size (w.alloc (.cells #[.int .u8 k, .int .i64 n, .string s, .slice la ll lc, .slice fa fl fc, .int .u8 e, .string key, .bool hk] 58)) W := (below_alloc _ _).trans (hb.mono (by simp))
    have hp := Bk.at_new (w := w) (cs := [.int .u8 k, .int .i64 n, .string s, .slice la ll lc, .slice fa fl fc, .int .u8 e, .string key, .bool hk]) (T := 58) rfl (by rw [World.size_alloc] at hb1; exact hb1)
    have hz := Bk.at_new (w := w.alloc (.cells #[.int .u8 k, .int .i64 n, .string s, .slice la ll lc, .slice fa fl fc, .int .u8 e, .string key, .bool hk] 58)) (cs := [.string ⟨#[]⟩, .int .u8 0, .string ⟨#[]⟩, .int .u8 0, .int .i64 0, .string ⟨#[]⟩, .slice none 0 0, .slice none 0 0, .int .u8 0, .string ⟨#[]⟩, .bool false]) (T := 70) rfl (by rw [World.size_alloc] at hb; exact hb)
    have hy : ∀ r, W.frozen? ⟨w.heap.size + 1, r, none⟩ = false := fun r => by rw [hb.frozen (p := ⟨w.heap.size + 1, r, none⟩) (by simp)]; have := Bk.at_new (w := w.alloc (.cells #[.int .u8 k, .int .i64 n, .string s, .slice la ll lc, .slice fa fl fc, .int .u8 e, .string key, .bool hk] 58)) (cs := [.string ⟨#[]⟩, .int .u8 0, .string ⟨#[]⟩, .int .u8 0, .int .i64 0, .string ⟨#[]⟩, .slice none 0 0, .slice none 0 0, .int .u8 0, .string ⟨#[]⟩, .bool false]) (T := 70) rfl (Below.refl _ _); exact Lib.frozen_of_heap (by have := Go.Deep.blk_alloc_new (w.alloc (.cells #[.int .u8 k, .int .i64 n, .string s, .slice la ll lc, .slice fa fl fc, .int .u8 e, .string key, .bool hk] 58)) (.cells #[.string ⟨#[]⟩, .int .u8 0, .string ⟨#[]⟩, .int .u8 0, .int .i64 0, .string ⟨#[]⟩, .slice none 0 0, .slice none 0 0, .int .u8 0, .string ⟨#[]⟩, .bool false] 70); rwa [World.size_alloc] at this) r
    rw [World.size_alloc] at hz
    exact ⟨⟨by have := hp 0 (by simp); simpa using this, by have := hp 1 (by simp); simpa using this, by have := hp 2 (by simp); simpa using this, by have := hp 3 (by simp); simpa using this, by have := hp 4 (by simp); simpa using this, by have := hp 5 (by simp); simpa using this, by have := hp 6 (by simp); simpa using this, by have := hp 7 (by simp); simpa using this⟩, ⟨by have := hz 0 (by simp); simpa using this, by have := hz 1 (by simp); simpa using this, by have := hz 2 (by simp); simpa using this, by have := hz 3 (by simp); simpa using this, by have := hz 4 (by simp); simpa using this, by have := hz 5 (by simp); simpa using this, by have := hz 6 (by simp); simpa using this, by have := hz 7 (by simp); simpa using this, by have := hz 8 (by simp); simpa using this, by have := hz 9 (by simp); simpa using this, by have := hz 10 (by simp); simpa using this⟩, hy 0, hy 1, hy 2, hy 3, hy 4, hy 5, hy 6, hy 7, hy 8, hy 9, hy 10⟩)
  have HP : Hid (∀ (c0 c1 c2 c3 c4 c5 c6 c7 c8 c9 c10 : Value) W, Below ((w.alloc (.cells #[.int .u8 k, .int .i64 n, .string s, .slice la ll lc, .slice fa fl fc, .int .u8 e, .string key, .bool hk] 58)).alloc (.cells #[.string ⟨#[]⟩, .int .u8 0, .string ⟨#[]⟩, .int .u8 0, .int .i64 0, .string ⟨#[]⟩, .slice none 0 0, .slice none 0 0, .int .u8 0, .string ⟨#[]⟩, .bool false] 70)).heap.size ((w.alloc (.cells #[.int .u8 k, .int .i64 n, .string s, .slice la ll lc, .slice fa fl fc, .int .u8 e, .string key, .bool hk] 58)).alloc (.cells #[.string ⟨#[]⟩, .int .u8 0, .string ⟨#[]⟩, .int .u8 0, .int .i64 0, .string ⟨#[]⟩, .slice none 0 0, .slice none 0 0, .int .u8 0, .string ⟨#[]⟩, .bool false] 70)) W → ((((((((((((W.setCell ⟨w.heap.size + 1, 0, none⟩ (c0)).setCell ⟨w.heap.size + 1, 1, none⟩ (c1)).setCell ⟨w.heap.size + 1, 2, none⟩ (c2)).setCell ⟨w.heap.size + 1, 3, none⟩ (c3)).setCell ⟨w.heap.size + 1, 4, none⟩ (c4)).setCell ⟨w.heap.size + 1, 5, none⟩ (c5)).setCell ⟨w.heap.size + 1, 6, none⟩ (c6)).setCell ⟨w.heap.size + 1, 7, none⟩ (c7)).setCell ⟨w.heap.size + 1, 8, none⟩ (c8)).setCell ⟨w.heap.size + 1, 9, none⟩ (c9)).setCell ⟨w.heap.size + 1, 10, none⟩ (c10)).cell? ⟨w.heap.size + 1, 0, none⟩ = some c0 ∧ (((((((((((W.setCell ⟨w.heap.size + 1, 0, none⟩ (c0)).setCell ⟨w.heap.size + 1, 1, none⟩ (c1)).setCell ⟨w.heap.size + 1, 2, none⟩ (c2)).setCell ⟨w.heap.size + 1, 3, none⟩ (c3)).setCell ⟨w.heap.size + 1, 4, none⟩ (c4)).setCell ⟨w.heap.size + 1, 5, none⟩ (c5)).setCell ⟨w.heap.size + 1, 6, none⟩ (c6)).setCell ⟨w.heap.size + 1, 7, none⟩ (c7)).setCell ⟨w.heap.size + 1, 8, none⟩ (c8)).setCell ⟨w.heap.size + 1, 9, none⟩ (c9)).setCell ⟨w.heap.size + 1, 10, none⟩ (c10)).cell? ⟨w.heap.size + 1, 1, none⟩ = some c1 ∧ (((((((((((W.setCell ⟨w.heap.size + 1, 0, none⟩ (c0)).setCell ⟨w.heap.size + 1, 1, none⟩ (c1)).setCell ⟨w.heap.size + 1, 2, none⟩ (c2)).setCell ⟨w.heap.size + 1, 3, none⟩ (c3)).setCell ⟨w.heap.size + 1, 4, none⟩ (c4)).setCell ⟨w.heap.size + 1, 5, none⟩ (c5)).setCell ⟨w.heap.size + 1, 6, none⟩ (c6)).setCell ⟨w.heap.size + 1, 7, none⟩ (c7)).setCell ⟨w.heap.size + 1, 8, none⟩ (c8)).setCell ⟨w.heap.size + 1, 9, none⟩ (c9)).setCell ⟨w.heap.size + 1, 10, none⟩ (c10)).cell? ⟨w.heap.size + 1, 2, none⟩ = some c2 ∧ (((((((((((W.setCell ⟨w.heap.size + 1, 0, none⟩ (c0)).setCell ⟨w.heap.size + 1, 1, none⟩ (c1)).setCell ⟨w.heap.size + 1, 2, none⟩ (c2)).setCell ⟨w.heap.size + 1, 3, none⟩ (c3)).setCell ⟨w.heap.size + 1, 4, none⟩ (c4)).setCell ⟨w.heap.size + 1, 5, none⟩ (c5)).setCell ⟨w.heap.size + 1, 6, none⟩ (c6)).setCell ⟨w.heap.size + 1, 7, none⟩ (c7)).setCell ⟨w.heap.size + 1, 8, none⟩ (c8)).setCell ⟨w.heap.size + 1, 9, none⟩ (c9)).setCell ⟨w.heap.size + 1, 10, none⟩ (c10)).cell? ⟨w.heap.size + 1, 3, none⟩ = some c3 ∧ (((((((((((W.setCell ⟨w.heap.size + 1, 0, none⟩ (c0)).setCell ⟨w.heap.size + 1, 1, none⟩ (c1)).setCell ⟨w.heap.size + 1, 2, none⟩ (c2)).setCell ⟨w.heap.size + 1, 3, none⟩ (c3)).setCell ⟨w.heap.size + 1, 4, none⟩ (c4)).setCell ⟨w.heap.size + 1, 5, none⟩ (c5)).setCell ⟨w.heap.size + 1, 6, none⟩ (c6)).setCell ⟨w.heap.size + 1, 7, none⟩ (c7)).setCell ⟨w.heap.size + 1, 8, none⟩ (c8)).setCell ⟨w.heap.size + 1, 9, none⟩ (c9)).setCell ⟨w.heap.size + 1, 10, none⟩ (c10)).cell? ⟨w.heap.size + 1, 4, none⟩ = some c4 ∧ (((((((((((W.setCell ⟨w.heap.size + 1, 0, none⟩ (c0)).setCell ⟨w.heap.size + 1, 1, none⟩ (c1)).setCell ⟨w.heap.size + 1, 2, none⟩ (c2)).setCell ⟨w.heap.size + 1, 3, none⟩ (c3)).setCell ⟨w.heap.size + 1, 4, none⟩ (c4)).setCell ⟨w.heap.size + 1, 5, none⟩ (c5)).setCell ⟨w.heap.size + 1, 6, none⟩ (c6)).setCell ⟨w.heap.size + 1, 7, none⟩ (c7)).setCell ⟨w.heap.size + 1, 8, none⟩ (c8)).setCell ⟨w.heap.size + 1, 9, none⟩ (c9)).setCell ⟨w.heap.size + 1, 10, none⟩ (c10)).cell? ⟨w.heap.size + 1, 5, none⟩ = some c5 ∧ (((((((((((W.setCell ⟨w.heap.size + 1, 0, none⟩ (c0)).setCell ⟨w.heap.size + 1, 1, none⟩ (c1)).setCell ⟨w.heap.size + 1, 2, none⟩ (c2)).setCell ⟨w.heap.size + 1, 3, none⟩ (c3)).setCell ⟨w.heap.size + 1, 4, none⟩ (c4)).setCell ⟨w.heap.size + 1, 5, none⟩ (c5)).setCell ⟨w.heap.size + 1, 6, none⟩ (c6)).setCell ⟨w.heap.size + 1, 7, none⟩ (c7)).setCell ⟨w.heap.size + 1, 8, none⟩ (c8)).setCell ⟨w.heap.size + 1, 9, none⟩ (c9)).setCell ⟨w.heap.size + 1, 10, none⟩ (c10)).cell? ⟨w.heap.size + 1, 6, none⟩ = some c6 ∧ (((((((((((W.setCell ⟨w.heap.size + 1, 0, none⟩ (c0)).setCell ⟨w.heap.size + 1, 1, none⟩ (c1)).setCell ⟨w.heap.size + 1, 2, none⟩ (c2)).setCell ⟨w.heap.size + 1, 3, none⟩ (c3)).setCell ⟨w.heap.size + 1, 4, none⟩ (c4)).setCell ⟨w.heap.size + 1, 5, none⟩ (c5)).setCell ⟨w.heap.size + 1, 6, none⟩ (c6)).setCell ⟨w.heap.size + 1, 7, none⟩ (c7)).setCell ⟨w.heap.size + 1, 8, none⟩ (c8)).setCell ⟨w.heap.size + 1, 9, none⟩ (c9)).setCell ⟨w.heap.size + 1, 10, none⟩ (c10)).cell? ⟨w.heap.size + 1, 7, none⟩ = some c7 ∧ (((((((((((W.setCell ⟨w.heap.size + 1, 0, none⟩ (c0)).setCell ⟨w.heap.size + 1, 1, none⟩ (c1)).setCell ⟨w.heap.size + 1, 2, none⟩ (c2)).setCell ⟨w.heap.size + 1, 3, none⟩ (c3)).setCell ⟨w.heap.size + 1, 4, none⟩ (c4)).setCell ⟨w.heap.size + 1, 5, none⟩ (c5)).setCell ⟨w.heap.size + 1, 6, none⟩ (c6)).setCell ⟨w.heap.size + 1, 7, none⟩ (c7)).setCell ⟨w.heap.size + 1, 8, none⟩ (c8)).setCell ⟨w.heap.size + 1, 9, none⟩ (c9)).setCell ⟨w.heap.size + 1, 10, none⟩ (c10)).cell? ⟨w.heap.size + 1, 8, none⟩ = some c8 ∧ (((((((((((W.setCell ⟨w.heap.size + 1, 0, none⟩ (c0)).setCell ⟨w.heap.size + 1, 1, none⟩ (c1)).setCell ⟨w.heap.size + 1, 2, none⟩ (c2)).setCell ⟨w.heap.size + 1, 3, none⟩ (c3)).setCell ⟨w.heap.size + 1, 4, none⟩ (c4)).setCell ⟨w.heap.size + 1, 5, none⟩ (c5)).setCell ⟨w.heap.size + 1, 6, none⟩ (c6)).setCell ⟨w.heap.size + 1, 7, none⟩ (c7)).setCell ⟨w.heap.size + 1, 8, none⟩ (c8)).setCell ⟨w.heap.size + 1, 9, none⟩ (c9)).setCell ⟨w.heap.size + 1, 10, none⟩ (c10)).cell? ⟨w.heap.size + 1, 9, none⟩ = some c9 ∧ (((((((((((W.setCell ⟨w.heap.size + 1, 0, none⟩ (c0)).setCell ⟨w.heap.size + 1, 1, none⟩ (c1)).setCell ⟨w.heap.size + 1, 2, none⟩ (c2)).setCell ⟨w.heap.size + 1, 3, none⟩ (c3)).setCell ⟨w.heap.size + 1, 4, none⟩ (c4)).setCell ⟨w.heap.size + 1, 5, none⟩ (c5)).setCell ⟨w.heap.size + 1, 6, none⟩ (c6)).setCell ⟨w.heap.size + 1, 7, none⟩ (c7)).setCell ⟨w.heap.size + 1, 8, none⟩ (c8)).setCell ⟨w.heap.size + 1, 9, none⟩ (c9)).setCell ⟨w.heap.size + 1, 10, none⟩ (c10)).cell? ⟨w.heap.size + 1, 10, none⟩ = some c10) ∧ Below w.heap.size w (((((((((((W.setCell ⟨w.heap.size + 1, 0, none⟩ (c0)).setCell ⟨w.heap.size + 1, 1, none⟩ (c1)).setCell ⟨w.heap.size + 1, 2, none⟩ (c2)).setCell ⟨w.heap.size + 1, 3, none⟩ (c3)).setCell ⟨w.heap.size + 1, 4, none⟩ (c4)).setCell ⟨w.heap.size + 1, 5, none⟩ (c5)).setCell ⟨w.heap.size + 1, 6, none⟩ (c6)).setCell ⟨w.heap.size + 1, 7, none⟩ (c7)).setCell ⟨w.heap.size + 1, 8, none⟩ (c8)).setCell ⟨w.heap.size + 1, 9, none⟩ (c9)).setCell ⟨w.heap.size + 1, 10, none⟩ (c10))) := Lib.hid (fun c0 c1 c2 c3 c4 c5 c6 c7 c8 c9 c10 W hb => by
    obtain ⟨-, ⟨z0, z1, z2, z3, z4, z5, z6, z7, z8, z9, z10⟩, -⟩ := HC.out W hb
    have hp := Bk.putL_get (g := w.heap.size + 1) [c0, c1, c2, c3, c4, c5, c6, c7, c8, c9, c10] W 0 (fun j hj => by
      match j, hj with
      | 0, _ => exact ⟨_, z0⟩
      | 1, _ => exact ⟨_, z1⟩
      | 2, _ => exact ⟨_, z2⟩
      | 3, _ => exact ⟨_, z3⟩
      | 4, _ => exact ⟨_, z4⟩
      | 5, _ => exact ⟨_, z5⟩
      | 6, _ => exact ⟨_, z6⟩
      | 7, _ => exact ⟨_, z7⟩
      | 8, _ => exact ⟨_, z8⟩
      | 9, _ => exact ⟨_, z9⟩
      | 10, _ => exact ⟨_, z10⟩
      | j + 11, hj => simp only [List.length_cons, List.length_nil] at hj; omega)
    refine ⟨⟨hp 0 (by simp), hp 1 (by simp), hp 2 (by simp), hp 3 (by simp), hp 4 (by simp), hp 5 (by simp), hp 6 (by simp), hp 7 (by simp), hp 8 (by simp), hp 9 (by simp), hp 10 (by simp)⟩, ?_⟩
    exact Bk.putL_low (g := w.heap.size + 1) (by omega) [c0, c1, c2, c3, c4, c5, c6, c7, c8, c9, c10] W 0 (hlo.trans (hb.mono (by simp; omega))))
  have FIN := Lib.hid (fun W (hb : Below ((w.alloc (.cells #[.int .u8 k, .int .i64 n, .string s, .slice la ll lc, .slice fa fl fc, .int .u8 e, .string key, .bool hk] 58)).alloc (.cells #[.string ⟨#[]⟩, .int .u8 0, .string ⟨#[]⟩, .int .u8 0, .int .i64 0, .string ⟨#[]⟩, .slice none 0 0, .slice none 0 0, .int .u8 0, .string ⟨#[]⟩, .bool false] 70)).heap.size ((w.alloc (.cells #[.int .u8 k, .int .i64 n, .string s, .slice la ll lc, .slice fa fl fc, .int .u8 e, .string key, .bool hk] 58)).alloc (.cells #[.string ⟨#[]⟩, .int .u8 0, .string ⟨#[]⟩, .int .u8 0, .int .i64 0, .string ⟨#[]⟩, .slice none 0 0, .slice none 0 0, .int .u8 0, .string ⟨#[]⟩, .bool false] 70)) W) => hlo.trans (hb.mono (by simp; omega)))
  have HD := Lib.hid (fun W => rdigits_any n W hn)
  clear h hlo
  by_cases h1 : k = 1
  · subst h1
    have hkid : (V.mk 1 n s la ll lc L fa fl fc fn F e key hk).kid = some (textC ⟨(Lib.itoa n).toArray⟩) := by simp [V.kid]
    unfold ChildPost
    rw [hkid]
    generalize (⟨(Lib.itoa n).toArray⟩ : ByteArray) = d at HD ⊢
    simp only [V.agg, V.cells]
    go_enter Tryz.func20, Tryz.ntmps20
    go_upto_region 1 with fail
    revert HC HP FIN
    generalize ((w.alloc (.cells #[.int .u8 1, .int .i64 n, .string s, .slice la ll lc, .slice fa fl fc, .int .u8 e, .string key, .bool hk] 58)).alloc (.cells #[.string ⟨#[]⟩, .int .u8 0, .string ⟨#[]⟩, .int .u8 0, .int .i64 0, .string ⟨#[]⟩, .slice none 0 0, .slice none 0 0, .int .u8 0, .string ⟨#[]⟩, .bool false] 70)) = W2
    generalize w.heap.size + 1 = rb
    generalize hpb : w.heap.size = pb
    intro HC HP FIN
    obtain ⟨⟨p0, p1, p2, p3, p4, p5, p6, p7⟩, ⟨z0, z1, z2, z3, z4, z5, z6, z7, z8, z9, z10⟩, y0, y1, y2, y3, y4, y5, y6, y7, y8, y9, y10⟩ := HC.out _ (Below.refl _ _)
    go_wp2_with (go_at_call 21; (with_reducible refine (HD.out _).mono ?_); rintro x w1 ⟨rfl, hb1⟩; refine Hid.out ?_)
    refine Lib.hid ?_
    have HB := Lib.hid (show Below W2.heap.size W2 w1 from hb1)
    clear hb1 p0 p1 p2 p3 p4 p5 p6 p7 z0 y0 z1 y1 z2 y2 z3 y3 z4 y4 z5 y5 z6 y6 z7 y7 z8 y8 z9 y9 z10 y10
    obtain ⟨-, ⟨z0, z1, z2, z3, z4, z5, z6, z7, z8, z9, z10⟩, y0, y1, y2, y3, y4, y5, y6, y7, y8, y9, y10⟩ := HC.out _ HB.out
    have HE := Lib.hid (HP.out (.string ⟨#[]⟩) (.int .u8 9) (.string ⟨#[]⟩) (.int .u8 3) (.int .i64 0) (.string d) (.slice none 0 0) (.slice none 0 0) (.int .u8 0) (.string ⟨#[]⟩) (.bool false) w1 HB.out)
    clear HP HC FIN HD
    go_wp2_with fail
    revert HE
    generalize (((((((((((w1.setCell ⟨rb, 0, none⟩ (.string ⟨#[]⟩)).setCell ⟨rb, 1, none⟩ (.int .u8 9)).setCell ⟨rb, 2, none⟩ (.string ⟨#[]⟩)).setCell ⟨rb, 3, none⟩ (.int .u8 3)).setCell ⟨rb, 4, none⟩ (.int .i64 0)).setCell ⟨rb, 5, none⟩ (.string d)).setCell ⟨rb, 6, none⟩ (.slice none 0 0)).setCell ⟨rb, 7, none⟩ (.slice none 0 0)).setCell ⟨rb, 8, none⟩ (.int .u8 0)).setCell ⟨rb, 9, none⟩ (.string ⟨#[]⟩)).setCell ⟨rb, 10, none⟩ (.bool false)) = Wz
    intro HE
    obtain ⟨⟨e0, e1, e2, e3, e4, e5, e6, e7, e8, e9, e10⟩, hlow⟩ := HE.out
    refine bodyPost_ret (v := .tuple #[.agg #[.string ⟨#[]⟩, .int .u8 9, .string ⟨#[]⟩, .int .u8 3, .int .i64 0, .string d, .slice none 0 0, .slice none 0 0, .int .u8 0, .string ⟨#[]⟩, .bool false], .bool true]) (by simp [results, Tryz.results20, go_sem, e0, e1, e2, e3, e4, e5, e6, e7, e8, e9, e10]) rfl ⟨?_, by first | exact hlow | (rw [hpb]; exact hlow)⟩
    rfl
  · have k1 : (k == 1) = false := by simp [h1]
    by_cases h3 : k = 3
    · subst h3
      have hkid : (V.mk 3 n s la ll lc L fa fl fc fn F e key hk).kid = some (textC s) := by simp [V.kid]
      unfold ChildPost
      rw [hkid]
      simp only [V.agg, V.cells]
      go_enter Tryz.func20, Tryz.ntmps20
      go_upto_region 1 with fail
      revert HC HP FIN
      generalize ((w.alloc (.cells #[.int .u8 3, .int .i64 n, .string s, .slice la ll lc, .slice fa fl fc, .int .u8 e, .string key, .bool hk] 58)).alloc (.cells #[.string ⟨#[]⟩, .int .u8 0, .string ⟨#[]⟩, .int .u8 0, .int .i64 0, .string ⟨#[]⟩, .slice none 0 0, .slice none 0 0, .int .u8 0, .string ⟨#[]⟩, .bool false] 70)) = W2
      generalize w.heap.size + 1 = rb
      generalize hpb : w.heap.size = pb
      intro HC HP FIN
      obtain ⟨⟨p0, p1, p2, p3, p4, p5, p6, p7⟩, ⟨z0, z1, z2, z3, z4, z5, z6, z7, z8, z9, z10⟩, y0, y1, y2, y3, y4, y5, y6, y7, y8, y9, y10⟩ := HC.out _ (Below.refl _ _)
      have HE := Lib.hid (HP.out (.string ⟨#[]⟩) (.int .u8 9) (.string ⟨#[]⟩) (.int .u8 3) (.int .i64 0) (.string s) (.slice none 0 0) (.slice none 0 0) (.int .u8 0) (.string ⟨#[]⟩) (.bool false) W2 (Below.refl _ _))
      clear HP HC FIN HD
      go_wp2_with fail
      revert HE
      generalize (((((((((((W2.setCell ⟨rb, 0, none⟩ (.string ⟨#[]⟩)).setCell ⟨rb, 1, none⟩ (.int .u8 9)).setCell ⟨rb, 2, none⟩ (.string ⟨#[]⟩)).setCell ⟨rb, 3, none⟩ (.int .u8 3)).setCell ⟨rb, 4, none⟩ (.int .i64 0)).setCell ⟨rb, 5, none⟩ (.string s)).setCell ⟨rb, 6, none⟩ (.slice none 0 0)).setCell ⟨rb, 7, none⟩ (.slice none 0 0)).setCell ⟨rb, 8, none⟩ (.int .u8 0)).setCell ⟨rb, 9, none⟩ (.string ⟨#[]⟩)).setCell ⟨rb, 10, none⟩ (.bool false)) = Wz
      intro HE
      obtain ⟨⟨e0, e1, e2, e3, e4, e5, e6, e7, e8, e9, e10⟩, hlow⟩ := HE.out
      refine bodyPost_ret (v := .tuple #[.agg #[.string ⟨#[]⟩, .int .u8 9, .string ⟨#[]⟩, .int .u8 3, .int .i64 0, .string s, .slice none 0 0, .slice none 0 0, .int .u8 0, .string ⟨#[]⟩, .bool false], .bool true]) (by simp [results, Tryz.results20, go_sem, e0, e1, e2, e3, e4, e5, e6, e7, e8, e9, e10]) rfl ⟨?_, by first | exact hlow | (rw [hpb]; exact hlow)⟩
      rfl
    · have k3 : (k == 3) = false := by simp [h3]
      by_cases h6 : k = 6
      · subst h6
        by_cases he2 : 0 < e ∧ e < 9
        · have hkid : (V.mk 6 n s la ll lc L fa fl fc fn F e key hk).kid = some ⟨⟨#[]⟩, e, s, V.mk 6 n s la ll lc L fa fl fc fn F e key hk⟩ := by simp [V.kid, he2.1, he2.2]
          unfold ChildPost
          rw [hkid]
          obtain ⟨he3, he4⟩ := he2
          have d3 : decide (e > 0) = true := decide_eq_true he3
          have d4 : decide (e < 9) = true := decide_eq_true he4
          simp only [V.agg, V.cells]
          go_enter Tryz.func20, Tryz.ntmps20
          go_upto_region 1 with fail
          revert HC HP FIN
          generalize ((w.alloc (.cells #[.int .u8 6, .int .i64 n, .string s, .slice la ll lc, .slice fa fl fc, .int .u8 e, .string key, .bool hk] 58)).alloc (.cells #[.string ⟨#[]⟩, .int .u8 0, .string ⟨#[]⟩, .int .u8 0, .int .i64 0, .string ⟨#[]⟩, .slice none 0 0, .slice none 0 0, .int .u8 0, .string ⟨#[]⟩, .bool false] 70)) = W2
          generalize w.heap.size + 1 = rb
          generalize hpb : w.heap.size = pb
          intro HC HP FIN
          obtain ⟨⟨p0, p1, p2, p3, p4, p5, p6, p7⟩, ⟨z0, z1, z2, z3, z4, z5, z6, z7, z8, z9, z10⟩, y0, y1, y2, y3, y4, y5, y6, y7, y8, y9, y10⟩ := HC.out _ (Below.refl _ _)
          have HE := Lib.hid (HP.out (.string ⟨#[]⟩) (.int .u8 e) (.string s) (.int .u8 6) (.int .i64 n) (.string s) (.slice la ll lc) (.slice fa fl fc) (.int .u8 e) (.string key) (.bool hk) W2 (Below.refl _ _))
          clear HP HC FIN HD
          go_wp2_with fail
          revert HE
          generalize (((((((((((W2.setCell ⟨rb, 0, none⟩ (.string ⟨#[]⟩)).setCell ⟨rb, 1, none⟩ (.int .u8 e)).setCell ⟨rb, 2, none⟩ (.string s)).setCell ⟨rb, 3, none⟩ (.int .u8 6)).setCell ⟨rb, 4, none⟩ (.int .i64 n)).setCell ⟨rb, 5, none⟩ (.string s)).setCell ⟨rb, 6, none⟩ (.slice la ll lc)).setCell ⟨rb, 7, none⟩ (.slice fa fl fc)).setCell ⟨rb, 8, none⟩ (.int .u8 e)).setCell ⟨rb, 9, none⟩ (.string key)).setCell ⟨rb, 10, none⟩ (.bool hk)) = Wz
          intro HE
          obtain ⟨⟨e0, e1, e2, e3, e4, e5, e6, e7, e8, e9, e10⟩, hlow⟩ := HE.out
          refine bodyPost_ret (v := .tuple #[.agg #[.string ⟨#[]⟩, .int .u8 e, .string s, .int .u8 6, .int .i64 n, .string s, .slice la ll lc, .slice fa fl fc, .int .u8 e, .string key, .bool hk], .bool true]) (by simp [results, Tryz.results20, go_sem, e0, e1, e2, e3, e4, e5, e6, e7, e8, e9, e10]) rfl ⟨?_, by first | exact hlow | (rw [hpb]; exact hlow)⟩
          rfl
        · have hkid : (V.mk 6 n s la ll lc L fa fl fc fn F e key hk).kid = none := by simp only [V.kid]; rw [if_neg (by decide), if_neg (by decide), if_neg (fun q => he2 q.2)]
          unfold ChildPost
          rw [hkid]
          by_cases he3 : 0 < e
          · have he4 : ¬ e < 9 := fun q => he2 ⟨he3, q⟩
            have d3 : decide (e > 0) = true := decide_eq_true he3
            have d4 : decide (e < 9) = false := decide_eq_false he4
            simp only [V.agg, V.cells]
            go_enter Tryz.func20, Tryz.ntmps20
            go_upto_region 1 with fail
            revert HC HP FIN
            generalize ((w.alloc (.cells #[.int .u8 6, .int .i64 n, .string s, .slice la ll lc, .slice fa fl fc, .int .u8 e, .string key, .bool hk] 58)).alloc (.cells #[.string ⟨#[]⟩, .int .u8 0, .string ⟨#[]⟩, .int .u8 0, .int .i64 0, .string ⟨#[]⟩, .slice none 0 0, .slice none 0 0, .int .u8 0, .string ⟨#[]⟩, .bool false] 70)) = W2
            generalize w.heap.size + 1 = rb
            generalize hpb : w.heap.size = pb
            intro HC HP FIN
            obtain ⟨⟨p0, p1, p2, p3, p4, p5, p6, p7⟩, ⟨z0, z1, z2, z3, z4, z5, z6, z7, z8, z9, z10⟩, y0, y1, y2, y3, y4, y5, y6, y7, y8, y9, y10⟩ := HC.out _ (Below.refl _ _)
            have HE := Lib.hid (HP.out (.string ⟨#[]⟩) (.int .u8 0) (.string ⟨#[]⟩) (.int .u8 0) (.int .i64 0) (.string ⟨#[]⟩) (.slice none 0 0) (.slice none 0 0) (.int .u8 0) (.string ⟨#[]⟩) (.bool false) W2 (Below.refl _ _))
            clear HP HC FIN HD
            go_wp2_with fail
            revert HE
            generalize (((((((((((W2.setCell ⟨rb, 0, none⟩ (.string ⟨#[]⟩)).setCell ⟨rb, 1, none⟩ (.int .u8 0)).setCell ⟨rb, 2, none⟩ (.string ⟨#[]⟩)).setCell ⟨rb, 3, none⟩ (.int .u8 0)).setCell ⟨rb, 4, none⟩ (.int .i64 0)).setCell ⟨rb, 5, none⟩ (.string ⟨#[]⟩)).setCell ⟨rb, 6, none⟩ (.slice none 0 0)).setCell ⟨rb, 7, none⟩ (.slice none 0 0)).setCell ⟨rb, 8, none⟩ (.int .u8 0)).setCell ⟨rb, 9, none⟩ (.string ⟨#[]⟩)).setCell ⟨rb, 10, none⟩ (.bool false)) = Wz
            intro HE
            obtain ⟨⟨e0, e1, e2, e3, e4, e5, e6, e7, e8, e9, e10⟩, hlow⟩ := HE.out
            refine bodyPost_ret (v := .tuple #[.agg #[.string ⟨#[]⟩, .int .u8 0, .string ⟨#[]⟩, .int .u8 0, .int .i64 0, .string ⟨#[]⟩, .slice none 0 0, .slice none 0 0, .int .u8 0, .string ⟨#[]⟩, .bool false], .bool false]) (by simp [results, Tryz.results20, go_sem, e0, e1, e2, e3, e4, e5, e6, e7, e8, e9, e10]) rfl ⟨?_, by first | exact hlow | (rw [hpb]; exact hlow)⟩
            rfl
          · have d3 : decide (e > 0) = false := decide_eq_false he3
            simp only [V.agg, V.cells]
            go_enter Tryz.func20, Tryz.ntmps20
            go_upto_region 1 with fail
            revert HC HP FIN
            generalize ((w.alloc (.cells #[.int .u8 6, .int .i64 n, .string s, .slice la ll lc, .slice fa fl fc, .int .u8 e, .string key, .bool hk] 58)).alloc (.cells #[.string ⟨#[]⟩, .int .u8 0, .string ⟨#[]⟩, .int .u8 0, .int .i64 0, .string ⟨#[]⟩, .slice none 0 0, .slice none 0 0, .int .u8 0, .string ⟨#[]⟩, .bool false] 70)) = W2
            generalize w.heap.size + 1 = rb
            generalize hpb : w.heap.size = pb
            intro HC HP FIN
            obtain ⟨⟨p0, p1, p2, p3, p4, p5, p6, p7⟩, ⟨z0, z1, z2, z3, z4, z5, z6, z7, z8, z9, z10⟩, y0, y1, y2, y3, y4, y5, y6, y7, y8, y9, y10⟩ := HC.out _ (Below.refl _ _)
            have HE := Lib.hid (HP.out (.string ⟨#[]⟩) (.int .u8 0) (.string ⟨#[]⟩) (.int .u8 0) (.int .i64 0) (.string ⟨#[]⟩) (.slice none 0 0) (.slice none 0 0) (.int .u8 0) (.string ⟨#[]⟩) (.bool false) W2 (Below.refl _ _))
            clear HP HC FIN HD
            go_wp2_with fail
            revert HE
            generalize (((((((((((W2.setCell ⟨rb, 0, none⟩ (.string ⟨#[]⟩)).setCell ⟨rb, 1, none⟩ (.int .u8 0)).setCell ⟨rb, 2, none⟩ (.string ⟨#[]⟩)).setCell ⟨rb, 3, none⟩ (.int .u8 0)).setCell ⟨rb, 4, none⟩ (.int .i64 0)).setCell ⟨rb, 5, none⟩ (.string ⟨#[]⟩)).setCell ⟨rb, 6, none⟩ (.slice none 0 0)).setCell ⟨rb, 7, none⟩ (.slice none 0 0)).setCell ⟨rb, 8, none⟩ (.int .u8 0)).setCell ⟨rb, 9, none⟩ (.string ⟨#[]⟩)).setCell ⟨rb, 10, none⟩ (.bool false)) = Wz
            intro HE
            obtain ⟨⟨e0, e1, e2, e3, e4, e5, e6, e7, e8, e9, e10⟩, hlow⟩ := HE.out
            refine bodyPost_ret (v := .tuple #[.agg #[.string ⟨#[]⟩, .int .u8 0, .string ⟨#[]⟩, .int .u8 0, .int .i64 0, .string ⟨#[]⟩, .slice none 0 0, .slice none 0 0, .int .u8 0, .string ⟨#[]⟩, .bool false], .bool false]) (by simp [results, Tryz.results20, go_sem, e0, e1, e2, e3, e4, e5, e6, e7, e8, e9, e10]) rfl ⟨?_, by first | exact hlow | (rw [hpb]; exact hlow)⟩
            rfl
      · have k6 : (k == 6) = false := by simp [h6]
        have hkid : (V.mk k n s la ll lc L fa fl fc fn F e key hk).kid = none := by simp only [V.kid]; rw [if_neg h1, if_neg h3, if_neg (fun q => h6 q.1)]
        unfold ChildPost
        rw [hkid]
        simp only [V.agg, V.cells]
        go_enter Tryz.func20, Tryz.ntmps20
        go_upto_region 1 with fail
        revert HC HP FIN
        generalize ((w.alloc (.cells #[.int .u8 k, .int .i64 n, .string s, .slice la ll lc, .slice fa fl fc, .int .u8 e, .string key, .bool hk] 58)).alloc (.cells #[.string ⟨#[]⟩, .int .u8 0, .string ⟨#[]⟩, .int .u8 0, .int .i64 0, .string ⟨#[]⟩, .slice none 0 0, .slice none 0 0, .int .u8 0, .string ⟨#[]⟩, .bool false] 70)) = W2
        generalize w.heap.size + 1 = rb
        generalize hpb : w.heap.size = pb
        intro HC HP FIN
        obtain ⟨⟨p0, p1, p2, p3, p4, p5, p6, p7⟩, ⟨z0, z1, z2, z3, z4, z5, z6, z7, z8, z9, z10⟩, y0, y1, y2, y3, y4, y5, y6, y7, y8, y9, y10⟩ := HC.out _ (Below.refl _ _)
        have HE := Lib.hid (HP.out (.string ⟨#[]⟩) (.int .u8 0) (.string ⟨#[]⟩) (.int .u8 0) (.int .i64 0) (.string ⟨#[]⟩) (.slice none 0 0) (.slice none 0 0) (.int .u8 0) (.string ⟨#[]⟩) (.bool false) W2 (Below.refl _ _))
        clear HP HC FIN HD
        go_wp2_with fail
        revert HE
        generalize (((((((((((W2.setCell ⟨rb, 0, none⟩ (.string ⟨#[]⟩)).setCell ⟨rb, 1, none⟩ (.int .u8 0)).setCell ⟨rb, 2, none⟩ (.string ⟨#[]⟩)).setCell ⟨rb, 3, none⟩ (.int .u8 0)).setCell ⟨rb, 4, none⟩ (.int .i64 0)).setCell ⟨rb, 5, none⟩ (.string ⟨#[]⟩)).setCell ⟨rb, 6, none⟩ (.slice none 0 0)).setCell ⟨rb, 7, none⟩ (.slice none 0 0)).setCell ⟨rb, 8, none⟩ (.int .u8 0)).setCell ⟨rb, 9, none⟩ (.string ⟨#[]⟩)).setCell ⟨rb, 10, none⟩ (.bool false)) = Wz
        intro HE
        obtain ⟨⟨e0, e1, e2, e3, e4, e5, e6, e7, e8, e9, e10⟩, hlow⟩ := HE.out
        refine bodyPost_ret (v := .tuple #[.agg #[.string ⟨#[]⟩, .int .u8 0, .string ⟨#[]⟩, .int .u8 0, .int .i64 0, .string ⟨#[]⟩, .slice none 0 0, .slice none 0 0, .int .u8 0, .string ⟨#[]⟩, .bool false], .bool false]) (by simp [results, Tryz.results20, go_sem, e0, e1, e2, e3, e4, e5, e6, e7, e8, e9, e10]) rfl ⟨?_, by first | exact hlow | (rw [hpb]; exact hlow)⟩
        rfl
end Go.Proofs.YtnmindcofdcncaaGreatDoor.Rk
