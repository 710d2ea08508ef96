/-
  A book of lists of many kinds: a grown list put into it, a mark appended, what look.. reads; the book in the making.
  Conditions: the book, its lists, and what they hold lie in blocks behind a world; no two share a block.
-/
import Derived.Test.YtpmkkgndpfbkdaaGreatDoorBkB
namespace Go.Proofs.YtpmkkgndpfbkdaaGreatDoor.Bk
open Go.RowKit

section
variable {K : KTab} {D : BkD} {w0 W W' : World} {κ i k hb ws q cp : Nat} {v : Value} {a : Option Addr}
/-- The long list is put into the book. -/
theorem GI.finish (hs : GS D w0 ws) {g : Nat} (h : GI K D w0 ws κ i 40 hb v (some ⟨g, 0, none⟩) cp W) (hi : i < D.m κ) :
    GO K D w0 ws κ (i + 1) (W.setCell ⟨D.T κ, i * 3 + 1, none⟩ (.slice (some ⟨g, 0, none⟩) (D.ln κ i + 40) cp)) := by
  have hhw := h.hws
  have hhl := h.hlt
  have hg := grownBy_set W (D.T κ) (i * 3 + 1) (.slice (some ⟨g, 0, none⟩) (D.ln κ i + 40) cp)
  have hsz : (W.setCell ⟨D.T κ, i * 3 + 1, none⟩ (.slice (some ⟨g, 0, none⟩) (D.ln κ i + 40) cp)).heap.size = W.heap.size := by simp
  have hTB := hs.s.hT κ (by omega)
  have hoth : ∀ κ' k, 0 < D.m κ' → ¬ (κ' = κ ∧ k = i * 3 + 1) → (W.setCell ⟨D.T κ, i * 3 + 1, none⟩ (.slice (some ⟨g, 0, none⟩) (D.ln κ i + 40) cp)).cell? ⟨D.T κ', k, none⟩ = W.cell? ⟨D.T κ', k, none⟩ := fun κ' k hm hk => World.cell?_setCell_other _ _ _ _ (fun e => by
    simp only [Addr.mk.injEq, and_true] at e
    by_cases hκ : κ' = κ
    · exact hk ⟨hκ, e.2.symm⟩
    · exact hs.s.hTT κ κ' (by omega) hm (Ne.symm hκ) e.1)
  have hgT : ∀ κ', 0 < D.m κ' → g ≠ D.T κ' := fun κ' hm => by
    rcases h.abl with ⟨e, -⟩ | ⟨g', e, h2⟩
    · exact (hs.s.nb κ i hi g e.symm).2 κ' hm
    · simp only [Option.some.injEq, Addr.mk.injEq, and_true] at e
      subst e
      have := hs.lT κ' hm; omega
  obtain ⟨a1, l1, q1, hold⟩ := (h.bk.ent κ i hi).2.1
  have hsame := World.cell?_setCell_same W ⟨D.T κ, i * 3 + 1, none⟩ (.slice (some ⟨g, 0, none⟩) (D.ln κ i + 40) cp) hold
  refine ⟨⟨h.bk.low.setCell (p := ⟨D.T κ, i * 3 + 1, none⟩) hTB.1 _, fun κ' q1 q2 q3 => hg.cell (h.bk.fld κ' q1 q2 q3) (by simpa using Ne.symm hTB.2), fun κ' q1 q2 q3 => hg.cell (h.bk.nil κ' q1 q2 q3) (by simpa using Ne.symm hTB.2), fun κ' j hj => ?_, fun κ' j hj => ?_⟩, fun κ' j hj => ?_, fun κ' j hj => ?_, by rw [hsz]; omega⟩
  · obtain ⟨e0, ⟨a2, l2, q2, e1⟩, e2⟩ := h.bk.ent κ' j hj
    refine ⟨by rw [hoth κ' _ (by omega) (by omega), e0], ?_, by rw [hoth κ' _ (by omega) (by omega), e2]⟩
    by_cases hji : κ' = κ ∧ j = i
    · obtain ⟨rfl, rfl⟩ := hji
      exact ⟨_, _, _, hsame⟩
    · exact ⟨a2, l2, q2, by rw [hoth κ' _ (by omega) (by omega), e1]⟩
  · rw [World.frozen?_setCell]
    exact h.bk.frz κ' j hj
  · exact (h.rows κ' j hj).kept hg fun b e => (hs.s.nb κ' j hj b e).2 κ (by omega)
  · rw [hsz]
    obtain ⟨hj1, hj2⟩ := hj
    by_cases hji : κ' = κ ∧ j = i
    · obtain ⟨rfl, rfl⟩ := hji
      have hl := h.long.kept hg fun b e => by
        simp only [Option.some.injEq, Addr.mk.injEq, and_true] at e
        subst e
        exact hgT κ' (by omega)
      refine ⟨g, cp, hsame, hl, ?_, (h.long.lt rfl).2⟩
      rcases h.abl with ⟨e, -⟩ | ⟨g', e, h2⟩
      · exact .inl e.symm
      · simp only [Option.some.injEq, Addr.mk.injEq, and_true] at e
        subst e
        right
        omega
    · obtain ⟨g', cp', e1, e2, e3, e4⟩ := h.done κ' j ⟨hj1, by omega⟩
      refine ⟨g', cp', by rw [hoth κ' _ (by omega) (by omega), e1], e2.kept hg fun b e => ?_, e3, by omega⟩
      simp only [Option.some.injEq, Addr.mk.injEq, and_true] at e
      subst e
      rcases e3 with e5 | e5
      · exact (hs.s.nb κ' j hj1 _ e5).2 κ (by omega)
      · have := hs.lT κ (by omega); omega
theorem GO.next (h : GO K D w0 ws κ (D.m κ) W) : GO K D w0 ws (κ + 1) 0 W := ⟨h.bk, h.rows, fun κ' j hj => h.done κ' j ⟨hj.1, by
  have h1 := hj.1
  have h2 := hj.2
  by_cases h3 : κ' = κ
  · subst h3
    exact .inr ⟨rfl, h1⟩
  · exact .inl (by omega)⟩, h.hws⟩
theorem MarkRow.addr {κ k f : Nat} {n : Int} {l : Nat} (h : MarkRow K w0 κ n (.slice a l q) k f W) (hl : 0 < l) : ∃ g, a = some ⟨g, 0, none⟩ := by
  obtain ⟨X, h1, -⟩ := h
  rcases h1.2 with ⟨e, -⟩ | ⟨g, cap, cur, e, -⟩
  · simp only [Value.slice.injEq] at e
    omega
  · simp only [Value.slice.injEq] at e
    exact ⟨g, e.1⟩
theorem MarkRow.cell {κ j f g : Nat} {n : Int} {l : Nat} (h : MarkRow K w0 κ n (.slice (some ⟨g, 0, none⟩) l q) l f W) (hf : f ≤ l) (hj : j < f) {r : Nat} (hr : r < K.sz κ) : W.cell? ⟨g, j * K.sz κ + r, none⟩ = (K.mark κ n)[r]? := by
  obtain ⟨X, h1, h2⟩ := h
  have hle : (j + 1) * K.sz κ ≤ l * K.sz κ := Nat.mul_le_mul_right _ (by omega)
  rw [Nat.add_mul, Nat.one_mul] at hle
  rw [h1.cellAt _ (by omega), h2 j hj r hr]
/-- append, one mark more. -/
theorem append_M {ops : Array Oper} {rest : List Oper} {o : Oper} {act : Act} {Q : Exit → Act → World → Prop} (hs : GS D w0 ws) (hi : i < D.m κ) (h : GI K D w0 ws κ i q hb v a cp W) (hq : q ≤ 1000)
    {TS : TypeId} {i0 : TypeInfo} {z : Value} {bytes : Nat} {cs : List Value} (hu : Tryz.prog.underlying TS = some (.slice (K.ty κ))) (hi0 : Tryz.prog.info? (K.ty κ) = some i0) (hz0 : i0.zero = some z) (hz1 : i0.size = K.sz κ) (hz2 : i0.bytes = bytes) (hzs : z.cells.size = K.sz κ) (hsz : 0 < K.sz κ) (hby : bytes ≤ 1000)
    (hcs : K.mark κ (D.N κ i) = cs) (hone : ∀ u ∈ cs, u.oneCell' = true)
    (hgd : o.guard = none) (s x : Operand) (ho : o.op = .call { callee := .builtin .append, args := #[s, x], argTypes := #[TS, TS] }) (hse : act.eval s = .slice a (D.ln κ i + q) cp) (T' : TypeId) (hx : act.eval x = .slice (some ⟨W.heap.size, 0, none⟩) 1 1)
    (hr : ∀ g cap W', GI K D w0 ws κ i (q + 1) hb v (some ⟨g, 0, none⟩) cap W' → wpList Tryz.prog ops Q rest (act.put o.dst (.slice (some ⟨g, 0, none⟩) (D.ln κ i + (q + 1)) cap)) W') : wpList Tryz.prog ops Q (o :: rest) act (W.alloc (.cells cs.toArray T')) := by
  have hln := hs.s.lnb κ i hi
  obtain ⟨X, hown, hX⟩ := h.long
  have hcl : cs.length = K.sz κ := by rw [← hcs, K.len]
  have hnew : ∀ j u, cs[j]? = some u → (W.alloc (.cells cs.toArray T')).cell? ((⟨W.heap.size, 0, none⟩ : Addr).add j) = some u := new_cells (cs := cs)
  have hbb : (D.ln κ i + q + 1) * bytes ≤ (D.ln κ i + q + 1) * 1000 := Nat.mul_le_mul_left _ hby
  obtain ⟨v', w', hrun, h1, h2⟩ := append_two (P := Tryz.prog) (W.alloc (.cells cs.toArray T')) w0.heap.size TS o.type (K.ty κ) i0 z (K.sz κ) bytes hu hi0 hz0 hz1 hz2 hzs hsz _ _ X (hown.alloc _) ⟨W.heap.size, 0, none⟩ 1 1 cs (by omega) hnew hone (by decide) (by unfold maxLen; omega) (by omega) (by have := h.bk.low.size; simp; omega)
  have hl : X.length = (D.ln κ i + q) * K.sz κ := hown.1
  have hmk : ∀ r, r < D.ln κ i + (q + 1) → ∀ t, t < K.sz κ → (X ++ cs)[r * K.sz κ + t]? = (K.mark κ (D.N κ i))[t]? := by
    intro r hr t ht
    by_cases hlt : r < D.ln κ i + q
    · have hle : (r + 1) * K.sz κ ≤ (D.ln κ i + q) * K.sz κ := Nat.mul_le_mul_right _ hlt
      rw [Nat.add_mul, Nat.one_mul] at hle
      rw [List.getElem?_append_left (by omega)]
      exact hX r hlt t ht
    · obtain rfl : r = D.ln κ i + q := by omega
      rw [List.getElem?_append_right (by omega), hl, Nat.add_sub_cancel_left, hcs]
  have hgo : ∃ g cap, v' = .slice (some ⟨g, 0, none⟩) (D.ln κ i + (q + 1)) cap ∧ GI K D w0 ws κ i (q + 1) hb v (some ⟨g, 0, none⟩) cap w' := by
    rcases h2 with ⟨g, cap, e1, e2, hgr⟩ | ⟨hgr, g, cap, e2, hgs⟩
    · simp only [Value.slice.injEq, true_and] at e1
      subst e2
      exact ⟨g, cap, rfl, h.step hs hi (grown_al hgr) ⟨_, h1, hmk⟩ (.inl ⟨e1.1, e1.2.symm⟩)⟩
    · subst e2
      have hgs2 : W.heap.size ≤ g := by
        have : (W.alloc (.cells cs.toArray T')).heap.size = W.heap.size + 1 := by simp
        omega
      exact ⟨g, cap, rfl, h.step hs hi (grown_fresh (grown_al hgr) hgs2) ⟨_, h1, hmk⟩ (.inr hgs2)⟩
  obtain ⟨g, cap, rfl, hGI⟩ := hgo
  refine wpList_plain hgd fun K hK => ?_
  unfold Oper.wp execOp
  simp only [ho, resolve, invoke, builtin, Sem.run_bind, Sem.run_pure, Result.andThen_ok, List.map_toArray, List.map_cons, List.map_nil, hse, hx, hrun]
  exact hK _ _ (hr g cap w' hGI)
/-- Within a round of look. -/
structure LI (K : KTab) (D : BkD) (w0 : World) (ws κe ie κ i hb g cp : Nat) (W : World) : Prop where
  go : GO K D w0 ws κe ie W
  hat : At W hb 0 [.slice (D.sa κ i) (D.ln κ i) (D.sc κ i), .slice (some ⟨g, 0, none⟩) (D.ln κ i + 40) cp, .int .i64 (D.N κ i)]
  long : MarkRow K w0 κ (D.N κ i) (.slice (some ⟨g, 0, none⟩) (D.ln κ i + 40) cp) (D.ln κ i + 40) (D.ln κ i + 40) W
variable {κe ie g : Nat}
theorem LI.below (h : LI K D w0 ws κe ie κ i hb g cp W) (hl : Below W.heap.size W W') : LI K D w0 ws κe ie κ i hb g cp W' := ⟨h.go.below hl, h.hat.below hl, h.long.below hl⟩
theorem LI.start {T' : TypeId} (h : GO K D w0 ws κe ie W) (hm : MarkRow K w0 κ (D.N κ i) (.slice (some ⟨g, 0, none⟩) (D.ln κ i + 40) cp) (D.ln κ i + 40) (D.ln κ i + 40) W) :
    LI K D w0 ws κe ie κ i W.heap.size g cp (W.alloc (.cells #[.slice (D.sa κ i) (D.ln κ i) (D.sc κ i), .slice (some ⟨g, 0, none⟩) (D.ln κ i + 40) cp, .int .i64 (D.N κ i)] T')) :=
  ⟨h.below (below_alloc _ _), at_new rfl (Below.refl _ _), hm.below (below_alloc _ _)⟩
theorem LI.three (h : LI K D w0 ws κe ie κ i hb g cp W) : W.cell? ⟨hb, 0, none⟩ = some (.slice (D.sa κ i) (D.ln κ i) (D.sc κ i)) ∧ W.cell? ⟨hb, 1, none⟩ = some (.slice (some ⟨g, 0, none⟩) (D.ln κ i + 40) cp) ∧ W.cell? ⟨hb, 2, none⟩ = some (.int .i64 (D.N κ i)) :=
  ⟨h.hat 0 (by decide : 0 < 3), h.hat 1 (by decide : 1 < 3), h.hat 2 (by decide : 2 < 3)⟩
theorem LI.row (h : LI K D w0 ws κe ie κ i hb g cp W) (hi : i < D.m κ) {g0 k r : Nat} (he : D.sa κ i = some ⟨g0, 0, none⟩) (hk : k < D.ln κ i) (hr : r < K.sz κ) : W.cell? ⟨g0, k * K.sz κ + r, none⟩ = (K.mark κ (D.N κ i))[r]? := by
  have := h.go.rows κ i hi
  rw [he] at this
  exact this.cell (Nat.le_refl _) hk hr
end
end Go.Proofs.YtpmkkgndpfbkdaaGreatDoor.Bk
