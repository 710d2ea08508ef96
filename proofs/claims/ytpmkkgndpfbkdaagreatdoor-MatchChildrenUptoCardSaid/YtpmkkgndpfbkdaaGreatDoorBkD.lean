/-
  A book of lists of many kinds, in the making.
  Conditions: all lies in blocks of the call's own.
-/
import Derived.Test.YtpmkkgndpfbkdaaGreatDoorBkC
namespace Go.Proofs.YtpmkkgndpfbkdaaGreatDoor.Bk
set_option linter.unusedVariables false
set_option linter.unusedSimpArgs false
open Go.RowKit

/-- The book, in the making: of kind κ m κ lists, the entries' rows v κ, elements of the entries' types ht κ. -/
structure BM (ht : Nat → TypeId) (w0 : World) (B : Nat) (m : Nat → Nat) (S : Nat → Nat → Value) (N : Nat → Nat → Int) (n : Int) (v : Nat → Value) (W : World) : Prop where
  low : Below B w0 W
  num : W.cell? ⟨B, 0, none⟩ = some (.int .i64 n)
  fld : ∀ κ, 1 ≤ κ → κ < 17 → W.cell? ⟨B, κ, none⟩ = some (v κ)
  frz : ∀ j, W.frozen? ⟨B, j, none⟩ = false
  own : ∀ κ, 1 ≤ κ → κ < 17 → W.ownsRow (B + 1) (ht κ) 3 (v κ) (m κ) (flatH (S κ) (N κ) (m κ))
  ap : ∀ κ κ', 1 ≤ κ → κ < 17 → 1 ≤ κ' → κ' < 17 → κ ≠ κ' → ∀ b, (v κ).ownBlock = some b → (v κ').ownBlock ≠ some b
/-- At one place another. -/
def at1 {α : Type} (f : Nat → α) (κ : Nat) (x : α) : Nat → α := fun j => if j = κ then x else f j
theorem at1_same {α : Type} (f : Nat → α) (κ : Nat) (x : α) : at1 f κ x κ = x := if_pos rfl
theorem at1_other {α : Type} (f : Nat → α) {κ j : Nat} (x : α) (h : j ≠ κ) : at1 f κ x j = f j := if_neg h
section
variable {ht : Nat → TypeId} {w0 W W' : World} {B : Nat} {m : Nat → Nat} {S : Nat → Nat → Value} {N : Nat → Nat → Int} {n : Int} {v : Nat → Value}
theorem BM.lt (h : BM ht w0 B m S N n v W) : B < W.heap.size := World.block_lt_of_cell? _ _ h.num
theorem BM.below (h : BM ht w0 B m S N n v W) (hl : Below W.heap.size W W') : BM ht w0 B m S N n v W' := by
  have hc : ∀ {j : Nat} {u : Value}, W.cell? ⟨B, j, none⟩ = some u → W'.cell? ⟨B, j, none⟩ = some u := fun e => by rw [hl.cell (World.block_lt_of_cell? _ _ e), e]
  exact ⟨h.low.trans (hl.mono (Nat.le_of_lt h.lt)), hc h.num, fun κ a b => hc (h.fld κ a b), fun j => by rw [hl.frozen (p := ⟨B, j, none⟩) h.lt]; exact h.frz j, fun κ a b => ownsRow_below (h.own κ a b) hl, h.ap⟩
/-- The book's number rises. -/
theorem BM.count (h : BM ht w0 B m S N n v W) (x : Int) : BM ht w0 B m S N x v (W.setCell ⟨B, 0, none⟩ (.int .i64 x)) := by
  have hg := grownBy_set W B 0 (.int .i64 x)
  refine ⟨h.low.setCell (p := ⟨B, 0, none⟩) (Nat.le_refl _) _, World.cell?_setCell_same _ _ _ h.num, fun κ a b => ?_, fun j => by rw [World.frozen?_setCell]; exact h.frz j, fun κ a b => (h.own κ a b).kept hg ?_, h.ap⟩
  · rw [World.cell?_setCell_other _ _ _ _ (by simp <;> omega)]; exact h.fld κ a b
  · cases hv : (v κ).ownBlock with
    | none => exact .inl rfl
    | some b' =>
      right
      have := ((h.own κ a b).lt b' hv).1
      simp; omega
theorem BM.drew (h : BM ht w0 B m S N n v W) : BM ht w0 B m S N n v W.drew := h.below (Below.refl _ _).drew
/-- One list more of kind κ. -/
theorem BM.more (h : BM ht w0 B m S N n v W) {κ : Nat} (k1 : 1 ≤ κ) (k2 : κ < 17) {x : Value} {g : Nat} (hx : x.ownBlock = some g) (hc : (v κ).ownBlock = some g ∨ W.heap.size ≤ g) (hg : W.grownBy W' (v κ).ownBlock) (ho : W'.ownsRow (B + 1) (ht κ) 3 x (m κ + 1) (flatH (S κ) (N κ) (m κ + 1))) :
    BM ht w0 B (at1 m κ (m κ + 1)) S N n (at1 v κ x) (W'.setCell ⟨B, κ, none⟩ x) := by
  have hlt := h.lt
  have hne : ∀ k, (v κ).ownBlock = some k → B + 1 ≤ k := fun k e => ((h.own κ k1 k2).lt k e).1
  have hce : ∀ {j : Nat} {u : Value}, W.cell? ⟨B, j, none⟩ = some u → W'.cell? ⟨B, j, none⟩ = some u := fun e => hg.cell e (fun q => by have := hne B q.symm; omega)
  have hlow : Below B w0 W' := h.low.grown hg (Nat.le_of_lt hlt) (fun k e => by have := hne k e; omega)
  have hgB : B + 1 ≤ g := by
    rcases hc with e | e
    · exact hne g e
    · omega
  refine ⟨hlow.setCell (p := ⟨B, κ, none⟩) (Nat.le_refl _) _, ?_, fun κ' a b => ?_, fun j => ?_, fun κ' a b => ?_, fun κ1 κ2 a1 b1 a2 b2 hk b e1 e2 => ?_⟩
  · rw [World.cell?_setCell_other _ _ _ _ (by simp <;> omega)]; exact hce h.num
  · by_cases hk : κ' = κ
    · subst hk
      rw [at1_same]
      exact World.cell?_setCell_same _ _ _ (hce (h.fld κ' a b))
    · rw [at1_other _ _ hk, World.cell?_setCell_other _ _ _ _ (by simp <;> omega)]; exact hce (h.fld κ' a b)
  · rw [World.frozen?_setCell, World.frozen?_of_block (hg.block B hlt (fun q => by have := hne B q.symm; omega))]; exact h.frz j
  · by_cases hk : κ' = κ
    · subst hk
      rw [at1_same, at1_same]
      refine ho.kept (grownBy_set W' B κ' x) (.inr ?_)
      rw [hx]
      simp; omega
    · rw [at1_other _ _ hk, at1_other _ _ hk]
      have h1 : W'.ownsRow (B + 1) (ht κ') 3 (v κ') (m κ') (flatH (S κ') (N κ') (m κ')) := by
        refine (h.own κ' a b).kept hg ?_
        cases hv : (v κ').ownBlock with
        | none => exact .inl rfl
        | some b' => exact .inr (fun e => h.ap κ' κ a b k1 k2 hk b' hv e.symm)
      refine h1.kept (grownBy_set W' B κ x) ?_
      cases hv : (v κ').ownBlock with
      | none => exact .inl rfl
      | some b' =>
        right
        have := ((h.own κ' a b).lt b' hv).1
        simp; omega
  · have old : ∀ κ', 1 ≤ κ' → κ' < 17 → κ' ≠ κ → (v κ').ownBlock ≠ some g := fun κ' q1 q2 q3 e => by
      rcases hc with e' | e'
      · exact h.ap κ' κ q1 q2 k1 k2 q3 g e e'
      · have := ((h.own κ' q1 q2).lt g e).2
        omega
    by_cases hk1 : κ1 = κ
    · subst hk1
      rw [at1_same, hx] at e1
      rw [at1_other _ _ (Ne.symm hk)] at e2
      rw [← e1] at e2
      exact old κ2 a2 b2 (Ne.symm hk) e2
    · rw [at1_other _ _ hk1] at e1
      by_cases hk2 : κ2 = κ
      · subst hk2
        rw [at1_same, hx] at e2
        rw [← e2] at e1
        exact old κ1 a1 b1 hk1 e1
      · rw [at1_other _ _ hk2] at e2
        exact h.ap κ1 κ2 a1 b1 a2 b2 hk b e1 e2
/-- The book is made. -/
theorem BM.toT {wb : World} {D : BkD} (h : BM ht w0 D.B D.m S D.N n v W) (hb : Below wb.heap.size wb w0) (hB : wb.heap.size ≤ D.B) (hm0 : ∀ κ, ¬ (1 ≤ κ ∧ κ < 17) → D.m κ = 0) (hv : ∀ κ, 1 ≤ κ → κ < 17 → 0 < D.m κ → v κ = .slice (some ⟨D.T κ, 0, none⟩) (D.m κ) (D.c κ)) (hv0 : ∀ κ, 1 ≤ κ → κ < 17 → D.m κ = 0 → v κ = .slice none 0 0)
    (hS : ∀ κ i, i < D.m κ → S κ i = .slice (D.sa κ i) (D.ln κ i) (D.sc κ i)) :
    BkT D wb W ∧ (∀ κ, 0 < D.m κ → D.B + 1 ≤ D.T κ ∧ D.T κ < W.heap.size ∧ D.m κ ≤ D.c κ ∧ D.c κ ≤ maxLen) ∧ ∀ κ κ', 0 < D.m κ → 0 < D.m κ' → κ ≠ κ' → D.T κ ≠ D.T κ' := by
  have hk : ∀ κ, 0 < D.m κ → 1 ≤ κ ∧ κ < 17 := fun κ h0 => by
    rcases Classical.em (1 ≤ κ ∧ κ < 17) with q | q
    · exact q
    · have := hm0 κ q; omega
  have hown : ∀ κ, 0 < D.m κ → W.ownsRow (D.B + 1) (ht κ) 3 (.slice (some ⟨D.T κ, 0, none⟩) (D.m κ) (D.c κ)) (D.m κ) (flatH (S κ) (D.N κ) (D.m κ)) := fun κ h0 => by
    have q := hk κ h0
    have := h.own κ q.1 q.2
    rwa [hv κ q.1 q.2 h0] at this
  have hcell : ∀ κ i, i < D.m κ → ∀ k, k < 3 → W.cell? ⟨D.T κ, i * 3 + k, none⟩ = [S κ i, .slice none 0 0, .int .i64 (D.N κ i)][k]? := fun κ i hi k hk => by
    rw [(hown κ (by omega)).cellAt _ (by omega), flatH_get (S κ) (D.N κ) (D.m κ) i hi k hk]
  refine ⟨⟨hb.trans (h.low.mono hB), fun κ a b h0 => by rw [h.fld κ a b, hv κ a b h0], fun κ a b h0 => by rw [h.fld κ a b, hv0 κ a b h0], fun κ i hi => ⟨?_, ⟨none, 0, 0, hcell κ i hi 1 (by decide)⟩, hcell κ i hi 2 (by decide)⟩, fun κ j hj => (hown κ (by omega)).frozenAt j⟩, fun κ h0 => ?_, fun κ κ' h0 h0' hne e => ?_⟩
  · rw [← hS κ i hi]
    exact hcell κ i hi 0 (by decide)
  · have hl := (hown κ h0).lt (D.T κ) rfl
    rcases (hown κ h0).2 with ⟨e, -⟩ | ⟨g, cap, cur, e, -, -, h1, h2, -⟩
    · cases e
    · cases e
      exact ⟨hl.1, hl.2, h1, h2⟩
  · have q := hk κ h0
    have q' := hk κ' h0'
    refine h.ap κ κ' q.1 q.2 q'.1 q'.2 hne (D.T κ) ?_ ?_
    · rw [hv κ q.1 q.2 h0]; rfl
    · rw [hv κ' q'.1 q'.2 h0', e]; rfl
end
section
variable {ht : Nat → TypeId} {w0 W W' : World} {B : Nat} {m : Nat → Nat} {S : Nat → Nat → Value} {N : Nat → Nat → Int} {n : Int} {v : Nat → Value}
theorem append_K {ops : Array Oper} {o : Oper} {act : Act} {K : Act → World → Prop} {Q : Exit → Act → World → Prop} {E : Prop} {x : Int} {κ : Nat} (k1 : 1 ≤ κ) (k2 : κ < 17) (h : BM ht w0 B m S N n v W) (hm : m κ ≤ 1099511627776)
    {TS : TypeId} {i0 : TypeInfo} (hu : Tryz.prog.underlying TS = some (.slice (ht κ))) (hi : Tryz.prog.info? (ht κ) = some i0) (hz0 : i0.zero = some (.agg #[.slice none 0 0, .slice none 0 0, .int .i64 0])) (hz1 : i0.size = 3) (hz2 : i0.bytes = 56)
    (hgd : o.guard = none) (s z : Operand)
    (ho : o.op = .call { callee := .builtin .append, args := #[s, z], argTypes := #[TS, TS] }) (hs : act.eval s = v κ) (T' : TypeId) {a : Option Addr} {l q : Nat} (hS : S κ (m κ) = .slice a l q) (hN : N κ (m κ) = x) (hx : act.eval z = .slice (some ⟨W.heap.size, 0, none⟩) 1 1)
    (hr : ∀ b c W', (∀ j u, W.cell? ⟨B, j, none⟩ = some u → W'.cell? ⟨B, j, none⟩ = some u) → (∀ j, W'.frozen? ⟨B, j, none⟩ = false) → BM ht w0 B (at1 m κ (m κ + 1)) S N n (at1 v κ (.slice (some ⟨b, 0, none⟩) (m κ + 1) c)) (W'.setCell ⟨B, κ, none⟩ (.slice (some ⟨b, 0, none⟩) (m κ + 1) c)) →
      K (act.put o.dst (.slice (some ⟨b, 0, none⟩) (m κ + 1) c)) W') : if Region.wanted o (yielded ops act.tmps) = true then Oper.wp Tryz.prog o act (W.alloc (.cells #[.slice a l q, .slice none 0 0, .int .i64 x] T')) K Q else E := by
  have hnew : ∀ j u, [Value.slice a l q, .slice none 0 0, .int .i64 x][j]? = some u → (W.alloc (.cells #[.slice a l q, .slice none 0 0, .int .i64 x] T')).cell? ((⟨W.heap.size, 0, none⟩ : Addr).add j) = some u := new_cells (cs := [Value.slice a l q, .slice none 0 0, .int .i64 x])
  refine step_append_lies _ hgd s z _ ho (B + 1) (ht κ) i0 (.agg #[.slice none 0 0, .slice none 0 0, .int .i64 0]) 3 56 hu hi hz0 hz1 hz2 rfl (by decide) (v κ) (m κ) _ hs ((h.own κ k1 k2).alloc _) ⟨W.heap.size, 0, none⟩ 1 1 [.slice a l q, .slice none 0 0, .int .i64 x] hx rfl hnew (fun u hu => by simp at hu; rcases hu with rfl | rfl | rfl <;> rfl) (by decide) (by unfold maxLen; omega) (by omega) (by have := h.lt; simp; omega) _ rfl ?_
  intro b c w' hown hgrow hb hlt
  have hg2 : W.grownBy w' (v κ).ownBlock := grown_trans (World.grownBy_alloc W _ _) hgrow
  have hfl : flatH (S κ) (N κ) (m κ) ++ [.slice a l q, .slice none 0 0, .int .i64 x] = flatH (S κ) (N κ) (m κ + 1) := by rw [flatH, hS, hN]
  rw [hfl] at hown
  have hne : ∀ k, (v κ).ownBlock = some k → B + 1 ≤ k := fun k e => ((h.own κ k1 k2).lt k e).1
  refine hr b c w' (fun j u e => hg2.cell e (fun q => by have := hne B q.symm; omega)) (fun j => by rw [World.frozen?_of_block (hg2.block B h.lt (fun q => by have := hne B q.symm; omega))]; exact h.frz j) (h.more k1 k2 (g := b) rfl ?_ hg2 hown)
  rcases hb with e | e
  · exact .inl e
  · exact .inr (by rw [e]; simp)
end
end Go.Proofs.YtpmkkgndpfbkdaaGreatDoor.Bk
