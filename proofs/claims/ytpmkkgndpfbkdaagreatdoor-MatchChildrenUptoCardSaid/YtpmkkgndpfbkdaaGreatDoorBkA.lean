/-
  A book of lists of many kinds: what the memory holds of it, and what stays of it behind a store, an allocation, a call.
  Conditions: the book, its lists, and what they hold lie in blocks behind a world; no two share a block.
-/
import Derived.Test.YtpmkkgndpfbkdaaGreatDoorBkH
namespace Go.Proofs.YtpmkkgndpfbkdaaGreatDoor.Bk
set_option linter.unusedVariables false
set_option linter.unusedSimpArgs false
open Go.RowKit

/-- The kinds: what an element is, how many cells it has, what cells a mark has. -/
structure KTab where
  ty : Nat → TypeId
  sz : Nat → Nat
  mark : Nat → Int → List Value
  len : ∀ κ n, (mark κ n).length = sz κ
/-- What is told: of kind κ there are m κ lists in block T κ; the i-th of them lies at sa κ i, is ln κ i long, has room for sc κ i, and bears the number N κ i. -/
structure BkD where
  B : Nat
  T : Nat → Nat
  m : Nat → Nat
  c : Nat → Nat
  sa : Nat → Nat → Option Addr
  ln : Nat → Nat → Nat
  sc : Nat → Nat → Nat
  N : Nat → Nat → Int
structure BkS (D : BkD) (w0 : World) : Prop where
  hB : w0.heap.size ≤ D.B
  hT : ∀ κ, 0 < D.m κ → w0.heap.size ≤ D.T κ ∧ D.T κ ≠ D.B
  hTT : ∀ κ κ', 0 < D.m κ → 0 < D.m κ' → κ ≠ κ' → D.T κ ≠ D.T κ'
  hmc : ∀ κ, D.m κ ≤ D.c κ ∧ D.c κ ≤ maxLen
  nrg : ∀ κ i, i < D.m κ → -9223372036854775808 ≤ D.N κ i ∧ D.N κ i ≤ 9223372036854775807
  lnb : ∀ κ i, i < D.m κ → D.ln κ i ≤ 68719476736
  nb : ∀ κ i, i < D.m κ → ∀ b, D.sa κ i = some ⟨b, 0, none⟩ → b ≠ D.B ∧ ∀ κ', 0 < D.m κ' → b ≠ D.T κ'
  ap : ∀ κ i, i < D.m κ → ∀ κ' j, j < D.m κ' → ¬ (κ = κ' ∧ i = j) → ∀ b, D.sa κ i = some ⟨b, 0, none⟩ → D.sa κ' j ≠ some ⟨b, 0, none⟩
/-- .. as a later world holds it. -/
structure BkT (D : BkD) (w0 W : World) : Prop where
  low : Below w0.heap.size w0 W
  fld : ∀ κ, 1 ≤ κ → κ < 17 → 0 < D.m κ → W.cell? ⟨D.B, κ, none⟩ = some (.slice (some ⟨D.T κ, 0, none⟩) (D.m κ) (D.c κ))
  nil : ∀ κ, 1 ≤ κ → κ < 17 → D.m κ = 0 → W.cell? ⟨D.B, κ, none⟩ = some (.slice none 0 0)
  ent : ∀ κ i, i < D.m κ → W.cell? ⟨D.T κ, i * 3, none⟩ = some (.slice (D.sa κ i) (D.ln κ i) (D.sc κ i)) ∧ (∃ a l q, W.cell? ⟨D.T κ, i * 3 + 1, none⟩ = some (.slice a l q)) ∧ W.cell? ⟨D.T κ, i * 3 + 2, none⟩ = some (.int .i64 (D.N κ i))
  frz : ∀ κ j, j < D.m κ * 3 → W.frozen? ⟨D.T κ, j, none⟩ = false
section
variable {K : KTab} {D : BkD} {w0 W W' : World}
theorem BkT.below (h : BkT D w0 W) (hb : Below W.heap.size W W') : BkT D w0 W' := by
  have hc : ∀ {a : Addr} {v : Value}, W.cell? a = some v → W'.cell? a = some v := fun e => by rw [hb.cell (World.block_lt_of_cell? _ _ e), e]
  refine ⟨h.low.trans (hb.mono h.low.size), fun κ h1 h2 h3 => hc (h.fld κ h1 h2 h3), fun κ h1 h2 h3 => hc (h.nil κ h1 h2 h3), fun κ i hi => ?_, fun κ j hj => ?_⟩
  · obtain ⟨h1, ⟨a, l, q, h2⟩, h3⟩ := h.ent κ i hi
    exact ⟨hc h1, ⟨a, l, q, hc h2⟩, hc h3⟩
  · have h1 := (h.ent κ 0 (by omega)).1
    have hlt := World.block_lt_of_cell? _ _ h1
    rw [hb.frozen (p := ⟨D.T κ, j, none⟩) hlt]
    exact h.frz κ j hj
theorem BkT.step {g : Nat} (h : BkT D w0 W) (hg : W.grownBy W' (some g)) (hge : w0.heap.size ≤ g) (h1 : g ≠ D.B) (h2 : ∀ κ, 0 < D.m κ → g ≠ D.T κ) : BkT D w0 W' := by
  have hc : ∀ {a : Addr} {v : Value}, a.block ≠ g → W.cell? a = some v → W'.cell? a = some v := fun hne e => hg.cell e (by simpa using hne)
  refine ⟨h.low.grown hg h.low.size (fun k e => by cases e; exact hge), fun κ q1 q2 q3 => hc (Ne.symm h1) (h.fld κ q1 q2 q3), fun κ q1 q2 q3 => hc (Ne.symm h1) (h.nil κ q1 q2 q3), fun κ i hi => ?_, fun κ j hj => ?_⟩
  · have hne := Ne.symm (h2 κ (by omega))
    obtain ⟨e1, ⟨a, l, q, e2⟩, e3⟩ := h.ent κ i hi
    exact ⟨hc hne e1, ⟨a, l, q, hc hne e2⟩, hc hne e3⟩
  · have hne := Ne.symm (h2 κ (by omega))
    have e1 := (h.ent κ 0 (by omega)).1
    have hlt := World.block_lt_of_cell? _ _ e1
    rw [World.frozen?_of_block (hg.block (D.T κ) hlt (by simpa using hne))]
    exact h.frz κ j hj

/-- A row of marks. -/
def MarkRow (K : KTab) (w0 : World) (κ : Nat) (n : Int) (v : Value) (k f : Nat) (W : World) : Prop := ∃ X, W.ownsRow w0.heap.size (K.ty κ) (K.sz κ) v k X ∧ ∀ q, q < f → ∀ r, r < K.sz κ → X[q * K.sz κ + r]? = (K.mark κ n)[r]?
theorem MarkRow.below {κ k f : Nat} {n : Int} {v : Value} (h : MarkRow K w0 κ n v k f W) (hl : Below W.heap.size W W') : MarkRow K w0 κ n v k f W' := let ⟨X, h1, h2⟩ := h; ⟨X, ownsRow_below h1 hl, h2⟩
theorem MarkRow.less {κ k f f' : Nat} {n : Int} {v : Value} (h : MarkRow K w0 κ n v k f W) (hf : f' ≤ f) : MarkRow K w0 κ n v k f' W := let ⟨X, h1, h2⟩ := h; ⟨X, h1, fun q hq => h2 q (by omega)⟩
theorem MarkRow.kept {κ k f g : Nat} {n : Int} {a : Option Addr} {l q : Nat} (h : MarkRow K w0 κ n (.slice a l q) k f W) (hg : W.grownBy W' (some g)) (hne : ∀ b, a = some ⟨b, 0, none⟩ → b ≠ g) : MarkRow K w0 κ n (.slice a l q) k f W' := by
  obtain ⟨X, h1, h2⟩ := h
  refine ⟨X, h1.kept hg ?_, h2⟩
  rcases h1.2 with ⟨e, -⟩ | ⟨b, cap, cur, e, -⟩
  · left
    simp only [Value.slice.injEq] at e
    rw [e.1]
    rfl
  · right
    simp only [Value.slice.injEq] at e
    have := hne b e.1
    rw [e.1]
    simpa [Value.ownBlock] using this
theorem MarkRow.lt {κ k f b : Nat} {n : Int} {a : Option Addr} {l q : Nat} (h : MarkRow K w0 κ n (.slice a l q) k f W) (e : a = some ⟨b, 0, none⟩) : w0.heap.size ≤ b ∧ b < W.heap.size := by
  obtain ⟨X, h1, -⟩ := h
  exact h1.lt b (by rw [e]; rfl)
/-- Cells put one behind the other. -/
def putL (W : World) (g o : Nat) : List Value → World
  | [] => W
  | c :: cs => putL (W.setCell ⟨g, o, none⟩ c) g (o + 1) cs
/-- .. into a row. -/
def setL (X : List Value) (o : Nat) : List Value → List Value
  | [] => X
  | c :: cs => setL (X.set o c) (o + 1) cs
theorem setL_get : ∀ (cs X : List Value) (o j : Nat), o + cs.length ≤ X.length → (setL X o cs)[j]? = if o ≤ j ∧ j < o + cs.length then cs[j - o]? else X[j]?
  | [], X, o, j, _ => by rw [setL, if_neg (by simp only [List.length_nil]; omega)]
  | c :: cs, X, o, j, h => by
    rw [setL, setL_get cs _ _ _ (by simp at h ⊢; omega)]
    simp only [List.length_cons] at h ⊢
    by_cases h1 : o + 1 ≤ j ∧ j < o + 1 + cs.length
    · rw [if_pos h1, if_pos (by omega), show j - o = (j - (o + 1)) + 1 by omega, List.getElem?_cons_succ]
    · rw [if_neg h1]
      by_cases h2 : j = o
      · subst h2
        rw [if_pos (by omega), Nat.sub_self, List.getElem?_set, if_pos rfl, if_pos (by omega)]
        rfl
      · rw [if_neg (by omega), List.getElem?_set_ne (by omega)]
theorem putL_own {b n g cp sz : Nat} {T : TypeId} : ∀ (cs X : List Value) (W : World) (o : Nat), W.ownsRow b T sz (.slice (some ⟨g, 0, none⟩) n cp) n X →
    (putL W g o cs).ownsRow b T sz (.slice (some ⟨g, 0, none⟩) n cp) n (setL X o cs) ∧ W.grownBy (putL W g o cs) (some g)
  | [], X, W, o, h => ⟨h, rfl, rfl, rfl, Nat.le_refl _, fun _ _ _ => rfl⟩
  | c :: cs, X, W, o, h => by
    obtain ⟨a1, a2⟩ := h.stored o c
    obtain ⟨b1, b2⟩ := putL_own cs _ _ (o + 1) a1
    exact ⟨b1, grown_trans a2 b2⟩
/-- One mark more in a row. -/
theorem MarkRow.put {κ n g cp k : Nat} {x : Int} (h : MarkRow K w0 κ x (.slice (some ⟨g, 0, none⟩) n cp) n k W) (hk : k < n) :
    MarkRow K w0 κ x (.slice (some ⟨g, 0, none⟩) n cp) n (k + 1) (putL W g (k * K.sz κ) (K.mark κ x)) ∧ W.grownBy (putL W g (k * K.sz κ) (K.mark κ x)) (some g) := by
  obtain ⟨X, h1, h2⟩ := h
  obtain ⟨h3, h4⟩ := putL_own (K.mark κ x) X W (k * K.sz κ) h1
  have hl : X.length = n * K.sz κ := h1.1
  have hle : (k + 1) * K.sz κ ≤ n * K.sz κ := Nat.mul_le_mul_right _ hk
  rw [Nat.add_mul, Nat.one_mul] at hle
  refine ⟨⟨_, h3, fun q hq r hr => ?_⟩, h4⟩
  rw [setL_get _ _ _ _ (by rw [K.len]; omega), K.len]
  by_cases hqk : q = k
  · subst hqk
    rw [if_pos (by omega), show q * K.sz κ + r - q * K.sz κ = r by omega]
  · have hlt : (q + 1) * K.sz κ ≤ k * K.sz κ := Nat.mul_le_mul_right _ (by omega)
    rw [Nat.add_mul, Nat.one_mul] at hlt
    rw [if_neg (by omega)]
    exact h2 q (by omega) r hr

/-- The lists' places, each filled with its mark from the first one on, as far as f says. -/
def RowsF (K : KTab) (D : BkD) (w0 : World) (f : Nat → Nat → Nat) (W : World) : Prop :=
  ∀ κ j, j < D.m κ → MarkRow K w0 κ (D.N κ j) (.slice (D.sa κ j) (D.ln κ j) (D.sc κ j)) (D.ln κ j) (f κ j) W
variable {f f' : Nat → Nat → Nat}
theorem RowsF.below (h : RowsF K D w0 f W) (hb : Below W.heap.size W W') : RowsF K D w0 f W' := fun κ j hj => (h κ j hj).below hb
theorem RowsF.mono (h : RowsF K D w0 f W) (hf : ∀ κ j, j < D.m κ → f' κ j ≤ f κ j) : RowsF K D w0 f' W := fun κ j hj => (h κ j hj).less (hf κ j hj)
theorem RowsF.at (h : RowsF K D w0 f W) {κ i : Nat} (hi : i < D.m κ) (h0 : 0 < D.ln κ i) : ∃ g, D.sa κ i = some ⟨g, 0, none⟩ ∧ w0.heap.size ≤ g ∧ g < W.heap.size ∧ (∀ k, k < D.ln κ i * K.sz κ → ∃ u, W.cell? ⟨g, k, none⟩ = some u) ∧ ∀ k, W.frozen? ⟨g, k, none⟩ = false := by
  obtain ⟨X, h1, -⟩ := h κ i hi
  have hl := h1.1
  rcases h1.2 with ⟨e, -⟩ | ⟨g, cap, cur, e, hbase, hb, rest⟩
  · simp only [Value.slice.injEq] at e
    omega
  · simp only [Value.slice.injEq] at e
    obtain ⟨e1, -, e3⟩ := e
    rw [e1] at h1
    refine ⟨g, e1, hbase, (Array.getElem?_eq_some_iff.1 hb).1, fun k hk => ?_, fun k => h1.frozenAt k⟩
    refine ⟨X[k]'(by omega), ?_⟩
    rw [h1.cellAt k (by omega), List.getElem?_eq_getElem]
theorem RowsF.store (hs : BkS D w0) (h : RowsF K D w0 f W) {κ i g k : Nat} (hi : i < D.m κ) (he : D.sa κ i = some ⟨g, 0, none⟩) (hk : k < D.ln κ i) (hf : f κ i = k) :
    W.grownBy (putL W g (k * K.sz κ) (K.mark κ (D.N κ i))) (some g) ∧ RowsF K D w0 (fun κ' j => if κ' = κ ∧ j = i then k + 1 else f κ' j) (putL W g (k * K.sz κ) (K.mark κ (D.N κ i))) := by
  have h1 := h κ i hi
  rw [he, hf] at h1
  obtain ⟨h3, h4⟩ := h1.put hk
  refine ⟨h4, fun κ' j hj => ?_⟩
  dsimp only
  by_cases hji : κ' = κ ∧ j = i
  · obtain ⟨rfl, rfl⟩ := hji
    rw [he, if_pos ⟨rfl, rfl⟩]
    exact h3
  · rw [if_neg hji]
    refine (h κ' j hj).kept h4 fun b e hbg => ?_
    subst hbg
    exact hs.ap κ i hi κ' j hj (fun hh => hji ⟨hh.1.symm, hh.2.symm⟩) _ he e
end
end Go.Proofs.YtpmkkgndpfbkdaaGreatDoor.Bk
