/-
  A book of lists of many kinds: what the memory holds of it, and what stays of it behind a store, an allocation, a call.
  Conditions: the book, its lists, and what they hold lie in blocks behind a world; no two share a block.
  A book of lists of many kinds: the rounds of its fill.., grow.. and look..
  Conditions: the book, its lists, and what they hold lie in blocks behind a world; no two share a block.
  A book of lists of many kinds: a grown list put into it, a mark appended, what look.. reads; the book in the making.
  Conditions: the book, its lists, and what they hold lie in blocks behind a world; no two share a block.
  A book of lists of many kinds, in the making.
  Conditions: all lies in blocks of the call's own.
  Plain: what a book is told of a value and all lists within it, list by list; the book in the making that has been told so much ('BT').
  Conditions: none.
-/
import Derived.Test.YtmhemajcnfcdmaaGreatDoorBkH
import Derived.Test.YtmhemajcnfcdmaaGreatDoorVal
namespace Go.Proofs.YtmhemajcnfcdmaaGreatDoor.Bk
set_option linter.unusedVariables false
set_option linter.unusedSimpArgs false
open Go.RowKit
structure KTab where
  ty : Nat → TypeId
  sz : Nat → Nat
  mark : Nat → Int → List Value
  len : ∀ κ n, (mark κ n).length = sz κ
structure BkD where
  B : Nat
  T : Nat → Nat
  m : Nat → Nat
  c : Nat → Nat
  sa : Nat → Nat → Option Addr
  ln : Nat → Nat → Nat
  sc : Nat → Nat → Nat
  N : Nat → Nat → Int
structure BkS (D : BkD) (w0 : World) : Prop where
  hB : w0.heap.size ≤ D.B
  hT : ∀ κ, 0 < D.m κ → w0.heap.size ≤ D.T κ ∧ D.T κ ≠ D.B
  hTT : ∀ κ κ', 0 < D.m κ → 0 < D.m κ' → κ ≠ κ' → D.T κ ≠ D.T κ'
  hmc : ∀ κ, D.m κ ≤ D.c κ ∧ D.c κ ≤ maxLen
  nrg : ∀ κ i, i < D.m κ → -9223372036854775808 ≤ D.N κ i ∧ D.N κ i ≤ 9223372036854775807
  lnb : ∀ κ i, i < D.m κ → D.ln κ i ≤ 68719476736
  nb : ∀ κ i, i < D.m κ → ∀ b, D.sa κ i = some ⟨b, 0, none⟩ → b ≠ D.B ∧ ∀ κ', 0 < D.m κ' → b ≠ D.T κ'
  ap : ∀ κ i, i < D.m κ → ∀ κ' j, j < D.m κ' → ¬ (κ = κ' ∧ i = j) → ∀ b, D.sa κ i = some ⟨b, 0, none⟩ → D.sa κ' j ≠ some ⟨b, 0, none⟩
structure BkT (D : BkD) (w0 W : World) : Prop where
  low : Below w0.heap.size w0 W
  fld : ∀ κ, 1 ≤ κ → κ < 17 → 0 < D.m κ → W.cell? ⟨D.B, κ, none⟩ = some (.slice (some ⟨D.T κ, 0, none⟩) (D.m κ) (D.c κ))
  nil : ∀ κ, 1 ≤ κ → κ < 17 → D.m κ = 0 → W.cell? ⟨D.B, κ, none⟩ = some (.slice none 0 0)
  ent : ∀ κ i, i < D.m κ → W.cell? ⟨D.T κ, i * 3, none⟩ = some (.slice (D.sa κ i) (D.ln κ i) (D.sc κ i)) ∧ (∃ a l q, W.cell? ⟨D.T κ, i * 3 + 1, none⟩ = some (.slice a l q)) ∧ W.cell? ⟨D.T κ, i * 3 + 2, none⟩ = some (.int .i64 (D.N κ i))
  frz : ∀ κ j, j < D.m κ * 3 → W.frozen? ⟨D.T κ, j, none⟩ = false
section
variable {K : KTab} {D : BkD} {w0 W W' : World}
theorem BkT.below (h : BkT D w0 W) (hb : Below W.heap.size W W') : BkT D w0 W' := by
  have hc : ∀ {a : Addr} {v : Value}, W.cell? a = some v → W'.cell? a = some v := fun e => by rw [hb.cell (World.block_lt_of_cell? _ _ e), e]
  refine ⟨h.low.trans (hb.mono h.low.size), fun κ h1 h2 h3 => hc (h.fld κ h1 h2 h3), fun κ h1 h2 h3 => hc (h.nil κ h1 h2 h3), fun κ i hi => ?_, fun κ j hj => ?_⟩
  · obtain ⟨h1, ⟨a, l, q, h2⟩, h3⟩ := h.ent κ i hi
    exact ⟨hc h1, ⟨a, l, q, hc h2⟩, hc h3⟩
  · have h1 := (h.ent κ 0 (by omega)).1
    have hlt := World.block_lt_of_cell? _ _ h1
    rw [hb.frozen (p := ⟨D.T κ, j, none⟩) hlt]
    exact h.frz κ j hj
theorem BkT.step {g : Nat} (h : BkT D w0 W) (hg : W.grownBy W' (some g)) (hge : w0.heap.size ≤ g) (h1 : g ≠ D.B) (h2 : ∀ κ, 0 < D.m κ → g ≠ D.T κ) : BkT D w0 W' := by
  have hc : ∀ {a : Addr} {v : Value}, a.block ≠ g → W.cell? a = some v → W'.cell? a = some v := fun hne e => hg.cell e (by simpa using hne)
  refine ⟨h.low.grown hg h.low.size (fun k e => by cases e; exact hge), fun κ q1 q2 q3 => hc (Ne.symm h1) (h.fld κ q1 q2 q3), fun κ q1 q2 q3 => hc (Ne.symm h1) (h.nil κ q1 q2 q3), fun κ i hi => ?_, fun κ j hj => ?_⟩
  · have hne := Ne.symm (h2 κ (by omega))
    obtain ⟨e1, ⟨a, l, q, e2⟩, e3⟩ := h.ent κ i hi
    exact ⟨hc hne e1, ⟨a, l, q, hc hne e2⟩, hc hne e3⟩
  · have hne := Ne.symm (h2 κ (by omega))
    have e1 := (h.ent κ 0 (by omega)).1
    have hlt := World.block_lt_of_cell? _ _ e1
    rw [World.frozen?_of_block (hg.block (D.T κ) hlt (by simpa using hne))]
    exact h.frz κ j hj
def MarkRow (K : KTab) (w0 : World) (κ : Nat) (n : Int) (v : Value) (k f : Nat) (W : World) : Prop := ∃ X, W.ownsRow w0.heap.size (K.ty κ) (K.sz κ) v k X ∧ ∀ q, q < f → ∀ r, r < K.sz κ → X[q * K.sz κ + r]? = (K.mark κ n)[r]?
theorem MarkRow.below {κ k f : Nat} {n : Int} {v : Value} (h : MarkRow K w0 κ n v k f W) (hl : Below W.heap.size W W') : MarkRow K w0 κ n v k f W' := let ⟨X, h1, h2⟩ := h; ⟨X, ownsRow_below h1 hl, h2⟩
theorem MarkRow.less {κ k f f' : Nat} {n : Int} {v : Value} (h : MarkRow K w0 κ n v k f W) (hf : f' ≤ f) : MarkRow K w0 κ n v k f' W := let ⟨X, h1, h2⟩ := h; ⟨X, h1, fun q hq => h2 q (by omega)⟩
theorem MarkRow.kept {κ k f g : Nat} {n : Int} {a : Option Addr} {l q : Nat} (h : MarkRow K w0 κ n (.slice a l q) k f W) (hg : W.grownBy W' (some g)) (hne : ∀ b, a = some ⟨b, 0, none⟩ → b ≠ g) : MarkRow K w0 κ n (.slice a l q) k f W' := by
  obtain ⟨X, h1, h2⟩ := h
  refine ⟨X, h1.kept hg ?_, h2⟩
  rcases h1.2 with ⟨e, -⟩ | ⟨b, cap, cur, e, -⟩
  · left
    simp only [Value.slice.injEq] at e
    rw [e.1]
    rfl
  · right
    simp only [Value.slice.injEq] at e
    have := hne b e.1
    rw [e.1]
    simpa [Value.ownBlock] using this
theorem MarkRow.lt {κ k f b : Nat} {n : Int} {a : Option Addr} {l q : Nat} (h : MarkRow K w0 κ n (.slice a l q) k f W) (e : a = some ⟨b, 0, none⟩) : w0.heap.size ≤ b ∧ b < W.heap.size := by
  obtain ⟨X, h1, -⟩ := h
  exact h1.lt b (by rw [e]; rfl)
def putL (W : World) (g o : Nat) : List Value → World
  | [] => W
  | c :: cs => putL (W.setCell ⟨g, o, none⟩ c) g (o + 1) cs
def setL (X : List Value) (o : Nat) : List Value → List Value
  | [] => X
  | c :: cs => setL (X.set o c) (o + 1) cs
theorem setL_get : ∀ (cs X : List Value) (o j : Nat), o + cs.length ≤ X.length → (setL X o cs)[j]? = if o ≤ j ∧ j < o + cs.length then cs[j - o]? else X[j]?
  | [], X, o, j, _ => by rw [setL, if_neg (by simp only [List.length_nil]; omega)]
  | c :: cs, X, o, j, h => by
    rw [setL, setL_get cs _ _ _ (by simp at h ⊢; omega)]
    simp only [List.length_cons] at h ⊢
    by_cases h1 : o + 1 ≤ j ∧ j < o + 1 + cs.length
    · rw [if_pos h1, if_pos (by omega), show j - o = (j - (o + 1)) + 1 by omega, List.getElem?_cons_succ]
    · rw [if_neg h1]
      by_cases h2 : j = o
      · subst h2
        rw [if_pos (by omega), Nat.sub_self, List.getElem?_set, if_pos rfl, if_pos (by omega)]
        rfl
      · rw [if_neg (by omega), List.getElem?_set_ne (by omega)]
theorem putL_own {b n g cp sz : Nat} {T : TypeId} : ∀ (cs X : List Value) (W : World) (o : Nat), W.ownsRow b T sz (.slice (some ⟨g, 0, none⟩) n cp) n X →
    (putL W g o cs).ownsRow b T sz (.slice (some ⟨g, 0, none⟩) n cp) n (setL X o cs) ∧ W.grownBy (putL W g o cs) (some g)
  | [], X, W, o, h => ⟨h, rfl, rfl, rfl, Nat.le_refl _, fun _ _ _ => rfl⟩
  | c :: cs, X, W, o, h => by
    obtain ⟨a1, a2⟩ := h.stored o c
    obtain ⟨b1, b2⟩ := putL_own cs _ _ (o + 1) a1
    exact ⟨b1, grown_trans a2 b2⟩
theorem MarkRow.put {κ n g cp k : Nat} {x : Int} (h : MarkRow K w0 κ x (.slice (some ⟨g, 0, none⟩) n cp) n k W) (hk : k < n) :
    MarkRow K w0 κ x (.slice (some ⟨g, 0, none⟩) n cp) n (k + 1) (putL W g (k * K.sz κ) (K.mark κ x)) ∧ W.grownBy (putL W g (k * K.sz κ) (K.mark κ x)) (some g) := by
  obtain ⟨X, h1, h2⟩ := h
  obtain ⟨h3, h4⟩ := putL_own (K.mark κ x) X W (k * K.sz κ) h1
  have hl : X.length = n * K.sz κ := h1.1
  have hle : (k + 1) * K.sz κ ≤ n * K.sz κ := Nat.mul_le_mul_right _ hk
  rw [Nat.add_mul, Nat.one_mul] at hle
  refine ⟨⟨_, h3, fun q hq r hr => ?_⟩, h4⟩
  rw [setL_get _ _ _ _ (by rw [K.len]; omega), K.len]
  by_cases hqk : q = k
  · subst hqk
    rw [if_pos (by omega), show q * K.sz κ + r - q * K.sz κ = r by omega]
  · have hlt : (q + 1) * K.sz κ ≤ k * K.sz κ := Nat.mul_le_mul_right _ (by omega)
    rw [Nat.add_mul, Nat.one_mul] at hlt
    rw [if_neg (by omega)]
    exact h2 q (by omega) r hr
def RowsF (K : KTab) (D : BkD) (w0 : World) (f : Nat → Nat → Nat) (W : World) : Prop :=
  ∀ κ j, j < D.m κ → MarkRow K w0 κ (D.N κ j) (.slice (D.sa κ j) (D.ln κ j) (D.sc κ j)) (D.ln κ j) (f κ j) W
variable {f f' : Nat → Nat → Nat}
theorem RowsF.below (h : RowsF K D w0 f W) (hb : Below W.heap.size W W') : RowsF K D w0 f W' := fun κ j hj => (h κ j hj).below hb
theorem RowsF.mono (h : RowsF K D w0 f W) (hf : ∀ κ j, j < D.m κ → f' κ j ≤ f κ j) : RowsF K D w0 f' W := fun κ j hj => (h κ j hj).less (hf κ j hj)
theorem RowsF.at (h : RowsF K D w0 f W) {κ i : Nat} (hi : i < D.m κ) (h0 : 0 < D.ln κ i) : ∃ g, D.sa κ i = some ⟨g, 0, none⟩ ∧ w0.heap.size ≤ g ∧ g < W.heap.size ∧ (∀ k, k < D.ln κ i * K.sz κ → ∃ u, W.cell? ⟨g, k, none⟩ = some u) ∧ ∀ k, W.frozen? ⟨g, k, none⟩ = false := by
  obtain ⟨X, h1, -⟩ := h κ i hi
  have hl := h1.1
  rcases h1.2 with ⟨e, -⟩ | ⟨g, cap, cur, e, hbase, hb, rest⟩
  · simp only [Value.slice.injEq] at e
    omega
  · simp only [Value.slice.injEq] at e
    obtain ⟨e1, -, e3⟩ := e
    rw [e1] at h1
    refine ⟨g, e1, hbase, (Array.getElem?_eq_some_iff.1 hb).1, fun k hk => ?_, fun k => h1.frozenAt k⟩
    refine ⟨X[k]'(by omega), ?_⟩
    rw [h1.cellAt k (by omega), List.getElem?_eq_getElem]
theorem RowsF.store (hs : BkS D w0) (h : RowsF K D w0 f W) {κ i g k : Nat} (hi : i < D.m κ) (he : D.sa κ i = some ⟨g, 0, none⟩) (hk : k < D.ln κ i) (hf : f κ i = k) :
    W.grownBy (putL W g (k * K.sz κ) (K.mark κ (D.N κ i))) (some g) ∧ RowsF K D w0 (fun κ' j => if κ' = κ ∧ j = i then k + 1 else f κ' j) (putL W g (k * K.sz κ) (K.mark κ (D.N κ i))) := by
  have h1 := h κ i hi
  rw [he, hf] at h1
  obtain ⟨h3, h4⟩ := h1.put hk
  refine ⟨h4, fun κ' j hj => ?_⟩
  dsimp only
  by_cases hji : κ' = κ ∧ j = i
  · obtain ⟨rfl, rfl⟩ := hji
    rw [he, if_pos ⟨rfl, rfl⟩]
    exact h3
  · rw [if_neg hji]
    refine (h κ' j hj).kept h4 fun b e hbg => ?_
    subst hbg
    exact hs.ap κ i hi κ' j hj (fun hh => hji ⟨hh.1.symm, hh.2.symm⟩) _ he e
end
end Go.Proofs.YtmhemajcnfcdmaaGreatDoor.Bk
namespace Go.Proofs.YtmhemajcnfcdmaaGreatDoor.Bk
set_option linter.unusedVariables false
set_option linter.unusedSimpArgs false
open Go.RowKit
section
variable {K : KTab} {D : BkD} {w0 W W' : World} {κ i k hb : Nat} {v : Value}
def fillF (D : BkD) (κ i k : Nat) : Nat → Nat → Nat := fun κ' j => if κ' < κ then D.ln κ' j else if κ' = κ then (if j < i then D.ln κ' j else if j = i then k else 0) else 0
structure FI (K : KTab) (D : BkD) (w0 : World) (κ i k hb : Nat) (v : Value) (W : World) : Prop where
  bk : BkT D w0 W
  rows : RowsF K D w0 (fillF D κ i k) W
  hat : At W hb 0 [.slice (D.sa κ i) (D.ln κ i) (D.sc κ i), v, .int .i64 (D.N κ i)]
  hne : ∀ κ' j, j < D.m κ' → D.sa κ' j ≠ some ⟨hb, 0, none⟩
theorem FI.below (h : FI K D w0 κ i k hb v W) (hl : Below W.heap.size W W') : FI K D w0 κ i k hb v W' := ⟨h.bk.below hl, h.rows.below hl, h.hat.below hl, h.hne⟩
theorem FI.store (hs : BkS D w0) (h : FI K D w0 κ i k hb v W) {g : Nat} (hi : i < D.m κ) (he : D.sa κ i = some ⟨g, 0, none⟩) (hk : k < D.ln κ i) : FI K D w0 κ i (k + 1) hb v (putL W g (k * K.sz κ) (K.mark κ (D.N κ i))) := by
  obtain ⟨g2, e2, hge, hlt, -⟩ := h.rows.at hi (by omega)
  rw [he] at e2
  simp only [Option.some.injEq, Addr.mk.injEq, and_true] at e2
  subst e2
  have hn := hs.nb κ i hi g he
  obtain ⟨h1, h2⟩ := h.rows.store hs hi he hk (by simp [fillF])
  have hgh : g ≠ hb := fun e => h.hne κ i hi (by rw [he, e])
  refine ⟨h.bk.step h1 hge hn.1 hn.2, h2.mono fun κ' j hj => ?_, fun q hq => ?_, h.hne⟩
  · unfold fillF
    by_cases h3 : κ' = κ ∧ j = i
    · obtain ⟨rfl, rfl⟩ := h3
      simp
    · rw [if_neg h3]
      by_cases a1 : κ' < κ
      · simp [a1]
      · by_cases a2 : κ' = κ
        · subst a2
          have a3 : j ≠ i := fun e => h3 ⟨rfl, e⟩
          simp [a3]
        · simp [a1, a2]
  · have := h.hat q hq
    rw [List.getElem?_eq_getElem hq] at this ⊢
    exact h1.cell this (by simpa using Ne.symm hgh)
theorem RowsF.lt {f : Nat → Nat → Nat} (h : RowsF K D w0 f W) {κ j b : Nat} (hj : j < D.m κ) (e : D.sa κ j = some ⟨b, 0, none⟩) : b < W.heap.size := ((h κ j hj).lt e).2
theorem FI.start {T' : TypeId} (h : BkT D w0 W) (hr : RowsF K D w0 (fillF D κ i 0) W) : FI K D w0 κ i 0 W.heap.size v (W.alloc (.cells #[.slice (D.sa κ i) (D.ln κ i) (D.sc κ i), v, .int .i64 (D.N κ i)] T')) :=
  ⟨h.below (below_alloc _ _), hr.below (below_alloc _ _), at_new rfl (Below.refl _ _), fun _ _ hj e => absurd (hr.lt hj e) (Nat.lt_irrefl _)⟩
theorem FI.cells (h : FI K D w0 κ i k hb v W) {g : Nat} (hi : i < D.m κ) (hk : k < D.ln κ i) (he : D.sa κ i = some ⟨g, 0, none⟩) :
    W.cell? ⟨hb, 0, none⟩ = some (.slice (some ⟨g, 0, none⟩) (D.ln κ i) (D.sc κ i)) ∧ W.cell? ⟨hb, 1, none⟩ = some v ∧ W.cell? ⟨hb, 2, none⟩ = some (.int .i64 (D.N κ i)) ∧ ∀ r, r < K.sz κ → W.cell? ⟨g, k * K.sz κ + r, none⟩ = some (rs W g (k * K.sz κ + r)) ∧ W.frozen? ⟨g, k * K.sz κ + r, none⟩ = false := by
  obtain ⟨g2, e2, -, -, h3, h4⟩ := h.rows.at hi (by omega)
  rw [he] at e2
  simp only [Option.some.injEq, Addr.mk.injEq, and_true] at e2
  subst e2
  have hle : (k + 1) * K.sz κ ≤ D.ln κ i * K.sz κ := Nat.mul_le_mul_right _ hk
  rw [Nat.add_mul, Nat.one_mul] at hle
  rw [← he]
  exact ⟨h.hat 0 (by decide : 0 < 3), h.hat 1 (by decide : 1 < 3), h.hat 2 (by decide : 2 < 3), fun r hr => ⟨let ⟨_, hu⟩ := h3 (k * K.sz κ + r) (by omega); rs_some hu, h4 _⟩⟩
theorem FI.len (h : FI K D w0 κ i k hb v W) : W.cell? ⟨hb, 0, none⟩ = some (.slice (D.sa κ i) (D.ln κ i) (D.sc κ i)) := h.hat 0 (by decide : 0 < 3)
theorem FI.next (h : FI K D w0 κ i (D.ln κ i) hb v W) : RowsF K D w0 (fillF D κ (i + 1) 0) W := h.rows.mono fun κ' j hj => by
  unfold fillF
  by_cases h1 : κ' < κ
  · simp [h1]
  · by_cases h2 : κ' = κ
    · subst h2
      simp only [Nat.lt_irrefl, if_false, if_true]
      by_cases h3 : j < i
      · rw [if_pos (by omega), if_pos h3]; exact Nat.le_refl _
      · by_cases h4 : j = i
        · subst h4
          simp
        · rw [if_neg (by omega), if_neg h3, if_neg h4]
          split <;> omega
    · simp [h1, h2]
theorem fill_next (h : RowsF K D w0 (fillF D κ (D.m κ) 0) W) : RowsF K D w0 (fillF D (κ + 1) 0 0) W := h.mono fun κ' j hj => by
  unfold fillF
  by_cases h1 : κ' < κ
  · rw [if_pos (by omega), if_pos h1]; exact Nat.le_refl _
  · by_cases h2 : κ' = κ
    · subst h2
      rw [if_pos (by omega), if_neg (by omega), if_pos rfl, if_pos hj]; exact Nat.le_refl _
    · rw [if_neg (by omega)]
      split
      · simp
      · exact Nat.zero_le _
theorem MarkRow.take {κ n l cp g : Nat} {x : Int} (h : MarkRow K w0 κ x (.slice (some ⟨g, 0, none⟩) n cp) n n W) (hl : l ≤ n) : MarkRow K w0 κ x (.slice (some ⟨g, 0, none⟩) l cp) l l W := by
  obtain ⟨X, h1, h2⟩ := h
  have hX := h1.1
  have hle : l * K.sz κ ≤ n * K.sz κ := Nat.mul_le_mul_right _ hl
  rcases h1.2 with ⟨e, -⟩ | ⟨g', cap', cur, e, hbase, hb, q1, q2, q3, q4⟩
  · cases e
  cases e
  refine ⟨X.take (l * K.sz κ), ⟨by rw [List.length_take, hX]; omega, .inr ⟨g, cp, cur, rfl, hbase, hb, by omega, q2, q3, ?_⟩⟩, fun q hq r hr => ?_⟩
  · rw [← q4, List.take_take]
    congr 1
    omega
  · have hlt : (q + 1) * K.sz κ ≤ l * K.sz κ := Nat.mul_le_mul_right _ hq
    rw [Nat.add_mul, Nat.one_mul] at hlt
    rw [List.getElem?_take, if_pos (by omega)]
    exact h2 q (by omega) r hr
variable {ws : Nat}
def DoneG (K : KTab) (D : BkD) (w0 : World) (ws bd κ j : Nat) (W : World) : Prop :=
  ∃ g cp, W.cell? ⟨D.T κ, j * 3 + 1, none⟩ = some (.slice (some ⟨g, 0, none⟩) (D.ln κ j + 40) cp) ∧ MarkRow K w0 κ (D.N κ j) (.slice (some ⟨g, 0, none⟩) (D.ln κ j + 40) cp) (D.ln κ j + 40) (D.ln κ j + 40) W ∧ (D.sa κ j = some ⟨g, 0, none⟩ ∨ ws ≤ g) ∧ g < bd
theorem DoneG.below {bd κ j : Nat} (h : DoneG K D w0 ws bd κ j W) (hl : Below W.heap.size W W') : DoneG K D w0 ws bd κ j W' := by
  obtain ⟨g, cp, h1, h2, h3, h4⟩ := h
  exact ⟨g, cp, by rw [hl.cell (World.block_lt_of_cell? _ _ h1), h1], h2.below hl, h3, h4⟩
theorem DoneG.kept {bd κ j g : Nat} (h : DoneG K D w0 ws bd κ j W) (hg : W.grownBy W' (some g)) (hT : g ≠ D.T κ) (hne : ∀ b, b < bd → (D.sa κ j = some ⟨b, 0, none⟩ ∨ ws ≤ b) → b ≠ g) : DoneG K D w0 ws bd κ j W' := by
  obtain ⟨g', cp, h1, h2, h3, h4⟩ := h
  refine ⟨g', cp, hg.cell h1 (by simpa using Ne.symm hT), h2.kept hg fun b e => ?_, h3, h4⟩
  simp only [Option.some.injEq, Addr.mk.injEq, and_true] at e
  subst e
  exact hne _ h4 h3
theorem DoneG.mono {bd bd' κ j : Nat} (h : DoneG K D w0 ws bd κ j W) (hb : bd ≤ bd') : DoneG K D w0 ws bd' κ j W := let ⟨g, cp, h1, h2, h3, h4⟩ := h; ⟨g, cp, h1, h2, h3, Nat.lt_of_lt_of_le h4 hb⟩
def Past (D : BkD) (κ i κ' j : Nat) : Prop := j < D.m κ' ∧ (κ' < κ ∨ κ' = κ ∧ j < i)
structure GS (D : BkD) (w0 : World) (ws : Nat) : Prop where
  s : BkS D w0
  lB : D.B < ws
  lT : ∀ κ, 0 < D.m κ → D.T κ < ws
  lr : ∀ κ j, j < D.m κ → ∀ b, D.sa κ j = some ⟨b, 0, none⟩ → b < ws
  ge : ∀ κ j, j < D.m κ → ∀ b, D.sa κ j = some ⟨b, 0, none⟩ → w0.heap.size ≤ b
  lw : w0.heap.size ≤ ws
structure GI (K : KTab) (D : BkD) (w0 : World) (ws κ i q hb : Nat) (v : Value) (a : Option Addr) (cp : Nat) (W : World) : Prop where
  bk : BkT D w0 W
  rows : RowsF K D w0 D.ln W
  hat : At W hb 0 [.slice (D.sa κ i) (D.ln κ i) (D.sc κ i), v, .int .i64 (D.N κ i)]
  hlt : hb < W.heap.size
  hws : ws ≤ hb
  done : ∀ κ' j, Past D κ i κ' j → DoneG K D w0 ws hb κ' j W
  long : MarkRow K w0 κ (D.N κ i) (.slice a (D.ln κ i + q) cp) (D.ln κ i + q) (D.ln κ i + q) W
  abl : (a = D.sa κ i ∧ cp = D.sc κ i) ∨ ∃ g, a = some ⟨g, 0, none⟩ ∧ hb < g
variable {q cp : Nat} {a : Option Addr}
theorem GI.below (h : GI K D w0 ws κ i q hb v a cp W) (hl : Below W.heap.size W W') : GI K D w0 ws κ i q hb v a cp W' :=
  ⟨h.bk.below hl, h.rows.below hl, h.hat.below hl, Nat.lt_of_lt_of_le h.hlt hl.size, h.hws, fun κ' j hj => (h.done κ' j hj).below hl, h.long.below hl, h.abl⟩
theorem GI.step (hs : GS D w0 ws) (h : GI K D w0 ws κ i q hb v a cp W) (hi : i < D.m κ) {g cp' : Nat} (hg : W.grownBy W' (some g)) (hl : MarkRow K w0 κ (D.N κ i) (.slice (some ⟨g, 0, none⟩) (D.ln κ i + (q + 1)) cp') (D.ln κ i + (q + 1)) (D.ln κ i + (q + 1)) W')
    (hc : (a = some ⟨g, 0, none⟩ ∧ cp' = cp) ∨ W.heap.size ≤ g) : GI K D w0 ws κ i (q + 1) hb v (some ⟨g, 0, none⟩) cp' W' := by
  have hhw := h.hws
  have hhl := h.hlt
  have hab : (D.sa κ i = some ⟨g, 0, none⟩ ∧ cp' = D.sc κ i) ∨ hb < g := by
    rcases hc with ⟨e1, e2⟩ | e
    · rcases h.abl with ⟨e3, e4⟩ | ⟨g', e3, e4⟩
      · exact .inl ⟨by rw [← e3, e1], by rw [e2, e4]⟩
      · rw [e1] at e3
        simp only [Option.some.injEq, Addr.mk.injEq, and_true] at e3
        subst e3
        exact .inr e4
    · exact .inr (by omega)
  have hgw : w0.heap.size ≤ g := by
    rcases hab with ⟨e1, -⟩ | e
    · exact hs.ge κ i hi g e1
    · have := hs.lw; omega
  have hgB : g ≠ D.B := by
    rcases hab with ⟨e1, -⟩ | e
    · exact (hs.s.nb κ i hi g e1).1
    · have := hs.lB; omega
  have hgT : ∀ κ', 0 < D.m κ' → g ≠ D.T κ' := by
    intro κ' hm
    rcases hab with ⟨e1, -⟩ | e
    · exact (hs.s.nb κ i hi g e1).2 κ' hm
    · have := hs.lT κ' hm; omega
  have hgh : g ≠ hb := by
    rcases hab with ⟨e1, -⟩ | e
    · have := hs.lr κ i hi g e1; omega
    · omega
  have hrow : ∀ κ' j, j < D.m κ' → ¬ (κ' = κ ∧ j = i) → ∀ b, D.sa κ' j = some ⟨b, 0, none⟩ → b ≠ g := by
    intro κ' j hj hji b e hbg
    subst hbg
    rcases hab with ⟨e1, -⟩ | e2
    · exact hs.s.ap κ i hi κ' j hj (fun hh => hji ⟨hh.1.symm, hh.2.symm⟩) _ e1 e
    · have := hs.lr κ' j hj _ e; omega
  refine ⟨h.bk.step hg hgw hgB hgT, fun κ' j hj => ?_, fun r hr => ?_, Nat.lt_of_lt_of_le h.hlt hg.size, h.hws, fun κ' j hj => ?_, hl, ?_⟩
  · by_cases hji : κ' = κ ∧ j = i
    · obtain ⟨rfl, rfl⟩ := hji
      rcases hab with ⟨e1, e2⟩ | e
      · rw [e1, ← e2]
        exact hl.take (by omega)
      · refine (h.rows κ' j hj).kept hg fun b e' hbg => ?_
        subst hbg
        have := hs.lr κ' j hj _ e'; omega
    · exact (h.rows κ' j hj).kept hg (hrow κ' j hj hji)
  · have := h.hat r hr
    rw [List.getElem?_eq_getElem hr] at this ⊢
    exact hg.cell this (by simpa using Ne.symm hgh)
  · obtain ⟨hj1, hj2⟩ := hj
    refine (h.done κ' j ⟨hj1, hj2⟩).kept hg (hgT κ' (by omega)) fun b hb1 hb2 hbg => ?_
    subst hbg
    rcases hab with ⟨e1, -⟩ | e
    · have hgl := hs.lr κ i hi _ e1
      rcases hb2 with e2 | e2
      · exact hrow κ' j hj1 (by omega) _ e2 rfl
      · omega
    · omega
  · rcases hab with ⟨e1, e2⟩ | e
    · exact .inl ⟨e1.symm, e2⟩
    · exact .inr ⟨g, rfl, e⟩
structure GO (K : KTab) (D : BkD) (w0 : World) (ws κ i : Nat) (W : World) : Prop where
  bk : BkT D w0 W
  rows : RowsF K D w0 D.ln W
  done : ∀ κ' j, Past D κ i κ' j → DoneG K D w0 ws W.heap.size κ' j W
  hws : ws ≤ W.heap.size
theorem GO.below (h : GO K D w0 ws κ i W) (hl : Below W.heap.size W W') : GO K D w0 ws κ i W' :=
  ⟨h.bk.below hl, h.rows.below hl, fun κ' j hj => ((h.done κ' j hj).below hl).mono hl.size, Nat.le_trans h.hws hl.size⟩
theorem GI.start {T' : TypeId} (h : GO K D w0 ws κ i W) (hi : i < D.m κ) : GI K D w0 ws κ i 0 W.heap.size v (D.sa κ i) (D.sc κ i) (W.alloc (.cells #[.slice (D.sa κ i) (D.ln κ i) (D.sc κ i), v, .int .i64 (D.N κ i)] T')) :=
  ⟨h.bk.below (below_alloc _ _), h.rows.below (below_alloc _ _), at_new rfl (Below.refl _ _), by simp, h.hws, fun κ' j hj => (h.done κ' j hj).below (below_alloc _ _), (h.rows κ i hi).below (below_alloc _ _), .inl ⟨rfl, rfl⟩⟩
theorem GI.cells (h : GI K D w0 ws κ i q hb v a cp W) (h1 : 1 ≤ κ) (h2 : κ < 17) (hi : i < D.m κ) : W.cell? ⟨hb, 0, none⟩ = some (.slice (D.sa κ i) (D.ln κ i) (D.sc κ i)) ∧ W.cell? ⟨hb, 2, none⟩ = some (.int .i64 (D.N κ i)) ∧ W.cell? ⟨D.B, κ, none⟩ = some (.slice (some ⟨D.T κ, 0, none⟩) (D.m κ) (D.c κ)) ∧ W.frozen? ⟨D.T κ, i * 3 + 1, none⟩ = false ∧ ∃ a l q, W.cell? ⟨D.T κ, i * 3 + 1, none⟩ = some (.slice a l q) :=
  ⟨h.hat 0 (by decide : 0 < 3), h.hat 2 (by decide : 2 < 3), h.bk.fld κ h1 h2 (by omega), h.bk.frz κ _ (by omega), (h.bk.ent κ i hi).2.1⟩
end
end Go.Proofs.YtmhemajcnfcdmaaGreatDoor.Bk
namespace Go.Proofs.YtmhemajcnfcdmaaGreatDoor.Bk
open Go.RowKit
section
variable {K : KTab} {D : BkD} {w0 W W' : World} {κ i k hb ws q cp : Nat} {v : Value} {a : Option Addr}
theorem GI.finish (hs : GS D w0 ws) {g : Nat} (h : GI K D w0 ws κ i 40 hb v (some ⟨g, 0, none⟩) cp W) (hi : i < D.m κ) :
    GO K D w0 ws κ (i + 1) (W.setCell ⟨D.T κ, i * 3 + 1, none⟩ (.slice (some ⟨g, 0, none⟩) (D.ln κ i + 40) cp)) := by
  have hhw := h.hws
  have hhl := h.hlt
  have hg := grownBy_set W (D.T κ) (i * 3 + 1) (.slice (some ⟨g, 0, none⟩) (D.ln κ i + 40) cp)
  have hsz : (W.setCell ⟨D.T κ, i * 3 + 1, none⟩ (.slice (some ⟨g, 0, none⟩) (D.ln κ i + 40) cp)).heap.size = W.heap.size := by simp
  have hTB := hs.s.hT κ (by omega)
  have hoth : ∀ κ' k, 0 < D.m κ' → ¬ (κ' = κ ∧ k = i * 3 + 1) → (W.setCell ⟨D.T κ, i * 3 + 1, none⟩ (.slice (some ⟨g, 0, none⟩) (D.ln κ i + 40) cp)).cell? ⟨D.T κ', k, none⟩ = W.cell? ⟨D.T κ', k, none⟩ := fun κ' k hm hk => World.cell?_setCell_other _ _ _ _ (fun e => by
    simp only [Addr.mk.injEq, and_true] at e
    by_cases hκ : κ' = κ
    · exact hk ⟨hκ, e.2.symm⟩
    · exact hs.s.hTT κ κ' (by omega) hm (Ne.symm hκ) e.1)
  have hgT : ∀ κ', 0 < D.m κ' → g ≠ D.T κ' := fun κ' hm => by
    rcases h.abl with ⟨e, -⟩ | ⟨g', e, h2⟩
    · exact (hs.s.nb κ i hi g e.symm).2 κ' hm
    · simp only [Option.some.injEq, Addr.mk.injEq, and_true] at e
      subst e
      have := hs.lT κ' hm; omega
  obtain ⟨a1, l1, q1, hold⟩ := (h.bk.ent κ i hi).2.1
  have hsame := World.cell?_setCell_same W ⟨D.T κ, i * 3 + 1, none⟩ (.slice (some ⟨g, 0, none⟩) (D.ln κ i + 40) cp) hold
  refine ⟨⟨h.bk.low.setCell (p := ⟨D.T κ, i * 3 + 1, none⟩) hTB.1 _, fun κ' q1 q2 q3 => hg.cell (h.bk.fld κ' q1 q2 q3) (by simpa using Ne.symm hTB.2), fun κ' q1 q2 q3 => hg.cell (h.bk.nil κ' q1 q2 q3) (by simpa using Ne.symm hTB.2), fun κ' j hj => ?_, fun κ' j hj => ?_⟩, fun κ' j hj => ?_, fun κ' j hj => ?_, by rw [hsz]; omega⟩
  · obtain ⟨e0, ⟨a2, l2, q2, e1⟩, e2⟩ := h.bk.ent κ' j hj
    refine ⟨by rw [hoth κ' _ (by omega) (by omega), e0], ?_, by rw [hoth κ' _ (by omega) (by omega), e2]⟩
    by_cases hji : κ' = κ ∧ j = i
    · obtain ⟨rfl, rfl⟩ := hji
      exact ⟨_, _, _, hsame⟩
    · exact ⟨a2, l2, q2, by rw [hoth κ' _ (by omega) (by omega), e1]⟩
  · rw [World.frozen?_setCell]
    exact h.bk.frz κ' j hj
  · exact (h.rows κ' j hj).kept hg fun b e => (hs.s.nb κ' j hj b e).2 κ (by omega)
  · rw [hsz]
    obtain ⟨hj1, hj2⟩ := hj
    by_cases hji : κ' = κ ∧ j = i
    · obtain ⟨rfl, rfl⟩ := hji
      have hl := h.long.kept hg fun b e => by
        simp only [Option.some.injEq, Addr.mk.injEq, and_true] at e
        subst e
        exact hgT κ' (by omega)
      refine ⟨g, cp, hsame, hl, ?_, (h.long.lt rfl).2⟩
      rcases h.abl with ⟨e, -⟩ | ⟨g', e, h2⟩
      · exact .inl e.symm
      · simp only [Option.some.injEq, Addr.mk.injEq, and_true] at e
        subst e
        right
        omega
    · obtain ⟨g', cp', e1, e2, e3, e4⟩ := h.done κ' j ⟨hj1, by omega⟩
      refine ⟨g', cp', by rw [hoth κ' _ (by omega) (by omega), e1], e2.kept hg fun b e => ?_, e3, by omega⟩
      simp only [Option.some.injEq, Addr.mk.injEq, and_true] at e
      subst e
      rcases e3 with e5 | e5
      · exact (hs.s.nb κ' j hj1 _ e5).2 κ (by omega)
      · have := hs.lT κ (by omega); omega
theorem GO.next (h : GO K D w0 ws κ (D.m κ) W) : GO K D w0 ws (κ + 1) 0 W := ⟨h.bk, h.rows, fun κ' j hj => h.done κ' j ⟨hj.1, by
  have h1 := hj.1
  have h2 := hj.2
  by_cases h3 : κ' = κ
  · subst h3
    exact .inr ⟨rfl, h1⟩
  · exact .inl (by omega)⟩, h.hws⟩
theorem MarkRow.addr {κ k f : Nat} {n : Int} {l : Nat} (h : MarkRow K w0 κ n (.slice a l q) k f W) (hl : 0 < l) : ∃ g, a = some ⟨g, 0, none⟩ := by
  obtain ⟨X, h1, -⟩ := h
  rcases h1.2 with ⟨e, -⟩ | ⟨g, cap, cur, e, -⟩
  · simp only [Value.slice.injEq] at e
    omega
  · simp only [Value.slice.injEq] at e
    exact ⟨g, e.1⟩
theorem MarkRow.cell {κ j f g : Nat} {n : Int} {l : Nat} (h : MarkRow K w0 κ n (.slice (some ⟨g, 0, none⟩) l q) l f W) (hf : f ≤ l) (hj : j < f) {r : Nat} (hr : r < K.sz κ) : W.cell? ⟨g, j * K.sz κ + r, none⟩ = (K.mark κ n)[r]? := by
  obtain ⟨X, h1, h2⟩ := h
  have hle : (j + 1) * K.sz κ ≤ l * K.sz κ := Nat.mul_le_mul_right _ (by omega)
  rw [Nat.add_mul, Nat.one_mul] at hle
  rw [h1.cellAt _ (by omega), h2 j hj r hr]
theorem append_M {ops : Array Oper} {rest : List Oper} {o : Oper} {act : Act} {Q : Exit → Act → World → Prop} (hs : GS D w0 ws) (hi : i < D.m κ) (h : GI K D w0 ws κ i q hb v a cp W) (hq : q ≤ 1000)
    {TS : TypeId} {i0 : TypeInfo} {z : Value} {bytes : Nat} {cs : List Value} (hu : Tryz.prog.underlying TS = some (.slice (K.ty κ))) (hi0 : Tryz.prog.info? (K.ty κ) = some i0) (hz0 : i0.zero = some z) (hz1 : i0.size = K.sz κ) (hz2 : i0.bytes = bytes) (hzs : z.cells.size = K.sz κ) (hsz : 0 < K.sz κ) (hby : bytes ≤ 1000)
    (hcs : K.mark κ (D.N κ i) = cs) (hone : ∀ u ∈ cs, u.oneCell' = true)
    (hgd : o.guard = none) (s x : Operand) (ho : o.op = .call { callee := .builtin .append, args := #[s, x], argTypes := #[TS, TS] }) (hse : act.eval s = .slice a (D.ln κ i + q) cp) (T' : TypeId) (hx : act.eval x = .slice (some ⟨W.heap.size, 0, none⟩) 1 1)
    (hr : ∀ g cap W', GI K D w0 ws κ i (q + 1) hb v (some ⟨g, 0, none⟩) cap W' → wpList Tryz.prog ops Q rest (act.put o.dst (.slice (some ⟨g, 0, none⟩) (D.ln κ i + (q + 1)) cap)) W') : wpList Tryz.prog ops Q (o :: rest) act (W.alloc (.cells cs.toArray T')) := by
  have hln := hs.s.lnb κ i hi
  obtain ⟨X, hown, hX⟩ := h.long
  have hcl : cs.length = K.sz κ := by rw [← hcs, K.len]
  have hnew : ∀ j u, cs[j]? = some u → (W.alloc (.cells cs.toArray T')).cell? ((⟨W.heap.size, 0, none⟩ : Addr).add j) = some u := new_cells (cs := cs)
  have hbb : (D.ln κ i + q + 1) * bytes ≤ (D.ln κ i + q + 1) * 1000 := Nat.mul_le_mul_left _ hby
  obtain ⟨v', w', hrun, h1, h2⟩ := append_two (P := Tryz.prog) (W.alloc (.cells cs.toArray T')) w0.heap.size TS o.type (K.ty κ) i0 z (K.sz κ) bytes hu hi0 hz0 hz1 hz2 hzs hsz _ _ X (hown.alloc _) ⟨W.heap.size, 0, none⟩ 1 1 cs (by omega) hnew hone (by decide) (by unfold maxLen; omega) (by omega) (by have := h.bk.low.size; simp; omega)
  have hl : X.length = (D.ln κ i + q) * K.sz κ := hown.1
  have hmk : ∀ r, r < D.ln κ i + (q + 1) → ∀ t, t < K.sz κ → (X ++ cs)[r * K.sz κ + t]? = (K.mark κ (D.N κ i))[t]? := by
    intro r hr t ht
    by_cases hlt : r < D.ln κ i + q
    · have hle : (r + 1) * K.sz κ ≤ (D.ln κ i + q) * K.sz κ := Nat.mul_le_mul_right _ hlt
      rw [Nat.add_mul, Nat.one_mul] at hle
      rw [List.getElem?_append_left (by omega)]
      exact hX r hlt t ht
    · obtain rfl : r = D.ln κ i + q := by omega
      rw [List.getElem?_append_right (by omega), hl, Nat.add_sub_cancel_left, hcs]
  have hgo : ∃ g cap, v' = .slice (some ⟨g, 0, none⟩) (D.ln κ i + (q + 1)) cap ∧ GI K D w0 ws κ i (q + 1) hb v (some ⟨g, 0, none⟩) cap w' := by
    rcases h2 with ⟨g, cap, e1, e2, hgr⟩ | ⟨hgr, g, cap, e2, hgs⟩
    · simp only [Value.slice.injEq, true_and] at e1
      subst e2
      exact ⟨g, cap, rfl, h.step hs hi (grown_al hgr) ⟨_, h1, hmk⟩ (.inl ⟨e1.1, e1.2.symm⟩)⟩
    · subst e2
      have hgs2 : W.heap.size ≤ g := by
        have : (W.alloc (.cells cs.toArray T')).heap.size = W.heap.size + 1 := by simp
        omega
      exact ⟨g, cap, rfl, h.step hs hi (grown_fresh (grown_al hgr) hgs2) ⟨_, h1, hmk⟩ (.inr hgs2)⟩
  obtain ⟨g, cap, rfl, hGI⟩ := hgo
  refine wpList_plain hgd fun K hK => ?_
  unfold Oper.wp execOp
  simp only [ho, resolve, invoke, builtin, Sem.run_bind, Sem.run_pure, Result.andThen_ok, List.map_toArray, List.map_cons, List.map_nil, hse, hx, hrun]
  exact hK _ _ (hr g cap w' hGI)
structure LI (K : KTab) (D : BkD) (w0 : World) (ws κe ie κ i hb g cp : Nat) (W : World) : Prop where
  go : GO K D w0 ws κe ie W
  hat : At W hb 0 [.slice (D.sa κ i) (D.ln κ i) (D.sc κ i), .slice (some ⟨g, 0, none⟩) (D.ln κ i + 40) cp, .int .i64 (D.N κ i)]
  long : MarkRow K w0 κ (D.N κ i) (.slice (some ⟨g, 0, none⟩) (D.ln κ i + 40) cp) (D.ln κ i + 40) (D.ln κ i + 40) W
variable {κe ie g : Nat}
theorem LI.below (h : LI K D w0 ws κe ie κ i hb g cp W) (hl : Below W.heap.size W W') : LI K D w0 ws κe ie κ i hb g cp W' := ⟨h.go.below hl, h.hat.below hl, h.long.below hl⟩
theorem LI.start {T' : TypeId} (h : GO K D w0 ws κe ie W) (hm : MarkRow K w0 κ (D.N κ i) (.slice (some ⟨g, 0, none⟩) (D.ln κ i + 40) cp) (D.ln κ i + 40) (D.ln κ i + 40) W) :
    LI K D w0 ws κe ie κ i W.heap.size g cp (W.alloc (.cells #[.slice (D.sa κ i) (D.ln κ i) (D.sc κ i), .slice (some ⟨g, 0, none⟩) (D.ln κ i + 40) cp, .int .i64 (D.N κ i)] T')) :=
  ⟨h.below (below_alloc _ _), at_new rfl (Below.refl _ _), hm.below (below_alloc _ _)⟩
theorem LI.three (h : LI K D w0 ws κe ie κ i hb g cp W) : W.cell? ⟨hb, 0, none⟩ = some (.slice (D.sa κ i) (D.ln κ i) (D.sc κ i)) ∧ W.cell? ⟨hb, 1, none⟩ = some (.slice (some ⟨g, 0, none⟩) (D.ln κ i + 40) cp) ∧ W.cell? ⟨hb, 2, none⟩ = some (.int .i64 (D.N κ i)) :=
  ⟨h.hat 0 (by decide : 0 < 3), h.hat 1 (by decide : 1 < 3), h.hat 2 (by decide : 2 < 3)⟩
theorem LI.row (h : LI K D w0 ws κe ie κ i hb g cp W) (hi : i < D.m κ) {g0 k r : Nat} (he : D.sa κ i = some ⟨g0, 0, none⟩) (hk : k < D.ln κ i) (hr : r < K.sz κ) : W.cell? ⟨g0, k * K.sz κ + r, none⟩ = (K.mark κ (D.N κ i))[r]? := by
  have := h.go.rows κ i hi
  rw [he] at this
  exact this.cell (Nat.le_refl _) hk hr
end
end Go.Proofs.YtmhemajcnfcdmaaGreatDoor.Bk
namespace Go.Proofs.YtmhemajcnfcdmaaGreatDoor.Bk
set_option linter.unusedVariables false
set_option linter.unusedSimpArgs false
open Go.RowKit
structure BM (ht : Nat → TypeId) (w0 : World) (B : Nat) (m : Nat → Nat) (S : Nat → Nat → Value) (N : Nat → Nat → Int) (n : Int) (v : Nat → Value) (W : World) : Prop where
  low : Below B w0 W
  num : W.cell? ⟨B, 0, none⟩ = some (.int .i64 n)
  fld : ∀ κ, 1 ≤ κ → κ < 17 → W.cell? ⟨B, κ, none⟩ = some (v κ)
  frz : ∀ j, W.frozen? ⟨B, j, none⟩ = false
  own : ∀ κ, 1 ≤ κ → κ < 17 → W.ownsRow (B + 1) (ht κ) 3 (v κ) (m κ) (flatH (S κ) (N κ) (m κ))
  ap : ∀ κ κ', 1 ≤ κ → κ < 17 → 1 ≤ κ' → κ' < 17 → κ ≠ κ' → ∀ b, (v κ).ownBlock = some b → (v κ').ownBlock ≠ some b
def at1 {α : Type} (f : Nat → α) (κ : Nat) (x : α) : Nat → α := fun j => if j = κ then x else f j
theorem at1_same {α : Type} (f : Nat → α) (κ : Nat) (x : α) : at1 f κ x κ = x := if_pos rfl
theorem at1_other {α : Type} (f : Nat → α) {κ j : Nat} (x : α) (h : j ≠ κ) : at1 f κ x j = f j := if_neg h
section
variable {ht : Nat → TypeId} {w0 W W' : World} {B : Nat} {m : Nat → Nat} {S : Nat → Nat → Value} {N : Nat → Nat → Int} {n : Int} {v : Nat → Value}
theorem BM.lt (h : BM ht w0 B m S N n v W) : B < W.heap.size := World.block_lt_of_cell? _ _ h.num
theorem BM.below (h : BM ht w0 B m S N n v W) (hl : Below W.heap.size W W') : BM ht w0 B m S N n v W' := by
  have hc : ∀ {j : Nat} {u : Value}, W.cell? ⟨B, j, none⟩ = some u → W'.cell? ⟨B, j, none⟩ = some u := fun e => by rw [hl.cell (World.block_lt_of_cell? _ _ e), e]
  exact ⟨h.low.trans (hl.mono (Nat.le_of_lt h.lt)), hc h.num, fun κ a b => hc (h.fld κ a b), fun j => by rw [hl.frozen (p := ⟨B, j, none⟩) h.lt]; exact h.frz j, fun κ a b => ownsRow_below (h.own κ a b) hl, h.ap⟩
theorem BM.count (h : BM ht w0 B m S N n v W) (x : Int) : BM ht w0 B m S N x v (W.setCell ⟨B, 0, none⟩ (.int .i64 x)) := by
  have hg := grownBy_set W B 0 (.int .i64 x)
  refine ⟨h.low.setCell (p := ⟨B, 0, none⟩) (Nat.le_refl _) _, World.cell?_setCell_same _ _ _ h.num, fun κ a b => ?_, fun j => by rw [World.frozen?_setCell]; exact h.frz j, fun κ a b => (h.own κ a b).kept hg ?_, h.ap⟩
  · rw [World.cell?_setCell_other _ _ _ _ (by simp <;> omega)]; exact h.fld κ a b
  · cases hv : (v κ).ownBlock with
    | none => exact .inl rfl
    | some b' =>
      right
      have := ((h.own κ a b).lt b' hv).1
      simp; omega
theorem BM.drew (h : BM ht w0 B m S N n v W) : BM ht w0 B m S N n v W.drew := h.below (Below.refl _ _).drew
theorem BM.more (h : BM ht w0 B m S N n v W) {κ : Nat} (k1 : 1 ≤ κ) (k2 : κ < 17) {x : Value} {g : Nat} (hx : x.ownBlock = some g) (hc : (v κ).ownBlock = some g ∨ W.heap.size ≤ g) (hg : W.grownBy W' (v κ).ownBlock) (ho : W'.ownsRow (B + 1) (ht κ) 3 x (m κ + 1) (flatH (S κ) (N κ) (m κ + 1))) :
    BM ht w0 B (at1 m κ (m κ + 1)) S N n (at1 v κ x) (W'.setCell ⟨B, κ, none⟩ x) := by
  have hlt := h.lt
  have hne : ∀ k, (v κ).ownBlock = some k → B + 1 ≤ k := fun k e => ((h.own κ k1 k2).lt k e).1
  have hce : ∀ {j : Nat} {u : Value}, W.cell? ⟨B, j, none⟩ = some u → W'.cell? ⟨B, j, none⟩ = some u := fun e => hg.cell e (fun q => by have := hne B q.symm; omega)
  have hlow : Below B w0 W' := h.low.grown hg (Nat.le_of_lt hlt) (fun k e => by have := hne k e; omega)
  have hgB : B + 1 ≤ g := by
    rcases hc with e | e
    · exact hne g e
    · omega
  refine ⟨hlow.setCell (p := ⟨B, κ, none⟩) (Nat.le_refl _) _, ?_, fun κ' a b => ?_, fun j => ?_, fun κ' a b => ?_, fun κ1 κ2 a1 b1 a2 b2 hk b e1 e2 => ?_⟩
  · rw [World.cell?_setCell_other _ _ _ _ (by simp <;> omega)]; exact hce h.num
  · by_cases hk : κ' = κ
    · subst hk
      rw [at1_same]
      exact World.cell?_setCell_same _ _ _ (hce (h.fld κ' a b))
    · rw [at1_other _ _ hk, World.cell?_setCell_other _ _ _ _ (by simp <;> omega)]; exact hce (h.fld κ' a b)
  · rw [World.frozen?_setCell, World.frozen?_of_block (hg.block B hlt (fun q => by have := hne B q.symm; omega))]; exact h.frz j
  · by_cases hk : κ' = κ
    · subst hk
      rw [at1_same, at1_same]
      refine ho.kept (grownBy_set W' B κ' x) (.inr ?_)
      rw [hx]
      simp; omega
    · rw [at1_other _ _ hk, at1_other _ _ hk]
      have h1 : W'.ownsRow (B + 1) (ht κ') 3 (v κ') (m κ') (flatH (S κ') (N κ') (m κ')) := by
        refine (h.own κ' a b).kept hg ?_
        cases hv : (v κ').ownBlock with
        | none => exact .inl rfl
        | some b' => exact .inr (fun e => h.ap κ' κ a b k1 k2 hk b' hv e.symm)
      refine h1.kept (grownBy_set W' B κ x) ?_
      cases hv : (v κ').ownBlock with
      | none => exact .inl rfl
      | some b' =>
        right
        have := ((h.own κ' a b).lt b' hv).1
        simp; omega
  · have old : ∀ κ', 1 ≤ κ' → κ' < 17 → κ' ≠ κ → (v κ').ownBlock ≠ some g := fun κ' q1 q2 q3 e => by
      rcases hc with e' | e'
      · exact h.ap κ' κ q1 q2 k1 k2 q3 g e e'
      · have := ((h.own κ' q1 q2).lt g e).2
        omega
    by_cases hk1 : κ1 = κ
    · subst hk1
      rw [at1_same, hx] at e1
      rw [at1_other _ _ (Ne.symm hk)] at e2
      rw [← e1] at e2
      exact old κ2 a2 b2 (Ne.symm hk) e2
    · rw [at1_other _ _ hk1] at e1
      by_cases hk2 : κ2 = κ
      · subst hk2
        rw [at1_same, hx] at e2
        rw [← e2] at e1
        exact old κ1 a1 b1 hk1 e1
      · rw [at1_other _ _ hk2] at e2
        exact h.ap κ1 κ2 a1 b1 a2 b2 hk b e1 e2
theorem BM.toT {wb : World} {D : BkD} (h : BM ht w0 D.B D.m S D.N n v W) (hb : Below wb.heap.size wb w0) (hB : wb.heap.size ≤ D.B) (hm0 : ∀ κ, ¬ (1 ≤ κ ∧ κ < 17) → D.m κ = 0) (hv : ∀ κ, 1 ≤ κ → κ < 17 → 0 < D.m κ → v κ = .slice (some ⟨D.T κ, 0, none⟩) (D.m κ) (D.c κ)) (hv0 : ∀ κ, 1 ≤ κ → κ < 17 → D.m κ = 0 → v κ = .slice none 0 0)
    (hS : ∀ κ i, i < D.m κ → S κ i = .slice (D.sa κ i) (D.ln κ i) (D.sc κ i)) :
    BkT D wb W ∧ (∀ κ, 0 < D.m κ → D.B + 1 ≤ D.T κ ∧ D.T κ < W.heap.size ∧ D.m κ ≤ D.c κ ∧ D.c κ ≤ maxLen) ∧ ∀ κ κ', 0 < D.m κ → 0 < D.m κ' → κ ≠ κ' → D.T κ ≠ D.T κ' := by
  have hk : ∀ κ, 0 < D.m κ → 1 ≤ κ ∧ κ < 17 := fun κ h0 => by
    rcases Classical.em (1 ≤ κ ∧ κ < 17) with q | q
    · exact q
    · have := hm0 κ q; omega
  have hown : ∀ κ, 0 < D.m κ → W.ownsRow (D.B + 1) (ht κ) 3 (.slice (some ⟨D.T κ, 0, none⟩) (D.m κ) (D.c κ)) (D.m κ) (flatH (S κ) (D.N κ) (D.m κ)) := fun κ h0 => by
    have q := hk κ h0
    have := h.own κ q.1 q.2
    rwa [hv κ q.1 q.2 h0] at this
  have hcell : ∀ κ i, i < D.m κ → ∀ k, k < 3 → W.cell? ⟨D.T κ, i * 3 + k, none⟩ = [S κ i, .slice none 0 0, .int .i64 (D.N κ i)][k]? := fun κ i hi k hk => by
    rw [(hown κ (by omega)).cellAt _ (by omega), flatH_get (S κ) (D.N κ) (D.m κ) i hi k hk]
  refine ⟨⟨hb.trans (h.low.mono hB), fun κ a b h0 => by rw [h.fld κ a b, hv κ a b h0], fun κ a b h0 => by rw [h.fld κ a b, hv0 κ a b h0], fun κ i hi => ⟨?_, ⟨none, 0, 0, hcell κ i hi 1 (by decide)⟩, hcell κ i hi 2 (by decide)⟩, fun κ j hj => (hown κ (by omega)).frozenAt j⟩, fun κ h0 => ?_, fun κ κ' h0 h0' hne e => ?_⟩
  · rw [← hS κ i hi]
    exact hcell κ i hi 0 (by decide)
  · have hl := (hown κ h0).lt (D.T κ) rfl
    rcases (hown κ h0).2 with ⟨e, -⟩ | ⟨g, cap, cur, e, -, -, h1, h2, -⟩
    · cases e
    · cases e
      exact ⟨hl.1, hl.2, h1, h2⟩
  · have q := hk κ h0
    have q' := hk κ' h0'
    refine h.ap κ κ' q.1 q.2 q'.1 q'.2 hne (D.T κ) ?_ ?_
    · rw [hv κ q.1 q.2 h0]; rfl
    · rw [hv κ' q'.1 q'.2 h0', e]; rfl
end
end Go.Proofs.YtmhemajcnfcdmaaGreatDoor.Bk
namespace Go.Proofs.YtmhemajcnfcdmaaGreatDoor.Bk
set_option linter.unusedVariables false
set_option linter.unusedSimpArgs false
open Go.RowKit
def joinL {α : Type} : Nat → (Nat → List α) → List α
  | 0, _ => []
  | n + 1, f => joinL n f ++ f n
def toldV : V → List (Nat × Value)
  | .leaf => []
  | .mk _ _ _ la ll lc L fa fl fc _ F _ _ _ => (joinL ll (fun i => toldV (L i)) ++ [(3, .slice la ll lc)]) ++ (joinL fl (fun i => toldV (F i)) ++ [(4, .slice fa fl fc)])
def toldVs (la : Option Addr) (ll lc : Nat) (L : Nat → V) : List (Nat × Value) := joinL ll (fun i => toldV (L i)) ++ [(3, .slice la ll lc)]
def toldFs (fa : Option Addr) (fl fc : Nat) (F : Nat → V) : List (Nat × Value) := joinL fl (fun i => toldV (F i)) ++ [(4, .slice fa fl fc)]
theorem toldV_mk (k n : Int) (s : ByteArray) (la : Option Addr) (ll lc : Nat) (L : Nat → V) (fa : Option Addr) (fl fc : Nat) (fn : Nat → ByteArray) (F : Nat → V) (e : Int) (key : ByteArray) (hk : Bool) :
    toldV (.mk k n s la ll lc L fa fl fc fn F e key hk) = toldVs la ll lc L ++ toldFs fa fl fc F := by rw [toldV]; rfl
def cnt (p : List (Nat × Value)) (κ : Nat) : Nat := (p.filter (fun x => x.1 == κ)).length
def sOf (T : List (Nat × Value)) (κ i : Nat) : Value := ((T.filter (fun x => x.1 == κ)).map (·.2)).getD i undef
def nOf (T : List (Nat × Value)) (κ i : Nat) : Int := ((T.zipIdx.filter (fun x => x.1.1 == κ)).map (fun x => (x.2 : Int) + 1)).getD i 0
theorem cnt_append (p q : List (Nat × Value)) (κ : Nat) : cnt (p ++ q) κ = cnt p κ + cnt q κ := by simp [cnt]
theorem cnt_snoc (p : List (Nat × Value)) (κ : Nat) (s : Value) : cnt (p ++ [(κ, s)]) = at1 (cnt p) κ (cnt p κ + 1) := by
  funext j
  unfold at1
  rw [cnt_append]
  by_cases e : j = κ
  · subst e; simp [cnt]
  · have e' : (κ == j) = false := by simp [Ne.symm e]
    simp [cnt, e, e']
theorem cnt_le (p : List (Nat × Value)) (κ : Nat) : cnt p κ ≤ p.length := List.length_filter_le _ _
theorem zip_cnt (p : List (Nat × Value)) (κ k : Nat) : ((p.zipIdx k).filter (fun x => x.1.1 == κ)).length = cnt p κ := by
  induction p generalizing k with
  | nil => rfl
  | cons a r ih =>
    have := ih (k + 1)
    unfold cnt at this ⊢
    rw [List.zipIdx_cons, List.filter_cons, List.filter_cons]
    split <;> simp_all
theorem sOf_at {T p r : List (Nat × Value)} {κ : Nat} {s : Value} (h : T = p ++ (κ, s) :: r) : sOf T κ (cnt p κ) = s := by
  subst h
  unfold sOf
  rw [List.getD_eq_getElem?_getD, List.filter_append, List.map_append, List.getElem?_append_right (by simp [cnt])]
  simp [cnt]
theorem nOf_at {T p r : List (Nat × Value)} {κ : Nat} {s : Value} (h : T = p ++ (κ, s) :: r) : nOf T κ (cnt p κ) = (p.length : Int) + 1 := by
  subst h
  unfold nOf
  have hz := zip_cnt p κ 0
  rw [List.getD_eq_getElem?_getD, List.zipIdx_append, List.filter_append, List.map_append, List.getElem?_append_right (by simp [hz]), List.length_map, hz, Nat.sub_self, List.zipIdx_cons, List.filter_cons]
  simp
def Fr (w : World) (B : Nat) (v : Value) (w' : World) : Prop := w.heap.size ≤ w'.heap.size ∧ ∀ g, g < w.heap.size → g ≠ B → v.ownBlock ≠ some g → w'.heap[g]? = w.heap[g]?
def BT (ht : Nat → TypeId) (w0 : World) (B : Nat) (T : List (Nat × Value)) (X : Nat → Prop) (wx : World) (p : List (Nat × Value)) (W : World) : Prop :=
  ∃ v, BM ht w0 B (cnt p) (sOf T) (nOf T) p.length v W ∧ (∀ κ, (cnt p κ = 0 → v κ = .slice none 0 0) ∧ (0 < cnt p κ → ∃ b c, v κ = .slice (some ⟨b, 0, none⟩) (cnt p κ) c)) ∧
    ∀ g, X g → g < W.heap.size ∧ g ≠ B ∧ W.heap[g]? = wx.heap[g]? ∧ ∀ κ, 1 ≤ κ → κ < 17 → (v κ).ownBlock ≠ some g
section
variable {ht : Nat → TypeId} {w0 W W' : World} {B : Nat} {m : Nat → Nat} {S : Nat → Nat → Value} {N : Nat → Nat → Int} {n : Int} {v : Nat → Value}
theorem append_KF {ops : Array Oper} {o : Oper} {act : Act} {K : Act → World → Prop} {Q : Exit → Act → World → Prop} {E : Prop} {x : Int} {κ : Nat} (k1 : 1 ≤ κ) (k2 : κ < 17) (h : BM ht w0 B m S N n v W) (hm : m κ ≤ 1099511627776)
    {TS : TypeId} {i0 : TypeInfo} (hu : Tryz.prog.underlying TS = some (.slice (ht κ))) (hi : Tryz.prog.info? (ht κ) = some i0) (hz0 : i0.zero = some (.agg #[.slice none 0 0, .slice none 0 0, .int .i64 0])) (hz1 : i0.size = 3) (hz2 : i0.bytes = 56)
    (hgd : o.guard = none) (s z : Operand)
    (ho : o.op = .call { callee := .builtin .append, args := #[s, z], argTypes := #[TS, TS] }) (hs : act.eval s = v κ) (T' : TypeId) {a : Option Addr} {l q : Nat} (hS : S κ (m κ) = .slice a l q) (hN : N κ (m κ) = x) (hx : act.eval z = .slice (some ⟨W.heap.size, 0, none⟩) 1 1)
    (hr : ∀ b c W', W.grownBy W' (v κ).ownBlock → ((v κ).ownBlock = some b ∨ W.heap.size ≤ b) → (∀ j u, W.cell? ⟨B, j, none⟩ = some u → W'.cell? ⟨B, j, none⟩ = some u) → (∀ j, W'.frozen? ⟨B, j, none⟩ = false) → BM ht w0 B (at1 m κ (m κ + 1)) S N n (at1 v κ (.slice (some ⟨b, 0, none⟩) (m κ + 1) c)) (W'.setCell ⟨B, κ, none⟩ (.slice (some ⟨b, 0, none⟩) (m κ + 1) c)) →
      K (act.put o.dst (.slice (some ⟨b, 0, none⟩) (m κ + 1) c)) W') : if Region.wanted o (yielded ops act.tmps) = true then Oper.wp Tryz.prog o act (W.alloc (.cells #[.slice a l q, .slice none 0 0, .int .i64 x] T')) K Q else E := by
  have hnew : ∀ j u, [Value.slice a l q, .slice none 0 0, .int .i64 x][j]? = some u → (W.alloc (.cells #[.slice a l q, .slice none 0 0, .int .i64 x] T')).cell? ((⟨W.heap.size, 0, none⟩ : Addr).add j) = some u := new_cells (cs := [Value.slice a l q, .slice none 0 0, .int .i64 x])
  refine step_append_lies _ hgd s z _ ho (B + 1) (ht κ) i0 (.agg #[.slice none 0 0, .slice none 0 0, .int .i64 0]) 3 56 hu hi hz0 hz1 hz2 rfl (by decide) (v κ) (m κ) _ hs ((h.own κ k1 k2).alloc _) ⟨W.heap.size, 0, none⟩ 1 1 [.slice a l q, .slice none 0 0, .int .i64 x] hx rfl hnew (fun u hu => by simp at hu; rcases hu with rfl | rfl | rfl <;> rfl) (by decide) (by unfold maxLen; omega) (by omega) (by have := h.lt; simp; omega) _ rfl ?_
  intro b c w' hown hgrow hb hlt
  have hg2 : W.grownBy w' (v κ).ownBlock := grown_trans (World.grownBy_alloc W _ _) hgrow
  have hfl : flatH (S κ) (N κ) (m κ) ++ [.slice a l q, .slice none 0 0, .int .i64 x] = flatH (S κ) (N κ) (m κ + 1) := by rw [flatH, hS, hN]
  rw [hfl] at hown
  have hne : ∀ k, (v κ).ownBlock = some k → B + 1 ≤ k := fun k e => ((h.own κ k1 k2).lt k e).1
  refine hr b c w' hg2 (hb.imp id (fun e => by rw [e]; simp)) (fun j u e => hg2.cell e (fun q => by have := hne B q.symm; omega)) (fun j => by rw [World.frozen?_of_block (hg2.block B h.lt (fun q => by have := hne B q.symm; omega))]; exact h.frz j) (h.more k1 k2 (g := b) rfl ?_ hg2 hown)
  rcases hb with e | e
  · exact .inl e
  · exact .inr (by rw [e]; simp)
end
theorem Fr.of {w W1 W2 : World} {B κ : Nat} {x y v : Value} (hB : B < w.heap.size) (h1 : W1.heap = (w.setCell ⟨B, 0, none⟩ x).heap) (h2 : W1.grownBy W2 v.ownBlock) : Fr w B v (W2.setCell ⟨B, κ, none⟩ y) := by
  have hs : W1.heap.size = w.heap.size := by rw [h1]; simp
  refine ⟨by rw [World.size_setCell, ← hs]; exact h2.size, fun g hg hne hv => ?_⟩
  rw [Below.heap_setCell _ _ _ _ hne, h2.block g (by omega) (fun e => hv e.symm), h1, Below.heap_setCell _ _ _ _ hne]
theorem new_of {w W1 : World} {B b : Nat} {x v : Value} (h1 : W1.heap = (w.setCell ⟨B, 0, none⟩ x).heap) (h : v.ownBlock = some b ∨ W1.heap.size ≤ b) : v.ownBlock = some b ∨ w.heap.size ≤ b := h.imp id (fun e => by rw [h1] at e; simpa using e)
section
variable {ht : Nat → TypeId} {w0 wx W W' : World} {B : Nat} {T p : List (Nat × Value)} {X : Nat → Prop}
theorem BT.below (h : BT ht w0 B T X wx p W) (hb : Below W.heap.size W W') : BT ht w0 B T X wx p W' :=
  let ⟨v, h1, h2, h3⟩ := h
  ⟨v, h1.below hb, h2, fun g hg => let ⟨a, b, c, d⟩ := h3 g hg; ⟨Nat.lt_of_lt_of_le a hb.size, b, by rw [hb.block g a, c], d⟩⟩
theorem BT.low (h : BT ht w0 B T X wx p W) : Below B w0 W := let ⟨_, h1, _⟩ := h; h1.low
theorem BT.push (h : BT ht w0 B T X wx p W) (O : Obj) : BT ht w0 B T (fun g => X g ∨ g = W.heap.size) (W.alloc O) p (W.alloc O) := by
  obtain ⟨v, h1, h2, h3⟩ := h
  refine ⟨v, h1.below (below_alloc _ _), h2, fun g hg => ?_⟩
  rcases hg with hg | rfl
  · obtain ⟨a, b, -, d⟩ := h3 g hg
    exact ⟨by simp; omega, b, rfl, d⟩
  · refine ⟨by simp, Nat.ne_of_gt h1.lt, rfl, fun κ k1 k2 e => ?_⟩
    exact absurd ((h1.own κ k1 k2).lt _ e).2 (Nat.lt_irrefl _)
theorem BT.pop {O : Obj} {q : List (Nat × Value)} (h0 : BT ht w0 B T X wx p W) (h : BT ht w0 B T (fun g => X g ∨ g = W.heap.size) (W.alloc O) q W') : BT ht w0 B T X wx q W' := by
  obtain ⟨v0, -, -, h3⟩ := h0
  obtain ⟨v, h1, h2, h4⟩ := h
  refine ⟨v, h1, h2, fun g hg => ?_⟩
  obtain ⟨a, b, c, d⟩ := h4 g (.inl hg)
  obtain ⟨a', -, c', -⟩ := h3 g hg
  exact ⟨a, b, by rw [c, Below.heap_alloc _ _ _ a', c'], d⟩
theorem BT.cell {O : Obj} {q : List (Nat × Value)} (h : BT ht w0 B T (fun g => X g ∨ g = W.heap.size) (W.alloc O) q W') (i : Nat) : W'.cell? ⟨W.heap.size, i, none⟩ = (W.alloc O).cell? ⟨W.heap.size, i, none⟩ := by
  obtain ⟨v, -, -, h4⟩ := h
  exact World.cell?_of_block (h4 _ (.inr rfl)).2.2.1
theorem BT.frz {O : Obj} {q : List (Nat × Value)} (h : BT ht w0 B T (fun g => X g ∨ g = W.heap.size) (W.alloc O) q W') (i : Nat) : W'.frozen? ⟨W.heap.size, i, none⟩ = (W.alloc O).frozen? ⟨W.heap.size, i, none⟩ := by
  obtain ⟨v, -, -, h4⟩ := h
  exact World.frozen?_of_block (h4 _ (.inr rfl)).2.2.1
theorem BT.more {κ : Nat} {s : Value} {v : Nat → Value} {b c : Nat} (k1 : 1 ≤ κ) (k2 : κ < 17) (hv : ∀ κ, (cnt p κ = 0 → v κ = .slice none 0 0) ∧ (0 < cnt p κ → ∃ b c, v κ = .slice (some ⟨b, 0, none⟩) (cnt p κ) c))
    (hx : ∀ g, X g → g < W.heap.size ∧ g ≠ B ∧ W.heap[g]? = wx.heap[g]? ∧ ∀ κ, 1 ≤ κ → κ < 17 → (v κ).ownBlock ≠ some g) (hf : Fr W B (v κ) W') (hnew : (v κ).ownBlock = some b ∨ W.heap.size ≤ b)
    (h : BM ht w0 B (at1 (cnt p) κ (cnt p κ + 1)) (sOf T) (nOf T) ((p.length : Int) + 1) (at1 v κ (.slice (some ⟨b, 0, none⟩) (cnt p κ + 1) c)) W') : BT ht w0 B T X wx (p ++ [(κ, s)]) W' := by
  refine ⟨_, by rw [cnt_snoc, List.length_append]; exact h, fun κ' => ?_, fun g hg => ?_⟩
  · rw [cnt_snoc]
    by_cases e : κ' = κ
    · subst e
      rw [at1_same, at1_same]
      exact ⟨fun q => by omega, fun _ => ⟨b, c, rfl⟩⟩
    · rw [at1_other _ _ e, at1_other _ _ e]
      exact hv κ'
  · obtain ⟨a1, a2, a3, a4⟩ := hx g hg
    refine ⟨Nat.lt_of_lt_of_le a1 hf.1, a2, by rw [hf.2 g a1 a2 (a4 κ k1 k2), a3], fun κ' q1 q2 e => ?_⟩
    by_cases e' : κ' = κ
    · subst e'
      rw [at1_same] at e
      have e : b = g := by simpa [Value.ownBlock] using e
      rcases hnew with q | q
      · exact a4 κ' k1 k2 (by rw [q, e])
      · omega
    · rw [at1_other _ _ e'] at e
      exact a4 κ' q1 q2 e
end
end Go.Proofs.YtmhemajcnfcdmaaGreatDoor.Bk
