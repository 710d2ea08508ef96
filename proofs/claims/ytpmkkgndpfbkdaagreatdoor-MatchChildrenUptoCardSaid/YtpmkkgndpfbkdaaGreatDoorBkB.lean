/-
  A book of lists of many kinds: the rounds of its fill.., grow.. and look..
  Conditions: the book, its lists, and what they hold lie in blocks behind a world; no two share a block.
-/
import Derived.Test.YtpmkkgndpfbkdaaGreatDoorBkA
namespace Go.Proofs.YtpmkkgndpfbkdaaGreatDoor.Bk
set_option linter.unusedVariables false
set_option linter.unusedSimpArgs false
open Go.RowKit

section
variable {K : KTab} {D : BkD} {w0 W W' : World} {κ i k hb : Nat} {v : Value}
/-- How many places of the j-th list of kind κ' are filled: of the kinds ahead of κ and of the lists ahead of the i-th all, of the i-th k. -/
def fillF (D : BkD) (κ i k : Nat) : Nat → Nat → Nat := fun κ' j => if κ' < κ then D.ln κ' j else if κ' = κ then (if j < i then D.ln κ' j else if j = i then k else 0) else 0
/-- Within a round: the list's own copy in block hb. -/
structure FI (K : KTab) (D : BkD) (w0 : World) (κ i k hb : Nat) (v : Value) (W : World) : Prop where
  bk : BkT D w0 W
  rows : RowsF K D w0 (fillF D κ i k) W
  hat : At W hb 0 [.slice (D.sa κ i) (D.ln κ i) (D.sc κ i), v, .int .i64 (D.N κ i)]
  hne : ∀ κ' j, j < D.m κ' → D.sa κ' j ≠ some ⟨hb, 0, none⟩
theorem FI.below (h : FI K D w0 κ i k hb v W) (hl : Below W.heap.size W W') : FI K D w0 κ i k hb v W' := ⟨h.bk.below hl, h.rows.below hl, h.hat.below hl, h.hne⟩
theorem FI.store (hs : BkS D w0) (h : FI K D w0 κ i k hb v W) {g : Nat} (hi : i < D.m κ) (he : D.sa κ i = some ⟨g, 0, none⟩) (hk : k < D.ln κ i) : FI K D w0 κ i (k + 1) hb v (putL W g (k * K.sz κ) (K.mark κ (D.N κ i))) := by
  obtain ⟨g2, e2, hge, hlt, -⟩ := h.rows.at hi (by omega)
  rw [he] at e2
  simp only [Option.some.injEq, Addr.mk.injEq, and_true] at e2
  subst e2
  have hn := hs.nb κ i hi g he
  obtain ⟨h1, h2⟩ := h.rows.store hs hi he hk (by simp [fillF])
  have hgh : g ≠ hb := fun e => h.hne κ i hi (by rw [he, e])
  refine ⟨h.bk.step h1 hge hn.1 hn.2, h2.mono fun κ' j hj => ?_, fun q hq => ?_, h.hne⟩
  · unfold fillF
    by_cases h3 : κ' = κ ∧ j = i
    · obtain ⟨rfl, rfl⟩ := h3
      simp
    · rw [if_neg h3]
      by_cases a1 : κ' < κ
      · simp [a1]
      · by_cases a2 : κ' = κ
        · subst a2
          have a3 : j ≠ i := fun e => h3 ⟨rfl, e⟩
          simp [a3]
        · simp [a1, a2]
  · have := h.hat q hq
    rw [List.getElem?_eq_getElem hq] at this ⊢
    exact h1.cell this (by simpa using Ne.symm hgh)
theorem RowsF.lt {f : Nat → Nat → Nat} (h : RowsF K D w0 f W) {κ j b : Nat} (hj : j < D.m κ) (e : D.sa κ j = some ⟨b, 0, none⟩) : b < W.heap.size := ((h κ j hj).lt e).2
theorem FI.start {T' : TypeId} (h : BkT D w0 W) (hr : RowsF K D w0 (fillF D κ i 0) W) : FI K D w0 κ i 0 W.heap.size v (W.alloc (.cells #[.slice (D.sa κ i) (D.ln κ i) (D.sc κ i), v, .int .i64 (D.N κ i)] T')) :=
  ⟨h.below (below_alloc _ _), hr.below (below_alloc _ _), at_new rfl (Below.refl _ _), fun _ _ hj e => absurd (hr.lt hj e) (Nat.lt_irrefl _)⟩
/-- What the round reads and writes. -/
theorem FI.cells (h : FI K D w0 κ i k hb v W) {g : Nat} (hi : i < D.m κ) (hk : k < D.ln κ i) (he : D.sa κ i = some ⟨g, 0, none⟩) :
    W.cell? ⟨hb, 0, none⟩ = some (.slice (some ⟨g, 0, none⟩) (D.ln κ i) (D.sc κ i)) ∧ W.cell? ⟨hb, 1, none⟩ = some v ∧ W.cell? ⟨hb, 2, none⟩ = some (.int .i64 (D.N κ i)) ∧ ∀ r, r < K.sz κ → W.cell? ⟨g, k * K.sz κ + r, none⟩ = some (rs W g (k * K.sz κ + r)) ∧ W.frozen? ⟨g, k * K.sz κ + r, none⟩ = false := by
  obtain ⟨g2, e2, -, -, h3, h4⟩ := h.rows.at hi (by omega)
  rw [he] at e2
  simp only [Option.some.injEq, Addr.mk.injEq, and_true] at e2
  subst e2
  have hle : (k + 1) * K.sz κ ≤ D.ln κ i * K.sz κ := Nat.mul_le_mul_right _ hk
  rw [Nat.add_mul, Nat.one_mul] at hle
  rw [← he]
  exact ⟨h.hat 0 (by decide : 0 < 3), h.hat 1 (by decide : 1 < 3), h.hat 2 (by decide : 2 < 3), fun r hr => ⟨let ⟨_, hu⟩ := h3 (k * K.sz κ + r) (by omega); rs_some hu, h4 _⟩⟩
theorem FI.len (h : FI K D w0 κ i k hb v W) : W.cell? ⟨hb, 0, none⟩ = some (.slice (D.sa κ i) (D.ln κ i) (D.sc κ i)) := h.hat 0 (by decide : 0 < 3)
theorem FI.next (h : FI K D w0 κ i (D.ln κ i) hb v W) : RowsF K D w0 (fillF D κ (i + 1) 0) W := h.rows.mono fun κ' j hj => by
  unfold fillF
  by_cases h1 : κ' < κ
  · simp [h1]
  · by_cases h2 : κ' = κ
    · subst h2
      simp only [Nat.lt_irrefl, if_false, if_true]
      by_cases h3 : j < i
      · rw [if_pos (by omega), if_pos h3]; exact Nat.le_refl _
      · by_cases h4 : j = i
        · subst h4
          simp
        · rw [if_neg (by omega), if_neg h3, if_neg h4]
          split <;> omega
    · simp [h1, h2]
theorem fill_next (h : RowsF K D w0 (fillF D κ (D.m κ) 0) W) : RowsF K D w0 (fillF D (κ + 1) 0 0) W := h.mono fun κ' j hj => by
  unfold fillF
  by_cases h1 : κ' < κ
  · rw [if_pos (by omega), if_pos h1]; exact Nat.le_refl _
  · by_cases h2 : κ' = κ
    · subst h2
      rw [if_pos (by omega), if_neg (by omega), if_pos rfl, if_pos hj]; exact Nat.le_refl _
    · rw [if_neg (by omega)]
      split
      · simp
      · exact Nat.zero_le _

/-! ### grow -/
theorem MarkRow.take {κ n l cp g : Nat} {x : Int} (h : MarkRow K w0 κ x (.slice (some ⟨g, 0, none⟩) n cp) n n W) (hl : l ≤ n) : MarkRow K w0 κ x (.slice (some ⟨g, 0, none⟩) l cp) l l W := by
  obtain ⟨X, h1, h2⟩ := h
  have hX := h1.1
  have hle : l * K.sz κ ≤ n * K.sz κ := Nat.mul_le_mul_right _ hl
  rcases h1.2 with ⟨e, -⟩ | ⟨g', cap', cur, e, hbase, hb, q1, q2, q3, q4⟩
  · cases e
  cases e
  refine ⟨X.take (l * K.sz κ), ⟨by rw [List.length_take, hX]; omega, .inr ⟨g, cp, cur, rfl, hbase, hb, by omega, q2, q3, ?_⟩⟩, fun q hq r hr => ?_⟩
  · rw [← q4, List.take_take]
    congr 1
    omega
  · have hlt : (q + 1) * K.sz κ ≤ l * K.sz κ := Nat.mul_le_mul_right _ hq
    rw [Nat.add_mul, Nat.one_mul] at hlt
    rw [List.getElem?_take, if_pos (by omega)]
    exact h2 q (by omega) r hr
variable {ws : Nat}
/-- The j-th list of kind κ has got its forty more, in its own block or a new one. -/
def DoneG (K : KTab) (D : BkD) (w0 : World) (ws bd κ j : Nat) (W : World) : Prop :=
  ∃ g cp, W.cell? ⟨D.T κ, j * 3 + 1, none⟩ = some (.slice (some ⟨g, 0, none⟩) (D.ln κ j + 40) cp) ∧ MarkRow K w0 κ (D.N κ j) (.slice (some ⟨g, 0, none⟩) (D.ln κ j + 40) cp) (D.ln κ j + 40) (D.ln κ j + 40) W ∧ (D.sa κ j = some ⟨g, 0, none⟩ ∨ ws ≤ g) ∧ g < bd
theorem DoneG.below {bd κ j : Nat} (h : DoneG K D w0 ws bd κ j W) (hl : Below W.heap.size W W') : DoneG K D w0 ws bd κ j W' := by
  obtain ⟨g, cp, h1, h2, h3, h4⟩ := h
  exact ⟨g, cp, by rw [hl.cell (World.block_lt_of_cell? _ _ h1), h1], h2.below hl, h3, h4⟩
theorem DoneG.kept {bd κ j g : Nat} (h : DoneG K D w0 ws bd κ j W) (hg : W.grownBy W' (some g)) (hT : g ≠ D.T κ) (hne : ∀ b, b < bd → (D.sa κ j = some ⟨b, 0, none⟩ ∨ ws ≤ b) → b ≠ g) : DoneG K D w0 ws bd κ j W' := by
  obtain ⟨g', cp, h1, h2, h3, h4⟩ := h
  refine ⟨g', cp, hg.cell h1 (by simpa using Ne.symm hT), h2.kept hg fun b e => ?_, h3, h4⟩
  simp only [Option.some.injEq, Addr.mk.injEq, and_true] at e
  subst e
  exact hne _ h4 h3
theorem DoneG.mono {bd bd' κ j : Nat} (h : DoneG K D w0 ws bd κ j W) (hb : bd ≤ bd') : DoneG K D w0 ws bd' κ j W := let ⟨g, cp, h1, h2, h3, h4⟩ := h; ⟨g, cp, h1, h2, h3, Nat.lt_of_lt_of_le h4 hb⟩
/-- Which lists have got theirs: those of the kinds ahead of κ, and of kind κ those ahead of the i-th. -/
def Past (D : BkD) (κ i κ' j : Nat) : Prop := j < D.m κ' ∧ (κ' < κ ∨ κ' = κ ∧ j < i)
/-- All lies below ws. -/
structure GS (D : BkD) (w0 : World) (ws : Nat) : Prop where
  s : BkS D w0
  lB : D.B < ws
  lT : ∀ κ, 0 < D.m κ → D.T κ < ws
  lr : ∀ κ j, j < D.m κ → ∀ b, D.sa κ j = some ⟨b, 0, none⟩ → b < ws
  ge : ∀ κ j, j < D.m κ → ∀ b, D.sa κ j = some ⟨b, 0, none⟩ → w0.heap.size ≤ b
  lw : w0.heap.size ≤ ws
/-- Within a round of grow. -/
structure GI (K : KTab) (D : BkD) (w0 : World) (ws κ i q hb : Nat) (v : Value) (a : Option Addr) (cp : Nat) (W : World) : Prop where
  bk : BkT D w0 W
  rows : RowsF K D w0 D.ln W
  hat : At W hb 0 [.slice (D.sa κ i) (D.ln κ i) (D.sc κ i), v, .int .i64 (D.N κ i)]
  hlt : hb < W.heap.size
  hws : ws ≤ hb
  done : ∀ κ' j, Past D κ i κ' j → DoneG K D w0 ws hb κ' j W
  long : MarkRow K w0 κ (D.N κ i) (.slice a (D.ln κ i + q) cp) (D.ln κ i + q) (D.ln κ i + q) W
  abl : (a = D.sa κ i ∧ cp = D.sc κ i) ∨ ∃ g, a = some ⟨g, 0, none⟩ ∧ hb < g
variable {q cp : Nat} {a : Option Addr}
theorem GI.below (h : GI K D w0 ws κ i q hb v a cp W) (hl : Below W.heap.size W W') : GI K D w0 ws κ i q hb v a cp W' :=
  ⟨h.bk.below hl, h.rows.below hl, h.hat.below hl, Nat.lt_of_lt_of_le h.hlt hl.size, h.hws, fun κ' j hj => (h.done κ' j hj).below hl, h.long.below hl, h.abl⟩
/-- One mark more. -/
theorem GI.step (hs : GS D w0 ws) (h : GI K D w0 ws κ i q hb v a cp W) (hi : i < D.m κ) {g cp' : Nat} (hg : W.grownBy W' (some g)) (hl : MarkRow K w0 κ (D.N κ i) (.slice (some ⟨g, 0, none⟩) (D.ln κ i + (q + 1)) cp') (D.ln κ i + (q + 1)) (D.ln κ i + (q + 1)) W')
    (hc : (a = some ⟨g, 0, none⟩ ∧ cp' = cp) ∨ W.heap.size ≤ g) : GI K D w0 ws κ i (q + 1) hb v (some ⟨g, 0, none⟩) cp' W' := by
  have hhw := h.hws
  have hhl := h.hlt
  have hab : (D.sa κ i = some ⟨g, 0, none⟩ ∧ cp' = D.sc κ i) ∨ hb < g := by
    rcases hc with ⟨e1, e2⟩ | e
    · rcases h.abl with ⟨e3, e4⟩ | ⟨g', e3, e4⟩
      · exact .inl ⟨by rw [← e3, e1], by rw [e2, e4]⟩
      · rw [e1] at e3
        simp only [Option.some.injEq, Addr.mk.injEq, and_true] at e3
        subst e3
        exact .inr e4
    · exact .inr (by omega)
  have hgw : w0.heap.size ≤ g := by
    rcases hab with ⟨e1, -⟩ | e
    · exact hs.ge κ i hi g e1
    · have := hs.lw; omega
  have hgB : g ≠ D.B := by
    rcases hab with ⟨e1, -⟩ | e
    · exact (hs.s.nb κ i hi g e1).1
    · have := hs.lB; omega
  have hgT : ∀ κ', 0 < D.m κ' → g ≠ D.T κ' := by
    intro κ' hm
    rcases hab with ⟨e1, -⟩ | e
    · exact (hs.s.nb κ i hi g e1).2 κ' hm
    · have := hs.lT κ' hm; omega
  have hgh : g ≠ hb := by
    rcases hab with ⟨e1, -⟩ | e
    · have := hs.lr κ i hi g e1; omega
    · omega
  have hrow : ∀ κ' j, j < D.m κ' → ¬ (κ' = κ ∧ j = i) → ∀ b, D.sa κ' j = some ⟨b, 0, none⟩ → b ≠ g := by
    intro κ' j hj hji b e hbg
    subst hbg
    rcases hab with ⟨e1, -⟩ | e2
    · exact hs.s.ap κ i hi κ' j hj (fun hh => hji ⟨hh.1.symm, hh.2.symm⟩) _ e1 e
    · have := hs.lr κ' j hj _ e; omega
  refine ⟨h.bk.step hg hgw hgB hgT, fun κ' j hj => ?_, fun r hr => ?_, Nat.lt_of_lt_of_le h.hlt hg.size, h.hws, fun κ' j hj => ?_, hl, ?_⟩
  · by_cases hji : κ' = κ ∧ j = i
    · obtain ⟨rfl, rfl⟩ := hji
      rcases hab with ⟨e1, e2⟩ | e
      · rw [e1, ← e2]
        exact hl.take (by omega)
      · refine (h.rows κ' j hj).kept hg fun b e' hbg => ?_
        subst hbg
        have := hs.lr κ' j hj _ e'; omega
    · exact (h.rows κ' j hj).kept hg (hrow κ' j hj hji)
  · have := h.hat r hr
    rw [List.getElem?_eq_getElem hr] at this ⊢
    exact hg.cell this (by simpa using Ne.symm hgh)
  · obtain ⟨hj1, hj2⟩ := hj
    refine (h.done κ' j ⟨hj1, hj2⟩).kept hg (hgT κ' (by omega)) fun b hb1 hb2 hbg => ?_
    subst hbg
    rcases hab with ⟨e1, -⟩ | e
    · have hgl := hs.lr κ i hi _ e1
      rcases hb2 with e2 | e2
      · exact hrow κ' j hj1 (by omega) _ e2 rfl
      · omega
    · omega
  · rcases hab with ⟨e1, e2⟩ | e
    · exact .inl ⟨e1.symm, e2⟩
    · exact .inr ⟨g, rfl, e⟩
/-- Between the rounds of grow. -/
structure GO (K : KTab) (D : BkD) (w0 : World) (ws κ i : Nat) (W : World) : Prop where
  bk : BkT D w0 W
  rows : RowsF K D w0 D.ln W
  done : ∀ κ' j, Past D κ i κ' j → DoneG K D w0 ws W.heap.size κ' j W
  hws : ws ≤ W.heap.size
theorem GO.below (h : GO K D w0 ws κ i W) (hl : Below W.heap.size W W') : GO K D w0 ws κ i W' :=
  ⟨h.bk.below hl, h.rows.below hl, fun κ' j hj => ((h.done κ' j hj).below hl).mono hl.size, Nat.le_trans h.hws hl.size⟩
theorem GI.start {T' : TypeId} (h : GO K D w0 ws κ i W) (hi : i < D.m κ) : GI K D w0 ws κ i 0 W.heap.size v (D.sa κ i) (D.sc κ i) (W.alloc (.cells #[.slice (D.sa κ i) (D.ln κ i) (D.sc κ i), v, .int .i64 (D.N κ i)] T')) :=
  ⟨h.bk.below (below_alloc _ _), h.rows.below (below_alloc _ _), at_new rfl (Below.refl _ _), by simp, h.hws, fun κ' j hj => (h.done κ' j hj).below (below_alloc _ _), (h.rows κ i hi).below (below_alloc _ _), .inl ⟨rfl, rfl⟩⟩
theorem GI.cells (h : GI K D w0 ws κ i q hb v a cp W) (h1 : 1 ≤ κ) (h2 : κ < 17) (hi : i < D.m κ) : W.cell? ⟨hb, 0, none⟩ = some (.slice (D.sa κ i) (D.ln κ i) (D.sc κ i)) ∧ W.cell? ⟨hb, 2, none⟩ = some (.int .i64 (D.N κ i)) ∧ W.cell? ⟨D.B, κ, none⟩ = some (.slice (some ⟨D.T κ, 0, none⟩) (D.m κ) (D.c κ)) ∧ W.frozen? ⟨D.T κ, i * 3 + 1, none⟩ = false ∧ ∃ a l q, W.cell? ⟨D.T κ, i * 3 + 1, none⟩ = some (.slice a l q) :=
  ⟨h.hat 0 (by decide : 0 < 3), h.hat 2 (by decide : 2 < 3), h.bk.fld κ h1 h2 (by omega), h.bk.frz κ _ (by omega), (h.bk.ent κ i hi).2.1⟩
end
end Go.Proofs.YtpmkkgndpfbkdaaGreatDoor.Bk
