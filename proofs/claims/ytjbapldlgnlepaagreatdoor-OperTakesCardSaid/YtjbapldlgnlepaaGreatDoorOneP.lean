/-
  Plain: of two values that may be, the texts are the same just if they are the same, and where one text goes on behind the other's, both are of the kinds None, Int, Bool ('told_pre'). No program is imported.
  Conditions: none.
-/
import Derived.Test.YtjbapldlgnlepaaGreatDoorShape
namespace Go.Proofs.YtjbapldlgnlepaaGreatDoor

theorem escB_pre {a b : UInt8} {x y : List UInt8} (h : escB a ++ x = escB b ++ y) : a = b ∧ x = y := by
  unfold escB at h
  by_cases a1 : a = 34 <;> by_cases a2 : a = 92 <;> by_cases a3 : a = 10 <;> by_cases b1 : b = 34 <;> by_cases b2 : b = 92 <;> by_cases b3 : b = 10 <;> simp_all

theorem escB_head (a : UInt8) : ∃ c t, escB a = c :: t ∧ c ≠ 34 := by
  unfold escB
  by_cases a1 : a = 34 <;> by_cases a2 : a = 92 <;> by_cases a3 : a = 10 <;> simp_all

theorem esc_pre : ∀ (l l' : List UInt8) {r r' : List UInt8}, l.flatMap escB ++ 34 :: r = l'.flatMap escB ++ 34 :: r' → l = l' ∧ r = r' := by
  intro l
  induction l with
  | nil =>
    intro l' r r' h
    cases l' with
    | nil => simpa using h
    | cons b t =>
      obtain ⟨c, t', e, hc⟩ := escB_head b
      simp [List.flatMap_cons, e] at h
      exact absurd h.1.symm hc
  | cons a l ih =>
    intro l' r r' h
    cases l' with
    | nil =>
      obtain ⟨c, t', e, hc⟩ := escB_head a
      simp [List.flatMap_cons, e] at h
      exact absurd h.1 hc
    | cons b t =>
      simp only [List.flatMap_cons, List.append_assoc] at h
      obtain ⟨rfl, h'⟩ := escB_pre h
      obtain ⟨rfl, rfl⟩ := ih t h'
      exact ⟨rfl, rfl⟩

theorem quoted_pre {l l' r r' : List UInt8} (h : quotedL l ++ r = quotedL l' ++ r') : l = l' ∧ r = r' := by
  simp only [quotedL, List.cons_append, List.append_assoc, List.nil_append, List.cons.injEq, true_and] at h
  exact esc_pre l l' h

/-- What may stand behind a value within another one. -/
def Delim (r : List UInt8) : Prop := ∀ c t, r = c :: t → c = 32 ∨ c = 93 ∨ c = 125 ∨ c = 62

/-- Two lists of which all hold P, each with something behind it that does not begin so. -/
theorem span_pre {P : UInt8 → Prop} : ∀ {l l' r r' : List UInt8}, (∀ c ∈ l, P c) → (∀ c ∈ l', P c) → (∀ c t, r = c :: t → ¬ P c) → (∀ c t, r' = c :: t → ¬ P c) → l ++ r = l' ++ r' → l = l' ∧ r = r' := by
  intro l
  induction l with
  | nil =>
    intro l' r r' _ h2 h3 _ h
    cases l' with
    | nil => exact ⟨rfl, by simpa using h⟩
    | cons b t => exact absurd (h2 b (List.mem_cons_self ..)) (h3 b _ (by simpa using h))
  | cons a l ih =>
    intro l' r r' h1 h2 h3 h4 h
    cases l' with
    | nil => exact absurd (h1 a (List.mem_cons_self ..)) (h4 a _ (by simpa using h.symm))
    | cons b t =>
      simp only [List.cons_append, List.cons.injEq] at h
      obtain ⟨rfl, h⟩ := h
      obtain ⟨rfl, rfl⟩ := ih (fun c hc => h1 c (List.mem_cons_of_mem _ hc)) (fun c hc => h2 c (List.mem_cons_of_mem _ hc)) h3 h4 h
      exact ⟨rfl, rfl⟩

/-! ### Numbers -/

/-- The bytes of a number. -/
def NumB (c : UInt8) : Prop := c = 45 ∨ (48 ≤ c.toNat ∧ c.toNat ≤ 57)

def valD (l : List UInt8) : Nat := l.foldl (fun a c => a * 10 + (c.toNat - 48)) 0

theorem dig_toNat {i : Nat} (h : i < 10) : (UInt8.ofNat (48 + i)).toNat = 48 + i := by
  rw [UInt8.toNat_ofNat']; omega

theorem dec_val : ∀ u : Nat, valD (Lib.decDigits u) = u := by
  intro u
  induction u using Nat.strongRecOn with
  | _ u ih =>
    rw [Lib.decDigits]
    by_cases h : u < 10
    · rw [dif_pos h]
      show 0 * 10 + ((UInt8.ofNat (48 + u)).toNat - 48) = u
      rw [dig_toNat h]; omega
    · rw [dif_neg h]
      have := ih (u / 10) (by omega)
      simp only [valD, List.foldl_append, List.foldl_cons, List.foldl_nil] at this ⊢
      rw [this, dig_toNat (by omega)]
      omega

theorem dec_dig : ∀ u : Nat, ∀ c ∈ Lib.decDigits u, 48 ≤ c.toNat ∧ c.toNat ≤ 57 := by
  intro u
  induction u using Nat.strongRecOn with
  | _ u ih =>
    intro c hc
    rw [Lib.decDigits] at hc
    by_cases h : u < 10
    · rw [dif_pos h] at hc
      rw [List.mem_singleton.1 hc, dig_toNat h]; omega
    · rw [dif_neg h] at hc
      simp only [List.mem_append, List.mem_singleton] at hc
      rcases hc with hc | rfl
      · exact ih (u / 10) (by omega) c hc
      · rw [dig_toNat (by omega)]; omega

theorem itoa_num (n : Int) : ∀ c ∈ Lib.itoa n, NumB c := by
  intro c hc
  unfold Lib.itoa at hc
  split at hc
  · rcases List.mem_cons.1 hc with rfl | hc
    · exact .inl rfl
    · exact .inr (dec_dig _ c hc)
  · exact .inr (dec_dig _ c hc)

theorem dec_no45 (u : Nat) (t : List UInt8) : Lib.decDigits u ≠ 45 :: t := by
  intro h
  have := dec_dig u 45 (by rw [h]; exact List.mem_cons_self ..)
  have : (45 : UInt8).toNat = 45 := rfl
  omega

theorem itoa_inj {n m : Int} (h : Lib.itoa n = Lib.itoa m) : n = m := by
  unfold Lib.itoa at h
  split at h <;> split at h
  · have := congrArg valD (List.cons.inj h).2
    rw [dec_val, dec_val] at this; omega
  · exact absurd h.symm (dec_no45 _ _)
  · exact absurd h (dec_no45 _ _)
  · have := congrArg valD h
    rw [dec_val, dec_val] at this; omega

theorem Delim.num {r : List UInt8} (h : Delim r) : ∀ c t, r = c :: t → ¬ NumB c := by
  intro c t e hn
  rcases h c t e with rfl | rfl | rfl | rfl <;> rcases hn with hn | hn <;> exact absurd hn (by decide)

theorem itoa_pre {n m : Int} {r r' : List UInt8} (h1 : Delim r) (h2 : Delim r') (h : Lib.itoa n ++ r = Lib.itoa m ++ r') : n = m ∧ r = r' := by
  obtain ⟨e, rfl⟩ := span_pre (itoa_num n) (itoa_num m) h1.num h2.num h
  exact ⟨itoa_inj e, rfl⟩

theorem delim_cons {c : UInt8} (r : List UInt8) (h : c = 32 ∨ c = 93 ∨ c = 125 ∨ c = 62) : Delim (c :: r) := by
  intro c' t e
  cases e
  exact h

/-! ### Things one behind the other -/

/-- Each with a blank ahead of it. -/
def tl : Nat → (Nat → List UInt8) → List UInt8
  | 0, _ => []
  | n + 1, g => 32 :: (g 0 ++ tl n (fun i => g (i + 1)))

theorem tl_snoc : ∀ (n : Nat) (g : Nat → List UInt8), tl (n + 1) g = tl n g ++ 32 :: g n := by
  intro n
  induction n with
  | zero => intro g; simp [tl]
  | succ n ih =>
    intro g
    rw [tl, ih, tl]
    simp

theorem sepTo_left : ∀ (n : Nat) (g : Nat → List UInt8), sepTo (n + 1) g = g 0 ++ tl n (fun i => g (i + 1)) := by
  intro n
  induction n with
  | zero => intro g; simp [sepTo, tl]
  | succ n ih =>
    intro g
    rw [sepTo, ih, tl_snoc]
    simp

theorem tl_delim (n : Nat) (g : Nat → List UInt8) {c : UInt8} (r : List UInt8) (h : c = 93 ∨ c = 125) : Delim (tl n g ++ c :: r) := by
  cases n with
  | zero => exact delim_cons _ (by rcases h with rfl | rfl <;> simp)
  | succ n => exact delim_cons _ (.inl rfl)

theorem tl_pre {c : UInt8} (hc : c = 93 ∨ c = 125) : ∀ (n m : Nat) (g g' : Nat → List UInt8) (R : Nat → Prop) {r r' : List UInt8},
    (∀ i, i < n → i < m → ∀ x y, Delim x → Delim y → g i ++ x = g' i ++ y → R i ∧ x = y) → tl n g ++ c :: r = tl m g' ++ c :: r' → n = m ∧ (∀ i, i < n → R i) ∧ r = r' := by
  intro n
  induction n with
  | zero =>
    intro m g g' R r r' _ h
    cases m with
    | zero => exact ⟨rfl, fun i hi => absurd hi (Nat.not_lt_zero _), by simpa [tl] using h⟩
    | succ m => rcases hc with rfl | rfl <;> simp [tl] at h
  | succ n ih =>
    intro m g g' R r r' H h
    cases m with
    | zero => rcases hc with rfl | rfl <;> simp [tl] at h
    | succ m =>
      simp only [tl, List.cons_append, List.cons.injEq, true_and, List.append_assoc] at h
      obtain ⟨h0, h1⟩ := H 0 (by omega) (by omega) _ _ (tl_delim _ _ _ hc) (tl_delim _ _ _ hc) h
      obtain ⟨rfl, h2, rfl⟩ := ih m _ _ (fun i => R (i + 1)) (fun i hi hj => H (i + 1) (by omega) (by omega)) h1
      exact ⟨rfl, fun i hi => by cases i with | zero => exact h0 | succ i => exact h2 i (by omega), rfl⟩

theorem sep_pre {c : UInt8} (hc : c = 93 ∨ c = 125) (n m : Nat) (g g' : Nat → List UInt8) (R : Nat → Prop) {r r' : List UInt8}
    (hg : ∀ i, i < n → ∃ a t, g i = a :: t ∧ a ≠ c) (hg' : ∀ i, i < m → ∃ a t, g' i = a :: t ∧ a ≠ c)
    (H : ∀ i, i < n → i < m → ∀ x y, Delim x → Delim y → g i ++ x = g' i ++ y → R i ∧ x = y) (h : sepTo n g ++ c :: r = sepTo m g' ++ c :: r') : n = m ∧ (∀ i, i < n → R i) ∧ r = r' := by
  cases n with
  | zero =>
    cases m with
    | zero => exact ⟨rfl, fun i hi => absurd hi (Nat.not_lt_zero _), by simpa [sepTo] using h⟩
    | succ m =>
      obtain ⟨a, t, e, ha⟩ := hg' 0 (by omega)
      rw [sepTo_left, e] at h
      simp [sepTo] at h
      exact absurd h.1.symm ha
  | succ n =>
    cases m with
    | zero =>
      obtain ⟨a, t, e, ha⟩ := hg 0 (by omega)
      rw [sepTo_left, e] at h
      simp [sepTo] at h
      exact absurd h.1 ha
    | succ m =>
      rw [sepTo_left, sepTo_left, List.append_assoc, List.append_assoc] at h
      obtain ⟨h0, h1⟩ := H 0 (by omega) (by omega) _ _ (tl_delim _ _ _ hc) (tl_delim _ _ _ hc) h
      obtain ⟨rfl, h2, rfl⟩ := tl_pre hc n m _ _ (fun i => R (i + 1)) (fun i hi hj => H (i + 1) (by omega) (by omega)) h1
      exact ⟨rfl, fun i hi => by cases i with | zero => exact h0 | succ i => exact h2 i (by omega), rfl⟩
end Go.Proofs.YtjbapldlgnlepaaGreatDoor
