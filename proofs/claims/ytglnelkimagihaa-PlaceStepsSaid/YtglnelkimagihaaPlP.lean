/-
  Plain: rows of numbers, first places, which are placed, and the steps; doing the steps makes the next row.
  Conditions: none (no program is looked at).
-/
namespace Go.Proofs.Ytglnelkimagihaa
namespace Pl
set_option linter.unusedVariables false
set_option linter.unusedSimpArgs false

/-- The number at a place. -/
def nth (l : List Int) (j : Nat) : Int := l.getD j 0
theorem nth_get {l : List Int} {j : Nat} (h : j < l.length) : nth l j = l[j] := by simp [nth, h]
theorem nth_mem {l : List Int} {j : Nat} (h : j < l.length) : nth l j ∈ l := by rw [nth_get h]; exact List.getElem_mem h
theorem mem_nth {l : List Int} {x : Int} (h : x ∈ l) : ∃ j, j < l.length ∧ nth l j = x := by
  obtain ⟨j, hj, e⟩ := List.mem_iff_getElem.1 h
  exact ⟨j, hj, by rw [nth_get hj]; exact e⟩
theorem take_snoc {l : List Int} {j : Nat} (h : j < l.length) : l.take (j + 1) = l.take j ++ [nth l j] := by
  rw [nth_get h, List.take_succ_eq_append_getElem h]
theorem drop_cons {l : List Int} {j : Nat} (h : j < l.length) : l.drop j = nth l j :: l.drop (j + 1) := by
  rw [nth_get h]; exact List.drop_eq_getElem_cons h
theorem nth_cons_zero (a : Int) (r : List Int) : nth (a :: r) 0 = a := rfl
theorem nth_cons_succ (a : Int) (r : List Int) (j : Nat) : nth (a :: r) (j + 1) = nth r j := rfl
theorem mem_take {l : List Int} {x : Int} {j : Nat} (hj : j ≤ l.length) : x ∈ l.take j ↔ ∃ k, k < j ∧ nth l k = x := by
  constructor
  · intro h
    obtain ⟨k, hk, e⟩ := mem_nth h
    have hk' : k < j := by rw [List.length_take] at hk; omega
    refine ⟨k, hk', ?_⟩
    rw [nth_get hk, List.getElem_take] at e
    rw [nth_get (by omega)]; exact e
  · rintro ⟨k, hk, rfl⟩
    have h1 : k < (l.take j).length := by rw [List.length_take]; omega
    have := nth_mem h1
    rwa [nth_get h1, List.getElem_take, ← nth_get (by omega)] at this
theorem nth_append_left {l m : List Int} {j : Nat} (h : j < l.length) : nth (l ++ m) j = nth l j := by
  rw [nth_get (by simp; omega), nth_get h, List.getElem_append_left h]
theorem nth_append_len (l : List Int) (x : Int) : nth (l ++ [x]) l.length = x := by
  rw [nth_get (by simp)]; simp

/-- The first place of a number. -/
def fst : List Int → Int → Option Nat
  | [], _ => none
  | a :: r, x => if a = x then some 0 else (fst r x).map (· + 1)
theorem fst_some {l : List Int} {x : Int} : ∀ {p : Nat}, fst l x = some p → p < l.length ∧ nth l p = x ∧ ∀ q, q < p → nth l q ≠ x := by
  induction l with
  | nil => intro p h; cases h
  | cons a r ih =>
    intro p h
    rw [fst] at h
    split at h
    · cases h
      rename_i e
      exact ⟨by simp, e, fun q hq => absurd hq (Nat.not_lt_zero _)⟩
    · rename_i e
      cases hr : fst r x with
      | none => rw [hr] at h; cases h
      | some q =>
        rw [hr] at h
        cases h
        obtain ⟨h1, h2, h3⟩ := ih hr
        refine ⟨by simp; omega, h2, fun k hk => ?_⟩
        cases k with
        | zero => exact e
        | succ k => exact h3 k (by have hk : k + 1 < q + 1 := hk; omega)
theorem fst_none {l : List Int} {x : Int} (h : fst l x = none) : x ∉ l := by
  induction l with
  | nil => simp
  | cons a r ih =>
    rw [fst] at h
    split at h
    · cases h
    · rename_i e
      cases hr : fst r x with
      | none => simp only [List.mem_cons, not_or]; exact ⟨fun q => e q.symm, ih hr⟩
      | some q => rw [hr] at h; cases h
theorem fst_is {l : List Int} {x : Int} {p : Nat} (hp : p < l.length) (h1 : nth l p = x) (h2 : ∀ q, q < p → nth l q ≠ x) : fst l x = some p := by
  cases e : fst l x with
  | none => exact absurd (h1 ▸ nth_mem hp) (fst_none e)
  | some q =>
    obtain ⟨g1, g2, g3⟩ := fst_some e
    rcases Nat.lt_trichotomy p q with h | h | h
    · exact absurd h1 (g3 p h)
    · rw [h]
    · exact absurd g2 (h2 q h)
theorem fst_no {l : List Int} {x : Int} (h : x ∉ l) : fst l x = none := by
  cases e : fst l x with
  | none => rfl
  | some q =>
    obtain ⟨g1, g2, g3⟩ := fst_some e
    exact absurd (g2 ▸ nth_mem g1) h
/-- A place as a number; -1: none. -/
def optI (o : Option Nat) : Int := match o with | none => -1 | some p => p

/-- The first place among the last c: what is known when so many have been gone through from the end on. -/
def lst (l : List Int) (x : Int) : Nat → Option Nat
  | 0 => none
  | c + 1 => if nth l (l.length - 1 - c) = x then some (l.length - 1 - c) else lst l x c
theorem lst_some {l : List Int} {x : Int} {p : Nat} : ∀ {c : Nat}, c ≤ l.length → lst l x c = some p → l.length - c ≤ p ∧ p < l.length ∧ nth l p = x ∧ ∀ q, l.length - c ≤ q → q < p → nth l q ≠ x
  | 0, _, h => by cases h
  | c + 1, hc, h => by
    rw [lst] at h
    split at h
    · cases h
      rename_i e
      exact ⟨by omega, by omega, e, fun q h1 h2 => by omega⟩
    · rename_i e
      obtain ⟨h1, h2, h3, h4⟩ := lst_some (by omega) h
      refine ⟨by omega, h2, h3, fun q hq1 hq2 => ?_⟩
      by_cases hq : q = l.length - 1 - c
      · rw [hq]; exact e
      · exact h4 q (by omega) hq2
theorem lst_none {l : List Int} {x : Int} : ∀ {c : Nat}, c ≤ l.length → lst l x c = none → ∀ q, l.length - c ≤ q → q < l.length → nth l q ≠ x
  | 0, _, _, q, h1, h2 => by omega
  | c + 1, hc, h, q, h1, h2 => by
    rw [lst] at h
    split at h
    · cases h
    · rename_i e
      by_cases hq : q = l.length - 1 - c
      · rw [hq]; exact e
      · exact lst_none (by omega) h q (by omega) h2
theorem lst_all (l : List Int) (x : Int) : lst l x l.length = fst l x := by
  cases e : lst l x l.length with
  | none =>
    refine (fst_no fun h => ?_).symm
    obtain ⟨j, hj, hx⟩ := mem_nth h
    exact lst_none (Nat.le_refl _) e j (by omega) hj hx
  | some p =>
    obtain ⟨h1, h2, h3, h4⟩ := lst_some (Nat.le_refl _) e
    exact (fst_is h2 h3 (fun q hq => h4 q (by omega) hq)).symm

/-- The numbers of the first j, each once. -/
def uqT (l : List Int) : Nat → List Int
  | 0 => []
  | j + 1 => if nth l j ∈ l.take j then uqT l j else uqT l j ++ [nth l j]
def uq (l : List Int) : List Int := uqT l l.length
theorem uqT_mem {l : List Int} {x : Int} : ∀ {j : Nat}, j ≤ l.length → (x ∈ uqT l j ↔ x ∈ l.take j)
  | 0, _ => by simp [uqT]
  | j + 1, hj => by
    have ih := uqT_mem (l := l) (x := x) (j := j) (by omega)
    rw [uqT, take_snoc (by omega)]
    split
    · rename_i h
      rw [ih, List.mem_append, List.mem_singleton]
      exact ⟨.inl, fun q => q.elim id (fun e => e ▸ h)⟩
    · rw [List.mem_append, List.mem_append, ih]
theorem uqT_nodup {l : List Int} : ∀ {j : Nat}, j ≤ l.length → (uqT l j).Nodup
  | 0, _ => by simp [uqT]
  | j + 1, hj => by
    have ih := uqT_nodup (l := l) (j := j) (by omega)
    rw [uqT]
    split
    · exact ih
    · rename_i h
      rw [List.nodup_append]
      refine ⟨ih, by simp, fun a ha b hb e => ?_⟩
      rw [List.mem_singleton] at hb
      exact h ((uqT_mem (by omega)).1 (hb ▸ e ▸ ha))
theorem uqT_len (l : List Int) : ∀ j, (uqT l j).length ≤ j
  | 0 => Nat.le_refl _
  | j + 1 => by
    have := uqT_len l j
    rw [uqT]
    split
    · omega
    · simp; omega
theorem uq_mem {l : List Int} {x : Int} : x ∈ uq l ↔ x ∈ l := by
  unfold uq; rw [uqT_mem (Nat.le_refl _), List.take_length]
theorem uq_nodup (l : List Int) : (uq l).Nodup := uqT_nodup (Nat.le_refl _)
theorem uq_len (l : List Int) : (uq l).length ≤ l.length := uqT_len l _
/-- A number of the row stands at its first place, just if it stands nowhere ahead. -/
theorem fst_at {l : List Int} {j : Nat} (hj : j < l.length) : fst l (nth l j) = some j ↔ nth l j ∉ l.take j := by
  constructor
  · intro h hm
    obtain ⟨k, hk, e⟩ := (mem_take (by omega)).1 hm
    exact (fst_some h).2.2 k hk e
  · intro h
    exact fst_is hj rfl (fun q hq e => h ((mem_take (by omega)).2 ⟨q, hq, e⟩))
theorem nodup_inj {l : List Int} (h : l.Nodup) {i j : Nat} (hi : i < l.length) (hj : j < l.length) (e : l[i] = l[j]) : i = j := by
  have hp := List.pairwise_iff_getElem.1 h
  rcases Nat.lt_trichotomy i j with q | q | q
  · exact absurd e (hp i j hi hj q)
  · exact q
  · exact absurd e.symm (hp j i hj hi q)
theorem nodup_take {l : List Int} (h : l.Nodup) {j : Nat} (hj : j < l.length) : nth l j ∉ l.take j := by
  intro hm
  obtain ⟨k, hk, e⟩ := (mem_take (by omega)).1 hm
  rw [nth_get hj, nth_get (by omega)] at e
  have := nodup_inj h _ _ e
  omega
theorem uqT_of_nodup {l : List Int} (h : l.Nodup) : ∀ j, j ≤ l.length → uqT l j = l.take j
  | 0, _ => by simp [uqT]
  | j + 1, hj => by
    rw [uqT, if_neg (nodup_take h (by omega)), uqT_of_nodup h j (by omega), take_snoc (by omega)]
theorem uq_of_nodup {l : List Int} (h : l.Nodup) : uq l = l := by
  unfold uq; rw [uqT_of_nodup h _ (Nat.le_refl _), List.take_length]
theorem fst_nodup {l : List Int} (h : l.Nodup) {j : Nat} (hj : j < l.length) : fst l (nth l j) = some j := (fst_at hj).2 (nodup_take h hj)

/-- The places of one row's numbers in another one. -/
def frm (old next : List Int) : List Int := next.map (fun x => optI (fst old x))
theorem frm_len (old next : List Int) : (frm old next).length = next.length := by simp [frm]
theorem nth_frm {old next : List Int} {j : Nat} (h : j < next.length) : nth (frm old next) j = optI (fst old (nth next j)) := by
  rw [nth_get (by rw [frm_len]; exact h), nth_get h]; simp [frm]

/-- Which are placed. -/
def plc (f : List Int) (i : Nat) : Bool := decide (nth f i < 0 ∨ ∃ k, k < i ∧ nth f i < nth f k)
/-- The greatest of the first ones, g at least. -/
def grt (g : Int) (f : List Int) : Nat → Int
  | 0 => g
  | j + 1 => max (grt g f j) (nth f j)
theorem grt_lt {g x : Int} {f : List Int} : ∀ {j : Nat}, x < grt g f j ↔ x < g ∨ ∃ k, k < j ∧ x < nth f k
  | 0 => by simp [grt]
  | j + 1 => by
    rw [grt]
    have ih := grt_lt (g := g) (x := x) (f := f) (j := j)
    constructor
    · intro h
      by_cases h1 : x < grt g f j
      · rcases ih.1 h1 with h2 | ⟨k, hk, h2⟩
        · exact .inl h2
        · exact .inr ⟨k, by omega, h2⟩
      · exact .inr ⟨j, by omega, by omega⟩
    · rintro (h | ⟨k, hk, h⟩)
      · have := ih.2 (.inl h); omega
      · by_cases e : k = j
        · subst e; omega
        · have := ih.2 (.inr ⟨k, by omega, h⟩); omega
theorem plc_grt (f : List Int) (i : Nat) : decide (nth f i < grt 0 f i) = plc f i := by
  unfold plc; congr 1; exact propext grt_lt
theorem plc_grt' (f : List Int) (i : Nat) : (decide (nth f i < grt (-1) f i) || decide (nth f i < 0)) = plc f i := by
  unfold plc
  rw [← Bool.decide_or]
  congr 1
  rw [grt_lt]
  refine propext ⟨fun h => ?_, fun h => ?_⟩
  · rcases h with (h | h) | h
    · exact .inl (by omega)
    · exact .inr h
    · exact .inl h
  · rcases h with h | h
    · exact .inr h
    · exact .inl (.inr h)
theorem grt_ge (g : Int) (f : List Int) : ∀ j, g ≤ grt g f j
  | 0 => Int.le_refl _
  | j + 1 => by rw [grt]; have := grt_ge g f j; omega

/-- What stands behind: of the last c, the first one that is not placed; 0: none. -/
def bef (next : List Int) (p : Nat → Bool) : Nat → Int
  | 0 => 0
  | c + 1 => if p (next.length - 1 - c) = true then bef next p c else nth next (next.length - 1 - c)
/-- The steps, put together from the end on. -/
def stpR (next : List Int) (p : Nat → Bool) : Nat → List (Int × Int)
  | 0 => []
  | c + 1 => if p (next.length - 1 - c) = true then stpR next p c ++ [(nth next (next.length - 1 - c), bef next p c)] else stpR next p c
/-- The steps, in order. -/
def stpF (next : List Int) (p : Nat → Bool) : Nat → List (Int × Int)
  | 0 => []
  | j + 1 => if p j = true then stpF next p j ++ [(nth next j, bef next p (next.length - 1 - j))] else stpF next p j
theorem stp_meet (next : List Int) (p : Nat → Bool) : ∀ c, c ≤ next.length → stpF next p (next.length - c) ++ (stpR next p c).reverse = stpF next p next.length
  | 0, _ => by simp [stpR]
  | c + 1, hc => by
    rw [← stp_meet next p c (by omega)]
    have e : next.length - c = (next.length - (c + 1)) + 1 := by omega
    rw [e, stpF, stpR]
    have e1 : next.length - 1 - c = next.length - (c + 1) := by omega
    have e2 : next.length - 1 - (next.length - (c + 1)) = c := by omega
    rw [e1, e2]
    split
    · simp
    · rfl
theorem stp_turned (next : List Int) (p : Nat → Bool) : (stpR next p next.length).reverse = stpF next p next.length := by
  have := stp_meet next p next.length (Nat.le_refl _)
  rwa [Nat.sub_self, stpF, List.nil_append] at this
theorem stpF_len (next : List Int) (p : Nat → Bool) : ∀ j, (stpF next p j).length ≤ j
  | 0 => Nat.le_refl _
  | j + 1 => by
    have := stpF_len next p j
    rw [stpF]
    split
    · simp; omega
    · omega
theorem stpR_len (next : List Int) (p : Nat → Bool) : ∀ j, (stpR next p j).length ≤ j
  | 0 => Nat.le_refl _
  | j + 1 => by
    have := stpR_len next p j
    rw [stpR]
    split
    · simp; omega
    · omega
theorem stpF_pre (next : List Int) (p : Nat → Bool) {j n : Nat} (h : j ≤ n) : stpF next p j <+: stpF next p n := by
  induction h with
  | refl => exact List.prefix_refl _
  | step _ ih =>
    refine ih.trans ?_
    rw [stpF]
    split
    · exact List.prefix_append _ _
    · exact List.prefix_refl _
theorem bef_congr {next : List Int} {p q : Nat → Bool} (h : ∀ i, i < next.length → p i = q i) : ∀ c, c ≤ next.length → bef next p c = bef next q c
  | 0, _ => rfl
  | c + 1, hc => by rw [bef, bef, bef_congr h c (by omega), h _ (by omega)]
theorem stpF_congr {next : List Int} {p q : Nat → Bool} (h : ∀ i, i < next.length → p i = q i) : ∀ c, c ≤ next.length → stpF next p c = stpF next q c
  | 0, _ => rfl
  | c + 1, hc => by rw [stpF, stpF, stpF_congr h c (by omega), h _ (by omega), bef_congr h _ (by omega)]
theorem stpF_nodes {next : List Int} {p : Nat → Bool} {s : Int × Int} : ∀ {j}, j ≤ next.length → s ∈ stpF next p j → s.1 ∈ next
  | 0, _, h => by cases h
  | j + 1, hj, h => by
    rw [stpF] at h
    split at h
    · rcases List.mem_append.1 h with h | h
      · exact stpF_nodes (by omega) h
      · rw [List.mem_singleton] at h; subst h; exact nth_mem (by omega)
    · exact stpF_nodes (by omega) h
/-- The steps from one row to another one. -/
def steps (old next : List Int) : List (Int × Int) := stpF (uq next) (plc (frm old (uq next))) (uq next).length

/-! ### Rows in which numbers come again: the places of the others do not matter -/
theorem fst_uqT {l : List Int} {x : Int} : ∀ {j : Nat} {p : Nat}, j ≤ l.length → fst l x = some p → p < j → fst (uqT l j) x = some (uqT l p).length
  | 0, p, _, _, hp => by omega
  | j + 1, p, hj, h, hp => by
    obtain ⟨h1, h2, h3⟩ := fst_some h
    by_cases e : p = j
    · subst e
      have hn : nth l p ∉ l.take p := fun hm => by
        obtain ⟨k, hk, e⟩ := (mem_take (by omega)).1 hm
        exact h3 k hk (e.trans h2)
      rw [uqT, if_neg hn]
      refine fst_is (by simp) (by rw [nth_append_len]; exact h2) (fun q hq e => ?_)
      rw [nth_append_left hq] at e
      exact hn (by rw [h2, ← e]; exact (uqT_mem (by omega)).1 (nth_mem hq))
    · have ih := fst_uqT (j := j) (by omega) h (by omega)
      rw [uqT]
      split
      · exact ih
      · obtain ⟨g1, g2, g3⟩ := fst_some ih
        exact fst_is (by simp; omega) (by rw [nth_append_left g1]; exact g2) (fun q hq e => g3 q hq (by rwa [nth_append_left (by omega)] at e))
theorem uqT_lt {l : List Int} {p q : Nat} (hp : p < q) (hq : q ≤ l.length) (hn : nth l p ∉ l.take p) : (uqT l p).length < (uqT l q).length := by
  induction q with
  | zero => omega
  | succ q ih =>
    rw [uqT]
    by_cases e : p = q
    · subst e
      rw [if_neg hn]; simp
    · have := ih (by omega) (by omega)
      split
      · exact this
      · simp; omega
/-- In the row with each number once the places are in the same order. -/
theorem place_lt (l : List Int) (x y : Int) : optI (fst (uq l) x) < optI (fst (uq l) y) ↔ optI (fst l x) < optI (fst l y) := by
  have one : ∀ z p, fst l z = some p → fst (uq l) z = some (uqT l p).length ∧ p < l.length ∧ nth l p ∉ l.take p := fun z p h => by
    obtain ⟨h1, h2, h3⟩ := fst_some h
    exact ⟨fst_uqT (Nat.le_refl _) h h1, h1, fun hm => by
      obtain ⟨k, hk, e⟩ := (mem_take (by omega)).1 hm
      exact h3 k hk (e.trans h2)⟩
  have no : ∀ z, fst l z = none → fst (uq l) z = none := fun z h => fst_no (fun hm => fst_none h (uq_mem.1 hm))
  cases hx : fst l x with
  | none =>
    rw [no x hx]
    cases hy : fst l y with
    | none => rw [no y hy]
    | some q => rw [(one y q hy).1]; simp only [optI]; omega
  | some p =>
    obtain ⟨a1, a2, a3⟩ := one x p hx
    rw [a1]
    cases hy : fst l y with
    | none => rw [no y hy]; simp only [optI]; omega
    | some q =>
      obtain ⟨b1, b2, b3⟩ := one y q hy
      rw [b1]
      simp only [optI]
      constructor
      · intro h
        rcases Nat.lt_trichotomy p q with h1 | h1 | h1
        · omega
        · subst h1; omega
        · have := uqT_lt h1 (by omega) b3; omega
      · intro h
        have := uqT_lt (l := l) (p := p) (q := q) (by omega) (by omega) a3; omega
theorem place_neg (l : List Int) (x : Int) : optI (fst (uq l) x) < 0 ↔ optI (fst l x) < 0 := by
  cases hx : fst l x with
  | none => rw [fst_no (fun hm => fst_none hx (uq_mem.1 hm))]
  | some p =>
    obtain ⟨h1, h2, h3⟩ := fst_some hx
    rw [fst_uqT (l := l) (j := l.length) (Nat.le_refl _) hx h1 |> (show fst (uqT l l.length) x = _ → fst (uq l) x = some (uqT l p).length from id)]
    simp only [optI]; omega
theorem plc_uq {old next : List Int} {i : Nat} (hi : i < next.length) : plc (frm (uq old) next) i = plc (frm old next) i := by
  unfold plc
  congr 1
  rw [nth_frm hi, nth_frm hi]
  refine propext (or_congr (place_neg _ _) ⟨fun ⟨k, hk, h⟩ => ⟨k, hk, ?_⟩, fun ⟨k, hk, h⟩ => ⟨k, hk, ?_⟩⟩)
  · rw [nth_frm (by omega)] at h ⊢
    exact (place_lt _ _ _).1 h
  · rw [nth_frm (by omega)] at h ⊢
    exact (place_lt _ _ _).2 h
theorem steps_uq (old next : List Int) : stpF (uq next) (plc (frm (uq old) (uq next))) (uq next).length = steps old next :=
  stpF_congr (fun i hi => plc_uq hi) _ (Nat.le_refl _)

/-! ### What is placed of rows that rise -/
theorem plc_no {f : List Int} {i : Nat} (h0 : 0 ≤ nth f i) (h : ∀ k, k < i → nth f k ≤ nth f i) : plc f i = false := by
  unfold plc
  refine decide_eq_false ?_
  rintro (q | ⟨k, hk, q⟩)
  · omega
  · have := h k hk; omega
theorem stpF_none {next : List Int} {p : Nat → Bool} : ∀ {j}, (∀ i, i < j → p i = false) → stpF next p j = []
  | 0, _ => rfl
  | j + 1, h => by rw [stpF, h j (by omega), stpF_none (fun i hi => h i (by omega))]; rfl
/-- The numbers of a row that stand in another one, in order. -/
def wo (l m : List Int) : List Int := l.filter (fun x => decide (x ∈ m))
theorem wo_mem {l m : List Int} {x : Int} : x ∈ wo l m ↔ x ∈ l ∧ x ∈ m := by simp [wo]
theorem wo_len (l m : List Int) : (wo l m).length ≤ l.length := List.length_filter_le _ _
theorem wo_nodup {l m : List Int} (h : l.Nodup) : (wo l m).Nodup := h.filter _
/-- One row's numbers ahead of one another, by another row's places. -/
def Ahead (l : List Int) (x y : Int) : Prop := optI (fst l x) < optI (fst l y)
theorem ahead_self {l : List Int} (h : l.Nodup) : l.Pairwise (Ahead l) := by
  rw [List.pairwise_iff_getElem]
  intro i j hi hj hij
  unfold Ahead
  rw [← nth_get hi, ← nth_get hj, fst_nodup h hi, fst_nodup h hj]
  simp only [optI]; omega
theorem pair_nth {r : Int → Int → Prop} {l : List Int} (h : l.Pairwise r) {i j : Nat} (hij : i < j) (hj : j < l.length) : r (nth l i) (nth l j) := by
  rw [nth_get hj, nth_get (by omega)]
  exact (List.pairwise_iff_getElem.1 h) i j (by omega) hj hij
/-- Without some of its numbers nothing is placed. -/
theorem steps_wo {old m : List Int} (h : old.Nodup) : steps old (wo old m) = [] := by
  unfold steps
  rw [uq_of_nodup (wo_nodup h)]
  refine stpF_none (fun i hi => ?_)
  have hp : (wo old m).Pairwise (Ahead old) := (ahead_self h).filter _
  refine plc_no ?_ (fun k hk => ?_)
  · rw [nth_frm hi]
    cases e : fst old (nth (wo old m) i) with
    | none => exact absurd (wo_mem.1 (nth_mem hi)).1 (fst_none e)
    | some p => simp only [optI]; omega
  · rw [nth_frm hi, nth_frm (by omega)]
    exact Int.le_of_lt (pair_nth hp hk hi)
theorem steps_self {old : List Int} (h : old.Nodup) : steps old old = [] := by
  have e : wo old old = old := List.filter_eq_self.2 (fun x hx => decide_eq_true hx)
  have := steps_wo (m := old) h
  rwa [e] at this

/-! ### Doing the steps -/
/-- One insertion. -/
def stepL (l : List Int) (s : Int × Int) : List Int := (l.flatMap fun e => (if e = s.2 then [s.1] else []) ++ (if e = s.1 then [] else [e])) ++ (if s.2 = 0 then [s.1] else [])
/-- One behind the other; none: what a number is to stand ahead of is not there. -/
def run : List (Int × Int) → List Int → Option (List Int)
  | [], l => some l
  | s :: r, l => if s.2 = 0 ∨ s.2 ∈ l then run r (stepL l s) else none
theorem run_snoc (s : Int × Int) : ∀ (A : List (Int × Int)) (l : List Int), run (A ++ [s]) l = (run A l).bind (fun l' => if s.2 = 0 ∨ s.2 ∈ l' then some (stepL l' s) else none)
  | [], l => by simp [run]
  | a :: r, l => by
    simp only [List.cons_append, run]
    split
    · exact run_snoc s r _
    · rfl
theorem step_mem {l : List Int} {s : Int × Int} {y : Int} (h : y ∈ stepL l s) : y ∈ l ∨ y = s.1 := by
  unfold stepL at h
  rcases List.mem_append.1 h with h | h
  · obtain ⟨e, he, h⟩ := List.mem_flatMap.1 h
    rcases List.mem_append.1 h with h | h
    · split at h
      · exact .inr (List.mem_singleton.1 h)
      · cases h
    · split at h
      · cases h
      · rw [List.mem_singleton.1 h]; exact .inl he
  · split at h
    · exact .inr (List.mem_singleton.1 h)
    · cases h

/-- Has it its place when the first j have been gone through? -/
def D (next : List Int) (p : Nat → Bool) (j : Nat) (x : Int) : Bool := match fst next x with | none => false | some i => !p i || decide (i < j)
theorem D_at {next : List Int} (hn : next.Nodup) (p : Nat → Bool) (j : Nat) {i : Nat} (hi : i < next.length) : D next p j (nth next i) = (!p i || decide (i < j)) := by
  unfold D; rw [fst_nodup hn hi]
theorem D_mem {next : List Int} {p : Nat → Bool} {j : Nat} {x : Int} (h : D next p j x = true) : x ∈ next := by
  unfold D at h
  cases e : fst next x with
  | none => rw [e] at h; cases h
  | some i => obtain ⟨h1, h2, -⟩ := fst_some e; rw [← h2]; exact nth_mem h1
theorem mem_drop {l : List Int} {x : Int} {j : Nat} (h : x ∈ l.drop j) : ∃ k, j ≤ k ∧ k < l.length ∧ nth l k = x := by
  obtain ⟨k, hk, e⟩ := mem_nth h
  rw [List.length_drop] at hk
  refine ⟨j + k, by omega, by omega, ?_⟩
  rw [nth_get (by rw [List.length_drop]; exact hk), List.getElem_drop] at e
  rw [nth_get (by omega)]; exact e
/-- What stands behind is the first one of those that have their place. -/
theorem bef_head {next : List Int} (hn : next.Nodup) (p : Nat → Bool) (j : Nat) : ∀ c, c ≤ next.length → j ≤ next.length - c → bef next p c = ((next.drop (next.length - c)).filter (D next p j)).headD 0
  | 0, _, _ => by simp [bef]
  | c + 1, hc, hj => by
    have ih := bef_head hn p j c (by omega) (by omega)
    rw [bef, ih]
    have e : next.length - 1 - c = next.length - (c + 1) := by omega
    rw [e]
    rw [drop_cons (l := next) (j := next.length - (c + 1)) (by omega), List.filter_cons, D_at hn p j (by omega), show next.length - (c + 1) + 1 = next.length - c from by omega]
    have : decide (next.length - (c + 1) < j) = false := decide_eq_false (by omega)
    rw [this, Bool.or_false]
    cases p (next.length - (c + 1)) <;> simp

theorem insert_at (x b : Int) : ∀ (A C : List Int), b ∉ A → b ∉ C → (A ++ b :: C).flatMap (fun e => (if e = b then [x] else []) ++ [e]) = A ++ x :: b :: C
  | [], C, _, h => by
    simp only [List.nil_append, List.flatMap_cons, if_true]
    have : C.flatMap (fun e => (if e = b then [x] else []) ++ [e]) = C := by
      induction C with
      | nil => rfl
      | cons a r ih =>
        rw [List.flatMap_cons, ih (fun q => h (List.mem_cons_of_mem _ q)), if_neg (show ¬ a = b from fun e => h (by rw [e]; exact List.mem_cons_self))]
        rfl
    rw [this]; rfl
  | a :: A, C, hA, h => by
    rw [List.cons_append, List.flatMap_cons, insert_at x b A C (fun q => hA (List.mem_cons_of_mem _ q)) h, if_neg (show ¬ a = b from fun e => hA (by rw [e]; exact List.mem_cons_self))]
    rfl
theorem flat_congr {f g : Int → List Int} : ∀ {l : List Int}, (∀ y, y ∈ l → f y = g y) → l.flatMap f = l.flatMap g
  | [], _ => rfl
  | a :: r, h => by rw [List.flatMap_cons, List.flatMap_cons, h a (by simp), flat_congr (fun y hy => h y (List.mem_cons_of_mem _ hy))]
theorem insert_no (x b : Int) : ∀ (A : List Int), b ∉ A → A.flatMap (fun e => (if e = b then [x] else []) ++ [e]) = A
  | [], _ => rfl
  | a :: A, hA => by
    rw [List.flatMap_cons, insert_no x b A (fun q => hA (List.mem_cons_of_mem _ q)), if_neg (show ¬ a = b from fun e => hA (by rw [e]; exact List.mem_cons_self))]
    rfl
/-- An insertion, seen by those that have their place. -/
theorem step_filter (P Q : Int → Bool) (x b : Int) (hx : P x = false) (hq : ∀ y, Q y = (P y || decide (y = x))) (hb : ∀ l : List Int, b ∈ l → P b = true) : ∀ l : List Int,
    (l.flatMap fun e => (if e = b then [x] else []) ++ (if e = x then [] else [e])).filter Q = (l.filter P).flatMap (fun e => (if e = b then [x] else []) ++ [e])
  | [] => rfl
  | a :: r => by
    have ih := step_filter P Q x b hx hq hb r
    have qx : Q x = true := by rw [hq]; simp
    rw [List.flatMap_cons, List.filter_append, ih, List.filter_append]
    by_cases e1 : a = x
    · subst e1
      rw [if_pos rfl]
      have e2 : ¬ a = b := fun e => by
        have := hb [b] (by simp)
        rw [← e, hx] at this; cases this
      rw [if_neg e2, List.filter_cons, hx]
      rfl
    · rw [if_neg e1]
      by_cases e2 : a = b
      · rw [if_pos e2]
        have pa : P a = true := by rw [e2]; exact hb [b] (by simp)
        have qa : Q a = true := by rw [hq, pa]; rfl
        rw [List.filter_cons (x := a) (xs := r), if_pos pa, List.flatMap_cons, if_pos e2]
        simp [qx, qa]
      · rw [if_neg e2]
        have qa : Q a = P a := by rw [hq, decide_eq_false e1, Bool.or_false]
        rw [List.filter_cons (x := a) (xs := r)]
        cases hp : P a with
        | true => rw [if_pos rfl, List.flatMap_cons, if_neg e2]; simp [qa, hp]
        | false => simp [qa, hp]

theorem eq_of_mem {r : Int → Int → Prop} (as : ∀ x y, r x y → ¬ r y x) : ∀ {l m : List Int}, l.Pairwise r → m.Pairwise r → (∀ x, x ∈ l ↔ x ∈ m) → l = m
  | [], [], _, _, _ => rfl
  | [], b :: m, _, _, h => absurd ((h b).2 (by simp)) (by simp)
  | a :: l, [], _, _, h => absurd ((h a).1 (by simp)) (by simp)
  | a :: l, b :: m, hl, hm, h => by
    rw [List.pairwise_cons] at hl hm
    have ir : ∀ x, ¬ r x x := fun x hx => as x x hx hx
    have e : a = b := by
      rcases List.mem_cons.1 ((h a).1 (by simp)) with e | ha
      · exact e
      · rcases List.mem_cons.1 ((h b).2 (by simp)) with e | hb
        · exact e.symm
        · exact absurd (hl.1 b hb) (as _ _ (hm.1 a ha))
    subst e
    rw [eq_of_mem as hl.2 hm.2 (fun x => ⟨fun hx => ?_, fun hx => ?_⟩)]
    · rcases List.mem_cons.1 ((h x).1 (List.mem_cons_of_mem _ hx)) with e | hx'
      · subst e; exact absurd (hl.1 x hx) (ir x)
      · exact hx'
    · rcases List.mem_cons.1 ((h x).2 (List.mem_cons_of_mem _ hx)) with e | hx'
      · subst e; exact absurd (hm.1 x hx) (ir x)
      · exact hx'

/-- Those that stay stand in the old row as in the next one. -/
theorem stays {old next : List Int} (ho : old.Nodup) (hn : next.Nodup) : (wo old next).filter (D next (plc (frm old next)) 0) = next.filter (D next (plc (frm old next)) 0) := by
  refine eq_of_mem (r := Ahead old) (fun x y h => by unfold Ahead at *; omega) (((ahead_self ho).filter _).filter _) ?_ (fun x => ?_)
  · rw [List.pairwise_filter, List.pairwise_iff_getElem]
    intro i j hi hj hij h1 h2
    rw [← nth_get hi, ← nth_get hj] at *
    rw [D_at hn _ _ hi] at h1
    rw [D_at hn _ _ hj] at h2
    simp only [Nat.not_lt_zero, decide_false, Bool.or_false, Bool.not_eq_true', plc, decide_eq_false_iff_not, not_or, not_exists, not_and, Int.not_lt] at h1 h2
    have h3 := h2.2 i hij
    rw [nth_frm hi] at h3 h1
    rw [nth_frm hj] at h3 h2
    unfold Ahead
    rcases Int.lt_or_eq_of_le h3 with h | h
    · exact h
    · exfalso
      cases e1 : fst old (nth next i) with
      | none => rw [e1] at h1; have := h1.1; simp only [optI] at this; omega
      | some p =>
        cases e2 : fst old (nth next j) with
        | none => rw [e2] at h2; have := h2.1; simp only [optI] at this; omega
        | some q =>
          rw [e1, e2] at h
          simp only [optI] at h
          have hpq : p = q := by omega
          subst hpq
          have a1 := (fst_some e1).2.1
          have a2 := (fst_some e2).2.1
          rw [a1] at a2
          rw [nth_get hi, nth_get hj] at a2
          have := nodup_inj hn _ _ a2
          omega
  · rw [List.mem_filter, List.mem_filter, wo_mem]
    refine ⟨fun h => ⟨h.1.2, h.2⟩, fun h => ⟨⟨?_, h.1⟩, h.2⟩⟩
    obtain ⟨i, hi, rfl⟩ := mem_nth h.1
    have h2 := h.2
    rw [D_at hn _ _ hi] at h2
    simp only [Nat.not_lt_zero, decide_false, Bool.or_false, Bool.not_eq_true', plc, decide_eq_false_iff_not, not_or] at h2
    cases e : fst old (nth next i) with
    | none => rw [nth_frm hi, e] at h2; have := h2.1; simp only [optI] at this; omega
    | some p => obtain ⟨g1, g2, -⟩ := fst_some e; rw [← g2]; exact nth_mem g1

/-- THE STAGE's THEOREM: the steps make just the next row. -/
theorem makes {old next : List Int} (ho : old.Nodup) (hn : next.Nodup) (hz : (0 : Int) ∉ next) : run (steps old next) (wo old next) = some next := by
  have main : ∀ j, j ≤ next.length → ∃ l, run (stpF next (plc (frm old next)) j) (wo old next) = some l ∧ l.filter (D next (plc (frm old next)) j) = next.filter (D next (plc (frm old next)) j) ∧ ∀ y, y ∈ l → y ∈ next := by
    intro j
    induction j with
    | zero => intro _; exact ⟨wo old next, rfl, stays ho hn, fun y hy => (wo_mem.1 hy).2⟩
    | succ j ih =>
      intro hj
      obtain ⟨l, h1, h2, h3⟩ := ih (by omega)
      generalize plc (frm old next) = p at h1 h2 ⊢
      have split3 : next = next.take j ++ nth next j :: next.drop (j + 1) := by rw [← drop_cons (by omega), List.take_append_drop]
      cases hp : p j with
      | false =>
        have e : D next p (j + 1) = D next p j := by
          funext x
          unfold D
          cases e : fst next x with
          | none => rfl
          | some i =>
            simp only
            by_cases h : i = j
            · subst h; rw [hp]; rfl
            · rw [show decide (i < j + 1) = decide (i < j) from by congr 1; exact propext ⟨fun _ => by omega, fun _ => by omega⟩]
        rw [stpF, if_neg (by rw [hp]; exact Bool.noConfusion), e]
        exact ⟨l, h1, h2, h3⟩
      | true =>
        rw [stpF, if_pos hp, run_snoc, h1]
        obtain ⟨x, hx⟩ : ∃ x, nth next j = x := ⟨_, rfl⟩
        rw [hx] at split3 ⊢
        have hb := bef_head hn p j (next.length - 1 - j) (by omega) (by omega)
        rw [show next.length - (next.length - 1 - j) = j + 1 from by omega] at hb
        obtain ⟨b, hbb⟩ : ∃ b, bef next p (next.length - 1 - j) = b := ⟨_, rfl⟩
        rw [hbb] at hb ⊢
        have hDx : D next p j x = false := by rw [← hx, D_at hn _ _ (by omega), hp]; simp
        have hDD : ∀ y, D next p (j + 1) y = (D next p j y || decide (y = x)) := by
          intro y
          by_cases e : y = x
          · subst e
            rw [← hx, D_at hn _ _ (by omega)]; simp
          · rw [decide_eq_false e, Bool.or_false]
            unfold D
            cases e2 : fst next y with
            | none => rfl
            | some i =>
              simp only
              have : i ≠ j := fun q => e (by rw [← hx, ← q]; exact (fst_some e2).2.1.symm)
              rw [show decide (i < j + 1) = decide (i < j) from by congr 1; exact propext ⟨fun _ => by omega, fun _ => by omega⟩]
        have hpre : ∀ y, y ∈ next.take j → D next p j y = true := fun y hy => by
          obtain ⟨k, hk, rfl⟩ := (mem_take (by omega)).1 hy
          rw [D_at hn _ _ (by omega), decide_eq_true hk, Bool.or_true]
        have hF : next.filter (D next p j) = next.take j ++ (next.drop (j + 1)).filter (D next p j) := by
          conv => lhs; arg 2; rw [split3]
          rw [List.filter_append, List.filter_cons, hDx, List.filter_eq_self.2 hpre]
          rfl
        have hxd : x ∉ next.drop (j + 1) := fun hm => by
          obtain ⟨k, hk1, hk2, e⟩ := mem_drop hm
          rw [← hx, nth_get hk2, nth_get (by omega)] at e
          have := nodup_inj hn _ _ e
          omega
        have hG : next.filter (D next p (j + 1)) = next.take j ++ x :: (next.drop (j + 1)).filter (D next p j) := by
          conv => lhs; arg 2; rw [split3]
          rw [List.filter_append, List.filter_cons, hDD x, decide_eq_true rfl, Bool.or_true, if_pos rfl]
          congr 1
          · refine List.filter_eq_self.2 (fun y hy => ?_)
            rw [hDD, hpre y hy]; rfl
          · congr 1
            refine List.filter_congr (fun y hy => ?_)
            rw [hDD, decide_eq_false (fun e => hxd (by rw [← e]; exact hy)), Bool.or_false]
        cases hC : (next.drop (j + 1)).filter (D next p j) with
        | nil =>
          rw [hC] at hb hF hG
          have hb0 : b = 0 := hb
          subst hb0
          refine ⟨stepL l (x, 0), ?_, ?_, ?_⟩
          · simp
          · unfold stepL
            simp only [if_true]
            have h0 : (0 : Int) ∉ l := fun q => hz (h3 _ q)
            have e : (l.flatMap fun e => (if e = 0 then [x] else []) ++ (if e = x then [] else [e])) = l.flatMap fun e => (if e = x then [] else [e]) := by
              refine flat_congr (fun y hy => ?_)
              rw [if_neg (show ¬ y = 0 from fun e => h0 (e ▸ hy))]; rfl
            rw [e, List.filter_append]
            have e2 : (l.flatMap fun e => (if e = x then [] else [e])).filter (D next p (j + 1)) = l.filter (D next p j) := by
              clear h1 h2 h3 h0 e
              induction l with
              | nil => rfl
              | cons a r ih =>
                rw [List.flatMap_cons, List.filter_append, ih]
                by_cases q : a = x
                · subst q
                  rw [if_pos rfl, List.filter_cons, hDx]; rfl
                · rw [if_neg q, List.filter_cons, List.filter_cons, hDD, decide_eq_false q, Bool.or_false]
                  cases D next p j a <;> rfl
            rw [e2, h2, hF, hG, List.append_nil]
            congr 1
            rw [List.filter_cons, hDD, decide_eq_true rfl, Bool.or_true]; rfl
          · intro y hy
            rcases step_mem hy with h | h
            · exact h3 y h
            · rw [h]; simp only; rw [← hx]; exact nth_mem (by omega)
        | cons b' C =>
          rw [hC] at hb hF hG
          have hb0 : b = b' := hb
          subst hb0
          have hbC : b ∈ (next.drop (j + 1)).filter (D next p j) := by rw [hC]; simp
          have hbD : D next p j b = true := (List.mem_filter.1 hbC).2
          have hbn : b ∈ next.drop (j + 1) := (List.mem_filter.1 hbC).1
          have hbx : b ∈ next := List.mem_of_mem_drop hbn
          have hb00 : ¬ b = 0 := fun e => hz (e ▸ hbx)
          have hnd : (next.take j ++ b :: C).Nodup := by rw [← hF]; exact hn.filter _
          rw [List.nodup_append] at hnd
          have hbl : b ∈ l := by
            have : b ∈ l.filter (D next p j) := by rw [h2, hF]; simp
            exact (List.mem_filter.1 this).1
          refine ⟨stepL l (x, b), ?_, ?_, ?_⟩
          · simp [hbl]
          · unfold stepL
            simp only [if_neg hb00, List.append_nil]
            rw [step_filter (D next p j) (D next p (j + 1)) x b hDx hDD (fun _ _ => hbD), h2, hF, hG]
            exact insert_at x b _ _ (fun q => hnd.2.2 b q b (by simp) rfl) ((List.nodup_cons.1 hnd.2.1).1)
          · intro y hy
            rcases step_mem hy with h | h
            · exact h3 y h
            · rw [h]; simp only; rw [← hx]; exact nth_mem (by omega)
  obtain ⟨l, h1, h2, h3⟩ := main next.length (Nat.le_refl _)
  unfold steps
  rw [uq_of_nodup hn, h1]
  have hall : ∀ y, y ∈ next → D next (plc (frm old next)) next.length y = true := fun y hy => by
    obtain ⟨i, hi, rfl⟩ := mem_nth hy
    rw [D_at hn _ _ hi, decide_eq_true hi, Bool.or_true]
  rw [List.filter_eq_self.2 (fun y hy => hall y (h3 y hy)), List.filter_eq_self.2 hall] at h2
  rw [h2]
/-! ### Rows on the way -/
/-- A row in which steps can be done one behind the other. -/
def Fine (l : List Int) : Prop := l.Nodup ∧ (0 : Int) ∉ l
theorem count_le {l : List Int} (h : l.Nodup) (b : Int) : (l.flatMap fun e => if e = b then [b] else []).length ≤ 1 := by
  induction l with
  | nil => simp
  | cons a r ih =>
    rw [List.nodup_cons] at h
    rw [List.flatMap_cons, List.length_append]
    by_cases e : a = b
    · subst e
      have : (r.flatMap fun e => if e = a then [a] else []) = [] := by
        rw [List.flatMap_eq_nil_iff]
        intro y hy
        rw [if_neg (show ¬ y = a from fun q => h.1 (q ▸ hy))]
      rw [this]; simp
    · rw [if_neg e]
      have := ih h.2
      simp only [List.length_nil]; omega
theorem flat_len (x b : Int) : ∀ l : List Int, (l.flatMap fun e => (if e = b then [x] else []) ++ (if e = x then [] else [e])).length ≤ l.length + (l.flatMap fun e => if e = b then [b] else []).length
  | [] => by simp
  | a :: r => by
    have ih := flat_len x b r
    rw [List.flatMap_cons, List.flatMap_cons, List.length_append, List.length_append, List.length_append, List.length_cons]
    by_cases e1 : a = b
    · by_cases e2 : a = x
      · rw [if_pos e1, if_pos e2, if_pos e1]; simp only [List.length_nil, List.length_singleton]; omega
      · rw [if_pos e1, if_neg e2, if_pos e1]; simp only [List.length_singleton]; omega
    · by_cases e2 : a = x
      · rw [if_neg e1, if_pos e2, if_neg e1]; simp only [List.length_nil]; omega
      · rw [if_neg e1, if_neg e2, if_neg e1]; simp only [List.length_nil, List.length_singleton]; omega
theorem step_len {l : List Int} (h : Fine l) (s : Int × Int) : (stepL l s).length ≤ l.length + 1 := by
  unfold stepL
  rw [List.length_append]
  have h1 := flat_len s.1 s.2 l
  by_cases e : s.2 = 0
  · have : (l.flatMap fun e => if e = s.2 then [s.2] else []) = [] := by
      rw [List.flatMap_eq_nil_iff]
      intro y hy
      rw [if_neg (show ¬ y = s.2 from fun q => h.2 (by rw [← e, ← q]; exact hy))]
    rw [this] at h1
    rw [if_pos e]
    simp only [List.length_nil, List.length_singleton] at h1 ⊢; omega
  · rw [if_neg e]
    have := count_le h.1 s.2
    simp only [List.length_nil]; omega
theorem step_fine {l : List Int} (h : Fine l) {s : Int × Int} (h1 : s.1 ≠ s.2) (h0 : s.1 ≠ 0) : Fine (stepL l s) := by
  refine ⟨?_, fun hm => (step_mem hm).elim h.2 (fun e => h0 e.symm)⟩
  have hx : ∀ e ∈ l, ∀ y ∈ (if e = s.2 then [s.1] else []) ++ (if e = s.1 then [] else [e]), y = e ∨ (y = s.1 ∧ e = s.2) := by
    intro e _ y hy
    rcases List.mem_append.1 hy with q | q
    · split at q
      · rename_i e2; exact .inr ⟨List.mem_singleton.1 q, e2⟩
      · cases q
    · split at q
      · cases q
      · exact .inl (List.mem_singleton.1 q)
  unfold stepL
  rw [List.nodup_append]
  refine ⟨?_, ?_, ?_⟩
  · unfold List.Nodup
    rw [List.pairwise_flatMap]
    refine ⟨fun e he => ?_, ?_⟩
    · by_cases e1 : e = s.2
      · by_cases e2 : e = s.1
        · exact absurd (e2.symm.trans e1) h1
        · rw [if_pos e1, if_neg e2]
          simp only [List.singleton_append, List.pairwise_cons, List.mem_singleton, List.Pairwise.nil, List.not_mem_nil, false_implies, implies_true, and_true]
          rintro y rfl
          exact fun q => e2 q.symm
      · rw [if_neg e1]
        split <;> simp
    · refine h.1.imp_of_mem ?_
      intro e e' he he' hne y hy z hz hyz
      have hy' := hx e he y hy
      have hz' := hx e' he' z hz
      subst hyz
      rcases hy' with rfl | ⟨rfl, q⟩
      · rcases hz' with rfl | ⟨q1, q2⟩
        · exact hne rfl
        · subst q1
          rcases List.mem_append.1 hy with q | q
          · split at q
            · rename_i e2; exact h1 e2
            · cases q
          · split at q
            · cases q
            · rename_i e2; exact e2 rfl
      · rcases hz' with q1 | ⟨q1, q2⟩
        · subst q1
          rcases List.mem_append.1 hz with q | q
          · split at q
            · rename_i e2; exact h1 e2
            · cases q
          · split at q
            · cases q
            · rename_i e2; exact e2 rfl
        · exact hne (q.trans q2.symm)
  · split <;> simp
  · intro y hy z hz hyz
    split at hz
    · rename_i e0
      rw [List.mem_singleton] at hz
      subst hz
      obtain ⟨e, he, hm⟩ := List.mem_flatMap.1 hy
      subst hyz
      rcases hx e he _ hm with q | ⟨_, q⟩
      · rcases List.mem_append.1 hm with r | r
        · split at r
          · rename_i e2; exact h.2 (by rw [← e0, ← e2]; exact he)
          · cases r
        · split at r
          · cases r
          · rename_i e2; exact e2 q.symm
      · exact h.2 (by rw [← e0, ← q]; exact he)
    · cases hz
/-- The steps are such as go on. -/
theorem stpF_apart {next : List Int} (hn : next.Nodup) (hz : (0 : Int) ∉ next) {p : Nat → Bool} {s : Int × Int} : ∀ {j}, j ≤ next.length → s ∈ stpF next p j → s.1 ≠ s.2 ∧ s.1 ≠ 0
  | 0, _, h => by cases h
  | j + 1, hj, h => by
    rw [stpF] at h
    split at h
    · rcases List.mem_append.1 h with h | h
      · exact stpF_apart hn hz (by omega) h
      · rw [List.mem_singleton] at h
        subst h
        have h0 : nth next j ≠ 0 := fun e => hz (by rw [← e]; exact nth_mem (by omega))
        refine ⟨fun e => ?_, h0⟩
        simp only at e
        have hb := bef_head hn p j (next.length - 1 - j) (by omega) (by omega)
        rw [show next.length - (next.length - 1 - j) = j + 1 from by omega] at hb
        rw [hb] at e
        cases hC : (next.drop (j + 1)).filter (D next p j) with
        | nil => rw [hC] at e; exact h0 e
        | cons b C =>
          rw [hC] at e
          have hm : b ∈ next.drop (j + 1) := (List.mem_filter.1 (by rw [hC]; simp)).1
          have e' : nth next j = b := e
          obtain ⟨k, hk1, hk2, e2⟩ := mem_drop hm
          rw [← e'] at e2
          rw [nth_get hk2, nth_get (by omega)] at e2
          have := nodup_inj hn _ _ e2
          omega
    · exact stpF_apart hn hz (by omega) h
theorem steps_apart {old next : List Int} (hn : next.Nodup) (hz : (0 : Int) ∉ next) {s : Int × Int} (h : s ∈ steps old next) : s.1 ≠ s.2 ∧ s.1 ≠ 0 := by
  unfold steps at h
  rw [uq_of_nodup hn] at h
  exact stpF_apart hn hz (Nat.le_refl _) h
theorem steps_nodes {old next : List Int} {s : Int × Int} (h : s ∈ steps old next) : s.1 ∈ next := uq_mem.1 (stpF_nodes (Nat.le_refl _) h)
theorem steps_len (old next : List Int) : (steps old next).length ≤ next.length := Nat.le_trans (stpF_len _ _ _) (uq_len next)
theorem run_cons {s : Int × Int} {r : List (Int × Int)} {l z : List Int} (h : run (s :: r) l = some z) : (s.2 = 0 ∨ s.2 ∈ l) ∧ run r (stepL l s) = some z := by
  rw [run] at h
  split at h
  · rename_i q; exact ⟨q, h⟩
  · cases h
end Pl
end Go.Proofs.Ytglnelkimagihaa
