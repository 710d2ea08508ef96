/-
  Plain: which old child goes on as which new one ('matM'): by the first holder of each key ('firstsM') and what is taken of it ('takeM'); each goes on once; with unlike keys the pairs are just those of one key that are alike, whichever way round.
  Conditions: none.
-/
import Derived.Test.YtpmkkgndpfbkdaaGreatDoorCh
namespace Go.Proofs.YtpmkkgndpfbkdaaGreatDoor
set_option linter.unusedVariables false
set_option linter.unusedSimpArgs false

def C.kl (c : C) : List UInt8 := c.key.data.toList
/-- The first place of each key. -/
def firstsM (K : Nat → C) : Nat → List UInt8 → Option Nat
  | 0, _ => none
  | n + 1, x => match firstsM K n x with
    | some p => some p
    | none => if (K n).kl = x then some n else none
/-- Which one goes on as c, and what is left then. -/
def takeM (K : Nat → C) (f : List UInt8 → Option Nat) (c : C) : Int × (List UInt8 → Option Nat) :=
  match f c.kl with
  | none => (-1, f)
  | some p => if (K p).alike c = true then ((p : Int), fun y => if y = c.kl then none else f y) else (-1, f)
/-- What is left behind j new ones. -/
def heldM (K N : Nat → C) (n : Nat) : Nat → List UInt8 → Option Nat
  | 0 => firstsM K n
  | j + 1 => (takeM K (heldM K N n j) (N j)).2
def matM (K N : Nat → C) (n j : Nat) : Int := (takeM K (heldM K N n j) (N j)).1

theorem firstsM_some {K : Nat → C} : ∀ {n : Nat} {x : List UInt8} {p : Nat}, firstsM K n x = some p → p < n ∧ (K p).kl = x ∧ ∀ q, q < p → (K q).kl ≠ x
  | 0, x, p, h => by cases h
  | n + 1, x, p, h => by
    unfold firstsM at h
    split at h
    · rename_i p' he
      cases h
      obtain ⟨h1, h2, h3⟩ := firstsM_some he
      exact ⟨Nat.lt_succ_of_lt h1, h2, h3⟩
    · rename_i he
      split at h
      · rename_i hk
        cases h
        exact ⟨Nat.lt_succ_self _, hk, fun q hq e => absurd he (by
          intro he
          have : ∀ (m : Nat), q < m → firstsM K m x ≠ none := by
            intro m
            induction m with
            | zero => exact fun h => absurd h (Nat.not_lt_zero _)
            | succ m ih =>
              intro hm hn
              unfold firstsM at hn
              split at hn
              · cases hn
              · rename_i hn'
                rcases Nat.lt_succ_iff_lt_or_eq.1 hm with h | rfl
                · exact ih h hn'
                · rw [if_pos e] at hn; cases hn
          exact this _ hq he)⟩
      · cases h
theorem firstsM_none {K : Nat → C} : ∀ {n : Nat} {x : List UInt8}, firstsM K n x = none → ∀ q, q < n → (K q).kl ≠ x
  | 0, x, h, q, hq => absurd hq (Nat.not_lt_zero _)
  | n + 1, x, h, q, hq => by
    unfold firstsM at h
    split at h
    · cases h
    · rename_i he
      split at h
      · cases h
      · rename_i hk
        rcases Nat.lt_succ_iff_lt_or_eq.1 hq with hlt | rfl
        · exact firstsM_none he q hlt
        · exact hk
theorem takeM_sub {K : Nat → C} {f : List UInt8 → Option Nat} {c : C} {x : List UInt8} {p : Nat} (h : (takeM K f c).2 x = some p) : f x = some p := by
  unfold takeM at h
  split at h
  · exact h
  · split at h
    · simp only at h
      split at h
      · cases h
      · exact h
    · exact h
theorem takeM_none {K : Nat → C} {f : List UInt8 → Option Nat} {c : C} {x : List UInt8} (h : f x = none) : (takeM K f c).2 x = none := by
  cases e : (takeM K f c).2 x with
  | none => rfl
  | some p => rw [takeM_sub e] at h; cases h
theorem heldM_sub {K N : Nat → C} {n : Nat} {x : List UInt8} {p : Nat} : ∀ {j : Nat}, heldM K N n j x = some p → firstsM K n x = some p
  | 0, h => h
  | j + 1, h => heldM_sub (takeM_sub h)
theorem heldM_gone {K N : Nat → C} {n : Nat} {x : List UInt8} {i : Nat} (h : heldM K N n i x = none) : ∀ {j : Nat}, i ≤ j → heldM K N n j x = none := by
  intro j hj
  induction j with
  | zero => obtain rfl : i = 0 := by omega
            exact h
  | succ j ih =>
    rcases Nat.lt_or_ge j i with hlt | hge
    · obtain rfl : i = j + 1 := by omega
      exact h
    · exact takeM_none (ih hge)
theorem takeM_cases (K : Nat → C) (f : List UInt8 → Option Nat) (c : C) : (takeM K f c = (-1, f) ∧ (f c.kl = none ∨ ∃ p, f c.kl = some p ∧ (K p).alike c = false)) ∨ ∃ p, f c.kl = some p ∧ (K p).alike c = true ∧ takeM K f c = ((p : Int), fun y => if y = c.kl then none else f y) := by
  unfold takeM
  cases e : f c.kl with
  | none => exact .inl ⟨rfl, .inl rfl⟩
  | some p =>
    cases ha : (K p).alike c with
    | false => exact .inl ⟨by simp [ha], .inr ⟨p, rfl, ha⟩⟩
    | true => exact .inr ⟨p, rfl, ha, by simp [ha]⟩
theorem matM_cases (K N : Nat → C) (n j : Nat) : matM K N n j = -1 ∨ ∃ p : Nat, matM K N n j = p ∧ p < n ∧ (K p).kl = (N j).kl ∧ (K p).alike (N j) = true ∧ heldM K N n j (N j).kl = some p ∧ heldM K N n (j + 1) (N j).kl = none := by
  rcases takeM_cases K (heldM K N n j) (N j) with ⟨h, -⟩ | ⟨p, hf, ha, h⟩
  · exact .inl (by rw [matM, h])
  · have := firstsM_some (heldM_sub hf)
    refine .inr ⟨p, by rw [matM, h], this.1, this.2.1, ha, hf, ?_⟩
    rw [heldM, h]
    simp
/-- No old child goes on twice. -/
theorem matM_once {K N : Nat → C} {n i j p : Nat} (hij : i < j) (hi : matM K N n i = (p : Int)) (hj : matM K N n j = (p : Int)) : False := by
  rcases matM_cases K N n i with h | ⟨q, h, h1, h2, h3, h4, h5⟩
  · rw [h] at hi; omega
  · obtain rfl : q = p := by rw [h] at hi; omega
    rcases matM_cases K N n j with g | ⟨r, g, g1, g2, g3, g4, g5⟩
    · rw [g] at hj; omega
    · obtain rfl : r = q := by rw [g] at hj; omega
      have := heldM_gone h5 (j := j) hij
      rw [← h2, g2, g4] at this
      cases this

/-- Of one key, and alike. -/
def C.like (c d : C) : Prop := c.kl = d.kl ∧ c.alike d = true
theorem C.like_symm {c d : C} (h : c.like d) : d.like c := by
  refine ⟨h.1.symm, ?_⟩
  have := h.2
  unfold C.alike at this ⊢
  simp only [Bool.and_eq_true, decide_eq_true_eq] at this ⊢
  exact ⟨this.1.symm, this.2.symm⟩
instance (c d : C) : Decidable (c.like d) := by unfold C.like; infer_instance
/-- No two of the first n have one key. -/
def Unl (K : Nat → C) (n : Nat) : Prop := ∀ i k, i < n → k < i → (K i).kl ≠ (K k).kl
theorem Unl.inj {K : Nat → C} {n : Nat} (h : Unl K n) {i k : Nat} (hi : i < n) (hk : k < n) (e : (K i).kl = (K k).kl) : i = k := by
  rcases Nat.lt_trichotomy i k with hlt | he | hlt
  · exact absurd e.symm (h k i hk hlt)
  · exact he
  · exact absurd e (h i k hi hlt)
/-- A key that no earlier new one has is still held. -/
theorem heldM_still {K N : Nat → C} {n : Nat} {x : List UInt8} : ∀ {j : Nat}, (∀ i, i < j → (N i).kl ≠ x) → heldM K N n j x = firstsM K n x
  | 0, _ => rfl
  | j + 1, h => by
    have ih := heldM_still (K := K) (n := n) (j := j) (fun i hi => h i (Nat.lt_succ_of_lt hi))
    rw [heldM]
    rcases takeM_cases K (heldM K N n j) (N j) with ⟨e, -⟩ | ⟨p, -, -, e⟩
    · rw [e]; exact ih
    · rw [e]
      simp only
      rw [if_neg (fun e' => h j (Nat.lt_succ_self _) e'.symm)]
      exact ih
theorem firstsM_of {K : Nat → C} {n p : Nat} (hu : Unl K n) (hp : p < n) : firstsM K n (K p).kl = some p := by
  cases e : firstsM K n (K p).kl with
  | none => exact absurd rfl (firstsM_none e p hp)
  | some q =>
    obtain ⟨h1, h2, -⟩ := firstsM_some e
    rw [hu.inj h1 hp h2]
/-- With unlike keys just those go on that are of one key and alike. -/
theorem matM_iff {K N : Nat → C} {n m j : Nat} (hK : Unl K n) (hN : Unl N m) (hj : j < m) (p : Nat) : matM K N n j = (p : Int) ↔ p < n ∧ (K p).like (N j) := by
  have hh := heldM_still (K := K) (n := n) (x := (N j).kl) (j := j) (N := N) (fun i hi => fun e => hN j i hj hi e.symm)
  constructor
  · intro h
    rcases matM_cases K N n j with g | ⟨q, g, g1, g2, g3, g4, g5⟩
    · rw [g] at h; omega
    · obtain rfl : q = p := by rw [g] at h; omega
      exact ⟨g1, g2, g3⟩
  · rintro ⟨h1, h2, h3⟩
    have e := firstsM_of hK h1
    rw [h2, ← hh] at e
    rcases takeM_cases K (heldM K N n j) (N j) with ⟨-, g | ⟨q, g, g'⟩⟩ | ⟨q, g, -, g'⟩
    · rw [g] at e; cases e
    · rw [g] at e; cases e; rw [h3] at g'; cases g'
    · rw [g] at e; cases e; rw [matM, g']
theorem matM_neg {K N : Nat → C} {n j : Nat} : matM K N n j < 0 ↔ matM K N n j = -1 := by
  rcases matM_cases K N n j with g | ⟨q, g, -⟩ <;> omega
theorem matM_neg_iff {K N : Nat → C} {n m j : Nat} (hK : Unl K n) (hN : Unl N m) (hj : j < m) : matM K N n j < 0 ↔ ∀ p, p < n → ¬ (K p).like (N j) := by
  constructor
  · intro h p hp hl
    have := (matM_iff hK hN hj p).2 ⟨hp, hl⟩
    omega
  · intro h
    rcases matM_cases K N n j with g | ⟨q, g, g1, g2, g3, -⟩
    · omega
    · exact absurd ⟨g2, g3⟩ (h q g1)
theorem matM_back {K N : Nat → C} {n m j p : Nat} (hK : Unl K n) (hN : Unl N m) (hj : j < m) (h : matM K N n j = (p : Int)) : matM N K m p = (j : Int) := by
  obtain ⟨h1, h2⟩ := (matM_iff hK hN hj p).1 h
  exact (matM_iff hN hK h1 j).2 ⟨hj, C.like_symm h2⟩

/-- The list turned round. -/
def turnK (K : Nat → C) (n i : Nat) : C := K (n - 1 - i)
theorem Unl.turn {K : Nat → C} {n : Nat} (h : Unl K n) : Unl (turnK K n) n := fun i k hi hk e => by
  have := h.inj (i := n - 1 - i) (k := n - 1 - k) (by omega) (by omega) e
  omega
theorem matM_turn {K N : Nat → C} {n m j p : Nat} (hK : Unl K n) (hN : Unl N m) (hj : j < m) (h : matM K N n j = (p : Int)) : matM (turnK K n) N n j = ((n - 1 - p : Nat) : Int) := by
  obtain ⟨h1, h2⟩ := (matM_iff hK hN hj p).1 h
  refine (matM_iff hK.turn hN hj _).2 ⟨by omega, ?_⟩
  have e : turnK K n (n - 1 - p) = K p := by
    unfold turnK
    congr 1
    omega
  rw [e]
  exact h2
theorem matM_turn_neg {K N : Nat → C} {n m j : Nat} (hK : Unl K n) (hN : Unl N m) (hj : j < m) : matM (turnK K n) N n j < 0 ↔ matM K N n j < 0 := by
  rw [matM_neg_iff hK.turn hN hj, matM_neg_iff hK hN hj]
  constructor
  · intro h p hp hl
    refine h (n - 1 - p) (by omega) ?_
    have e : turnK K n (n - 1 - p) = K p := by unfold turnK; congr 1; omega
    rw [e]
    exact hl
  · intro h p hp hl
    exact h (n - 1 - p) (by omega) hl

/-! ### How many go on -/
def sumN : Nat → (Nat → Nat) → Nat
  | 0, _ => 0
  | n + 1, f => sumN n f + f n
theorem sumN_ext {f g : Nat → Nat} : ∀ {n : Nat}, (∀ i, i < n → f i = g i) → sumN n f = sumN n g
  | 0, _ => rfl
  | n + 1, h => by rw [sumN, sumN, sumN_ext (fun i hi => h i (Nat.lt_succ_of_lt hi)), h n (Nat.lt_succ_self _)]
theorem sumN_zero : ∀ n, sumN n (fun _ => 0) = 0
  | 0 => rfl
  | n + 1 => by rw [sumN, sumN_zero n]
theorem sumN_add (f g : Nat → Nat) : ∀ n, sumN n (fun i => f i + g i) = sumN n f + sumN n g
  | 0 => rfl
  | n + 1 => by simp only [sumN, sumN_add f g n]; omega
theorem sumN_swap (r : Nat → Nat → Nat) (m : Nat) : ∀ n, sumN n (fun i => sumN m (fun p => r i p)) = sumN m (fun p => sumN n (fun i => r i p))
  | 0 => by simp only [sumN]; exact (sumN_zero m).symm
  | n + 1 => by simp only [sumN]; rw [sumN_swap r m n, sumN_add]
/-- At most one of them. -/
theorem sumN_one {q : Nat → Prop} [DecidablePred q] : ∀ {n : Nat}, (∀ i k, i < n → k < n → q i → q k → i = k) → sumN n (fun i => if q i then 1 else 0) = if ∃ i, i < n ∧ q i then 1 else 0
  | 0, _ => by
    rw [if_neg (fun ⟨i, hi, _⟩ => absurd hi (Nat.not_lt_zero _))]
    rfl
  | n + 1, h => by
    have ih := sumN_one (q := q) (n := n) (fun i k hi hk => h i k (Nat.lt_succ_of_lt hi) (Nat.lt_succ_of_lt hk))
    rw [sumN, ih]
    by_cases hn : q n
    · have hno : ¬ ∃ i, i < n ∧ q i := by
        rintro ⟨i, hi, hq⟩
        have := h i n (Nat.lt_succ_of_lt hi) (Nat.lt_succ_self _) hq hn
        omega
      rw [if_pos hn, if_neg hno, if_pos ⟨n, Nat.lt_succ_self _, hn⟩]
    · rw [if_neg hn]
      by_cases he : ∃ i, i < n ∧ q i
      · obtain ⟨i, hi, hq⟩ := he
        rw [if_pos ⟨i, hi, hq⟩, if_pos ⟨i, Nat.lt_succ_of_lt hi, hq⟩]
      · rw [if_neg he, if_neg]
        rintro ⟨i, hi, hq⟩
        rcases Nat.lt_succ_iff_lt_or_eq.1 hi with hlt | rfl
        · exact he ⟨i, hlt, hq⟩
        · exact hn hq
/-- How many of the first n are a place. -/
def cntM (f : Nat → Int) : Nat → Nat := fun n => sumN n (fun i => if 0 ≤ f i then 1 else 0)
theorem cntM_succ_yes {f : Nat → Int} {j : Nat} (h : 0 ≤ f j) : cntM f (j + 1) = cntM f j + 1 := by unfold cntM; rw [sumN, if_pos h]
theorem cntM_succ_no {f : Nat → Int} {j : Nat} (h : f j < 0) : cntM f (j + 1) = cntM f j := by unfold cntM; rw [sumN, if_neg (by omega)]; rfl
theorem cntM_le (f : Nat → Int) : ∀ n, cntM f n ≤ n
  | 0 => Nat.le_refl _
  | n + 1 => by
    have := cntM_le f n
    rcases Int.lt_or_le (f n) 0 with h | h
    · rw [cntM_succ_no h]; omega
    · rw [cntM_succ_yes h]; omega
theorem cnt_row {K N : Nat → C} {n m : Nat} (hK : Unl K n) (hN : Unl N m) : cntM (matM K N n) m = sumN m (fun j => sumN n (fun p => if (K p).like (N j) then 1 else 0)) := by
  unfold cntM
  refine sumN_ext fun j hj => ?_
  rw [sumN_one (q := fun p => (K p).like (N j)) (fun i k hi hk h1 h2 => hK.inj hi hk (h1.1.trans h2.1.symm))]
  have := matM_neg_iff (K := K) hK hN hj
  by_cases he : ∃ p, p < n ∧ (K p).like (N j)
  · rw [if_pos he, if_pos]
    rcases Int.lt_or_le (matM K N n j) 0 with h | h
    · obtain ⟨p, hp, hl⟩ := he
      exact absurd hl (this.1 h p hp)
    · exact h
  · rw [if_neg he, if_neg]
    have : matM K N n j < 0 := this.2 (fun p hp hl => he ⟨p, hp, hl⟩)
    omega
theorem cnt_eq {K N : Nat → C} {n m : Nat} (hK : Unl K n) (hN : Unl N m) : cntM (matM K N n) m = cntM (matM N K m) n := by
  rw [cnt_row hK hN, cnt_row hN hK, sumN_swap]
  refine sumN_ext fun p hp => sumN_ext fun j hj => ?_
  by_cases h : (K p).like (N j)
  · rw [if_pos h, if_pos (C.like_symm h)]
  · rw [if_neg h, if_neg (fun h' => h (C.like_symm h'))]

/-! ### The last one of a key that is alike -/
def lastM (K : Nat → C) (c : C) : Nat → Int
  | 0 => -1
  | k + 1 => if (K k).like c then (k : Int) else lastM K c k
theorem lastM_none {K : Nat → C} {c : C} : ∀ {n : Nat}, (∀ p, p < n → ¬ (K p).like c) → lastM K c n = -1
  | 0, _ => rfl
  | n + 1, h => by rw [lastM, if_neg (h n (Nat.lt_succ_self _)), lastM_none (fun p hp => h p (Nat.lt_succ_of_lt hp))]
theorem lastM_some {K : Nat → C} {c : C} {p : Nat} (hl : (K p).like c) : ∀ {n : Nat}, p < n → (∀ q, p < q → q < n → ¬ (K q).like c) → lastM K c n = (p : Int)
  | 0, hp, _ => absurd hp (Nat.not_lt_zero _)
  | n + 1, hp, h => by
    rw [lastM]
    rcases Nat.lt_succ_iff_lt_or_eq.1 hp with hlt | rfl
    · rw [if_neg (h n hlt (Nat.lt_succ_self _))]
      exact lastM_some hl hlt (fun q h1 h2 => h q h1 (Nat.lt_succ_of_lt h2))
    · rw [if_pos hl]
theorem matM_last {K N : Nat → C} {n m j : Nat} (hK : Unl K n) (hN : Unl N m) (hj : j < m) : matM K N n j = lastM K (N j) n := by
  rcases matM_cases K N n j with g | ⟨p, g, g1, g2, g3, -⟩
  · rw [g, lastM_none]
    exact (matM_neg_iff hK hN hj).1 (by omega)
  · rw [g, lastM_some ⟨g2, g3⟩ g1]
    intro q h1 h2 hl
    have := hK.inj h2 g1 (hl.1.trans g2.symm)
    omega
/-- A list goes on as itself. -/
theorem matM_self {K : Nat → C} {n j : Nat} (hK : Unl K n) (hj : j < n) : matM K K n j = (j : Int) :=
  (matM_iff hK hK hj j).2 ⟨hj, rfl, by simp [C.alike]⟩
end Go.Proofs.YtpmkkgndpfbkdaaGreatDoor
