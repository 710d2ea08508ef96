/-
  Plain: what the check's count comes to ('may_spec'): a value may be if it is of shape, has at most so many parts, and they lie at most so deep; how long its text is at most. No program is imported.
  Conditions: none.
-/
import Derived.Test.YtajmdhcknmmbbaaGreatDoorTellP
import Derived.Lib.ItoaLen
namespace Go.Proofs.YtajmdhcknmmbbaaGreatDoor

def sumTo : Nat → (Nat → Nat) → Nat
  | 0, _ => 0
  | n + 1, f => sumTo n f + f n

def maxTo : Nat → (Nat → Nat) → Nat
  | 0, _ => 0
  | n + 1, f => max (maxTo n f) (f n)

/-- How many parts it has. -/
def V.size : V → Nat
  | .leaf => 0
  | .mk _ _ _ _ ll _ L _ fl _ _ F _ _ _ => 1 + sumTo ll (fun i => (L i).size) + sumTo fl (fun i => (F i).size)

/-- How deep they lie. -/
def V.depth : V → Nat
  | .leaf => 0
  | .mk _ _ _ _ ll _ L _ fl _ _ F _ _ _ => max (maxTo ll (fun i => (L i).depth)) (maxTo fl (fun i => (F i).depth)) + 1

def shapeB (k n : Int) (s : ByteArray) (ll fl : Nat) (fn : Nat → ByteArray) (e : Int) (key : ByteArray) (hk : Bool) : Bool := inRowB k n s ll fl fn e key hk && (inLimB s key && risingB fl fn)

/-- May it be, but for how many parts there are and how deep they lie? -/
def V.shaped : V → Prop
  | .leaf => False
  | .mk k n s _ ll _ L _ fl _ fn F e key hk => shapeB k n s ll fl fn e key hk = true ∧ (∀ i, i < ll → (L i).shaped) ∧ (∀ i, i < fl → (F i).shaped)

theorem maxTo_le {n m : Nat} {f : Nat → Nat} : maxTo n f ≤ m ↔ ∀ i, i < n → f i ≤ m := by
  induction n with
  | zero => simp [maxTo]
  | succ n ih =>
    rw [maxTo, Nat.max_le, ih]
    constructor
    · rintro ⟨h1, h2⟩ i hi
      rcases Nat.lt_succ_iff_lt_or_eq.1 hi with h | rfl
      · exact h1 i h
      · exact h2
    · exact fun h => ⟨fun i hi => h i (by omega), h n (by omega)⟩

theorem le_sumTo {n i : Nat} {f : Nat → Nat} (hi : i < n) : f i ≤ sumTo n f := by
  induction n with
  | zero => omega
  | succ n ih =>
    rw [sumTo]
    rcases Nat.lt_succ_iff_lt_or_eq.1 hi with h | rfl
    · have := ih h; omega
    · omega

theorem V.size_pos {v : V} (h : v.shaped) : 1 ≤ v.size := by
  cases v with
  | leaf => exact h.elim
  | mk => simp only [V.size]; omega

theorem V.depth_pos {v : V} (h : v.shaped) : 1 ≤ v.depth := by
  cases v with
  | leaf => exact h.elim
  | mk => simp only [V.depth]; omega

theorem fold_false {G : Nat → Int → Bool × Int} (n : Nat) (x : Int) : foldTo n (fun i a => if a.1 then G i a.2 else a) (false, x) = (false, x) := by
  induction n with
  | zero => rfl
  | succ n ih => rw [foldTo, ih]; simp

/-- A fold over parts, each of which takes what it counts. -/
theorem fold_spec {G : Nat → Int → Bool × Int} {S : Nat → Prop} {z : Nat → Nat} (n : Nat) (hG : ∀ i, i < n → ∀ left, ((G i left).1 = true ↔ S i ∧ (z i : Int) ≤ left) ∧ ((G i left).1 = true → (G i left).2 = left - z i)) (x : Int) (hx : 0 ≤ x) :
    ((foldTo n (fun i a => if a.1 then G i a.2 else a) (true, x)).1 = true ↔ (∀ i, i < n → S i) ∧ (sumTo n z : Int) ≤ x) ∧ ((foldTo n (fun i a => if a.1 then G i a.2 else a) (true, x)).1 = true → (foldTo n (fun i a => if a.1 then G i a.2 else a) (true, x)).2 = x - sumTo n z) := by
  induction n with
  | zero => simp [foldTo, sumTo, hx]
  | succ n ih =>
    obtain ⟨ih1, ih2⟩ := ih (fun i hi => hG i (by omega))
    rw [foldTo]
    generalize foldTo n (fun i a => if a.1 then G i a.2 else a) (true, x) = r at ih1 ih2
    obtain ⟨g1, g2⟩ := hG n (by omega) r.2
    by_cases hr : r.1 = true
    · have e2 := ih2 hr
      have e1 := ih1.1 hr
      simp only [hr, if_true]
      rw [sumTo]
      constructor
      · rw [g1]
        constructor
        · rintro ⟨h1, h2⟩
          refine ⟨fun i hi => ?_, by push_cast; omega⟩
          rcases Nat.lt_succ_iff_lt_or_eq.1 hi with h | rfl
          · exact e1.1 i h
          · exact h1
        · rintro ⟨h1, h2⟩
          exact ⟨h1 n (by omega), by push_cast at h2; omega⟩
      · intro h
        rw [g2 h, e2]; push_cast; omega
    · simp only [hr]
      simp only [Bool.false_eq_true, if_false]
      constructor
      · constructor
        · intro h; exact absurd h hr
        · rintro ⟨h1, h2⟩
          rw [sumTo] at h2
          exact absurd (ih1.2 ⟨fun i hi => h1 i (by omega), by push_cast at h2; omega⟩) hr
      · intro h; exact absurd h hr

theorem may_spec : ∀ (v : V) (deep left : Int), ((v.may deep left).1 = true ↔ (v.shaped ∧ deep + v.depth ≤ 65) ∧ (v.size : Int) ≤ left) ∧ ((v.may deep left).1 = true → (v.may deep left).2 = left - v.size) := by
  intro v
  induction v with
  | leaf => intro deep left; simp [V.may, V.shaped]
  | mk k n s la ll lc L fa fl fc fn F e key hk ihL ihF =>
    intro deep left
    by_cases hd : left - 1 < 0 ∨ 64 < deep
    · rw [V.may, if_pos hd]
      have hz : 1 ≤ (V.mk k n s la ll lc L fa fl fc fn F e key hk).size := by simp only [V.size]; omega
      have hp : 1 ≤ (V.mk k n s la ll lc L fa fl fc fn F e key hk).depth := by simp only [V.depth]; omega
      refine ⟨⟨fun h => by simp at h, fun h => ?_⟩, fun h => by simp at h⟩
      obtain ⟨⟨-, h1⟩, h2⟩ := h
      omega
    · rw [V.may, if_neg hd]
      by_cases ho : (inRowB k n s ll fl fn e key hk && (inLimB s key && risingB fl fn)) = false
      · rw [if_pos ho]
        refine ⟨⟨fun h => by simp at h, fun h => ?_⟩, fun h => by simp at h⟩
        have h1 : shapeB k n s ll fl fn e key hk = true := h.1.1.1
        rw [shapeB, ho] at h1
        exact absurd h1 (by decide)
      · rw [if_neg ho]
        have ho' : shapeB k n s ll fl fn e key hk = true := by rw [shapeB]; simpa using ho
        obtain ⟨a1, a2⟩ := fold_spec (G := fun i a => (L i).may (deep + 1) a) (S := fun i => (L i).shaped ∧ deep + 1 + (L i).depth ≤ 65) (z := fun i => (L i).size) ll (fun i _ lf => ihL i (deep + 1) lf) (left - 1) (by omega)
        have hval : ((V.mk k n s la ll lc L fa fl fc fn F e key hk).shaped ∧ deep + (V.mk k n s la ll lc L fa fl fc fn F e key hk).depth ≤ 65) ↔ (∀ i, i < ll → (L i).shaped ∧ deep + 1 + (L i).depth ≤ 65) ∧ (∀ i, i < fl → (F i).shaped ∧ deep + 1 + (F i).depth ≤ 65) := by
          simp only [V.shaped, V.depth, ho', true_and]
          constructor
          · rintro ⟨⟨h1, h2⟩, h3⟩
            have hm1 : maxTo ll (fun i => (L i).depth) ≤ (64 - deep).toNat := by omega
            have hm2 : maxTo fl (fun i => (F i).depth) ≤ (64 - deep).toNat := by omega
            rw [maxTo_le] at hm1 hm2
            exact ⟨fun i hi => ⟨h1 i hi, by have := hm1 i hi; omega⟩, fun i hi => ⟨h2 i hi, by have := hm2 i hi; omega⟩⟩
          · rintro ⟨h1, h2⟩
            refine ⟨⟨fun i hi => (h1 i hi).1, fun i hi => (h2 i hi).1⟩, ?_⟩
            have hm1 : maxTo ll (fun i => (L i).depth) ≤ (64 - deep).toNat := maxTo_le.2 fun i hi => by have := (h1 i hi).2; omega
            have hm2 : maxTo fl (fun i => (F i).depth) ≤ (64 - deep).toNat := maxTo_le.2 fun i hi => by have := (h2 i hi).2; omega
            omega
        rw [hval]
        simp only [V.size]
        revert a1 a2
        generalize foldTo ll (fun i a => if a.1 then (L i).may (deep + 1) a.2 else a) (true, left - 1) = r
        intro a1 a2
        obtain ⟨b, y⟩ := r
        cases b with
        | false =>
          rw [fold_false]
          simp only at a1
          refine ⟨⟨fun h => by simp at h, fun h => ?_⟩, fun h => by simp at h⟩
          exact absurd (a1.2 ⟨h.1.1, by push_cast at h; omega⟩) (by decide)
        | true =>
          have ey := a2 rfl
          have e1 := a1.1 rfl
          simp only at ey
          obtain ⟨b1, b2⟩ := fold_spec (G := fun i a => (F i).may (deep + 1) a) (S := fun i => (F i).shaped ∧ deep + 1 + (F i).depth ≤ 65) (z := fun i => (F i).size) fl (fun i _ lf => ihF i (deep + 1) lf) y (by omega)
          refine ⟨?_, fun h => ?_⟩
          · rw [b1]
            constructor
            · rintro ⟨h1, h2⟩; exact ⟨⟨e1.1, h1⟩, by push_cast; omega⟩
            · rintro ⟨⟨h1, h2⟩, h3⟩; exact ⟨h2, by push_cast at h3; omega⟩
          · rw [b2 h, ey]; push_cast; omega

theorem check_iff (v : V) : v.check = true ↔ v.shaped ∧ v.size ≤ 4096 ∧ v.depth ≤ 64 := by
  rw [V.check, (may_spec v 1 4096).1]
  constructor
  · rintro ⟨⟨h1, h2⟩, h3⟩; exact ⟨h1, by omega, by omega⟩
  · rintro ⟨h1, h2, h3⟩; exact ⟨⟨h1, by omega⟩, by omega⟩

/-! ### How long the text is -/
theorem escB_length (b : UInt8) : (escB b).length ≤ 2 := by
  unfold escB
  split
  · simp
  · split
    · simp
    · split <;> simp

theorem quotedL_length (l : List UInt8) : (quotedL l).length ≤ 2 * l.length + 2 := by
  have : (l.flatMap escB).length ≤ 2 * l.length := by
    induction l with
    | nil => simp
    | cons b l ih => have := escB_length b; simp only [List.flatMap_cons, List.length_append, List.length_cons]; omega
  simp only [quotedL, List.length_cons, List.length_append, List.length_nil]; omega

theorem sepTo_length (n : Nat) (f : Nat → List UInt8) (z : Nat → Nat) (h : ∀ i, i < n → (f i).length + 1 ≤ z i) : (sepTo n f).length ≤ sumTo n z := by
  induction n with
  | zero => simp [sepTo]
  | succ n ih =>
    have h1 := ih (fun i hi => h i (by omega))
    have h2 := h n (by omega)
    simp only [sepTo, sumTo, List.length_append]
    split <;> simp only [List.length_cons, List.length_nil] <;> omega

theorem sumTo_mul (c n : Nat) (f : Nat → Nat) : sumTo n (fun i => c * f i) = c * sumTo n f := by
  induction n with
  | zero => simp [sumTo]
  | succ n ih => simp only [sumTo, ih, Nat.mul_add]

theorem wordL_length (e : Int) : (wordL e).length ≤ 6 := by
  unfold wordL
  repeat' split
  all_goals simp

theorem inLim_of {k n : Int} {s : ByteArray} {ll fl : Nat} {fn : Nat → ByteArray} {e : Int} {key : ByteArray} {hk : Bool} (h : shapeB k n s ll fl fn e key hk = true) : s.data.toList.length ≤ 4096 ∧ key.data.toList.length ≤ 4096 ∧ inRowB k n s ll fl fn e key hk = true ∧ risingB fl fn = true := by
  simp only [shapeB, inLimB, Bool.and_eq_true, decide_eq_true_eq] at h
  exact ⟨by simpa using h.2.1.1, by simpa using h.2.1.2, h.1, h.2.2⟩

theorem allB_iff {n : Nat} {f : Nat → Bool} : allB n f = true ↔ ∀ i, i < n → f i = true := by
  simp [allB]

theorem rising_lim {fl : Nat} {fn : Nat → ByteArray} (h : risingB fl fn = true) (i : Nat) (hi : i < fl) : (fn i).data.toList.length ≤ 4096 := by
  have := allB_iff.1 h i hi
  simp only [Bool.and_eq_true, decide_eq_true_eq] at this
  simpa using this.2

/-- A number's range, all through. -/
def V.nums : V → Prop
  | .leaf => True
  | .mk _ n _ _ ll _ L _ fl _ _ F _ _ _ => (-9223372036854775808 ≤ n ∧ n ≤ 9223372036854775807) ∧ (∀ i, i < ll → (L i).nums) ∧ (∀ i, i < fl → (F i).nums)

theorem V.In.nums {w : World} : ∀ {v : V}, v.In w → v.nums := by
  intro v
  induction v with
  | leaf => exact fun h => h.elim
  | mk k n s la ll lc L fa fl fc fn F e key hk ihL ihF =>
    intro h
    exact ⟨h.2.1, fun i hi => ihL i (h.2.2.2.2.2.2.2.1 i hi).2, fun i hi => ihF i (h.2.2.2.2.2.2.2.2 i hi).2.2⟩

theorem told_length : ∀ v : V, v.shaped → v.nums → v.told.length + 8300 ≤ 30000 * v.size := by
  intro v
  induction v with
  | leaf => exact fun h => h.elim
  | mk k n s la ll lc L fa fl fc fn F e key hk ihL ihF =>
    intro h hn
    obtain ⟨ho, hL, hF⟩ := h
    obtain ⟨l1, l2, -, l4⟩ := inLim_of ho
    have q1 := quotedL_length s.data.toList
    have q2 := quotedL_length key.data.toList
    have q3 := Lib.itoa_length_le n hn.1.1 hn.1.2
    have q4 := wordL_length e
    have hl : (listL ll (fun i => (L i).told)).length ≤ 30000 * sumTo ll (fun i => (L i).size) + 2 := by
      have := sepTo_length ll (fun i => (L i).told) (fun i => 30000 * (L i).size) (fun i hi => by have := ihL i (hL i hi) (hn.2.1 i hi); omega)
      rw [sumTo_mul] at this
      simp only [listL, List.length_cons, List.length_append, List.length_nil]; omega
    have hr : (recL fl fn (fun i => (F i).told)).length ≤ 30000 * sumTo fl (fun i => (F i).size) + 2 := by
      have := sepTo_length fl (fun i => quotedL (fn i).data.toList ++ (32 :: (F i).told)) (fun i => 30000 * (F i).size) (fun i hi => by
        have h1 := ihF i (hF i hi) (hn.2.2 i hi)
        have h2 := quotedL_length (fn i).data.toList
        have h3 := rising_lim l4 i hi
        simp only [List.length_append, List.length_cons]; omega)
      rw [sumTo_mul] at this
      simp only [recL, List.length_cons, List.length_append, List.length_nil]; omega
    simp only [V.told, V.size]
    repeat' split
    all_goals (try simp only [List.length_cons, List.length_append, List.length_nil])
    all_goals omega

theorem row_lt {k n : Int} {s : ByteArray} {ll fl : Nat} {fn : Nat → ByteArray} {e : Int} {key : ByteArray} {hk : Bool} (h : inRowB k n s ll fl fn e key hk = true) : k < 8 ∧ (k = 6 → isElemB s fl fn e = true) := by
  simp only [inRowB, Bool.and_eq_true, decide_eq_true_eq] at h
  refine ⟨h.1, fun hk6 => ?_⟩
  have := h.2.2.2.2.2.2.2
  subst hk6
  simpa using this

theorem elem_range {s : ByteArray} {fl : Nat} {fn : Nat → ByteArray} {e : Int} (h : isElemB s fl fn e = true) : 1 ≤ e ∧ e ≤ 8 := by
  unfold isElemB at h
  by_cases h1 : e = 1 ∨ e = 2 ∨ e = 3
  · omega
  rw [if_neg h1] at h
  by_cases h4 : e = 4
  · omega
  rw [if_neg h4] at h
  by_cases h5 : e = 5
  · omega
  rw [if_neg h5] at h
  by_cases h6 : e = 6
  · omega
  rw [if_neg h6] at h
  by_cases h7 : e = 7
  · omega
  rw [if_neg h7] at h
  by_cases h8 : e = 8
  · omega
  rw [if_neg h8] at h
  exact absurd h (by decide)

theorem itoa_ne (n : Int) : Lib.itoa n ≠ [] := by
  unfold Lib.itoa
  split
  · simp
  · intro h
    have h1 := Lib.decDigits_length n.toNat
    have h2 := Lib.nDigits_pos n.toNat
    rw [h] at h1
    simp at h1
    omega

theorem told_ne {v : V} (h : v.shaped) (h0 : ∀ k n s la ll lc L fa fl fc fn F e key hk, v = .mk k n s la ll lc L fa fl fc fn F e key hk → 0 ≤ k) : v.told ≠ [] := by
  cases v with
  | leaf => exact h.elim
  | mk k n s la ll lc L fa fl fc fn F e key hk =>
    obtain ⟨ho, -, -⟩ := h
    have hk0 := h0 _ _ _ _ _ _ _ _ _ _ _ _ _ _ _ rfl
    have h8 := (row_lt (inLim_of ho).2.2.1).1
    have hm : k = 0 ∨ k = 1 ∨ k = 2 ∨ k = 3 ∨ k = 4 ∨ k = 5 ∨ k = 6 ∨ k = 7 := by omega
    rcases hm with rfl | rfl | rfl | rfl | rfl | rfl | rfl | rfl
    · simp [V.told]
    · simp only [V.told]; simpa using itoa_ne n
    · rw [show (V.mk 2 n s la ll lc L fa fl fc fn F e key hk).told = if n = 1 then [121, 101, 115] else [110, 111] by simp [V.told]]
      split <;> simp
    · simp [V.told, quotedL]
    · simp [V.told, listL]
    · simp [V.told, recL]
    · simp [V.told]
    · simp [V.told]

/-- The value's text, as the code answers it. -/
def V.text (v : V) : ByteArray := if v.check then ⟨v.told.toArray⟩ else ⟨#[]⟩
end Go.Proofs.YtajmdhcknmmbbaaGreatDoor
