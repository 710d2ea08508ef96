/-
  Walks: stage 1's texts of values (value.Text) in a namespace of their own: Shape MayP CheckW InRowA InRowB.
  Conditions: none.
-/
import Derived.Test.YtdlmemalefhgmaaGreatDoorVtA
import Derived.Lib.ItoaLen
section
namespace Go.Proofs.YtdlmemalefhgmaaGreatDoor.VT
set_option linter.unusedVariables false
set_option linter.unusedSimpArgs false

def sumTo : Nat → (Nat → Nat) → Nat
  | 0, _ => 0
  | n + 1, f => sumTo n f + f n

def maxTo : Nat → (Nat → Nat) → Nat
  | 0, _ => 0
  | n + 1, f => max (maxTo n f) (f n)

/-- How many parts it has. -/
def V.size : V → Nat
  | .leaf => 0
  | .mk _ _ _ _ ll _ L _ fl _ _ F _ _ _ => 1 + sumTo ll (fun i => (L i).size) + sumTo fl (fun i => (F i).size)

/-- How deep they lie. -/
def V.depth : V → Nat
  | .leaf => 0
  | .mk _ _ _ _ ll _ L _ fl _ _ F _ _ _ => max (maxTo ll (fun i => (L i).depth)) (maxTo fl (fun i => (F i).depth)) + 1

def shapeB (k n : Int) (s : ByteArray) (ll fl : Nat) (fn : Nat → ByteArray) (e : Int) (key : ByteArray) (hk : Bool) : Bool := inRowB k n s ll fl fn e key hk && (inLimB s key && risingB fl fn)

/-- May it be, but for how many parts there are and how deep they lie? -/
def V.shaped : V → Prop
  | .leaf => False
  | .mk k n s _ ll _ L _ fl _ fn F e key hk => shapeB k n s ll fl fn e key hk = true ∧ (∀ i, i < ll → (L i).shaped) ∧ (∀ i, i < fl → (F i).shaped)

theorem maxTo_le {n m : Nat} {f : Nat → Nat} : maxTo n f ≤ m ↔ ∀ i, i < n → f i ≤ m := by
  induction n with
  | zero => simp [maxTo]
  | succ n ih =>
    rw [maxTo, Nat.max_le, ih]
    constructor
    · rintro ⟨h1, h2⟩ i hi
      rcases Nat.lt_succ_iff_lt_or_eq.1 hi with h | rfl
      · exact h1 i h
      · exact h2
    · exact fun h => ⟨fun i hi => h i (by omega), h n (by omega)⟩

theorem le_sumTo {n i : Nat} {f : Nat → Nat} (hi : i < n) : f i ≤ sumTo n f := by
  induction n with
  | zero => omega
  | succ n ih =>
    rw [sumTo]
    rcases Nat.lt_succ_iff_lt_or_eq.1 hi with h | rfl
    · have := ih h; omega
    · omega

theorem V.size_pos {v : V} (h : v.shaped) : 1 ≤ v.size := by
  cases v with
  | leaf => exact h.elim
  | mk => simp only [V.size]; omega

theorem V.depth_pos {v : V} (h : v.shaped) : 1 ≤ v.depth := by
  cases v with
  | leaf => exact h.elim
  | mk => simp only [V.depth]; omega

theorem fold_false {G : Nat → Int → Bool × Int} (n : Nat) (x : Int) : foldTo n (fun i a => if a.1 then G i a.2 else a) (false, x) = (false, x) := by
  induction n with
  | zero => rfl
  | succ n ih => rw [foldTo, ih]; simp

/-- A fold over parts, each of which takes what it counts. -/
theorem fold_spec {G : Nat → Int → Bool × Int} {S : Nat → Prop} {z : Nat → Nat} (n : Nat) (hG : ∀ i, i < n → ∀ left, ((G i left).1 = true ↔ S i ∧ (z i : Int) ≤ left) ∧ ((G i left).1 = true → (G i left).2 = left - z i)) (x : Int) (hx : 0 ≤ x) :
    ((foldTo n (fun i a => if a.1 then G i a.2 else a) (true, x)).1 = true ↔ (∀ i, i < n → S i) ∧ (sumTo n z : Int) ≤ x) ∧ ((foldTo n (fun i a => if a.1 then G i a.2 else a) (true, x)).1 = true → (foldTo n (fun i a => if a.1 then G i a.2 else a) (true, x)).2 = x - sumTo n z) := by
  induction n with
  | zero => simp [foldTo, sumTo, hx]
  | succ n ih =>
    obtain ⟨ih1, ih2⟩ := ih (fun i hi => hG i (by omega))
    rw [foldTo]
    generalize foldTo n (fun i a => if a.1 then G i a.2 else a) (true, x) = r at ih1 ih2
    obtain ⟨g1, g2⟩ := hG n (by omega) r.2
    by_cases hr : r.1 = true
    · have e2 := ih2 hr
      have e1 := ih1.1 hr
      simp only [hr, if_true]
      rw [sumTo]
      constructor
      · rw [g1]
        constructor
        · rintro ⟨h1, h2⟩
          refine ⟨fun i hi => ?_, by push_cast; omega⟩
          rcases Nat.lt_succ_iff_lt_or_eq.1 hi with h | rfl
          · exact e1.1 i h
          · exact h1
        · rintro ⟨h1, h2⟩
          exact ⟨h1 n (by omega), by push_cast at h2; omega⟩
      · intro h
        rw [g2 h, e2]; push_cast; omega
    · simp only [hr]
      simp only [Bool.false_eq_true, if_false]
      constructor
      · constructor
        · intro h; exact absurd h hr
        · rintro ⟨h1, h2⟩
          rw [sumTo] at h2
          exact absurd (ih1.2 ⟨fun i hi => h1 i (by omega), by push_cast at h2; omega⟩) hr
      · intro h; exact absurd h hr

theorem may_spec : ∀ (v : V) (deep left : Int), ((v.may deep left).1 = true ↔ (v.shaped ∧ deep + v.depth ≤ 65) ∧ (v.size : Int) ≤ left) ∧ ((v.may deep left).1 = true → (v.may deep left).2 = left - v.size) := by
  intro v
  induction v with
  | leaf => intro deep left; simp [V.may, V.shaped]
  | mk k n s la ll lc L fa fl fc fn F e key hk ihL ihF =>
    intro deep left
    by_cases hd : left - 1 < 0 ∨ 64 < deep
    · rw [V.may, if_pos hd]
      have hz : 1 ≤ (V.mk k n s la ll lc L fa fl fc fn F e key hk).size := by simp only [V.size]; omega
      have hp : 1 ≤ (V.mk k n s la ll lc L fa fl fc fn F e key hk).depth := by simp only [V.depth]; omega
      refine ⟨⟨fun h => by simp at h, fun h => ?_⟩, fun h => by simp at h⟩
      obtain ⟨⟨-, h1⟩, h2⟩ := h
      omega
    · rw [V.may, if_neg hd]
      by_cases ho : (inRowB k n s ll fl fn e key hk && (inLimB s key && risingB fl fn)) = false
      · rw [if_pos ho]
        refine ⟨⟨fun h => by simp at h, fun h => ?_⟩, fun h => by simp at h⟩
        have h1 : shapeB k n s ll fl fn e key hk = true := h.1.1.1
        rw [shapeB, ho] at h1
        exact absurd h1 (by decide)
      · rw [if_neg ho]
        have ho' : shapeB k n s ll fl fn e key hk = true := by rw [shapeB]; simpa using ho
        obtain ⟨a1, a2⟩ := fold_spec (G := fun i a => (L i).may (deep + 1) a) (S := fun i => (L i).shaped ∧ deep + 1 + (L i).depth ≤ 65) (z := fun i => (L i).size) ll (fun i _ lf => ihL i (deep + 1) lf) (left - 1) (by omega)
        have hval : ((V.mk k n s la ll lc L fa fl fc fn F e key hk).shaped ∧ deep + (V.mk k n s la ll lc L fa fl fc fn F e key hk).depth ≤ 65) ↔ (∀ i, i < ll → (L i).shaped ∧ deep + 1 + (L i).depth ≤ 65) ∧ (∀ i, i < fl → (F i).shaped ∧ deep + 1 + (F i).depth ≤ 65) := by
          simp only [V.shaped, V.depth, ho', true_and]
          constructor
          · rintro ⟨⟨h1, h2⟩, h3⟩
            have hm1 : maxTo ll (fun i => (L i).depth) ≤ (64 - deep).toNat := by omega
            have hm2 : maxTo fl (fun i => (F i).depth) ≤ (64 - deep).toNat := by omega
            rw [maxTo_le] at hm1 hm2
            exact ⟨fun i hi => ⟨h1 i hi, by have := hm1 i hi; omega⟩, fun i hi => ⟨h2 i hi, by have := hm2 i hi; omega⟩⟩
          · rintro ⟨h1, h2⟩
            refine ⟨⟨fun i hi => (h1 i hi).1, fun i hi => (h2 i hi).1⟩, ?_⟩
            have hm1 : maxTo ll (fun i => (L i).depth) ≤ (64 - deep).toNat := maxTo_le.2 fun i hi => by have := (h1 i hi).2; omega
            have hm2 : maxTo fl (fun i => (F i).depth) ≤ (64 - deep).toNat := maxTo_le.2 fun i hi => by have := (h2 i hi).2; omega
            omega
        rw [hval]
        simp only [V.size]
        revert a1 a2
        generalize foldTo ll (fun i a => if a.1 then (L i).may (deep + 1) a.2 else a) (true, left - 1) = r
        intro a1 a2
        obtain ⟨b, y⟩ := r
        cases b with
        | false =>
          rw [fold_false]
          simp only at a1
          refine ⟨⟨fun h => by simp at h, fun h => ?_⟩, fun h => by simp at h⟩
          exact absurd (a1.2 ⟨h.1.1, by push_cast at h; omega⟩) (by decide)
        | true =>
          have ey := a2 rfl
          have e1 := a1.1 rfl
          simp only at ey
          obtain ⟨b1, b2⟩ := fold_spec (G := fun i a => (F i).may (deep + 1) a) (S := fun i => (F i).shaped ∧ deep + 1 + (F i).depth ≤ 65) (z := fun i => (F i).size) fl (fun i _ lf => ihF i (deep + 1) lf) y (by omega)
          refine ⟨?_, fun h => ?_⟩
          · rw [b1]
            constructor
            · rintro ⟨h1, h2⟩; exact ⟨⟨e1.1, h1⟩, by push_cast; omega⟩
            · rintro ⟨⟨h1, h2⟩, h3⟩; exact ⟨h2, by push_cast at h3; omega⟩
          · rw [b2 h, ey]; push_cast; omega

theorem check_iff (v : V) : v.check = true ↔ v.shaped ∧ v.size ≤ 4096 ∧ v.depth ≤ 64 := by
  rw [V.check, (may_spec v 1 4096).1]
  constructor
  · rintro ⟨⟨h1, h2⟩, h3⟩; exact ⟨h1, by omega, by omega⟩
  · rintro ⟨h1, h2, h3⟩; exact ⟨⟨h1, by omega⟩, by omega⟩

/-! ### How long the text is -/
theorem escB_length (b : UInt8) : (escB b).length ≤ 2 := by
  unfold escB
  split
  · simp
  · split
    · simp
    · split <;> simp

theorem quotedL_length (l : List UInt8) : (quotedL l).length ≤ 2 * l.length + 2 := by
  have : (l.flatMap escB).length ≤ 2 * l.length := by
    induction l with
    | nil => simp
    | cons b l ih => have := escB_length b; simp only [List.flatMap_cons, List.length_append, List.length_cons]; omega
  simp only [quotedL, List.length_cons, List.length_append, List.length_nil]; omega

theorem sepTo_length (n : Nat) (f : Nat → List UInt8) (z : Nat → Nat) (h : ∀ i, i < n → (f i).length + 1 ≤ z i) : (sepTo n f).length ≤ sumTo n z := by
  induction n with
  | zero => simp [sepTo]
  | succ n ih =>
    have h1 := ih (fun i hi => h i (by omega))
    have h2 := h n (by omega)
    simp only [sepTo, sumTo, List.length_append]
    split <;> simp only [List.length_cons, List.length_nil] <;> omega

theorem sumTo_mul (c n : Nat) (f : Nat → Nat) : sumTo n (fun i => c * f i) = c * sumTo n f := by
  induction n with
  | zero => simp [sumTo]
  | succ n ih => simp only [sumTo, ih, Nat.mul_add]

theorem wordL_length (e : Int) : (wordL e).length ≤ 6 := by
  unfold wordL
  repeat' split
  all_goals simp

theorem inLim_of {k n : Int} {s : ByteArray} {ll fl : Nat} {fn : Nat → ByteArray} {e : Int} {key : ByteArray} {hk : Bool} (h : shapeB k n s ll fl fn e key hk = true) : s.data.toList.length ≤ 4096 ∧ key.data.toList.length ≤ 4096 ∧ inRowB k n s ll fl fn e key hk = true ∧ risingB fl fn = true := by
  simp only [shapeB, inLimB, Bool.and_eq_true, decide_eq_true_eq] at h
  exact ⟨by simpa using h.2.1.1, by simpa using h.2.1.2, h.1, h.2.2⟩

theorem allB_iff {n : Nat} {f : Nat → Bool} : allB n f = true ↔ ∀ i, i < n → f i = true := by
  simp [allB]

theorem rising_lim {fl : Nat} {fn : Nat → ByteArray} (h : risingB fl fn = true) (i : Nat) (hi : i < fl) : (fn i).data.toList.length ≤ 4096 := by
  have := allB_iff.1 h i hi
  simp only [Bool.and_eq_true, decide_eq_true_eq] at this
  simpa using this.2

/-- A number's range, all through. -/
def V.nums : V → Prop
  | .leaf => True
  | .mk _ n _ _ ll _ L _ fl _ _ F _ _ _ => (-9223372036854775808 ≤ n ∧ n ≤ 9223372036854775807) ∧ (∀ i, i < ll → (L i).nums) ∧ (∀ i, i < fl → (F i).nums)

theorem V.In.nums {w : World} : ∀ {v : V}, v.In w → v.nums := by
  intro v
  induction v with
  | leaf => exact fun h => h.elim
  | mk k n s la ll lc L fa fl fc fn F e key hk ihL ihF =>
    intro h
    exact ⟨h.2.1, fun i hi => ihL i (h.2.2.2.2.2.2.2.1 i hi).2, fun i hi => ihF i (h.2.2.2.2.2.2.2.2 i hi).2.2⟩

theorem told_length : ∀ v : V, v.shaped → v.nums → v.told.length + 8300 ≤ 30000 * v.size := by
  intro v
  induction v with
  | leaf => exact fun h => h.elim
  | mk k n s la ll lc L fa fl fc fn F e key hk ihL ihF =>
    intro h hn
    obtain ⟨ho, hL, hF⟩ := h
    obtain ⟨l1, l2, -, l4⟩ := inLim_of ho
    have q1 := quotedL_length s.data.toList
    have q2 := quotedL_length key.data.toList
    have q3 := Lib.itoa_length_le n hn.1.1 hn.1.2
    have q4 := wordL_length e
    have hl : (listL ll (fun i => (L i).told)).length ≤ 30000 * sumTo ll (fun i => (L i).size) + 2 := by
      have := sepTo_length ll (fun i => (L i).told) (fun i => 30000 * (L i).size) (fun i hi => by have := ihL i (hL i hi) (hn.2.1 i hi); omega)
      rw [sumTo_mul] at this
      simp only [listL, List.length_cons, List.length_append, List.length_nil]; omega
    have hr : (recL fl fn (fun i => (F i).told)).length ≤ 30000 * sumTo fl (fun i => (F i).size) + 2 := by
      have := sepTo_length fl (fun i => quotedL (fn i).data.toList ++ (32 :: (F i).told)) (fun i => 30000 * (F i).size) (fun i hi => by
        have h1 := ihF i (hF i hi) (hn.2.2 i hi)
        have h2 := quotedL_length (fn i).data.toList
        have h3 := rising_lim l4 i hi
        simp only [List.length_append, List.length_cons]; omega)
      rw [sumTo_mul] at this
      simp only [recL, List.length_cons, List.length_append, List.length_nil]; omega
    simp only [V.told, V.size]
    repeat' split
    all_goals (try simp only [List.length_cons, List.length_append, List.length_nil])
    all_goals omega

theorem row_lt {k n : Int} {s : ByteArray} {ll fl : Nat} {fn : Nat → ByteArray} {e : Int} {key : ByteArray} {hk : Bool} (h : inRowB k n s ll fl fn e key hk = true) : k < 8 ∧ (k = 6 → isElemB s fl fn e = true) := by
  simp only [inRowB, Bool.and_eq_true, decide_eq_true_eq] at h
  refine ⟨h.1, fun hk6 => ?_⟩
  have := h.2.2.2.2.2.2.2
  subst hk6
  simpa using this

theorem elem_range {s : ByteArray} {fl : Nat} {fn : Nat → ByteArray} {e : Int} (h : isElemB s fl fn e = true) : 1 ≤ e ∧ e ≤ 8 := by
  unfold isElemB at h
  by_cases h1 : e = 1 ∨ e = 2 ∨ e = 3
  · omega
  rw [if_neg h1] at h
  by_cases h4 : e = 4
  · omega
  rw [if_neg h4] at h
  by_cases h5 : e = 5
  · omega
  rw [if_neg h5] at h
  by_cases h6 : e = 6
  · omega
  rw [if_neg h6] at h
  by_cases h7 : e = 7
  · omega
  rw [if_neg h7] at h
  by_cases h8 : e = 8
  · omega
  rw [if_neg h8] at h
  exact absurd h (by decide)

theorem itoa_ne (n : Int) : Lib.itoa n ≠ [] := by
  unfold Lib.itoa
  split
  · simp
  · intro h
    have h1 := Lib.decDigits_length n.toNat
    have h2 := Lib.nDigits_pos n.toNat
    rw [h] at h1
    simp at h1
    omega

theorem told_ne {v : V} (h : v.shaped) (h0 : ∀ k n s la ll lc L fa fl fc fn F e key hk, v = .mk k n s la ll lc L fa fl fc fn F e key hk → 0 ≤ k) : v.told ≠ [] := by
  cases v with
  | leaf => exact h.elim
  | mk k n s la ll lc L fa fl fc fn F e key hk =>
    obtain ⟨ho, -, -⟩ := h
    have hk0 := h0 _ _ _ _ _ _ _ _ _ _ _ _ _ _ _ rfl
    have h8 := (row_lt (inLim_of ho).2.2.1).1
    have hm : k = 0 ∨ k = 1 ∨ k = 2 ∨ k = 3 ∨ k = 4 ∨ k = 5 ∨ k = 6 ∨ k = 7 := by omega
    rcases hm with rfl | rfl | rfl | rfl | rfl | rfl | rfl | rfl
    · simp [V.told]
    · simp only [V.told]; simpa using itoa_ne n
    · rw [show (V.mk 2 n s la ll lc L fa fl fc fn F e key hk).told = if n = 1 then [121, 101, 115] else [110, 111] by simp [V.told]]
      split <;> simp
    · simp [V.told, quotedL]
    · simp [V.told, listL]
    · simp [V.told, recL]
    · simp [V.told]
    · simp [V.told]

/-- The value's text, as the code answers it. -/
def V.text (v : V) : ByteArray := if v.check then ⟨v.told.toArray⟩ else ⟨#[]⟩
end Go.Proofs.YtdlmemalefhgmaaGreatDoor.VT
end
section
namespace Go.Proofs.YtdlmemalefhgmaaGreatDoor.VT
set_option linter.unusedVariables false
set_option linter.unusedSimpArgs false

/-- The rounds over a list: each goes on only if all ahead of it answered yes. -/
def mayTo (n : Nat) (g : Nat → Int → Bool × Int) (a : Bool × Int) : Bool × Int := foldTo n (fun i a => if a.1 then g i a.2 else a) a

theorem mayTo_zero (g : Nat → Int → Bool × Int) (a : Bool × Int) : mayTo 0 g a = a := rfl
theorem mayTo_succ (n : Nat) (g : Nat → Int → Bool × Int) (a : Bool × Int) (h : (mayTo n g a).1 = true) : mayTo (n + 1) g a = g n (mayTo n g a).2 := by
  show (if (mayTo n g a).1 then _ else _) = _
  rw [h]
  rfl
theorem mayTo_stop {g : Nat → Int → Bool × Int} {a : Bool × Int} {j : Nat} (h : (mayTo j g a).1 = false) : ∀ n, j ≤ n → mayTo n g a = mayTo j g a := by
  intro n
  induction n with
  | zero =>
    intro hj
    obtain rfl : j = 0 := by omega
    rfl
  | succ n ih =>
    intro hj
    rcases Nat.lt_or_ge n j with h1 | h1
    · obtain rfl : j = n + 1 := by omega
      rfl
    · have e := ih h1
      show (if (mayTo n g a).1 then g n (mayTo n g a).2 else mayTo n g a) = _
      rw [e, h]
      rfl
theorem mayTo_false (n : Nat) (g : Nat → Int → Bool × Int) (a : Bool × Int) (h : a.1 = false) : mayTo n g a = a := mayTo_stop (j := 0) h n (Nat.zero_le _)

theorem mayTo_range {n : Nat} {g : Nat → Int → Bool × Int} (hg : ∀ i x, i < n → 0 ≤ x → -1 ≤ (g i x).2 ∧ (g i x).2 ≤ x ∧ ((g i x).1 = true → 0 ≤ (g i x).2)) {a : Bool × Int} (ha : -1 ≤ a.2 ∧ (a.1 = true → 0 ≤ a.2)) :
    ∀ j, j ≤ n → -1 ≤ (mayTo j g a).2 ∧ (mayTo j g a).2 ≤ a.2 ∧ ((mayTo j g a).1 = true → 0 ≤ (mayTo j g a).2) := by
  intro j
  induction j with
  | zero => exact fun _ => ⟨ha.1, Int.le_refl _, ha.2⟩
  | succ j ih =>
    intro hj
    obtain ⟨h1, h2, h3⟩ := ih (by omega)
    cases h : (mayTo j g a).1 with
    | false =>
      rw [mayTo_stop h (j + 1) (Nat.le_succ _)]
      exact ⟨h1, h2, h3⟩
    | true =>
      rw [mayTo_succ j g a h]
      obtain ⟨k1, k2, k3⟩ := hg j _ (by omega) (h3 h)
      exact ⟨k1, by omega, k3⟩

theorem may_mk (k n : Int) (s : ByteArray) (la : Option Addr) (ll lc : Nat) (L : Nat → V) (fa : Option Addr) (fl fc : Nat) (fn : Nat → ByteArray) (F : Nat → V) (e : Int) (key : ByteArray) (hk : Bool) (deep left : Int) :
    (V.mk k n s la ll lc L fa fl fc fn F e key hk).may deep left =
      if left - 1 < 0 ∨ 64 < deep then (false, left - 1)
      else if (inRowB k n s ll fl fn e key hk && (inLimB s key && risingB fl fn)) = false then (false, left - 1)
      else mayTo fl (fun i => (F i).may (deep + 1)) (mayTo ll (fun i => (L i).may (deep + 1)) (true, left - 1)) := rfl

theorem may_range : ∀ (v : V) (deep left : Int), 0 ≤ left → -1 ≤ (v.may deep left).2 ∧ (v.may deep left).2 ≤ left ∧ ((v.may deep left).1 = true → 0 ≤ (v.may deep left).2) := by
  intro v
  induction v with
  | leaf => exact fun deep left h => ⟨by simp [V.may]; omega, by simp [V.may], by simp [V.may]⟩
  | mk k n s la ll lc L fa fl fc fn F e key hk ihL ihF =>
  intro deep left h
  rw [may_mk]
  by_cases h1 : left - 1 < 0 ∨ 64 < deep
  · rw [if_pos h1]
    exact ⟨by simp; omega, by simp; omega, by simp⟩
  rw [if_neg h1]
  by_cases h2 : (inRowB k n s ll fl fn e key hk && (inLimB s key && risingB fl fn)) = false
  · rw [if_pos h2]
    exact ⟨by simp; omega, by simp; omega, by simp⟩
  rw [if_neg h2]
  obtain ⟨a1, a2, a3⟩ := mayTo_range (n := ll) (g := fun i => (L i).may (deep + 1)) (fun i x _ hx => ihL i (deep + 1) x hx) (a := (true, left - 1)) ⟨by simp; omega, fun _ => by simp; omega⟩ ll (Nat.le_refl _)
  obtain ⟨b1, b2, b3⟩ := mayTo_range (n := fl) (g := fun i => (F i).may (deep + 1)) (fun i x _ hx => ihF i (deep + 1) x hx) (a := mayTo ll (fun i => (L i).may (deep + 1)) (true, left - 1)) ⟨a1, a3⟩ fl (Nat.le_refl _)
  exact ⟨b1, by simp at a2; omega, b3⟩
end Go.Proofs.YtdlmemalefhgmaaGreatDoor.VT
end
section
namespace Go.Proofs.YtdlmemalefhgmaaGreatDoor.VT
set_option linter.unusedVariables false
set_option linter.unusedSimpArgs false
open Go.RowKit

/-- The table of the rows, in memory. -/
def RowsAt (w : World) : Prop := ∀ i, i < 40 → w.cell? ⟨1, i, none⟩ = some (.bool (rowsL.getD i false))

set_option maxHeartbeats 400000 in
theorem just_any (fa : Option Addr) (fl fc : Nat) (fn : Nat → ByteArray) (na : Option Addr) (m mc : Nat) (ns : Nat → ByteArray) (w : World) (hlc : fl ≤ fc ∧ fc ≤ maxLen) (hm : m ≤ 1000)
    (h : ∀ i, i < fl → ∃ b o, fa = some ⟨b, o, none⟩ ∧ w.cell? ⟨b, o + i * 9, none⟩ = some (.string (fn i)))
    (h' : ∀ i, i < m → ∃ b, na = some ⟨b, 0, none⟩ ∧ w.cell? ⟨b, i, none⟩ = some (.string (ns i))) :
    Calls Tryz.prog 84 #[.slice fa fl fc, .slice na m mc] w fun x w' => x = .returned (.bool (justB fl fn m ns)) ∧ w = w' := by
  unfold maxLen at hlc
  by_cases hne : fl = m
  · subst hne
    by_cases hz : fl = 0
    · subst hz
      have R := Lib.hid (show Ending.returned (.bool true) = .returned (.bool (justB 0 fn 0 ns)) by simp [justB, allB])
      clear h h'
      go_enter Tryz.func84, Tryz.ntmps84
      go_wp2_with fail
      go_loopw [14] (fun i wr => i = .int .i64 0 ∧ w = wr) (fun _ _ => 0)
      case atStart => exact ⟨rfl, rfl⟩
      case round =>
        obtain ⟨rfl, rfl⟩ := hrel
        go_wp2_with fail
        go_ret
        exact ⟨R.out, rfl⟩
    · obtain ⟨b, o, rfl, -⟩ := h 0 (by omega)
      obtain ⟨b', rfl, -⟩ := h' 0 (by omega)
      have H := Lib.hid h
      have H' := Lib.hid h'
      clear h h'
      go_enter Tryz.func84, Tryz.ntmps84
      go_wp2_with fail
      go_loopw [14] (fun i wr => ∃ k : Nat, k ≤ fl ∧ i = .int .i64 k ∧ HeldTo k (fun i => decide (fn i = ns i)) ∧ w = wr) (fun i _ => fl - (intOf i).toNat)
      case atStart => exact ⟨0, Nat.zero_le _, rfl, HeldTo.zero, rfl⟩
      case round =>
        obtain ⟨k, hk, rfl, hheld, rfl⟩ := hrel
        have HH := Lib.hid hheld
        clear hheld
        by_cases hlt : k < fl
        · obtain ⟨b1, o1, he, c0⟩ := H.out k hlt
          simp only [Option.some.injEq, Addr.mk.injEq, and_true] at he
          obtain ⟨rfl, rfl⟩ := he
          obtain ⟨b1, he, d0⟩ := H'.out k hlt
          simp only [Option.some.injEq, Addr.mk.injEq, and_true] at he
          subst he
          have R1 := Lib.hid (show decide (fn k = ns k) = false → Ending.returned (.bool false) = .returned (.bool (justB fl fn fl ns)) from fun h1 => by rw [justB, allB_false hlt h1, Bool.and_false])
          have R2 := Lib.hid (show decide (fn k = ns k) = true → HeldTo (k + 1) (fun i => decide (fn i = ns i)) from fun h1 => HH.out.succ h1)
          generalize fn k = x at c0 R1 R2
          generalize ns k = y at d0 R1 R2
          by_cases hnm : x = y
          · have R := Lib.hid (R2.out (by simp [hnm]))
            subst hnm
            clear R1 R2
            go_wp2_with fail
            go_roundw
            case rel => exact ⟨k + 1, by omega, by go_num, R.out, trivial⟩
            case measure => simp [intOf]; omega
          · have R := Lib.hid (R1.out (by simp [hnm]))
            have q := bytes_ne hnm
            clear hnm R1 R2
            go_wp2_with fail
            go_ret
            exact ⟨R.out, rfl⟩
        · obtain rfl : k = fl := by omega
          have R := Lib.hid (show Ending.returned (.bool true) = .returned (.bool (justB k fn k ns)) by rw [justB, HH.out.all]; simp)
          go_wp2_with fail
          go_ret
          exact ⟨R.out, rfl⟩
  · have R := Lib.hid (show Ending.returned (.bool false) = .returned (.bool (justB fl fn m ns)) by simp [justB, hne])
    have q : ((fl : Int) == (m : Int)) = false := by simp; omega
    have q2 : ((fl : Int) != (m : Int)) = true := by rw [bne_iff_ne]; omega
    clear h h' hne
    go_enter Tryz.func84, Tryz.ntmps84
    go_wp2_with fail
    go_ret
    exact ⟨R.out, rfl⟩

set_option maxHeartbeats 400000 in
theorem inLim_any (w : World) (b o : Nat) (k n : Int) (s : ByteArray) (la : Option Addr) (ll lc : Nat) (L : Nat → V) (fa : Option Addr) (fl fc : Nat) (fn : Nat → ByteArray) (F : Nat → V) (e : Int) (key : ByteArray) (hk : Bool)
    (h : At w b o (V.mk k n s la ll lc L fa fl fc fn F e key hk).cells) (hs : s.size ≤ maxLen) (hkey : key.size ≤ maxLen) :
    Calls Tryz.prog 44 #[.pointer (some ⟨b, o, none⟩)] w fun x w' => x = .returned (.bool (inLimB s key)) ∧ w = w' := by
  obtain ⟨c0, c1, c2, c3, c4, c5, c6, c7⟩ := at8 h
  unfold maxLen at hs hkey
  clear h c0 c1 c3 c4 c5 c7
  by_cases h1 : s.size ≤ 4096
  · have R := Lib.hid (show decide ((key.size : Int) ≤ 4096) = inLimB s key by simp [inLimB, h1]; omega)
    have h1' : (s.size : Int) ≤ 4096 := by omega
    go_enter Tryz.func44, Tryz.ntmps44
    go_wp2_with fail
    go_ret
    exact ⟨ret_b R.out, rfl⟩
  · have R := Lib.hid (show Ending.returned (.bool false) = .returned (.bool (inLimB s key)) by simp [inLimB, h1])
    have h1' : ¬ (s.size : Int) ≤ 4096 := by omega
    go_enter Tryz.func44, Tryz.ntmps44
    go_wp2_with fail
    go_ret
    exact ⟨R.out, rfl⟩

set_option maxHeartbeats 400000 in
theorem rising_any (fa : Option Addr) (fl fc : Nat) (fn : Nat → ByteArray) (w : World) (hlc : fl ≤ fc ∧ fc ≤ maxLen)
    (h : ∀ i, i < fl → (∃ b o, fa = some ⟨b, o, none⟩ ∧ w.cell? ⟨b, o + i * 9, none⟩ = some (.string (fn i))) ∧ (fn i).size ≤ maxLen) :
    Calls Tryz.prog 45 #[.slice fa fl fc] w fun x w' => x = .returned (.bool (risingB fl fn)) ∧ w = w' := by
  unfold maxLen at hlc
  by_cases hz : fl = 0
  · subst hz
    have R := Lib.hid (show Ending.returned (.bool true) = .returned (.bool (risingB 0 fn)) by simp [risingB, allB])
    clear h
    go_enter Tryz.func45, Tryz.ntmps45
    go_wp2_with fail
    go_loopw [3, 8] (fun l i wr => i = .int .i64 0 ∧ l = .string ⟨#[]⟩ ∧ w = wr) (fun _ _ _ => 0)
    case atStart => exact ⟨rfl, rfl, rfl⟩
    case round =>
      obtain ⟨rfl, rfl, rfl⟩ := hrel
      go_wp2_with fail
      go_ret
      exact ⟨R.out, rfl⟩
  · obtain ⟨⟨b, o, rfl, -⟩, -⟩ := h 0 (by omega)
    have H := Lib.hid h
    clear h
    go_enter Tryz.func45, Tryz.ntmps45
    go_wp2_with fail
    go_loopw [3, 8] (fun l i wr => ∃ k : Nat, k ≤ fl ∧ i = .int .i64 k ∧ l = .string (lastB fn k) ∧ HeldTo k (fun i => !(bLe (fn i) (lastB fn i)) && decide ((fn i).size ≤ 4096)) ∧ w = wr) (fun _ i _ => fl - (intOf i).toNat)
    case atStart => exact ⟨0, Nat.zero_le _, rfl, rfl, HeldTo.zero, rfl⟩
    case round =>
      obtain ⟨k, hk, rfl, rfl, hheld, rfl⟩ := hrel
      have HH := Lib.hid hheld
      clear hheld
      by_cases hlt : k < fl
      · obtain ⟨⟨b1, o1, he, c0⟩, hsz⟩ := H.out k hlt
        simp only [Option.some.injEq, Addr.mk.injEq, and_true] at he
        obtain ⟨rfl, rfl⟩ := he
        unfold maxLen at hsz
        have R1 := Lib.hid (show (!(bLe (fn k) (lastB fn k)) && decide ((fn k).size ≤ 4096)) = false → Ending.returned (.bool false) = .returned (.bool (risingB fl fn)) from fun h1 => by rw [risingB, allB_false hlt h1])
        have R2 := Lib.hid (show (!(bLe (fn k) (lastB fn k)) && decide ((fn k).size ≤ 4096)) = true → HeldTo (k + 1) (fun i => !(bLe (fn i) (lastB fn i)) && decide ((fn i).size ≤ 4096)) from fun h1 => HH.out.succ h1)
        have R3 := Lib.hid (show lastB fn (k + 1) = fn k from rfl)
        generalize fn k = x at c0 R1 R2 R3 hsz
        generalize lastB fn k = y at R1 R2
        cases q1 : Op.bytesLess x.toList y.toList
        · cases q2 : x.toList == y.toList
          · by_cases h4 : x.size ≤ 4096
            · have R := Lib.hid (R2.out (by simp [bLe, q1, q2, h4]))
              have h4' : ¬ 4096 < (x.size : Int) := by omega
              clear R1 R2
              go_wp2_with fail
              go_roundw
              case rel => exact ⟨k + 1, by omega, by go_num, by rw [R3.out], R.out, trivial⟩
              case measure => simp [intOf]; omega
            · have R := Lib.hid (R1.out (by simp [h4]))
              have h4' : 4096 < (x.size : Int) := by omega
              clear R1 R2
              go_wp2_with fail
              go_ret
              exact ⟨R.out, rfl⟩
          · have R := Lib.hid (R1.out (by simp [bLe, q2]))
            clear R1 R2
            go_wp2_with fail
            go_ret
            exact ⟨R.out, rfl⟩
        · have R := Lib.hid (R1.out (by simp [bLe, q1]))
          clear R1 R2
          go_wp2_with fail
          go_ret
          exact ⟨R.out, rfl⟩
      · obtain rfl : k = fl := by omega
        have R := Lib.hid (show Ending.returned (.bool true) = .returned (.bool (risingB k fn)) by rw [risingB, HH.out.all])
        go_wp2_with fail
        go_ret
        exact ⟨R.out, rfl⟩

theorem empty_is (s : ByteArray) : s.toList.isEmpty = emptyB s := by
  rw [ByteArray.toList_eq, emptyB, Bool.eq_iff_iff]
  simp only [List.isEmpty_iff, decide_eq_true_eq]
  constructor
  · intro h
    exact WideShapes.bytes_inj (by rw [h]; rfl)
  · rintro rfl
    rfl

/-- The fields' names, in memory. -/
def NamesAt (w : World) (fa : Option Addr) (fl fc : Nat) (fn : Nat → ByteArray) : Prop := (fl ≤ fc ∧ fc ≤ maxLen) ∧ ∀ i, i < fl → (∃ b o, fa = some ⟨b, o, none⟩ ∧ w.cell? ⟨b, o + i * 9, none⟩ = some (.string (fn i))) ∧ (fn i).size ≤ maxLen

theorem NamesAt.below {w w' : World} {fa : Option Addr} {fl fc : Nat} {fn : Nat → ByteArray} (h : NamesAt w fa fl fc fn) (hb : Below w.heap.size w w') : NamesAt w' fa fl fc fn :=
  ⟨h.1, fun i hi => ⟨let ⟨b, o, e1, c0⟩ := (h.2 i hi).1; ⟨b, o, e1, by rw [(bcell hb).1 _ _ (World.block_lt_of_cell? _ _ c0), c0]⟩, (h.2 i hi).2⟩⟩

theorem just_of (fa : Option Addr) (fl fc : Nat) (fn : Nat → ByteArray) (w w' : World) (h : NamesAt w fa fl fc fn) (hb : Below w.heap.size w w') (na : Option Addr) (m mc : Nat) (ns : Nat → ByteArray) (hm : m ≤ 1000)
    (h' : ∀ i, i < m → ∃ b, na = some ⟨b, 0, none⟩ ∧ w'.cell? ⟨b, i, none⟩ = some (.string (ns i))) :
    Calls Tryz.prog 84 #[.slice fa fl fc, .slice na m mc] w' fun x w'' => x = .returned (.bool (justB fl fn m ns)) ∧ w' = w'' :=
  just_any fa fl fc fn na m mc ns w' h.1 hm (fun i hi => ((h.below hb).2 i hi).1) h'

set_option maxHeartbeats 1000000 in
theorem isElem_any (w : World) (b o : Nat) (k n : Int) (s : ByteArray) (la : Option Addr) (ll lc : Nat) (L : Nat → V) (fa : Option Addr) (fl fc : Nat) (fn : Nat → ByteArray) (F : Nat → V) (e : Int) (key : ByteArray) (hk : Bool)
    (h : At w b o (V.mk k n s la ll lc L fa fl fc fn F e key hk).cells) (hn : NamesAt w fa fl fc fn) :
    Calls Tryz.prog 65 #[.pointer (some ⟨b, o, none⟩)] w fun x w' => x = .returned (.bool (isElemB s fl fn e)) ∧ Below w.heap.size w w' := by
  obtain ⟨c0, c1, c2, c3, c4, c5, c6, c7⟩ := at8 h
  have J := Lib.hid (fun W => just_of fa fl fc fn w W)
  have HN := Lib.hid hn
  clear h c0 c1 c3 c6 c7 hn
  by_cases h123 : e = 1 ∨ e = 2 ∨ e = 3
  · have R := Lib.hid (show (!s.toList.isEmpty) = isElemB s fl fn e by simp [isElemB, h123, empty_is])
    clear J HN
    rcases h123 with rfl | rfl | rfl
    all_goals
      go_enter Tryz.func65, Tryz.ntmps65
      go_wp2_with fail
      go_ret
      exact ⟨ret_b R.out, Below.refl _ _⟩
  by_cases e4 : e = 4
  · subst e4
    cases hs : s.toList.isEmpty
    · have R := Lib.hid (show false = isElemB s fl fn 4 by simp [isElemB, ← empty_is, hs])
      go_enter Tryz.func65, Tryz.ntmps65
      go_wp2_with fail
      go_ret
      exact ⟨ret_b R.out, Below.refl _ _⟩
    · have R := Lib.hid (show ∀ r, r = justB fl fn 0 nsNone → r = isElemB s fl fn 4 by rintro r rfl; simp [isElemB, ← empty_is, hs])
      go_enter Tryz.func65, Tryz.ntmps65
      go_wp2_with fail
      refine (J.out _ HN.out (Below.refl _ _) none 0 0 nsNone (by omega) (fun i hi => absurd hi (Nat.not_lt_zero _))).mono ?_
      rintro x w1 ⟨rfl, rfl⟩
      have HB := Lib.hid (Below.refl w.heap.size w)
      go_wp2_with fail
      go_ret
      exact ⟨ret_b (R.out _ rfl), HB.out⟩
  by_cases e5 : e = 5
  · subst e5
    cases hs : s.toList.isEmpty
    · have R := Lib.hid (show ∀ r, r = justB fl fn 0 nsNone → r = isElemB s fl fn 5 by rintro r rfl; simp [isElemB, ← empty_is, hs])
      go_enter Tryz.func65, Tryz.ntmps65
      go_wp2_with fail
      refine (J.out _ HN.out (Below.refl _ _) none 0 0 nsNone (by omega) (fun i hi => absurd hi (Nat.not_lt_zero _))).mono ?_
      rintro x w1 ⟨rfl, rfl⟩
      have HB := Lib.hid (Below.refl w.heap.size w)
      go_wp2_with fail
      go_ret
      exact ⟨ret_b (R.out _ rfl), HB.out⟩
    · have R := Lib.hid (show false = isElemB s fl fn 5 by simp [isElemB, ← empty_is, hs])
      go_enter Tryz.func65, Tryz.ntmps65
      go_wp2_with fail
      go_ret
      exact ⟨ret_b R.out, Below.refl _ _⟩
  by_cases e6 : e = 6
  · subst e6
    cases hs : s.toList.isEmpty
    · have R := Lib.hid (show ∀ r, r = justB fl fn 1 nsValue → r = isElemB s fl fn 6 by rintro r rfl; simp [isElemB, ← empty_is, hs])
      go_enter Tryz.func65, Tryz.ntmps65
      go_wp2_with fail
      refine (J.out _ HN.out (below_alloc _ _) _ 1 1 nsValue (by omega) (fun i hi => by
        match i, hi with
        | 0, _ => exact ⟨_, rfl, by simp; rfl⟩)).mono ?_
      rintro x w1 ⟨rfl, rfl⟩
      have HB := Lib.hid (below_alloc w)
      go_wp2_with fail
      go_ret
      exact ⟨ret_b (R.out _ rfl), HB.out _⟩
    · have R := Lib.hid (show false = isElemB s fl fn 6 by simp [isElemB, ← empty_is, hs])
      go_enter Tryz.func65, Tryz.ntmps65
      go_wp2_with fail
      go_ret
      exact ⟨ret_b R.out, Below.refl _ _⟩
  by_cases e7 : e = 7
  · subst e7
    cases hs : s.toList.isEmpty
    · have R := Lib.hid (show false = isElemB s fl fn 7 by simp [isElemB, ← empty_is, hs])
      go_enter Tryz.func65, Tryz.ntmps65
      go_wp2_with fail
      go_ret
      exact ⟨ret_b R.out, Below.refl _ _⟩
    · have R := Lib.hid (show ∀ r, r = justB fl fn 2 nsGuard → r = isElemB s fl fn 7 by rintro r rfl; simp [isElemB, ← empty_is, hs])
      go_enter Tryz.func65, Tryz.ntmps65
      go_wp2_with fail
      refine (J.out _ HN.out (below_alloc _ _) _ 2 2 nsGuard (by omega) (fun i hi => by
        match i, hi with
        | 0, _ => exact ⟨_, rfl, by simp; rfl⟩
        | 1, _ => exact ⟨_, rfl, by simp; rfl⟩)).mono ?_
      rintro x w1 ⟨rfl, rfl⟩
      have HB := Lib.hid (below_alloc w)
      go_wp2_with fail
      go_ret
      exact ⟨ret_b (R.out _ rfl), HB.out _⟩
  by_cases e8 : e = 8
  · subst e8
    cases hs : s.toList.isEmpty
    · have R := Lib.hid (show false = isElemB s fl fn 8 by simp [isElemB, ← empty_is, hs])
      go_enter Tryz.func65, Tryz.ntmps65
      go_wp2_with fail
      go_ret
      exact ⟨ret_b R.out, Below.refl _ _⟩
    · have R := Lib.hid (show ∀ r, r = justB fl fn 1 nsElse → r = isElemB s fl fn 8 by rintro r rfl; simp [isElemB, ← empty_is, hs])
      go_enter Tryz.func65, Tryz.ntmps65
      go_wp2_with fail
      refine (J.out _ HN.out (below_alloc _ _) _ 1 1 nsElse (by omega) (fun i hi => by
        match i, hi with
        | 0, _ => exact ⟨_, rfl, by simp; rfl⟩)).mono ?_
      rintro x w1 ⟨rfl, rfl⟩
      have HB := Lib.hid (below_alloc w)
      go_wp2_with fail
      go_ret
      exact ⟨ret_b (R.out _ rfl), HB.out _⟩
  have R := Lib.hid (show Ending.returned (.bool false) = .returned (.bool (isElemB s fl fn e)) by simp [isElemB, h123, e4, e5, e6, e7, e8])
  have e1 : ¬ e = 1 := fun h => h123 (.inl h)
  have e2 : ¬ e = 2 := fun h => h123 (.inr (.inl h))
  have e3 : ¬ e = 3 := fun h => h123 (.inr (.inr h))
  clear h123 J HN
  go_enter Tryz.func65, Tryz.ntmps65
  go_wp2_with fail
  go_ret
  exact ⟨R.out, Below.refl _ _⟩

theorem lit_empty (s : ByteArray) : (s.toList == ByteArray.toList ⟨#[]⟩) = emptyB s := by
  rw [← empty_is, ByteArray.toList_eq, ByteArray.toList_eq]
  cases s.data.toList <;> rfl

theorem alloc_keeps {w : World} {b o : Nat} {v : Value} (h : w.cell? ⟨b, o, none⟩ = some v) (O : Obj) : (w.alloc O).cell? ⟨b, o, none⟩ = some v := by
  rw [(bcell (below_alloc w O)).1 _ _ (World.block_lt_of_cell? _ _ h), h]
end Go.Proofs.YtdlmemalefhgmaaGreatDoor.VT
end
section
namespace Go.Proofs.YtdlmemalefhgmaaGreatDoor.VT
set_option linter.unusedVariables false
set_option linter.unusedSimpArgs false
open Go.RowKit

set_option maxHeartbeats 2000000 in
theorem inRow_0 (w : World) (b o : Nat) (n : Int) (s : ByteArray) (la : Option Addr) (ll lc : Nat) (L : Nat → V) (fa : Option Addr) (fl fc : Nat) (fn : Nat → ByteArray) (F : Nat → V) (e : Int) (key : ByteArray) (hk : Bool)
    (h : At w b o (V.mk 0 n s la ll lc L fa fl fc fn F e key hk).cells) (hr : RowsAt w) (hl : ll ≤ maxLen) (hn : NamesAt w fa fl fc fn) :
    Calls Tryz.prog 43 #[.pointer (some ⟨b, o, none⟩)] w fun x w' => x = .returned (.bool (inRowB 0 n s ll fl fn e key hk)) ∧ Below w.heap.size w w' := by
  have hf : fl ≤ maxLen := Nat.le_trans hn.1.1 hn.1.2
  obtain ⟨c0, c1, c2, c3, c4, c5, c6, c7⟩ := at8 h
  have r0 : w.cell? ⟨1, 0, none⟩ = some (.bool false) := hr 0 (by omega)
  have r1 : w.cell? ⟨1, 1, none⟩ = some (.bool false) := hr 1 (by omega)
  have r2 : w.cell? ⟨1, 2, none⟩ = some (.bool false) := hr 2 (by omega)
  have r3 : w.cell? ⟨1, 3, none⟩ = some (.bool false) := hr 3 (by omega)
  have r4 : w.cell? ⟨1, 4, none⟩ = some (.bool false) := hr 4 (by omega)
  have a0 := alloc_keeps c0
  have a1 := alloc_keeps c1
  have a2 := alloc_keeps c2
  have a3 := alloc_keeps c3
  have a4 := alloc_keeps c4
  have a5 := alloc_keeps c5
  have a6 := alloc_keeps c6
  have a7 := alloc_keeps c7
  unfold maxLen at hl hf
  clear h hr hn
  by_cases h0 : n = 0
  · subst h0
    cases hs : emptyB s
    · have q1 : s.toList.isEmpty = false := by rw [empty_is, hs]
      have q1' : (s.toList == ByteArray.toList ⟨#[]⟩) = false := by rw [lit_empty, hs]
      have R := Lib.hid (show Ending.returned (.bool false) = .returned (.bool (inRowB 0 0 s ll fl fn e key hk)) by simp [inRowB, hs])
      go_enter Tryz.func43, Tryz.ntmps43
      go_wp2_with fail
      go_ret
      exact ⟨R.out, below_alloc _ _⟩
    · have q1 : s.toList.isEmpty = true := by rw [empty_is, hs]
      have q1' : (s.toList == ByteArray.toList ⟨#[]⟩) = true := by rw [lit_empty, hs]
      by_cases hll : ll = 0
      · subst hll
        by_cases hfl : fl = 0
        · subst hfl
          by_cases h5 : e = 0
          · subst h5
            cases hk
            · cases h6 : emptyB key
              · have q6 : key.toList.isEmpty = false := by rw [empty_is, h6]
                have q6' : (key.toList == ByteArray.toList ⟨#[]⟩) = false := by rw [lit_empty, h6]
                have R := Lib.hid (show Ending.returned (.bool false) = .returned (.bool (inRowB 0 0 s 0 0 fn 0 key false)) by simp [inRowB, hs, h6])
                go_enter Tryz.func43, Tryz.ntmps43
                go_wp2_with fail
                go_ret
                exact ⟨R.out, below_alloc _ _⟩
              · have q6 : key.toList.isEmpty = true := by rw [empty_is, h6]
                have q6' : (key.toList == ByteArray.toList ⟨#[]⟩) = true := by rw [lit_empty, h6]
                have R := Lib.hid (show Ending.returned (.bool true) = .returned (.bool (inRowB 0 0 s 0 0 fn 0 key false)) by simp [inRowB, hs, h6])
                go_enter Tryz.func43, Tryz.ntmps43
                go_wp2_with fail
                go_ret
                exact ⟨R.out, below_alloc _ _⟩
            · have R := Lib.hid (show Ending.returned (.bool false) = .returned (.bool (inRowB 0 0 s 0 0 fn 0 key true)) by simp [inRowB, hs])
              go_enter Tryz.func43, Tryz.ntmps43
              go_wp2_with fail
              go_ret
              exact ⟨R.out, below_alloc _ _⟩
          · have q5 : (e == 0) = false := by simp [h5]
            have R := Lib.hid (show Ending.returned (.bool false) = .returned (.bool (inRowB 0 0 s 0 0 fn e key hk)) by simp [inRowB, hs, h5])
            go_enter Tryz.func43, Tryz.ntmps43
            go_wp2_with fail
            go_ret
            exact ⟨R.out, below_alloc _ _⟩
        · have qfl : 0 < (fl : Int) := by omega
          have R := Lib.hid (show Ending.returned (.bool false) = .returned (.bool (inRowB 0 0 s 0 fl fn e key hk)) by simp [inRowB, hs, hfl])
          go_enter Tryz.func43, Tryz.ntmps43
          go_wp2_with fail
          go_ret
          exact ⟨R.out, below_alloc _ _⟩
      · have qll : 0 < (ll : Int) := by omega
        have R := Lib.hid (show Ending.returned (.bool false) = .returned (.bool (inRowB 0 0 s ll fl fn e key hk)) by simp [inRowB, hs, hll])
        go_enter Tryz.func43, Tryz.ntmps43
        go_wp2_with fail
        go_ret
        exact ⟨R.out, below_alloc _ _⟩
  · have q0 : (n == 0) = false := by simp [h0]
    have R := Lib.hid (show Ending.returned (.bool false) = .returned (.bool (inRowB 0 n s ll fl fn e key hk)) by simp [inRowB, h0])
    go_enter Tryz.func43, Tryz.ntmps43
    go_wp2_with fail
    go_ret
    exact ⟨R.out, below_alloc _ _⟩

set_option maxHeartbeats 2000000 in
theorem inRow_1 (w : World) (b o : Nat) (n : Int) (s : ByteArray) (la : Option Addr) (ll lc : Nat) (L : Nat → V) (fa : Option Addr) (fl fc : Nat) (fn : Nat → ByteArray) (F : Nat → V) (e : Int) (key : ByteArray) (hk : Bool)
    (h : At w b o (V.mk 1 n s la ll lc L fa fl fc fn F e key hk).cells) (hr : RowsAt w) (hl : ll ≤ maxLen) (hn : NamesAt w fa fl fc fn) :
    Calls Tryz.prog 43 #[.pointer (some ⟨b, o, none⟩)] w fun x w' => x = .returned (.bool (inRowB 1 n s ll fl fn e key hk)) ∧ Below w.heap.size w w' := by
  have hf : fl ≤ maxLen := Nat.le_trans hn.1.1 hn.1.2
  obtain ⟨c0, c1, c2, c3, c4, c5, c6, c7⟩ := at8 h
  have r0 : w.cell? ⟨1, 5, none⟩ = some (.bool true) := hr 5 (by omega)
  have r1 : w.cell? ⟨1, 6, none⟩ = some (.bool false) := hr 6 (by omega)
  have r2 : w.cell? ⟨1, 7, none⟩ = some (.bool false) := hr 7 (by omega)
  have r3 : w.cell? ⟨1, 8, none⟩ = some (.bool false) := hr 8 (by omega)
  have r4 : w.cell? ⟨1, 9, none⟩ = some (.bool false) := hr 9 (by omega)
  have a0 := alloc_keeps c0
  have a1 := alloc_keeps c1
  have a2 := alloc_keeps c2
  have a3 := alloc_keeps c3
  have a4 := alloc_keeps c4
  have a5 := alloc_keeps c5
  have a6 := alloc_keeps c6
  have a7 := alloc_keeps c7
  unfold maxLen at hl hf
  clear h hr hn
  cases hs : emptyB s
  · have q1 : s.toList.isEmpty = false := by rw [empty_is, hs]
    have q1' : (s.toList == ByteArray.toList ⟨#[]⟩) = false := by rw [lit_empty, hs]
    have R := Lib.hid (show Ending.returned (.bool false) = .returned (.bool (inRowB 1 n s ll fl fn e key hk)) by simp [inRowB, hs])
    go_enter Tryz.func43, Tryz.ntmps43
    go_wp2_with fail
    go_ret
    exact ⟨R.out, below_alloc _ _⟩
  · have q1 : s.toList.isEmpty = true := by rw [empty_is, hs]
    have q1' : (s.toList == ByteArray.toList ⟨#[]⟩) = true := by rw [lit_empty, hs]
    by_cases hll : ll = 0
    · subst hll
      by_cases hfl : fl = 0
      · subst hfl
        by_cases h5 : e = 0
        · subst h5
          cases hk
          · cases h6 : emptyB key
            · have q6 : key.toList.isEmpty = false := by rw [empty_is, h6]
              have q6' : (key.toList == ByteArray.toList ⟨#[]⟩) = false := by rw [lit_empty, h6]
              have R := Lib.hid (show Ending.returned (.bool false) = .returned (.bool (inRowB 1 n s 0 0 fn 0 key false)) by simp [inRowB, hs, h6])
              go_enter Tryz.func43, Tryz.ntmps43
              go_wp2_with fail
              go_ret
              exact ⟨R.out, below_alloc _ _⟩
            · have q6 : key.toList.isEmpty = true := by rw [empty_is, h6]
              have q6' : (key.toList == ByteArray.toList ⟨#[]⟩) = true := by rw [lit_empty, h6]
              have R := Lib.hid (show Ending.returned (.bool true) = .returned (.bool (inRowB 1 n s 0 0 fn 0 key false)) by simp [inRowB, hs, h6])
              go_enter Tryz.func43, Tryz.ntmps43
              go_wp2_with fail
              go_ret
              exact ⟨R.out, below_alloc _ _⟩
          · have R := Lib.hid (show Ending.returned (.bool false) = .returned (.bool (inRowB 1 n s 0 0 fn 0 key true)) by simp [inRowB, hs])
            go_enter Tryz.func43, Tryz.ntmps43
            go_wp2_with fail
            go_ret
            exact ⟨R.out, below_alloc _ _⟩
        · have q5 : (e == 0) = false := by simp [h5]
          have R := Lib.hid (show Ending.returned (.bool false) = .returned (.bool (inRowB 1 n s 0 0 fn e key hk)) by simp [inRowB, hs, h5])
          go_enter Tryz.func43, Tryz.ntmps43
          go_wp2_with fail
          go_ret
          exact ⟨R.out, below_alloc _ _⟩
      · have qfl : 0 < (fl : Int) := by omega
        have R := Lib.hid (show Ending.returned (.bool false) = .returned (.bool (inRowB 1 n s 0 fl fn e key hk)) by simp [inRowB, hs, hfl])
        go_enter Tryz.func43, Tryz.ntmps43
        go_wp2_with fail
        go_ret
        exact ⟨R.out, below_alloc _ _⟩
    · have qll : 0 < (ll : Int) := by omega
      have R := Lib.hid (show Ending.returned (.bool false) = .returned (.bool (inRowB 1 n s ll fl fn e key hk)) by simp [inRowB, hs, hll])
      go_enter Tryz.func43, Tryz.ntmps43
      go_wp2_with fail
      go_ret
      exact ⟨R.out, below_alloc _ _⟩

set_option maxHeartbeats 2000000 in
theorem inRow_2 (w : World) (b o : Nat) (n : Int) (s : ByteArray) (la : Option Addr) (ll lc : Nat) (L : Nat → V) (fa : Option Addr) (fl fc : Nat) (fn : Nat → ByteArray) (F : Nat → V) (e : Int) (key : ByteArray) (hk : Bool)
    (h : At w b o (V.mk 2 n s la ll lc L fa fl fc fn F e key hk).cells) (hr : RowsAt w) (hl : ll ≤ maxLen) (hn : NamesAt w fa fl fc fn) :
    Calls Tryz.prog 43 #[.pointer (some ⟨b, o, none⟩)] w fun x w' => x = .returned (.bool (inRowB 2 n s ll fl fn e key hk)) ∧ Below w.heap.size w w' := by
  have hf : fl ≤ maxLen := Nat.le_trans hn.1.1 hn.1.2
  obtain ⟨c0, c1, c2, c3, c4, c5, c6, c7⟩ := at8 h
  have r0 : w.cell? ⟨1, 10, none⟩ = some (.bool true) := hr 10 (by omega)
  have r1 : w.cell? ⟨1, 11, none⟩ = some (.bool false) := hr 11 (by omega)
  have r2 : w.cell? ⟨1, 12, none⟩ = some (.bool false) := hr 12 (by omega)
  have r3 : w.cell? ⟨1, 13, none⟩ = some (.bool false) := hr 13 (by omega)
  have r4 : w.cell? ⟨1, 14, none⟩ = some (.bool false) := hr 14 (by omega)
  have a0 := alloc_keeps c0
  have a1 := alloc_keeps c1
  have a2 := alloc_keeps c2
  have a3 := alloc_keeps c3
  have a4 := alloc_keeps c4
  have a5 := alloc_keeps c5
  have a6 := alloc_keeps c6
  have a7 := alloc_keeps c7
  unfold maxLen at hl hf
  clear h hr hn
  cases hs : emptyB s
  · have q1 : s.toList.isEmpty = false := by rw [empty_is, hs]
    have q1' : (s.toList == ByteArray.toList ⟨#[]⟩) = false := by rw [lit_empty, hs]
    have R := Lib.hid (show Ending.returned (.bool false) = .returned (.bool (inRowB 2 n s ll fl fn e key hk)) by simp [inRowB, hs])
    go_enter Tryz.func43, Tryz.ntmps43
    go_wp2_with fail
    go_ret
    exact ⟨R.out, below_alloc _ _⟩
  · have q1 : s.toList.isEmpty = true := by rw [empty_is, hs]
    have q1' : (s.toList == ByteArray.toList ⟨#[]⟩) = true := by rw [lit_empty, hs]
    by_cases hll : ll = 0
    · subst hll
      by_cases hfl : fl = 0
      · subst hfl
        by_cases h5 : e = 0
        · subst h5
          cases hk
          · cases h6 : emptyB key
            · have q6 : key.toList.isEmpty = false := by rw [empty_is, h6]
              have q6' : (key.toList == ByteArray.toList ⟨#[]⟩) = false := by rw [lit_empty, h6]
              have R := Lib.hid (show Ending.returned (.bool false) = .returned (.bool (inRowB 2 n s 0 0 fn 0 key false)) by simp [inRowB, hs, h6])
              go_enter Tryz.func43, Tryz.ntmps43
              go_wp2_with fail
              go_ret
              exact ⟨R.out, below_alloc _ _⟩
            · have q6 : key.toList.isEmpty = true := by rw [empty_is, h6]
              have q6' : (key.toList == ByteArray.toList ⟨#[]⟩) = true := by rw [lit_empty, h6]
              by_cases g0 : n = 0
              · subst g0
                have R := Lib.hid (show Ending.returned (.bool true) = .returned (.bool (inRowB 2 0 s 0 0 fn 0 key false)) by simp [inRowB, hs, h6])
                go_enter Tryz.func43, Tryz.ntmps43
                go_wp2_with fail
                go_ret
                exact ⟨R.out, below_alloc _ _⟩
              · by_cases g1 : n = 1
                · subst g1
                  have R := Lib.hid (show Ending.returned (.bool true) = .returned (.bool (inRowB 2 1 s 0 0 fn 0 key false)) by simp [inRowB, hs, h6])
                  go_enter Tryz.func43, Tryz.ntmps43
                  go_wp2_with fail
                  go_ret
                  exact ⟨R.out, below_alloc _ _⟩
                · have p0 : (n == 0) = false := by simp [g0]
                  have p1 : (n == 1) = false := by simp [g1]
                  have R := Lib.hid (show Ending.returned (.bool false) = .returned (.bool (inRowB 2 n s 0 0 fn 0 key false)) by simp [inRowB, hs, h6, g0, g1])
                  go_enter Tryz.func43, Tryz.ntmps43
                  go_wp2_with fail
                  go_ret
                  exact ⟨R.out, below_alloc _ _⟩
          · have R := Lib.hid (show Ending.returned (.bool false) = .returned (.bool (inRowB 2 n s 0 0 fn 0 key true)) by simp [inRowB, hs])
            go_enter Tryz.func43, Tryz.ntmps43
            go_wp2_with fail
            go_ret
            exact ⟨R.out, below_alloc _ _⟩
        · have q5 : (e == 0) = false := by simp [h5]
          have R := Lib.hid (show Ending.returned (.bool false) = .returned (.bool (inRowB 2 n s 0 0 fn e key hk)) by simp [inRowB, hs, h5])
          go_enter Tryz.func43, Tryz.ntmps43
          go_wp2_with fail
          go_ret
          exact ⟨R.out, below_alloc _ _⟩
      · have qfl : 0 < (fl : Int) := by omega
        have R := Lib.hid (show Ending.returned (.bool false) = .returned (.bool (inRowB 2 n s 0 fl fn e key hk)) by simp [inRowB, hs, hfl])
        go_enter Tryz.func43, Tryz.ntmps43
        go_wp2_with fail
        go_ret
        exact ⟨R.out, below_alloc _ _⟩
    · have qll : 0 < (ll : Int) := by omega
      have R := Lib.hid (show Ending.returned (.bool false) = .returned (.bool (inRowB 2 n s ll fl fn e key hk)) by simp [inRowB, hs, hll])
      go_enter Tryz.func43, Tryz.ntmps43
      go_wp2_with fail
      go_ret
      exact ⟨R.out, below_alloc _ _⟩

set_option maxHeartbeats 2000000 in
theorem inRow_3 (w : World) (b o : Nat) (n : Int) (s : ByteArray) (la : Option Addr) (ll lc : Nat) (L : Nat → V) (fa : Option Addr) (fl fc : Nat) (fn : Nat → ByteArray) (F : Nat → V) (e : Int) (key : ByteArray) (hk : Bool)
    (h : At w b o (V.mk 3 n s la ll lc L fa fl fc fn F e key hk).cells) (hr : RowsAt w) (hl : ll ≤ maxLen) (hn : NamesAt w fa fl fc fn) :
    Calls Tryz.prog 43 #[.pointer (some ⟨b, o, none⟩)] w fun x w' => x = .returned (.bool (inRowB 3 n s ll fl fn e key hk)) ∧ Below w.heap.size w w' := by
  have hf : fl ≤ maxLen := Nat.le_trans hn.1.1 hn.1.2
  obtain ⟨c0, c1, c2, c3, c4, c5, c6, c7⟩ := at8 h
  have r0 : w.cell? ⟨1, 15, none⟩ = some (.bool false) := hr 15 (by omega)
  have r1 : w.cell? ⟨1, 16, none⟩ = some (.bool true) := hr 16 (by omega)
  have r2 : w.cell? ⟨1, 17, none⟩ = some (.bool false) := hr 17 (by omega)
  have r3 : w.cell? ⟨1, 18, none⟩ = some (.bool false) := hr 18 (by omega)
  have r4 : w.cell? ⟨1, 19, none⟩ = some (.bool false) := hr 19 (by omega)
  have a0 := alloc_keeps c0
  have a1 := alloc_keeps c1
  have a2 := alloc_keeps c2
  have a3 := alloc_keeps c3
  have a4 := alloc_keeps c4
  have a5 := alloc_keeps c5
  have a6 := alloc_keeps c6
  have a7 := alloc_keeps c7
  unfold maxLen at hl hf
  clear h hr hn
  by_cases h0 : n = 0
  · subst h0
    by_cases hll : ll = 0
    · subst hll
      by_cases hfl : fl = 0
      · subst hfl
        by_cases h5 : e = 0
        · subst h5
          cases hk
          · cases h6 : emptyB key
            · have q6 : key.toList.isEmpty = false := by rw [empty_is, h6]
              have q6' : (key.toList == ByteArray.toList ⟨#[]⟩) = false := by rw [lit_empty, h6]
              have R := Lib.hid (show Ending.returned (.bool false) = .returned (.bool (inRowB 3 0 s 0 0 fn 0 key false)) by simp [inRowB, h6])
              go_enter Tryz.func43, Tryz.ntmps43
              go_wp2_with fail
              go_ret
              exact ⟨R.out, below_alloc _ _⟩
            · have q6 : key.toList.isEmpty = true := by rw [empty_is, h6]
              have q6' : (key.toList == ByteArray.toList ⟨#[]⟩) = true := by rw [lit_empty, h6]
              have R := Lib.hid (show Ending.returned (.bool true) = .returned (.bool (inRowB 3 0 s 0 0 fn 0 key false)) by simp [inRowB, h6])
              go_enter Tryz.func43, Tryz.ntmps43
              go_wp2_with fail
              go_ret
              exact ⟨R.out, below_alloc _ _⟩
          · have R := Lib.hid (show Ending.returned (.bool false) = .returned (.bool (inRowB 3 0 s 0 0 fn 0 key true)) by simp [inRowB])
            go_enter Tryz.func43, Tryz.ntmps43
            go_wp2_with fail
            go_ret
            exact ⟨R.out, below_alloc _ _⟩
        · have q5 : (e == 0) = false := by simp [h5]
          have R := Lib.hid (show Ending.returned (.bool false) = .returned (.bool (inRowB 3 0 s 0 0 fn e key hk)) by simp [inRowB, h5])
          go_enter Tryz.func43, Tryz.ntmps43
          go_wp2_with fail
          go_ret
          exact ⟨R.out, below_alloc _ _⟩
      · have qfl : 0 < (fl : Int) := by omega
        have R := Lib.hid (show Ending.returned (.bool false) = .returned (.bool (inRowB 3 0 s 0 fl fn e key hk)) by simp [inRowB, hfl])
        go_enter Tryz.func43, Tryz.ntmps43
        go_wp2_with fail
        go_ret
        exact ⟨R.out, below_alloc _ _⟩
    · have qll : 0 < (ll : Int) := by omega
      have R := Lib.hid (show Ending.returned (.bool false) = .returned (.bool (inRowB 3 0 s ll fl fn e key hk)) by simp [inRowB, hll])
      go_enter Tryz.func43, Tryz.ntmps43
      go_wp2_with fail
      go_ret
      exact ⟨R.out, below_alloc _ _⟩
  · have q0 : (n == 0) = false := by simp [h0]
    have R := Lib.hid (show Ending.returned (.bool false) = .returned (.bool (inRowB 3 n s ll fl fn e key hk)) by simp [inRowB, h0])
    go_enter Tryz.func43, Tryz.ntmps43
    go_wp2_with fail
    go_ret
    exact ⟨R.out, below_alloc _ _⟩

end Go.Proofs.YtdlmemalefhgmaaGreatDoor.VT
end
section
namespace Go.Proofs.YtdlmemalefhgmaaGreatDoor.VT
set_option linter.unusedVariables false
set_option linter.unusedSimpArgs false
open Go.RowKit

set_option maxHeartbeats 2000000 in
theorem inRow_4 (w : World) (b o : Nat) (n : Int) (s : ByteArray) (la : Option Addr) (ll lc : Nat) (L : Nat → V) (fa : Option Addr) (fl fc : Nat) (fn : Nat → ByteArray) (F : Nat → V) (e : Int) (key : ByteArray) (hk : Bool)
    (h : At w b o (V.mk 4 n s la ll lc L fa fl fc fn F e key hk).cells) (hr : RowsAt w) (_hl : ll ≤ maxLen) (hn : NamesAt w fa fl fc fn) :
    Calls Tryz.prog 43 #[.pointer (some ⟨b, o, none⟩)] w fun x w' => x = .returned (.bool (inRowB 4 n s ll fl fn e key hk)) ∧ Below w.heap.size w w' := by
  have hf : fl ≤ maxLen := Nat.le_trans hn.1.1 hn.1.2
  obtain ⟨c0, c1, c2, c3, c4, c5, c6, c7⟩ := at8 h
  have r0 : w.cell? ⟨1, 20, none⟩ = some (.bool false) := hr 20 (by omega)
  have r1 : w.cell? ⟨1, 21, none⟩ = some (.bool false) := hr 21 (by omega)
  have r2 : w.cell? ⟨1, 22, none⟩ = some (.bool true) := hr 22 (by omega)
  have r3 : w.cell? ⟨1, 23, none⟩ = some (.bool false) := hr 23 (by omega)
  have r4 : w.cell? ⟨1, 24, none⟩ = some (.bool false) := hr 24 (by omega)
  have a0 := alloc_keeps c0
  have a1 := alloc_keeps c1
  have a2 := alloc_keeps c2
  have a3 := alloc_keeps c3
  have a4 := alloc_keeps c4
  have a5 := alloc_keeps c5
  have a6 := alloc_keeps c6
  have a7 := alloc_keeps c7
  unfold maxLen at _hl hf
  clear h hr hn
  by_cases h0 : n = 0
  · subst h0
    cases hs : emptyB s
    · have q1 : s.toList.isEmpty = false := by rw [empty_is, hs]
      have q1' : (s.toList == ByteArray.toList ⟨#[]⟩) = false := by rw [lit_empty, hs]
      have R := Lib.hid (show Ending.returned (.bool false) = .returned (.bool (inRowB 4 0 s ll fl fn e key hk)) by simp [inRowB, hs])
      go_enter Tryz.func43, Tryz.ntmps43
      go_wp2_with fail
      go_ret
      exact ⟨R.out, below_alloc _ _⟩
    · have q1 : s.toList.isEmpty = true := by rw [empty_is, hs]
      have q1' : (s.toList == ByteArray.toList ⟨#[]⟩) = true := by rw [lit_empty, hs]
      by_cases hfl : fl = 0
      · subst hfl
        by_cases h5 : e = 0
        · subst h5
          cases hk
          · cases h6 : emptyB key
            · have q6 : key.toList.isEmpty = false := by rw [empty_is, h6]
              have q6' : (key.toList == ByteArray.toList ⟨#[]⟩) = false := by rw [lit_empty, h6]
              have R := Lib.hid (show Ending.returned (.bool false) = .returned (.bool (inRowB 4 0 s ll 0 fn 0 key false)) by simp [inRowB, hs, h6])
              go_enter Tryz.func43, Tryz.ntmps43
              go_wp2_with fail
              go_ret
              exact ⟨R.out, below_alloc _ _⟩
            · have q6 : key.toList.isEmpty = true := by rw [empty_is, h6]
              have q6' : (key.toList == ByteArray.toList ⟨#[]⟩) = true := by rw [lit_empty, h6]
              have R := Lib.hid (show Ending.returned (.bool true) = .returned (.bool (inRowB 4 0 s ll 0 fn 0 key false)) by simp [inRowB, hs, h6])
              go_enter Tryz.func43, Tryz.ntmps43
              go_wp2_with fail
              go_ret
              exact ⟨R.out, below_alloc _ _⟩
          · have R := Lib.hid (show Ending.returned (.bool false) = .returned (.bool (inRowB 4 0 s ll 0 fn 0 key true)) by simp [inRowB, hs])
            go_enter Tryz.func43, Tryz.ntmps43
            go_wp2_with fail
            go_ret
            exact ⟨R.out, below_alloc _ _⟩
        · have q5 : (e == 0) = false := by simp [h5]
          have R := Lib.hid (show Ending.returned (.bool false) = .returned (.bool (inRowB 4 0 s ll 0 fn e key hk)) by simp [inRowB, hs, h5])
          go_enter Tryz.func43, Tryz.ntmps43
          go_wp2_with fail
          go_ret
          exact ⟨R.out, below_alloc _ _⟩
      · have qfl : 0 < (fl : Int) := by omega
        have R := Lib.hid (show Ending.returned (.bool false) = .returned (.bool (inRowB 4 0 s ll fl fn e key hk)) by simp [inRowB, hs, hfl])
        go_enter Tryz.func43, Tryz.ntmps43
        go_wp2_with fail
        go_ret
        exact ⟨R.out, below_alloc _ _⟩
  · have q0 : (n == 0) = false := by simp [h0]
    have R := Lib.hid (show Ending.returned (.bool false) = .returned (.bool (inRowB 4 n s ll fl fn e key hk)) by simp [inRowB, h0])
    go_enter Tryz.func43, Tryz.ntmps43
    go_wp2_with fail
    go_ret
    exact ⟨R.out, below_alloc _ _⟩

set_option maxHeartbeats 2000000 in
theorem inRow_5 (w : World) (b o : Nat) (n : Int) (s : ByteArray) (la : Option Addr) (ll lc : Nat) (L : Nat → V) (fa : Option Addr) (fl fc : Nat) (fn : Nat → ByteArray) (F : Nat → V) (e : Int) (key : ByteArray) (hk : Bool)
    (h : At w b o (V.mk 5 n s la ll lc L fa fl fc fn F e key hk).cells) (hr : RowsAt w) (hl : ll ≤ maxLen) (hn : NamesAt w fa fl fc fn) :
    Calls Tryz.prog 43 #[.pointer (some ⟨b, o, none⟩)] w fun x w' => x = .returned (.bool (inRowB 5 n s ll fl fn e key hk)) ∧ Below w.heap.size w w' := by
  have hf : fl ≤ maxLen := Nat.le_trans hn.1.1 hn.1.2
  obtain ⟨c0, c1, c2, c3, c4, c5, c6, c7⟩ := at8 h
  have r0 : w.cell? ⟨1, 25, none⟩ = some (.bool false) := hr 25 (by omega)
  have r1 : w.cell? ⟨1, 26, none⟩ = some (.bool false) := hr 26 (by omega)
  have r2 : w.cell? ⟨1, 27, none⟩ = some (.bool false) := hr 27 (by omega)
  have r3 : w.cell? ⟨1, 28, none⟩ = some (.bool true) := hr 28 (by omega)
  have r4 : w.cell? ⟨1, 29, none⟩ = some (.bool false) := hr 29 (by omega)
  have a0 := alloc_keeps c0
  have a1 := alloc_keeps c1
  have a2 := alloc_keeps c2
  have a3 := alloc_keeps c3
  have a4 := alloc_keeps c4
  have a5 := alloc_keeps c5
  have a6 := alloc_keeps c6
  have a7 := alloc_keeps c7
  unfold maxLen at hl hf
  clear h hr hn
  by_cases h0 : n = 0
  · subst h0
    cases hs : emptyB s
    · have q1 : s.toList.isEmpty = false := by rw [empty_is, hs]
      have q1' : (s.toList == ByteArray.toList ⟨#[]⟩) = false := by rw [lit_empty, hs]
      have R := Lib.hid (show Ending.returned (.bool false) = .returned (.bool (inRowB 5 0 s ll fl fn e key hk)) by simp [inRowB, hs])
      go_enter Tryz.func43, Tryz.ntmps43
      go_wp2_with fail
      go_ret
      exact ⟨R.out, below_alloc _ _⟩
    · have q1 : s.toList.isEmpty = true := by rw [empty_is, hs]
      have q1' : (s.toList == ByteArray.toList ⟨#[]⟩) = true := by rw [lit_empty, hs]
      by_cases hll : ll = 0
      · subst hll
        by_cases h5 : e = 0
        · subst h5
          cases hk
          · cases h6 : emptyB key
            · have q6 : key.toList.isEmpty = false := by rw [empty_is, h6]
              have q6' : (key.toList == ByteArray.toList ⟨#[]⟩) = false := by rw [lit_empty, h6]
              have R := Lib.hid (show Ending.returned (.bool false) = .returned (.bool (inRowB 5 0 s 0 fl fn 0 key false)) by simp [inRowB, hs, h6])
              go_enter Tryz.func43, Tryz.ntmps43
              go_wp2_with fail
              go_ret
              exact ⟨R.out, below_alloc _ _⟩
            · have q6 : key.toList.isEmpty = true := by rw [empty_is, h6]
              have q6' : (key.toList == ByteArray.toList ⟨#[]⟩) = true := by rw [lit_empty, h6]
              have R := Lib.hid (show Ending.returned (.bool true) = .returned (.bool (inRowB 5 0 s 0 fl fn 0 key false)) by simp [inRowB, hs, h6])
              go_enter Tryz.func43, Tryz.ntmps43
              go_wp2_with fail
              go_ret
              exact ⟨R.out, below_alloc _ _⟩
          · have R := Lib.hid (show Ending.returned (.bool false) = .returned (.bool (inRowB 5 0 s 0 fl fn 0 key true)) by simp [inRowB, hs])
            go_enter Tryz.func43, Tryz.ntmps43
            go_wp2_with fail
            go_ret
            exact ⟨R.out, below_alloc _ _⟩
        · have q5 : (e == 0) = false := by simp [h5]
          have R := Lib.hid (show Ending.returned (.bool false) = .returned (.bool (inRowB 5 0 s 0 fl fn e key hk)) by simp [inRowB, hs, h5])
          go_enter Tryz.func43, Tryz.ntmps43
          go_wp2_with fail
          go_ret
          exact ⟨R.out, below_alloc _ _⟩
      · have qll : 0 < (ll : Int) := by omega
        have R := Lib.hid (show Ending.returned (.bool false) = .returned (.bool (inRowB 5 0 s ll fl fn e key hk)) by simp [inRowB, hs, hll])
        go_enter Tryz.func43, Tryz.ntmps43
        go_wp2_with fail
        go_ret
        exact ⟨R.out, below_alloc _ _⟩
  · have q0 : (n == 0) = false := by simp [h0]
    have R := Lib.hid (show Ending.returned (.bool false) = .returned (.bool (inRowB 5 n s ll fl fn e key hk)) by simp [inRowB, h0])
    go_enter Tryz.func43, Tryz.ntmps43
    go_wp2_with fail
    go_ret
    exact ⟨R.out, below_alloc _ _⟩

set_option maxHeartbeats 2000000 in
theorem inRow_6 (w : World) (b o : Nat) (n : Int) (s : ByteArray) (la : Option Addr) (ll lc : Nat) (L : Nat → V) (fa : Option Addr) (fl fc : Nat) (fn : Nat → ByteArray) (F : Nat → V) (e : Int) (key : ByteArray) (hk : Bool)
    (h : At w b o (V.mk 6 n s la ll lc L fa fl fc fn F e key hk).cells) (hr : RowsAt w) (_hl : ll ≤ maxLen) (hn : NamesAt w fa fl fc fn) :
    Calls Tryz.prog 43 #[.pointer (some ⟨b, o, none⟩)] w fun x w' => x = .returned (.bool (inRowB 6 n s ll fl fn e key hk)) ∧ Below w.heap.size w w' := by
  have hf : fl ≤ maxLen := Nat.le_trans hn.1.1 hn.1.2
  have HE := Lib.hid (fun W (hw : Below w.heap.size w W) => isElem_any W b o 6 n s la ll lc L fa fl fc fn F e key hk (h.below hw) (hn.below hw))
  obtain ⟨c0, c1, c2, c3, c4, c5, c6, c7⟩ := at8 h
  have r0 : w.cell? ⟨1, 30, none⟩ = some (.bool false) := hr 30 (by omega)
  have r1 : w.cell? ⟨1, 31, none⟩ = some (.bool true) := hr 31 (by omega)
  have r2 : w.cell? ⟨1, 32, none⟩ = some (.bool true) := hr 32 (by omega)
  have r3 : w.cell? ⟨1, 33, none⟩ = some (.bool true) := hr 33 (by omega)
  have r4 : w.cell? ⟨1, 34, none⟩ = some (.bool true) := hr 34 (by omega)
  have a0 := alloc_keeps c0
  have a1 := alloc_keeps c1
  have a2 := alloc_keeps c2
  have a3 := alloc_keeps c3
  have a4 := alloc_keeps c4
  have a5 := alloc_keeps c5
  have a6 := alloc_keeps c6
  have a7 := alloc_keeps c7
  unfold maxLen at _hl hf
  clear h hr hn
  by_cases h0 : n = 0
  · subst h0
    cases hk
    · cases h6 : emptyB key
      · have q6 : key.toList.isEmpty = false := by rw [empty_is, h6]
        have q6' : (key.toList == ByteArray.toList ⟨#[]⟩) = false := by rw [lit_empty, h6]
        have R := Lib.hid (show Ending.returned (.bool false) = .returned (.bool (inRowB 6 0 s ll fl fn e key false)) by simp [inRowB, h6])
        go_enter Tryz.func43, Tryz.ntmps43
        go_wp2_with fail
        go_ret
        exact ⟨R.out, below_alloc _ _⟩
      · have q6 : key.toList.isEmpty = true := by rw [empty_is, h6]
        have q6' : (key.toList == ByteArray.toList ⟨#[]⟩) = true := by rw [lit_empty, h6]
        have R := Lib.hid (show isElemB s fl fn e = inRowB 6 0 s ll fl fn e key false by simp [inRowB, h6])
        go_enter Tryz.func43, Tryz.ntmps43
        go_wp2_with fail
        refine (HE.out _ (below_alloc _ _)).mono ?_
        rintro x w1 ⟨rfl, hb⟩
        have HB := Lib.hid ((below_alloc _ _).trans (hb.mono (by simp)))
        clear hb
        go_wp2_with fail
        go_ret
        exact ⟨ret_b R.out, HB.out⟩
    · have R := Lib.hid (show isElemB s fl fn e = inRowB 6 0 s ll fl fn e key true by simp [inRowB])
      go_enter Tryz.func43, Tryz.ntmps43
      go_wp2_with fail
      refine (HE.out _ (below_alloc _ _)).mono ?_
      rintro x w1 ⟨rfl, hb⟩
      have HB := Lib.hid ((below_alloc _ _).trans (hb.mono (by simp)))
      clear hb
      go_wp2_with fail
      go_ret
      exact ⟨ret_b R.out, HB.out⟩
  · have q0 : (n == 0) = false := by simp [h0]
    have R := Lib.hid (show Ending.returned (.bool false) = .returned (.bool (inRowB 6 n s ll fl fn e key hk)) by simp [inRowB, h0])
    go_enter Tryz.func43, Tryz.ntmps43
    go_wp2_with fail
    go_ret
    exact ⟨R.out, below_alloc _ _⟩

set_option maxHeartbeats 2000000 in
theorem inRow_7 (w : World) (b o : Nat) (n : Int) (s : ByteArray) (la : Option Addr) (ll lc : Nat) (L : Nat → V) (fa : Option Addr) (fl fc : Nat) (fn : Nat → ByteArray) (F : Nat → V) (e : Int) (key : ByteArray) (hk : Bool)
    (h : At w b o (V.mk 7 n s la ll lc L fa fl fc fn F e key hk).cells) (hr : RowsAt w) (hl : ll ≤ maxLen) (hn : NamesAt w fa fl fc fn) :
    Calls Tryz.prog 43 #[.pointer (some ⟨b, o, none⟩)] w fun x w' => x = .returned (.bool (inRowB 7 n s ll fl fn e key hk)) ∧ Below w.heap.size w w' := by
  have hf : fl ≤ maxLen := Nat.le_trans hn.1.1 hn.1.2
  obtain ⟨c0, c1, c2, c3, c4, c5, c6, c7⟩ := at8 h
  have r0 : w.cell? ⟨1, 35, none⟩ = some (.bool true) := hr 35 (by omega)
  have r1 : w.cell? ⟨1, 36, none⟩ = some (.bool true) := hr 36 (by omega)
  have r2 : w.cell? ⟨1, 37, none⟩ = some (.bool false) := hr 37 (by omega)
  have r3 : w.cell? ⟨1, 38, none⟩ = some (.bool true) := hr 38 (by omega)
  have r4 : w.cell? ⟨1, 39, none⟩ = some (.bool false) := hr 39 (by omega)
  have a0 := alloc_keeps c0
  have a1 := alloc_keeps c1
  have a2 := alloc_keeps c2
  have a3 := alloc_keeps c3
  have a4 := alloc_keeps c4
  have a5 := alloc_keeps c5
  have a6 := alloc_keeps c6
  have a7 := alloc_keeps c7
  unfold maxLen at hl hf
  clear h hr hn
  by_cases hll : ll = 0
  · subst hll
    by_cases h5 : e = 0
    · subst h5
      cases hk
      · cases h6 : emptyB key
        · have q6 : key.toList.isEmpty = false := by rw [empty_is, h6]
          have q6' : (key.toList == ByteArray.toList ⟨#[]⟩) = false := by rw [lit_empty, h6]
          have R := Lib.hid (show Ending.returned (.bool false) = .returned (.bool (inRowB 7 n s 0 fl fn 0 key false)) by simp [inRowB, h6])
          go_enter Tryz.func43, Tryz.ntmps43
          go_wp2_with fail
          go_ret
          exact ⟨R.out, below_alloc _ _⟩
        · have q6 : key.toList.isEmpty = true := by rw [empty_is, h6]
          have q6' : (key.toList == ByteArray.toList ⟨#[]⟩) = true := by rw [lit_empty, h6]
          have R := Lib.hid (show Ending.returned (.bool true) = .returned (.bool (inRowB 7 n s 0 fl fn 0 key false)) by simp [inRowB, h6])
          go_enter Tryz.func43, Tryz.ntmps43
          go_wp2_with fail
          go_ret
          exact ⟨R.out, below_alloc _ _⟩
      · have R := Lib.hid (show Ending.returned (.bool false) = .returned (.bool (inRowB 7 n s 0 fl fn 0 key true)) by simp [inRowB])
        go_enter Tryz.func43, Tryz.ntmps43
        go_wp2_with fail
        go_ret
        exact ⟨R.out, below_alloc _ _⟩
    · have q5 : (e == 0) = false := by simp [h5]
      have R := Lib.hid (show Ending.returned (.bool false) = .returned (.bool (inRowB 7 n s 0 fl fn e key hk)) by simp [inRowB, h5])
      go_enter Tryz.func43, Tryz.ntmps43
      go_wp2_with fail
      go_ret
      exact ⟨R.out, below_alloc _ _⟩
  · have qll : 0 < (ll : Int) := by omega
    have R := Lib.hid (show Ending.returned (.bool false) = .returned (.bool (inRowB 7 n s ll fl fn e key hk)) by simp [inRowB, hll])
    go_enter Tryz.func43, Tryz.ntmps43
    go_wp2_with fail
    go_ret
    exact ⟨R.out, below_alloc _ _⟩

end Go.Proofs.YtdlmemalefhgmaaGreatDoor.VT
end
