/-
  Plain: how the rounds of 'V.may' go, and what they leave of the count. No program is imported.
  Conditions: none.
-/
import Derived.Test.YtajmdhcknmmbbaaGreatDoorCheckP
namespace Go.Proofs.YtajmdhcknmmbbaaGreatDoor

/-- The rounds over a list: each goes on only if all ahead of it answered yes. -/
def mayTo (n : Nat) (g : Nat → Int → Bool × Int) (a : Bool × Int) : Bool × Int := foldTo n (fun i a => if a.1 then g i a.2 else a) a

theorem mayTo_zero (g : Nat → Int → Bool × Int) (a : Bool × Int) : mayTo 0 g a = a := rfl
theorem mayTo_succ (n : Nat) (g : Nat → Int → Bool × Int) (a : Bool × Int) (h : (mayTo n g a).1 = true) : mayTo (n + 1) g a = g n (mayTo n g a).2 := by
  show (if (mayTo n g a).1 then _ else _) = _
  rw [h]
  rfl
theorem mayTo_stop {g : Nat → Int → Bool × Int} {a : Bool × Int} {j : Nat} (h : (mayTo j g a).1 = false) : ∀ n, j ≤ n → mayTo n g a = mayTo j g a := by
  intro n
  induction n with
  | zero =>
    intro hj
    obtain rfl : j = 0 := by omega
    rfl
  | succ n ih =>
    intro hj
    rcases Nat.lt_or_ge n j with h1 | h1
    · obtain rfl : j = n + 1 := by omega
      rfl
    · have e := ih h1
      show (if (mayTo n g a).1 then g n (mayTo n g a).2 else mayTo n g a) = _
      rw [e, h]
      rfl
theorem mayTo_false (n : Nat) (g : Nat → Int → Bool × Int) (a : Bool × Int) (h : a.1 = false) : mayTo n g a = a := mayTo_stop (j := 0) h n (Nat.zero_le _)

theorem mayTo_range {n : Nat} {g : Nat → Int → Bool × Int} (hg : ∀ i x, i < n → 0 ≤ x → -1 ≤ (g i x).2 ∧ (g i x).2 ≤ x ∧ ((g i x).1 = true → 0 ≤ (g i x).2)) {a : Bool × Int} (ha : -1 ≤ a.2 ∧ (a.1 = true → 0 ≤ a.2)) :
    ∀ j, j ≤ n → -1 ≤ (mayTo j g a).2 ∧ (mayTo j g a).2 ≤ a.2 ∧ ((mayTo j g a).1 = true → 0 ≤ (mayTo j g a).2) := by
  intro j
  induction j with
  | zero => exact fun _ => ⟨ha.1, Int.le_refl _, ha.2⟩
  | succ j ih =>
    intro hj
    obtain ⟨h1, h2, h3⟩ := ih (by omega)
    cases h : (mayTo j g a).1 with
    | false =>
      rw [mayTo_stop h (j + 1) (Nat.le_succ _)]
      exact ⟨h1, h2, h3⟩
    | true =>
      rw [mayTo_succ j g a h]
      obtain ⟨k1, k2, k3⟩ := hg j _ (by omega) (h3 h)
      exact ⟨k1, by omega, k3⟩

theorem may_mk (k n : Int) (s : ByteArray) (la : Option Addr) (ll lc : Nat) (L : Nat → V) (fa : Option Addr) (fl fc : Nat) (fn : Nat → ByteArray) (F : Nat → V) (e : Int) (key : ByteArray) (hk : Bool) (deep left : Int) :
    (V.mk k n s la ll lc L fa fl fc fn F e key hk).may deep left =
      if left - 1 < 0 ∨ 64 < deep then (false, left - 1)
      else if (inRowB k n s ll fl fn e key hk && (inLimB s key && risingB fl fn)) = false then (false, left - 1)
      else mayTo fl (fun i => (F i).may (deep + 1)) (mayTo ll (fun i => (L i).may (deep + 1)) (true, left - 1)) := rfl

theorem may_range : ∀ (v : V) (deep left : Int), 0 ≤ left → -1 ≤ (v.may deep left).2 ∧ (v.may deep left).2 ≤ left ∧ ((v.may deep left).1 = true → 0 ≤ (v.may deep left).2) := by
  intro v
  induction v with
  | leaf => exact fun deep left h => ⟨by simp [V.may]; omega, by simp [V.may], by simp [V.may]⟩
  | mk k n s la ll lc L fa fl fc fn F e key hk ihL ihF =>
  intro deep left h
  rw [may_mk]
  by_cases h1 : left - 1 < 0 ∨ 64 < deep
  · rw [if_pos h1]
    exact ⟨by simp; omega, by simp; omega, by simp⟩
  rw [if_neg h1]
  by_cases h2 : (inRowB k n s ll fl fn e key hk && (inLimB s key && risingB fl fn)) = false
  · rw [if_pos h2]
    exact ⟨by simp; omega, by simp; omega, by simp⟩
  rw [if_neg h2]
  obtain ⟨a1, a2, a3⟩ := mayTo_range (n := ll) (g := fun i => (L i).may (deep + 1)) (fun i x _ hx => ihL i (deep + 1) x hx) (a := (true, left - 1)) ⟨by simp; omega, fun _ => by simp; omega⟩ ll (Nat.le_refl _)
  obtain ⟨b1, b2, b3⟩ := mayTo_range (n := fl) (g := fun i => (F i).may (deep + 1)) (fun i x _ hx => ihF i (deep + 1) x hx) (a := mayTo ll (fun i => (L i).may (deep + 1)) (true, left - 1)) ⟨a1, a3⟩ fl (Nat.le_refl _)
  exact ⟨b1, by simp at a2; omega, b3⟩
end Go.Proofs.YtajmdhcknmmbbaaGreatDoor
