/-
  Plain: when two values are the same, as a function on the trees 'V'. No program is imported.
  Conditions: none.
-/
import Derived.Test.YtajmdhcknmmbbaaGreatDoorVal
namespace Go.Proofs.YtajmdhcknmmbbaaGreatDoor

/-- Holds it at every index below n? -/
def allB (n : Nat) (p : Nat → Bool) : Bool := (List.range n).all p

theorem allB_true {n : Nat} {p : Nat → Bool} : allB n p = true ↔ ∀ i, i < n → p i = true := by simp [allB]

/-- It holds below k. -/
def HeldTo (k : Nat) (p : Nat → Bool) : Prop := ∀ i, i < k → p i = true

theorem HeldTo.zero {p : Nat → Bool} : HeldTo 0 p := fun _ h => absurd h (Nat.not_lt_zero _)
theorem HeldTo.succ {k : Nat} {p : Nat → Bool} (h : HeldTo k p) (hk : p k = true) : HeldTo (k + 1) p := fun i hi => by
  rcases Nat.lt_succ_iff_lt_or_eq.1 hi with h1 | rfl
  · exact h i h1
  · exact hk
theorem HeldTo.all {n : Nat} {p : Nat → Bool} (h : HeldTo n p) : allB n p = true := allB_true.2 h
theorem allB_false {n k : Nat} {p : Nat → Bool} (hk : k < n) (h : p k = false) : allB n p = false := by
  rw [Bool.eq_false_iff]
  intro h1
  rw [allB_true] at h1
  rw [h1 k hk] at h
  exact Bool.noConfusion h

/-- Are two the same, what lies within them aside? -/
def ownB (k n : Int) (s : ByteArray) (e : Int) (key : ByteArray) (hk : Bool) (k' n' : Int) (s' : ByteArray) (e' : Int) (key' : ByteArray) (hk' : Bool) : Bool :=
  decide (k = k') && (decide (n = n') && (decide (s = s') && (decide (e = e') && (decide (key = key') && decide (hk = hk')))))

/-- Are two the same? -/
def V.same : V → V → Bool
  | .mk k n s _ ll _ L _ fl _ fn F e key hk, .mk k' n' s' _ ll' _ L' _ fl' _ fn' F' e' key' hk' =>
    ownB k n s e key hk k' n' s' e' key' hk' && (decide (ll = ll') && (decide (fl = fl') && (allB ll (fun i => (L i).same (L' i)) && allB fl (fun i => decide (fn i = fn' i) && (F i).same (F' i)))))
  | _, _ => false

/-- Are two lists of fields? -/
def sameF (fl : Nat) (fn : Nat → ByteArray) (F : Nat → V) (fl' : Nat) (fn' : Nat → ByteArray) (F' : Nat → V) : Bool := decide (fl = fl') && allB fl (fun i => decide (fn i = fn' i) && (F i).same (F' i))

/-- Are two records the same, field by field? -/
def V.shallow : V → V → Bool
  | .mk k _ _ _ _ _ _ _ fl _ fn F _ _ _, .mk k' _ _ _ _ _ _ _ fl' _ fn' F' _ _ _ => decide (k = 5) && (decide (k' = 5) && sameF fl fn F fl' fn' F')
  | _, _ => false

end Go.Proofs.YtajmdhcknmmbbaaGreatDoor
