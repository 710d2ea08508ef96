/-
  Plain: what value.Check and its helpers answer, as functions on the trees 'V'. No program is imported.
  Conditions: none.
-/
import Derived.Test.YtajmdhcknmmbbaaGreatDoorSameP
import Derived.WalkKit
namespace Go.Proofs.YtajmdhcknmmbbaaGreatDoor
open Go.RowKit

/-- Is it the empty text? -/
def emptyB (s : ByteArray) : Bool := decide (s = ByteArray.empty)

/-- Have fields just these names? -/
def justB (fl : Nat) (fn : Nat → ByteArray) (m : Nat) (ns : Nat → ByteArray) : Bool := decide (fl = m) && allB m (fun i => decide (fn i = ns i))

def nsValue : Nat → ByteArray := fun _ => ⟨#[118, 97, 108, 117, 101]⟩
def nsElse : Nat → ByteArray := fun _ => ⟨#[101, 108, 115, 101]⟩
def nsGuard : Nat → ByteArray := fun i => if i = 0 then ⟨#[97, 103, 97, 105, 110]⟩ else ⟨#[101, 108, 115, 101]⟩
def nsNone : Nat → ByteArray := fun _ => ⟨#[]⟩

/-- Is it an element as its row says? -/
def isElemB (s : ByteArray) (fl : Nat) (fn : Nat → ByteArray) (e : Int) : Bool :=
  if e = 1 ∨ e = 2 ∨ e = 3 then !emptyB s
  else if e = 4 then emptyB s && justB fl fn 0 nsNone
  else if e = 5 then !emptyB s && justB fl fn 0 nsNone
  else if e = 6 then !emptyB s && justB fl fn 1 nsValue
  else if e = 7 then emptyB s && justB fl fn 2 nsGuard
  else if e = 8 then emptyB s && justB fl fn 1 nsElse
  else false

/-- Has it no fields but those of its kind's row, and those as they are said there? -/
def inRowB (k n : Int) (s : ByteArray) (ll fl : Nat) (fn : Nat → ByteArray) (e : Int) (key : ByteArray) (hk : Bool) : Bool :=
  decide (k < 8) && ((decide (k = 1 ∨ k = 2 ∨ k = 7) || decide (n = 0)) && ((decide (k = 3 ∨ k = 6 ∨ k = 7) || emptyB s) && ((decide (k = 4 ∨ k = 6) || decide (ll = 0)) && ((decide (k = 5 ∨ k = 6 ∨ k = 7) || decide (fl = 0)) &&
    ((decide (k = 6) || (decide (e = 0) && !hk)) && ((hk || emptyB key) && (if k = 2 then decide (n = 0) || decide (n = 1) else if k = 6 then isElemB s fl fn e else true)))))))

/-- Is no text of its own too long? -/
def inLimB (s key : ByteArray) : Bool := decide (s.size ≤ 4096) && decide (key.size ≤ 4096)

/-- a <= b, as Go holds texts against one another. -/
def bLe (a b : ByteArray) : Bool := Op.bytesLess a.toList b.toList || a.toList == b.toList

/-- The name ahead of the i-th one; none is the empty text. -/
def lastB (fn : Nat → ByteArray) : Nat → ByteArray
  | 0 => ⟨#[]⟩
  | i + 1 => fn i

/-- Have fields names that rise, none too long? -/
def risingB (fl : Nat) (fn : Nat → ByteArray) : Bool := allB fl (fun i => !(bLe (fn i) (lastB fn i)) && decide ((fn i).size ≤ 4096))

/-- n rounds, from 0 on. -/
def foldTo {α : Type} : Nat → (Nat → α → α) → α → α
  | 0, _, a => a
  | n + 1, f, a => f n (foldTo n f a)

/-- What the check's closure answers, and what it leaves of the count. -/
def V.may : V → Int → Int → Bool × Int
  | .leaf, _, left => (false, left)
  | .mk k n s _ ll _ L _ fl _ fn F e key hk, deep, left =>
    if left - 1 < 0 ∨ 64 < deep then (false, left - 1)
    else if (inRowB k n s ll fl fn e key hk && (inLimB s key && risingB fl fn)) = false then (false, left - 1)
    else foldTo fl (fun i a => if a.1 then (F i).may (deep + 1) a.2 else a) (foldTo ll (fun i a => if a.1 then (L i).may (deep + 1) a.2 else a) (true, left - 1))

def V.check (v : V) : Bool := (v.may 1 4096).1

/-- The rows of the kinds, cell by cell. -/
def rowsL : List Bool := [false, false, false, false, false, true, false, false, false, false, true, false, false, false, false, false, true, false, false, false, false, false, true, false, false, false, false, false, true, false, false, true, true, true, true, true, true, false, true, false]
end Go.Proofs.YtajmdhcknmmbbaaGreatDoor
