/-
  Plain: a value that lies in blocks from B on ('V.From'): writes below B leave it as it was. No program is imported.
  Conditions: none.
  Plain: when two values are the same, as a function on the trees 'V'. No program is imported.
  Conditions: none.
  Plain: what value.Check and its helpers answer, as functions on the trees 'V'. No program is imported.
  Conditions: none.
  Plain: the text of a value, byte by byte, as a function on the trees 'V'. No program is imported.
  Conditions: none.
  Plain: what the check's count comes to ('may_spec'): a value may be if it is of shape, has at most so many parts, and they lie at most so deep; how long its text is at most. No program is imported.
  Conditions: none.
  Plain: the values in alive(), what check, text, size, depth, same come to. No program is imported.
  Conditions: none.
  Plain: copies of values ('V.twin'), the marks in the room behind their lists ('V.Marks'), and what a list's copy is in memory ('LOk', 'FOk'). No program is imported.
  Conditions: none.
  Plain: how the rounds of 'V.may' go, and what they leave of the count. No program is imported.
  Conditions: none.
-/
import Derived.Test.YtnmindcofdcncaaGreatDoorVal
import Derived.WalkKit
import Derived.Lib.ItoaNum
import Derived.Lib.ItoaLen
namespace Go.Proofs.YtnmindcofdcncaaGreatDoor
def V.From (B : Nat) : V → Prop
  | .leaf => False
  | .mk _ _ _ la ll _ L fa fl _ _ F _ _ _ => (∀ a, la = some a → B ≤ a.block) ∧ (∀ a, fa = some a → B ≤ a.block) ∧ (∀ i, i < ll → (L i).From B) ∧ (∀ i, i < fl → (F i).From B)
theorem V.From.mono {B C : Nat} (hc : C ≤ B) : ∀ {v : V}, v.From B → v.From C := by
  intro v
  induction v with
  | leaf => exact id
  | mk k n s la ll lc L fa fl fc fn F e key hk ihL ihF =>
    rintro ⟨h1, h2, h3, h4⟩
    exact ⟨fun a ha => Nat.le_trans hc (h1 a ha), fun a ha => Nat.le_trans hc (h2 a ha), fun i hi => ihL i (h3 i hi), fun i hi => ihF i (h4 i hi)⟩
theorem At.from {B : Nat} {w w' : World} {b o : Nat} {cs : List Value} (hB : B ≤ b) (hh : ∀ a : Addr, B ≤ a.block → a.block < w.heap.size → w'.cell? a = w.cell? a) (h : At w b o cs) : At w' b o cs := by
  intro i hi
  have h0 := h i hi
  rw [List.getElem?_eq_getElem hi] at h0 ⊢
  have hlt : b < w.heap.size := World.block_lt_of_cell? _ _ h0
  rw [hh _ hB hlt, h0]
theorem V.In.from {B : Nat} {w w' : World} (hh : ∀ a : Addr, B ≤ a.block → a.block < w.heap.size → w'.cell? a = w.cell? a) : ∀ {v : V}, v.From B → v.In w → v.In w' := by
  intro v
  induction v with
  | leaf => exact fun h => h.elim
  | mk k n s la ll lc L fa fl fc fn F e key hk ihL ihF =>
    rintro ⟨f1, f2, f3, f4⟩ ⟨h1, h2, h3, h4, h5, h6, h7, hL, hF⟩
    refine ⟨h1, h2, h3, h4, h5, h6, h7, fun i hi => ?_, fun i hi => ?_⟩
    · obtain ⟨⟨b, o, e1, ha⟩, hi'⟩ := hL i hi
      exact ⟨⟨b, o, e1, ha.from (f1 _ e1) hh⟩, ihL i (f3 i hi) hi'⟩
    · obtain ⟨⟨b, o, e1, ha⟩, hs, hi'⟩ := hF i hi
      exact ⟨⟨b, o, e1, ha.from (f2 _ e1) hh⟩, hs, ihF i (f4 i hi) hi'⟩
theorem V.In.grown {B : Nat} {w w' : World} {g : Nat} (hg : w.grownBy w' (some g)) (hB : g < B) {v : V} (hf : v.From B) (h : v.In w) : v.In w' :=
  V.In.from (fun a ha hlt => World.cell?_of_block (hg.block _ hlt (by intro e; cases e; omega))) hf h
theorem V.In.set {B : Nat} {w : World} {g o : Nat} {u : Value} (hB : g < B) {v : V} (hf : v.From B) (h : v.In w) : v.In (w.setCell ⟨g, o, none⟩ u) :=
  V.In.from (fun a ha _ => World.cell?_of_block (by simp [World.setCell, Array.getElem?_modify]; intro e; omega)) hf h
end Go.Proofs.YtnmindcofdcncaaGreatDoor
namespace Go.Proofs.YtnmindcofdcncaaGreatDoor
def allB (n : Nat) (p : Nat → Bool) : Bool := (List.range n).all p
theorem allB_true {n : Nat} {p : Nat → Bool} : allB n p = true ↔ ∀ i, i < n → p i = true := by simp [allB]
def HeldTo (k : Nat) (p : Nat → Bool) : Prop := ∀ i, i < k → p i = true
theorem HeldTo.zero {p : Nat → Bool} : HeldTo 0 p := fun _ h => absurd h (Nat.not_lt_zero _)
theorem HeldTo.succ {k : Nat} {p : Nat → Bool} (h : HeldTo k p) (hk : p k = true) : HeldTo (k + 1) p := fun i hi => by
  rcases Nat.lt_succ_iff_lt_or_eq.1 hi with h1 | rfl
  · exact h i h1
  · exact hk
theorem HeldTo.all {n : Nat} {p : Nat → Bool} (h : HeldTo n p) : allB n p = true := allB_true.2 h
theorem allB_false {n k : Nat} {p : Nat → Bool} (hk : k < n) (h : p k = false) : allB n p = false := by
  rw [Bool.eq_false_iff]
  intro h1
  rw [allB_true] at h1
  rw [h1 k hk] at h
  exact Bool.noConfusion h
def ownB (k n : Int) (s : ByteArray) (e : Int) (key : ByteArray) (hk : Bool) (k' n' : Int) (s' : ByteArray) (e' : Int) (key' : ByteArray) (hk' : Bool) : Bool :=
  decide (k = k') && (decide (n = n') && (decide (s = s') && (decide (e = e') && (decide (key = key') && decide (hk = hk')))))
def V.same : V → V → Bool
  | .mk k n s _ ll _ L _ fl _ fn F e key hk, .mk k' n' s' _ ll' _ L' _ fl' _ fn' F' e' key' hk' =>
    ownB k n s e key hk k' n' s' e' key' hk' && (decide (ll = ll') && (decide (fl = fl') && (allB ll (fun i => (L i).same (L' i)) && allB fl (fun i => decide (fn i = fn' i) && (F i).same (F' i)))))
  | _, _ => false
end Go.Proofs.YtnmindcofdcncaaGreatDoor
namespace Go.Proofs.YtnmindcofdcncaaGreatDoor
open Go.RowKit
def emptyB (s : ByteArray) : Bool := decide (s = ByteArray.empty)
def justB (fl : Nat) (fn : Nat → ByteArray) (m : Nat) (ns : Nat → ByteArray) : Bool := decide (fl = m) && allB m (fun i => decide (fn i = ns i))
def nsValue : Nat → ByteArray := fun _ => ⟨#[118, 97, 108, 117, 101]⟩
def nsElse : Nat → ByteArray := fun _ => ⟨#[101, 108, 115, 101]⟩
def nsGuard : Nat → ByteArray := fun i => if i = 0 then ⟨#[97, 103, 97, 105, 110]⟩ else ⟨#[101, 108, 115, 101]⟩
def nsNone : Nat → ByteArray := fun _ => ⟨#[]⟩
def isElemB (s : ByteArray) (fl : Nat) (fn : Nat → ByteArray) (e : Int) : Bool :=
  if e = 1 ∨ e = 2 ∨ e = 3 then !emptyB s
  else if e = 4 then emptyB s && justB fl fn 0 nsNone
  else if e = 5 then !emptyB s && justB fl fn 0 nsNone
  else if e = 6 then !emptyB s && justB fl fn 1 nsValue
  else if e = 7 then emptyB s && justB fl fn 2 nsGuard
  else if e = 8 then emptyB s && justB fl fn 1 nsElse
  else false
def inRowB (k n : Int) (s : ByteArray) (ll fl : Nat) (fn : Nat → ByteArray) (e : Int) (key : ByteArray) (hk : Bool) : Bool :=
  decide (k < 8) && ((decide (k = 1 ∨ k = 2 ∨ k = 7) || decide (n = 0)) && ((decide (k = 3 ∨ k = 6 ∨ k = 7) || emptyB s) && ((decide (k = 4 ∨ k = 6) || decide (ll = 0)) && ((decide (k = 5 ∨ k = 6 ∨ k = 7) || decide (fl = 0)) &&
    ((decide (k = 6) || (decide (e = 0) && !hk)) && ((hk || emptyB key) && (if k = 2 then decide (n = 0) || decide (n = 1) else if k = 6 then isElemB s fl fn e else true)))))))
def inLimB (s key : ByteArray) : Bool := decide (s.size ≤ 4096) && decide (key.size ≤ 4096)
def bLe (a b : ByteArray) : Bool := Op.bytesLess a.toList b.toList || a.toList == b.toList
def lastB (fn : Nat → ByteArray) : Nat → ByteArray
  | 0 => ⟨#[]⟩
  | i + 1 => fn i
def risingB (fl : Nat) (fn : Nat → ByteArray) : Bool := allB fl (fun i => !(bLe (fn i) (lastB fn i)) && decide ((fn i).size ≤ 4096))
def foldTo {α : Type} : Nat → (Nat → α → α) → α → α
  | 0, _, a => a
  | n + 1, f, a => f n (foldTo n f a)
def V.may : V → Int → Int → Bool × Int
  | .leaf, _, left => (false, left)
  | .mk k n s _ ll _ L _ fl _ fn F e key hk, deep, left =>
    if left - 1 < 0 ∨ 64 < deep then (false, left - 1)
    else if (inRowB k n s ll fl fn e key hk && (inLimB s key && risingB fl fn)) = false then (false, left - 1)
    else foldTo fl (fun i a => if a.1 then (F i).may (deep + 1) a.2 else a) (foldTo ll (fun i a => if a.1 then (L i).may (deep + 1) a.2 else a) (true, left - 1))
def V.check (v : V) : Bool := (v.may 1 4096).1
def rowsL : List Bool := [false, false, false, false, false, true, false, false, false, false, true, false, false, false, false, false, true, false, false, false, false, false, true, false, false, false, false, false, true, false, false, true, true, true, true, true, true, false, true, false]
end Go.Proofs.YtnmindcofdcncaaGreatDoor
namespace Go.Proofs.YtnmindcofdcncaaGreatDoor
def escB (b : UInt8) : List UInt8 := if b = 34 then [92, b] else if b = 92 then [92, b] else if b = 10 then [92, 110] else [b]
def quotedL (l : List UInt8) : List UInt8 := 34 :: (l.flatMap escB ++ [34])
def sepTo : Nat → (Nat → List UInt8) → List UInt8
  | 0, _ => []
  | n + 1, f => sepTo n f ++ ((if 0 < n then [32] else []) ++ f n)
def listL (n : Nat) (f : Nat → List UInt8) : List UInt8 := 91 :: (sepTo n f ++ [93])
def recL (n : Nat) (fn : Nat → ByteArray) (f : Nat → List UInt8) : List UInt8 := 123 :: (sepTo n (fun i => quotedL (fn i).data.toList ++ (32 :: f i)) ++ [125])
def wordL (e : Int) : List UInt8 :=
  if e = 1 then [104, 111, 115, 116] else if e = 2 then [99, 111, 109, 112] else if e = 3 then [109, 101, 109, 111] else if e = 4 then [102, 114, 97, 103] else if e = 5 then [112, 111, 114, 116, 97, 108]
  else if e = 6 then [103, 105, 118, 101] else if e = 7 then [103, 117, 97, 114, 100] else if e = 8 then [119, 97, 105, 116] else []
def V.told : V → List UInt8
  | .leaf => []
  | .mk k n s _ ll _ L _ fl _ fn F e key hk =>
    if k = 0 then [110, 111, 110, 101]
    else if k = 1 then Lib.itoa n
    else if k = 2 then (if n = 1 then [121, 101, 115] else [110, 111])
    else if k = 3 then quotedL s.data.toList
    else if k = 4 then listL ll (fun i => (L i).told)
    else if k = 5 then recL fl fn (fun i => (F i).told)
    else if k = 6 then 60 :: (wordL e ++ (32 :: (quotedL s.data.toList ++ ((if hk then [32, 107, 101, 121, 32] ++ quotedL key.data.toList else []) ++ (32 :: (recL fl fn (fun i => (F i).told) ++ (32 :: (listL ll (fun i => (L i).told) ++ [62]))))))))
    else if k = 7 then [60, 100, 101, 101, 100, 32] ++ (Lib.itoa n ++ (32 :: (quotedL s.data.toList ++ (32 :: (recL fl fn (fun i => (F i).told) ++ [62])))))
    else []
end Go.Proofs.YtnmindcofdcncaaGreatDoor
namespace Go.Proofs.YtnmindcofdcncaaGreatDoor
def sumTo : Nat → (Nat → Nat) → Nat
  | 0, _ => 0
  | n + 1, f => sumTo n f + f n
def maxTo : Nat → (Nat → Nat) → Nat
  | 0, _ => 0
  | n + 1, f => max (maxTo n f) (f n)
def V.size : V → Nat
  | .leaf => 0
  | .mk _ _ _ _ ll _ L _ fl _ _ F _ _ _ => 1 + sumTo ll (fun i => (L i).size) + sumTo fl (fun i => (F i).size)
def V.depth : V → Nat
  | .leaf => 0
  | .mk _ _ _ _ ll _ L _ fl _ _ F _ _ _ => max (maxTo ll (fun i => (L i).depth)) (maxTo fl (fun i => (F i).depth)) + 1
def shapeB (k n : Int) (s : ByteArray) (ll fl : Nat) (fn : Nat → ByteArray) (e : Int) (key : ByteArray) (hk : Bool) : Bool := inRowB k n s ll fl fn e key hk && (inLimB s key && risingB fl fn)
def V.shaped : V → Prop
  | .leaf => False
  | .mk k n s _ ll _ L _ fl _ fn F e key hk => shapeB k n s ll fl fn e key hk = true ∧ (∀ i, i < ll → (L i).shaped) ∧ (∀ i, i < fl → (F i).shaped)
theorem maxTo_le {n m : Nat} {f : Nat → Nat} : maxTo n f ≤ m ↔ ∀ i, i < n → f i ≤ m := by
  induction n with
  | zero => simp [maxTo]
  | succ n ih =>
    rw [maxTo, Nat.max_le, ih]
    constructor
    · rintro ⟨h1, h2⟩ i hi
      rcases Nat.lt_succ_iff_lt_or_eq.1 hi with h | rfl
      · exact h1 i h
      · exact h2
    · exact fun h => ⟨fun i hi => h i (by omega), h n (by omega)⟩
theorem le_sumTo {n i : Nat} {f : Nat → Nat} (hi : i < n) : f i ≤ sumTo n f := by
  induction n with
  | zero => omega
  | succ n ih =>
    rw [sumTo]
    rcases Nat.lt_succ_iff_lt_or_eq.1 hi with h | rfl
    · have := ih h; omega
    · omega
theorem V.size_pos {v : V} (h : v.shaped) : 1 ≤ v.size := by
  cases v with
  | leaf => exact h.elim
  | mk => simp only [V.size]; omega
theorem fold_false {G : Nat → Int → Bool × Int} (n : Nat) (x : Int) : foldTo n (fun i a => if a.1 then G i a.2 else a) (false, x) = (false, x) := by
  induction n with
  | zero => rfl
  | succ n ih => rw [foldTo, ih]; simp
theorem fold_spec {G : Nat → Int → Bool × Int} {S : Nat → Prop} {z : Nat → Nat} (n : Nat) (hG : ∀ i, i < n → ∀ left, ((G i left).1 = true ↔ S i ∧ (z i : Int) ≤ left) ∧ ((G i left).1 = true → (G i left).2 = left - z i)) (x : Int) (hx : 0 ≤ x) :
    ((foldTo n (fun i a => if a.1 then G i a.2 else a) (true, x)).1 = true ↔ (∀ i, i < n → S i) ∧ (sumTo n z : Int) ≤ x) ∧ ((foldTo n (fun i a => if a.1 then G i a.2 else a) (true, x)).1 = true → (foldTo n (fun i a => if a.1 then G i a.2 else a) (true, x)).2 = x - sumTo n z) := by
  induction n with
  | zero => simp [foldTo, sumTo, hx]
  | succ n ih =>
    obtain ⟨ih1, ih2⟩ := ih (fun i hi => hG i (by omega))
    rw [foldTo]
    generalize foldTo n (fun i a => if a.1 then G i a.2 else a) (true, x) = r at ih1 ih2
    obtain ⟨g1, g2⟩ := hG n (by omega) r.2
    by_cases hr : r.1 = true
    · have e2 := ih2 hr
      have e1 := ih1.1 hr
      simp only [hr, if_true]
      rw [sumTo]
      constructor
      · rw [g1]
        constructor
        · rintro ⟨h1, h2⟩
          refine ⟨fun i hi => ?_, by push_cast; omega⟩
          rcases Nat.lt_succ_iff_lt_or_eq.1 hi with h | rfl
          · exact e1.1 i h
          · exact h1
        · rintro ⟨h1, h2⟩
          exact ⟨h1 n (by omega), by push_cast at h2; omega⟩
      · intro h
        rw [g2 h, e2]; push_cast; omega
    · simp only [hr]
      simp only [Bool.false_eq_true, if_false]
      constructor
      · constructor
        · intro h; exact absurd h hr
        · rintro ⟨h1, h2⟩
          rw [sumTo] at h2
          exact absurd (ih1.2 ⟨fun i hi => h1 i (by omega), by push_cast at h2; omega⟩) hr
      · intro h; exact absurd h hr
theorem may_spec : ∀ (v : V) (deep left : Int), ((v.may deep left).1 = true ↔ (v.shaped ∧ deep + v.depth ≤ 65) ∧ (v.size : Int) ≤ left) ∧ ((v.may deep left).1 = true → (v.may deep left).2 = left - v.size) := by
  intro v
  induction v with
  | leaf => intro deep left; simp [V.may, V.shaped]
  | mk k n s la ll lc L fa fl fc fn F e key hk ihL ihF =>
    intro deep left
    by_cases hd : left - 1 < 0 ∨ 64 < deep
    · rw [V.may, if_pos hd]
      have hz : 1 ≤ (V.mk k n s la ll lc L fa fl fc fn F e key hk).size := by simp only [V.size]; omega
      have hp : 1 ≤ (V.mk k n s la ll lc L fa fl fc fn F e key hk).depth := by simp only [V.depth]; omega
      refine ⟨⟨fun h => by simp at h, fun h => ?_⟩, fun h => by simp at h⟩
      obtain ⟨⟨-, h1⟩, h2⟩ := h
      omega
    · rw [V.may, if_neg hd]
      by_cases ho : (inRowB k n s ll fl fn e key hk && (inLimB s key && risingB fl fn)) = false
      · rw [if_pos ho]
        refine ⟨⟨fun h => by simp at h, fun h => ?_⟩, fun h => by simp at h⟩
        have h1 : shapeB k n s ll fl fn e key hk = true := h.1.1.1
        rw [shapeB, ho] at h1
        exact absurd h1 (by decide)
      · rw [if_neg ho]
        have ho' : shapeB k n s ll fl fn e key hk = true := by rw [shapeB]; simpa using ho
        obtain ⟨a1, a2⟩ := fold_spec (G := fun i a => (L i).may (deep + 1) a) (S := fun i => (L i).shaped ∧ deep + 1 + (L i).depth ≤ 65) (z := fun i => (L i).size) ll (fun i _ lf => ihL i (deep + 1) lf) (left - 1) (by omega)
        have hval : ((V.mk k n s la ll lc L fa fl fc fn F e key hk).shaped ∧ deep + (V.mk k n s la ll lc L fa fl fc fn F e key hk).depth ≤ 65) ↔ (∀ i, i < ll → (L i).shaped ∧ deep + 1 + (L i).depth ≤ 65) ∧ (∀ i, i < fl → (F i).shaped ∧ deep + 1 + (F i).depth ≤ 65) := by
          simp only [V.shaped, V.depth, ho', true_and]
          constructor
          · rintro ⟨⟨h1, h2⟩, h3⟩
            have hm1 : maxTo ll (fun i => (L i).depth) ≤ (64 - deep).toNat := by omega
            have hm2 : maxTo fl (fun i => (F i).depth) ≤ (64 - deep).toNat := by omega
            rw [maxTo_le] at hm1 hm2
            exact ⟨fun i hi => ⟨h1 i hi, by have := hm1 i hi; omega⟩, fun i hi => ⟨h2 i hi, by have := hm2 i hi; omega⟩⟩
          · rintro ⟨h1, h2⟩
            refine ⟨⟨fun i hi => (h1 i hi).1, fun i hi => (h2 i hi).1⟩, ?_⟩
            have hm1 : maxTo ll (fun i => (L i).depth) ≤ (64 - deep).toNat := maxTo_le.2 fun i hi => by have := (h1 i hi).2; omega
            have hm2 : maxTo fl (fun i => (F i).depth) ≤ (64 - deep).toNat := maxTo_le.2 fun i hi => by have := (h2 i hi).2; omega
            omega
        rw [hval]
        simp only [V.size]
        revert a1 a2
        generalize foldTo ll (fun i a => if a.1 then (L i).may (deep + 1) a.2 else a) (true, left - 1) = r
        intro a1 a2
        obtain ⟨b, y⟩ := r
        cases b with
        | false =>
          rw [fold_false]
          simp only at a1
          refine ⟨⟨fun h => by simp at h, fun h => ?_⟩, fun h => by simp at h⟩
          exact absurd (a1.2 ⟨h.1.1, by push_cast at h; omega⟩) (by decide)
        | true =>
          have ey := a2 rfl
          have e1 := a1.1 rfl
          simp only at ey
          obtain ⟨b1, b2⟩ := fold_spec (G := fun i a => (F i).may (deep + 1) a) (S := fun i => (F i).shaped ∧ deep + 1 + (F i).depth ≤ 65) (z := fun i => (F i).size) fl (fun i _ lf => ihF i (deep + 1) lf) y (by omega)
          refine ⟨?_, fun h => ?_⟩
          · rw [b1]
            constructor
            · rintro ⟨h1, h2⟩; exact ⟨⟨e1.1, h1⟩, by push_cast; omega⟩
            · rintro ⟨⟨h1, h2⟩, h3⟩; exact ⟨h2, by push_cast at h3; omega⟩
          · rw [b2 h, ey]; push_cast; omega
theorem check_iff (v : V) : v.check = true ↔ v.shaped ∧ v.size ≤ 4096 ∧ v.depth ≤ 64 := by
  rw [V.check, (may_spec v 1 4096).1]
  constructor
  · rintro ⟨⟨h1, h2⟩, h3⟩; exact ⟨h1, by omega, by omega⟩
  · rintro ⟨h1, h2, h3⟩; exact ⟨⟨h1, by omega⟩, by omega⟩
theorem escB_length (b : UInt8) : (escB b).length ≤ 2 := by
  unfold escB
  split
  · simp
  · split
    · simp
    · split <;> simp
theorem quotedL_length (l : List UInt8) : (quotedL l).length ≤ 2 * l.length + 2 := by
  have : (l.flatMap escB).length ≤ 2 * l.length := by
    induction l with
    | nil => simp
    | cons b l ih => have := escB_length b; simp only [List.flatMap_cons, List.length_append, List.length_cons]; omega
  simp only [quotedL, List.length_cons, List.length_append, List.length_nil]; omega
theorem sepTo_length (n : Nat) (f : Nat → List UInt8) (z : Nat → Nat) (h : ∀ i, i < n → (f i).length + 1 ≤ z i) : (sepTo n f).length ≤ sumTo n z := by
  induction n with
  | zero => simp [sepTo]
  | succ n ih =>
    have h1 := ih (fun i hi => h i (by omega))
    have h2 := h n (by omega)
    simp only [sepTo, sumTo, List.length_append]
    split <;> simp only [List.length_cons, List.length_nil] <;> omega
theorem sumTo_mul (c n : Nat) (f : Nat → Nat) : sumTo n (fun i => c * f i) = c * sumTo n f := by
  induction n with
  | zero => simp [sumTo]
  | succ n ih => simp only [sumTo, ih, Nat.mul_add]
theorem wordL_length (e : Int) : (wordL e).length ≤ 6 := by
  unfold wordL
  repeat' split
  all_goals simp
theorem inLim_of {k n : Int} {s : ByteArray} {ll fl : Nat} {fn : Nat → ByteArray} {e : Int} {key : ByteArray} {hk : Bool} (h : shapeB k n s ll fl fn e key hk = true) : s.data.toList.length ≤ 4096 ∧ key.data.toList.length ≤ 4096 ∧ inRowB k n s ll fl fn e key hk = true ∧ risingB fl fn = true := by
  simp only [shapeB, inLimB, Bool.and_eq_true, decide_eq_true_eq] at h
  exact ⟨by simpa using h.2.1.1, by simpa using h.2.1.2, h.1, h.2.2⟩
theorem allB_iff {n : Nat} {f : Nat → Bool} : allB n f = true ↔ ∀ i, i < n → f i = true := by
  simp [allB]
theorem rising_lim {fl : Nat} {fn : Nat → ByteArray} (h : risingB fl fn = true) (i : Nat) (hi : i < fl) : (fn i).data.toList.length ≤ 4096 := by
  have := allB_iff.1 h i hi
  simp only [Bool.and_eq_true, decide_eq_true_eq] at this
  simpa using this.2
def V.nums : V → Prop
  | .leaf => True
  | .mk _ n _ _ ll _ L _ fl _ _ F _ _ _ => (-9223372036854775808 ≤ n ∧ n ≤ 9223372036854775807) ∧ (∀ i, i < ll → (L i).nums) ∧ (∀ i, i < fl → (F i).nums)
theorem V.In.nums {w : World} : ∀ {v : V}, v.In w → v.nums := by
  intro v
  induction v with
  | leaf => exact fun h => h.elim
  | mk k n s la ll lc L fa fl fc fn F e key hk ihL ihF =>
    intro h
    exact ⟨h.2.1, fun i hi => ihL i (h.2.2.2.2.2.2.2.1 i hi).2, fun i hi => ihF i (h.2.2.2.2.2.2.2.2 i hi).2.2⟩
theorem told_length : ∀ v : V, v.shaped → v.nums → v.told.length + 8300 ≤ 30000 * v.size := by
  intro v
  induction v with
  | leaf => exact fun h => h.elim
  | mk k n s la ll lc L fa fl fc fn F e key hk ihL ihF =>
    intro h hn
    obtain ⟨ho, hL, hF⟩ := h
    obtain ⟨l1, l2, -, l4⟩ := inLim_of ho
    have q1 := quotedL_length s.data.toList
    have q2 := quotedL_length key.data.toList
    have q3 := Lib.itoa_length_le n hn.1.1 hn.1.2
    have q4 := wordL_length e
    have hl : (listL ll (fun i => (L i).told)).length ≤ 30000 * sumTo ll (fun i => (L i).size) + 2 := by
      have := sepTo_length ll (fun i => (L i).told) (fun i => 30000 * (L i).size) (fun i hi => by have := ihL i (hL i hi) (hn.2.1 i hi); omega)
      rw [sumTo_mul] at this
      simp only [listL, List.length_cons, List.length_append, List.length_nil]; omega
    have hr : (recL fl fn (fun i => (F i).told)).length ≤ 30000 * sumTo fl (fun i => (F i).size) + 2 := by
      have := sepTo_length fl (fun i => quotedL (fn i).data.toList ++ (32 :: (F i).told)) (fun i => 30000 * (F i).size) (fun i hi => by
        have h1 := ihF i (hF i hi) (hn.2.2 i hi)
        have h2 := quotedL_length (fn i).data.toList
        have h3 := rising_lim l4 i hi
        simp only [List.length_append, List.length_cons]; omega)
      rw [sumTo_mul] at this
      simp only [recL, List.length_cons, List.length_append, List.length_nil]; omega
    simp only [V.told, V.size]
    repeat' split
    all_goals (try simp only [List.length_cons, List.length_append, List.length_nil])
    all_goals omega
theorem row_lt {k n : Int} {s : ByteArray} {ll fl : Nat} {fn : Nat → ByteArray} {e : Int} {key : ByteArray} {hk : Bool} (h : inRowB k n s ll fl fn e key hk = true) : k < 8 ∧ (k = 6 → isElemB s fl fn e = true) := by
  simp only [inRowB, Bool.and_eq_true, decide_eq_true_eq] at h
  refine ⟨h.1, fun hk6 => ?_⟩
  have := h.2.2.2.2.2.2.2
  subst hk6
  simpa using this
theorem elem_range {s : ByteArray} {fl : Nat} {fn : Nat → ByteArray} {e : Int} (h : isElemB s fl fn e = true) : 1 ≤ e ∧ e ≤ 8 := by
  unfold isElemB at h
  by_cases h1 : e = 1 ∨ e = 2 ∨ e = 3
  · omega
  rw [if_neg h1] at h
  by_cases h4 : e = 4
  · omega
  rw [if_neg h4] at h
  by_cases h5 : e = 5
  · omega
  rw [if_neg h5] at h
  by_cases h6 : e = 6
  · omega
  rw [if_neg h6] at h
  by_cases h7 : e = 7
  · omega
  rw [if_neg h7] at h
  by_cases h8 : e = 8
  · omega
  rw [if_neg h8] at h
  exact absurd h (by decide)
theorem itoa_ne (n : Int) : Lib.itoa n ≠ [] := by
  unfold Lib.itoa
  split
  · simp
  · intro h
    have h1 := Lib.decDigits_length n.toNat
    have h2 := Lib.nDigits_pos n.toNat
    rw [h] at h1
    simp at h1
    omega
theorem told_ne {v : V} (h : v.shaped) (h0 : ∀ k n s la ll lc L fa fl fc fn F e key hk, v = .mk k n s la ll lc L fa fl fc fn F e key hk → 0 ≤ k) : v.told ≠ [] := by
  cases v with
  | leaf => exact h.elim
  | mk k n s la ll lc L fa fl fc fn F e key hk =>
    obtain ⟨ho, -, -⟩ := h
    have hk0 := h0 _ _ _ _ _ _ _ _ _ _ _ _ _ _ _ rfl
    have h8 := (row_lt (inLim_of ho).2.2.1).1
    have hm : k = 0 ∨ k = 1 ∨ k = 2 ∨ k = 3 ∨ k = 4 ∨ k = 5 ∨ k = 6 ∨ k = 7 := by omega
    rcases hm with rfl | rfl | rfl | rfl | rfl | rfl | rfl | rfl
    · simp [V.told]
    · simp only [V.told]; simpa using itoa_ne n
    · rw [show (V.mk 2 n s la ll lc L fa fl fc fn F e key hk).told = if n = 1 then [121, 101, 115] else [110, 111] by simp [V.told]]
      split <;> simp
    · simp [V.told, quotedL]
    · simp [V.told, listL]
    · simp [V.told, recL]
    · simp [V.told]
    · simp [V.told]
def V.text (v : V) : ByteArray := if v.check then ⟨v.told.toArray⟩ else ⟨#[]⟩
end Go.Proofs.YtnmindcofdcncaaGreatDoor
namespace Go.Proofs.YtnmindcofdcncaaGreatDoor
open Go.RowKit
def vz (k n : Int) (s : ByteArray) : V := .mk k n s none 0 0 (fun _ => .leaf) none 0 0 (fun _ => ⟨#[]⟩) (fun _ => .leaf) 0 ⟨#[]⟩ false
end Go.Proofs.YtnmindcofdcncaaGreatDoor
namespace Go.Proofs.YtnmindcofdcncaaGreatDoor
open Go.RowKit
def V.Fits : V → Prop
  | .leaf => True
  | .mk _ _ _ _ ll _ L _ fl _ _ F _ _ _ => ll * 112 ≤ 140737488351232 ∧ fl * 128 ≤ 140737488351232 ∧ (∀ i, i < ll → (L i).Fits) ∧ (∀ i, i < fl → (F i).Fits)
def V.twin : V → V → Prop
  | .mk k n s _ ll _ L _ fl _ fn F e key hk, .mk k' n' s' _ ll' lc' L' _ fl' fc' fn' F' e' key' hk' =>
    (k = k' ∧ n = n' ∧ s = s' ∧ e = e' ∧ key = key' ∧ hk = hk') ∧ (ll = ll' ∧ fl = fl') ∧ (lc' = ll + 1 ∧ fc' = fl + 1) ∧ (∀ i, i < ll → (L i).twin (L' i)) ∧ (∀ i, i < fl → fn i = fn' i ∧ (F i).twin (F' i))
  | _, _ => False
def spareV : V := vz 0 0 ⟨#[115, 112, 97, 114, 101]⟩
def spareF : List Value := .string ⟨#[115, 112, 97, 114, 101]⟩ :: (vz 0 0 ⟨#[]⟩).cells
def V.Marks (w : World) : V → Prop
  | .leaf => False
  | .mk _ _ _ la ll _ L fa fl _ _ F _ _ _ => (∃ g, la = some ⟨g, 0, none⟩ ∧ At w g (ll * 8) spareV.cells) ∧ (∃ g, fa = some ⟨g, 0, none⟩ ∧ At w g (fl * 9) spareF) ∧ (∀ i, i < ll → (L i).Marks w) ∧ (∀ i, i < fl → (F i).Marks w)
theorem V.Marks.from {B : Nat} {w w' : World} (hh : ∀ a : Addr, B ≤ a.block → a.block < w.heap.size → w'.cell? a = w.cell? a) : ∀ {v : V}, v.From B → v.Marks w → v.Marks w' := by
  intro v
  induction v with
  | leaf => exact fun h => h.elim
  | mk k n s la ll lc L fa fl fc fn F e key hk ihL ihF =>
    rintro ⟨f1, f2, f3, f4⟩ ⟨⟨g, rfl, h1⟩, ⟨g', rfl, h2⟩, hL, hF⟩
    exact ⟨⟨g, rfl, h1.from (f1 _ rfl) hh⟩, ⟨g', rfl, h2.from (f2 _ rfl) hh⟩, fun i hi => ihL i (f3 i hi) (hL i hi), fun i hi => ihF i (f4 i hi) (hF i hi)⟩
theorem twin_same : ∀ v t : V, v.twin t → v.same t = true := by
  intro v
  induction v with
  | leaf => intro t h; cases t <;> exact h.elim
  | mk k n s la ll lc L fa fl fc fn F e key hk ihL ihF =>
    intro t h
    cases t with
    | leaf => exact h.elim
    | mk k' n' s' la' ll' lc' L' fa' fl' fc' fn' F' e' key' hk' =>
    obtain ⟨⟨rfl, rfl, rfl, rfl, rfl, rfl⟩, ⟨rfl, rfl⟩, -, hL, hF⟩ := h
    simp only [V.same, ownB, decide_true, Bool.true_and, Bool.and_eq_true, allB_true, decide_eq_true_iff]
    exact ⟨fun i hi => ihL i _ (hL i hi), fun i hi => ⟨(hF i hi).1, ihF i _ (hF i hi).2⟩⟩
structure TOk (base : Nat) (W : World) (v t : V) : Prop where
  inn : t.In W
  frm : t.From base
  tw : v.twin t
  mks : t.Marks W
theorem TOk.from {base : Nat} {W W' : World} {v t : V} (hh : ∀ a : Addr, base ≤ a.block → a.block < W.heap.size → W'.cell? a = W.cell? a) (h : TOk base W v t) : TOk base W' v t :=
  ⟨V.In.from hh h.frm h.inn, h.frm, h.tw, V.Marks.from hh h.frm h.mks⟩
theorem TOk.below {base : Nat} {W W' : World} {v t : V} (hb : Below W.heap.size W W') (h : TOk base W v t) : TOk base W' v t := h.from fun _ _ hlt => hb.cell hlt
theorem TOk.mono {base base' : Nat} {W : World} {v t : V} (hb : base' ≤ base) (h : TOk base W v t) : TOk base' W v t := ⟨h.inn, h.frm.mono hb, h.tw, h.mks⟩
structure LOk (base : Nat) (W : World) (g ll : Nat) (L L' : Nat → V) : Prop where
  hg : base ≤ g
  cs : ∀ i, i < ll → At W g (i * 8) (L' i).cells
  ok : ∀ i, i < ll → TOk base W (L i) (L' i)
  spr : At W g (ll * 8) spareV.cells
theorem LOk.from {base : Nat} {W W' : World} {g ll : Nat} {L L' : Nat → V} (hh : ∀ a : Addr, base ≤ a.block → a.block < W.heap.size → W'.cell? a = W.cell? a) (h : LOk base W g ll L L') : LOk base W' g ll L L' :=
  ⟨h.hg, fun i hi => (h.cs i hi).from h.hg hh, fun i hi => (h.ok i hi).from hh, h.spr.from h.hg hh⟩
structure FOk (base : Nat) (W : World) (g fl : Nat) (fn fn' : Nat → ByteArray) (F F' : Nat → V) : Prop where
  hg : base ≤ g
  cs : ∀ i, i < fl → At W g (i * 9) (.string (fn' i) :: (F' i).cells)
  nm : ∀ i, i < fl → fn i = fn' i
  ok : ∀ i, i < fl → TOk base W (F i) (F' i)
  spr : At W g (fl * 9) spareF
theorem FOk.from {base : Nat} {W W' : World} {g fl : Nat} {fn fn' : Nat → ByteArray} {F F' : Nat → V} (hh : ∀ a : Addr, base ≤ a.block → a.block < W.heap.size → W'.cell? a = W.cell? a) (h : FOk base W g fl fn fn' F F') : FOk base W' g fl fn fn' F F' :=
  ⟨h.hg, fun i hi => (h.cs i hi).from h.hg hh, h.nm, fun i hi => (h.ok i hi).from hh, h.spr.from h.hg hh⟩
def flatV : Nat → (Nat → V) → List Value
  | 0, _ => []
  | k + 1, L => flatV k L ++ (L k).cells
def flatF : Nat → (Nat → ByteArray) → (Nat → V) → List Value
  | 0, _, _ => []
  | k + 1, fn, F => flatF k fn F ++ (.string (fn k) :: (F k).cells)
theorem flatV_ext {k : Nat} {L L' : Nat → V} (h : ∀ i, i < k → L i = L' i) : flatV k L = flatV k L' := by
  induction k with
  | zero => rfl
  | succ k ih => rw [flatV, flatV, ih (fun i hi => h i (by omega)), h k (by omega)]
theorem flatF_ext {k : Nat} {fn fn' : Nat → ByteArray} {F F' : Nat → V} (h : ∀ i, i < k → fn i = fn' i ∧ F i = F' i) : flatF k fn F = flatF k fn' F' := by
  induction k with
  | zero => rfl
  | succ k ih => rw [flatF, flatF, ih (fun i hi => h i (by omega)), (h k (by omega)).1, (h k (by omega)).2]
theorem twin_cells {v t : V} (h : v.twin t) : t.cells.length = 8 := by
  cases v <;> cases t <;> first | rfl | exact h.elim
theorem flatV_length {k : Nat} {L : Nat → V} (h : ∀ i, i < k → (L i).cells.length = 8) : (flatV k L).length = k * 8 := by
  induction k with
  | zero => rfl
  | succ k ih => rw [flatV, List.length_append, ih (fun i hi => h i (by omega)), h k (by omega)]; omega
theorem flatF_length {k : Nat} {fn : Nat → ByteArray} {F : Nat → V} (h : ∀ i, i < k → (F i).cells.length = 8) : (flatF k fn F).length = k * 9 := by
  induction k with
  | zero => rfl
  | succ k ih => rw [flatF, List.length_append, ih (fun i hi => h i (by omega)), List.length_cons, h k (by omega)]; omega
theorem flatV_get {k : Nat} {L : Nat → V} (h : ∀ i, i < k → (L i).cells.length = 8) : ∀ i, i < k → ∀ j, j < 8 → (flatV k L)[i * 8 + j]? = (L i).cells[j]? := by
  induction k with
  | zero => exact fun i hi => absurd hi (Nat.not_lt_zero _)
  | succ k ih =>
    intro i hi j hj
    have hl := flatV_length (k := k) (L := L) (fun i hi => h i (by omega))
    rw [flatV]
    rcases Nat.lt_succ_iff_lt_or_eq.1 hi with h1 | rfl
    · rw [List.getElem?_append_left (by omega)]
      exact ih (fun i hi => h i (by omega)) i h1 j hj
    · rw [List.getElem?_append_right (by omega), hl]
      congr 1
      omega
theorem flatF_get {k : Nat} {fn : Nat → ByteArray} {F : Nat → V} (h : ∀ i, i < k → (F i).cells.length = 8) : ∀ i, i < k → ∀ j, j < 9 → (flatF k fn F)[i * 9 + j]? = (Value.string (fn i) :: (F i).cells)[j]? := by
  induction k with
  | zero => exact fun i hi => absurd hi (Nat.not_lt_zero _)
  | succ k ih =>
    intro i hi j hj
    have hl := flatF_length (k := k) (fn := fn) (F := F) (fun i hi => h i (by omega))
    rw [flatF]
    rcases Nat.lt_succ_iff_lt_or_eq.1 hi with h1 | rfl
    · rw [List.getElem?_append_left (by omega)]
      exact ih (fun i hi => h i (by omega)) i h1 j hj
    · rw [List.getElem?_append_right (by omega), hl]
      congr 1
      omega
end Go.Proofs.YtnmindcofdcncaaGreatDoor
namespace Go.Proofs.YtnmindcofdcncaaGreatDoor
def mayTo (n : Nat) (g : Nat → Int → Bool × Int) (a : Bool × Int) : Bool × Int := foldTo n (fun i a => if a.1 then g i a.2 else a) a
theorem mayTo_succ (n : Nat) (g : Nat → Int → Bool × Int) (a : Bool × Int) (h : (mayTo n g a).1 = true) : mayTo (n + 1) g a = g n (mayTo n g a).2 := by
  show (if (mayTo n g a).1 then _ else _) = _
  rw [h]
  rfl
theorem mayTo_stop {g : Nat → Int → Bool × Int} {a : Bool × Int} {j : Nat} (h : (mayTo j g a).1 = false) : ∀ n, j ≤ n → mayTo n g a = mayTo j g a := by
  intro n
  induction n with
  | zero =>
    intro hj
    obtain rfl : j = 0 := by omega
    rfl
  | succ n ih =>
    intro hj
    rcases Nat.lt_or_ge n j with h1 | h1
    · obtain rfl : j = n + 1 := by omega
      rfl
    · have e := ih h1
      show (if (mayTo n g a).1 then g n (mayTo n g a).2 else mayTo n g a) = _
      rw [e, h]
      rfl
theorem mayTo_false (n : Nat) (g : Nat → Int → Bool × Int) (a : Bool × Int) (h : a.1 = false) : mayTo n g a = a := mayTo_stop (j := 0) h n (Nat.zero_le _)
theorem mayTo_range {n : Nat} {g : Nat → Int → Bool × Int} (hg : ∀ i x, i < n → 0 ≤ x → -1 ≤ (g i x).2 ∧ (g i x).2 ≤ x ∧ ((g i x).1 = true → 0 ≤ (g i x).2)) {a : Bool × Int} (ha : -1 ≤ a.2 ∧ (a.1 = true → 0 ≤ a.2)) :
    ∀ j, j ≤ n → -1 ≤ (mayTo j g a).2 ∧ (mayTo j g a).2 ≤ a.2 ∧ ((mayTo j g a).1 = true → 0 ≤ (mayTo j g a).2) := by
  intro j
  induction j with
  | zero => exact fun _ => ⟨ha.1, Int.le_refl _, ha.2⟩
  | succ j ih =>
    intro hj
    obtain ⟨h1, h2, h3⟩ := ih (by omega)
    cases h : (mayTo j g a).1 with
    | false =>
      rw [mayTo_stop h (j + 1) (Nat.le_succ _)]
      exact ⟨h1, h2, h3⟩
    | true =>
      rw [mayTo_succ j g a h]
      obtain ⟨k1, k2, k3⟩ := hg j _ (by omega) (h3 h)
      exact ⟨k1, by omega, k3⟩
theorem may_mk (k n : Int) (s : ByteArray) (la : Option Addr) (ll lc : Nat) (L : Nat → V) (fa : Option Addr) (fl fc : Nat) (fn : Nat → ByteArray) (F : Nat → V) (e : Int) (key : ByteArray) (hk : Bool) (deep left : Int) :
    (V.mk k n s la ll lc L fa fl fc fn F e key hk).may deep left =
      if left - 1 < 0 ∨ 64 < deep then (false, left - 1)
      else if (inRowB k n s ll fl fn e key hk && (inLimB s key && risingB fl fn)) = false then (false, left - 1)
      else mayTo fl (fun i => (F i).may (deep + 1)) (mayTo ll (fun i => (L i).may (deep + 1)) (true, left - 1)) := rfl
theorem may_range : ∀ (v : V) (deep left : Int), 0 ≤ left → -1 ≤ (v.may deep left).2 ∧ (v.may deep left).2 ≤ left ∧ ((v.may deep left).1 = true → 0 ≤ (v.may deep left).2) := by
  intro v
  induction v with
  | leaf => exact fun deep left h => ⟨by simp [V.may]; omega, by simp [V.may], by simp [V.may]⟩
  | mk k n s la ll lc L fa fl fc fn F e key hk ihL ihF =>
  intro deep left h
  rw [may_mk]
  by_cases h1 : left - 1 < 0 ∨ 64 < deep
  · rw [if_pos h1]
    exact ⟨by simp; omega, by simp; omega, by simp⟩
  rw [if_neg h1]
  by_cases h2 : (inRowB k n s ll fl fn e key hk && (inLimB s key && risingB fl fn)) = false
  · rw [if_pos h2]
    exact ⟨by simp; omega, by simp; omega, by simp⟩
  rw [if_neg h2]
  obtain ⟨a1, a2, a3⟩ := mayTo_range (n := ll) (g := fun i => (L i).may (deep + 1)) (fun i x _ hx => ihL i (deep + 1) x hx) (a := (true, left - 1)) ⟨by simp; omega, fun _ => by simp; omega⟩ ll (Nat.le_refl _)
  obtain ⟨b1, b2, b3⟩ := mayTo_range (n := fl) (g := fun i => (F i).may (deep + 1)) (fun i x _ hx => ihF i (deep + 1) x hx) (a := mayTo ll (fun i => (L i).may (deep + 1)) (true, left - 1)) ⟨a1, a3⟩ fl (Nat.le_refl _)
  exact ⟨b1, by simp at a2; omega, b3⟩
end Go.Proofs.YtnmindcofdcncaaGreatDoor
