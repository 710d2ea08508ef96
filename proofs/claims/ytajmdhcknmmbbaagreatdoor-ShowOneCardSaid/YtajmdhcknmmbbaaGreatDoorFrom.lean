/-
  Plain: a value that lies in blocks from B on ('V.From'): writes below B leave it as it was. No program is imported.
  Conditions: none.
-/
import Derived.Test.YtajmdhcknmmbbaaGreatDoorVal
namespace Go.Proofs.YtajmdhcknmmbbaaGreatDoor

/-- All that it leads to lies in blocks from B on. -/
def V.From (B : Nat) : V → Prop
  | .leaf => False
  | .mk _ _ _ la ll _ L fa fl _ _ F _ _ _ => (∀ a, la = some a → B ≤ a.block) ∧ (∀ a, fa = some a → B ≤ a.block) ∧ (∀ i, i < ll → (L i).From B) ∧ (∀ i, i < fl → (F i).From B)

theorem V.From.mono {B C : Nat} (hc : C ≤ B) : ∀ {v : V}, v.From B → v.From C := by
  intro v
  induction v with
  | leaf => exact id
  | mk k n s la ll lc L fa fl fc fn F e key hk ihL ihF =>
    rintro ⟨h1, h2, h3, h4⟩
    exact ⟨fun a ha => Nat.le_trans hc (h1 a ha), fun a ha => Nat.le_trans hc (h2 a ha), fun i hi => ihL i (h3 i hi), fun i hi => ihF i (h4 i hi)⟩

theorem At.from {B : Nat} {w w' : World} {b o : Nat} {cs : List Value} (hB : B ≤ b) (hh : ∀ a : Addr, B ≤ a.block → a.block < w.heap.size → w'.cell? a = w.cell? a) (h : At w b o cs) : At w' b o cs := by
  intro i hi
  have h0 := h i hi
  rw [List.getElem?_eq_getElem hi] at h0 ⊢
  have hlt : b < w.heap.size := World.block_lt_of_cell? _ _ h0
  rw [hh _ hB hlt, h0]

theorem V.In.from {B : Nat} {w w' : World} (hh : ∀ a : Addr, B ≤ a.block → a.block < w.heap.size → w'.cell? a = w.cell? a) : ∀ {v : V}, v.From B → v.In w → v.In w' := by
  intro v
  induction v with
  | leaf => exact fun h => h.elim
  | mk k n s la ll lc L fa fl fc fn F e key hk ihL ihF =>
    rintro ⟨f1, f2, f3, f4⟩ ⟨h1, h2, h3, h4, h5, h6, h7, hL, hF⟩
    refine ⟨h1, h2, h3, h4, h5, h6, h7, fun i hi => ?_, fun i hi => ?_⟩
    · obtain ⟨⟨b, o, e1, ha⟩, hi'⟩ := hL i hi
      exact ⟨⟨b, o, e1, ha.from (f1 _ e1) hh⟩, ihL i (f3 i hi) hi'⟩
    · obtain ⟨⟨b, o, e1, ha⟩, hs, hi'⟩ := hF i hi
      exact ⟨⟨b, o, e1, ha.from (f2 _ e1) hh⟩, hs, ihF i (f4 i hi) hi'⟩

/-- Behind a write into one block below B, and new blocks. -/
theorem V.In.grown {B : Nat} {w w' : World} {g : Nat} (hg : w.grownBy w' (some g)) (hB : g < B) {v : V} (hf : v.From B) (h : v.In w) : v.In w' :=
  V.In.from (fun a ha hlt => World.cell?_of_block (hg.block _ hlt (by intro e; cases e; omega))) hf h

theorem V.In.set {B : Nat} {w : World} {g o : Nat} {u : Value} (hB : g < B) {v : V} (hf : v.From B) (h : v.In w) : v.In (w.setCell ⟨g, o, none⟩ u) :=
  V.In.from (fun a ha _ => World.cell?_of_block (by simp [World.setCell, Array.getElem?_modify]; intro e; omega)) hf h
end Go.Proofs.YtajmdhcknmmbbaaGreatDoor
