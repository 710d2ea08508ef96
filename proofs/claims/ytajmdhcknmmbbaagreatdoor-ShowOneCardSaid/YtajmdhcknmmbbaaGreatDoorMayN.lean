/-
  Walks: the closure in value.Check answers 'V.may' and leaves its count; old memory is as it was. This text: the notions.
  Conditions: the value lies in memory; the table of the kinds' rows holds what the program's text lays in it.
-/
import Derived.Test.YtajmdhcknmmbbaaGreatDoorMayP
import Derived.Test.YtajmdhcknmmbbaaGreatDoorInRowA
import Derived.Test.YtajmdhcknmmbbaaGreatDoorInRowB
import Derived.StillTailTactics
namespace Go.Proofs.YtajmdhcknmmbbaaGreatDoor
open Go.RowKit

/-- The count and the closure, in the two blocks from B on. -/
structure CS (B : Nat) (left : Int) (w : World) : Prop where
  size : B + 1 < w.heap.size
  cnt : w.cell? ⟨B, 0, none⟩ = some (.int .i64 left)
  frz : w.frozen? ⟨B, 0, none⟩ = false
  clo : w.cell? ⟨B + 1, 0, none⟩ = some (.func (Fn.func 203) #[] #[.pointer (some ⟨B, 0, none⟩), .pointer (some ⟨B + 1, 0, none⟩)])

theorem CS.below {B : Nat} {left : Int} {w w' : World} (h : CS B left w) (hb : Below w.heap.size w w') : CS B left w' := by
  have := h.size
  have := hb.size
  obtain ⟨e, f⟩ := bcell hb
  exact ⟨by omega, by rw [e _ _ (by omega), h.cnt], by rw [f _ _ (by omega), h.frz], by rw [e _ _ (by omega), h.clo]⟩

theorem CS.set {B : Nat} {left : Int} {w : World} (h : CS B left w) (x : Int) : CS B x (w.setCell ⟨B, 0, none⟩ (.int .i64 x)) := by
  refine ⟨by simpa [World.setCell] using h.size, ?_, ?_, ?_⟩
  · exact World.cell?_setCell_same _ _ _ h.cnt
  · simpa using h.frz
  · rw [World.cell?_setCell_other _ _ _ _ (by simp)]
    exact h.clo

theorem RowsAt.below {w w' : World} (h : RowsAt w) (hb : Below w.heap.size w w') : RowsAt w' := fun i hi => by
  have e := h i hi
  rw [(bcell hb).1 _ _ (World.block_lt_of_cell? _ _ e), e]

def MayPost (w0 : World) (v : V) (deep left : Int) (x : Ending) (w' : World) : Prop := x = .returned (.bool (v.may deep left).1) ∧ Below w0.heap.size w0 w' ∧ CS w0.heap.size (v.may deep left).2 w'

theorem mayPost_of {w0 : World} {v : V} {deep left : Int} {x : Ending} {w' : World} (h : MayPost w0 v deep left x w') {r : Bool} (hr : (v.may deep left).1 = r) : x = .returned (.bool r) ∧ Below w0.heap.size w0 w' ∧ CS w0.heap.size (v.may deep left).2 w' := by
  obtain ⟨h1, h2, h3⟩ := h
  rw [hr] at h1
  exact ⟨h1, h2, h3⟩

/-- At a round's head: all ahead answered yes; so much is left. -/
def MS (w0 : World) (a : Bool × Int) (w : World) : Prop := a.1 = true ∧ (0 ≤ a.2 ∧ a.2 ≤ 4096) ∧ Below w0.heap.size w0 w ∧ CS w0.heap.size a.2 w

theorem At.tail {w : World} {b o : Nat} {x : Value} {cs : List Value} (h : At w b o (x :: cs)) : At w b (o + 1) cs := by
  intro i hi
  have := h (i + 1) (by simpa using hi)
  rw [show o + 1 + i = o + (i + 1) by omega, this]
  rfl

def MayOk (v : V) : Prop := ∀ (w0 w : World) (b o : Nat) (deep left : Int), v.In w0 → At w0 b o v.cells → RowsAt w0 → Below w0.heap.size w0 w → CS w0.heap.size left w → (0 ≤ left ∧ left ≤ 4096) → (1 ≤ deep ∧ deep ≤ 65) →
  Calls Tryz.prog 203 #[.pointer (some ⟨b, o, none⟩), .int .i64 deep, .pointer (some ⟨w0.heap.size, 0, none⟩), .pointer (some ⟨w0.heap.size + 1, 0, none⟩)] w (MayPost w0 v deep left)

theorem namesAt_of {w : World} {k n : Int} {s : ByteArray} {la : Option Addr} {ll lc : Nat} {L : Nat → V} {fa : Option Addr} {fl fc : Nat} {fn : Nat → ByteArray} {F : Nat → V} {e : Int} {key : ByteArray} {hk : Bool}
    (h : (V.mk k n s la ll lc L fa fl fc fn F e key hk).In w) : NamesAt w fa fl fc fn := by
  obtain ⟨-, -, -, -, -, -, hf1, -, hF⟩ := h
  exact ⟨hf1, fun i hi => ⟨let ⟨b, o, e1, ha⟩ := (hF i hi).1; ⟨b, o, e1, by simpa using ha 0 (by simp)⟩, (hF i hi).2.1⟩⟩

set_option maxHeartbeats 400000 in
theorem inRow_8 (w : World) (b o : Nat) (k n : Int) (s : ByteArray) (la : Option Addr) (ll lc : Nat) (L : Nat → V) (fa : Option Addr) (fl fc : Nat) (fn : Nat → ByteArray) (F : Nat → V) (e : Int) (key : ByteArray) (hk : Bool)
    (h : At w b o (V.mk k n s la ll lc L fa fl fc fn F e key hk).cells) (h8 : 8 ≤ k ∧ k ≤ 255) :
    Calls Tryz.prog 204 #[.pointer (some ⟨b, o, none⟩)] w fun x w' => x = .returned (.bool (inRowB k n s ll fl fn e key hk)) ∧ Below w.heap.size w w' := by
  obtain ⟨c0, -, -, -, -, -, -, -⟩ := at8 h
  have R := Lib.hid (show Ending.returned (.bool false) = .returned (.bool (inRowB k n s ll fl fn e key hk)) by
    have h9 : ¬ k < 8 := by omega
    simp [inRowB, h9])
  clear h
  go_enter Tryz.func204, Tryz.ntmps204
  go_wp2_with fail
  go_ret
  exact ⟨R.out, Below.refl _ _⟩

theorem inRow_any (w : World) (b o : Nat) (k n : Int) (s : ByteArray) (la : Option Addr) (ll lc : Nat) (L : Nat → V) (fa : Option Addr) (fl fc : Nat) (fn : Nat → ByteArray) (F : Nat → V) (e : Int) (key : ByteArray) (hk : Bool)
    (h : At w b o (V.mk k n s la ll lc L fa fl fc fn F e key hk).cells) (hr : RowsAt w) (hin : (V.mk k n s la ll lc L fa fl fc fn F e key hk).In w) :
    Calls Tryz.prog 204 #[.pointer (some ⟨b, o, none⟩)] w fun x w' => x = .returned (.bool (inRowB k n s ll fl fn e key hk)) ∧ Below w.heap.size w w' := by
  have hn := namesAt_of hin
  obtain ⟨hk1, -, -, -, -, hl1, -, -, -⟩ := hin
  have hl := Nat.le_trans hl1.1 hl1.2
  have hk8 : k = 0 ∨ k = 1 ∨ k = 2 ∨ k = 3 ∨ k = 4 ∨ k = 5 ∨ k = 6 ∨ k = 7 ∨ 8 ≤ k := by omega
  rcases hk8 with rfl | rfl | rfl | rfl | rfl | rfl | rfl | rfl | h8
  · exact inRow_0 w b o n s la ll lc L fa fl fc fn F e key hk h hr hl hn
  · exact inRow_1 w b o n s la ll lc L fa fl fc fn F e key hk h hr hl hn
  · exact inRow_2 w b o n s la ll lc L fa fl fc fn F e key hk h hr hl hn
  · exact inRow_3 w b o n s la ll lc L fa fl fc fn F e key hk h hr hl hn
  · exact inRow_4 w b o n s la ll lc L fa fl fc fn F e key hk h hr hl hn
  · exact inRow_5 w b o n s la ll lc L fa fl fc fn F e key hk h hr hl hn
  · exact inRow_6 w b o n s la ll lc L fa fl fc fn F e key hk h hr hl hn
  · exact inRow_7 w b o n s la ll lc L fa fl fc fn F e key hk h hr hl hn
  · exact inRow_8 w b o k n s la ll lc L fa fl fc fn F e key hk h ⟨h8, hk1.2⟩

theorem rising_of (fa : Option Addr) (fl fc : Nat) (fn : Nat → ByteArray) (w w' : World) (h : NamesAt w fa fl fc fn) (hb : Below w.heap.size w w') :
    Calls Tryz.prog 206 #[.slice fa fl fc] w' fun x w'' => x = .returned (.bool (risingB fl fn)) ∧ w' = w'' :=
  rising_any fa fl fc fn w' h.1 (h.below hb).2
end Go.Proofs.YtajmdhcknmmbbaaGreatDoor
