/-
  Walks: child of the laws on matching; two numbers held against what is counted.
  Conditions: what is looked at lies in memory.
-/
import Derived.Test.YtpmkkgndpfbkdaaDoorMaT
import Derived.Test.YtpmkkgndpfbkdaaDoorBeyond
namespace Go.Proofs.YtpmkkgndpfbkdaaDoor
set_option linter.unusedVariables false
set_option linter.unusedSimpArgs false
open Go.RowKit Go.Deep Go.WideShapes

/-- A value of nothing. -/
def zvh : V := .mk 0 0 ⟨#[]⟩ none 0 0 (fun _ => .leaf) none 0 0 (fun _ => ⟨#[]⟩) (fun _ => .leaf) 0 ⟨#[]⟩ false
theorem zvh_in (w : World) : zvh.In w := by
  have h : (⟨#[]⟩ : ByteArray).size ≤ maxLen := Nat.zero_le _
  have h0 : (0 : Nat) ≤ maxLen := Nat.zero_le _
  exact ⟨⟨by decide, by decide⟩, ⟨by decide, by decide⟩, h, ⟨by decide, by decide⟩, h, ⟨Nat.le_refl _, h0⟩, ⟨Nat.le_refl _, h0⟩, fun i hi => absurd hi (Nat.not_lt_zero _), fun i hi => absurd hi (Nat.not_lt_zero _)⟩
def zch (key : ByteArray) (k : Int) : C := ⟨key, k, ⟨#[]⟩, zvh⟩
theorem chi8_any (key : ByteArray) (k : Int) (w : World) : Calls Tryd.prog 19 #[.string key, .int .u8 k] w fun e w' => e = .returned (zch key k).agg ∧ Below w.heap.size w w' := by
  have hlow : Hid (∀ (O : Obj), Below w.heap.size w (w.alloc O)) := fun O => below_alloc w O
  simp only [C.agg, C.cells, zch, zvh, V.cells]
  go_enter Tryd.func19, Tryd.ntmps19
  go_wp2_with fail
  refine bodyPost_ret (v := .agg #[.string key, .int .u8 k, .string ⟨#[]⟩, .int .u8 0, .int .i64 0, .string ⟨#[]⟩, .slice none 0 0, .slice none 0 0, .int .u8 0, .string ⟨#[]⟩, .bool false]) (by simp [results, Tryd.results19, go_sem]) rfl ?_
  exact ⟨rfl, hlow.out _⟩

/-- Are two numbers beyond? Some Boolean. -/
theorem beyond_two (x y : Int) (hx : -9223372036854775808 ≤ x ∧ x ≤ 9223372036854775807) (hy : -9223372036854775808 ≤ y ∧ y ≤ 9223372036854775807) (w : World) : Calls Tryd.prog 6 #[.slice (some ⟨w.heap.size, 0, none⟩) 2 2] (w.alloc (.cells #[.int .i64 x, .int .i64 y] 3)) fun e w' => (∃ q : Bool, e = .returned (.bool q)) ∧ Below (w.alloc (.cells #[.int .i64 x, .int .i64 y] 3)).heap.size (w.alloc (.cells #[.int .i64 x, .int .i64 y] 3)) w' := by
  have := beyond_is (w.alloc (.cells #[.int .i64 x, .int .i64 y] 3)) w.heap.size 0 2 2 (fun i => if i = 0 then x else y) (by decide) (fun j hj => by
    match j, hj with
    | 0, _ => exact World.cell?_alloc_new (w := w) #[.int .i64 x, .int .i64 y] 3 0
    | 1, _ => exact World.cell?_alloc_new (w := w) #[.int .i64 x, .int .i64 y] 3 1) (fun i => by split <;> assumption)
  refine this.mono fun e w' h => ⟨⟨_, h.1⟩, ?_⟩
  rw [← h.2]
  exact Below.refl _ _

/-- Some Boolean; P where it is b. -/
def QPost (w : World) (b : Bool) (P : Prop) (x : Ending) (w' : World) : Prop := ∃ q : Bool, x = .returned (.bool q) ∧ (q = b → P) ∧ Below w.heap.size w w'
end Go.Proofs.YtpmkkgndpfbkdaaDoor
