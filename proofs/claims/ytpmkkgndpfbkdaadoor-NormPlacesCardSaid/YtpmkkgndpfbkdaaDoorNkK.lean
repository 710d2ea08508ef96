/-
  Children in a row, one by one ('kd_row'); how many the law counts of a list, whether that is beyond.
  Conditions: none.
-/
import Derived.Test.YtpmkkgndpfbkdaaDoorNkL
import Derived.Test.YtpmkkgndpfbkdaaDoorNkU
import Derived.Test.YtpmkkgndpfbkdaaDoorBeyond
import Derived.Test.YtpmkkgndpfbkdaaDoorNkA
namespace Go.Proofs.YtpmkkgndpfbkdaaDoor
set_option linter.unusedVariables false
set_option linter.unusedSimpArgs false
open Go.RowKit Go.Deep Go.WideShapes

/-- The cells of children, one behind the other. -/
theorem fm_get : ∀ (cs : List C), (∀ c ∈ cs, c.cells.length = 11) → ∀ (j : Nat) (hj : j < cs.length) (q : Nat), q < 11 → (cs.flatMap C.cells)[j * 11 + q]? = (cs[j]).cells[q]?
  | [], _, j, hj, _, _ => absurd hj (by simp)
  | c :: r, h, 0, _, q, hq => by
    rw [List.flatMap_cons, Nat.zero_mul, Nat.zero_add, List.getElem?_append_left (by rw [h c (List.mem_cons_self ..)]; exact hq)]
    rfl
  | c :: r, h, j + 1, hj, q, hq => by
    have h0 := h c (List.mem_cons_self ..)
    rw [List.flatMap_cons, List.getElem?_append_right (by rw [h0]; omega), h0, show (j + 1) * 11 + q - 11 = j * 11 + q by omega, fm_get r (fun d hd => h d (List.mem_cons_of_mem _ hd)) j (by simpa using hj) q hq]
    rfl
theorem c_len {w : World} {c : C} (h : c.val.In w) : c.cells.length = 11 := by
  simp [C.cells, in_cells h]
/-- What Kids hands back, child by child. -/
structure KRow (w : World) (a : Option Addr) (cs : List C) : Prop where
  at' : ∀ (j : Nat) (hj : j < cs.length), ∃ g, a = some ⟨g, 0, none⟩ ∧ At w g (j * 11) (cs[j]).cells
  vals : ∀ c ∈ cs, c.val.In w
theorem KRow.below {w w' : World} {a : Option Addr} {cs : List C} (h : KRow w a cs) (hb : Below w.heap.size w w') : KRow w' a cs :=
  ⟨fun j hj => let ⟨g, e, ha⟩ := h.at' j hj; ⟨g, e, ha.below hb⟩, fun c hc => (h.vals c hc).below hb⟩
theorem kd_row {w W : World} {vs : List V} {u : Value} {cs : List C} (h : KidsPost w vs u cs W) : ∃ a cap, u = .slice a cs.length cap ∧ KRow W a cs ∧ cs.length ≤ cap ∧ cap ≤ maxLen := by
  rcases Nat.eq_zero_or_pos cs.length with h0 | h0
  · rcases h.row.2 with ⟨e, _⟩ | ⟨g, cap, cur, e, _, _, h1, h2, _⟩
    · exact ⟨none, 0, by rw [h0]; exact e, ⟨fun j hj => absurd hj (by omega), h.vals⟩, by omega, by decide⟩
    · exact ⟨_, cap, e, ⟨fun j hj => absurd hj (by omega), h.vals⟩, h1, h2⟩
  · obtain ⟨g, cap, e, hat, h1, h2, -⟩ := row_open h.row h0
    refine ⟨_, cap, e, ⟨fun j hj => ⟨g, rfl, fun q hq => ?_⟩, h.vals⟩, h1, h2⟩
    have h11 : ∀ c ∈ cs, c.cells.length = 11 := fun c hc => c_len (h.vals c hc)
    have hq' : q < 11 := by rw [h11 _ (List.getElem_mem hj)] at hq; exact hq
    have := fm_get cs h11 j hj q hq'
    have hlt : j * 11 + q < (cs.flatMap C.cells).length := by
      rw [h.row.1]
      omega
    have h3 := hat (j * 11 + q) hlt
    rw [Nat.zero_add] at h3
    rw [h3, this]

/-- How much the law counts of a list. -/
theorem vs_size {w : World} {la : Option Addr} {ll lc : Nat} {L : Nat → V} (h : Lst w la ll lc L) : Calls Tryd.prog 7 #[.slice la ll lc] w (AnyI w) :=
  valuesSize_any la ll lc L (fun i _ => valueSize_any (L i)) w h.cap h.els
/-- Is one number beyond? Some Boolean. -/
theorem beyond_one (x : Int) (hx : -9223372036854775808 ≤ x ∧ x ≤ 9223372036854775807) (w : World) : Calls Tryd.prog 6 #[.slice (some ⟨w.heap.size, 0, none⟩) 1 1] (w.alloc (.cells #[.int .i64 x] 3)) fun e w' => (∃ q : Bool, e = .returned (.bool q)) ∧ Below (w.alloc (.cells #[.int .i64 x] 3)).heap.size (w.alloc (.cells #[.int .i64 x] 3)) w' := by
  have := beyond_is (w.alloc (.cells #[.int .i64 x] 3)) w.heap.size 0 1 1 (fun _ => x) (by decide) (fun j hj => by
    obtain rfl : j = 0 := by omega
    exact World.cell?_alloc_new (w := w) #[.int .i64 x] 3 0) (fun _ => hx)
  refine this.mono fun e w' h => ⟨⟨_, h.1⟩, ?_⟩
  rw [← h.2]
  exact Below.refl _ _
end Go.Proofs.YtpmkkgndpfbkdaaDoor
