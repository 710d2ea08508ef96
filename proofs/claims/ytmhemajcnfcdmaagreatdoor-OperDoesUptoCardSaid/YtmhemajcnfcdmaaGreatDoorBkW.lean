/-
  Walks: strconv.Itoa and the book's word, for any number.
  Conditions: the three tables hold what the program's text lays in them.
-/
import Derived.Test.YtmhemajcnfcdmaaGreatDoorOMa
import Derived.Test.YtmhemajcnfcdmaaGreatDoorShelf
import Derived.Lib.AppendIntMem
namespace Go.Proofs.YtmhemajcnfcdmaaGreatDoor.Bk
set_option linter.unusedVariables false
set_option linter.unusedSimpArgs false
open Go.RowKit
def PT (w : World) : Prop := Lib.TabIs Tryz.prog w "internal/strconv.uint64pow10" .u64 Lib.pow10Tab
theorem PT.below {w w' : World} (h : PT w) (hb : Below w.heap.size w w') : PT w' := by
  unfold PT at h ⊢
  have hg : Tryz.prog.globalNamed "internal/strconv.uint64pow10" = some 2 := by kernel_rfl
  have hlt : 2 < w.heap.size := by
    rcases Nat.lt_or_ge 2 w.heap.size with h' | h'
    · exact h'
    · simp [Lib.TabIs, World.var?, hg, Array.getElem?_eq_none h'] at h
  exact var?_below hb hg hlt h
theorem below_step {w a b : World} (h : Below w.heap.size w a) (k : Below a.heap.size a b) : Below w.heap.size w b := h.trans (k.mono h.size)
theorem putL_lower {g a : Nat} : ∀ (cs : List Value) (W : World) (o : Nat), a < o → (putL W g o cs).cell? ⟨g, a, none⟩ = W.cell? ⟨g, a, none⟩
  | [], _, _, _ => rfl
  | c :: cs, W, o, h => by
    rw [putL, putL_lower cs _ _ (by omega), World.cell?_setCell_other _ _ _ _ (fun e => by have := congrArg (fun x : Addr => x.off) e; simp at this; omega)]
theorem putL_get {g : Nat} : ∀ (cs : List Value) (W : World) (o : Nat), (∀ j, j < cs.length → ∃ v, W.cell? ⟨g, o + j, none⟩ = some v) → ∀ j, j < cs.length → (putL W g o cs).cell? ⟨g, o + j, none⟩ = cs[j]?
  | [], _, _, _, j, hj => absurd hj (Nat.not_lt_zero _)
  | c :: cs, W, o, h, j, hj => by
    rw [putL]
    match j, hj with
    | 0, _ =>
      obtain ⟨v, hv⟩ := h 0 (by simp)
      rw [putL_lower cs _ _ (by omega)]
      exact World.cell?_setCell_same _ _ _ hv
    | j + 1, hj =>
      have := putL_get cs (W.setCell ⟨g, o, none⟩ c) (o + 1) (fun q hq => by
        obtain ⟨v, hv⟩ := h (q + 1) (by simpa using hq)
        refine ⟨v, ?_⟩
        rw [World.cell?_setCell_other _ _ _ _ (fun e => by have := congrArg (fun x : Addr => x.off) e; simp at this; omega), ← hv, show o + 1 + q = o + (q + 1) by omega]) j (by simpa using hj)
      rw [show o + (j + 1) = o + 1 + j by omega, this]
      rfl
theorem putL_low {B g : Nat} {w : World} (hB : B ≤ g) : ∀ (cs : List Value) (W : World) (o : Nat), Below B w W → Below B w (putL W g o cs)
  | [], _, _, h => h
  | c :: cs, W, o, h => putL_low hB cs _ _ (h.setCell (p := ⟨g, o, none⟩) hB c)
set_option maxHeartbeats 1000000 in
theorem itoa_any (n : Int) (hn : -9223372036854775808 ≤ n ∧ n ≤ 9223372036854775807) (w : World) (ht : PT w) : Calls Tryz.prog 173 #[.int .i64 n] w fun e w' => e = .returned (.string ⟨(Lib.itoa n).toArray⟩) ∧ Below w.heap.size w w' := by
  have HI := Lib.hid (Tryz.internal_strconv_Itoa n hn.1 hn.2 w ht)
  go_enter Tryz.func173, Tryz.ntmps173
  go_wp2_with (go_at_call 194; (with_reducible refine HI.out.mono ?_); rintro x w1 ⟨rfl, k, os, rfl⟩)
  go_ret
  exact ⟨rfl, Lib.below_grow _ _ (Nat.le_refl _) _ _⟩
set_option maxHeartbeats 1000000 in
theorem word_any (n : Int) (hn : -9223372036854775808 ≤ n ∧ n ≤ 9223372036854775807) (w : World) (ht : PT w) : Calls Tryz.prog 155 #[.int .i64 n] w fun e w' => e = .returned (.string (wordB n)) ∧ Below w.heap.size w w' := by
  have HI := Lib.hid (itoa_any n hn w ht)
  have hl := Lib.itoa_length_le n hn.1 hn.2
  have hl2 : ¬ 9223372036854775807 < 1 + (Lib.itoa n).length := by omega
  go_enter Tryz.func155, Tryz.ntmps155
  go_wp2_with (go_at_call 173; (with_reducible refine HI.out.mono ?_); rintro x w1 ⟨rfl, hb⟩)
  go_ret
  exact ⟨rfl, hb⟩
end Go.Proofs.YtmhemajcnfcdmaaGreatDoor.Bk
