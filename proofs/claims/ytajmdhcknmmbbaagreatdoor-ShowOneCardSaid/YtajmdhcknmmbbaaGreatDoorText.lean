/-
  Walks: value.Text answers 'V.text'; old memory is as it was.
  Conditions: the value lies in memory; the three tables hold what the program's text lays in them.
-/
import Derived.Test.YtajmdhcknmmbbaaGreatDoorStr
import Derived.Test.YtajmdhcknmmbbaaGreatDoorShape
import Derived.Test.YtajmdhcknmmbbaaGreatDoorCheck
namespace Go.Proofs.YtajmdhcknmmbbaaGreatDoor
open Go.RowKit

theorem shaped_good : ∀ v : V, v.shaped → v.good := by
  intro v
  induction v with
  | leaf => exact fun h => h.elim
  | mk k n s la ll lc L fa fl fc fn F e key hk ihL ihF =>
    rintro ⟨ho, hL, hF⟩
    exact ⟨fun h6 => elem_range ((row_lt (inLim_of ho).2.2.1).2 h6), fun i hi => ihL i (hL i hi), fun i hi => ihF i (hF i hi)⟩

theorem In_kind {w : World} {v : V} (h : v.In w) : ∀ k n s la ll lc L fa fl fc fn F e key hk, v = .mk k n s la ll lc L fa fl fc fn F e key hk → 0 ≤ k := by
  rintro k n s la ll lc L fa fl fc fn F e key hk rfl
  exact h.1.1

theorem told_short {w : World} {v : V} (h : v.In w) (hc : v.check = true) : ([] : List UInt8).length + v.told.length ≤ 140737488355328 := by
  obtain ⟨h1, h2, -⟩ := (check_iff v).1 hc
  have := told_length v h1 h.nums
  simp only [List.length_nil]
  omega

theorem WordsAt.below {w w' : World} (h : WordsAt w) (hb : Below w.heap.size w w') : WordsAt w' := by
  intro e he
  have h0 := h e he
  rw [hb.cell (p := ⟨0, e, none⟩) (World.block_lt_of_cell? _ _ h0), h0]

/-- The builder's first bytes: none. -/
theorem isT_new {w W : World} (h : W.heap[w.heap.size]? = some (.cells #[.pointer none, .slice none 0 0] 242 (0, 0))) (hs : w.heap.size + 2 < W.heap.size) : IsT w.heap.size [] W :=
  ⟨.inl ⟨_, h, rfl, .inl ⟨rfl, rfl⟩⟩, hs⟩

theorem tab_below {w w' : World} (h : Lib.TabIs Tryz.prog w "internal/strconv.uint64pow10" .u64 Lib.pow10Tab) (hb : Below w.heap.size w w') : Lib.TabIs Tryz.prog w' "internal/strconv.uint64pow10" .u64 Lib.pow10Tab := by
  have hg : Tryz.prog.globalNamed "internal/strconv.uint64pow10" = some 2 := by kernel_rfl
  have hlt : 2 < w.heap.size := by
    rcases Nat.lt_or_ge 2 w.heap.size with h' | h'
    · exact h'
    · simp [Lib.TabIs, World.var?, hg, Array.getElem?_eq_none h'] at h
  exact var?_below hb hg hlt h

theorem tell_world (w : World) : TE w.heap.size w (((w.alloc (.cells #[.pointer none, .slice none 0 0] 242)).alloc (.cells #[.pointer (some ⟨w.heap.size, 0, none⟩)] 241)).alloc
      (.cells #[.func (Fn.func 185) #[] #[.pointer (some ⟨w.heap.size + 1, 0, none⟩), .pointer (some ⟨w.heap.size + 1 + 1, 0, none⟩)]] 243)) ∧
    IsT w.heap.size [] (((w.alloc (.cells #[.pointer none, .slice none 0 0] 242)).alloc (.cells #[.pointer (some ⟨w.heap.size, 0, none⟩)] 241)).alloc
      (.cells #[.func (Fn.func 185) #[] #[.pointer (some ⟨w.heap.size + 1, 0, none⟩), .pointer (some ⟨w.heap.size + 1 + 1, 0, none⟩)]] 243)) := by
  refine ⟨⟨rfl, ?_, ?_, ?_⟩, isT_new ?_ ?_⟩
  · refine Below.alloc (Below.alloc (Below.alloc (Below.refl _ _) ?_ _) ?_ _) ?_ _ <;> simp <;> omega
  · show (((w.heap.push _).push _).push _)[w.heap.size + 1]? = _
    rw [Array.getElem?_push, if_neg (by simp), Array.getElem?_push, if_pos (by simp)]
  · show (((w.heap.push _).push _).push _)[w.heap.size + 2]? = _
    rw [Array.getElem?_push, if_pos (by simp)]
    rfl
  · show (((w.heap.push _).push _).push _)[w.heap.size]? = _
    simp [Array.getElem?_push]
    omega
  · simp

set_option maxHeartbeats 1000000 in
theorem text_any (v : V) (w : World) (h : v.In w) (hr : RowsAt w) (hwd : WordsAt w) (htb : Lib.TabIs Tryz.prog w "internal/strconv.uint64pow10" .u64 Lib.pow10Tab) :
    Calls Tryz.prog 168 #[v.agg] w fun x w' => x = .returned (.string v.text) ∧ Below w.heap.size w w' := by
  have hal := fun O => below_alloc w O
  have HC := Lib.hid (fun T => check_any v (w.alloc (.cells v.cells.toArray T)) (h.below (hal _)) (hr.below (hal _)))
  by_cases hc : v.check = true
  · have HT := Lib.hid (fun T (w1 W : World) (hb : Below (w.alloc (.cells v.cells.toArray T)).heap.size (w.alloc (.cells v.cells.toArray T)) w1) (hte : TE w1.heap.size w1 W) (ht : IsT w1.heap.size [] W) =>
      have hb1 := (hal (.cells v.cells.toArray T)).trans (hb.mono (hal _).size)
      tell_any v w1 W w1.heap.size w.heap.size 0 [] (h.below hb1) (at_new' rfl (by simpa using hb)) (hwd.below hb1) (tab_below htb hb1) hte ht (told_short h hc) (shaped_good v ((check_iff v).1 hc).1))
    have HS := Lib.hid (fun (B : Nat) (W : World) (ht : IsT B v.told W) => string_any B v.told W ht (told_ne ((check_iff v).1 hc).1 (In_kind h)))
    have HV := Lib.hid (show v.text = ⟨v.told.toArray⟩ by rw [V.text, if_pos hc])
    rw [HV.out]
    rw [hc] at HC
    clear HV
    cases v with
    | leaf => exact h.elim
    | mk k n s la ll lc L fa fl fc fn F e key hk =>
    clear h hr hwd htb hal hc
    revert HC HT HS
    generalize (V.mk k n s la ll lc L fa fl fc fn F e key hk).told = q
    intro HC HT HS
    simp only [V.agg, V.cells] at HC HT ⊢
    go_enter Tryz.func168, Tryz.ntmps168
    go_wp2_with fail
    refine (HC.out _).mono ?_
    rintro x w1 ⟨rfl, hb1⟩
    have HB1 := Lib.hid hb1
    clear hb1
    go_wp2_with fail
    refine (HT.out _ w1 _ HB1.out (tell_world w1).1 (tell_world w1).2).mono ?_
    rintro x w2 ⟨rfl, hw2⟩
    have HW2 := Lib.hid hw2
    have c4 : w2.cell? ⟨w1.heap.size + 1, 0, none⟩ = some (.pointer (some ⟨w1.heap.size, 0, none⟩)) := by
      rw [Lib.cell_of_heap (hw2.2.2.1.trans (tell_world w1).1.t)]; rfl
    clear hw2
    go_wp2_with fail
    refine (HS.out _ _ HW2.out.1).mono ?_
    rintro x w3 ⟨rfl, hw3⟩
    have HW3 := Lib.hid hw3
    clear hw3
    go_wp2_with fail
    go_ret
    refine ⟨rfl, ?_⟩
    have hb1 := HB1.out
    have hs1 := hb1.size
    simp at hs1
    have hA : Below w.heap.size w w1 := (below_alloc w _).trans (hb1.mono (by simp))
    have hB : Below w1.heap.size w1 w2 := (tell_world w1).1.below.trans HW2.out.2.1
    exact (hA.trans (hB.mono (by omega))).trans (HW3.out.mono (by omega))
  · have HV := Lib.hid (show v.text = ⟨#[]⟩ by rw [V.text, if_neg hc])
    rw [HV.out]
    rw [Bool.not_eq_true] at hc
    rw [hc] at HC
    clear HV
    cases v with
    | leaf => exact h.elim
    | mk k n s la ll lc L fa fl fc fn F e key hk =>
    clear h hr hwd htb hal hc
    simp only [V.agg, V.cells] at HC ⊢
    go_enter Tryz.func168, Tryz.ntmps168
    go_wp2_with fail
    refine (HC.out _).mono ?_
    rintro x w1 ⟨rfl, hb1⟩
    have HB1 := Lib.hid hb1
    clear hb1
    go_wp2_with fail
    go_ret
    exact ⟨rfl, (below_alloc w _).trans (HB1.out.mono (by simp))⟩
end Go.Proofs.YtajmdhcknmmbbaaGreatDoor
