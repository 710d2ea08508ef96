/-
  Walks: a builder of texts in a block of its own: copyCheck, WriteByte, Len, String.
  Conditions: the builder lies in block B; its row of bytes in a block from B + 2 on; so many bytes as Go lets a row have.
-/
import Derived.Test.YtedmmgfnplbkjaaGreatDoorLexA
import Derived.Test.YtedmmgfnplbkjaaGreatDoorShelf
import Derived.Lib.Builder
import Derived.Lib.AppendStr
import Derived.Lib.UnsafeStr
import Derived.Lib.Walk
import Derived.Lib.Slices
import Derived.Laws.Externs
import Derived.RegionTactic
import Derived.ChangeAlike
namespace Go.Proofs.YtedmmgfnplbkjaaGreatDoor
open Go.RowKit
def BAt (B : Nat) (p : Value) (bs : List Value) (w : World) : Prop :=
  ∃ v, w.heap[B]? = some (.cells #[p, v] 69 (0, 0)) ∧ w.ownsRow (B + 2) 5 1 v bs.length bs
def IsB (B : Nat) (bs : List Value) (w : World) : Prop := BAt B (.pointer none) bs w ∨ BAt B (.pointer (some ⟨B, 0, none⟩)) bs w
def Fr (B : Nat) (w w' : World) : Prop := Below B w w' ∧ w'.heap[B + 1]? = w.heap[B + 1]?
theorem Fr.refl (B : Nat) (w : World) : Fr B w w := ⟨Below.refl _ _, rfl⟩
theorem Fr.trans {B : Nat} {a b c : World} (h : Fr B a b) (k : Fr B b c) : Fr B a c := ⟨h.1.trans k.1, k.2.trans h.2⟩
theorem BAt.lt {B : Nat} {p : Value} {bs : List Value} {w : World} (h : BAt B p bs w) : B < w.heap.size := by
  obtain ⟨v, hb, -⟩ := h
  rcases Nat.lt_or_ge B w.heap.size with h' | h'
  · exact h'
  · simp [Array.getElem?_eq_none h'] at hb
theorem BAt.cell0 {B : Nat} {p : Value} {bs : List Value} {w : World} (h : BAt B p bs w) : w.cell? ⟨B, 0, none⟩ = some p := by
  obtain ⟨v, hb, -⟩ := h
  rw [Lib.cell_of_heap hb]; rfl
theorem BAt.frozen0 {B : Nat} {p : Value} {bs : List Value} {w : World} (h : BAt B p bs w) : w.frozen? ⟨B, 0, none⟩ = false := by
  obtain ⟨v, hb, -⟩ := h
  exact Lib.frozen_of_heap hb 0
theorem BAt.shape {B : Nat} {p : Value} {bs : List Value} {w : World} (h : BAt B p bs w) : w.shape? B = some (69, 2) := by
  obtain ⟨v, hb, -⟩ := h
  simp [World.shape?, hb]
theorem ownsRow_set {B : Nat} {v : Value} {n : Nat} {xs : List Value} {w : World} {q : Nat} {u : Value} (h : w.ownsRow (B + 2) 5 1 v n xs) : (w.setCell ⟨B, q, none⟩ u).ownsRow (B + 2) 5 1 v n xs :=
  ownsRow_setCell_below h (by show B < B + 2; omega) u
theorem BAt.used {B : Nat} {p : Value} {bs : List Value} {w : World} (h : BAt B p bs w) (p' : Value) : BAt B p' bs (w.setCell ⟨B, 0, none⟩ p') := by
  obtain ⟨v, hb, ho⟩ := h
  refine ⟨v, ?_, ownsRow_set ho⟩
  simp [World.setCell, Array.getElem?_modify, hb]
theorem BAt.put {B : Nat} {p v v' : Value} {bs' : List Value} {w : World} (hb : w.heap[B]? = some (.cells #[p, v] 69 (0, 0))) (hown : w.ownsRow (B + 2) 5 1 v' bs'.length bs') :
    BAt B p bs' (w.setCell ⟨B, 1, none⟩ v') := by
  refine ⟨v', ?_, ownsRow_set hown⟩
  simp [World.setCell, Array.getElem?_modify, hb]
theorem Fr.set (B q : Nat) (u : Value) (w : World) : Fr B w (w.setCell ⟨B, q, none⟩ u) :=
  ⟨(Below.refl B w).setCell (p := ⟨B, q, none⟩) (Nat.le_refl _) u, Below.heap_setCell _ _ _ _ (by show B + 1 ≠ B; omega)⟩
theorem size_builder : (Tryz.prog.info? 69).map (·.size) = some 2 := by kernel_rfl
theorem lies_builder : liesAt Tryz.prog Tryz.prog.depth 69 (2 / Tryz.prog.cellsOf 69) 0 69 1 = true := by kernel_rfl
theorem info_byte : (Tryz.prog.info? 5).map (fun i => (i.zero, i.size, i.bytes)) = some (some (.int .u8 0), 1, 1) := by kernel_rfl
theorem cells_byte : Tryz.prog.cellsOf 5 = 1 := by kernel_rfl
set_option maxRecDepth 100000 in
set_option maxHeartbeats 1000000 in
theorem copyCheck_used (b : Nat) (w : World) (h0 : w.cell? ⟨b, 0, none⟩ = some (.pointer (some ⟨b, 0, none⟩))) :
    Calls Tryz.prog 159 #[.pointer (some ⟨b, 0, none⟩)] w fun e w' => e = .returned (.tuple #[]) ∧ w = w' := by
  obtain ⟨j, hj, _⟩ := Option.map_eq_some_iff.1 size_builder
  go_enter Tryz.func159, Tryz.ntmps159
  go_wp2
  rw [Lib.run_neq_ptr_same w _ Tryz.underlying66 hj]
  go_wp2
  go_end0
  exact ⟨rfl, rfl⟩
set_option maxRecDepth 100000 in
set_option maxHeartbeats 1000000 in
theorem copyCheck_fresh (b : Nat) (w : World) (h0 : w.cell? ⟨b, 0, none⟩ = some (.pointer none)) (hsh : w.shape? b = some (69, 2)) (hfz : w.frozen? ⟨b, 0, none⟩ = false) :
    Calls Tryz.prog 159 #[.pointer (some ⟨b, 0, none⟩)] w fun e w' => e = .returned (.tuple #[]) ∧ w.setCell ⟨b, 0, none⟩ (.pointer (some ⟨b, 0, none⟩)) = w' := by
  obtain ⟨j, hj, hjs⟩ := Option.map_eq_some_iff.1 size_builder
  go_enter Tryz.func159, Tryz.ntmps159
  go_wp2
  rw [Lib.run_to_unsafe w ⟨b, 0, none⟩ Tryz.underlying66 Tryz.underlying222 hj (by rw [hjs]; decide) hsh (Nat.zero_lt_succ 1)]
  simp only [Result.andThen]
  rw [Oper.upon_value]
  go_wp2
  rw [run_callFunc_extern Tryz.func190 (by kernel_rfl) (by kernel_rfl) (by kernel_rfl) (e := Extern.AbiNoEscape.same) (by kernel_rfl)]
  rw [Lib.run_noEscape]
  simp only [Result.andThen]
  rw [Oper.upon_value]
  go_wp2
  rw [Lib.run_from_unsafe w ⟨b, 0, none⟩ Tryz.underlying222 Tryz.underlying66 hj hsh lies_builder]
  simp only [Result.andThen]
  rw [Oper.upon_value]
  go_wp2
  go_end0
  exact ⟨rfl, rfl⟩
theorem copyCheck_any (B : Nat) (bs : List Value) (w : World) (h : IsB B bs w) :
    Calls Tryz.prog 159 #[.pointer (some ⟨B, 0, none⟩)] w fun e w' => e = .returned (.tuple #[]) ∧ (BAt B (.pointer (some ⟨B, 0, none⟩)) bs w' ∧ Fr B w w') := by
  rcases h with h | h
  · refine (copyCheck_fresh B w h.cell0 h.shape h.frozen0).mono ?_
    rintro e w' ⟨rfl, rfl⟩
    exact ⟨rfl, h.used _, Fr.set _ _ _ _⟩
  · refine (copyCheck_used B w h.cell0).mono ?_
    rintro e w' ⟨rfl, rfl⟩
    exact ⟨rfl, h, Fr.refl _ _⟩
theorem Fr.grown {B : Nat} {w w' : World} {v : Value} {n : Nat} {xs : List Value} (hg : w.grownBy w' v.ownBlock) (ho : w.ownsRow (B + 2) 5 1 v n xs) (hB : B + 1 < w.heap.size) : Fr B w w' := by
  have hr : ∀ k, v.ownBlock = some k → B + 2 ≤ k := fun k hk => (ho.lt k hk).1
  refine ⟨(Below.refl B w).grown hg (by omega) (fun k hk => by have := hr k hk; omega), ?_⟩
  exact hg.block (B + 1) (by omega) (fun e => by have := hr _ e.symm; omega)
def IsT (B : Nat) (l : List UInt8) (w : World) : Prop := IsB B (Lib.byteCells l) w ∧ B + 1 < w.heap.size
theorem IsT.fr {B : Nat} {w w' : World} (h : B + 1 < w.heap.size) (hf : Fr B w w') : B + 1 < w'.heap.size := Nat.lt_of_lt_of_le h hf.1.size
def Wrote (B : Nat) (l l' : List UInt8) (w w' : World) : Prop := IsT B (l ++ l') w' ∧ Fr B w w'
set_option maxRecDepth 100000 in
set_option maxHeartbeats 2000000 in
theorem writeByte_any (B : Nat) (bs : List Value) (c : Int) (w : World) (h : IsB B bs w) (hlen : bs.length + 1 ≤ 140737488355328) (hBw : B + 1 < w.heap.size) :
    Calls Tryz.prog 101 #[.pointer (some ⟨B, 0, none⟩), .int .u8 c] w fun e w' => e = .returned .nilIface ∧ (BAt B (.pointer (some ⟨B, 0, none⟩)) (bs ++ [.int .u8 c]) w' ∧ Fr B w w') := by
  obtain ⟨i0, hi, hz0, hz1, hz2⟩ := info_parts info_byte
  go_enter Tryz.func101, Tryz.ntmps101
  go_wp2_with fail
  refine (copyCheck_any B bs _ h).mono ?_
  rintro e w1 ⟨rfl, h1, hf1⟩
  have hs1 := hf1.1.size
  obtain ⟨v, hbk, hown⟩ := h1
  have hlt := BAt.lt ⟨v, hbk, hown⟩
  have c0 : w1.cell? ⟨B, 0, none⟩ = some (.pointer (some ⟨B, 0, none⟩)) := by rw [Lib.cell_of_heap hbk]; rfl
  have c1 : w1.cell? ⟨B, 1, none⟩ = some v := by rw [Lib.cell_of_heap hbk]; rfl
  go_wp2_with (at_builtin; refine wpList_append_own _ rfl _ _ 67 rfl (B + 2) 5 i0 (.int .u8 0) 1 1 Tryz.underlying67 hi hz0 hz1 hz2 rfl (by decide) _ _ _ rfl (hown.alloc _) ⟨w1.heap.size, 0, none⟩ 1 1 [.int .u8 c] rfl rfl ?c1 ?c2 ?c3 ?c4 ?c5 ?_)
  case c1 =>
    intro j u hj
    match j, hj with
    | 0, hj => simp at hj; subst hj; simp [Addr.add]
  case c2 => intro u hu; simp at hu; subst hu; rfl
  case c3 => unfold maxLen; omega
  case c4 => omega
  case c5 => simp; omega
  intro v' w2 hown' hgrow _
  have hfr := (show Fr B w1 (w1.alloc _) from ⟨(Below.refl _ _).alloc (by omega) _, Below.heap_alloc _ _ _ (by omega)⟩).trans (Fr.grown hgrow (hown.alloc _) (by simp; omega))
  have hb2 : w2.heap[B]? = some (.cells #[.pointer (some ⟨B, 0, none⟩), v] 69 (0, 0)) := by
    rw [hgrow.block B (by simp; omega) (fun e => by have := (hown.lt _ e.symm).1; omega), Below.heap_alloc _ _ _ hlt]
    exact hbk
  have d0 : w2.cell? ⟨B, 0, none⟩ = some (.pointer (some ⟨B, 0, none⟩)) := by rw [Lib.cell_of_heap hb2]; rfl
  have d1 : w2.cell? ⟨B, 1, none⟩ = some v := by rw [Lib.cell_of_heap hb2]; rfl
  have f1 : w2.frozen? ⟨B, 1, none⟩ = false := Lib.frozen_of_heap hb2 1
  obtain ⟨g, cap, rfl⟩ : ∃ g cap, v' = .slice (some ⟨g, 0, none⟩) (bs.length + 1) cap := by
    rcases hown'.2 with ⟨_, h0⟩ | ⟨g, cap, cur, hv, _⟩
    · omega
    · exact ⟨g, cap, hv⟩
  go_wp2
  go_ret
  refine ⟨rfl, ?_, ?_⟩
  · exact BAt.put hb2 (bs' := bs ++ [.int .u8 c]) (by simpa using hown')
  · exact (hf1.trans hfr).trans (Fr.set _ _ _ _)
theorem writeB_any (B : Nat) (l : List UInt8) (c : UInt8) (w : World) (h : IsT B l w) (hlen : l.length + 1 ≤ 140737488355328) :
    Calls Tryz.prog 101 #[.pointer (some ⟨B, 0, none⟩), .int .u8 c.toNat] w fun e w' => e = .returned .nilIface ∧ Wrote B l [c] w w' := by
  refine (writeByte_any B (Lib.byteCells l) c.toNat w h.1 (by rw [Lib.byteCells_length]; exact hlen) h.2).mono ?_
  rintro e w' ⟨he, hb, hf⟩
  exact ⟨he, ⟨.inr (by simpa [Lib.byteCells] using hb), IsT.fr h.2 hf⟩, hf⟩
theorem ownsRow_low {B B' : Nat} (hB : B' ≤ B) {v : Value} {n : Nat} {xs : List Value} {w : World} (h : w.ownsRow B 5 1 v n xs) : w.ownsRow B' 5 1 v n xs := by
  refine ⟨h.1, ?_⟩
  rcases h.2 with h | ⟨g, cap, cur, hv, hb, hr⟩
  · exact .inl h
  · exact .inr ⟨g, cap, cur, hv, Nat.le_trans hB hb, hr⟩
theorem IsT.lib {B : Nat} {l : List UInt8} {w : World} (h : IsT B l w) : Lib.IsBuilder 69 5 B B (Lib.byteCells l) w := by
  have key : ∀ p, BAt B p (Lib.byteCells l) w → Lib.BuilderAt 69 5 B B p (Lib.byteCells l) w := by
    rintro p ⟨v, hb, ho⟩
    refine ⟨Nat.le_refl _, v, hb, ownsRow_low (by omega) ho, fun e => ?_⟩
    have := (ho.lt _ e).1
    omega
  rcases h.1 with h | h
  · exact .inl (key _ h)
  · exact .inr (key _ h)
theorem len_any (B : Nat) (l : List UInt8) (w : World) (h : IsT B l w) :
    Calls Tryz.prog 102 #[.pointer (some ⟨B, 0, none⟩)] w fun e w' => e = .returned (.int .i64 l.length) ∧ w = w' := by
  refine (Tryz.Builder_Len B B _ w h.lib).mono ?_
  rintro e w' ⟨rfl, rfl⟩
  rw [Lib.byteCells_length]
  exact ⟨rfl, rfl⟩
theorem string_any (B : Nat) (l : List UInt8) (w : World) (h : IsT B l w) :
    Calls Tryz.prog 30 #[.pointer (some ⟨B, 0, none⟩)] w fun e w' => e = .returned (.string ⟨l.toArray⟩) ∧ Below B w w' :=
  Tryz.Builder_String_any B B l w h.lib (by have := h.2; omega)
theorem IsT.fresh (w : World) (o : Obj) : IsT w.heap.size [] ((w.alloc (.cells #[.pointer none, .slice none 0 0] 69)).alloc o) := by
  refine ⟨.inl ⟨.slice none 0 0, ?_, World.ownsRow_nil _ _ _ _⟩, by simp⟩
  rw [Below.heap_alloc _ _ _ (by simp)]
  exact heap_alloc_new _ _
end Go.Proofs.YtedmmgfnplbkjaaGreatDoor
