/-
  Walks: the builder of texts that lies in the teller: copyCheck, WriteByte, WriteString, String.
  Conditions: the teller lies in block B; its row of bytes in a block from B + 3 on; so many bytes as Go lets a row have.
-/
import Derived.Test.YtajmdhcknmmbbaaGreatDoorSize
import Derived.Lib.Builder
import Derived.Lib.AppendStr
import Derived.Lib.UnsafeStr
import Derived.Lib.Walk
import Derived.Lib.Slices
import Derived.Laws.Externs
import Derived.RegionTactic
import Derived.ChangeAlike
namespace Go.Proofs.YtajmdhcknmmbbaaGreatDoor
open Go.RowKit

/-- A TELLER IN BLOCK B, HOLDING THE BYTES bs: its buffer is nil or a row that it owns, in a block from B + 3 on. 'p': what the builder's 'addr' holds. -/
def BAt (B : Nat) (p : Value) (bs : List Value) (w : World) : Prop :=
  ∃ v, w.heap[B]? = some (.cells #[p, v] 242 (0, 0)) ∧ w.ownsRow (B + 3) 5 1 v bs.length bs

def IsB (B : Nat) (bs : List Value) (w : World) : Prop := BAt B (.pointer none) bs w ∨ BAt B (.pointer (some ⟨B, 0, none⟩)) bs w

/-- WHAT A WRITE LEAVES AS IT WAS: all blocks below B, and the blocks B + 1, B + 2. -/
def Fr (B : Nat) (w w' : World) : Prop := Below B w w' ∧ w'.heap[B + 1]? = w.heap[B + 1]? ∧ w'.heap[B + 2]? = w.heap[B + 2]?

theorem Fr.refl (B : Nat) (w : World) : Fr B w w := ⟨Below.refl _ _, rfl, rfl⟩
theorem Fr.trans {B : Nat} {a b c : World} (h : Fr B a b) (k : Fr B b c) : Fr B a c := ⟨h.1.trans k.1, k.2.1.trans h.2.1, k.2.2.trans h.2.2⟩

theorem BAt.lt {B : Nat} {p : Value} {bs : List Value} {w : World} (h : BAt B p bs w) : B < w.heap.size := by
  obtain ⟨v, hb, -⟩ := h
  rcases Nat.lt_or_ge B w.heap.size with h' | h'
  · exact h'
  · simp [Array.getElem?_eq_none h'] at hb

theorem BAt.cell0 {B : Nat} {p : Value} {bs : List Value} {w : World} (h : BAt B p bs w) : w.cell? ⟨B, 0, none⟩ = some p := by
  obtain ⟨v, hb, -⟩ := h
  rw [Lib.cell_of_heap hb]; rfl

theorem BAt.frozen0 {B : Nat} {p : Value} {bs : List Value} {w : World} (h : BAt B p bs w) : w.frozen? ⟨B, 0, none⟩ = false := by
  obtain ⟨v, hb, -⟩ := h
  exact Lib.frozen_of_heap hb 0

theorem BAt.shape {B : Nat} {p : Value} {bs : List Value} {w : World} (h : BAt B p bs w) : w.shape? B = some (242, 2) := by
  obtain ⟨v, hb, -⟩ := h
  simp [World.shape?, hb]

theorem ownsRow_set {B : Nat} {v : Value} {n : Nat} {xs : List Value} {w : World} {q : Nat} {u : Value} (h : w.ownsRow (B + 3) 5 1 v n xs) : (w.setCell ⟨B, q, none⟩ u).ownsRow (B + 3) 5 1 v n xs :=
  ownsRow_setCell_below h (by show B < B + 3; omega) u

theorem BAt.used {B : Nat} {p : Value} {bs : List Value} {w : World} (h : BAt B p bs w) (p' : Value) : BAt B p' bs (w.setCell ⟨B, 0, none⟩ p') := by
  obtain ⟨v, hb, ho⟩ := h
  refine ⟨v, ?_, ownsRow_set ho⟩
  simp [World.setCell, Array.getElem?_modify, hb]

theorem BAt.put {B : Nat} {p v v' : Value} {bs' : List Value} {w : World} (hb : w.heap[B]? = some (.cells #[p, v] 242 (0, 0))) (hown : w.ownsRow (B + 3) 5 1 v' bs'.length bs') :
    BAt B p bs' (w.setCell ⟨B, 1, none⟩ v') := by
  refine ⟨v', ?_, ownsRow_set hown⟩
  simp [World.setCell, Array.getElem?_modify, hb]

theorem Fr.set (B q : Nat) (u : Value) (w : World) : Fr B w (w.setCell ⟨B, q, none⟩ u) :=
  ⟨(Below.refl B w).setCell (p := ⟨B, q, none⟩) (Nat.le_refl _) u, Below.heap_setCell _ _ _ _ (by show B + 1 ≠ B; omega), Below.heap_setCell _ _ _ _ (by show B + 2 ≠ B; omega)⟩

theorem size_builder : (Tryz.prog.info? 73).map (·.size) = some 2 := by kernel_rfl
theorem lies_builder : liesAt Tryz.prog Tryz.prog.depth 242 (2 / Tryz.prog.cellsOf 242) 0 73 1 = true := by kernel_rfl
theorem info_byte : (Tryz.prog.info? 5).map (fun i => (i.zero, i.size, i.bytes)) = some (some (.int .u8 0), 1, 1) := by kernel_rfl
theorem cells_byte : Tryz.prog.cellsOf 5 = 1 := by kernel_rfl

set_option maxRecDepth 100000 in
set_option maxHeartbeats 1000000 in
theorem copyCheck_used (b : Nat) (w : World) (h0 : w.cell? ⟨b, 0, none⟩ = some (.pointer (some ⟨b, 0, none⟩))) :
    Calls Tryz.prog 167 #[.pointer (some ⟨b, 0, none⟩)] w fun e w' => e = .returned (.tuple #[]) ∧ w = w' := by
  obtain ⟨j, hj, _⟩ := Option.map_eq_some_iff.1 size_builder
  go_enter Tryz.func167, Tryz.ntmps167
  go_wp2
  rw [Lib.run_neq_ptr_same w _ Tryz.underlying70 hj]
  go_wp2
  go_end0
  exact ⟨rfl, rfl⟩

set_option maxRecDepth 100000 in
set_option maxHeartbeats 1000000 in
theorem copyCheck_fresh (b : Nat) (w : World) (h0 : w.cell? ⟨b, 0, none⟩ = some (.pointer none)) (hsh : w.shape? b = some (242, 2)) (hfz : w.frozen? ⟨b, 0, none⟩ = false) :
    Calls Tryz.prog 167 #[.pointer (some ⟨b, 0, none⟩)] w fun e w' => e = .returned (.tuple #[]) ∧ w.setCell ⟨b, 0, none⟩ (.pointer (some ⟨b, 0, none⟩)) = w' := by
  obtain ⟨j, hj, hjs⟩ := Option.map_eq_some_iff.1 size_builder
  go_enter Tryz.func167, Tryz.ntmps167
  go_wp2
  rw [Lib.run_to_unsafe w ⟨b, 0, none⟩ Tryz.underlying70 Tryz.underlying239 hj (by rw [hjs]; decide) hsh (Nat.zero_lt_succ 1)]
  simp only [Result.andThen]
  rw [Oper.upon_value]
  go_wp2
  rw [run_callFunc_extern Tryz.func184 (by kernel_rfl) (by kernel_rfl) (by kernel_rfl) (e := Extern.AbiNoEscape.same) (by kernel_rfl)]
  rw [Lib.run_noEscape]
  simp only [Result.andThen]
  rw [Oper.upon_value]
  go_wp2
  rw [Lib.run_from_unsafe w ⟨b, 0, none⟩ Tryz.underlying239 Tryz.underlying70 hj hsh lies_builder]
  simp only [Result.andThen]
  rw [Oper.upon_value]
  go_wp2
  go_end0
  exact ⟨rfl, rfl⟩

theorem copyCheck_any (B : Nat) (bs : List Value) (w : World) (h : IsB B bs w) :
    Calls Tryz.prog 167 #[.pointer (some ⟨B, 0, none⟩)] w fun e w' => e = .returned (.tuple #[]) ∧ (BAt B (.pointer (some ⟨B, 0, none⟩)) bs w' ∧ Fr B w w') := by
  rcases h with h | h
  · refine (copyCheck_fresh B w h.cell0 h.shape h.frozen0).mono ?_
    rintro e w' ⟨rfl, rfl⟩
    exact ⟨rfl, h.used _, Fr.set _ _ _ _⟩
  · refine (copyCheck_used B w h.cell0).mono ?_
    rintro e w' ⟨rfl, rfl⟩
    exact ⟨rfl, h, Fr.refl _ _⟩

/-- What an append leaves, seen from the teller. -/
theorem Fr.grown {B : Nat} {w w' : World} {v : Value} {n : Nat} {xs : List Value} (hg : w.grownBy w' v.ownBlock) (ho : w.ownsRow (B + 3) 5 1 v n xs) (hB : B + 2 < w.heap.size) : Fr B w w' := by
  have hr : ∀ k, v.ownBlock = some k → B + 3 ≤ k := fun k hk => (ho.lt k hk).1
  refine ⟨(Below.refl B w).grown hg (by omega) (fun k hk => by have := hr k hk; omega), ?_⟩
  exact ⟨hg.block (B + 1) (by omega) (fun e => by have := hr _ e.symm; omega), hg.block (B + 2) hB (fun e => by have := hr _ e.symm; omega)⟩

set_option maxRecDepth 100000 in
set_option maxHeartbeats 2000000 in
theorem writeString_any (B : Nat) (bs : List Value) (s : ByteArray) (w : World) (h : IsB B bs w) (hlen : bs.length + s.size ≤ 140737488355328) (hBw : B + 2 < w.heap.size) :
    Calls Tryz.prog 147 #[.pointer (some ⟨B, 0, none⟩), .string s] w fun e w' => e = .returned (.tuple #[.int .i64 s.size, .nilIface]) ∧ (BAt B (.pointer (some ⟨B, 0, none⟩)) (bs ++ Lib.strCells s) w' ∧ Fr B w w') := by
  obtain ⟨i0, hi, hz0, hz1, hz2⟩ := info_parts info_byte
  go_enter Tryz.func147, Tryz.ntmps147
  go_wp2_with fail
  refine (copyCheck_any B bs _ h).mono ?_
  rintro e w1 ⟨rfl, h1, hf1⟩
  have hs1 := hf1.1.size
  obtain ⟨v, hbk, hown⟩ := h1
  have hlt := BAt.lt ⟨v, hbk, hown⟩
  have c0 : w1.cell? ⟨B, 0, none⟩ = some (.pointer (some ⟨B, 0, none⟩)) := by rw [Lib.cell_of_heap hbk]; rfl
  have c1 : w1.cell? ⟨B, 1, none⟩ = some v := by rw [Lib.cell_of_heap hbk]; rfl
  go_wp2_with (at_builtin; refine Lib.wpList_append_own_string _ rfl _ _ 71 9 rfl (B + 3) 5 i0 Tryz.underlying71 Tryz.underlying9 hi hz0 hz1 hz2 _ _ _ rfl hown s rfl ?c3 ?c4 ?c5 ?_)
  case c3 => unfold maxLen; omega
  case c4 => omega
  case c5 => omega
  intro v' w2 hown' hgrow _
  have hfr := Fr.grown hgrow hown (by omega)
  have hb2 : w2.heap[B]? = some (.cells #[.pointer (some ⟨B, 0, none⟩), v] 242 (0, 0)) := by
    rw [hgrow.block B hlt (fun e => by have := (hown.lt _ e.symm).1; omega)]
    exact hbk
  have d0 : w2.cell? ⟨B, 0, none⟩ = some (.pointer (some ⟨B, 0, none⟩)) := by rw [Lib.cell_of_heap hb2]; rfl
  have d1 : w2.cell? ⟨B, 1, none⟩ = some v := by rw [Lib.cell_of_heap hb2]; rfl
  have f1 : w2.frozen? ⟨B, 1, none⟩ = false := Lib.frozen_of_heap hb2 1
  obtain ⟨ao, n', cap, rfl⟩ : ∃ ao n' cap, v' = .slice ao n' cap := by
    rcases hown'.2 with ⟨hv, _⟩ | ⟨g, cap, cur, hv, _⟩
    · exact ⟨_, _, _, hv⟩
    · exact ⟨_, _, _, hv⟩
  go_wp2
  go_ret2
  refine ⟨rfl, ?_, ?_⟩
  · exact BAt.put hb2 (bs' := bs ++ Lib.strCells s) (by simpa [Lib.strCells_length] using hown')
  · exact (hf1.trans hfr).trans (Fr.set _ _ _ _)

/-- THE TELLER HOLDS THE BYTES l. -/
def IsT (B : Nat) (l : List UInt8) (w : World) : Prop := IsB B (Lib.byteCells l) w ∧ B + 2 < w.heap.size

theorem IsT.fr {B : Nat} {w w' : World} (h : B + 2 < w.heap.size) (hf : Fr B w w') : B + 2 < w'.heap.size := Nat.lt_of_lt_of_le h hf.1.size

/-- What a call that writes l' leaves. -/
def Wrote (B : Nat) (l l' : List UInt8) (w w' : World) : Prop := IsT B (l ++ l') w' ∧ Fr B w w'

theorem writeS_any (B : Nat) (l : List UInt8) (s : ByteArray) (w : World) (h : IsT B l w) (hlen : l.length + s.data.toList.length ≤ 140737488355328) :
    Calls Tryz.prog 147 #[.pointer (some ⟨B, 0, none⟩), .string s] w fun e w' => e = .returned (.tuple #[.int .i64 s.size, .nilIface]) ∧ Wrote B l s.data.toList w w' := by
  refine (writeString_any B (Lib.byteCells l) s w h.1 (by rw [Lib.byteCells_length]; simpa using hlen) h.2).mono ?_
  rintro e w' ⟨he, hb, hf⟩
  exact ⟨he, ⟨.inr (by simpa [Lib.strCells, Lib.byteCells] using hb), IsT.fr h.2 hf⟩, hf⟩

set_option maxRecDepth 100000 in
set_option maxHeartbeats 2000000 in
theorem writeByte_any (B : Nat) (bs : List Value) (c : Int) (w : World) (h : IsB B bs w) (hlen : bs.length + 1 ≤ 140737488355328) (hBw : B + 2 < w.heap.size) :
    Calls Tryz.prog 145 #[.pointer (some ⟨B, 0, none⟩), .int .u8 c] w fun e w' => e = .returned .nilIface ∧ (BAt B (.pointer (some ⟨B, 0, none⟩)) (bs ++ [.int .u8 c]) w' ∧ Fr B w w') := by
  obtain ⟨i0, hi, hz0, hz1, hz2⟩ := info_parts info_byte
  go_enter Tryz.func145, Tryz.ntmps145
  go_wp2_with fail
  refine (copyCheck_any B bs _ h).mono ?_
  rintro e w1 ⟨rfl, h1, hf1⟩
  have hs1 := hf1.1.size
  obtain ⟨v, hbk, hown⟩ := h1
  have hlt := BAt.lt ⟨v, hbk, hown⟩
  have c0 : w1.cell? ⟨B, 0, none⟩ = some (.pointer (some ⟨B, 0, none⟩)) := by rw [Lib.cell_of_heap hbk]; rfl
  have c1 : w1.cell? ⟨B, 1, none⟩ = some v := by rw [Lib.cell_of_heap hbk]; rfl
  go_wp2_with (at_builtin; refine wpList_append_own _ rfl _ _ 71 rfl (B + 3) 5 i0 (.int .u8 0) 1 1 Tryz.underlying71 hi hz0 hz1 hz2 rfl (by decide) _ _ _ rfl (hown.alloc _) ⟨w1.heap.size, 0, none⟩ 1 1 [.int .u8 c] rfl rfl ?c1 ?c2 ?c3 ?c4 ?c5 ?_)
  case c1 =>
    intro j u hj
    match j, hj with
    | 0, hj => simp at hj; subst hj; simp [Addr.add]
  case c2 => intro u hu; simp at hu; subst hu; rfl
  case c3 => unfold maxLen; omega
  case c4 => omega
  case c5 => simp; omega
  intro v' w2 hown' hgrow _
  have hfr := (show Fr B w1 (w1.alloc _) from ⟨(Below.refl _ _).alloc (by omega) _, Below.heap_alloc _ _ _ (by omega), Below.heap_alloc _ _ _ (by omega)⟩).trans (Fr.grown hgrow (hown.alloc _) (by simp; omega))
  have hb2 : w2.heap[B]? = some (.cells #[.pointer (some ⟨B, 0, none⟩), v] 242 (0, 0)) := by
    rw [hgrow.block B (by simp; omega) (fun e => by have := (hown.lt _ e.symm).1; omega), Below.heap_alloc _ _ _ hlt]
    exact hbk
  have d0 : w2.cell? ⟨B, 0, none⟩ = some (.pointer (some ⟨B, 0, none⟩)) := by rw [Lib.cell_of_heap hb2]; rfl
  have d1 : w2.cell? ⟨B, 1, none⟩ = some v := by rw [Lib.cell_of_heap hb2]; rfl
  have f1 : w2.frozen? ⟨B, 1, none⟩ = false := Lib.frozen_of_heap hb2 1
  obtain ⟨g, cap, rfl⟩ : ∃ g cap, v' = .slice (some ⟨g, 0, none⟩) (bs.length + 1) cap := by
    rcases hown'.2 with ⟨_, h0⟩ | ⟨g, cap, cur, hv, _⟩
    · omega
    · exact ⟨g, cap, hv⟩
  go_wp2
  go_ret
  refine ⟨rfl, ?_, ?_⟩
  · exact BAt.put hb2 (bs' := bs ++ [.int .u8 c]) (by simpa using hown')
  · exact (hf1.trans hfr).trans (Fr.set _ _ _ _)

theorem writeB_any (B : Nat) (l : List UInt8) (c : UInt8) (w : World) (h : IsT B l w) (hlen : l.length + 1 ≤ 140737488355328) :
    Calls Tryz.prog 145 #[.pointer (some ⟨B, 0, none⟩), .int .u8 c.toNat] w fun e w' => e = .returned .nilIface ∧ Wrote B l [c] w w' := by
  refine (writeByte_any B (Lib.byteCells l) c.toNat w h.1 (by rw [Lib.byteCells_length]; exact hlen) h.2).mono ?_
  rintro e w' ⟨he, hb, hf⟩
  exact ⟨he, ⟨.inr (by simpa [Lib.byteCells] using hb), IsT.fr h.2 hf⟩, hf⟩
end Go.Proofs.YtajmdhcknmmbbaaGreatDoor
