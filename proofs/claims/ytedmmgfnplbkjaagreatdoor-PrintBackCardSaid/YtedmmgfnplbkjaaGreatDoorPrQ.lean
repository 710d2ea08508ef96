/-
  Walks: a builder of texts that lies ahead in a block, alone or with further cells behind it: copyCheck, WriteByte, WriteString, Len, String.
  Conditions: its row of bytes lies in a block from K on; so many bytes as Go lets a row have.
  Walks: the teller of programs (package print) as it lies in memory ('TS'), what telling comes to ('PostT'); write, word, open, shut, opens, end.
  Conditions: the teller's row of bytes lies in a block of its own.
  Walks: isName, name, op, truth, site of the teller of programs.
  Conditions: the library's tables hold what the program's text lays in them.
  Walks: quoted of the teller of programs.
  Conditions: none.
-/
import Derived.Test.YtedmmgfnplbkjaaGreatDoorLexA
import Derived.Test.YtedmmgfnplbkjaaGreatDoorTre
import Derived.Test.YtedmmgfnplbkjaaGreatDoorShelf
import Derived.Lib.Builder
import Derived.Lib.AppendStr
import Derived.Lib.UnsafeStr
import Derived.Lib.Walk
import Derived.Lib.Slices
import Derived.Laws.Externs
import Derived.RegionTactic
import Derived.ChangeAlike
import Derived.Test.YtedmmgfnplbkjaaGreatDoorPrL
import Derived.Test.YtedmmgfnplbkjaaGreatDoorShelfI
import Derived.Lib.ItoaLen
import Derived.IntWalk
import Derived.Deep.RegionHeld3
namespace Go.Proofs.YtedmmgfnplbkjaaGreatDoor.PB
set_option linter.unusedVariables false
set_option linter.unusedSimpArgs false
open Go.Proofs.YtedmmgfnplbkjaaGreatDoor Go.RowKit
def BAt (ty : TypeId) (rest : List Value) (B K : Nat) (p : Value) (bs : List Value) (w : World) : Prop :=
  ∃ v, w.heap[B]? = some (.cells (p :: v :: rest).toArray ty (0, 0)) ∧ w.ownsRow K 5 1 v bs.length bs
def IsB (ty : TypeId) (rest : List Value) (B K : Nat) (bs : List Value) (w : World) : Prop := BAt ty rest B K (.pointer none) bs w ∨ BAt ty rest B K (.pointer (some ⟨B, 0, none⟩)) bs w
structure Fr (B K : Nat) (w w' : World) : Prop where
  os : w'.os = w.os
  tape : w'.tape = w.tape
  output : w'.output = w.output
  size : w.heap.size ≤ w'.heap.size
  block : ∀ i, i < K → i ≠ B → w'.heap[i]? = w.heap[i]?
theorem Fr.refl (B K : Nat) (w : World) : Fr B K w w := ⟨rfl, rfl, rfl, Nat.le_refl _, fun _ _ _ => rfl⟩
theorem Fr.trans {B K : Nat} {a b c : World} (h : Fr B K a b) (k : Fr B K b c) : Fr B K a c :=
  ⟨k.os.trans h.os, k.tape.trans h.tape, k.output.trans h.output, Nat.le_trans h.size k.size, fun i h1 h2 => (k.block i h1 h2).trans (h.block i h1 h2)⟩
theorem Fr.set (B K q : Nat) (u : Value) (w : World) : Fr B K w (w.setCell ⟨B, q, none⟩ u) :=
  ⟨rfl, rfl, rfl, by simp [World.setCell], fun i _ h => Below.heap_setCell _ _ _ _ (by show i ≠ B; exact h)⟩
theorem Fr.of_below {B K : Nat} {w w' : World} (h : Below K w w') : Fr B K w w' := ⟨h.os, h.tape, h.output, h.size, fun i h1 _ => h.block i h1⟩
theorem Fr.below {B K : Nat} {w w' : World} (h : Fr B K w w') (hB : B ≤ K) : Below B w w' := ⟨h.os, h.tape, h.output, h.size, fun i h1 => h.block i (by omega) (by omega)⟩
section
variable {ty : TypeId} {rest : List Value} {B K : Nat} {p : Value} {bs : List Value} {w w' : World}
theorem BAt.lt (h : BAt ty rest B K p bs w) : B < w.heap.size := by
  obtain ⟨v, hb, -⟩ := h
  exact tr_lt_of_block hb
theorem BAt.cell0 (h : BAt ty rest B K p bs w) : w.cell? ⟨B, 0, none⟩ = some p := by
  obtain ⟨v, hb, -⟩ := h
  rw [Lib.cell_of_heap hb]; rfl
theorem BAt.frozen0 (h : BAt ty rest B K p bs w) : w.frozen? ⟨B, 0, none⟩ = false := by
  obtain ⟨v, hb, -⟩ := h
  exact Lib.frozen_of_heap hb 0
theorem BAt.shape (h : BAt ty rest B K p bs w) : w.shape? B = some (ty, rest.length + 2) := by
  obtain ⟨v, hb, -⟩ := h
  simp [World.shape?, hb]
theorem ownsRow_set (hBK : B < K) {v : Value} {n : Nat} {xs : List Value} {q : Nat} {u : Value} (h : w.ownsRow K 5 1 v n xs) : (w.setCell ⟨B, q, none⟩ u).ownsRow K 5 1 v n xs :=
  ownsRow_setCell_below h (by show B < K; omega) u
theorem BAt.used (hBK : B < K) (h : BAt ty rest B K p bs w) (p' : Value) : BAt ty rest B K p' bs (w.setCell ⟨B, 0, none⟩ p') := by
  obtain ⟨v, hb, ho⟩ := h
  refine ⟨v, ?_, ownsRow_set hBK ho⟩
  simp [World.setCell, Array.getElem?_modify, hb]
theorem BAt.put {v v' : Value} {bs' : List Value} (hBK : B < K) (hb : w.heap[B]? = some (.cells (p :: v :: rest).toArray ty (0, 0))) (hown : w.ownsRow K 5 1 v' bs'.length bs') :
    BAt ty rest B K p bs' (w.setCell ⟨B, 1, none⟩ v') := by
  refine ⟨v', ?_, ownsRow_set hBK hown⟩
  simp [World.setCell, Array.getElem?_modify, hb]
end
theorem size_builder : (Tryz.prog.info? 69).map (·.size) = some 2 := by kernel_rfl
def Lies (ty : TypeId) (rest : List Value) : Prop := liesAt Tryz.prog Tryz.prog.depth ty ((rest.length + 2) / Tryz.prog.cellsOf ty) 0 69 1 = true
theorem lies_own : Lies 69 [] := by
  unfold Lies
  kernel_rfl
theorem lies_teller (a b c d : Value) : Lies 71 [a, b, c, d] := by
  show liesAt Tryz.prog Tryz.prog.depth 71 (6 / Tryz.prog.cellsOf 71) 0 69 1 = true
  kernel_rfl
theorem info_byte : (Tryz.prog.info? 5).map (fun i => (i.zero, i.size, i.bytes)) = some (some (.int .u8 0), 1, 1) := by kernel_rfl
theorem cells_byte : Tryz.prog.cellsOf 5 = 1 := by kernel_rfl
set_option maxRecDepth 100000 in
set_option maxHeartbeats 1000000 in
theorem copyCheck_used (b : Nat) (w : World) (h0 : w.cell? ⟨b, 0, none⟩ = some (.pointer (some ⟨b, 0, none⟩))) :
    Calls Tryz.prog 159 #[.pointer (some ⟨b, 0, none⟩)] w fun e w' => e = .returned (.tuple #[]) ∧ w = w' := by
  obtain ⟨j, hj, _⟩ := Option.map_eq_some_iff.1 size_builder
  go_enter Tryz.func159, Tryz.ntmps159
  go_wp2
  rw [Lib.run_neq_ptr_same w _ Tryz.underlying66 hj]
  go_wp2
  go_end0
  exact ⟨rfl, rfl⟩
set_option maxRecDepth 100000 in
set_option maxHeartbeats 1000000 in
theorem copyCheck_fresh (ty : TypeId) (rest : List Value) (hl : Lies ty rest) (b : Nat) (w : World) (h0 : w.cell? ⟨b, 0, none⟩ = some (.pointer none)) (hsh : w.shape? b = some (ty, rest.length + 2)) (hfz : w.frozen? ⟨b, 0, none⟩ = false) :
    Calls Tryz.prog 159 #[.pointer (some ⟨b, 0, none⟩)] w fun e w' => e = .returned (.tuple #[]) ∧ w.setCell ⟨b, 0, none⟩ (.pointer (some ⟨b, 0, none⟩)) = w' := by
  obtain ⟨j, hj, hjs⟩ := Option.map_eq_some_iff.1 size_builder
  unfold Lies at hl
  go_enter Tryz.func159, Tryz.ntmps159
  go_wp2
  rw [Lib.run_to_unsafe w ⟨b, 0, none⟩ Tryz.underlying66 Tryz.underlying222 hj (by rw [hjs]; decide) hsh (by show 0 < rest.length + 2; omega)]
  simp only [Result.andThen]
  rw [Oper.upon_value]
  go_wp2
  rw [run_callFunc_extern Tryz.func190 (by kernel_rfl) (by kernel_rfl) (by kernel_rfl) (e := Extern.AbiNoEscape.same) (by kernel_rfl)]
  rw [Lib.run_noEscape]
  simp only [Result.andThen]
  rw [Oper.upon_value]
  go_wp2
  rw [Lib.run_from_unsafe w ⟨b, 0, none⟩ Tryz.underlying222 Tryz.underlying66 hj hsh hl]
  simp only [Result.andThen]
  rw [Oper.upon_value]
  go_wp2
  go_end0
  exact ⟨rfl, rfl⟩
section
variable {ty : TypeId} {rest : List Value} {B K : Nat} (hl : Lies ty rest) (hBK : B < K)
include hl hBK
theorem copyCheck_any (bs : List Value) (w : World) (h : IsB ty rest B K bs w) :
    Calls Tryz.prog 159 #[.pointer (some ⟨B, 0, none⟩)] w fun e w' => e = .returned (.tuple #[]) ∧ (BAt ty rest B K (.pointer (some ⟨B, 0, none⟩)) bs w' ∧ Fr B K w w') := by
  rcases h with h | h
  · refine (copyCheck_fresh ty rest hl B w h.cell0 h.shape h.frozen0).mono ?_
    rintro e w' ⟨rfl, rfl⟩
    exact ⟨rfl, h.used hBK _, Fr.set _ _ _ _ _⟩
  · refine (copyCheck_used B w h.cell0).mono ?_
    rintro e w' ⟨rfl, rfl⟩
    exact ⟨rfl, h, Fr.refl _ _ _⟩
omit hl hBK in
theorem Fr.grown {w w' : World} {v : Value} {n : Nat} {xs : List Value} (hg : w.grownBy w' v.ownBlock) (ho : w.ownsRow K 5 1 v n xs) (hK : K ≤ w.heap.size) : Fr B K w w' :=
  ⟨hg.os, hg.tape, hg.output, hg.size, fun i h1 _ => hg.block i (by omega) (fun e => by have := (ho.lt i e.symm).1; omega)⟩
set_option maxRecDepth 100000 in
set_option maxHeartbeats 2000000 in
theorem writeString_any (bs : List Value) (s : ByteArray) (w : World) (h : IsB ty rest B K bs w) (hlen : bs.length + s.size ≤ 140737488355328) (hK : K ≤ w.heap.size) :
    Calls Tryz.prog 122 #[.pointer (some ⟨B, 0, none⟩), .string s] w fun e w' => e = .returned (.tuple #[.int .i64 s.size, .nilIface]) ∧ (BAt ty rest B K (.pointer (some ⟨B, 0, none⟩)) (bs ++ Lib.strCells s) w' ∧ Fr B K w w') := by
  obtain ⟨i0, hi, hz0, hz1, hz2⟩ := info_parts info_byte
  go_enter Tryz.func122, Tryz.ntmps122
  go_wp2_with fail
  refine (copyCheck_any hl hBK bs _ h).mono ?_
  rintro e w1 ⟨rfl, h1, hf1⟩
  have hs1 := hf1.size
  obtain ⟨v, hbk, hown⟩ := h1
  have hlt := BAt.lt ⟨v, hbk, hown⟩
  have c0 : w1.cell? ⟨B, 0, none⟩ = some (.pointer (some ⟨B, 0, none⟩)) := by rw [Lib.cell_of_heap hbk]; rfl
  have c1 : w1.cell? ⟨B, 1, none⟩ = some v := by rw [Lib.cell_of_heap hbk]; rfl
  go_wp2_with (at_builtin; refine Lib.wpList_append_own_string _ rfl _ _ 67 9 rfl K 5 i0 Tryz.underlying67 Tryz.underlying9 hi hz0 hz1 hz2 _ _ _ rfl hown s rfl ?c3 ?c4 ?c5 ?_)
  case c3 => unfold maxLen; omega
  case c4 => omega
  case c5 => omega
  intro v' w2 hown' hgrow _
  have hfr : Fr B K w1 w2 := Fr.grown hgrow hown (by omega)
  have hb2 : w2.heap[B]? = some (.cells (.pointer (some ⟨B, 0, none⟩) :: v :: rest).toArray ty (0, 0)) := by
    rw [hgrow.block B hlt (fun e => by have := (hown.lt _ e.symm).1; omega)]
    exact hbk
  have d0 : w2.cell? ⟨B, 0, none⟩ = some (.pointer (some ⟨B, 0, none⟩)) := by rw [Lib.cell_of_heap hb2]; rfl
  have d1 : w2.cell? ⟨B, 1, none⟩ = some v := by rw [Lib.cell_of_heap hb2]; rfl
  have f1 : w2.frozen? ⟨B, 1, none⟩ = false := Lib.frozen_of_heap hb2 1
  obtain ⟨ao, n', cap, rfl⟩ : ∃ ao n' cap, v' = .slice ao n' cap := by
    rcases hown'.2 with ⟨hv, _⟩ | ⟨g, cap, cur, hv, _⟩
    · exact ⟨_, _, _, hv⟩
    · exact ⟨_, _, _, hv⟩
  go_wp2
  go_ret2
  refine ⟨rfl, ?_, ?_⟩
  · exact BAt.put hBK hb2 (bs' := bs ++ Lib.strCells s) (by simpa [Lib.strCells_length] using hown')
  · exact (hf1.trans hfr).trans (Fr.set _ _ _ _ _)
set_option maxRecDepth 100000 in
set_option maxHeartbeats 2000000 in
theorem writeByte_any (bs : List Value) (c : Int) (w : World) (h : IsB ty rest B K bs w) (hlen : bs.length + 1 ≤ 140737488355328) (hK : K ≤ w.heap.size) :
    Calls Tryz.prog 101 #[.pointer (some ⟨B, 0, none⟩), .int .u8 c] w fun e w' => e = .returned .nilIface ∧ (BAt ty rest B K (.pointer (some ⟨B, 0, none⟩)) (bs ++ [.int .u8 c]) w' ∧ Fr B K w w') := by
  obtain ⟨i0, hi, hz0, hz1, hz2⟩ := info_parts info_byte
  go_enter Tryz.func101, Tryz.ntmps101
  go_wp2_with fail
  refine (copyCheck_any hl hBK bs _ h).mono ?_
  rintro e w1 ⟨rfl, h1, hf1⟩
  have hs1 := hf1.size
  obtain ⟨v, hbk, hown⟩ := h1
  have hlt := BAt.lt ⟨v, hbk, hown⟩
  have c0 : w1.cell? ⟨B, 0, none⟩ = some (.pointer (some ⟨B, 0, none⟩)) := by rw [Lib.cell_of_heap hbk]; rfl
  have c1 : w1.cell? ⟨B, 1, none⟩ = some v := by rw [Lib.cell_of_heap hbk]; rfl
  go_wp2_with (at_builtin; refine wpList_append_own _ rfl _ _ 67 rfl K 5 i0 (.int .u8 0) 1 1 Tryz.underlying67 hi hz0 hz1 hz2 rfl (by decide) _ _ _ rfl (hown.alloc _) ⟨w1.heap.size, 0, none⟩ 1 1 [.int .u8 c] rfl rfl ?c1 ?c2 ?c3 ?c4 ?c5 ?_)
  case c1 =>
    intro j u hj
    match j, hj with
    | 0, hj => simp at hj; subst hj; simp [Addr.add]
  case c2 => intro u hu; simp at hu; subst hu; rfl
  case c3 => unfold maxLen; omega
  case c4 => omega
  case c5 => simp; omega
  intro v' w2 hown' hgrow _
  have hfr : Fr B K w1 w2 := (Fr.of_below ((Below.refl _ _).alloc (by omega) _)).trans (Fr.grown hgrow (hown.alloc _) (by simp; omega))
  have hb2 : w2.heap[B]? = some (.cells (.pointer (some ⟨B, 0, none⟩) :: v :: rest).toArray ty (0, 0)) := by
    rw [hgrow.block B (by simp; omega) (fun e => by have := (hown.lt _ e.symm).1; omega), Below.heap_alloc _ _ _ hlt]
    exact hbk
  have d0 : w2.cell? ⟨B, 0, none⟩ = some (.pointer (some ⟨B, 0, none⟩)) := by rw [Lib.cell_of_heap hb2]; rfl
  have d1 : w2.cell? ⟨B, 1, none⟩ = some v := by rw [Lib.cell_of_heap hb2]; rfl
  have f1 : w2.frozen? ⟨B, 1, none⟩ = false := Lib.frozen_of_heap hb2 1
  obtain ⟨g, cap, rfl⟩ : ∃ g cap, v' = .slice (some ⟨g, 0, none⟩) (bs.length + 1) cap := by
    rcases hown'.2 with ⟨_, h0⟩ | ⟨g, cap, cur, hv, _⟩
    · omega
    · exact ⟨g, cap, hv⟩
  go_wp2
  go_ret
  refine ⟨rfl, ?_, ?_⟩
  · exact BAt.put hBK hb2 (bs' := bs ++ [.int .u8 c]) (by simpa using hown')
  · exact (hf1.trans hfr).trans (Fr.set _ _ _ _ _)
end
def IsT (ty : TypeId) (rest : List Value) (B K : Nat) (l : List UInt8) (w : World) : Prop := IsB ty rest B K (Lib.byteCells l) w ∧ K ≤ w.heap.size
def Wrote (ty : TypeId) (rest : List Value) (B K : Nat) (l l' : List UInt8) (w w' : World) : Prop := IsT ty rest B K (l ++ l') w' ∧ Fr B K w w'
section
variable {ty : TypeId} {rest : List Value} {B K : Nat}
theorem Wrote.trans {l a b : List UInt8} {w w1 w2 : World} (h : Wrote ty rest B K l a w w1) (k : Wrote ty rest B K (l ++ a) b w1 w2) : Wrote ty rest B K l (a ++ b) w w2 :=
  ⟨by rw [← List.append_assoc]; exact k.1, h.2.trans k.2⟩
theorem Wrote.nil {l : List UInt8} {w : World} (h : IsT ty rest B K l w) : Wrote ty rest B K l [] w w := ⟨by rw [List.append_nil]; exact h, Fr.refl _ _ _⟩
theorem IsT.at {l : List UInt8} {w : World} (h : IsT ty rest B K l w) : ∃ p, BAt ty rest B K p (Lib.byteCells l) w := by
  rcases h.1 with h | h
  · exact ⟨_, h⟩
  · exact ⟨_, h⟩
variable (hl : Lies ty rest) (hBK : B < K)
include hl hBK
theorem writeS_any (l : List UInt8) (s : ByteArray) (w : World) (h : IsT ty rest B K l w) (hlen : l.length + s.data.toList.length ≤ 140737488355328) :
    Calls Tryz.prog 122 #[.pointer (some ⟨B, 0, none⟩), .string s] w fun e w' => e = .returned (.tuple #[.int .i64 s.size, .nilIface]) ∧ Wrote ty rest B K l s.data.toList w w' := by
  refine (writeString_any hl hBK (Lib.byteCells l) s w h.1 (by rw [Lib.byteCells_length]; simpa using hlen) h.2).mono ?_
  rintro e w' ⟨he, hb, hf⟩
  exact ⟨he, ⟨.inr (by simpa [Lib.strCells, Lib.byteCells] using hb), Nat.le_trans h.2 hf.size⟩, hf⟩
theorem writeB_any (l : List UInt8) (c : UInt8) (w : World) (h : IsT ty rest B K l w) (hlen : l.length + 1 ≤ 140737488355328) :
    Calls Tryz.prog 101 #[.pointer (some ⟨B, 0, none⟩), .int .u8 c.toNat] w fun e w' => e = .returned .nilIface ∧ Wrote ty rest B K l [c] w w' := by
  refine (writeByte_any hl hBK (Lib.byteCells l) c.toNat w h.1 (by rw [Lib.byteCells_length]; exact hlen) h.2).mono ?_
  rintro e w' ⟨he, hb, hf⟩
  exact ⟨he, ⟨.inr (by simpa [Lib.byteCells] using hb), Nat.le_trans h.2 hf.size⟩, hf⟩
omit hl hBK in
set_option maxRecDepth 100000 in
set_option maxHeartbeats 2000000 in
theorem len_any (l : List UInt8) (w : World) (h : IsT ty rest B K l w) :
    Calls Tryz.prog 102 #[.pointer (some ⟨B, 0, none⟩)] w fun e w' => e = .returned (.int .i64 l.length) ∧ w = w' := by
  obtain ⟨p, v, hbk, hown⟩ := h.at
  rw [Lib.byteCells_length] at hown
  have c1 : w.cell? ⟨B, 1, none⟩ = some v := by rw [Lib.cell_of_heap hbk]; rfl
  obtain ⟨ao, cap, rfl⟩ : ∃ ao cap, v = .slice ao l.length cap := by
    rcases hown.2 with ⟨hv, h0⟩ | ⟨g, cap, cur, hv, _⟩
    · exact ⟨_, _, by rw [hv, h0]⟩
    · exact ⟨_, _, hv⟩
  clear h hbk hown
  go_enter Tryz.func102, Tryz.ntmps102
  go_wp2
  go_ret
  exact ⟨rfl, rfl⟩
omit hl hBK in
set_option maxRecDepth 100000 in
set_option maxHeartbeats 2000000 in
theorem string_nil (p : Value) (w : World) (hbk : w.heap[B]? = some (.cells (p :: Value.slice none 0 0 :: rest).toArray ty (0, 0))) :
    Calls Tryz.prog 30 #[.pointer (some ⟨B, 0, none⟩)] w fun e w' => e = .returned (.string .empty) ∧ Below K w w' := by
  have mixed : Tryz.prog.follows Departure.mixedOrders = true := by kernel_rfl
  have c1 : w.drew.cell? ⟨B, 1, none⟩ = some (.slice none 0 0) := by
    have : w.drew.heap[B]? = some (.cells (p :: Value.slice none 0 0 :: rest).toArray ty (0, 0)) := hbk
    rw [Lib.cell_of_heap this]; rfl
  have hSD : (Builtin.unsafeSliceData_ #[67] 99 #[.slice none 0 0]).run Tryz.prog w.drew = .ok (.pointer none) w.drew := Lib.run_unsafeSliceData_nil _ _ _ _ _
  have hUS : (Builtin.unsafeString_ #[99, 3] 9 #[.pointer none, .int .i64 0]).run Tryz.prog w.drew = .ok (.string .empty) w.drew := Lib.run_unsafeString_none _ _ _ _ _
  clear hbk
  go_enter Tryz.func30, Tryz.ntmps30
  go_wp2
  go_region_o
  all_goals (go_wp2; go_ret; exact ⟨rfl, Below.drew (Below.refl K w)⟩)
omit hl hBK in
set_option maxRecDepth 100000 in
set_option maxHeartbeats 2000000 in
theorem string_any (l : List UInt8) (w : World) (h : IsT ty rest B K l w) (h0 : l ≠ []) :
    Calls Tryz.prog 30 #[.pointer (some ⟨B, 0, none⟩)] w fun e w' => e = .returned (.string ⟨l.toArray⟩) ∧ Below K w w' := by
  obtain ⟨p, v, hbk, hown⟩ := h.at
  have hK := h.2
  rw [Lib.byteCells_length] at hown
  have mixed : Tryz.prog.follows Departure.mixedOrders = true := by kernel_rfl
  have hz : 0 < l.length := List.length_pos_iff.2 h0
  obtain ⟨g, cap, cur, rfl, hbg, hg, hnc, hcm, hcs, htake⟩ : ∃ g cap cur, v = .slice (some ⟨g, 0, none⟩) l.length cap ∧ K ≤ g ∧ w.heap[g]? = some (.cells cur 5 (0, 0)) ∧ l.length ≤ cap ∧ cap ≤ maxLen ∧ cur.size = cap * 1 ∧ cur.toList.take (l.length * 1) = Lib.byteCells l := by
    rcases hown.2 with ⟨_, hz'⟩ | ⟨g, cap, cur, hv, r⟩
    · omega
    · exact ⟨g, cap, cur, hv, r⟩
  have c1 : w.drew.cell? ⟨B, 1, none⟩ = some (.slice (some ⟨g, 0, none⟩) l.length cap) := by
    have : w.drew.heap[B]? = some (.cells (p :: Value.slice (some ⟨g, 0, none⟩) l.length cap :: rest).toArray ty (0, 0)) := hbk
    rw [Lib.cell_of_heap this]; rfl
  have hSD : (Builtin.unsafeSliceData_ #[67] 99 #[.slice (some ⟨g, 0, none⟩) l.length cap]).run Tryz.prog w.drew = .ok (.pointer (some ⟨g, 0, none⟩)) w.drew :=
    Lib.run_unsafeSliceData_row _ _ _ _ _ _ (by omega)
  have hUS : (Builtin.unsafeString_ #[99, 3] 9 #[.pointer (some ⟨g, 0, none⟩), .int .i64 l.length]).run Tryz.prog w.drew = .ok (.string ⟨l.toArray⟩) (w.drew.freeze ⟨g, 0, none⟩ l.length) := by
    refine Lib.run_unsafeString_row w.drew 99 3 9 5 Tryz.underlying99 cells_byte g cur.size (by have hg' : w.drew.heap[g]? = some (.cells cur 5 (0, 0)) := hg; simp [World.shape?, hg']) l h0 (by omega) (by unfold maxLen at hcm; omega) ?_
    intro j x hx
    have := hown.cells (g := g) rfl j (.int .u8 x.toNat) (by simp [Lib.byteCells, hx])
    exact this
  clear h hown htake hbk
  go_enter Tryz.func30, Tryz.ntmps30
  go_wp2
  go_region_o
  all_goals (go_wp2; go_ret; exact ⟨rfl, Lib.below_freeze (Below.drew (Below.refl K w)) (p := ⟨g, 0, none⟩) (by show K ≤ g; omega) _⟩)
end
end Go.Proofs.YtedmmgfnplbkjaaGreatDoor.PB
namespace Go.Proofs.YtedmmgfnplbkjaaGreatDoor.PR
set_option linter.unusedVariables false
set_option linter.unusedSimpArgs false
open Go.Proofs.YtedmmgfnplbkjaaGreatDoor Go.RowKit G
def TS (w0 : World) (pt : Obj) (l : Str) (b : Bool) (c : Str) (d : Nat) (W : World) : Prop :=
  (∃ l' : Str, (l.length ≤ 65536 → l' = l) ∧ l'.length ≤ 65536 ∧ PB.IsT 71 [.bool (decide (65536 < l.length)), .bool b, .string ⟨c.toArray⟩, .int .i64 (wr d)] w0.heap.size (w0.heap.size + 2) l' W)
    ∧ W.heap[w0.heap.size + 1]? = some pt ∧ Below w0.heap.size w0 W
abbrev tp (w0 : World) : Value := .pointer (some ⟨w0.heap.size, 0, none⟩)
def PostT (w0 : World) (pt : Obj) (l : Str) (b : Bool) (c : Str) (r : Tl) (e : Ending) (W : World) : Prop :=
  (∃ u d, r = some (u, d) ∧ e = .returned (.bool true) ∧ TS w0 pt (l ++ lay b u) (aft b u) c d W) ∨ (r = none ∧ e = .returned (.bool false) ∧ Below w0.heap.size w0 W)
section
variable {w0 : World} {pt : Obj} {l : Str} {b : Bool} {c : Str} {d : Nat} {W W' : World}
theorem TS.low (h : TS w0 pt l b c d W) : Below w0.heap.size w0 W := h.2.2
theorem TS.room (h : TS w0 pt l b c d W) : w0.heap.size + 2 ≤ W.heap.size := h.1.elim fun _ h => h.2.2.2
theorem TS.keep (h : TS w0 pt l b c d W) (k : Below W.heap.size W W') : TS w0 pt l b c d W' := by
  have hr := h.room
  obtain ⟨⟨l', h1, h2, h3⟩, h4, h5⟩ := h
  refine ⟨⟨l', h1, h2, ?_, Nat.le_trans h3.2 k.size⟩, (k.block _ (by omega)).trans h4, h5.trans (k.mono h5.size)⟩
  have key : ∀ {p : Value} {rest : List Value}, PB.BAt 71 rest w0.heap.size (w0.heap.size + 2) p (Lib.byteCells l') W → PB.BAt 71 rest w0.heap.size (w0.heap.size + 2) p (Lib.byteCells l') W' := by
    rintro p rest ⟨v, hb, ho⟩
    refine ⟨v, by rw [k.block _ (tr_lt_of_block hb)]; exact hb, ho.1, ?_⟩
    rcases ho.2 with h0 | ⟨g, cap, cur, hv, hbg, hg, r⟩
    · exact .inl h0
    · exact .inr ⟨g, cap, cur, hv, hbg, by rw [k.block g (tr_lt_of_block hg)]; exact hg, r⟩
  exact h3.1.imp key key
theorem TS.cells (h : TS w0 pt l b c d W) : (W.cell? ⟨w0.heap.size, 2, none⟩ = some (.bool (decide (65536 < l.length))) ∧ W.cell? ⟨w0.heap.size, 3, none⟩ = some (.bool b) ∧ W.cell? ⟨w0.heap.size, 4, none⟩ = some (.string ⟨c.toArray⟩) ∧ W.cell? ⟨w0.heap.size, 5, none⟩ = some (.int .i64 (wr d)))
    ∧ W.frozen? ⟨w0.heap.size, 2, none⟩ = false ∧ W.frozen? ⟨w0.heap.size, 3, none⟩ = false ∧ W.frozen? ⟨w0.heap.size, 4, none⟩ = false ∧ W.frozen? ⟨w0.heap.size, 5, none⟩ = false := by
  obtain ⟨⟨l', -, -, h3⟩, -, -⟩ := h
  obtain ⟨p, v, hb, -⟩ := h3.at
  refine ⟨⟨?_, ?_, ?_, ?_⟩, Lib.frozen_of_heap hb 2, Lib.frozen_of_heap hb 3, Lib.frozen_of_heap hb 4, Lib.frozen_of_heap hb 5⟩ <;> (rw [Lib.cell_of_heap hb]; rfl)
theorem isT_set {rest rest' : List Value} {B K q : Nat} {u : Value} {l' : Str} (hBK : B < K) (hset : ∀ p v : Value, (p :: v :: rest).set q u = p :: v :: rest') (h : PB.IsT 71 rest B K l' W) : PB.IsT 71 rest' B K l' (W.setCell ⟨B, q, none⟩ u) := by
  have key : ∀ {p : Value}, PB.BAt 71 rest B K p (Lib.byteCells l') W → PB.BAt 71 rest' B K p (Lib.byteCells l') (W.setCell ⟨B, q, none⟩ u) := by
    rintro p ⟨v, hb, ho⟩
    refine ⟨v, ?_, PB.ownsRow_set hBK ho⟩
    simp [World.setCell, Array.getElem?_modify, hb, hset]
  exact ⟨h.1.imp key key, by simpa [World.setCell] using h.2⟩
theorem TS.setB (h : TS w0 pt l b c d W) (b' : Bool) : TS w0 pt l b' c d (W.setCell ⟨w0.heap.size, 3, none⟩ (.bool b')) := by
  obtain ⟨⟨l', h1, h2, h3⟩, h4, h5⟩ := h
  exact ⟨⟨l', h1, h2, isT_set (by omega) (fun _ _ => rfl) h3⟩, (Below.heap_setCell _ _ _ _ (by show w0.heap.size + 1 ≠ w0.heap.size; omega)).trans h4, h5.setCell (p := ⟨w0.heap.size, 3, none⟩) (Nat.le_refl _) _⟩
theorem TS.setC (h : TS w0 pt l b c d W) (s : ByteArray) : TS w0 pt l b s.data.toList d (W.setCell ⟨w0.heap.size, 4, none⟩ (.string s)) := by
  obtain ⟨⟨l', h1, h2, h3⟩, h4, h5⟩ := h
  exact ⟨⟨l', h1, h2, isT_set (by omega) (fun _ _ => by simp) h3⟩, (Below.heap_setCell _ _ _ _ (by show w0.heap.size + 1 ≠ w0.heap.size; omega)).trans h4, h5.setCell (p := ⟨w0.heap.size, 4, none⟩) (Nat.le_refl _) _⟩
theorem TS.setD (h : TS w0 pt l b c d W) (d' : Nat) : TS w0 pt l b c d' (W.setCell ⟨w0.heap.size, 5, none⟩ (.int .i64 (wr d'))) := by
  obtain ⟨⟨l', h1, h2, h3⟩, h4, h5⟩ := h
  exact ⟨⟨l', h1, h2, isT_set (by omega) (fun _ _ => rfl) h3⟩, (Below.heap_setCell _ _ _ _ (by show w0.heap.size + 1 ≠ w0.heap.size; omega)).trans h4, h5.setCell (p := ⟨w0.heap.size, 5, none⟩) (Nat.le_refl _) _⟩
end
set_option maxRecDepth 100000 in
set_option maxHeartbeats 2000000 in
theorem write_any {w0 : World} {pt : Obj} {l : Str} {b : Bool} {c : Str} {d : Nat} (s : ByteArray) (W : World) (hs : s.size ≤ 140737488000000) (h : TS w0 pt l b c d W) :
    Calls Tryz.prog 80 #[tp w0, .string s] W fun e w' => e = .returned (.tuple #[]) ∧ TS w0 pt (l ++ s.data.toList) b c d w' := by
  have hss : s.data.toList.length = s.size := by simp
  have hc := h.cells
  obtain ⟨⟨c2, c3, c4, c5⟩, f2, f3, f4, f5⟩ := hc
  have hlow := h.low
  obtain ⟨⟨l', h1, h2, h3⟩, h4, h5⟩ := h
  have g1 : (s.size : Int) ≤ 140737488000000 := by omega
  have g2 : (l'.length : Int) ≤ 65536 := by omega
  have HL := Lib.hid (PB.len_any l' W h3)
  by_cases hl : 65536 < l.length
  · 
    have e1 : decide (65536 < l.length) = true := by simpa using hl
    rw [e1] at c2 h3
    have e2 : decide (65536 < (l ++ s.data.toList).length) = true := by simp; omega
    have HE : Hid (TS w0 pt (l ++ s.data.toList) b c d (W.setCell ⟨w0.heap.size, 2, none⟩ (.bool true))) := by
      refine ⟨⟨l', fun h => by simp at h; omega, h2, ?_⟩, (Below.heap_setCell _ _ _ _ (by show w0.heap.size + 1 ≠ w0.heap.size; omega)).trans h4, h5.setCell (p := ⟨w0.heap.size, 2, none⟩) (Nat.le_refl _) _⟩
      rw [e2]
      exact isT_set (by omega) (fun _ _ => rfl) h3
    clear h1 h2 h3 h4 h5 hlow e1 e2
    go_enter Tryz.func80, Tryz.ntmps80
    go_wp2
    go_end0
    exact ⟨rfl, HE.out⟩
  · have e1 : decide (65536 < l.length) = false := by simpa using hl
    obtain rfl := h1 (by omega)
    rw [e1] at c2 h3
    by_cases hf : 65536 < l'.length + s.size
    · have e2 : decide (65536 < (l' ++ s.data.toList).length) = true := by simp; omega
      have g3 : decide ((65536 : Int) < (l'.length : Int) + (s.size : Int)) = true := by simp; omega
      have HE : Hid (TS w0 pt (l' ++ s.data.toList) b c d (W.setCell ⟨w0.heap.size, 2, none⟩ (.bool true))) := by
        refine ⟨⟨l', fun h => by simp at h; omega, h2, ?_⟩, (Below.heap_setCell _ _ _ _ (by show w0.heap.size + 1 ≠ w0.heap.size; omega)).trans h4, h5.setCell (p := ⟨w0.heap.size, 2, none⟩) (Nat.le_refl _) _⟩
        rw [e2]
        exact isT_set (by omega) (fun _ _ => rfl) h3
      clear h1 h2 h3 h4 h5 hlow e1 e2
      go_enter Tryz.func80, Tryz.ntmps80
      go_wp2_with (go_at_call 102; refine HL.out.mono ?_; rintro e w1 ⟨rfl, rfl⟩)
      go_end0
      exact ⟨rfl, HE.out⟩
    · have e2 : decide (65536 < (l' ++ s.data.toList).length) = false := by simp; omega
      have g3 : decide ((65536 : Int) < (l'.length : Int) + (s.size : Int)) = false := by simp; omega
      have h6 : PB.IsT 71 [.bool false, .bool b, .string ⟨c.toArray⟩, .int .i64 (wr d)] w0.heap.size (w0.heap.size + 2) l' (W.setCell ⟨w0.heap.size, 2, none⟩ (.bool false)) := isT_set (by omega) (fun _ _ => rfl) h3
      have HW := Lib.hid (PB.writeS_any (PB.lies_teller _ _ _ _) (by omega) l' s _ h6 (by omega))
      have HE : Hid (∀ w', PB.Wrote 71 [.bool false, .bool b, .string ⟨c.toArray⟩, .int .i64 (wr d)] w0.heap.size (w0.heap.size + 2) l' s.data.toList (W.setCell ⟨w0.heap.size, 2, none⟩ (.bool false)) w' → TS w0 pt (l' ++ s.data.toList) b c d w') := by
        rintro w' ⟨k1, k2⟩
        refine ⟨⟨l' ++ s.data.toList, fun _ => rfl, by simp; omega, ?_⟩, ?_, ?_⟩
        · rw [e2]
          exact k1
        · rw [k2.block _ (by omega) (by omega)]
          exact (Below.heap_setCell _ _ _ _ (by show w0.heap.size + 1 ≠ w0.heap.size; omega)).trans h4
        · exact (h5.setCell (p := ⟨w0.heap.size, 2, none⟩) (Nat.le_refl _) _).trans (k2.below (by omega))
      have c2' : (W.setCell ⟨w0.heap.size, 2, none⟩ (.bool false)).cell? ⟨w0.heap.size, 2, none⟩ = some (.bool false) := by
        obtain ⟨p, v, hb, -⟩ := h6.at
        rw [Lib.cell_of_heap hb]; rfl
      clear h1 h2 h3 h4 h5 h6 hlow e1 e2
      go_enter Tryz.func80, Tryz.ntmps80
      go_wp2_with (first | (go_at_call 102; refine HL.out.mono ?_; rintro e w1 ⟨rfl, rfl⟩) | (go_at_call 122; refine HW.out.mono ?_; rintro e w1 ⟨rfl, hw⟩))
      go_end0
      exact ⟨rfl, HE.out _ hw⟩
def blk (b : Bool) : Str := if b then [32] else []
set_option maxRecDepth 100000 in
set_option maxHeartbeats 2000000 in
theorem word_any {w0 : World} {pt : Obj} {l : Str} {b : Bool} {c : Str} {d : Nat} (s : ByteArray) (W : World) (hs : s.size ≤ 140737488000000) (h : TS w0 pt l b c d W) :
    Calls Tryz.prog 67 #[tp w0, .string s] W fun e w' => e = .returned (.bool true) ∧ TS w0 pt (l ++ (blk b ++ s.data.toList)) true c d w' := by
  obtain ⟨⟨c2, c3, c4, c5⟩, f2, f3, f4, f5⟩ := h.cells
  have H1 := Lib.hid (write_any ⟨#[32]⟩ W (by decide) h)
  have H2 := Lib.hid (fun l b (W : World) (h : TS w0 pt l b c d W) => write_any s W hs h)
  have H3 := Lib.hid (fun l (W : World) (h : TS w0 pt l b c d W) => And.intro h.cells.1.2.1 (And.intro h.cells.2.2.1 (h.setB true)))
  have HT := Lib.hid h
  clear h
  cases b with
  | true =>
    go_enter Tryz.func67, Tryz.ntmps67
    go_wp2_with fail
    refine H1.out.mono ?_
    rintro e w1 ⟨rfl, h1⟩
    have K1 := Lib.hid h1
    clear h1
    go_wp2_with fail
    refine (H2.out _ _ _ K1.out).mono ?_
    rintro e w2 ⟨rfl, h2⟩
    obtain ⟨c3, f3, h3⟩ := H3.out _ _ h2
    have K3 := Lib.hid h3
    clear h2 h3
    go_wp2
    go_ret
    refine ⟨rfl, ?_⟩
    have := K3.out
    rwa [List.append_assoc] at this
  | false =>
    go_enter Tryz.func67, Tryz.ntmps67
    go_wp2_with fail
    refine (H2.out _ _ _ HT.out).mono ?_
    rintro e w2 ⟨rfl, h2⟩
    obtain ⟨c3, f3, h3⟩ := H3.out _ _ h2
    have K3 := Lib.hid h3
    clear h2 h3
    go_wp2
    go_ret
    exact ⟨rfl, K3.out⟩
set_option maxRecDepth 100000 in
set_option maxHeartbeats 2000000 in
theorem open_any {w0 : World} {pt : Obj} {l : Str} {b : Bool} {c : Str} {d : Nat} (W : World) (h : TS w0 pt l b c d W) :
    Calls Tryz.prog 66 #[tp w0] W fun e w' => e = .returned (.bool true) ∧ TS w0 pt (l ++ lay b [wO]) false c d w' := by
  have H2 := Lib.hid (word_any ⟨#[40]⟩ W (by decide) h)
  have H3 := Lib.hid (fun l (W : World) (h : TS w0 pt l true c d W) => And.intro h.cells.1.2.1 (And.intro h.cells.2.2.1 (h.setB false)))
  clear h
  go_enter Tryz.func66, Tryz.ntmps66
  go_wp2_with fail
  refine H2.out.mono ?_
  rintro e w2 ⟨rfl, h2⟩
  obtain ⟨c3, f3, h3⟩ := H3.out _ _ h2
  have K3 := Lib.hid h3
  clear h2 h3
  go_wp2
  go_ret
  refine ⟨rfl, ?_⟩
  have h4 := K3.out
  have e4 : blk b ++ (⟨#[40]⟩ : ByteArray).data.toList = lay b [wO] := by cases b <;> rfl
  rwa [e4] at h4
set_option maxRecDepth 100000 in
set_option maxHeartbeats 2000000 in
theorem shut_any {w0 : World} {pt : Obj} {l : Str} {b : Bool} {c : Str} {d : Nat} (W : World) (h : TS w0 pt l b c d W) :
    Calls Tryz.prog 46 #[tp w0] W fun e w' => e = .returned (.bool true) ∧ TS w0 pt (l ++ lay b [wC]) true c d w' := by
  have H2 := Lib.hid (write_any ⟨#[41]⟩ W (by decide) h)
  have H3 := Lib.hid (fun l (W : World) (h : TS w0 pt l b c d W) => And.intro h.cells.1.2.1 (And.intro h.cells.2.2.1 (h.setB true)))
  clear h
  go_enter Tryz.func46, Tryz.ntmps46
  go_wp2_with fail
  refine H2.out.mono ?_
  rintro e w2 ⟨rfl, h2⟩
  obtain ⟨c3, f3, h3⟩ := H3.out _ _ h2
  have K3 := Lib.hid h3
  clear h2 h3
  go_wp2
  go_ret
  refine ⟨rfl, ?_⟩
  have h4 := K3.out
  have e4 : ([41] : Str) = lay b [wC] := by cases b <;> rfl
  rwa [e4] at h4
set_option maxRecDepth 100000 in
set_option maxHeartbeats 2000000 in
theorem opens_any {w0 : World} {pt : Obj} {l : Str} {b : Bool} {c : Str} {d : Nat} (s : ByteArray) (W : World) (hs : s.size ≤ 140737488000000) (h : TS w0 pt l b c d W) :
    Calls Tryz.prog 41 #[tp w0, .string s] W fun e w' => e = .returned (.bool true) ∧ TS w0 pt (l ++ lay b [wO, wN s.data.toList]) true c d w' := by
  have H1 := Lib.hid (open_any W h)
  have H2 := Lib.hid (fun l b (W : World) (h : TS w0 pt l b c d W) => word_any s W hs h)
  clear h
  go_enter Tryz.func41, Tryz.ntmps41
  go_wp2_with fail
  refine H1.out.mono ?_
  rintro e w1 ⟨rfl, h1⟩
  have K1 := Lib.hid h1
  clear h1
  go_wp2_with fail
  refine (H2.out _ _ _ K1.out).mono ?_
  rintro e w2 ⟨rfl, h2⟩
  have K2 := Lib.hid h2
  clear h2
  go_wp2
  go_ret
  refine ⟨rfl, ?_⟩
  have h4 := K2.out
  have e4 : l ++ lay b [wO] ++ (blk false ++ s.data.toList) = l ++ lay b [wO, wN s.data.toList] := by
    rw [List.append_assoc]
    congr 1
    show _ = lay b ([wO] ++ [wN s.data.toList])
    rw [lay_append]
    congr 1
    simp [blk, lay, aft, wN, wO, LX.toldW]
  rwa [e4] at h4
set_option maxRecDepth 100000 in
set_option maxHeartbeats 2000000 in
theorem end_any {w0 : World} {pt : Obj} {l : Str} {b : Bool} {c : Str} {d : Nat} (W : World) (h : TS w0 pt l b c d W) :
    Calls Tryz.prog 47 #[tp w0] W fun e w' => e = .returned (.bool true) ∧ TS w0 pt (l ++ [10]) false c d w' := by
  have H2 := Lib.hid (write_any ⟨#[10]⟩ W (by decide) h)
  have H3 := Lib.hid (fun l (W : World) (h : TS w0 pt l b c d W) => And.intro h.cells.1.2.1 (And.intro h.cells.2.2.1 (h.setB false)))
  clear h
  go_enter Tryz.func47, Tryz.ntmps47
  go_wp2_with fail
  refine H2.out.mono ?_
  rintro e w2 ⟨rfl, h2⟩
  obtain ⟨c3, f3, h3⟩ := H3.out _ _ h2
  have K3 := Lib.hid h3
  clear h2 h3
  go_wp2
  go_ret
  exact ⟨rfl, K3.out⟩
theorem word_told {w0 : World} {pt : Obj} {l : Str} {b : Bool} {c : Str} {d : Nat} (w : LX.LW) (s : ByteArray) (W : World) (hs : s.size ≤ 140737488000000) (hk : w.k ≠ 4 ∧ w.k ≠ 5) (he : LX.toldW w = s.data.toList) (h : TS w0 pt l b c d W) :
    Calls Tryz.prog 67 #[tp w0, .string s] W (PostT w0 pt l b c (oneT w d)) := by
  refine (word_any s W hs h).mono ?_
  rintro e w' ⟨rfl, h⟩
  refine .inl ⟨[w], d, rfl, rfl, ?_⟩
  have e1 : lay b [w] = blk b ++ s.data.toList := by
    simp only [lay, he, List.append_nil, blk]
    cases b
    · rw [if_neg (by simp)]; rfl
    · rw [if_pos ⟨hk.2, rfl⟩]; rfl
  have e2 : aft b [w] = true := by simp only [aft]; simpa using hk.1
  rw [e1, e2]
  exact h
end Go.Proofs.YtedmmgfnplbkjaaGreatDoor.PR
namespace Go.Proofs.YtedmmgfnplbkjaaGreatDoor.PR
set_option linter.unusedVariables false
set_option linter.unusedSimpArgs false
open Go.Proofs.YtedmmgfnplbkjaaGreatDoor Go.RowKit G
theorem name_no {s : Str} (h : nameOk s = false) (d : Nat) : nameT s d = none := by
  unfold nameT
  rw [h]
  rfl
theorem name_yes {s : Str} (h : nameOk s = true) (d : Nat) : nameT s d = oneT (wN s) d := by
  unfold nameT
  rw [h]
  rfl
def wordsOk (s : Str) : Bool := match LX.lex 0 s with
  | .ok [w] => w.k == 1 && w.s == s
  | _ => false
theorem nameOk_eq (s : Str) : nameOk s = (!resB s && (decide (s.length ≤ 65536) && wordsOk s)) := rfl
set_option maxRecDepth 100000 in
set_option maxHeartbeats 1000000 in
theorem words_huge (s : ByteArray) (w : World) (hs : 65536 < s.size) :
    Calls Tryz.prog 23 #[.string s] w fun e w' => e = .returned (.tuple #[.slice none 0 0, .int .i64 0, .int .i64 3]) ∧ w = w' := by
  have g : (65536 : Int) < (s.size : Int) := by omega
  go_enter Tryz.func23, Tryz.ntmps23
  go_wp2
  go_ret3
  exact ⟨rfl, rfl⟩
set_option maxRecDepth 100000 in
set_option maxHeartbeats 4000000 in
theorem isName_any (s : Str) (W : World) (ht : LTabs W) :
    Calls Tryz.prog 68 #[.string ⟨s.toArray⟩] W fun e w' => e = .returned (.bool (nameOk s)) ∧ Below W.heap.size W w' := by
  have hsz : (⟨s.toArray⟩ : ByteArray).size = s.length := rfl
  have hsl : (⟨s.toArray⟩ : ByteArray).data.toList = s := by simp
  have HW : Hid ((65536 < s.length ∧ Calls Tryz.prog 23 #[.string ⟨s.toArray⟩] W fun e w' => e = .returned (.tuple #[.slice none 0 0, .int .i64 0, .int .i64 3]) ∧ W = w') ∨ (s.length ≤ 65536 ∧ Calls Tryz.prog 23 #[.string ⟨s.toArray⟩] W (PostWords (LX.lex 0 s) W))) := by
    rcases Nat.lt_or_ge 65536 s.length with h | h
    · exact .inl ⟨h, words_huge ⟨s.toArray⟩ W (by rw [hsz]; exact h)⟩
    · have := words_any ⟨s.toArray⟩ W (by rw [hsz]; exact h) ht
      rw [hsl] at this
      exact .inr ⟨h, this⟩
  have HF := Lib.hid (Below.refl W.heap.size W)
  obtain ⟨q, hq⟩ : ∃ q, nameOk s = q := ⟨_, rfl⟩
  rw [hq]
  have H4 : Hid (∀ a b c d, (s == [121, 101, 115]) = a → (s == [110, 111]) = b → (s == [110, 111, 110, 101]) = c → (s == [45]) = d → q = (!(a || b || c || d) && (decide (s.length ≤ 65536) && wordsOk s))) := by
    rintro a b c d rfl rfl rfl rfl
    rw [← hq, nameOk_eq]
    rfl
  clear ht hsz hsl hq
  obtain ⟨a, ha⟩ : ∃ a, (s == [121, 101, 115]) = a := ⟨_, rfl⟩
  obtain ⟨b, hb⟩ : ∃ a, (s == [110, 111]) = a := ⟨_, rfl⟩
  obtain ⟨c, hc⟩ : ∃ a, (s == [110, 111, 110, 101]) = a := ⟨_, rfl⟩
  obtain ⟨d, hd⟩ : ∃ a, (s == [45]) = a := ⟨_, rfl⟩
  have H5 := Lib.hid (H4.out _ _ _ _ ha hb hc hd)
  clear H4
  cases a with
  | true =>
    go_enter Tryz.func68, Tryz.ntmps68
    go_wp2
    go_ret
    exact ⟨by rw [H5.out]; rfl, HF.out⟩
  | false =>
  cases b with
  | true =>
    go_enter Tryz.func68, Tryz.ntmps68
    go_wp2
    go_ret
    exact ⟨by rw [H5.out]; rfl, HF.out⟩
  | false =>
  cases c with
  | true =>
    go_enter Tryz.func68, Tryz.ntmps68
    go_wp2
    go_ret
    exact ⟨by rw [H5.out]; rfl, HF.out⟩
  | false =>
  cases d with
  | true =>
    go_enter Tryz.func68, Tryz.ntmps68
    go_wp2
    go_ret
    exact ⟨by rw [H5.out]; rfl, HF.out⟩
  | false =>
    rcases HW.out with ⟨hlt, hw⟩ | ⟨hle, hw⟩
    · have HQ : Hid (q = false) := by rw [Hid, H5.out]; simp; omega
      have HW2 := Lib.hid hw
      clear hw hlt
      go_enter Tryz.func68, Tryz.ntmps68
      go_wp2_with (go_at_call 23; refine HW2.out.mono ?_; rintro e w1 ⟨rfl, rfl⟩)
      go_ret
      exact ⟨by rw [HQ.out]; rfl, HF.out⟩
    · have HQ : Hid (q = wordsOk s) := by rw [Hid, H5.out]; simp [hle]
      have HW2 := Lib.hid hw
      clear hw hle
      cases hl : LX.lex 0 s with
      | err n =>
        rw [hl] at HW2
        have HQ2 : Hid (q = false) := by rw [Hid, HQ.out, wordsOk, hl]
        clear hl
        go_enter Tryz.func68, Tryz.ntmps68
        go_wp2_with (go_at_call 23; refine HW2.out.mono ?_; rintro e w1 ⟨rfl, hb1⟩)
        go_ret
        exact ⟨by rw [HQ2.out]; rfl, hb1⟩
      | ok ws =>
        rw [hl] at HW2
        match ws, hl with
        | [], hl =>
          have HQ2 : Hid (q = false) := by rw [Hid, HQ.out, wordsOk, hl]
          clear hl
          go_enter Tryz.func68, Tryz.ntmps68
          go_wp2_with (go_at_call 23; refine HW2.out.mono ?_; rintro e w1 ⟨⟨v, rfl, ho⟩, hb1⟩; obtain ⟨ao, cap, rfl⟩ : ∃ ao cap, v = .slice ao 0 cap := (by rcases ho.2 with ⟨h0, -⟩ | ⟨g, cap, cur, h0, -⟩; exact ⟨none, 0, h0⟩; exact ⟨_, cap, h0⟩))
          go_ret
          exact ⟨by rw [HQ2.out]; rfl, hb1⟩
        | x :: y :: t, hl =>
          have HQ2 : Hid (q = false) := by rw [Hid, HQ.out, wordsOk, hl]
          have hne : (((t.length + 1 + 1 : Nat) : Int) == 1) = false := by simp; omega
          clear hl
          go_enter Tryz.func68, Tryz.ntmps68
          go_wp2_with (go_at_call 23; refine HW2.out.mono ?_; rintro e w1 ⟨⟨v, rfl, ho⟩, hb1⟩; obtain ⟨ao, cap, rfl⟩ : ∃ ao cap, v = .slice ao (t.length + 1 + 1) cap := (by rcases ho.2 with ⟨h0, h1⟩ | ⟨g, cap, cur, h0, -⟩; cases h1; exact ⟨_, cap, h0⟩))
          go_ret
          exact ⟨by rw [HQ2.out]; rfl, hb1⟩
        | [x], hl =>
          obtain ⟨k1, hk1⟩ : ∃ k, (((x.k : Nat) : Int) == 1) = k := ⟨_, rfl⟩
          obtain ⟨s1, hs1⟩ : ∃ k, (x.s == s) = k := ⟨_, rfl⟩
          have HQ2 : Hid (q = (k1 && s1)) := by
            rw [Hid, HQ.out, wordsOk, hl, ← hk1, ← hs1]
            simp only []
            congr 1
            by_cases h : x.k = 1
            · rw [h]; rfl
            · have e1 : ((x.k : Int) == 1) = false := by simp; omega
              rw [e1]; simpa using h
          clear hl
          go_enter Tryz.func68, Tryz.ntmps68
          go_wp2_with (go_at_call 23; refine HW2.out.mono ?_; rintro e w1 ⟨⟨v, rfl, ho⟩, hb1⟩; obtain ⟨g, cap, rfl, hcap, hc0, hc1⟩ : ∃ g cap, v = .slice (some ⟨g, 0, none⟩) 1 cap ∧ 1 ≤ cap ∧ w1.cell? ⟨g, 0, none⟩ = some (.int .u8 x.k) ∧ w1.cell? ⟨g, 1, none⟩ = some (.string ⟨x.s.toArray⟩) := (by rcases id ho.2 with ⟨h0, h1⟩ | ⟨g, cap, cur, h0, -, -, h2, -⟩; cases h1; exact ⟨g, cap, h0, h2, ho.cells (g := g) (by rw [h0]; rfl) 0 _ rfl, ho.cells (g := g) (by rw [h0]; rfl) 1 _ rfl⟩); have HB := Lib.hid hb1; clear hb1 ho)
          · have h : k1 = true := by assumption
            subst h
            go_ret
            exact ⟨by rw [HQ2.out]; rfl, HB.out⟩
          · have h : k1 = false := by
              cases k1 with
              | false => rfl
              | true => have h : ¬ true = true := by assumption
                        exact absurd rfl h
            subst h
            go_ret
            exact ⟨by rw [HQ2.out]; rfl, HB.out⟩
set_option maxRecDepth 100000 in
set_option maxHeartbeats 2000000 in
theorem name_any {w0 : World} {pt : Obj} {l : Str} {b : Bool} {c : Str} {d : Nat} (s : Str) (W : World) (ht : LTabs w0) (h : TS w0 pt l b c d W) :
    Calls Tryz.prog 42 #[tp w0, .string ⟨s.toArray⟩] W (PostT w0 pt l b c (nameT s d)) := by
  have H1 := Lib.hid (isName_any s W (ht.below h.low ht.gb))
  have H2 := Lib.hid (fun (hn : nameOk s = true) W' (hb : Below W.heap.size W W') => word_told (wN s) ⟨s.toArray⟩ W' (by show s.length ≤ _; unfold nameOk at hn; simp at hn; omega) (by simp [wN]) (by simp [wN, LX.toldW]) (h.keep hb))
  have H3 : Hid (∀ W', Below W.heap.size W W' → Below w0.heap.size w0 W') := fun W' hb => h.low.trans (hb.mono h.low.size)
  obtain ⟨q, hq⟩ : ∃ q, nameOk s = q := ⟨_, rfl⟩
  clear h ht
  cases q with
  | true =>
    rw [name_yes hq]
    rw [hq] at H1
    have H2 := Lib.hid (H2.out hq)
    clear hq
    go_enter Tryz.func42, Tryz.ntmps42
    go_wp2_with fail
    refine H1.out.mono ?_
    rintro e w1 ⟨rfl, hb⟩
    have K := Lib.hid (H2.out _ hb)
    clear hb
    go_wp2_with fail
    refine K.out.mono ?_
    rintro e w2 (⟨u, d', hu, rfl, h2⟩ | ⟨hu, rfl, h2⟩)
    · have K2 := Lib.hid h2
      clear h2
      go_wp2
      go_ret
      exact .inl ⟨u, d', hu, rfl, K2.out⟩
    · cases hu
  | false =>
    rw [name_no hq]
    rw [hq] at H1
    clear hq H2
    go_enter Tryz.func42, Tryz.ntmps42
    go_wp2_with fail
    refine H1.out.mono ?_
    rintro e w1 ⟨rfl, hb⟩
    have K := Lib.hid (H3.out _ hb)
    clear hb
    go_wp2
    go_ret
    exact .inr ⟨rfl, rfl, K.out⟩
set_option maxRecDepth 100000 in
set_option maxHeartbeats 8000000 in
theorem op_any {w0 : World} {pt : Obj} {l : Str} {b : Bool} {c : Str} {d : Nat} (s : Str) (W : World) (ht : LTabs w0) (h : TS w0 pt l b c d W) :
    Calls Tryz.prog 131 #[tp w0, .string ⟨s.toArray⟩] W (PostT w0 pt l b c (opT s d)) := by
  have H1 := Lib.hid (name_any s W ht h)
  have H3 := Lib.hid h.low
  obtain ⟨r, hr⟩ : ∃ r, opT s d = r := ⟨_, rfl⟩
  have HR : Hid ((keyB s = true → r = none) ∧ (keyB s = false → nameT s d = r)) := by
    refine ⟨fun h => ?_, fun h => ?_⟩ <;> (rw [← hr, opT, h]; rfl)
  rw [hr]
  clear h ht hr
  obtain ⟨k0, hk0⟩ : ∃ k, (s == [105, 102]) = k := ⟨_, rfl⟩
  obtain ⟨k1, hk1⟩ : ∃ k, (s == [101, 97, 99, 104]) = k := ⟨_, rfl⟩
  obtain ⟨k2, hk2⟩ : ∃ k, (s == [114, 101, 97, 100]) = k := ⟨_, rfl⟩
  obtain ⟨k3, hk3⟩ : ∃ k, (s == [116, 104, 114, 111, 119]) = k := ⟨_, rfl⟩
  obtain ⟨k4, hk4⟩ : ∃ k, (s == [114, 101, 99]) = k := ⟨_, rfl⟩
  obtain ⟨k5, hk5⟩ : ∃ k, (s == [100, 111]) = k := ⟨_, rfl⟩
  obtain ⟨k6, hk6⟩ : ∃ k, (s == [104, 111, 115, 116]) = k := ⟨_, rfl⟩
  obtain ⟨k7, hk7⟩ : ∃ k, (s == [110, 101, 119]) = k := ⟨_, rfl⟩
  obtain ⟨k8, hk8⟩ : ∃ k, (s == [112, 117, 114, 101]) = k := ⟨_, rfl⟩
  obtain ⟨k9, hk9⟩ : ∃ k, (s == [102, 114, 97, 103]) = k := ⟨_, rfl⟩
  obtain ⟨k10, hk10⟩ : ∃ k, (s == [112, 111, 114, 116, 97, 108]) = k := ⟨_, rfl⟩
  obtain ⟨k11, hk11⟩ : ∃ k, (s == [103, 105, 118, 101]) = k := ⟨_, rfl⟩
  obtain ⟨k12, hk12⟩ : ∃ k, (s == [103, 117, 97, 114, 100]) = k := ⟨_, rfl⟩
  obtain ⟨k13, hk13⟩ : ∃ k, (s == [119, 97, 105, 116]) = k := ⟨_, rfl⟩
  have HK : Hid (keyB s = (k0 || k1 || k2 || k3 || k4 || k5 || k6 || k7 || k8 || k9 || k10 || k11 || k12 || k13)) := by
    rw [Hid, ← hk0, ← hk1, ← hk2, ← hk3, ← hk4, ← hk5, ← hk6, ← hk7, ← hk8, ← hk9, ← hk10, ← hk11, ← hk12, ← hk13]
    rfl
  go_enter Tryz.func131, Tryz.ntmps131
  go_wp2_with (go_at_call 42; refine H1.out.mono ?_; rintro e w1 (⟨u, d', hu, rfl, h2⟩ | ⟨hu, rfl, h2⟩))
  all_goals go_ret
  all_goals (first
    | (refine .inl ⟨u, d', (HR.out.2 ?_).symm.trans hu, rfl, h2⟩; rw [HK.out]; simp_all; done)
    | (refine .inr ⟨(HR.out.2 ?_).symm.trans hu, rfl, h2⟩; rw [HK.out]; simp_all; done)
    | (refine .inr ⟨HR.out.1 ?_, rfl, H3.out⟩; rw [HK.out]; simp_all; done))
theorem wr_range (d : Nat) : -9223372036854775808 ≤ wr d ∧ wr d ≤ 9223372036854775807 := by
  unfold wr IntKind.wrap
  simp [IntKind.bits, IntKind.signed]
  split <;> omega
theorem wr_succ (d : Nat) : IntKind.i64.wrap (wr d + 1) = wr (d + 1) := by
  unfold wr IntKind.wrap
  simp [IntKind.bits, IntKind.signed]
  split <;> split <;> split <;> omega
set_option maxRecDepth 100000 in
set_option maxHeartbeats 2000000 in
theorem truth_any {w0 : World} {pt : Obj} {l : Str} {b : Bool} {c : Str} {d : Nat} (n : Int) (W : World) (h : TS w0 pt l b c d W) :
    Calls Tryz.prog 76 #[tp w0, .int .i64 n] W (PostT w0 pt l b c (truthT n d)) := by
  have H1 := Lib.hid (word_told (wN [121, 101, 115]) ⟨#[121, 101, 115]⟩ W (by decide) (by simp [wN]) rfl h)
  have H2 := Lib.hid (word_told (wN [110, 111]) ⟨#[110, 111]⟩ W (by decide) (by simp [wN]) rfl h)
  have H3 := Lib.hid h.low
  clear h
  unfold truthT
  by_cases h1 : n = 1
  · subst h1
    rw [if_pos rfl]
    go_enter Tryz.func76, Tryz.ntmps76
    go_wp2_with (go_at_call 67; refine H1.out.mono ?_; rintro e w2 (⟨u, d', hu, rfl, h2⟩ | ⟨hu, rfl, h2⟩))
    · go_ret
      exact .inl ⟨u, d', hu, rfl, h2⟩
    · cases hu
  · rw [if_neg h1]
    have e1 : (n == 1) = false := by simpa using h1
    by_cases h0 : n = 0
    · subst h0
      rw [if_pos rfl]
      go_enter Tryz.func76, Tryz.ntmps76
      go_wp2_with (go_at_call 67; refine H2.out.mono ?_; rintro e w2 (⟨u, d', hu, rfl, h2⟩ | ⟨hu, rfl, h2⟩))
      · go_ret
        exact .inl ⟨u, d', hu, rfl, h2⟩
      · cases hu
    · rw [if_neg h0]
      have e0 : (n == 0) = false := by simpa using h0
      go_enter Tryz.func76, Tryz.ntmps76
      go_wp2
      go_ret
      exact .inr ⟨rfl, rfl, H3.out⟩
set_option maxRecDepth 100000 in
set_option maxHeartbeats 8000000 in
theorem site_any {w0 : World} {pt : Obj} {l : Str} {b : Bool} {c : Str} {d : Nat} (s : Str) (W : World) (hc : c.length ≤ 70000) (ht : LTabs w0) (h : TS w0 pt l b c d W) :
    Calls Tryz.prog 134 #[tp w0, .string ⟨s.toArray⟩] W fun e w' => e = .returned (.bool (s == siteW c d)) ∧ TS w0 pt l b c (d + 1) w' := by
  have hdr := wr_range d
  have hlen := Lib.itoa_length_le (wr d) (by omega) (by omega)
  have HI : Hid (∀ w, LTabs w → Calls Tryz.prog 176 #[.int .i64 (wr d)] w fun e w' => e = .returned (.string ⟨(Lib.itoa (wr d)).toArray⟩) ∧ Below w.heap.size w w') := fun w ht => (Tryz.strconv_Itoa (wr d) (by omega) (by omega) w ht.1).mono (by
    rintro e w' ⟨rfl, k, os, rfl⟩
    exact ⟨rfl, Lib.below_grow _ _ (Nat.le_refl _) _ _⟩)
  have hroom := h.room
  have HT := Lib.hid (ht.below h.low ht.gb)
  have HR := Lib.hid h
  obtain ⟨⟨c2, c3, c4, c5⟩, f2, f3, f4, f5⟩ := h.cells
  obtain ⟨x1, hx1⟩ : ∃ x, ByteArray.append ⟨c.toArray⟩ ⟨#[35]⟩ = x := ⟨_, rfl⟩
  obtain ⟨bi, hbi⟩ : ∃ bc : ByteArray, (⟨(Lib.itoa (wr d)).toArray⟩ : ByteArray) = bc := ⟨_, rfl⟩
  obtain ⟨x2, hx2⟩ : ∃ x, ByteArray.append x1 bi = x := ⟨_, rfl⟩
  have hs1 : x1.size = c.length + 1 := by rw [← hx1]; simp [ByteArray.append, ByteArray.size]
  have hsi : bi.size ≤ 21 := by rw [← hbi]; exact hlen
  have K1 : ∀ W, (Op.stringOp .add ⟨c.toArray⟩ ⟨#[35]⟩).run Tryz.prog W = .ok (.string x1) W := fun W => by rw [← hx1]; exact run_string_add_sum W _ _ (by show c.length + 1 ≤ _; omega)
  have K2' : ∀ W, (Op.stringOp .add x1 bi).run Tryz.prog W = .ok (.string x2) W := fun W => by rw [← hx2]; exact run_string_add_sum W _ _ (by omega)
  have hx : x2.data.toList = siteW c d := by
    rw [← hx2, ← hx1, ← hbi]
    simp [ByteArray.append, siteW]
  obtain ⟨q, hq⟩ : ∃ q, (s == x2.data.toList) = q := ⟨_, rfl⟩
  have HX : Hid ((s == siteW c d) = q) := by rw [Hid, ← hx]; exact hq
  clear hx
  rw [hbi] at HI
  have HW1 : Hid (∀ w1, Below W.heap.size W w1 → w1.cell? ⟨w0.heap.size, 4, none⟩ = some (.string ⟨c.toArray⟩) ∧ w1.cell? ⟨w0.heap.size, 5, none⟩ = some (.int .i64 (wr d))) := fun w1 hb =>
    ⟨by rw [hb.cell (p := ⟨w0.heap.size, 4, none⟩) (by show w0.heap.size < _; omega)]; exact HR.out.cells.1.2.2.1, by rw [hb.cell (p := ⟨w0.heap.size, 5, none⟩) (by show w0.heap.size < _; omega)]; exact HR.out.cells.1.2.2.2⟩
  have hw1 : IntKind.i64.wrap (wr d + 1) = wr (d + 1) := wr_succ d
  clear h ht hx1 hx2 hbi hdr hlen
  go_enter Tryz.func134, Tryz.ntmps134
  go_wp2
  go_region_held3 (fun w' => Below W.heap.size W w' ∧ w'.cell? ⟨w0.heap.size, 4, none⟩ = some (.string ⟨c.toArray⟩) ∧ w'.cell? ⟨w0.heap.size, 5, none⟩ = some (.int .i64 (wr d))) (first | exact ⟨(Below.refl _ _).drew, HW1.out _ ((Below.refl _ _).drew)⟩ | exact ⟨hbx, HW1.out _ hbx⟩)
    (first | (go_at_call 176; (with_reducible refine (HI.out _ (HT.out.below (Below.refl _ _).drew HT.out.gb)).mono ?_); rintro x w1 ⟨rfl, hby⟩; have hbx : Below W.heap.size W w1 := (Below.refl W.heap.size W).drew.trans hby))
  have HBX := Lib.hid (hbx : Below W.heap.size W w1)
  obtain ⟨d0, d1⟩ := HW1.out _ hbx
  have hrd := HR.out.keep hbx
  obtain ⟨-, f2, f3, f4, f5⟩ := hrd.cells
  have HR2 := Lib.hid hrd
  clear hrd
  go_wp2
  go_ret
  refine ⟨?_, HR2.out.setD (d + 1)⟩
  rw [← Lib.toList_data] at hq
  rw [HX.out, ← hq]
  rfl
end Go.Proofs.YtedmmgfnplbkjaaGreatDoor.PR
namespace Go.Proofs.YtedmmgfnplbkjaaGreatDoor.PR
set_option linter.unusedVariables false
set_option linter.unusedSimpArgs false
open Go.Proofs.YtedmmgfnplbkjaaGreatDoor Go.RowKit G
def esc1 (c : UInt8) : Str := if c = 34 then [92, 34] else if c = 92 then [92, 92] else if c = 10 then [92, 110] else [c]
theorem esc_flat (s : Str) : LX.esc s = s.flatMap esc1 := by
  induction s with
  | nil => rfl
  | cons c t ih =>
    rw [List.flatMap_cons, ← ih]
    have key : ∀ k : Nat, k < 256 → (c.toNat = k ↔ c = UInt8.ofNat k) := fun k hk => ⟨fun h => by rw [← h, UInt8.ofNat_toNat], fun h => by rw [h]; simp; omega⟩
    have k34 := key 34 (by decide)
    have k92 := key 92 (by decide)
    have k10 := key 10 (by decide)
    show (if c.toNat = 34 ∨ c.toNat = 92 then 92 :: c :: LX.esc t else if c.toNat = 10 then 92 :: 110 :: LX.esc t else c :: LX.esc t) = esc1 c ++ LX.esc t
    unfold esc1
    by_cases h1 : c = 34
    · rw [if_pos (.inl (k34.2 h1)), if_pos h1, h1]; rfl
    · by_cases h2 : c = 92
      · rw [if_pos (.inr (k92.2 h2)), if_neg h1, if_pos h2, h2]; rfl
      · rw [if_neg (by rw [k34, k92]; intro h; rcases h with h | h; exact h1 h; exact h2 h), if_neg h1, if_neg h2]
        by_cases h3 : c = 10
        · rw [if_pos (k10.2 h3), if_pos h3]; rfl
        · rw [if_neg (fun h => h3 (k10.1 h)), if_neg h3]; rfl
def escTo (s : Str) (j : Nat) : Str := (s.take j).flatMap esc1
theorem escTo_succ {s : Str} {j : Nat} (h : j < s.length) : escTo s (j + 1) = escTo s j ++ esc1 s[j] := by
  rw [escTo, escTo, List.take_succ_eq_append_getElem h, List.flatMap_append]
  simp
theorem esc1_len (c : UInt8) : (esc1 c).length ≤ 2 := by
  unfold esc1
  split
  · decide
  split
  · decide
  split
  · decide
  · exact Nat.le_succ _
theorem escTo_len (s : Str) : ∀ j, (escTo s j).length ≤ 2 * j
  | 0 => by simp [escTo]
  | j + 1 => by
    rcases Nat.lt_or_ge j s.length with h | h
    · rw [escTo_succ h, List.length_append]
      have := escTo_len s j
      have := esc1_len s[j]
      omega
    · have h1 := escTo_len s j
      have h2 : escTo s (j + 1) = escTo s j := by rw [escTo, escTo, List.take_of_length_le (by omega), List.take_of_length_le h]
      rw [h2]; omega
theorem ne_byte {c : UInt8} {k : Nat} (h : ¬ c = UInt8.ofNat k) : ((c.toNat : Int) == (k : Int)) = false := by
  rw [beq_eq_false_iff_ne]
  intro e
  apply h
  have : c.toNat = k := by omega
  rw [← this, UInt8.ofNat_toNat]
abbrev WQ (W : World) (a l : Str) (w w' : World) : Prop := PB.Wrote 69 [] W.heap.size (W.heap.size + 1) a l w w'
set_option maxRecDepth 100000 in
set_option maxHeartbeats 4000000 in
theorem quoted_any {w0 : World} {pt : Obj} {l : Str} {b : Bool} {c : Str} {d : Nat} (s : ByteArray) (W : World) (h : TS w0 pt l b c d W) :
    Calls Tryz.prog 77 #[tp w0, .string s] W (PostT w0 pt l b c (textT s.data.toList d)) := by
  have hsl : s.data.toList.length = s.size := by simp
  by_cases hbig : 4096 < s.size
  · have H3 := Lib.hid h.low
    have e : textT s.data.toList d = none := by unfold textT; rw [if_neg (by omega)]
    rw [e]
    have g : (4096 : Int) < (s.size : Int) := by omega
    clear h hsl e
    go_enter Tryz.func77, Tryz.ntmps77
    go_wp2
    go_ret
    exact .inr ⟨rfl, rfl, H3.out⟩
  · have e : textT s.data.toList d = oneT (wT s.data.toList) d := by unfold textT; rw [if_pos (by omega)]
    rw [e]
    have g : ¬ (4096 : Int) < (s.size : Int) := by omega
    have hW0 : PB.IsT 69 [] W.heap.size (W.heap.size + 1) [] (W.alloc (.cells #[.pointer none, .slice none 0 0] 69)) :=
      ⟨.inl ⟨.slice none 0 0, heap_alloc_new _ _, World.ownsRow_nil _ _ _ _⟩, by simp⟩
    obtain ⟨w1, hw1⟩ : ∃ w1, W.alloc (.cells #[.pointer none, .slice none 0 0] 69) = w1 := ⟨_, rfl⟩
    have HLOW : Hid (∀ w', PB.Fr W.heap.size (W.heap.size + 1) w1 w' → Below W.heap.size W w') := fun w' hf => ((Below.refl W.heap.size W).alloc (Nat.le_refl _) _ |>.trans (by rw [hw1]; exact hf.below (by omega)))
    rw [hw1] at hW0
    have HB := Lib.hid (fun (l' : Str) (c : UInt8) (w : World) (h : PB.IsT 69 [] W.heap.size (W.heap.size + 1) l' w) (hl : l'.length + 1 ≤ 140737488355328) => PB.writeB_any PB.lies_own (by omega) l' c w h hl)
    have HN := Lib.hid (fun (l' : Str) (w : World) (h : PB.IsT 69 [] W.heap.size (W.heap.size + 1) l' w) (hl : l'.length + 2 ≤ 140737488355328) => PB.writeS_any PB.lies_own (by omega) l' ⟨#[92, 110]⟩ w h hl)
    have H0 := Lib.hid (HB.out [] 34 w1 hW0 (by decide))
    have HS := Lib.hid (fun (l' : Str) (w : World) (h : PB.IsT 69 [] W.heap.size (W.heap.size + 1) l' w) (h0 : l' ≠ []) => PB.string_any l' w h h0)
    have HT := Lib.hid (fun w' (hb : Below W.heap.size W w') => word_told (wT s.data.toList) ⟨(LX.quotedL s.data.toList).toArray⟩ w' (by
      show (LX.quotedL s.data.toList).length ≤ _
      have := escTo_len s.data.toList s.data.toList.length
      rw [escTo, List.take_length, ← esc_flat] at this
      simp only [LX.quotedL, List.length_cons, List.length_append, List.length_nil]
      omega) (by simp [wT]) (by simp [wT, LX.toldW]) (h.keep hb))
    have HQ : Hid (LX.quotedL s.data.toList = 34 :: (escTo s.data.toList s.size ++ [34])) := by
      rw [Hid, LX.quotedL, esc_flat, escTo, List.take_of_length_le (by omega)]
    have g2 : s.size ≤ 4096 := by omega
    clear h hW0 e hbig
    go_enter Tryz.func77, Tryz.ntmps77
    go_wp2_with fail
    refine H0.out.mono ?_
    rintro x w2 ⟨rfl, hw⟩
    have HW := Lib.hid hw
    clear hw
    go_wp2_with fail
    go_loopw [14] (fun i wr => ∃ j : Nat, j ≤ s.size ∧ i = .int .i64 j ∧ WQ W [] (34 :: escTo s.data.toList j) w1 wr) (fun i _ => s.size - (intOf i).toNat)
    case atStart => exact ⟨0, Nat.zero_le _, rfl, HW.out⟩
    case round =>
      obtain ⟨j, hj, rfl, hw⟩ := hrel
      have HR := Lib.hid hw
      clear hw
      by_cases hlt : j < s.size
      · have hjl : j < s.data.toList.length := by simpa using hlt
        have HE : Hid (escTo s.data.toList (j + 1) = escTo s.data.toList j ++ esc1 s[j]) := escTo_succ hjl
        have BN : Hid (([] ++ 34 :: escTo s.data.toList j : Str).length + 4 ≤ 140737488355328) := by
          have := escTo_len s.data.toList j
          simp only [Hid, List.nil_append, List.length_cons]
          omega
        by_cases c34 : s[j] = 34
        · have E : Hid (esc1 s[j] = [92, 34]) := by simp [Hid, esc1, c34]
          go_wp2_with fail
          refine (HB.out _ 92 _ HR.out.1 (by have := BN.out; omega)).mono ?_
          rintro x w2 ⟨rfl, hw2⟩
          have HW2 := Lib.hid (HR.out.trans hw2)
          clear hw2
          go_wp2_with fail
          refine (HB.out _ 34 _ HW2.out.1 (by have := BN.out; simp at this ⊢; omega)).mono ?_
          rintro x w3 ⟨rfl, hw3⟩
          have HW3 : Hid (WQ W [] (34 :: escTo s.data.toList (j + 1)) w1 w3) := by
            have h3 := HW2.out.trans hw3
            have e3 : ((34 :: escTo s.data.toList j) ++ [92]) ++ [34] = 34 :: escTo s.data.toList (j + 1) := by
              rw [HE.out, E.out]
              simp
            rw [e3] at h3
            exact h3
          clear hw3
          go_wp2_with fail
          go_roundw
          case rel => exact ⟨j + 1, by omega, by go_num, HW3.out⟩
          case measure => simp [intOf]; omega
        by_cases c92 : s[j] = 92
        · have n34 : ((s[j].toNat : Int) == 34) = false := ne_byte c34
          clear c34
          have E : Hid (esc1 s[j] = [92, 92]) := by simp [Hid, esc1, c92]
          go_wp2_with fail
          refine (HB.out _ 92 _ HR.out.1 (by have := BN.out; omega)).mono ?_
          rintro x w2 ⟨rfl, hw2⟩
          have HW2 := Lib.hid (HR.out.trans hw2)
          clear hw2
          go_wp2_with fail
          refine (HB.out _ 92 _ HW2.out.1 (by have := BN.out; simp at this ⊢; omega)).mono ?_
          rintro x w3 ⟨rfl, hw3⟩
          have HW3 : Hid (WQ W [] (34 :: escTo s.data.toList (j + 1)) w1 w3) := by
            have h3 := HW2.out.trans hw3
            have e3 : ((34 :: escTo s.data.toList j) ++ [92]) ++ [92] = 34 :: escTo s.data.toList (j + 1) := by
              rw [HE.out, E.out]
              simp
            rw [e3] at h3
            exact h3
          clear hw3
          go_wp2_with fail
          go_roundw
          case rel => exact ⟨j + 1, by omega, by go_num, HW3.out⟩
          case measure => simp [intOf]; omega
        by_cases c10 : s[j] = 10
        · have n34 : ((s[j].toNat : Int) == 34) = false := ne_byte c34
          have n92 : ((s[j].toNat : Int) == 92) = false := ne_byte c92
          clear c34 c92
          have E : Hid (esc1 s[j] = [92, 110]) := by simp [Hid, esc1, c10]
          go_wp2_with fail
          refine (HN.out _ _ HR.out.1 (by have := BN.out; omega)).mono ?_
          rintro x w3 ⟨rfl, hw3⟩
          have HW3 : Hid (WQ W [] (34 :: escTo s.data.toList (j + 1)) w1 w3) := by
            have h3 := HR.out.trans hw3
            have e3 : (34 :: escTo s.data.toList j) ++ [92, 110] = 34 :: escTo s.data.toList (j + 1) := by
              rw [HE.out, E.out]
              simp
            rw [← e3]
            exact h3
          clear hw3
          go_wp2_with fail
          go_roundw
          case rel => exact ⟨j + 1, by omega, by go_num, HW3.out⟩
          case measure => simp [intOf]; omega
        · have n34 : ((s[j].toNat : Int) == 34) = false := ne_byte c34
          have n92 : ((s[j].toNat : Int) == 92) = false := ne_byte c92
          have n10 : ((s[j].toNat : Int) == 10) = false := ne_byte c10
          have E : Hid (esc1 s[j] = [s[j]]) := by simp [Hid, esc1, c34, c92, c10]
          go_wp2_with fail
          refine (HB.out _ s[j] _ HR.out.1 (by have := BN.out; omega)).mono ?_
          rintro x w3 ⟨rfl, hw3⟩
          have HW3 : Hid (WQ W [] (34 :: escTo s.data.toList (j + 1)) w1 w3) := by
            have h3 := HR.out.trans hw3
            have e3 : (34 :: escTo s.data.toList j) ++ [s[j]] = 34 :: escTo s.data.toList (j + 1) := by
              rw [HE.out, E.out]
              simp
            rw [e3] at h3
            exact h3
          clear hw3
          go_wp2_with fail
          go_roundw
          case rel => exact ⟨j + 1, by omega, by go_num, HW3.out⟩
          case measure => simp [intOf]; omega
      · obtain rfl : s.size = j := by omega
        go_wp2_with fail
        refine (HB.out _ 34 _ HR.out.1 (by have := escTo_len s.data.toList s.size; simp only [List.nil_append, List.length_cons]; omega)).mono ?_
        rintro x w3 ⟨rfl, hw3⟩
        have HW3 : Hid (WQ W [] (LX.quotedL s.data.toList) w1 w3) := by
          have h3 := HR.out.trans hw3
          rw [List.cons_append, ← HQ.out] at h3
          exact h3
        clear hw3
        go_wp2_with fail
        refine (HS.out _ _ HW3.out.1 (by rw [HQ.out]; exact List.cons_ne_nil _ _)).mono ?_
        rintro x w4 ⟨rfl, hb4⟩
        have HW4 := Lib.hid ((HLOW.out _ HW3.out.2).trans (hb4.mono (Nat.le_succ _)))
        clear hb4
        go_wp2_with fail
        refine (HT.out _ HW4.out).mono ?_
        rintro x w5 (⟨u, d', hu, rfl, h2⟩ | ⟨hu, rfl, h2⟩)
        · have K := Lib.hid h2
          clear h2
          go_wp2
          go_ret
          exact .inl ⟨u, d', hu, rfl, K.out⟩
        · cases hu
end Go.Proofs.YtedmmgfnplbkjaaGreatDoor.PR
