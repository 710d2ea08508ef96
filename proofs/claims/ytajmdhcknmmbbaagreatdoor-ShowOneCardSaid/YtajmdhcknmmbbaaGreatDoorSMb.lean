/-
  Walks: a builder of texts that lies ahead in a block: copyCheck, WriteByte, WriteString, String.
  Conditions: its row of bytes lies in a block from K on; so many bytes as Go lets a row have.
  Walks: the reader of documents' texts: is, take, one, quoted.
  Conditions: the reader lies as 'RD' says; its text is no longer than Go lets a row of bytes be.
  Walks: the reader of documents' texts: quoted.
  Conditions: the reader lies as 'RD' says; its text is no longer than Go lets a row of bytes be.
-/
import Derived.Test.YtajmdhcknmmbbaaGreatDoorShelf
import Derived.Test.YtajmdhcknmmbbaaGreatDoorTre
import Derived.Test.YtajmdhcknmmbbaaGreatDoorBuild
import Derived.Lib.Builder
import Derived.Lib.AppendStr
import Derived.Lib.UnsafeStr
import Derived.Lib.Walk
import Derived.Lib.Slices
import Derived.Laws.Externs
import Derived.RegionTactic
import Derived.ChangeAlike
import Derived.Test.YtajmdhcknmmbbaaGreatDoorSMa
import Derived.IntWalk
import Derived.Deep.Cut
namespace Go.Proofs.YtajmdhcknmmbbaaGreatDoor.PB
set_option linter.unusedVariables false
set_option linter.unusedSimpArgs false
open Go.Proofs.YtajmdhcknmmbbaaGreatDoor Go.RowKit

/-- A BUILDER AHEAD IN BLOCK B, holding the bytes bs: its buffer is nil or a row that it owns, in a block from K on. 'p': what its 'addr' holds. -/
def BAt (ty : TypeId) (rest : List Value) (B K : Nat) (p : Value) (bs : List Value) (w : World) : Prop :=
  ∃ v, w.heap[B]? = some (.cells (p :: v :: rest).toArray ty (0, 0)) ∧ w.ownsRow K 5 1 v bs.length bs
def IsB (ty : TypeId) (rest : List Value) (B K : Nat) (bs : List Value) (w : World) : Prop := BAt ty rest B K (.pointer none) bs w ∨ BAt ty rest B K (.pointer (some ⟨B, 0, none⟩)) bs w

/-- WHAT A WRITE LEAVES AS IT WAS: all blocks below K but B. -/
structure Fr (B K : Nat) (w w' : World) : Prop where
  os : w'.os = w.os
  tape : w'.tape = w.tape
  output : w'.output = w.output
  size : w.heap.size ≤ w'.heap.size
  block : ∀ i, i < K → i ≠ B → w'.heap[i]? = w.heap[i]?
theorem Fr.refl (B K : Nat) (w : World) : Fr B K w w := ⟨rfl, rfl, rfl, Nat.le_refl _, fun _ _ _ => rfl⟩
theorem Fr.trans {B K : Nat} {a b c : World} (h : Fr B K a b) (k : Fr B K b c) : Fr B K a c :=
  ⟨k.os.trans h.os, k.tape.trans h.tape, k.output.trans h.output, Nat.le_trans h.size k.size, fun i h1 h2 => (k.block i h1 h2).trans (h.block i h1 h2)⟩
theorem Fr.set (B K q : Nat) (u : Value) (w : World) : Fr B K w (w.setCell ⟨B, q, none⟩ u) :=
  ⟨rfl, rfl, rfl, by simp [World.setCell], fun i _ h => Below.heap_setCell _ _ _ _ (by show i ≠ B; exact h)⟩
theorem Fr.of_below {B K : Nat} {w w' : World} (h : Below K w w') : Fr B K w w' := ⟨h.os, h.tape, h.output, h.size, fun i h1 _ => h.block i h1⟩
theorem Fr.below {B K : Nat} {w w' : World} (h : Fr B K w w') (hB : B ≤ K) : Below B w w' := ⟨h.os, h.tape, h.output, h.size, fun i h1 => h.block i (by omega) (by omega)⟩
section
variable {ty : TypeId} {rest : List Value} {B K : Nat} {p : Value} {bs : List Value} {w w' : World}
theorem BAt.lt (h : BAt ty rest B K p bs w) : B < w.heap.size := by
  obtain ⟨v, hb, -⟩ := h
  exact tr_lt_of_block hb
theorem BAt.cell0 (h : BAt ty rest B K p bs w) : w.cell? ⟨B, 0, none⟩ = some p := by
  obtain ⟨v, hb, -⟩ := h
  rw [Lib.cell_of_heap hb]; rfl
theorem BAt.frozen0 (h : BAt ty rest B K p bs w) : w.frozen? ⟨B, 0, none⟩ = false := by
  obtain ⟨v, hb, -⟩ := h
  exact Lib.frozen_of_heap hb 0
theorem BAt.shape (h : BAt ty rest B K p bs w) : w.shape? B = some (ty, rest.length + 2) := by
  obtain ⟨v, hb, -⟩ := h
  simp [World.shape?, hb]
theorem ownsRow_set (hBK : B < K) {v : Value} {n : Nat} {xs : List Value} {q : Nat} {u : Value} (h : w.ownsRow K 5 1 v n xs) : (w.setCell ⟨B, q, none⟩ u).ownsRow K 5 1 v n xs :=
  ownsRow_setCell_below h (by show B < K; omega) u
theorem BAt.used (hBK : B < K) (h : BAt ty rest B K p bs w) (p' : Value) : BAt ty rest B K p' bs (w.setCell ⟨B, 0, none⟩ p') := by
  obtain ⟨v, hb, ho⟩ := h
  refine ⟨v, ?_, ownsRow_set hBK ho⟩
  simp [World.setCell, Array.getElem?_modify, hb]
theorem BAt.put {v v' : Value} {bs' : List Value} (hBK : B < K) (hb : w.heap[B]? = some (.cells (p :: v :: rest).toArray ty (0, 0))) (hown : w.ownsRow K 5 1 v' bs'.length bs') :
    BAt ty rest B K p bs' (w.setCell ⟨B, 1, none⟩ v') := by
  refine ⟨v', ?_, ownsRow_set hBK hown⟩
  simp [World.setCell, Array.getElem?_modify, hb]
end
theorem size_builder : (Tryz.prog.info? 73).map (·.size) = some 2 := by kernel_rfl
/-- A builder lies ahead in such blocks. -/
def Lies (ty : TypeId) (rest : List Value) : Prop := liesAt Tryz.prog Tryz.prog.depth ty ((rest.length + 2) / Tryz.prog.cellsOf ty) 0 73 1 = true
theorem lies_own : Lies 73 [] := by
  unfold Lies
  kernel_rfl
theorem lies_teller : Lies 75 [] := by
  unfold Lies
  kernel_rfl
theorem info_byte : (Tryz.prog.info? 5).map (fun i => (i.zero, i.size, i.bytes)) = some (some (.int .u8 0), 1, 1) := by kernel_rfl
theorem cells_byte : Tryz.prog.cellsOf 5 = 1 := by kernel_rfl

set_option maxRecDepth 100000 in
set_option maxHeartbeats 1000000 in
theorem copyCheck_used (b : Nat) (w : World) (h0 : w.cell? ⟨b, 0, none⟩ = some (.pointer (some ⟨b, 0, none⟩))) :
    Calls Tryz.prog 167 #[.pointer (some ⟨b, 0, none⟩)] w fun e w' => e = .returned (.tuple #[]) ∧ w = w' := by
  obtain ⟨j, hj, _⟩ := Option.map_eq_some_iff.1 size_builder
  go_enter Tryz.func167, Tryz.ntmps167
  go_wp2
  rw [Lib.run_neq_ptr_same w _ Tryz.underlying70 hj]
  go_wp2
  go_end0
  exact ⟨rfl, rfl⟩

set_option maxRecDepth 100000 in
set_option maxHeartbeats 1000000 in
theorem copyCheck_fresh (ty : TypeId) (rest : List Value) (hl : Lies ty rest) (b : Nat) (w : World) (h0 : w.cell? ⟨b, 0, none⟩ = some (.pointer none)) (hsh : w.shape? b = some (ty, rest.length + 2)) (hfz : w.frozen? ⟨b, 0, none⟩ = false) :
    Calls Tryz.prog 167 #[.pointer (some ⟨b, 0, none⟩)] w fun e w' => e = .returned (.tuple #[]) ∧ w.setCell ⟨b, 0, none⟩ (.pointer (some ⟨b, 0, none⟩)) = w' := by
  obtain ⟨j, hj, hjs⟩ := Option.map_eq_some_iff.1 size_builder
  unfold Lies at hl
  go_enter Tryz.func167, Tryz.ntmps167
  go_wp2
  rw [Lib.run_to_unsafe w ⟨b, 0, none⟩ Tryz.underlying70 Tryz.underlying239 hj (by rw [hjs]; decide) hsh (by show 0 < rest.length + 2; omega)]
  simp only [Result.andThen]
  rw [Oper.upon_value]
  go_wp2
  rw [run_callFunc_extern Tryz.func184 (by kernel_rfl) (by kernel_rfl) (by kernel_rfl) (e := Extern.AbiNoEscape.same) (by kernel_rfl)]
  rw [Lib.run_noEscape]
  simp only [Result.andThen]
  rw [Oper.upon_value]
  go_wp2
  rw [Lib.run_from_unsafe w ⟨b, 0, none⟩ Tryz.underlying239 Tryz.underlying70 hj hsh hl]
  simp only [Result.andThen]
  rw [Oper.upon_value]
  go_wp2
  go_end0
  exact ⟨rfl, rfl⟩
section
variable {ty : TypeId} {rest : List Value} {B K : Nat} (hl : Lies ty rest) (hBK : B < K)
include hl hBK
theorem copyCheck_any (bs : List Value) (w : World) (h : IsB ty rest B K bs w) :
    Calls Tryz.prog 167 #[.pointer (some ⟨B, 0, none⟩)] w fun e w' => e = .returned (.tuple #[]) ∧ (BAt ty rest B K (.pointer (some ⟨B, 0, none⟩)) bs w' ∧ Fr B K w w') := by
  rcases h with h | h
  · refine (copyCheck_fresh ty rest hl B w h.cell0 h.shape h.frozen0).mono ?_
    rintro e w' ⟨rfl, rfl⟩
    exact ⟨rfl, h.used hBK _, Fr.set _ _ _ _ _⟩
  · refine (copyCheck_used B w h.cell0).mono ?_
    rintro e w' ⟨rfl, rfl⟩
    exact ⟨rfl, h, Fr.refl _ _ _⟩
omit hl hBK in
/-- What an append leaves, seen from the builder. -/
theorem Fr.grown {w w' : World} {v : Value} {n : Nat} {xs : List Value} (hg : w.grownBy w' v.ownBlock) (ho : w.ownsRow K 5 1 v n xs) (hK : K ≤ w.heap.size) : Fr B K w w' :=
  ⟨hg.os, hg.tape, hg.output, hg.size, fun i h1 _ => hg.block i (by omega) (fun e => by have := (ho.lt i e.symm).1; omega)⟩

set_option maxRecDepth 100000 in
set_option maxHeartbeats 2000000 in
theorem writeString_any (bs : List Value) (s : ByteArray) (w : World) (h : IsB ty rest B K bs w) (hlen : bs.length + s.size ≤ 140737488355328) (hK : K ≤ w.heap.size) :
    Calls Tryz.prog 147 #[.pointer (some ⟨B, 0, none⟩), .string s] w fun e w' => e = .returned (.tuple #[.int .i64 s.size, .nilIface]) ∧ (BAt ty rest B K (.pointer (some ⟨B, 0, none⟩)) (bs ++ Lib.strCells s) w' ∧ Fr B K w w') := by
  obtain ⟨i0, hi, hz0, hz1, hz2⟩ := info_parts info_byte
  go_enter Tryz.func147, Tryz.ntmps147
  go_wp2_with fail
  refine (copyCheck_any hl hBK bs _ h).mono ?_
  rintro e w1 ⟨rfl, h1, hf1⟩
  have hs1 := hf1.size
  obtain ⟨v, hbk, hown⟩ := h1
  have hlt := BAt.lt ⟨v, hbk, hown⟩
  have c0 : w1.cell? ⟨B, 0, none⟩ = some (.pointer (some ⟨B, 0, none⟩)) := by rw [Lib.cell_of_heap hbk]; rfl
  have c1 : w1.cell? ⟨B, 1, none⟩ = some v := by rw [Lib.cell_of_heap hbk]; rfl
  go_wp2_with (at_builtin; refine Lib.wpList_append_own_string _ rfl _ _ 71 9 rfl K 5 i0 Tryz.underlying71 Tryz.underlying9 hi hz0 hz1 hz2 _ _ _ rfl hown s rfl ?c3 ?c4 ?c5 ?_)
  case c3 => unfold maxLen; omega
  case c4 => omega
  case c5 => omega
  intro v' w2 hown' hgrow _
  have hfr : Fr B K w1 w2 := Fr.grown hgrow hown (by omega)
  have hb2 : w2.heap[B]? = some (.cells (.pointer (some ⟨B, 0, none⟩) :: v :: rest).toArray ty (0, 0)) := by
    rw [hgrow.block B hlt (fun e => by have := (hown.lt _ e.symm).1; omega)]
    exact hbk
  have d0 : w2.cell? ⟨B, 0, none⟩ = some (.pointer (some ⟨B, 0, none⟩)) := by rw [Lib.cell_of_heap hb2]; rfl
  have d1 : w2.cell? ⟨B, 1, none⟩ = some v := by rw [Lib.cell_of_heap hb2]; rfl
  have f1 : w2.frozen? ⟨B, 1, none⟩ = false := Lib.frozen_of_heap hb2 1
  obtain ⟨ao, n', cap, rfl⟩ : ∃ ao n' cap, v' = .slice ao n' cap := by
    rcases hown'.2 with ⟨hv, _⟩ | ⟨g, cap, cur, hv, _⟩
    · exact ⟨_, _, _, hv⟩
    · exact ⟨_, _, _, hv⟩
  go_wp2
  go_ret2
  refine ⟨rfl, ?_, ?_⟩
  · exact BAt.put hBK hb2 (bs' := bs ++ Lib.strCells s) (by simpa [Lib.strCells_length] using hown')
  · exact (hf1.trans hfr).trans (Fr.set _ _ _ _ _)

set_option maxRecDepth 100000 in
set_option maxHeartbeats 2000000 in
theorem writeByte_any (bs : List Value) (c : Int) (w : World) (h : IsB ty rest B K bs w) (hlen : bs.length + 1 ≤ 140737488355328) (hK : K ≤ w.heap.size) :
    Calls Tryz.prog 145 #[.pointer (some ⟨B, 0, none⟩), .int .u8 c] w fun e w' => e = .returned .nilIface ∧ (BAt ty rest B K (.pointer (some ⟨B, 0, none⟩)) (bs ++ [.int .u8 c]) w' ∧ Fr B K w w') := by
  obtain ⟨i0, hi, hz0, hz1, hz2⟩ := info_parts info_byte
  go_enter Tryz.func145, Tryz.ntmps145
  go_wp2_with fail
  refine (copyCheck_any hl hBK bs _ h).mono ?_
  rintro e w1 ⟨rfl, h1, hf1⟩
  have hs1 := hf1.size
  obtain ⟨v, hbk, hown⟩ := h1
  have hlt := BAt.lt ⟨v, hbk, hown⟩
  have c0 : w1.cell? ⟨B, 0, none⟩ = some (.pointer (some ⟨B, 0, none⟩)) := by rw [Lib.cell_of_heap hbk]; rfl
  have c1 : w1.cell? ⟨B, 1, none⟩ = some v := by rw [Lib.cell_of_heap hbk]; rfl
  go_wp2_with (at_builtin; refine wpList_append_own _ rfl _ _ 71 rfl K 5 i0 (.int .u8 0) 1 1 Tryz.underlying71 hi hz0 hz1 hz2 rfl (by decide) _ _ _ rfl (hown.alloc _) ⟨w1.heap.size, 0, none⟩ 1 1 [.int .u8 c] rfl rfl ?c1 ?c2 ?c3 ?c4 ?c5 ?_)
  case c1 =>
    intro j u hj
    match j, hj with
    | 0, hj => simp at hj; subst hj; simp [Addr.add]
  case c2 => intro u hu; simp at hu; subst hu; rfl
  case c3 => unfold maxLen; omega
  case c4 => omega
  case c5 => simp; omega
  intro v' w2 hown' hgrow _
  have hfr : Fr B K w1 w2 := (Fr.of_below ((Below.refl _ _).alloc (by omega) _)).trans (Fr.grown hgrow (hown.alloc _) (by simp; omega))
  have hb2 : w2.heap[B]? = some (.cells (.pointer (some ⟨B, 0, none⟩) :: v :: rest).toArray ty (0, 0)) := by
    rw [hgrow.block B (by simp; omega) (fun e => by have := (hown.lt _ e.symm).1; omega), Below.heap_alloc _ _ _ hlt]
    exact hbk
  have d0 : w2.cell? ⟨B, 0, none⟩ = some (.pointer (some ⟨B, 0, none⟩)) := by rw [Lib.cell_of_heap hb2]; rfl
  have d1 : w2.cell? ⟨B, 1, none⟩ = some v := by rw [Lib.cell_of_heap hb2]; rfl
  have f1 : w2.frozen? ⟨B, 1, none⟩ = false := Lib.frozen_of_heap hb2 1
  obtain ⟨g, cap, rfl⟩ : ∃ g cap, v' = .slice (some ⟨g, 0, none⟩) (bs.length + 1) cap := by
    rcases hown'.2 with ⟨_, h0⟩ | ⟨g, cap, cur, hv, _⟩
    · omega
    · exact ⟨g, cap, hv⟩
  go_wp2
  go_ret
  refine ⟨rfl, ?_, ?_⟩
  · exact BAt.put hBK hb2 (bs' := bs ++ [.int .u8 c]) (by simpa using hown')
  · exact (hf1.trans hfr).trans (Fr.set _ _ _ _ _)
end
/-- IT HOLDS THE BYTES l. -/
def IsT (ty : TypeId) (rest : List Value) (B K : Nat) (l : List UInt8) (w : World) : Prop := IsB ty rest B K (Lib.byteCells l) w ∧ K ≤ w.heap.size
/-- What a call that writes l' leaves. -/
def Wrote (ty : TypeId) (rest : List Value) (B K : Nat) (l l' : List UInt8) (w w' : World) : Prop := IsT ty rest B K (l ++ l') w' ∧ Fr B K w w'
section
variable {ty : TypeId} {rest : List Value} {B K : Nat}
theorem Wrote.trans {l a b : List UInt8} {w w1 w2 : World} (h : Wrote ty rest B K l a w w1) (k : Wrote ty rest B K (l ++ a) b w1 w2) : Wrote ty rest B K l (a ++ b) w w2 :=
  ⟨by rw [← List.append_assoc]; exact k.1, h.2.trans k.2⟩
theorem Wrote.nil {l : List UInt8} {w : World} (h : IsT ty rest B K l w) : Wrote ty rest B K l [] w w := ⟨by rw [List.append_nil]; exact h, Fr.refl _ _ _⟩
theorem IsT.at {l : List UInt8} {w : World} (h : IsT ty rest B K l w) : ∃ p, BAt ty rest B K p (Lib.byteCells l) w := by
  rcases h.1 with h | h
  · exact ⟨_, h⟩
  · exact ⟨_, h⟩
variable (hl : Lies ty rest) (hBK : B < K)
include hl hBK
theorem writeS_any (l : List UInt8) (s : ByteArray) (w : World) (h : IsT ty rest B K l w) (hlen : l.length + s.data.toList.length ≤ 140737488355328) :
    Calls Tryz.prog 147 #[.pointer (some ⟨B, 0, none⟩), .string s] w fun e w' => e = .returned (.tuple #[.int .i64 s.size, .nilIface]) ∧ Wrote ty rest B K l s.data.toList w w' := by
  refine (writeString_any hl hBK (Lib.byteCells l) s w h.1 (by rw [Lib.byteCells_length]; simpa using hlen) h.2).mono ?_
  rintro e w' ⟨he, hb, hf⟩
  exact ⟨he, ⟨.inr (by simpa [Lib.strCells, Lib.byteCells] using hb), Nat.le_trans h.2 hf.size⟩, hf⟩
theorem writeB_any (l : List UInt8) (c : UInt8) (w : World) (h : IsT ty rest B K l w) (hlen : l.length + 1 ≤ 140737488355328) :
    Calls Tryz.prog 145 #[.pointer (some ⟨B, 0, none⟩), .int .u8 c.toNat] w fun e w' => e = .returned .nilIface ∧ Wrote ty rest B K l [c] w w' := by
  refine (writeByte_any hl hBK (Lib.byteCells l) c.toNat w h.1 (by rw [Lib.byteCells_length]; exact hlen) h.2).mono ?_
  rintro e w' ⟨he, hb, hf⟩
  exact ⟨he, ⟨.inr (by simpa [Lib.byteCells] using hb), Nat.le_trans h.2 hf.size⟩, hf⟩
omit hl hBK in
set_option maxRecDepth 100000 in
set_option maxHeartbeats 2000000 in
/-- Of one that was never written. -/
theorem string_nil (p : Value) (w : World) (hbk : w.heap[B]? = some (.cells (p :: Value.slice none 0 0 :: rest).toArray ty (0, 0))) :
    Calls Tryz.prog 29 #[.pointer (some ⟨B, 0, none⟩)] w fun e w' => e = .returned (.string .empty) ∧ Below K w w' := by
  have mixed : Tryz.prog.follows Departure.mixedOrders = true := by kernel_rfl
  have c1 : w.drew.cell? ⟨B, 1, none⟩ = some (.slice none 0 0) := by
    have : w.drew.heap[B]? = some (.cells (p :: Value.slice none 0 0 :: rest).toArray ty (0, 0)) := hbk
    rw [Lib.cell_of_heap this]; rfl
  have hSD : (Builtin.unsafeSliceData_ #[71] 95 #[.slice none 0 0]).run Tryz.prog w.drew = .ok (.pointer none) w.drew := Lib.run_unsafeSliceData_nil _ _ _ _ _
  have hUS : (Builtin.unsafeString_ #[95, 3] 9 #[.pointer none, .int .i64 0]).run Tryz.prog w.drew = .ok (.string .empty) w.drew := Lib.run_unsafeString_none _ _ _ _ _
  clear hbk
  go_enter Tryz.func29, Tryz.ntmps29
  go_wp2
  go_region_o
  all_goals (go_wp2; go_ret; exact ⟨rfl, Below.drew (Below.refl K w)⟩)
omit hl hBK in
set_option maxRecDepth 100000 in
set_option maxHeartbeats 2000000 in
theorem string_any (l : List UInt8) (w : World) (h : IsT ty rest B K l w) (h0 : l ≠ []) :
    Calls Tryz.prog 29 #[.pointer (some ⟨B, 0, none⟩)] w fun e w' => e = .returned (.string ⟨l.toArray⟩) ∧ Below K w w' := by
  obtain ⟨p, v, hbk, hown⟩ := h.at
  have hK := h.2
  rw [Lib.byteCells_length] at hown
  have mixed : Tryz.prog.follows Departure.mixedOrders = true := by kernel_rfl
  have hz : 0 < l.length := List.length_pos_iff.2 h0
  obtain ⟨g, cap, cur, rfl, hbg, hg, hnc, hcm, hcs, htake⟩ : ∃ g cap cur, v = .slice (some ⟨g, 0, none⟩) l.length cap ∧ K ≤ g ∧ w.heap[g]? = some (.cells cur 5 (0, 0)) ∧ l.length ≤ cap ∧ cap ≤ maxLen ∧ cur.size = cap * 1 ∧ cur.toList.take (l.length * 1) = Lib.byteCells l := by
    rcases hown.2 with ⟨_, hz'⟩ | ⟨g, cap, cur, hv, r⟩
    · omega
    · exact ⟨g, cap, cur, hv, r⟩
  have c1 : w.drew.cell? ⟨B, 1, none⟩ = some (.slice (some ⟨g, 0, none⟩) l.length cap) := by
    have : w.drew.heap[B]? = some (.cells (p :: Value.slice (some ⟨g, 0, none⟩) l.length cap :: rest).toArray ty (0, 0)) := hbk
    rw [Lib.cell_of_heap this]; rfl
  have hSD : (Builtin.unsafeSliceData_ #[71] 95 #[.slice (some ⟨g, 0, none⟩) l.length cap]).run Tryz.prog w.drew = .ok (.pointer (some ⟨g, 0, none⟩)) w.drew :=
    Lib.run_unsafeSliceData_row _ _ _ _ _ _ (by omega)
  have hUS : (Builtin.unsafeString_ #[95, 3] 9 #[.pointer (some ⟨g, 0, none⟩), .int .i64 l.length]).run Tryz.prog w.drew = .ok (.string ⟨l.toArray⟩) (w.drew.freeze ⟨g, 0, none⟩ l.length) := by
    refine Lib.run_unsafeString_row w.drew 95 3 9 5 Tryz.underlying95 cells_byte g cur.size (by have hg' : w.drew.heap[g]? = some (.cells cur 5 (0, 0)) := hg; simp [World.shape?, hg']) l h0 (by omega) (by unfold maxLen at hcm; omega) ?_
    intro j x hx
    have := hown.cells (g := g) rfl j (.int .u8 x.toNat) (by simp [Lib.byteCells, hx])
    exact this
  clear h hown htake hbk
  go_enter Tryz.func29, Tryz.ntmps29
  go_wp2
  go_region_o
  all_goals (go_wp2; go_ret; exact ⟨rfl, Lib.below_freeze (Below.drew (Below.refl K w)) (p := ⟨g, 0, none⟩) (by show K ≤ g; omega) _⟩)
end
end Go.Proofs.YtajmdhcknmmbbaaGreatDoor.PB
namespace Go.Proofs.YtajmdhcknmmbbaaGreatDoor.Sh
set_option linter.unusedVariables false
set_option linter.unusedSimpArgs false
open Go.Proofs.YtajmdhcknmmbbaaGreatDoor Go.RowKit Go.Deep

abbrev Str := List UInt8
abbrev pz : PanicEntry := { v := .iface 85 (.agg #[]), recovered := false }

/-- All stands but the blocks X. -/
structure Kp (X : Nat → Prop) (a b : World) : Prop where
  os : b.os = a.os
  tape : b.tape = a.tape
  output : b.output = a.output
  size : a.heap.size ≤ b.heap.size
  block : ∀ i, i < a.heap.size → ¬ X i → b.heap[i]? = a.heap[i]?
section
variable {X Y : Nat → Prop} {a b c : World}
theorem Kp.refl (X : Nat → Prop) (a : World) : Kp X a a := ⟨rfl, rfl, rfl, Nat.le_refl _, fun _ _ _ => rfl⟩
theorem Kp.trans (h : Kp X a b) (k : Kp X b c) : Kp X a c :=
  ⟨k.os.trans h.os, k.tape.trans h.tape, k.output.trans h.output, Nat.le_trans h.size k.size, fun i hi hn => (k.block i (Nat.lt_of_lt_of_le hi h.size) hn).trans (h.block i hi hn)⟩
theorem Kp.more (h : Kp X a b) (hx : ∀ i, i < a.heap.size → X i → Y i) : Kp Y a b := ⟨h.os, h.tape, h.output, h.size, fun i hi hn => h.block i hi fun hX => hn (hx i hi hX)⟩
theorem Kp.of_below (h : Below a.heap.size a b) : Kp X a b := ⟨h.os, h.tape, h.output, h.size, fun i hi _ => h.block i hi⟩
theorem Kp.below (h : Kp X a b) (k : Below b.heap.size b c) : Kp X a c := h.trans (.of_below k)
theorem Kp.set (h : Kp X a b) {g : Nat} (hg : a.heap.size ≤ g ∨ X g) (q : Nat) (v : Value) : Kp X a (b.setCell ⟨g, q, none⟩ v) :=
  ⟨h.os, h.tape, h.output, by simpa [World.setCell] using h.size, fun i hi hn => by
    rw [← h.block i hi hn]
    exact Below.heap_setCell _ _ _ _ (by show i ≠ g; rintro rfl; rcases hg with hg | hg; omega; exact hn hg)⟩
theorem Kp.row (h : Kp X a b) {g : Nat} (hg : a.heap.size ≤ g ∨ X g) (cs : Array Value) : Kp X a (b.setRow g cs) :=
  ⟨h.os, h.tape, h.output, by simpa [World.setRow] using h.size, fun i hi hn => by
    rw [← h.block i hi hn]
    exact setRow_other _ _ _ _ (by rintro rfl; rcases hg with hg | hg; omega; exact hn hg)⟩
theorem Kp.alloc (h : Kp X a b) (o : Obj) : Kp X a (b.alloc o) := h.below ((Below.refl _ _).alloc (Nat.le_refl _) _)
theorem Kp.drew (h : Kp X a b) : Kp X a b.drew := ⟨h.os, h.tape, h.output, h.size, h.block⟩
theorem below_drewN (w : World) (n : Nat) : Below w.heap.size w (w.drewN n) := ⟨rfl, rfl, rfl, Nat.le_refl _, fun _ _ => rfl⟩
theorem Kp.drewN (h : Kp X a b) (n : Nat) : Kp X a (b.drewN n) := h.below (below_drewN _ _)
theorem Kp.to_below (h : Kp X a b) {B : Nat} (hB : B ≤ a.heap.size) (hx : ∀ i, i < B → ¬ X i) : Below B a b := ⟨h.os, h.tape, h.output, h.size, fun i hi => h.block i (by omega) (hx i hi)⟩
/-- A block that was made later, or may be written, turned alone. -/
theorem Kp.grown (h : Kp X a b) {row : Option Nat} (k : b.grownBy c row) (hg : ∀ g, row = some g → a.heap.size ≤ g ∨ X g) : Kp X a c :=
  ⟨k.os.trans h.os, k.tape.trans h.tape, k.output.trans h.output, Nat.le_trans h.size k.size, fun i hi hn => (k.block i (Nat.lt_of_lt_of_le hi h.size) (by
    intro e; rcases hg i e.symm with hg | hg; omega; exact hn hg)).trans (h.block i hi hn)⟩
end

/-- The reader in block R: what has not been taken; w0 stands. -/
structure RD (w0 : World) (R : Nat) (r : Str) (W : World) : Prop where
  at_ : W.heap[R]? = some (.cells #[.string ⟨r.toArray⟩] 82 (0, 0))
  base : w0.heap.size ≤ R
  low : Below w0.heap.size w0 W
abbrev rp (R : Nat) : Value := .pointer (some ⟨R, 0, none⟩)
section
variable {w0 : World} {R : Nat} {r : Str} {W W' : World}
theorem RD.lt (h : RD w0 R r W) : R < W.heap.size := tr_lt_of_block h.at_
theorem RD.cells (h : RD w0 R r W) : W.cell? ⟨R, 0, none⟩ = some (.string ⟨r.toArray⟩) ∧ W.frozen? ⟨R, 0, none⟩ = false := by
  have h := h.at_
  exact ⟨by rw [Lib.cell_of_heap h]; rfl, Lib.frozen_of_heap h 0⟩
theorem RD.keep (h : RD w0 R r W) (hb : Below W.heap.size W W') : RD w0 R r W' := ⟨(hb.block _ h.lt).trans h.at_, h.base, h.low.trans (hb.mono h.low.size)⟩
theorem RD.alloc (h : RD w0 R r W) (o : Obj) : RD w0 R r (W.alloc o) := h.keep ((Below.refl _ _).alloc (Nat.le_refl _) _)
theorem RD.drewN (h : RD w0 R r W) (n : Nat) : RD w0 R r (W.drewN n) := h.keep (below_drewN _ _)
theorem RD.setR (h : RD w0 R r W) (r' : Str) : RD w0 R r' (W.setCell ⟨R, 0, none⟩ (.string ⟨r'.toArray⟩)) := by
  refine ⟨?_, h.base, h.low.setCell (p := ⟨R, 0, none⟩) h.base _⟩
  simp [World.setCell, Array.getElem?_modify, h.at_]
theorem RD.kp (h : RD w0 R r W) {X : Nat → Prop} (k : Kp X W W') (hR : ¬ X R) (hx : ∀ i, i < w0.heap.size → ¬ X i) : RD w0 R r W' :=
  ⟨(k.block _ h.lt hR).trans h.at_, h.base, h.low.trans (k.to_below h.low.size hx)⟩
theorem RD.set (h : RD w0 R r W) {g : Nat} (hg : g ≠ R) (hb : w0.heap.size ≤ g) (q : Nat) (v : Value) : RD w0 R r (W.setCell ⟨g, q, none⟩ v) :=
  h.kp ((Kp.refl (· = g) W).set (.inr rfl) q v) (fun e => hg e.symm) (fun i hi e => by omega)
theorem RD.row (h : RD w0 R r W) {g : Nat} (hg : g ≠ R) (hb : w0.heap.size ≤ g) (cs : Array Value) : RD w0 R r (W.setRow g cs) :=
  h.kp ((Kp.refl (· = g) W).row (.inr rfl) cs) (fun e => hg e.symm) (fun i hi e => by omega)
end
theorem ba_list (r : Str) : (⟨r.toArray⟩ : ByteArray).data.toList = r := by simp
theorem ba_size (r : Str) : (⟨r.toArray⟩ : ByteArray).size = r.length := by simp [ByteArray.size]
theorem ba_take (r : Str) (n : Nat) : (⟨r.toArray⟩ : ByteArray).extract 0 n = ⟨(r.take n).toArray⟩ := by
  apply ByteArray.ext
  apply Array.ext'
  rw [Lib.extract_data]
  simp
theorem ba_drop (r : Str) (n : Nat) : (⟨r.toArray⟩ : ByteArray).extract n r.length = ⟨(r.drop n).toArray⟩ := by
  apply ByteArray.ext
  apply Array.ext'
  rw [Lib.extract_data]
  simp
  exact List.take_of_length_le (by simp)

set_option maxRecDepth 100000 in
set_option maxHeartbeats 4000000 in
theorem is_any {w0 : World} {R : Nat} {r : Str} {W : World} (h : RD w0 R r W) (p : ByteArray) :
    Calls Tryz.prog 135 #[rp R, .string p] W fun e w' => e = .returned (.bool (Lib.hasPrefix r p.data.toList)) ∧ RD w0 R (Lib.trimPrefix r p.data.toList) w' ∧ Kp (· = R) W w' := by
  have HC : Hid (∀ w, Calls Tryz.prog 157 #[.string ⟨r.toArray⟩, .string p] w fun e w' => e = .returned (.tuple #[.string ⟨(Lib.trimPrefix r p.data.toList).toArray⟩, .bool (Lib.hasPrefix r p.data.toList)]) ∧ w' = w) := Lib.hid (fun w => by
    have := Tryz.strings_CutPrefix ⟨r.toArray⟩ p w
    rwa [ba_list] at this)
  have HT := Lib.hid h
  obtain ⟨c0, f0⟩ := h.cells
  obtain ⟨r2, hr2⟩ : ∃ x, Lib.trimPrefix r p.data.toList = x := ⟨_, rfl⟩
  obtain ⟨b2, hb2⟩ : ∃ x, Lib.hasPrefix r p.data.toList = x := ⟨_, rfl⟩
  rw [hr2, hb2] at HC
  rw [hr2, hb2]
  clear h hr2 hb2
  go_enter Tryz.func135, Tryz.ntmps135
  go_wp2_with (go_at_call 157; (with_reducible refine (HC.out _).mono ?_); rintro e w' ⟨rfl, rfl⟩)
  refine bodyPost_ret (results_tmp Tryz.results135 _ _ _) rfl ?_
  exact ⟨rfl, HT.out.setR r2, Kp.set (X := (· = R)) (Kp.refl _ _) (.inr rfl) 0 _⟩

/-- What a call comes to that takes a part of a text. -/
def PostV {α : Type} (w0 : World) (R : Nat) (W : World) (F : α → Value → World → Prop) (r : Option (α × Str)) (e : Ending) (W' : World) : Prop :=
  match r with
  | none => e = .panicked [pz] ∧ Kp (· = R) W W'
  | some (x, r') => ∃ v, e = .returned v ∧ F x v W' ∧ RD w0 R r' W' ∧ Kp (· = R) W W'
def FNil (_ : Unit) (v : Value) (_ : World) : Prop := v = .tuple #[]
def FStr (x : Str) (v : Value) (_ : World) : Prop := v = .string ⟨x.toArray⟩

theorem takeR_eq (p r : Str) : takeR p r = if Lib.hasPrefix r p then some (Lib.trimPrefix r p) else none := by
  unfold takeR Lib.trimPrefix
  split <;> rfl
theorem takeR_some {p r : Str} (h : Lib.hasPrefix r p = true) : takeR p r = some (Lib.trimPrefix r p) := by rw [takeR_eq, if_pos h]
theorem takeR_none {p r : Str} (h : Lib.hasPrefix r p = false) : takeR p r = none := by rw [takeR_eq, if_neg (by rw [h]; exact Bool.false_ne_true)]


set_option maxRecDepth 100000 in
set_option maxHeartbeats 4000000 in
theorem take_any {w0 : World} {R : Nat} {r : Str} {W : World} (h : RD w0 R r W) (p : ByteArray) :
    Calls Tryz.prog 159 #[rp R, .string p] W (PostV w0 R W FNil ((takeR p.data.toList r).map fun r' => ((), r'))) := by
  have HI := Lib.hid (is_any h p)
  clear h
  cases hp : Lib.hasPrefix r p.data.toList with
  | true =>
    rw [takeR_some hp]
    rw [hp] at HI
    go_enter Tryz.func159, Tryz.ntmps159
    go_wp2_with (go_at_call 135; (with_reducible refine HI.out.mono ?_); rintro e w1 ⟨rfl, h1, hk1⟩)
    go_end0
    exact ⟨_, rfl, rfl, h1, hk1⟩
  | false =>
    rw [takeR_none hp]
    rw [hp] at HI
    go_enter Tryz.func159, Tryz.ntmps159
    go_wp2_with (go_at_call 135; (with_reducible refine HI.out.mono ?_); rintro e w1 ⟨rfl, h1, hk1⟩)
    exact ⟨rfl, rfl, hk1⟩
theorem oneR_1 {r : Str} (h : Lib.hasPrefix r [92, 34] = true) : oneR r = some (34, Lib.trimPrefix r [92, 34]) := by
  rw [oneR.eq_def, if_pos h, Lib.trimPrefix, if_pos h]; rfl
theorem oneR_2 {r : Str} (h1 : Lib.hasPrefix r [92, 34] = false) (h : Lib.hasPrefix r [92, 92] = true) : oneR r = some (92, Lib.trimPrefix r [92, 92]) := by
  rw [oneR.eq_def, if_neg (by rw [h1]; exact Bool.false_ne_true), if_pos h, Lib.trimPrefix, if_pos h]; rfl
theorem oneR_3 {r : Str} (h1 : Lib.hasPrefix r [92, 34] = false) (h2 : Lib.hasPrefix r [92, 92] = false) (h : Lib.hasPrefix r [92, 110] = true) : oneR r = some (10, Lib.trimPrefix r [92, 110]) := by
  rw [oneR.eq_def, if_neg (by rw [h1]; exact Bool.false_ne_true), if_neg (by rw [h2]; exact Bool.false_ne_true), if_pos h, Lib.trimPrefix, if_pos h]; rfl
theorem oneR_4 {b : UInt8} {t : Str} (h1 : Lib.hasPrefix (b :: t) [92, 34] = false) (h2 : Lib.hasPrefix (b :: t) [92, 92] = false) (h : Lib.hasPrefix (b :: t) [92, 110] = false) : oneR (b :: t) = some (b, t) := by
  unfold oneR
  rw [if_neg (by rw [h1]; exact Bool.false_ne_true), if_neg (by rw [h2]; exact Bool.false_ne_true), if_neg (by rw [h]; exact Bool.false_ne_true)]
theorem trim_no {r p : Str} (h : Lib.hasPrefix r p = false) : Lib.trimPrefix r p = r := by
  rw [Lib.trimPrefix, if_neg (by rw [h]; exact Bool.false_ne_true)]

def FByte (b : UInt8) (v : Value) (_ : World) : Prop := v = .int .u8 b.toNat

set_option maxRecDepth 100000 in
set_option maxHeartbeats 4000000 in
theorem one_any {w0 : World} {R : Nat} {r : Str} {W : World} (h : RD w0 R r W) (hl : r.length ≤ 140737488355328) :
    Calls Tryz.prog 178 #[rp R] W (PostV w0 R W FByte (oneR r)) := by
  have HI1 := Lib.hid (is_any h ⟨#[92, 34]⟩)
  cases h1 : Lib.hasPrefix r [92, 34] with
  | true =>
    rw [oneR_1 h1]
    rw [show Lib.hasPrefix r (⟨#[92, 34]⟩ : ByteArray).data.toList = true from h1] at HI1
    clear h
    go_enter Tryz.func178, Tryz.ntmps178
    go_wp2_with (go_at_call 135; (with_reducible refine HI1.out.mono ?_); rintro e w1 ⟨rfl, g1, hk1⟩)
    refine bodyPost_ret (results_tmp Tryz.results178 _ _ _) rfl ?_
    exact ⟨_, rfl, rfl, g1, hk1⟩
  | false =>
    rw [show Lib.hasPrefix r (⟨#[92, 34]⟩ : ByteArray).data.toList = false from h1, show Lib.trimPrefix r (⟨#[92, 34]⟩ : ByteArray).data.toList = r from trim_no h1] at HI1
    have HI2 : Hid (∀ W', RD w0 R r W' → Calls Tryz.prog 135 #[rp R, .string ⟨#[92, 92]⟩] W' fun e w' => e = .returned (.bool (Lib.hasPrefix r [92, 92])) ∧ RD w0 R (Lib.trimPrefix r [92, 92]) w' ∧ Kp (· = R) W' w') := Lib.hid fun W' h' => is_any h' ⟨#[92, 92]⟩
    cases h2 : Lib.hasPrefix r [92, 92] with
    | true =>
      rw [oneR_2 h1 h2]
      rw [h2] at HI2
      clear h
      go_enter Tryz.func178, Tryz.ntmps178
      go_wp2_with (first
        | (go_at_call 135; (with_reducible refine HI1.out.mono ?_); rintro e w1 ⟨rfl, g1, hk1⟩)
        | (go_at_call 135; (with_reducible refine (HI2.out _ g1).mono ?_); rintro e w2 ⟨rfl, g2, hk2⟩))
      refine bodyPost_ret (results_tmp Tryz.results178 _ _ _) rfl ?_
      exact ⟨_, rfl, rfl, g2, hk1.trans hk2⟩
    | false =>
      rw [h2, trim_no h2] at HI2
      have HI3 : Hid (∀ W', RD w0 R r W' → Calls Tryz.prog 135 #[rp R, .string ⟨#[92, 110]⟩] W' fun e w' => e = .returned (.bool (Lib.hasPrefix r [92, 110])) ∧ RD w0 R (Lib.trimPrefix r [92, 110]) w' ∧ Kp (· = R) W' w') := Lib.hid fun W' h' => is_any h' ⟨#[92, 110]⟩
      cases h3 : Lib.hasPrefix r [92, 110] with
      | true =>
        rw [oneR_3 h1 h2 h3]
        rw [h3] at HI3
        clear h
        go_enter Tryz.func178, Tryz.ntmps178
        go_wp2_with (first
          | (go_at_call 135; (with_reducible refine HI1.out.mono ?_); rintro e w1 ⟨rfl, g1, hk1⟩)
          | (go_at_call 135; (with_reducible refine (HI2.out _ g1).mono ?_); rintro e w2 ⟨rfl, g2, hk2⟩)
          | (go_at_call 135; (with_reducible refine (HI3.out _ g2).mono ?_); rintro e w3 ⟨rfl, g3, hk3⟩))
        refine bodyPost_ret (results_tmp Tryz.results178 _ _ _) rfl ?_
        exact ⟨_, rfl, rfl, g3, (hk1.trans hk2).trans hk3⟩
      | false =>
        rw [h3, trim_no h3] at HI3
        cases r with
        | nil =>
          rw [show oneR [] = none from rfl]
          clear h
          go_enter Tryz.func178, Tryz.ntmps178
          go_wp2_with (first
            | (go_at_call 135; (with_reducible refine HI1.out.mono ?_); rintro e w1 ⟨rfl, g1, hk1⟩)
            | (go_at_call 135; (with_reducible refine (HI2.out _ g1).mono ?_); rintro e w2 ⟨rfl, g2, hk2⟩)
            | (go_at_call 135; (with_reducible refine (HI3.out _ g2).mono ?_); rintro e w3 ⟨rfl, g3, hk3⟩; obtain ⟨c0, f0⟩ := g3.cells))
          exact ⟨rfl, rfl, (hk1.trans hk2).trans hk3⟩
        | cons b t =>
          rw [oneR_4 h1 h2 h3]
          have hsz := ba_size (b :: t)
          have hdr : (⟨(b :: t).toArray⟩ : ByteArray).extract 1 (b :: t).length = ⟨t.toArray⟩ := ba_drop (b :: t) 1
          obtain ⟨s, hs⟩ : ∃ s : ByteArray, (⟨(b :: t).toArray⟩ : ByteArray) = s := ⟨_, rfl⟩
          have hget : ∀ (hj : 0 < s.size), s[0]'hj = b := fun hj => by subst hs; rfl
          have HX : Hid (∀ W', RD w0 R (b :: t) W' → W'.cell? ⟨R, 0, none⟩ = some (.string s) ∧ W'.frozen? ⟨R, 0, none⟩ = false) := Lib.hid fun W' h' => by rw [← hs]; exact h'.cells
          have HS : Hid (∀ W', RD w0 R (b :: t) W' → RD w0 R t (W'.setCell ⟨R, 0, none⟩ (.string (s.extract 1 (t.length + 1))))) := Lib.hid fun W' h' => by
            subst hs
            rw [List.length_cons] at hdr
            rw [hdr]
            exact h'.setR t
          rw [hs] at hsz
          have hne : (s.toList == []) = false := by
            rw [Lib.toList_data, ← hs]; rfl
          have hemp : s.toList.isEmpty = false := by
            rw [Lib.toList_data, ← hs]; rfl
          rw [List.length_cons] at hsz hl
          have g0 : (0 : Int) < (s.size : Int) := by omega
          have g1' : (1 : Int) ≤ (s.size : Int) := by omega
          have hb := hget (by omega)
          clear h hdr hs hget
          go_enter Tryz.func178, Tryz.ntmps178
          go_wp2_with (first
            | (go_at_call 135; (with_reducible refine HI1.out.mono ?_); rintro e w1 ⟨rfl, g1, hk1⟩)
            | (go_at_call 135; (with_reducible refine (HI2.out _ g1).mono ?_); rintro e w2 ⟨rfl, g2, hk2⟩)
            | (go_at_call 135; (with_reducible refine (HI3.out _ g2).mono ?_); rintro e w3 ⟨rfl, g3, hk3⟩; obtain ⟨c0, f0⟩ := HX.out _ g3))
          refine bodyPost_ret (results_tmp Tryz.results178 _ _ _) rfl ?_
          exact ⟨_, rfl, rfl, HS.out _ g3, Kp.set (X := (· = R)) ((hk1.trans hk2).trans hk3) (.inr rfl) 0 _⟩

theorem Kp.then {X Y : Nat → Prop} {a b c : World} (h : Kp X a b) (k : Kp Y b c) (hx : ∀ i, i < a.heap.size → Y i → X i) : Kp X a c :=
  ⟨k.os.trans h.os, k.tape.trans h.tape, k.output.trans h.output, Nat.le_trans h.size k.size, fun i hi hn => (k.block i (Nat.lt_of_lt_of_le hi h.size) fun hY => hn (hx i hi hY)).trans (h.block i hi hn)⟩
theorem Kp.of_fr {B K : Nat} {a b : World} (h : PB.Fr B K a b) : Kp (fun i => i = B ∨ K ≤ i) a b :=
  ⟨h.os, h.tape, h.output, h.size, fun i _ hn => h.block i (Nat.lt_of_not_le fun h => hn (.inr h)) fun h => hn (.inl h)⟩
theorem ownsRow_kp {w w' : World} {base : Nat} {e : TypeId} {size : Nat} {v : Value} {n : Nat} {xs : List Value} (h : w.ownsRow base e size v n xs) (hk : ∀ k, base ≤ k → k < w.heap.size → v.ownBlock = some k → w'.heap[k]? = w.heap[k]?) : w'.ownsRow base e size v n xs := by
  refine ⟨h.1, ?_⟩
  rcases h.2 with h0 | ⟨g, cap, cur, hv, hb, hg, hr⟩
  · exact .inl h0
  · refine .inr ⟨g, cap, cur, hv, hb, ?_, hr⟩
    rw [hk g hb (tr_lt_of_block hg) (by rw [hv]; rfl), hg]
/-- A builder stands where its block and all behind K stand. -/
theorem isT_kp {ty : TypeId} {rest : List Value} {B K : Nat} {l : Str} {w w' : World} {X : Nat → Prop} (h : PB.IsT ty rest B K l w) (k : Kp X w w') (hB : ¬ X B) (hK : ∀ i, K ≤ i → ¬ X i) : PB.IsT ty rest B K l w' := by
  have key : ∀ p, PB.BAt ty rest B K p (Lib.byteCells l) w → PB.BAt ty rest B K p (Lib.byteCells l) w' := by
    rintro p ⟨v, hb, ho⟩
    exact ⟨v, (k.block B (tr_lt_of_block hb) hB).trans hb, ownsRow_kp ho fun q h1 h2 _ => k.block q h2 (hK q h1)⟩
  exact ⟨h.1.imp (key _) (key _), Nat.le_trans h.2 k.size⟩
/-- A new builder. -/
theorem isT_new (w : World) : PB.IsT 73 [] w.heap.size (w.heap.size + 1) [] (w.alloc (.cells #[.pointer none, .slice none 0 0] 73)) :=
  ⟨.inl ⟨.slice none 0 0, heap_alloc_new w _, World.ownsRow_nil _ _ _ _⟩, by simp⟩
theorem isT_lib {B : Nat} {l : Str} {w : World} (h : PB.IsT 73 [] B (B + 1) l w) : Lib.IsBuilder 73 5 B B (Lib.byteCells l) w := by
  have aux : ∀ p, PB.BAt 73 [] B (B + 1) p (Lib.byteCells l) w → Lib.BuilderAt 73 5 B B p (Lib.byteCells l) w := by
    rintro p ⟨v, hb, ho⟩
    refine ⟨Nat.le_refl _, v, hb, ⟨ho.1, ?_⟩, fun e => by have := (ho.lt _ e).1; omega⟩
    rcases ho.2 with hz | ⟨g, cap, cur, hv, hg, r⟩
    · exact .inl hz
    · exact .inr ⟨g, cap, cur, hv, by omega, r⟩
  exact h.1.imp (aux _) (aux _)
end Go.Proofs.YtajmdhcknmmbbaaGreatDoor.Sh
namespace Go.Proofs.YtajmdhcknmmbbaaGreatDoor.Sh
set_option linter.unusedVariables false
set_option linter.unusedSimpArgs false
open Go.Proofs.YtajmdhcknmmbbaaGreatDoor Go.RowKit Go.Deep

/-- Quotes under way: acc has been taken. -/
structure QS (w0 : World) (R : Nat) (W : World) (B : Nat) (r1 : Str) (n : Nat) (acc r' : Str) (wr : World) : Prop where
  bt : PB.IsT 73 [] B (B + 1) acc wr
  rd : RD w0 R r' wr
  kp : Kp (· = R) W wr
  eq : bodyR r1 = (bodyR r').map fun y => (acc ++ y.1, y.2)
  len : acc.length + r'.length ≤ n
section
variable {w0 : World} {R : Nat} {W : World} {B : Nat} {r1 : Str} {n : Nat} {acc r' : Str} {wr w' : World}
theorem QS.base (h : QS w0 R W B r1 n acc r' wr) (hB : R < B) (hW : W.heap.size ≤ B) {r2 : Str} (hr : RD w0 R r2 w') (hk : Kp (· = R) wr w') : PB.IsT 73 [] B (B + 1) acc w' ∧ Kp (· = R) W w' :=
  ⟨isT_kp h.bt hk (by omega) (fun i hi => by omega), h.kp.trans hk⟩
end
/-- How long what has not been taken is, as memory has it. -/
def left (R : Nat) (w : World) : Nat := match w.cell? ⟨R, 0, none⟩ with | some (.string s) => s.size | _ => 0
theorem RD.left {w0 : World} {R : Nat} {r : Str} {W : World} (h : RD w0 R r W) : left R W = r.length := by
  rw [Sh.left, h.cells.1]; exact ba_size r
theorem trim_yes {r p : Str} (h : Lib.hasPrefix r p = true) : Lib.trimPrefix r p = r.drop p.length := by
  rw [Lib.trimPrefix, if_pos h]

set_option maxRecDepth 100000 in
set_option maxHeartbeats 4000000 in
theorem quoted_any {w0 : World} {R : Nat} {r : Str} {W : World} (h : RD w0 R r W) (hl : r.length ≤ 140737488355328) :
    Calls Tryz.prog 158 #[rp R] W (PostV w0 R W FStr (quotedR r)) := by
  have HT := Lib.hid (take_any h ⟨#[34]⟩)
  have hlt := h.lt
  obtain ⟨post, hpost⟩ : ∃ p, PostV w0 R W FStr (quotedR r) = p := ⟨_, rfl⟩
  rw [hpost]
  cases ht : takeR [34] r with
  | none =>
    have hq : quotedR r = none := by rw [quotedR, ht]; rfl
    rw [show takeR (⟨#[34]⟩ : ByteArray).data.toList r = none from ht] at HT
    rw [← hpost, hq]
    clear h hpost
    go_enter Tryz.func158, Tryz.ntmps158
    go_wp2_with (go_at_call 159; (with_reducible refine HT.out.mono ?_); rintro e w1 ⟨rfl, hk1⟩)
    exact ⟨rfl, rfl, hk1⟩
  | some r1 =>
    have hq : quotedR r = bodyR r1 := by rw [quotedR, ht]; rfl
    have hl1 : r1.length ≤ 140737488355327 := by have := takeR_len ht; simp only [List.length_cons, List.length_nil] at this; omega
    rw [show takeR (⟨#[34]⟩ : ByteArray).data.toList r = some r1 from ht] at HT
    have HB : Hid (∀ w', bodyR r1 = none → Kp (· = R) W w' → post (.panicked [pz]) w') := Lib.hid fun w' h1 h2 => by rw [← hpost, hq, h1]; exact ⟨rfl, h2⟩
    have HO : Hid (∀ x r' w', bodyR r1 = some (x, r') → RD w0 R r' w' → Kp (· = R) W w' → post (.returned (.string ⟨x.toArray⟩)) w') := Lib.hid fun x r' w' h1 h2 h3 => by rw [← hpost, hq, h1]; exact ⟨_, rfl, rfl, h2, h3⟩
    clear hpost h ht hq
    go_enter Tryz.func158, Tryz.ntmps158
    go_upto_region 3 with (go_at_call 159; (with_reducible refine HT.out.mono ?_); rintro e w1 ⟨v1, rfl, rfl, g1, hk1⟩)
    have hs1 := hk1.size
    have hbl := PB.lies_own
    go_loopw [] (fun wr => ∃ acc r', QS w0 R W w1.heap.size r1 140737488355327 acc r' wr) (fun wr => left R wr)
    case atStart =>
      refine ⟨[], r1, ?_, g1.alloc _, hk1.alloc _, ?_, by simpa using hl1⟩
      · exact isT_new w1
      · cases bodyR r1 <;> rfl
    case round =>
      obtain ⟨acc, r', hq⟩ := hrel
      have HQ := Lib.hid hq
      have hrd := hq.rd
      have hR : R < w1.heap.size := by omega
      have HL := Lib.hid hrd.left
      clear hq
      cases hp : Lib.hasPrefix r' [34] with
      | true =>
        go_wp2_with (first
          | (go_at_call 135; (with_reducible refine (is_any hrd ⟨#[34]⟩).mono ?_); rw [show Lib.hasPrefix r' (⟨#[34]⟩ : ByteArray).data.toList = true from hp]; rintro e2 w2 ⟨rfl, g2, hk2⟩)
          | (go_at_call 29; (refine (Tryz.Builder_String_any w1.heap.size w1.heap.size acc w2 (isT_lib (HQ.out.base hR hs1 g2 hk2).1) (by have := (HQ.out.base hR hs1 g2 hk2).1.2; omega)).mono ?_); rintro e3 w3 ⟨rfl, hb3⟩))
        have hk := HQ.out.kp.trans hk2
        refine HO.out acc (Lib.trimPrefix r' [34]) w3 ?_ (g2.kp (X := fun i => w1.heap.size ≤ i) ⟨hb3.os, hb3.tape, hb3.output, hb3.size, fun i hi hn => hb3.block i (by omega)⟩ (by omega) (fun i hi => by have := g2.base; omega)) ?_
        · rw [HQ.out.eq, bodyR_eq, if_pos hp, trim_yes hp]
          simp
        · exact hk.then (Y := fun i => w1.heap.size ≤ i) ⟨hb3.os, hb3.tape, hb3.output, hb3.size, fun i hi hn => hb3.block i (by omega)⟩ (fun i hi hn => by omega)
      | false =>
        cases ho : oneR r' with
        | none =>
          go_wp2_with (first
            | (go_at_call 135; (with_reducible refine (is_any hrd ⟨#[34]⟩).mono ?_); rw [show Lib.hasPrefix r' (⟨#[34]⟩ : ByteArray).data.toList = false from hp, show Lib.trimPrefix r' (⟨#[34]⟩ : ByteArray).data.toList = r' from trim_no hp]; rintro e2 w2 ⟨rfl, g2, hk2⟩)
            | (go_at_call 178; (with_reducible refine (one_any g2 (by have := HQ.out.len; omega)).mono ?_); rw [ho]; rintro e3 w3 ⟨rfl, hk3⟩))
          refine ⟨rfl, HB.out _ ?_ ((HQ.out.kp.trans hk2).trans hk3)⟩
          rw [HQ.out.eq, bodyR_eq, if_neg (by rw [hp]; exact Bool.false_ne_true), ho]
          rfl
        | some x =>
          obtain ⟨b, r2⟩ := x
          have hlt2 : r2.length < r'.length := oneR_len ho
          go_wp2_with (first
            | (go_at_call 135; (with_reducible refine (is_any hrd ⟨#[34]⟩).mono ?_); rw [show Lib.hasPrefix r' (⟨#[34]⟩ : ByteArray).data.toList = false from hp, show Lib.trimPrefix r' (⟨#[34]⟩ : ByteArray).data.toList = r' from trim_no hp]; rintro e2 w2 ⟨rfl, g2, hk2⟩)
            | (go_at_call 178; (with_reducible refine (one_any g2 (by have := HQ.out.len; omega)).mono ?_); rw [ho]; rintro e3 w3 ⟨v3, rfl, rfl, g3, hk3⟩)
            | (go_at_call 145; (with_reducible refine (PB.writeB_any hbl (Nat.lt_succ_self _) acc b w3 (HQ.out.base hR hs1 g3 (hk2.trans hk3)).1 (by have := HQ.out.len; omega)).mono ?_); rintro e4 w4 ⟨rfl, hw4⟩))
          go_roundw
          case rel =>
            refine ⟨acc ++ [b], r2, hw4.1, ?_, ?_, ?_, ?_⟩
            · exact g3.kp (Kp.of_fr hw4.2) (by omega) (fun i hi => by have := g3.base; omega)
            · exact ((HQ.out.kp.trans hk2).trans hk3).then (Kp.of_fr hw4.2) (fun i hi hn => by omega)
            · rw [HQ.out.eq, bodyR_eq, if_neg (by rw [hp]; exact Bool.false_ne_true), ho]
              simp only [Option.bind_some]
              cases bodyR r2 <;> simp
            · have := HQ.out.len
              simp only [List.length_append, List.length_cons, List.length_nil]
              omega
          case measure =>
            have e1 := HL.out
            have e2 := (g3.kp (Kp.of_fr hw4.2) (by omega) (fun i hi => by have := g3.base; omega)).left
            omega
end Go.Proofs.YtajmdhcknmmbbaaGreatDoor.Sh
