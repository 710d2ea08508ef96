/-
  Walks: a strings.Builder in a block of its own: WriteString, Len, String.
  Conditions: the builder lies in block B.
  Walks: cat of package oper answers 'opV', 'opOk'.
  Conditions: the values lie in memory, and may be; the three tables hold what the program's text lays in them.
-/
import Derived.Test.YtjbapldlgnlepaaGreatDoorStr
import Derived.Test.YtjbapldlgnlepaaGreatDoorOpOne
namespace Go.Proofs.YtjbapldlgnlepaaGreatDoor
open Go.RowKit

/-- A TELLER IN BLOCK B, HOLDING THE BYTES bs: its buffer is nil or a row that it owns, in a block from B + 1 on. 'p': what the builder's 'addr' holds. -/
def SAt (B : Nat) (p : Value) (bs : List Value) (w : World) : Prop :=
  ∃ v, w.heap[B]? = some (.cells #[p, v] 205 (0, 0)) ∧ w.ownsRow (B + 1) 5 1 v bs.length bs

def IsSB (B : Nat) (bs : List Value) (w : World) : Prop := SAt B (.pointer none) bs w ∨ SAt B (.pointer (some ⟨B, 0, none⟩)) bs w

theorem SAt.lt {B : Nat} {p : Value} {bs : List Value} {w : World} (h : SAt B p bs w) : B < w.heap.size := by
  obtain ⟨v, hb, -⟩ := h
  rcases Nat.lt_or_ge B w.heap.size with h' | h'
  · exact h'
  · simp [Array.getElem?_eq_none h'] at hb

theorem SAt.cell0 {B : Nat} {p : Value} {bs : List Value} {w : World} (h : SAt B p bs w) : w.cell? ⟨B, 0, none⟩ = some p := by
  obtain ⟨v, hb, -⟩ := h
  rw [Lib.cell_of_heap hb]; rfl

theorem SAt.frozen0 {B : Nat} {p : Value} {bs : List Value} {w : World} (h : SAt B p bs w) : w.frozen? ⟨B, 0, none⟩ = false := by
  obtain ⟨v, hb, -⟩ := h
  exact Lib.frozen_of_heap hb 0

theorem SAt.shape {B : Nat} {p : Value} {bs : List Value} {w : World} (h : SAt B p bs w) : w.shape? B = some (205, 2) := by
  obtain ⟨v, hb, -⟩ := h
  simp [World.shape?, hb]

theorem sOwnsRow_set {B : Nat} {v : Value} {n : Nat} {xs : List Value} {w : World} {q : Nat} {u : Value} (h : w.ownsRow (B + 1) 5 1 v n xs) : (w.setCell ⟨B, q, none⟩ u).ownsRow (B + 1) 5 1 v n xs :=
  ownsRow_setCell_below h (by show B < B + 1; omega) u

theorem SAt.used {B : Nat} {p : Value} {bs : List Value} {w : World} (h : SAt B p bs w) (p' : Value) : SAt B p' bs (w.setCell ⟨B, 0, none⟩ p') := by
  obtain ⟨v, hb, ho⟩ := h
  refine ⟨v, ?_, sOwnsRow_set ho⟩
  simp [World.setCell, Array.getElem?_modify, hb]

theorem SAt.put {B : Nat} {p v v' : Value} {bs' : List Value} {w : World} (hb : w.heap[B]? = some (.cells #[p, v] 205 (0, 0))) (hown : w.ownsRow (B + 1) 5 1 v' bs'.length bs') :
    SAt B p bs' (w.setCell ⟨B, 1, none⟩ v') := by
  refine ⟨v', ?_, sOwnsRow_set hown⟩
  simp [World.setCell, Array.getElem?_modify, hb]

theorem sLies_builder : liesAt Tryz.prog Tryz.prog.depth 205 (2 / Tryz.prog.cellsOf 205) 0 205 1 = true := by kernel_rfl
set_option maxRecDepth 100000 in
set_option maxHeartbeats 1000000 in
theorem sCheck_used (b : Nat) (w : World) (h0 : w.cell? ⟨b, 0, none⟩ = some (.pointer (some ⟨b, 0, none⟩))) :
    Calls Tryz.prog 161 #[.pointer (some ⟨b, 0, none⟩)] w fun e w' => e = .returned (.tuple #[]) ∧ w = w' := by
  obtain ⟨j, hj, _⟩ := Option.map_eq_some_iff.1 size_builder
  go_enter Tryz.func161, Tryz.ntmps161
  go_wp2
  rw [Lib.run_neq_ptr_same w _ Tryz.underlying202 hj]
  go_wp2
  go_end0
  exact ⟨rfl, rfl⟩

set_option maxRecDepth 100000 in
set_option maxHeartbeats 1000000 in
theorem sCheck_fresh (b : Nat) (w : World) (h0 : w.cell? ⟨b, 0, none⟩ = some (.pointer none)) (hsh : w.shape? b = some (205, 2)) (hfz : w.frozen? ⟨b, 0, none⟩ = false) :
    Calls Tryz.prog 161 #[.pointer (some ⟨b, 0, none⟩)] w fun e w' => e = .returned (.tuple #[]) ∧ w.setCell ⟨b, 0, none⟩ (.pointer (some ⟨b, 0, none⟩)) = w' := by
  obtain ⟨j, hj, hjs⟩ := Option.map_eq_some_iff.1 size_builder
  go_enter Tryz.func161, Tryz.ntmps161
  go_wp2
  rw [Lib.run_to_unsafe w ⟨b, 0, none⟩ Tryz.underlying202 Tryz.underlying254 hj (by rw [hjs]; decide) hsh (Nat.zero_lt_succ 1)]
  simp only [Result.andThen]
  rw [Oper.upon_value]
  go_wp2
  rw [run_callFunc_extern Tryz.func181 (by kernel_rfl) (by kernel_rfl) (by kernel_rfl) (e := Extern.AbiNoEscape.same) (by kernel_rfl)]
  rw [Lib.run_noEscape]
  simp only [Result.andThen]
  rw [Oper.upon_value]
  go_wp2
  rw [Lib.run_from_unsafe w ⟨b, 0, none⟩ Tryz.underlying254 Tryz.underlying202 hj hsh sLies_builder]
  simp only [Result.andThen]
  rw [Oper.upon_value]
  go_wp2
  go_end0
  exact ⟨rfl, rfl⟩

theorem sCheck_any (B : Nat) (bs : List Value) (w : World) (h : IsSB B bs w) :
    Calls Tryz.prog 161 #[.pointer (some ⟨B, 0, none⟩)] w fun e w' => e = .returned (.tuple #[]) ∧ (SAt B (.pointer (some ⟨B, 0, none⟩)) bs w' ∧ Below B w w') := by
  rcases h with h | h
  · refine (sCheck_fresh B w h.cell0 h.shape h.frozen0).mono ?_
    rintro e w' ⟨rfl, rfl⟩
    exact ⟨rfl, h.used _, (Below.refl _ _).setCell (p := ⟨B, _, none⟩) (Nat.le_refl _) _⟩
  · refine (sCheck_used B w h.cell0).mono ?_
    rintro e w' ⟨rfl, rfl⟩
    exact ⟨rfl, h, Below.refl _ _⟩

theorem SFr.grown {B : Nat} {w w' : World} {v : Value} {n : Nat} {xs : List Value} (hg : w.grownBy w' v.ownBlock) (ho : w.ownsRow (B + 1) 5 1 v n xs) (hB : B < w.heap.size) : Below B w w' := by
  have hr : ∀ k, v.ownBlock = some k → B + 1 ≤ k := fun k hk => (ho.lt k hk).1
  exact (Below.refl B w).grown hg (by omega) (fun k hk => by have := hr k hk; omega)

set_option maxRecDepth 100000 in
set_option maxHeartbeats 2000000 in
theorem sWriteString_any (B : Nat) (bs : List Value) (s : ByteArray) (w : World) (h : IsSB B bs w) (hlen : bs.length + s.size ≤ 140737488355328) (_hBw : B < w.heap.size) :
    Calls Tryz.prog 137 #[.pointer (some ⟨B, 0, none⟩), .string s] w fun e w' => e = .returned (.tuple #[.int .i64 s.size, .nilIface]) ∧ (SAt B (.pointer (some ⟨B, 0, none⟩)) (bs ++ Lib.strCells s) w' ∧ Below B w w') := by
  obtain ⟨i0, hi, hz0, hz1, hz2⟩ := info_parts info_byte
  go_enter Tryz.func137, Tryz.ntmps137
  go_wp2_with fail
  refine (sCheck_any B bs _ h).mono ?_
  rintro e w1 ⟨rfl, h1, hf1⟩
  have hs1 := hf1.size
  obtain ⟨v, hbk, hown⟩ := h1
  have hlt := SAt.lt ⟨v, hbk, hown⟩
  have c0 : w1.cell? ⟨B, 0, none⟩ = some (.pointer (some ⟨B, 0, none⟩)) := by rw [Lib.cell_of_heap hbk]; rfl
  have c1 : w1.cell? ⟨B, 1, none⟩ = some v := by rw [Lib.cell_of_heap hbk]; rfl
  go_wp2_with (at_builtin; refine Lib.wpList_append_own_string _ rfl _ _ 203 9 rfl (B + 1) 5 i0 Tryz.underlying203 Tryz.underlying9 hi hz0 hz1 hz2 _ _ _ rfl hown s rfl ?c3 ?c4 ?c5 ?_)
  case c3 => unfold maxLen; omega
  case c4 => omega
  case c5 => omega
  intro v' w2 hown' hgrow _
  have hfr := SFr.grown hgrow hown (by omega)
  have hb2 : w2.heap[B]? = some (.cells #[.pointer (some ⟨B, 0, none⟩), v] 205 (0, 0)) := by
    rw [hgrow.block B hlt (fun e => by have := (hown.lt _ e.symm).1; omega)]
    exact hbk
  have d0 : w2.cell? ⟨B, 0, none⟩ = some (.pointer (some ⟨B, 0, none⟩)) := by rw [Lib.cell_of_heap hb2]; rfl
  have d1 : w2.cell? ⟨B, 1, none⟩ = some v := by rw [Lib.cell_of_heap hb2]; rfl
  have f1 : w2.frozen? ⟨B, 1, none⟩ = false := Lib.frozen_of_heap hb2 1
  obtain ⟨ao, n', cap, rfl⟩ : ∃ ao n' cap, v' = .slice ao n' cap := by
    rcases hown'.2 with ⟨hv, _⟩ | ⟨g, cap, cur, hv, _⟩
    · exact ⟨_, _, _, hv⟩
    · exact ⟨_, _, _, hv⟩
  go_wp2
  go_ret2
  refine ⟨rfl, ?_, ?_⟩
  · exact SAt.put hb2 (bs' := bs ++ Lib.strCells s) (by simpa [Lib.strCells_length] using hown')
  · exact (hf1.trans hfr).trans ((Below.refl _ _).setCell (p := ⟨B, _, none⟩) (Nat.le_refl _) _)

/-- THE TELLER HOLDS THE BYTES l. -/
def IsST (B : Nat) (l : List UInt8) (w : World) : Prop := IsSB B (Lib.byteCells l) w ∧ B < w.heap.size

theorem IsST.fr {B : Nat} {w w' : World} (h : B < w.heap.size) (hf : Below B w w') : B < w'.heap.size := Nat.lt_of_lt_of_le h hf.size

/-- What a call that writes l' leaves. -/
def SWrote (B : Nat) (l l' : List UInt8) (w w' : World) : Prop := IsST B (l ++ l') w' ∧ Below B w w'

theorem sWrite_any (B : Nat) (l : List UInt8) (s : ByteArray) (w : World) (h : IsST B l w) (hlen : l.length + s.data.toList.length ≤ 140737488355328) :
    Calls Tryz.prog 137 #[.pointer (some ⟨B, 0, none⟩), .string s] w fun e w' => e = .returned (.tuple #[.int .i64 s.size, .nilIface]) ∧ SWrote B l s.data.toList w w' := by
  refine (sWriteString_any B (Lib.byteCells l) s w h.1 (by rw [Lib.byteCells_length]; simpa using hlen) h.2).mono ?_
  rintro e w' ⟨he, hb, hf⟩
  exact ⟨he, ⟨.inr (by simpa [Lib.strCells, Lib.byteCells] using hb), IsST.fr h.2 hf⟩, hf⟩

set_option maxRecDepth 100000 in
set_option maxHeartbeats 2000000 in
theorem sString_any (B : Nat) (l : List UInt8) (w : World) (h : IsST B l w) (h0 : l ≠ []) :
    Calls Tryz.prog 141 #[.pointer (some ⟨B, 0, none⟩)] w fun e w' => e = .returned (.string ⟨l.toArray⟩) ∧ Below B w w' := by
  obtain ⟨p, v, hbk, hown⟩ : ∃ p, SAt B p (Lib.byteCells l) w := by
    rcases h.1 with h | h
    · exact ⟨_, h⟩
    · exact ⟨_, h⟩
  have hl0 : l.length ≠ 0 := by simpa using h0
  rw [Lib.byteCells_length] at hown
  obtain ⟨g, cap, cur, rfl, hbg, hg, hnc, hcm, hcs, htake⟩ : ∃ g cap cur, v = .slice (some ⟨g, 0, none⟩) l.length cap ∧ B + 1 ≤ g ∧ w.heap[g]? = some (.cells cur 5 (0, 0)) ∧ l.length ≤ cap ∧ cap ≤ maxLen ∧ cur.size = cap * 1 ∧ cur.toList.take (l.length * 1) = Lib.byteCells l := by
    rcases hown.2 with ⟨_, hz⟩ | ⟨g, cap, cur, hv, r⟩
    · exact absurd hz hl0
    · exact ⟨g, cap, cur, hv, r⟩
  have c1 : w.drew.cell? ⟨B, 1, none⟩ = some (.slice (some ⟨g, 0, none⟩) l.length cap) := by
    have : w.drew.heap[B]? = some (.cells #[p, .slice (some ⟨g, 0, none⟩) l.length cap] 205 (0, 0)) := hbk
    rw [Lib.cell_of_heap this]; rfl
  have hSD : (Builtin.unsafeSliceData_ #[203] 242 #[.slice (some ⟨g, 0, none⟩) l.length cap]).run Tryz.prog w.drew = .ok (.pointer (some ⟨g, 0, none⟩)) w.drew :=
    Lib.run_unsafeSliceData_row _ _ _ _ _ _ (by omega)
  have hUS : (Builtin.unsafeString_ #[242, 3] 9 #[.pointer (some ⟨g, 0, none⟩), .int .i64 l.length]).run Tryz.prog w.drew = .ok (.string ⟨l.toArray⟩) (w.drew.freeze ⟨g, 0, none⟩ l.length) := by
    refine Lib.run_unsafeString_row w.drew 242 3 9 5 Tryz.underlying242 cells_u8 g cur.size (by have hg' : w.drew.heap[g]? = some (.cells cur 5 (0, 0)) := hg; simp [World.shape?, hg']) l h0 (by omega) (by unfold maxLen at hcm; omega) ?_
    intro j x hx
    have := hown.cells (g := g) rfl j (.int .u8 x.toNat) (by simp [Lib.byteCells, hx])
    exact this
  have mixed : Tryz.prog.follows Departure.mixedOrders = true := by kernel_rfl
  clear h hown htake
  go_enter Tryz.func141, Tryz.ntmps141
  go_wp2
  go_region_o
  all_goals (go_wp2; go_ret; exact ⟨rfl, Lib.below_freeze (Below.drew (Below.refl B w)) (p := ⟨g, 0, none⟩) (by show B ≤ g; omega) _⟩)
end Go.Proofs.YtjbapldlgnlepaaGreatDoor
namespace Go.Proofs.YtjbapldlgnlepaaGreatDoor
open Go.RowKit Go.Deep Go.WideShapes

theorem isb_of {B : Nat} {bs : List Value} {w : World} (h : IsSB B bs w) : Lib.IsBuilder 205 5 B B bs w := by
  have aux : ∀ p, SAt B p bs w → Lib.BuilderAt 205 5 B B p bs w := by
    rintro p ⟨v, hb, ho⟩
    refine ⟨Nat.le_refl _, v, hb, ⟨ho.1, ?_⟩, fun e => by have := (ho.lt _ e).1; omega⟩
    rcases ho.2 with hz | ⟨g, cap, cur, hv, hg, r⟩
    · exact .inl hz
    · exact .inr ⟨g, cap, cur, hv, by omega, r⟩
  exact h.imp (aux _) (aux _)

theorem SAt.below {B : Nat} {p : Value} {bs : List Value} {w w' : World} (h : SAt B p bs w) (hb : Below w.heap.size w w') : SAt B p bs w' := by
  have hlt := h.lt
  obtain ⟨v, hbk, ho⟩ := h
  refine ⟨v, by rw [hb.block B hlt]; exact hbk, ho.1, ?_⟩
  rcases ho.2 with hz | ⟨g, cap, cur, hv, hg, hgg, r⟩
  · exact .inl hz
  · exact .inr ⟨g, cap, cur, hv, hg, by rw [hb.block g (Array.getElem?_eq_some_iff.1 hgg).1]; exact hgg, r⟩
theorem IsSB.below {B : Nat} {bs : List Value} {w w' : World} (h : IsSB B bs w) (hb : Below w.heap.size w w') : IsSB B bs w' := h.imp (·.below hb) (·.below hb)

/-- The values, the result's variable, and behind it a builder that holds l. -/
structure CW (w : World) (la : Option Addr) (ll lc : Nat) (L : Nat → V) (l : List UInt8) (W : World) : Prop where
  ow : OW w la ll lc L W
  sb : IsST (w.heap.size + 1) l W

theorem OW.belowB {w W W' : World} {la : Option Addr} {ll lc : Nat} {L : Nat → V} (h : OW w la ll lc L W) (hb : Below (w.heap.size + 1) W W') : OW w la ll lc L W' := by
  refine ⟨h.low.trans (hb.mono (by omega)), h.base, fun i hi => ?_, Nat.lt_of_lt_of_le h.big hb.size⟩
  obtain ⟨⟨v, h1⟩, h2⟩ := h.res i hi
  exact ⟨⟨v, by rw [hb.cell (p := ⟨w.heap.size, i, none⟩) (by show w.heap.size < w.heap.size + 1; omega), h1]⟩, by rw [hb.frozen (p := ⟨w.heap.size, i, none⟩) (by show w.heap.size < w.heap.size + 1; omega), h2]⟩
theorem CW.below {w W W' : World} {la : Option Addr} {ll lc : Nat} {L : Nat → V} {l : List UInt8} (h : CW w la ll lc L l W) (hb : Below W.heap.size W W') : CW w la ll lc L l W' :=
  ⟨h.ow.below hb, h.sb.1.below hb, Nat.lt_of_lt_of_le h.sb.2 hb.size⟩

theorem check_str {v : V} (h : v.check = true) : v.str.data.toList.length ≤ 4096 := by
  cases v with
  | leaf => exact Nat.zero_le _
  | mk k n s la ll lc L fa fl fc fn F e key hk => exact (inLim_of ((check_iff _).1 h).1.1).1

theorem int_text {v : V} (h : v.check = true) (hk : v.kind = 1) : v.text = ⟨(Lib.itoa v.num).toArray⟩ := by
  cases v with
  | leaf => simp [V.kind] at hk
  | mk k n s la ll lc L fa fl fc fn F e key hk' =>
    obtain rfl : k = 1 := hk
    simp only [V.text, h, if_true, V.told, V.num]
    rfl

/-- So far it can be done. -/
def CatTo (k : Nat) (L : Nat → V) : Prop := ∀ i, i < k → ((decide ((L i).kind = 3) || decide ((L i).kind = 1)) && decide ((catL (i + 1) L).length ≤ 4096)) = true
theorem CatTo.len {k : Nat} {L : Nat → V} (h : CatTo k L) : (catL k L).length ≤ 4096 := by
  cases k with
  | zero => simp [catL]
  | succ k =>
    have := h k (Nat.lt_succ_self _)
    rw [Bool.and_eq_true] at this
    exact of_decide_eq_true this.2
theorem CatTo.succ {k : Nat} {L : Nat → V} (h : CatTo k L) (hk : (L k).kind = 3 ∨ (L k).kind = 1) (hl : (catL (k + 1) L).length ≤ 4096) : CatTo (k + 1) L := fun i hi => by
  rcases Nat.lt_succ_iff_lt_or_eq.1 hi with h1 | rfl
  · exact h i h1
  · rw [decide_eq_true hl, Bool.and_true]
    rcases hk with e | e <;> simp [e]

/-- What one round writes. -/
theorem write_step {w W : World} {la : Option Addr} {ll lc : Nat} {L : Nat → V} {k : Nat} {s : ByteArray} (h : CW w la ll lc L (catL k L) W) (hs : piece (L k) = s.data.toList) (hl : (catL k L).length + s.data.toList.length ≤ 140737488355328) :
    Calls Tryz.prog 137 #[.pointer (some ⟨w.heap.size + 1, 0, none⟩), .string s] W fun e w' => e = .returned (.tuple #[.int .i64 s.size, .nilIface]) ∧ CW w la ll lc L (catL (k + 1) L) w' :=
  (sWrite_any (w.heap.size + 1) (catL k L) s W h.sb hl).mono fun _ _ ⟨h1, h2, h3⟩ => ⟨h1, h.ow.belowB h3, by rw [catL, hs]; exact h2⟩
theorem len_step {w W : World} {la : Option Addr} {ll lc : Nat} {L : Nat → V} {l : List UInt8} (h : CW w la ll lc L l W) :
    Calls Tryz.prog 139 #[.pointer (some ⟨w.heap.size + 1, 0, none⟩)] W fun e w' => e = .returned (.int .i64 l.length) ∧ CW w la ll lc L l w' :=
  (Tryz.Builder_Len (w.heap.size + 1) (w.heap.size + 1) (Lib.byteCells l) W (isb_of h.sb.1)).mono fun e w' ⟨h1, h2⟩ => ⟨by rw [h1, Lib.byteCells_length], by rw [h2]; exact h⟩
theorem string_step {w W : World} {la : Option Addr} {ll lc : Nat} {L : Nat → V} {l : List UInt8} (h : CW w la ll lc L l W) :
    Calls Tryz.prog 141 #[.pointer (some ⟨w.heap.size + 1, 0, none⟩)] W fun e w' => e = .returned (.string ⟨l.toArray⟩) ∧ OW w la ll lc L w' :=
  (Tryz.Builder_String_any (w.heap.size + 1) (w.heap.size + 1) l W (isb_of h.sb.1) (Nat.le_of_lt h.sb.2)).mono fun _ _ ⟨h1, h2⟩ => ⟨h1, h.ow.belowB h2⟩

set_option maxRecDepth 100000 in
set_option maxHeartbeats 4000000 in
theorem oCat_any (la : Option Addr) (ll lc : Nat) (L : Nat → V) (w : World) (h : Vals w la ll lc L) (hck : ∀ i, i < ll → (L i).check = true) (ht : Tabs w) : Calls Tryz.prog 89 #[.slice la ll lc] w (OpPost 6 ll L w) := by
  have OK0 := OW.start h 55
  have hlc := h.hlc
  unfold maxLen at hlc
  have HPN : Hid (∀ e w', catB ll L = false → e = .returned (.tuple #[nv.agg, .bool false]) → Below w.heap.size w w' → OpPost 6 ll L w e w') := by
    rintro e w' hb he h1
    have e1 : opOk 6 ll L = false := hb
    exact ⟨nv, by rw [e1]; exact he, h1, nv_in _, fun h => by rw [e1] at h; cases h⟩
  have HPY : Hid (∀ e w', CatTo ll L → e = .returned (.tuple #[(sv ⟨(catL ll L).toArray⟩).agg, .bool true]) → Below w.heap.size w w' → OpPost 6 ll L w e w') := by
    rintro e w' hb he h1
    have e1 : opOk 6 ll L = true := allB_true.2 hb
    exact ⟨_, by rw [e1]; exact he, h1, vz_in _ (by omega) (by omega) (by have := hb.len; show (catL ll L).length ≤ maxLen; unfold maxLen; omega), fun _ => sv_same _⟩
  have HF : Hid (∀ k, k < ll → ¬ ((L k).kind = 3 ∨ (L k).kind = 1) → catB ll L = false) := fun k hk hn => allB_false hk (by simp [not_or.1 hn])
  have HF2 : Hid (∀ k, k < ll → 4096 < (catL (k + 1) L).length → catB ll L = false) := fun k hk hn => allB_false hk (by simp; omega)
  have HE := Lib.hid (fun W (h : OW w la ll lc L W) k (hk : k < ll) => h.vals.el k hk)
  have HCK := Lib.hid hck
  have HT := Lib.hid (fun W (h : OW w la ll lc L W) k (hk : k < ll) => text_any (L k) W (h.vals.el k hk).2 (ht.below h.low).1 (ht.below h.low).2.1 (ht.below h.low).2.2)
  have KS := Lib.hid (fun W (h : OW w la ll lc L W) => And.intro h h.rcells)
  clear hck ht h
  simp only [nv, vz, V.cells] at OK0
  have OKH := Lib.hid OK0
  clear OK0
  go_enter Tryz.func89, Tryz.ntmps89
  go_upto_region 1 with fail
  have OKu := OKH.out
  have hzs : (w.alloc (.cells #[.int .u8 0, .int .i64 0, .string ⟨#[]⟩, .slice none 0 0, .slice none 0 0, .int .u8 0, .string ⟨#[]⟩, .bool false] 55)).heap.size = w.heap.size + 1 := by simp
  have HZS := Lib.hid hzs
  clear hzs
  revert HZS
  generalize w.alloc (.cells #[.int .u8 0, .int .i64 0, .string ⟨#[]⟩, .slice none 0 0, .slice none 0 0, .int .u8 0, .string ⟨#[]⟩, .bool false] 55) = W0 at OKu ⊢
  intro HZS
  have OK : OW w la ll lc L W0 := OKu
  clear OKu OKH
  have HC0 : Hid (CW w la ll lc L (catL 0 L) (W0.alloc (.cells #[.pointer none, .slice none 0 0] 205))) := by
    refine ⟨OK.alloc _, .inl ⟨.slice none 0 0, ?_, by simp [catL, Lib.byteCells], .inl ⟨rfl, rfl⟩⟩, by simp [HZS.out]⟩
    rw [← HZS.out]
    exact heap_alloc_new W0 _
  go_wp2_with fail
  rw [HZS.out]
  clear HZS OK
  go_loopw [8] (fun i W => ∃ k : Nat, i = .int .i64 k ∧ k ≤ ll ∧ CatTo k L ∧ CW w la ll lc L (catL k L) W) (fun i _ => ll - (intOf i).toNat)
  case atStart => exact ⟨0, rfl, Nat.zero_le _, fun i hi => absurd hi (Nat.not_lt_zero _), HC0.out⟩
  case round =>
    obtain ⟨k, rfl, hk, hto, hcw⟩ := hrel
    have HTO := Lib.hid hto
    have HCW := Lib.hid hcw
    clear hto hcw HC0
    obtain ⟨-, ⟨d0, d1, d2, d3, d4, d5, d6, d7⟩, z0, z1, z2, z3, z4, z5, z6, z7⟩ := KS.out _ HCW.out.ow
    by_cases hlt : k < ll
    · have hlt' : (k : Int) < (ll : Int) := by omega
      have hk0 : (0 : Int) ≤ (k : Int) := by omega
      obtain ⟨⟨b, o, rfl, hat⟩, hin⟩ := HE.out _ HCW.out.ow k hlt
      have HTK := Lib.hid (fun W h => HT.out W h k hlt)
      have hstr := check_str (HCK.out k hlt)
      have hlen := HTO.out.len
      have HWS := Lib.hid (fun W (s : ByteArray) (h : CW w (some ⟨b, o, none⟩) ll lc L (catL k L) W) (hs : piece (L k) = s.data.toList) (hl : s.data.toList.length ≤ 30000000000) => write_step h hs (by omega))
      have HIT := Lib.hid (fun hk1 => int_text (HCK.out k hlt) hk1)
      have HFk := Lib.hid (HF.out k hlt)
      have HF2k := Lib.hid (HF2.out k hlt)
      have HSk := Lib.hid (fun h1 h2 => HTO.out.succ (k := k) h1 h2)
      have hP3 : (L k).kind = 3 → piece (L k) = (L k).str.data.toList := fun e => if_pos e
      have hP1 : (L k).kind = 1 → piece (L k) = Lib.itoa (L k).num := fun e => if_neg (by rw [e]; decide)
      have hnums := hin.nums
      obtain ⟨x, hx⟩ : ∃ x, L k = x := ⟨_, rfl⟩
      rw [hx] at hat hin HTK hstr HIT HFk HWS HSk hP3 hP1 hnums
      have HXX := Lib.hid hx
      clear hx hlen
      cases x with
      | leaf => exact hin.elim
      | mk k3 n3 s3 la3 ll3 lc3 L3 fa3 fl3 fc3 fn3 F3 e3 key3 hk3 =>
      obtain ⟨c0, c1, c2, c3, c4, c5, c6, c7⟩ := at8 hat
      have hn3 := hnums.1
      simp only [V.kind, V.str, V.num] at HIT HFk HSk hP3 hP1 hstr
      clear hat hin hnums
      obtain ⟨len1, hlen1⟩ : ∃ q, (catL (k + 1) L).length = q := ⟨_, rfl⟩
      rw [hlen1] at HF2k HSk
      have HLS := Lib.hid (fun W (h : CW w (some ⟨b, o, none⟩) ll lc L (catL (k + 1) L) W) => (len_step h).mono (R' := fun e w' => e = .returned (.int .i64 len1) ∧ CW w (some ⟨b, o, none⟩) ll lc L (catL (k + 1) L) w') (fun e w' ⟨h1, h2⟩ => ⟨by rw [h1, hlen1], h2⟩))
      clear hlen1
      simp only [V.agg, V.cells] at HTK
      by_cases h3 : k3 = 3
      · subst h3
        have HW3 := Lib.hid (fun W h => HWS.out W s3 h (hP3 rfl) (by omega))
        clear d0 d1 d2 d3 d4 d5 d6 d7 z0 z1 z2 z3 z4 z5 z6 z7 HTK HIT hP3 hP1 HWS hn3
        by_cases hbig : len1 ≤ 4096
        · have hb1 : ¬ (4096 : Int) < (len1 : Int) := by omega
          go_wp2_with (first
            | (go_at_call 137; (with_reducible refine (HW3.out _ HCW.out).mono ?_); rintro q w1 ⟨rfl, hc1⟩)
            | (go_at_call 139; (with_reducible refine (HLS.out _ hc1).mono ?_); rintro q w2 ⟨rfl, hc2⟩))
          go_roundw
          case rel => exact ⟨k + 1, by go_num, by omega, HSk.out (by simp) hbig, hc2⟩
          case measure => simp [intOf]; omega
        · have hb1 : (4096 : Int) < (len1 : Int) := by omega
          have HFF := Lib.hid (HF2k.out (by omega))
          go_wp2_with (first
            | (go_at_call 137; (with_reducible refine (HW3.out _ HCW.out).mono ?_); rintro q w1 ⟨rfl, hc1⟩)
            | (go_at_call 139; (with_reducible refine (HLS.out _ hc1).mono ?_); rintro q w2 ⟨rfl, hc2⟩; have HOW := Lib.hid hc2.ow.low; obtain ⟨-, ⟨d0, d1, d2, d3, d4, d5, d6, d7⟩, z0, z1, z2, z3, z4, z5, z6, z7⟩ := KS.out _ hc2.ow))
          refine bodyPost_ret (v := .tuple #[(nv).agg, .bool false]) (by simp [results, Tryz.results89, go_sem, d0, d1, d2, d3, d4, d5, d6, d7, nv, vz, V.agg, V.cells]) rfl (HPN.out _ _ HFF.out rfl ?_)
          iterate 8 (with_reducible refine low_set ?_ _ _)
          exact HOW.out
      · by_cases h1 : k3 = 1
        · subst h1
          have hq : (V.mk 1 n3 s3 la3 ll3 lc3 L3 fa3 fl3 fc3 fn3 F3 e3 key3 hk3).text = ⟨(Lib.itoa n3).toArray⟩ := HIT.out rfl
          rw [hq] at HTK
          have hitl := Lib.itoa_length_le n3 hn3.1 hn3.2
          have HW1 := Lib.hid (fun W h => HWS.out W ⟨(Lib.itoa n3).toArray⟩ h (hP1 rfl) (by show (Lib.itoa n3).length ≤ 30000000000; omega))
          clear d0 d1 d2 d3 d4 d5 d6 d7 z0 z1 z2 z3 z4 z5 z6 z7 HIT hP3 hP1 HWS hn3 hq hitl h3
          by_cases hbig : len1 ≤ 4096
          · have hb1 : ¬ (4096 : Int) < (len1 : Int) := by omega
            go_wp2_with (first
              | (go_at_call 138; (with_reducible refine (HTK.out _ HCW.out.ow).mono ?_); rintro q w3 ⟨rfl, hb3⟩; have hc3 := HCW.out.below hb3)
              | (go_at_call 137; (with_reducible refine (HW1.out _ hc3).mono ?_); rintro q w1 ⟨rfl, hc1⟩)
              | (go_at_call 139; (with_reducible refine (HLS.out _ hc1).mono ?_); rintro q w2 ⟨rfl, hc2⟩))
            go_roundw
            case rel => exact ⟨k + 1, by go_num, by omega, HSk.out (by simp) hbig, hc2⟩
            case measure => simp [intOf]; omega
          · have hb1 : (4096 : Int) < (len1 : Int) := by omega
            have HFF := Lib.hid (HF2k.out (by omega))
            go_wp2_with (first
              | (go_at_call 138; (with_reducible refine (HTK.out _ HCW.out.ow).mono ?_); rintro q w3 ⟨rfl, hb3⟩; have hc3 := HCW.out.below hb3)
              | (go_at_call 137; (with_reducible refine (HW1.out _ hc3).mono ?_); rintro q w1 ⟨rfl, hc1⟩)
              | (go_at_call 139; (with_reducible refine (HLS.out _ hc1).mono ?_); rintro q w2 ⟨rfl, hc2⟩; have HOW := Lib.hid hc2.ow.low; obtain ⟨-, ⟨d0, d1, d2, d3, d4, d5, d6, d7⟩, z0, z1, z2, z3, z4, z5, z6, z7⟩ := KS.out _ hc2.ow))
            refine bodyPost_ret (v := .tuple #[(nv).agg, .bool false]) (by simp [results, Tryz.results89, go_sem, d0, d1, d2, d3, d4, d5, d6, d7, nv, vz, V.agg, V.cells]) rfl (HPN.out _ _ HFF.out rfl ?_)
            iterate 8 (with_reducible refine low_set ?_ _ _)
            exact HOW.out
        · have HFF := Lib.hid (HFk.out (fun h => h.elim h3 h1))
          have HOW := Lib.hid HCW.out.ow.low
          have hq3 : (k3 == 3) = false := by simpa using h3
          have hq1 : (k3 == 1) = false := by simpa using h1
          clear h1 h3
          go_wp2_with fail
          refine bodyPost_ret (v := .tuple #[(nv).agg, .bool false]) (by simp [results, Tryz.results89, go_sem, d0, d1, d2, d3, d4, d5, d6, d7, nv, vz, V.agg, V.cells]) rfl (HPN.out _ _ HFF.out rfl ?_)
          iterate 8 (with_reducible refine low_set ?_ _ _)
          exact HOW.out
    · obtain rfl : ll = k := by omega
      clear d0 d1 d2 d3 d4 d5 d6 d7 z0 z1 z2 z3 z4 z5 z6 z7
      go_wp2_with (first
        | (go_at_call 141; (with_reducible refine (string_step HCW.out).mono ?_); rintro q w1 ⟨rfl, ho1⟩)
        | (go_at_call 140; (with_reducible refine (aText_any _ _).mono ?_); rintro q w2 ⟨rfl, hb2⟩; have ho2 := ho1.below hb2; have HOW := Lib.hid ho2.low; obtain ⟨-, ⟨d0, d1, d2, d3, d4, d5, d6, d7⟩, z0, z1, z2, z3, z4, z5, z6, z7⟩ := KS.out _ ho2; simp only [sv, vz, V.agg, V.cells]))
      refine bodyPost_ret (v := .tuple #[(sv ⟨(catL ll L).toArray⟩).agg, .bool true]) (by simp [results, Tryz.results89, go_sem, d0, d1, d2, d3, d4, d5, d6, d7, sv, vz, V.agg, V.cells]) rfl (HPY.out _ _ HTO.out rfl ?_)
      iterate 8 (with_reducible refine low_set ?_ _ _)
      exact HOW.out
end Go.Proofs.YtjbapldlgnlepaaGreatDoor
