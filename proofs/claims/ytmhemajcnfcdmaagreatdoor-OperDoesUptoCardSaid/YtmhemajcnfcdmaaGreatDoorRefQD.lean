/-
  Walks: the reference's Quoted answers 'quotedL'; old memory is as it was.
  Conditions: the text has at most 2^40 bytes.
  For the reference's Digits: digits, the last one first; a list of bytes that is turned round in place.
  Conditions: none.
  Walks: the reference's Digits answers 'itoa'; old memory is as it was.
  Conditions: the number is an int64.
  Walks: the reference's word, list, for values of which 'told' tells.
  Conditions: the values lie in memory, may be, but for how many parts there are, and have at most 4096 parts.
-/
import Derived.Test.YtmhemajcnfcdmaaGreatDoorOMc
import Derived.Test.YtmhemajcnfcdmaaGreatDoorOMg
import Derived.Test.YtmhemajcnfcdmaaGreatDoorOMb
import Derived.IntWalk
import Derived.Test.YtmhemajcnfcdmaaGreatDoorRefB
namespace Go.Proofs.YtmhemajcnfcdmaaGreatDoor
open Go.RowKit
theorem info_u8 : (Tryz.prog.info? 5).map (fun i => (i.zero, i.size, i.bytes)) = some (some (.int .u8 0), 1, 1) := by kernel_rfl
structure BL (w0 : World) (l : List UInt8) (v : Value) (n : Nat) (W : World) : Prop where
  len : n = l.length
  own : W.ownsRow w0.heap.size 5 1 v n (Lib.byteCells l)
  low : Below w0.heap.size w0 W
theorem BL.start (w : World) : BL w [] (.slice none 0 0) 0 w := ⟨rfl, World.ownsRow_nil _ _ _ _, Below.refl _ _⟩
theorem bytes_one {l : List UInt8} : ∀ u ∈ Lib.byteCells l, u.oneCell' = true := by
  intro u hu
  obtain ⟨_, _, rfl⟩ := List.mem_map.1 hu
  rfl
theorem append_B {w0 : World} {l : List UInt8} {v : Value} {n : Nat} {W : World} {ops : Array Oper} {rest : List Oper} {o : Oper} {a : Act} {Q : Exit → Act → World → Prop} (h : BL w0 l v n W) (hgd : o.guard = none) (s x : Operand)
    (ho : o.op = .call { callee := .builtin .append, args := #[s, x], argTypes := #[208, 208] }) (hs : a.eval s = v) (r : List UInt8) (m : Nat) (cs : List Value) (T : TypeId) (hx : a.eval x = .slice (some ⟨W.heap.size, 0, none⟩) m m)
    (hm : m = r.length) (hm0 : 0 < m) (hcs : cs = Lib.byteCells r) (hb : n + m ≤ 70368744177664)
    (hr : ∀ g cap W', BL w0 (l ++ r) (.slice (some ⟨g, 0, none⟩) (n + m) cap) (n + m) W' → wpList Tryz.prog ops Q rest (a.put o.dst (.slice (some ⟨g, 0, none⟩) (n + m) cap)) W') : wpList Tryz.prog ops Q (o :: rest) a (W.alloc (.cells cs.toArray T)) := by
  subst hcs hm
  obtain ⟨i0, hi, hz0, hz1, hz2⟩ := info_parts info_u8
  have hnew : ∀ j u, (Lib.byteCells r)[j]? = some u → (W.alloc (.cells (Lib.byteCells r).toArray T)).cell? ((⟨W.heap.size, 0, none⟩ : Addr).add j) = some u := new_cells
  refine wpList_append_own _ hgd s x _ ho w0.heap.size 5 i0 (.int .u8 0) 1 1 Tryz.underlying208 hi hz0 hz1 hz2 rfl (by decide) v n _ hs (h.own.alloc _) ⟨W.heap.size, 0, none⟩ r.length r.length (Lib.byteCells r) hx (by rw [Lib.byteCells_length, Nat.mul_one]) hnew bytes_one (by unfold maxLen; omega) (by omega) (by have := h.low.size; simp; omega) ?_
  intro v' w' hown hgrow _
  have hg2 : W.grownBy w' v.ownBlock := grown_trans (World.grownBy_alloc W _ _) hgrow
  have hlow := h.low.grown hg2 h.low.size (fun k e => by have := (h.own.lt _ e).1; omega)
  rcases hown.2 with ⟨_, h0⟩ | ⟨g, cap, cur, e, _⟩
  · omega
  · subst e
    refine hr g cap w' ⟨by rw [h.len, List.length_append], ?_, hlow⟩
    rw [Lib.byteCells_append]
    exact hown
theorem conv_B {w0 : World} {l : List UInt8} {g n cap : Nat} {W : World} (h : BL w0 l (.slice (some ⟨g, 0, none⟩) n cap) n W) :
    (convert 208 9 (.slice (some ⟨g, 0, none⟩) n cap)).run Tryz.prog W = .ok (.string ⟨l.toArray⟩) W := by
  have hl := h.len
  subst hl
  refine run_convert_bytes_back W 208 9 5 ⟨g, 0, none⟩ cap l Tryz.underlying208 Tryz.underlying5 Tryz.underlying9 (fun j hj => ?_)
  have := h.own.cells (g := g) rfl j (.int .u8 (l[j].toNat : Int)) (by simp [Lib.byteCells, hj])
  exact this
theorem quoted_snoc (s : ByteArray) : (34 :: escTo s.data.toList s.size) ++ [34] = quotedL s.data.toList := by
  have : s.data.toList.take s.size = s.data.toList := List.take_of_length_le (by simp)
  rw [escTo, this, quotedL]; rfl
set_option maxRecDepth 100000 in
set_option maxHeartbeats 4000000 in
theorem rquoted_any (s : ByteArray) (w : World) (hs : s.size ≤ 1099511627776) :
    Calls Tryz.prog 190 #[.string s] w fun e w' => e = .returned (.string ⟨(quotedL s.data.toList).toArray⟩) ∧ Below w.heap.size w w' := by
  have HQ := Lib.hid (quoted_snoc s)
  have HLN : Hid (∀ j, j ≤ s.size → (34 :: escTo s.data.toList j).length ≤ 2199023255553) := fun j hj => by
    have h1 := escTo_len (s := s.data.toList) j
    have h2 : (s.data.toList.flatMap escB).length ≤ 2 * s.data.toList.length := by
      have := quotedL_length s.data.toList
      simp only [quotedL, List.length_cons, List.length_append, List.length_nil] at this
      omega
    have h3 : s.data.toList.length = s.size := by simp
    simp only [List.length_cons]
    omega
  have HST := Lib.hid (BL.start w)
  go_enter Tryz.func190, Tryz.ntmps190
  go_wp2_with (at_builtin; refine append_B HST.out rfl _ _ rfl rfl [34] 1 _ _ rfl rfl (by omega) rfl (by omega) ?_)
  intro g0 cap0 W0 hBL0
  have HB0 := Lib.hid hBL0
  clear hBL0
  go_wp2_with fail
  go_loopw [3, 4] (fun v i wr => ∃ (j g n cap : Nat), j ≤ s.size ∧ i = .int .i64 j ∧ v = .slice (some ⟨g, 0, none⟩) n cap ∧ BL w (34 :: escTo s.data.toList j) v n wr) (fun _ i _ => s.size - (intOf i).toNat)
  case atStart => exact ⟨0, _, _, _, Nat.zero_le _, rfl, rfl, HB0.out⟩
  case round =>
    obtain ⟨j, g, n, cap, hj, rfl, rfl, hbl⟩ := hrel
    have HB := Lib.hid hbl
    have hn : n ≤ 2199023255553 := by have h1 := hbl.len; have h2 := HLN.out j hj; omega
    clear hbl
    by_cases hlt : j < s.size
    · have hjl : j < s.data.toList.length := by simpa using hlt
      have HE : Hid (escTo s.data.toList (j + 1) = escTo s.data.toList j ++ escB s[j]) := escTo_succ hjl
      by_cases c34 : s[j] = 34
      · have E : Hid (escB s[j] = [92, 34]) := by simp [Hid, escB, c34]
        go_wp2_with (at_builtin; refine append_B HB.out rfl _ _ rfl rfl [92, 34] 2 _ _ rfl rfl (by omega) rfl (by omega) ?_)
        intro g1 cap1 W1 hBL1
        have HB1 : Hid (BL w (34 :: escTo s.data.toList (j + 1)) (.slice (some ⟨g1, 0, none⟩) (n + 2) cap1) (n + 2) W1) := by rw [HE.out, E.out]; exact hBL1
        clear hBL1
        go_wp2_with fail
        go_roundw
        case rel => exact ⟨j + 1, _, _, _, by omega, by go_num, rfl, HB1.out⟩
        case measure => simp [intOf]; omega
      by_cases c92 : s[j] = 92
      · have n34 : ((s[j].toNat : Int) == 34) = false := ne_byte c34
        clear c34
        have E : Hid (escB s[j] = [92, 92]) := by simp [Hid, escB, c92]
        go_wp2_with (at_builtin; refine append_B HB.out rfl _ _ rfl rfl [92, 92] 2 _ _ rfl rfl (by omega) rfl (by omega) ?_)
        intro g1 cap1 W1 hBL1
        have HB1 : Hid (BL w (34 :: escTo s.data.toList (j + 1)) (.slice (some ⟨g1, 0, none⟩) (n + 2) cap1) (n + 2) W1) := by rw [HE.out, E.out]; exact hBL1
        clear hBL1
        go_wp2_with fail
        go_roundw
        case rel => exact ⟨j + 1, _, _, _, by omega, by go_num, rfl, HB1.out⟩
        case measure => simp [intOf]; omega
      by_cases c10 : s[j] = 10
      · have n34 : ((s[j].toNat : Int) == 34) = false := ne_byte c34
        have n92 : ((s[j].toNat : Int) == 92) = false := ne_byte c92
        clear c34 c92
        have E : Hid (escB s[j] = [92, 110]) := by simp [Hid, escB, c10]
        go_wp2_with (at_builtin; refine append_B HB.out rfl _ _ rfl rfl [92, 110] 2 _ _ rfl rfl (by omega) rfl (by omega) ?_)
        intro g1 cap1 W1 hBL1
        have HB1 : Hid (BL w (34 :: escTo s.data.toList (j + 1)) (.slice (some ⟨g1, 0, none⟩) (n + 2) cap1) (n + 2) W1) := by rw [HE.out, E.out]; exact hBL1
        clear hBL1
        go_wp2_with fail
        go_roundw
        case rel => exact ⟨j + 1, _, _, _, by omega, by go_num, rfl, HB1.out⟩
        case measure => simp [intOf]; omega
      · have n34 : ((s[j].toNat : Int) == 34) = false := ne_byte c34
        have n92 : ((s[j].toNat : Int) == 92) = false := ne_byte c92
        have n10 : ((s[j].toNat : Int) == 10) = false := ne_byte c10
        have E : Hid (escB s[j] = [s[j]]) := by simp [Hid, escB, c34, c92, c10]
        clear c34 c92 c10
        go_wp2_with (at_builtin; refine append_B HB.out rfl _ _ rfl rfl [s[j]] 1 _ _ rfl rfl (by omega) rfl (by omega) ?_)
        intro g1 cap1 W1 hBL1
        have HB1 : Hid (BL w (34 :: escTo s.data.toList (j + 1)) (.slice (some ⟨g1, 0, none⟩) (n + 1) cap1) (n + 1) W1) := by rw [HE.out, E.out]; exact hBL1
        clear hBL1
        go_wp2_with fail
        go_roundw
        case rel => exact ⟨j + 1, _, _, _, by omega, by go_num, rfl, HB1.out⟩
        case measure => simp [intOf]; omega
    · obtain rfl : s.size = j := by omega
      go_wp2_with (at_builtin; refine append_B HB.out rfl _ _ rfl rfl [34] 1 _ _ rfl rfl (by omega) rfl (by omega) ?_)
      intro g1 cap1 W1 hBL1
      have kc := conv_B hBL1
      rw [show 34 :: (escTo s.data.toList s.size ++ [34]) = quotedL s.data.toList from HQ.out] at kc
      have HL := Lib.hid hBL1.low
      clear hBL1
      go_wp2_with fail
      go_ret
      exact ⟨rfl, HL.out⟩
end Go.Proofs.YtmhemajcnfcdmaaGreatDoor
namespace Go.Proofs.YtmhemajcnfcdmaaGreatDoor
open Go.RowKit Go.Deep Go.WideShapes Go.ChangeShapes
def dgB (i : Nat) : UInt8 := UInt8.ofNat (48 + i)
def DgAt (U q : Nat) (l : List UInt8) : Prop := Lib.decDigits U = Lib.decDigits q ++ l.reverse
theorem dg_step {U q : Nat} {l : List UInt8} (h : DgAt U q l) (hq : ¬ q < 10) : DgAt U (q / 10) (l ++ [dgB (q % 10)]) := by
  unfold DgAt at *
  rw [h, Lib.decDigits, dif_neg hq]
  simp [dgB]
theorem dg_end {U q : Nat} {l : List UInt8} (h : DgAt U q l) (hq : q < 10) : (l ++ [dgB q]).reverse = Lib.decDigits U := by
  unfold DgAt at h
  rw [h, Lib.decDigits_one hq]
  simp [dgB]
theorem dg_byte {i : Nat} (h : i < 10) : [Value.int .u8 (48 + (i : Int))] = Lib.byteCells [dgB i] := by
  simp only [Lib.byteCells, List.map_cons, List.map_nil, dgB, dig_toNat h]
  congr 2
theorem dec_len : ∀ (k u : Nat), u < 10 ^ (k + 1) → (Lib.decDigits u).length ≤ k + 1 := by
  intro k
  induction k with
  | zero => intro u h; rw [Lib.decDigits_one (by simpa using h)]; simp
  | succ k ih =>
    intro u h
    by_cases h10 : u < 10
    · rw [Lib.decDigits_one h10]; simp
    · rw [Lib.decDigits, dif_neg h10, List.length_append]
      have := ih (u / 10) (by rw [Nat.pow_succ] at h; omega)
      simp only [List.length_cons, List.length_nil]; omega
theorem dg_len {U q : Nat} {l : List UInt8} (h : DgAt U q l) (hU : U ≤ 9223372036854775808) : l.length ≤ 19 := by
  have h1 := dec_len 18 U (by omega)
  unfold DgAt at h
  rw [h] at h1
  simp at h1
  omega
theorem dg_mod (q : Nat) : [Value.int .u8 (48 + (q : Int) % 10)] = Lib.byteCells [dgB (q % 10)] := by
  rw [← dg_byte (i := q % 10) (by omega)]
  congr 2
def revAt (l : List UInt8) (i k : Nat) : Int := if k < i ∨ l.length < k + 1 + i then ((l.getD (l.length - 1 - k) 0).toNat : Int) else ((l.getD k 0).toNat : Int)
structure RV (w0 : World) (l : List UInt8) (g i : Nat) (W : World) : Prop where
  low : Below w0.heap.size w0 W
  cell : ∀ k, k < l.length → W.cell? ⟨g, k, none⟩ = some (.int .u8 (revAt l i k))
  thaw : ∀ k, W.frozen? ⟨g, k, none⟩ = false
  gb : w0.heap.size ≤ g
theorem RV.start {w0 : World} {l : List UInt8} {g n cap : Nat} {W : World} (h : BL w0 l (.slice (some ⟨g, 0, none⟩) n cap) n W) : RV w0 l g 0 W := by
  have hc := h.own.cells (g := g) rfl
  rcases h.own.2 with ⟨h0, _⟩ | ⟨g', cap', cur, e, hb, hh, _⟩
  · cases h0
  · cases e
    refine ⟨h.low, fun k hk => ?_, fun k => Lib.frozen_of_heap hh k, hb⟩
    have := hc k (.int .u8 (l[k].toNat : Int)) (by simp [Lib.byteCells, hk])
    rw [add_plain, Nat.zero_add] at this
    rw [this, revAt, if_neg (by omega), List.getD_eq_getElem?_getD, List.getElem?_eq_getElem hk]
    rfl
theorem RV.next {w0 : World} {l : List UInt8} {g i j : Nat} {W : World} (h : RV w0 l g i W) (hl : l.length = i + j + 1) (hij : i < j) :
    RV w0 l g (i + 1) ((W.setCell ⟨g, i, none⟩ (.int .u8 (revAt l i j))).setCell ⟨g, j, none⟩ (.int .u8 (revAt l i i))) := by
  have hgl : w0.heap.size ≤ g := h.gb
  refine ⟨(h.low.setCell (p := ⟨g, i, none⟩) hgl _).setCell (p := ⟨g, j, none⟩) hgl _, fun k hk => ?_, fun k => ?_, h.gb⟩
  · by_cases h1 : k = j
    · subst h1
      rw [World.cell?_setCell_same _ _ _ (show (W.setCell ⟨g, i, none⟩ (.int .u8 (revAt l i k))).cell? ⟨g, k, none⟩ = some (.int .u8 (revAt l i k)) by rw [World.cell?_setCell_other _ _ _ _ (fun e => by have := congrArg (fun a : Addr => a.off) e; simp at this; omega)]; exact h.cell k hk)]
      congr 2
      rw [revAt, revAt, if_neg (by omega), if_pos (by omega)]
      congr 2
      rw [hl]; congr 1; omega
    · rw [World.cell?_setCell_other _ _ _ _ (fun e => by have := congrArg (fun a : Addr => a.off) e; simp at this; omega)]
      by_cases h2 : k = i
      · subst h2
        rw [World.cell?_setCell_same _ _ _ (h.cell k hk)]
        congr 2
        rw [revAt, revAt, if_neg (by omega), if_pos (by omega)]
        congr 2
        rw [hl]; congr 1; omega
      · rw [World.cell?_setCell_other _ _ _ _ (fun e => by have := congrArg (fun a : Addr => a.off) e; simp at this; omega), h.cell k hk]
        congr 2
        unfold revAt
        by_cases h3 : k < i ∨ l.length < k + 1 + i
        · rw [if_pos h3, if_pos (by omega)]
        · rw [if_neg h3, if_neg (by omega)]
  · rw [World.frozen?_setCell, World.frozen?_setCell, h.thaw]
theorem RV.done {w0 : World} {l : List UInt8} {g i cap : Nat} {W : World} (h : RV w0 l g i W) (hl : l.length ≤ 2 * i + 1) :
    (convert 208 9 (.slice (some ⟨g, 0, none⟩) l.length cap)).run Tryz.prog W = .ok (.string ⟨l.reverse.toArray⟩) W := by
  have e : l.length = l.reverse.length := by simp
  rw [e]
  refine run_convert_bytes_back W 208 9 5 ⟨g, 0, none⟩ cap l.reverse Tryz.underlying208 Tryz.underlying5 Tryz.underlying9 (fun j hj => ?_)
  rw [add_plain, Nat.zero_add]
  have hj2 : j < l.length := by simpa using hj
  rw [h.cell j hj2, List.getElem_reverse]
  congr 2
  unfold revAt
  by_cases h3 : j < i ∨ l.length < j + 1 + i
  · rw [if_pos h3, List.getD_eq_getElem?_getD, List.getElem?_eq_getElem (by omega)]
    rfl
  · rw [if_neg h3, List.getD_eq_getElem?_getD, List.getElem?_eq_getElem hj2]
    have : l.length - 1 - j = j := by omega
    simp [this]
structure Abs (n X : Int) (U : Nat) : Prop where
  conv : IntKind.u64.wrap n = X
  pos : 0 ≤ n → X = (U : Int)
  neg : n < 0 → IntKind.u64.wrap (-X) = (U : Int)
theorem abs_of (n : Int) (h : -9223372036854775808 ≤ n ∧ n ≤ 9223372036854775807) : ∃ X, Abs n X n.natAbs := by
  refine ⟨_, rfl, fun h0 => ?_, fun h0 => ?_⟩
  · show IntKind.u64.wrap n = _
    simp [IntKind.wrap, IntKind.bits, IntKind.signed]
    omega
  · show IntKind.u64.wrap (-(IntKind.u64.wrap n)) = _
    simp [IntKind.wrap, IntKind.bits, IntKind.signed]
    omega
theorem append_B2 {w0 : World} {l : List UInt8} {v : Value} {n : Nat} {W : World} {ops : Array Oper} {rest : List Oper} {o : Oper} {a : Act} {Q : Exit → Act → World → Prop} (h : BL w0 l v n W) (hgd : o.guard = none) (s x : Operand)
    (ho : o.op = .call { callee := .builtin .append, args := #[s, x], argTypes := #[208, 208] }) (hs : a.eval s = v) (r : List UInt8) (m : Nat) (cs : List Value) (T : TypeId) (hx : a.eval x = .slice (some ⟨W.heap.size, 0, none⟩) m m)
    (hm : m = r.length) (hm0 : 0 < m) (hcs : cs = Lib.byteCells r) (hb : n + m ≤ 70368744177664) (l2 : List UInt8) (n2 : Nat) (hl2 : Hid (l ++ r = l2)) (hn2 : Hid (n + m = n2))
    (hr : ∀ g cap W', BL w0 l2 (.slice (some ⟨g, 0, none⟩) n2 cap) n2 W' → wpList Tryz.prog ops Q rest (a.put o.dst (.slice (some ⟨g, 0, none⟩) n2 cap)) W') : wpList Tryz.prog ops Q (o :: rest) a (W.alloc (.cells cs.toArray T)) := by
  have e1 := hl2.out
  have e2 := hn2.out
  subst e1 e2
  exact append_B h hgd s x ho hs r m cs T hx hm hm0 hcs hb hr
end Go.Proofs.YtmhemajcnfcdmaaGreatDoor
namespace Go.Proofs.YtmhemajcnfcdmaaGreatDoor
open Go.RowKit Go.Deep Go.WideShapes Go.ChangeShapes
set_option maxRecDepth 100000 in
set_option maxHeartbeats 4000000 in
theorem rdigits_any (n : Int) (w : World) (hn : -9223372036854775808 ≤ n ∧ n ≤ 9223372036854775807) :
    Calls Tryz.prog 146 #[.int .i64 n] w fun e w' => e = .returned (.string ⟨(Lib.itoa n).toArray⟩) ∧ Below w.heap.size w w' := by
  obtain ⟨X, HX⟩ := abs_of n hn
  have HST := Lib.hid (BL.start w)
  have HU : n.natAbs ≤ 9223372036854775808 := by omega
  obtain ⟨U, hUE⟩ : ∃ U, n.natAbs = U := ⟨_, rfl⟩
  have HUE := Lib.hid hUE
  rw [hUE] at HX HU
  clear hUE
  have HUH := Lib.hid HU
  have hc := HX.conv
  have HP := Lib.hid HX.pos
  have HN := Lib.hid HX.neg
  clear HX HU hn
  by_cases h0 : n < 0
  · have hsub := HN.out h0
    have HAB := Lib.hid (show Lib.itoa n = 45 :: Lib.decDigits U by rw [Lib.itoa, if_pos h0, HUE.out])
    clear HP HN
    go_enter Tryz.func146, Tryz.ntmps146
    go_wp2_with fail
    go_loopw [3, 4] (fun m v wr => ∃ (q nn : Nat) (l : List UInt8), m = .int .u64 q ∧ q ≤ 9223372036854775808 ∧ DgAt U q l ∧ BL w l v nn wr) (fun m _ _ => (intOf m).toNat)
    case atStart => exact ⟨U, 0, [], rfl, HUH.out, by simp [DgAt], HST.out⟩
    case round =>
      obtain ⟨q, nn, l, rfl, hq, hdg, hbl⟩ := hrel
      have HB := Lib.hid hbl
      have HD := Lib.hid hdg
      have hnn : nn ≤ 20 := by have h1 := hbl.len; have h2 := dg_len hdg HUH.out; omega
      clear hbl hdg
      have g0 : (0 : Int) ≤ (q : Int) := by omega
      by_cases hlt : q < 10
      · have g1 : (q : Int) ≤ 9 := by omega
        have HE := Lib.hid (dg_end HD.out hlt)
        obtain ⟨l1, hl1⟩ : ∃ x, l ++ [dgB q] = x := ⟨_, rfl⟩
        obtain ⟨lst, hl2⟩ : ∃ x, l1 ++ [45] = x := ⟨_, rfl⟩
        obtain ⟨n1, hn1⟩ : ∃ x, nn + 1 = x := ⟨_, rfl⟩
        obtain ⟨N, hN⟩ : ∃ x, n1 + 1 = x := ⟨_, rfl⟩
        have hN2 : 1 ≤ N ∧ N ≤ 22 := by omega
        have hN3 : n1 ≤ 21 := by omega
        have HI : Hid (lst.reverse = Lib.itoa n) := by rw [← hl2, ← hl1, List.reverse_append, HE.out, HAB.out]; rfl
        have E1 := Lib.hid hl1
        have E2 := Lib.hid hl2
        have E3 := Lib.hid hn1
        have E4 := Lib.hid hN
        clear hl1 hl2 hn1 hN
        go_wp2_with (at_builtin; refine append_B2 HB.out rfl _ _ rfl rfl [dgB q] 1 _ _ rfl rfl (by omega) (dg_byte hlt) (by omega) l1 n1 E1 E3 ?_)
        intro g1' cap1 W1 hBL1
        have HB1 := Lib.hid hBL1
        clear hBL1
        go_wp2_with (at_builtin; refine append_B2 HB1.out rfl _ _ rfl rfl [45] 1 _ _ rfl rfl (by omega) rfl (by omega) lst N E2 E4 ?_)
        intro g cap W2 hBL
        obtain ⟨N1, hN1⟩ : ∃ N1, N = N1 + 1 := ⟨N - 1, by omega⟩
        have hlen := hBL.len
        rw [hN1] at hlen
        have HV := Lib.hid (RV.start hBL)
        have HLN := Lib.hid hlen
        have hN22 : N1 ≤ 25 := by omega
        clear hBL hlen
        subst hN1
        go_wp2_with fail
        go_loopw [5, 6] (fun i _ W => ∃ i0 : Nat, i = .int .i64 i0 ∧ 2 * i0 ≤ N1 + 1 ∧ RV w lst g i0 W) (fun i _ _ => N1 + 1 - (intOf i).toNat)
        case atStart => exact ⟨0, rfl, by omega, HV.out⟩
        case round =>
          obtain ⟨i0, rfl, hi0, hrv⟩ := hrel
          have HRV := Lib.hid hrv
          clear hrv
          have g1 : (0 : Int) ≤ (i0 : Int) := by omega
          have g2 : IntKind.i64.wrap (N1 : Int) = (N1 : Int) := IntWalk.i64_in _ (by omega)
          have g3 : IntKind.i64.wrap (2 * (i0 : Int)) = 2 * (i0 : Int) := IntWalk.i64_in _ (by omega)
          by_cases hlt : 2 * i0 < N1
          · obtain ⟨j0, rfl⟩ : ∃ j0, N1 = i0 + j0 := ⟨N1 - i0, by omega⟩
            have hij : i0 < j0 := by omega
            have hL : (lst).length = i0 + j0 + 1 := HLN.out.symm
            have p0 := HRV.out.cell i0 (by omega)
            have p1 := HRV.out.cell j0 (by omega)
            have f0 := HRV.out.thaw i0
            have f1 := HRV.out.thaw j0
            have p2 : ∀ v, (wr.setCell ⟨g, i0, none⟩ v).cell? ⟨g, j0, none⟩ = some (.int .u8 (revAt (lst) i0 j0)) := fun v => by
              rw [World.cell?_setCell_other _ _ _ _ (fun e => by have := congrArg (fun a : Addr => a.off) e; simp at this; omega)]; exact p1
            have f2 : ∀ v, (wr.setCell ⟨g, i0, none⟩ v).frozen? ⟨g, j0, none⟩ = false := fun v => by rw [World.frozen?_setCell]; exact f1
            have HN := Lib.hid (RV.next HRV.out hL hij)
            generalize revAt (lst) i0 i0 = x0 at p0 HN
            generalize revAt (lst) i0 j0 = x1 at p1 p2 HN
            have g4 : IntKind.i64.wrap ((i0 : Int) + (j0 : Int) - (i0 : Int)) = (j0 : Int) := by rw [show (i0 : Int) + (j0 : Int) - (i0 : Int) = (j0 : Int) by omega]; exact IntWalk.i64_in _ (by omega)
            have g5 : IntKind.i64.wrap (j0 : Int) = (j0 : Int) := IntWalk.i64_in _ (by omega)
            have g6 : (2 * (i0 : Int)) < (i0 : Int) + (j0 : Int) := by omega
            have g7 : (i0 : Int) < (i0 : Int) + (j0 : Int) + 1 := by omega
            have g8 : (j0 : Int) < (i0 : Int) + (j0 : Int) + 1 := by omega
            clear hL
            go_wp2_with fail
            go_roundw
            case rel => exact ⟨i0 + 1, by go_num, by omega, HN.out⟩
            case measure => simp [intOf]; omega
          · have kc : (convert 208 9 (.slice (some ⟨g, 0, none⟩) (N1 + 1) cap)).run Tryz.prog wr = .ok (.string ⟨(Lib.itoa n).toArray⟩) wr := by
              rw [HLN.out, ← HI.out]
              exact RV.done HRV.out (by have := HLN.out; omega)
            have g4 : ¬ (2 * (i0 : Int)) < (N1 : Int) := by omega
            have HLW := Lib.hid HRV.out.low
            go_wp2_with fail
            go_ret
            exact ⟨rfl, HLW.out⟩
      · have g1 : (9 : Int) < (q : Int) := by omega
        obtain ⟨l1, hl1⟩ : ∃ x, l ++ [dgB (q % 10)] = x := ⟨_, rfl⟩
        obtain ⟨n1, hn1⟩ : ∃ x, nn + 1 = x := ⟨_, rfl⟩
        have HD1 : Hid (DgAt U (q / 10) l1) := by rw [← hl1]; exact dg_step HD.out hlt
        have E1 := Lib.hid hl1
        have E3 := Lib.hid hn1
        clear hl1 hn1
        go_wp2_with (at_builtin; refine append_B2 HB.out rfl _ _ rfl rfl [dgB (q % 10)] 1 _ _ rfl rfl (by omega) (dg_mod q) (by omega) l1 n1 E1 E3 ?_)
        intro g1 cap1 W1 hBL1
        have HB1 := Lib.hid hBL1
        clear hBL1
        go_wp2_with fail
        go_roundw
        case rel => exact ⟨q / 10, _, _, by go_num, by omega, HD1.out, HB1.out⟩
        case measure => simp [intOf]; omega
  · obtain rfl := HP.out (by omega)
    have HAB := Lib.hid (show Lib.itoa n = Lib.decDigits U by rw [Lib.itoa, if_neg h0, ← HUE.out]; congr 1; omega)
    clear HP HN
    go_enter Tryz.func146, Tryz.ntmps146
    go_wp2_with fail
    go_loopw [3, 4] (fun m v wr => ∃ (q nn : Nat) (l : List UInt8), m = .int .u64 q ∧ q ≤ 9223372036854775808 ∧ DgAt U q l ∧ BL w l v nn wr) (fun m _ _ => (intOf m).toNat)
    case atStart => exact ⟨U, 0, [], rfl, HUH.out, by simp [DgAt], HST.out⟩
    case round =>
      obtain ⟨q, nn, l, rfl, hq, hdg, hbl⟩ := hrel
      have HB := Lib.hid hbl
      have HD := Lib.hid hdg
      have hnn : nn ≤ 20 := by have h1 := hbl.len; have h2 := dg_len hdg HUH.out; omega
      clear hbl hdg
      have g0 : (0 : Int) ≤ (q : Int) := by omega
      by_cases hlt : q < 10
      · have g1 : (q : Int) ≤ 9 := by omega
        have HE := Lib.hid (dg_end HD.out hlt)
        obtain ⟨lst, hl1⟩ : ∃ x, l ++ [dgB q] = x := ⟨_, rfl⟩
        obtain ⟨N, hN⟩ : ∃ x, nn + 1 = x := ⟨_, rfl⟩
        have hN2 : 1 ≤ N ∧ N ≤ 22 := by omega
        have HI := Lib.hid (show lst.reverse = Lib.itoa n by rw [← hl1, HE.out, HAB.out])
        have E1 := Lib.hid hl1
        have E3 := Lib.hid hN
        clear hl1 hN
        go_wp2_with (at_builtin; refine append_B2 HB.out rfl _ _ rfl rfl [dgB q] 1 _ _ rfl rfl (by omega) (dg_byte hlt) (by omega) lst N E1 E3 ?_)
        intro g cap W2 hBL
        obtain ⟨N1, hN1⟩ : ∃ N1, N = N1 + 1 := ⟨N - 1, by omega⟩
        have hlen := hBL.len
        rw [hN1] at hlen
        have HV := Lib.hid (RV.start hBL)
        have HLN := Lib.hid hlen
        have hN22 : N1 ≤ 25 := by omega
        clear hBL hlen
        subst hN1
        go_wp2_with fail
        go_loopw [5, 6] (fun i _ W => ∃ i0 : Nat, i = .int .i64 i0 ∧ 2 * i0 ≤ N1 + 1 ∧ RV w lst g i0 W) (fun i _ _ => N1 + 1 - (intOf i).toNat)
        case atStart => exact ⟨0, rfl, by omega, HV.out⟩
        case round =>
          obtain ⟨i0, rfl, hi0, hrv⟩ := hrel
          have HRV := Lib.hid hrv
          clear hrv
          have g1 : (0 : Int) ≤ (i0 : Int) := by omega
          have g2 : IntKind.i64.wrap (N1 : Int) = (N1 : Int) := IntWalk.i64_in _ (by omega)
          have g3 : IntKind.i64.wrap (2 * (i0 : Int)) = 2 * (i0 : Int) := IntWalk.i64_in _ (by omega)
          by_cases hlt : 2 * i0 < N1
          · obtain ⟨j0, rfl⟩ : ∃ j0, N1 = i0 + j0 := ⟨N1 - i0, by omega⟩
            have hij : i0 < j0 := by omega
            have hL : (lst).length = i0 + j0 + 1 := HLN.out.symm
            have p0 := HRV.out.cell i0 (by omega)
            have p1 := HRV.out.cell j0 (by omega)
            have f0 := HRV.out.thaw i0
            have f1 := HRV.out.thaw j0
            have p2 : ∀ v, (wr.setCell ⟨g, i0, none⟩ v).cell? ⟨g, j0, none⟩ = some (.int .u8 (revAt (lst) i0 j0)) := fun v => by
              rw [World.cell?_setCell_other _ _ _ _ (fun e => by have := congrArg (fun a : Addr => a.off) e; simp at this; omega)]; exact p1
            have f2 : ∀ v, (wr.setCell ⟨g, i0, none⟩ v).frozen? ⟨g, j0, none⟩ = false := fun v => by rw [World.frozen?_setCell]; exact f1
            have HN := Lib.hid (RV.next HRV.out hL hij)
            generalize revAt (lst) i0 i0 = x0 at p0 HN
            generalize revAt (lst) i0 j0 = x1 at p1 p2 HN
            have g4 : IntKind.i64.wrap ((i0 : Int) + (j0 : Int) - (i0 : Int)) = (j0 : Int) := by rw [show (i0 : Int) + (j0 : Int) - (i0 : Int) = (j0 : Int) by omega]; exact IntWalk.i64_in _ (by omega)
            have g5 : IntKind.i64.wrap (j0 : Int) = (j0 : Int) := IntWalk.i64_in _ (by omega)
            have g6 : (2 * (i0 : Int)) < (i0 : Int) + (j0 : Int) := by omega
            have g7 : (i0 : Int) < (i0 : Int) + (j0 : Int) + 1 := by omega
            have g8 : (j0 : Int) < (i0 : Int) + (j0 : Int) + 1 := by omega
            clear hL
            go_wp2_with fail
            go_roundw
            case rel => exact ⟨i0 + 1, by go_num, by omega, HN.out⟩
            case measure => simp [intOf]; omega
          · have kc : (convert 208 9 (.slice (some ⟨g, 0, none⟩) (N1 + 1) cap)).run Tryz.prog wr = .ok (.string ⟨(Lib.itoa n).toArray⟩) wr := by
              rw [HLN.out, ← HI.out]
              exact RV.done HRV.out (by have := HLN.out; omega)
            have g4 : ¬ (2 * (i0 : Int)) < (N1 : Int) := by omega
            have HLW := Lib.hid HRV.out.low
            go_wp2_with fail
            go_ret
            exact ⟨rfl, HLW.out⟩
      · have g1 : (9 : Int) < (q : Int) := by omega
        obtain ⟨l1, hl1⟩ : ∃ x, l ++ [dgB (q % 10)] = x := ⟨_, rfl⟩
        obtain ⟨n1, hn1⟩ : ∃ x, nn + 1 = x := ⟨_, rfl⟩
        have HD1 : Hid (DgAt U (q / 10) l1) := by rw [← hl1]; exact dg_step HD.out hlt
        have E1 := Lib.hid hl1
        have E3 := Lib.hid hn1
        clear hl1 hn1
        go_wp2_with (at_builtin; refine append_B2 HB.out rfl _ _ rfl rfl [dgB (q % 10)] 1 _ _ rfl rfl (by omega) (dg_mod q) (by omega) l1 n1 E1 E3 ?_)
        intro g1 cap1 W1 hBL1
        have HB1 := Lib.hid hBL1
        clear hBL1
        go_wp2_with fail
        go_roundw
        case rel => exact ⟨q / 10, _, _, by go_num, by omega, HD1.out, HB1.out⟩
        case measure => simp [intOf]; omega
end Go.Proofs.YtmhemajcnfcdmaaGreatDoor
namespace Go.Proofs.YtmhemajcnfcdmaaGreatDoor
open Go.RowKit
def TIs (v : V) : Prop := v.shaped → v.size ≤ 4096 → ∀ w : World, v.In w → Calls Tryz.prog 171 #[v.agg] w fun e w' => e = .returned (.string ⟨v.told.toArray⟩) ∧ Below w.heap.size w w'
def IsS (S : ByteArray) (l : List UInt8) : Prop := S.data.toList = l
theorem IsS.mk (l : List UInt8) : IsS ⟨l.toArray⟩ l := by simp [IsS]
theorem IsS.eq {S : ByteArray} {l : List UInt8} (h : IsS S l) : S = ⟨l.toArray⟩ := WideShapes.bytes_inj (by rw [show S.data.toList = l from h])
theorem IsS.add {S T : ByteArray} {l r : List UInt8} (h : IsS S l) (h' : IsS T r) : IsS (S ++ T) (l ++ r) := by
  rw [h.eq, h'.eq, ByteArray.mk_append_mk]
  exact IsS.mk _
theorem IsS.size {S : ByteArray} {l : List UInt8} (h : IsS S l) : S.size = l.length := by rw [h.eq]; simp [ByteArray.size]
theorem ret_s {S : ByteArray} {l : List UInt8} (h : IsS S l) : Ending.returned (.string S) = .returned (.string ⟨l.toArray⟩) := by rw [h.eq]
theorem sep_bound {n : Nat} {f : Nat → List UInt8} {z : Nat → Nat} {j : Nat} (hj : j ≤ n) (h : ∀ i, i < n → (f i).length + 1 ≤ 30000 * z i) (hz : sumTo n z ≤ 4096) : (sepTo j f).length ≤ 122880000 := by
  have h1 := sepTo_length j f (fun i => 30000 * z i) (fun i hi => h i (by omega))
  rw [sumTo_mul] at h1
  have h2 : sumTo j z ≤ sumTo n z := sumTo_mono z hj
  have h3 : 30000 * sumTo j z ≤ 30000 * 4096 := Nat.mul_le_mul_left _ (by omega)
  omega
set_option maxRecDepth 100000 in
set_option maxHeartbeats 4000000 in
theorem rlist_any (la : Option Addr) (ll lc : Nat) (L : Nat → V) (hv : ∀ i, i < ll → TIs (L i)) (hsh : ∀ i, i < ll → (L i).shaped) (hz : sumTo ll (fun i => (L i).size) ≤ 4096) (w : World) (hlc : ll ≤ lc ∧ lc ≤ maxLen)
    (h : ∀ i, i < ll → (∃ b o, la = some ⟨b, o, none⟩ ∧ At w b (o + i * 8) (L i).cells) ∧ (L i).In w) :
    Calls Tryz.prog 191 #[.slice la ll lc] w fun e w' => e = .returned (.string ⟨(listL ll (fun i => (L i).told)).toArray⟩) ∧ Below w.heap.size w w' := by
  unfold maxLen at hlc
  have HB0 : Hid (∀ j, j ≤ ll → (sepTo j (fun i => (L i).told)).length ≤ 122880000) := fun j hj => sep_bound hj (fun i hi => by
    have := told_length (L i) (hsh i hi) (h i hi).2.nums
    omega) hz
  have HT : Hid (∀ i, i < ll → (L i).told.length ≤ 122880000) := fun i hi => by
    have h1 := told_length (L i) (hsh i hi) (h i hi).2.nums
    have h2 : (L i).size ≤ sumTo ll (fun i => (L i).size) := le_sumTo (f := fun i => (L i).size) hi
    have h3 : 30000 * (L i).size ≤ 30000 * 4096 := Nat.mul_le_mul_left _ (by omega)
    omega
  have H : Hid (∀ i, i < ll → (∃ b o, la = some ⟨b, o, none⟩ ∧ At w b (o + i * 8) (L i).cells) ∧ (L i).In w) := h
  have H2 : Hid (∀ i, i < ll → ∀ W, (L i).In W → Calls Tryz.prog 171 #[(L i).agg] W fun e w' => e = .returned (.string ⟨(L i).told.toArray⟩) ∧ Below W.heap.size W w') := fun i hi W hw => hv i hi (hsh i hi) (by
    have h2 : (L i).size ≤ sumTo ll (fun i => (L i).size) := le_sumTo (f := fun i => (L i).size) hi
    omega) W hw
  clear h hv hsh hz
  go_enter Tryz.func191, Tryz.ntmps191
  go_wp2_with fail
  go_loopw [3, 4] (fun s i wr => ∃ (j : Nat) (S : ByteArray), j ≤ ll ∧ i = .int .i64 j ∧ s = .string S ∧ IsS S (91 :: sepTo j (fun i => (L i).told)) ∧ Below w.heap.size w wr) (fun _ i _ => ll - (intOf i).toNat)
  case atStart => exact ⟨0, _, Nat.zero_le _, rfl, rfl, rfl, Below.refl _ _⟩
  case round =>
    obtain ⟨j, S, hj, rfl, rfl, hs, hb⟩ := hrel
    have HB := Lib.hid hb
    have HS := Lib.hid hs
    have hsz : S.size ≤ 122880001 := by have h1 := hs.size; have h2 := HB0.out j hj; simp only [List.length_cons] at h1; omega
    clear hb hs
    by_cases hlt : j < ll
    · obtain ⟨⟨b, o, rfl, hat⟩, hin⟩ := H.out j hlt
      have hat := hat.below HB.out
      have hin := hin.below HB.out
      have HX := Lib.hid (H2.out j hlt wr hin)
      have HTL := Lib.hid (HT.out j hlt)
      have HSS := Lib.hid (show sepTo (j + 1) (fun i => (L i).told) = sepTo j (fun i => (L i).told) ++ ((if 0 < j then [32] else []) ++ (L j).told) from rfl)
      obtain ⟨v, hv⟩ : ∃ v, L j = v := ⟨_, rfl⟩
      rw [hv] at hat hin HX HTL HSS
      clear hv
      cases v with
      | leaf => exact hin.elim
      | mk k2 n2 s2 la2 ll2 lc2 L2 fa2 fl2 fc2 fn2 F2 e2 key2 hk2 =>
      obtain ⟨c0, c1, c2, c3, c4, c5, c6, c7⟩ := at8 hat
      generalize (V.mk k2 n2 s2 la2 ll2 lc2 L2 fa2 fl2 fc2 fn2 F2 e2 key2 hk2).told = tl at HX HTL HSS
      obtain ⟨T, hT⟩ : ∃ T : ByteArray, (⟨tl.toArray⟩ : ByteArray) = T := ⟨_, rfl⟩
      rw [hT] at HX
      have hts : IsS T tl := by rw [← hT]; exact IsS.mk _
      have HTS := Lib.hid hts
      have htz : T.size ≤ 122880000 := by have h1 := hts.size; have h2 := HTL.out; omega
      clear hT hts hat hin
      simp only [V.agg, V.cells] at HX
      have hl0 : (0 : Int) ≤ (j : Int) := by omega
      have hli : (j : Int) < (ll : Int) := by omega
      rcases Nat.eq_zero_or_pos j with hj0 | hj0
      · have HJ := Lib.hid hj0
        have g1 : ¬ (0 : Int) < (j : Int) := by omega
        clear hj0
        go_wp2_with fail
        refine HX.out.mono ?_
        rintro x w1 ⟨rfl, hb1⟩
        have HB1 := Lib.hid (HB.out.trans (hb1.mono HB.out.size))
        clear hb1 c0 c1 c2 c3 c4 c5 c6 c7 HX
        go_wp2_with fail
        go_roundw
        case rel => exact ⟨j + 1, _, by omega, by go_num, rfl, by have e := HJ.out; subst e; rw [HSS.out]; exact HS.out.add HTS.out, HB1.out⟩
        case measure => simp [intOf]; omega
      · have HJ := Lib.hid hj0
        have g1 : (0 : Int) < (j : Int) := by omega
        clear hj0
        go_wp2_with fail
        refine HX.out.mono ?_
        rintro x w1 ⟨rfl, hb1⟩
        have HB1 := Lib.hid (HB.out.trans (hb1.mono HB.out.size))
        clear hb1 c0 c1 c2 c3 c4 c5 c6 c7 HX
        have hsz2 : (S ++ ⟨#[32]⟩).size ≤ 122880002 := by rw [ByteArray.size_append]; show S.size + 1 ≤ _; omega
        go_wp2_with fail
        go_roundw
        case rel => exact ⟨j + 1, _, by omega, by go_num, rfl, by rw [HSS.out, if_pos HJ.out]; have := (HS.out.add (IsS.mk [32])).add HTS.out; simpa [List.append_assoc] using this, HB1.out⟩
        case measure => simp [intOf]; omega
    · obtain rfl : ll = j := by omega
      go_wp2_with fail
      go_ret
      exact ⟨ret_s (by have := HS.out.add (IsS.mk [93]); simpa [listL] using this), HB.out⟩
end Go.Proofs.YtmhemajcnfcdmaaGreatDoor
