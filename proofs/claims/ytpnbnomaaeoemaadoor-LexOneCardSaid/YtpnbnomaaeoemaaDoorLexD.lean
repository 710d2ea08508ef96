/-
  Walks: digits, quoted, told: a word as text.
  Conditions: texts of at most 65536 bytes.
-/
import Derived.Test.YtpnbnomaaeoemaaDoorLexAl
import Derived.Lib.Slices
import Derived.Lib.Strings
namespace Go.Proofs.YtpnbnomaaeoemaaDoor
open Go.RowKit

theorem ret_str {a b : ByteArray} (h : a = b) : Ending.returned (.string a) = .returned (.string b) := by rw [h]

/-! ### digits -/
theorem dec_step (u : Nat) (h : 10 ≤ u) : Lib.decDigits u = Lib.decDigits (u / 10) ++ [UInt8.ofNat (48 + u % 10)] := by
  rw [Lib.decDigits, dif_neg (by omega)]
theorem dec_last (u : Nat) (h : u < 10) : Lib.decDigits u = [UInt8.ofNat (48 + u)] := by rw [Lib.decDigits, dif_pos h]
theorem cat_lst (a b : ByteArray) : (a ++ b).data.toList = a.data.toList ++ b.data.toList := by
  cases a; cases b; simp
def digC : ByteArray := ⟨#[48, 49, 50, 51, 52, 53, 54, 55, 56, 57]⟩
theorem digC_at : ∀ q : Fin 10, (digC.extract q.val (q.val + 1)).data.toList = [UInt8.ofNat (48 + q.val)] := by decide +kernel
theorem dec_len (u : Nat) (h : u < 10000000000000000000) : (Lib.decDigits u).length ≤ 19 := by
  rw [Lib.decDigits_length]
  exact LX.nDigits_le 18 u (by simpa using h)

/-- What is asked of the two conversions. -/
structure Abs (n X : Int) (U : Nat) : Prop where
  conv : IntKind.u64.wrap n = X
  pos : 0 ≤ n → X = (U : Int)
  neg : n < 0 → IntKind.u64.wrap (-X) = (U : Int)
theorem abs_of (n : Int) (h : -9223372036854775808 ≤ n ∧ n ≤ 9223372036854775807) : ∃ X, Abs n X n.natAbs := by
  refine ⟨_, rfl, fun h0 => ?_, fun h0 => ?_⟩
  · show IntKind.u64.wrap n = _
    simp [IntKind.wrap, IntKind.bits, IntKind.signed]
    omega
  · show IntKind.u64.wrap (-(IntKind.u64.wrap n)) = _
    simp [IntKind.wrap, IntKind.bits, IntKind.signed]
    omega
/-- The loop's state: what is left, and the digits behind it. -/
def DgS (U q : Nat) (x : ByteArray) : Prop := Lib.decDigits U = Lib.decDigits q ++ x.data.toList ∧ q ≤ 9223372036854775808

set_option maxRecDepth 100000 in
set_option maxHeartbeats 4000000 in
theorem digits_any (n : Int) (w : World) (h1 : -9223372036854775808 ≤ n) (h2 : n ≤ 9223372036854775807) :
    Calls Tryd.prog 9 #[.int .i64 n] w fun e w' => e = .returned (.string ⟨(Lib.itoa n).toArray⟩) ∧ w = w' := by
  obtain ⟨X, HX⟩ := abs_of n ⟨h1, h2⟩
  have HU : n.natAbs ≤ 9223372036854775808 := by omega
  obtain ⟨U, hUE⟩ : ∃ U, n.natAbs = U := ⟨_, rfl⟩
  have HUE := Lib.hid hUE
  rw [hUE] at HX HU
  clear hUE
  have hc := HX.conv
  have HP := Lib.hid HX.pos
  have HN := Lib.hid HX.neg
  have HUH := Lib.hid HU
  have HS0 : Hid (DgS U U ⟨#[]⟩) := ⟨by simp, HU⟩
  clear HX HU
  by_cases hn : n < 0
  · have hsub := HN.out hn
    have HAB := Lib.hid (show Lib.itoa n = 45 :: Lib.decDigits U by rw [Lib.itoa, if_pos hn, HUE.out])
    clear HP HN
    go_enter Tryd.func9, Tryd.ntmps9
    go_wp2
    go_loop [3, 4] (fun m v => ∃ (q : Nat) (x : ByteArray), m = .int .u64 q ∧ v = .string x ∧ DgS U q x) (fun m _ => (intOf m).toNat)
    case atStart => exact ⟨U, ⟨#[]⟩, rfl, rfl, HS0.out⟩
    case round =>
      obtain ⟨q, x, rfl, rfl, hs⟩ := hrel
      have HS := Lib.hid hs
      have hq := hs.2
      have hxl : x.size ≤ 19 := by
        have h1 := congrArg List.length hs.1
        have h2 := dec_len U (by have := HUH.out; omega)
        rw [List.length_append] at h1
        have h3 : x.data.toList.length = x.size := by simp
        omega
      clear hs
      obtain ⟨d, hd⟩ : ∃ d, q % 10 = d := ⟨_, rfl⟩
      have hd9 : d ≤ 9 := by omega
      obtain ⟨y, hy⟩ : ∃ y, (⟨#[48, 49, 50, 51, 52, 53, 54, 55, 56, 57]⟩ : ByteArray).extract d (d + 1) ++ x = y := ⟨_, rfl⟩
      have hyl : y.data.toList = UInt8.ofNat (48 + d) :: x.data.toList := by
        rw [← hy, cat_lst]
        have := digC_at ⟨d, by omega⟩
        rw [show (⟨#[48, 49, 50, 51, 52, 53, 54, 55, 56, 57]⟩ : ByteArray) = digC from rfl, this]; rfl
      have hyz : y.size ≤ 20 := by
        have h1 := congrArg List.length hyl
        have h3 : x.data.toList.length = x.size := by simp
        have h4 : y.data.toList.length = y.size := by simp
        rw [List.length_cons] at h1
        omega
      have hz1 : ((⟨#[48, 49, 50, 51, 52, 53, 54, 55, 56, 57]⟩ : ByteArray).extract d (d + 1)).size ≤ 10 := by
        have : (⟨#[48, 49, 50, 51, 52, 53, 54, 55, 56, 57]⟩ : ByteArray).size = 10 := rfl
        simp; omega
      have K1 : ∀ W, (Op.stringOp .add ((⟨#[48, 49, 50, 51, 52, 53, 54, 55, 56, 57]⟩ : ByteArray).extract d (d + 1)) x).run Tryd.prog W = .ok (.string y) W := fun W => by rw [← hy]; exact run_string_add_sum W _ _ (by omega)
      have g1 : (q : Int) % 10 = (d : Int) := by omega
      have g2 : (0 : Int) ≤ (d : Int) := by omega
      have g3 : (d : Int) ≤ 9 := by omega
      have g4 : (0 : Int) ≤ (q : Int) := by omega
      have g5 : (q : Int) ≤ 9223372036854775808 := by omega
      have HD := Lib.hid hd
      have HY := Lib.hid hyl
      clear hd hyl hy
      by_cases hq10 : q < 10
      · have t0 : ((q : Int) / 10 == 0) = true := by rw [beq_iff_eq]; omega
        have HE : Hid (y.data.toList = Lib.decDigits U) := by
          have hd : d = q := by have := HD.out; omega
          have := HS.out.1
          rw [dec_last q hq10] at this
          rw [HY.out, this, hd]; rfl
        obtain ⟨z, hz⟩ : ∃ z, (⟨#[45]⟩ : ByteArray) ++ y = z := ⟨_, rfl⟩
        have K2' : ∀ W, (Op.stringOp .add ⟨#[45]⟩ y).run Tryd.prog W = .ok (.string z) W := fun W => by rw [← hz]; exact run_string_add_sum W _ _ (by show 1 + _ ≤ _; omega)
        have HZ : Hid ((⟨(Lib.itoa n).toArray⟩ : ByteArray) = z) := by
          apply bytes_eq
          rw [← hz, cat_lst, HE.out]
          exact HAB.out
        clear hz hq10
        go_wp2
        go_ret
        exact ⟨ret_str HZ.out.symm, rfl⟩
      · have t0 : ((q : Int) / 10 == 0) = false := by rw [beq_eq_false_iff_ne]; omega
        have HE : Hid (DgS U (q / 10) y) := by
          refine ⟨?_, by omega⟩
          have := HS.out.1
          rw [dec_step q (by omega), HD.out] at this
          rw [HY.out, this, List.append_assoc]; rfl
        go_wp2
        go_round
        case rel => exact ⟨q / 10, y, by go_num, rfl, HE.out⟩
        case measure => simp [intOf]; omega
  · have hpos := HP.out (by omega)
    subst hpos
    have HAB := Lib.hid (show Lib.itoa n = Lib.decDigits U by
      have h := HUE.out
      rw [Lib.itoa, if_neg hn]
      congr 1; omega)
    clear HP HN
    go_enter Tryd.func9, Tryd.ntmps9
    go_wp2
    go_loop [3, 4] (fun m v => ∃ (q : Nat) (x : ByteArray), m = .int .u64 q ∧ v = .string x ∧ DgS U q x) (fun m _ => (intOf m).toNat)
    case atStart => exact ⟨U, ⟨#[]⟩, rfl, rfl, HS0.out⟩
    case round =>
      obtain ⟨q, x, rfl, rfl, hs⟩ := hrel
      have HS := Lib.hid hs
      have hq := hs.2
      have hxl : x.size ≤ 19 := by
        have h1 := congrArg List.length hs.1
        have h2 := dec_len U (by have := HUH.out; omega)
        rw [List.length_append] at h1
        have h3 : x.data.toList.length = x.size := by simp
        omega
      clear hs
      obtain ⟨d, hd⟩ : ∃ d, q % 10 = d := ⟨_, rfl⟩
      have hd9 : d ≤ 9 := by omega
      obtain ⟨y, hy⟩ : ∃ y, (⟨#[48, 49, 50, 51, 52, 53, 54, 55, 56, 57]⟩ : ByteArray).extract d (d + 1) ++ x = y := ⟨_, rfl⟩
      have hyl : y.data.toList = UInt8.ofNat (48 + d) :: x.data.toList := by
        rw [← hy, cat_lst]
        have := digC_at ⟨d, by omega⟩
        rw [show (⟨#[48, 49, 50, 51, 52, 53, 54, 55, 56, 57]⟩ : ByteArray) = digC from rfl, this]; rfl
      have hyz : y.size ≤ 20 := by
        have h1 := congrArg List.length hyl
        have h3 : x.data.toList.length = x.size := by simp
        have h4 : y.data.toList.length = y.size := by simp
        rw [List.length_cons] at h1
        omega
      have hz1 : ((⟨#[48, 49, 50, 51, 52, 53, 54, 55, 56, 57]⟩ : ByteArray).extract d (d + 1)).size ≤ 10 := by
        have : (⟨#[48, 49, 50, 51, 52, 53, 54, 55, 56, 57]⟩ : ByteArray).size = 10 := rfl
        simp; omega
      have K1 : ∀ W, (Op.stringOp .add ((⟨#[48, 49, 50, 51, 52, 53, 54, 55, 56, 57]⟩ : ByteArray).extract d (d + 1)) x).run Tryd.prog W = .ok (.string y) W := fun W => by rw [← hy]; exact run_string_add_sum W _ _ (by omega)
      have g1 : (q : Int) % 10 = (d : Int) := by omega
      have g2 : (0 : Int) ≤ (d : Int) := by omega
      have g3 : (d : Int) ≤ 9 := by omega
      have g4 : (0 : Int) ≤ (q : Int) := by omega
      have g5 : (q : Int) ≤ 9223372036854775808 := by omega
      have HD := Lib.hid hd
      have HY := Lib.hid hyl
      clear hd hyl hy
      by_cases hq10 : q < 10
      · have t0 : ((q : Int) / 10 == 0) = true := by rw [beq_iff_eq]; omega
        have HE : Hid (y.data.toList = Lib.decDigits U) := by
          have hd : d = q := by have := HD.out; omega
          have := HS.out.1
          rw [dec_last q hq10] at this
          rw [HY.out, this, hd]; rfl
        have HZ : Hid ((⟨(Lib.itoa n).toArray⟩ : ByteArray) = y) := by
          apply bytes_eq
          rw [HE.out]
          exact HAB.out
        clear hq10
        go_wp2
        go_ret
        exact ⟨ret_str HZ.out.symm, rfl⟩
      · have t0 : ((q : Int) / 10 == 0) = false := by rw [beq_eq_false_iff_ne]; omega
        have HE : Hid (DgS U (q / 10) y) := by
          refine ⟨?_, by omega⟩
          have := HS.out.1
          rw [dec_step q (by omega), HD.out] at this
          rw [HY.out, this, List.append_assoc]; rfl
        go_wp2
        go_round
        case rel => exact ⟨q / 10, y, by go_num, rfl, HE.out⟩
        case measure => simp [intOf]; omega

/-! ### quoted -/
theorem new_cells {w : World} {cs : List Value} {T : TypeId} : ∀ j u, cs[j]? = some u → (w.alloc (.cells cs.toArray T)).cell? ((⟨w.heap.size, 0, none⟩ : Addr).add j) = some u := by
  intro j u hu
  have e : ((⟨w.heap.size, 0, none⟩ : Addr).add j) = ⟨w.heap.size, j, none⟩ := by
    simp only [Addr.add]
    split <;> simp_all
  rw [e, Lib.cell_of_heap (heap_alloc_new w _)]
  simpa using hu
theorem grown_trans {a b c : World} {row : Option Nat} (h : a.grownBy b row) (k : b.grownBy c row) : a.grownBy c row :=
  ⟨k.os.trans h.os, k.tape.trans h.tape, k.output.trans h.output, Nat.le_trans h.size k.size, fun i hi hne => (k.block i (Nat.lt_of_lt_of_le hi h.size) hne).trans (h.block i hi hne)⟩
def escB (b : UInt8) : List UInt8 := if b = 34 then [92, b] else if b = 92 then [92, b] else if b = 10 then [92, 110] else [b]
theorem esc_flat (l : List UInt8) : LX.esc l = l.flatMap escB := by
  induction l with
  | nil => rfl
  | cons c t ih =>
    rw [List.flatMap_cons, ← ih]
    by_cases h1 : c = 34
    · subst h1; rfl
    by_cases h2 : c = 92
    · subst h2; rfl
    by_cases h3 : c = 10
    · subst h3; rfl
    · have n1 : ¬ (c.toNat = 34 ∨ c.toNat = 92) := by
        rintro (h | h)
        · exact h1 (by rw [← UInt8.toNat_inj]; exact h)
        · exact h2 (by rw [← UInt8.toNat_inj]; exact h)
      have n2 : ¬ c.toNat = 10 := fun h => h3 (by rw [← UInt8.toNat_inj]; exact h)
      simp only [LX.esc, n1, n2, if_false, escB, h1, h2, h3]
      rfl
theorem escB_length (b : UInt8) : (escB b).length ≤ 2 := by unfold escB; (repeat' split) <;> simp
theorem esc_length (l : List UInt8) : (l.flatMap escB).length ≤ 2 * l.length := by
  induction l with
  | nil => simp
  | cons b l ih => have := escB_length b; simp only [List.flatMap_cons, List.length_append, List.length_cons]; omega
def escTo (s : List UInt8) (j : Nat) : List UInt8 := (s.take j).flatMap escB
theorem escTo_succ {s : List UInt8} {j : Nat} (h : j < s.length) : escTo s (j + 1) = escTo s j ++ escB s[j] := by
  rw [escTo, escTo, List.take_succ_eq_append_getElem h, List.flatMap_append]
  simp
theorem ne_byte {c : UInt8} {k : Nat} (h : ¬ c = UInt8.ofNat k) : ((c.toNat : Int) == (k : Int)) = false := by
  rw [beq_eq_false_iff_ne]
  intro e
  apply h
  have : c.toNat = k := by omega
  rw [← this, UInt8.ofNat_toNat]

theorem info_u8 : (Tryd.prog.info? 5).map (fun i => (i.zero, i.size, i.bytes)) = some (some (.int .u8 0), 1, 1) := by kernel_rfl

/-- Bytes of the call's own, so far. -/
structure BL (w0 : World) (l : List UInt8) (v : Value) (n : Nat) (W : World) : Prop where
  len : n = l.length
  own : W.ownsRow w0.heap.size 5 1 v n (Lib.byteCells l)
  low : Below w0.heap.size w0 W

theorem BL.start (w : World) : BL w [] (.slice none 0 0) 0 w := ⟨rfl, World.ownsRow_nil _ _ _ _, Below.refl _ _⟩

theorem bytes_one {l : List UInt8} : ∀ u ∈ Lib.byteCells l, u.oneCell' = true := by
  intro u hu
  obtain ⟨_, _, rfl⟩ := List.mem_map.1 hu
  rfl

theorem append_B {w0 : World} {l : List UInt8} {v : Value} {n : Nat} {W : World} {ops : Array Oper} {rest : List Oper} {o : Oper} {a : Act} {Q : Exit → Act → World → Prop} (h : BL w0 l v n W) (hgd : o.guard = none) (s x : Operand)
    (ho : o.op = .call { callee := .builtin .append, args := #[s, x], argTypes := #[27, 27] }) (hs : a.eval s = v) (r : List UInt8) (m : Nat) (cs : List Value) (T : TypeId) (hx : a.eval x = .slice (some ⟨W.heap.size, 0, none⟩) m m)
    (hm : m = r.length) (hm0 : 0 < m) (hcs : cs = Lib.byteCells r) (hb : n + m ≤ 70368744177664)
    (hr : ∀ g cap W', BL w0 (l ++ r) (.slice (some ⟨g, 0, none⟩) (n + m) cap) (n + m) W' → wpList Tryd.prog ops Q rest (a.put o.dst (.slice (some ⟨g, 0, none⟩) (n + m) cap)) W') : wpList Tryd.prog ops Q (o :: rest) a (W.alloc (.cells cs.toArray T)) := by
  subst hcs hm
  obtain ⟨i0, hi, hz0, hz1, hz2⟩ := info_parts info_u8
  have hnew : ∀ j u, (Lib.byteCells r)[j]? = some u → (W.alloc (.cells (Lib.byteCells r).toArray T)).cell? ((⟨W.heap.size, 0, none⟩ : Addr).add j) = some u := new_cells
  refine wpList_append_own _ hgd s x _ ho w0.heap.size 5 i0 (.int .u8 0) 1 1 Tryd.underlying27 hi hz0 hz1 hz2 rfl (by decide) v n _ hs (h.own.alloc _) ⟨W.heap.size, 0, none⟩ r.length r.length (Lib.byteCells r) hx (by rw [Lib.byteCells_length, Nat.mul_one]) hnew bytes_one (by unfold maxLen; omega) (by omega) (by have := h.low.size; simp; omega) ?_
  intro v' w' hown hgrow _
  have hg2 : W.grownBy w' v.ownBlock := grown_trans (World.grownBy_alloc W _ _) hgrow
  have hlow := h.low.grown hg2 h.low.size (fun k e => by have := (h.own.lt _ e).1; omega)
  rcases hown.2 with ⟨_, h0⟩ | ⟨g, cap, cur, e, _⟩
  · omega
  · subst e
    refine hr g cap w' ⟨by rw [h.len, List.length_append], ?_, hlow⟩
    rw [Lib.byteCells_append]
    exact hown

theorem conv_B {w0 : World} {l : List UInt8} {g n cap : Nat} {W : World} (h : BL w0 l (.slice (some ⟨g, 0, none⟩) n cap) n W) :
    (convert 27 9 (.slice (some ⟨g, 0, none⟩) n cap)).run Tryd.prog W = .ok (.string ⟨l.toArray⟩) W := by
  have hl := h.len
  subst hl
  refine run_convert_bytes_back W 27 9 5 ⟨g, 0, none⟩ cap l Tryd.underlying27 Tryd.underlying5 Tryd.underlying9 (fun j hj => ?_)
  have := h.own.cells (g := g) rfl j (.int .u8 (l[j].toNat : Int)) (by simp [Lib.byteCells, hj])
  exact this

theorem quoted_snoc (s : ByteArray) : (34 :: escTo s.data.toList s.size) ++ [34] = LX.quotedL s.data.toList := by
  have : s.data.toList.take s.size = s.data.toList := List.take_of_length_le (by simp)
  rw [escTo, this, LX.quotedL, esc_flat]; rfl

set_option maxRecDepth 100000 in
set_option maxHeartbeats 4000000 in
theorem quoted_any (s : ByteArray) (w : World) (hs : s.size ≤ 1099511627776) :
    Calls Tryd.prog 10 #[.string s] w fun e w' => e = .returned (.string ⟨(LX.quotedL s.data.toList).toArray⟩) ∧ Below w.heap.size w w' := by
  have HQ := Lib.hid (quoted_snoc s)
  have HLN : Hid (∀ j, j ≤ s.size → (34 :: escTo s.data.toList j).length ≤ 2199023255553) := fun j hj => by
    have h2 := esc_length (s.data.toList.take j)
    have h1 : (s.data.toList.take j).length ≤ s.data.toList.length := by rw [List.length_take]; omega
    have h3 : s.data.toList.length = s.size := by simp
    simp only [List.length_cons, escTo]
    omega
  have HST := Lib.hid (BL.start w)
  go_enter Tryd.func10, Tryd.ntmps10
  go_wp2_with (at_builtin; refine append_B HST.out rfl _ _ rfl rfl [34] 1 _ _ rfl rfl (by omega) rfl (by omega) ?_)
  intro g0 cap0 W0 hBL0
  have HB0 := Lib.hid hBL0
  clear hBL0
  go_wp2_with fail
  go_loopw [3, 4] (fun v i wr => ∃ (j g n cap : Nat), j ≤ s.size ∧ i = .int .i64 j ∧ v = .slice (some ⟨g, 0, none⟩) n cap ∧ BL w (34 :: escTo s.data.toList j) v n wr) (fun _ i _ => s.size - (intOf i).toNat)
  case atStart => exact ⟨0, _, _, _, Nat.zero_le _, rfl, rfl, HB0.out⟩
  case round =>
    obtain ⟨j, g, n, cap, hj, rfl, rfl, hbl⟩ := hrel
    have HB := Lib.hid hbl
    have hn : n ≤ 2199023255553 := by have h1 := hbl.len; have h2 := HLN.out j hj; omega
    clear hbl
    by_cases hlt : j < s.size
    · have hjl : j < s.data.toList.length := by simpa using hlt
      have HE : Hid (escTo s.data.toList (j + 1) = escTo s.data.toList j ++ escB s[j]) := escTo_succ hjl
      by_cases c34 : s[j] = 34
      · have E : Hid (escB s[j] = [92, 34]) := by simp [Hid, escB, c34]
        go_wp2_with (at_builtin; refine append_B HB.out rfl _ _ rfl rfl [92, 34] 2 _ _ rfl rfl (by omega) rfl (by omega) ?_)
        intro g1 cap1 W1 hBL1
        have HB1 : Hid (BL w (34 :: escTo s.data.toList (j + 1)) (.slice (some ⟨g1, 0, none⟩) (n + 2) cap1) (n + 2) W1) := by rw [HE.out, E.out]; exact hBL1
        clear hBL1
        go_wp2_with fail
        go_roundw
        case rel => exact ⟨j + 1, _, _, _, by omega, by go_num, rfl, HB1.out⟩
        case measure => simp [intOf]; omega
      by_cases c92 : s[j] = 92
      · have n34 : ((s[j].toNat : Int) == 34) = false := ne_byte c34
        clear c34
        have E : Hid (escB s[j] = [92, 92]) := by simp [Hid, escB, c92]
        go_wp2_with (at_builtin; refine append_B HB.out rfl _ _ rfl rfl [92, 92] 2 _ _ rfl rfl (by omega) rfl (by omega) ?_)
        intro g1 cap1 W1 hBL1
        have HB1 : Hid (BL w (34 :: escTo s.data.toList (j + 1)) (.slice (some ⟨g1, 0, none⟩) (n + 2) cap1) (n + 2) W1) := by rw [HE.out, E.out]; exact hBL1
        clear hBL1
        go_wp2_with fail
        go_roundw
        case rel => exact ⟨j + 1, _, _, _, by omega, by go_num, rfl, HB1.out⟩
        case measure => simp [intOf]; omega
      by_cases c10 : s[j] = 10
      · have n34 : ((s[j].toNat : Int) == 34) = false := ne_byte c34
        have n92 : ((s[j].toNat : Int) == 92) = false := ne_byte c92
        clear c34 c92
        have E : Hid (escB s[j] = [92, 110]) := by simp [Hid, escB, c10]
        go_wp2_with (at_builtin; refine append_B HB.out rfl _ _ rfl rfl [92, 110] 2 _ _ rfl rfl (by omega) rfl (by omega) ?_)
        intro g1 cap1 W1 hBL1
        have HB1 : Hid (BL w (34 :: escTo s.data.toList (j + 1)) (.slice (some ⟨g1, 0, none⟩) (n + 2) cap1) (n + 2) W1) := by rw [HE.out, E.out]; exact hBL1
        clear hBL1
        go_wp2_with fail
        go_roundw
        case rel => exact ⟨j + 1, _, _, _, by omega, by go_num, rfl, HB1.out⟩
        case measure => simp [intOf]; omega
      · have n34 : ((s[j].toNat : Int) == 34) = false := ne_byte c34
        have n92 : ((s[j].toNat : Int) == 92) = false := ne_byte c92
        have n10 : ((s[j].toNat : Int) == 10) = false := ne_byte c10
        have E : Hid (escB s[j] = [s[j]]) := by simp [Hid, escB, c34, c92, c10]
        clear c34 c92 c10
        go_wp2_with (at_builtin; refine append_B HB.out rfl _ _ rfl rfl [s[j]] 1 _ _ rfl rfl (by omega) rfl (by omega) ?_)
        intro g1 cap1 W1 hBL1
        have HB1 : Hid (BL w (34 :: escTo s.data.toList (j + 1)) (.slice (some ⟨g1, 0, none⟩) (n + 1) cap1) (n + 1) W1) := by rw [HE.out, E.out]; exact hBL1
        clear hBL1
        go_wp2_with fail
        go_roundw
        case rel => exact ⟨j + 1, _, _, _, by omega, by go_num, rfl, HB1.out⟩
        case measure => simp [intOf]; omega
    · obtain rfl : s.size = j := by omega
      go_wp2_with (at_builtin; refine append_B HB.out rfl _ _ rfl rfl [34] 1 _ _ rfl rfl (by omega) rfl (by omega) ?_)
      intro g1 cap1 W1 hBL1
      have kc := conv_B hBL1
      rw [show 34 :: (escTo s.data.toList s.size ++ [34]) = LX.quotedL s.data.toList from HQ.out] at kc
      have HL := Lib.hid hBL1.low
      clear hBL1
      go_wp2_with fail
      go_ret
      exact ⟨rfl, HL.out⟩

/-! ### told -/
def wAggL (x : LX.LW) : Value := .agg #[.int .u8 x.k, .string ⟨x.s.toArray⟩, .int .i64 x.n, .int .i64 x.line]
set_option maxRecDepth 100000 in
set_option maxHeartbeats 4000000 in
theorem told_4 (s : ByteArray) (n line : Int) (w : World) :
    Calls Tryd.prog 8 #[.agg #[.int .u8 4, .string s, .int .i64 n, .int .i64 line]] w fun e w' => e = .returned (.string ⟨#[40]⟩) ∧ Below w.heap.size w w' := by
  have hb := Lib.hid (fun o => (Below.refl w.heap.size w).alloc (Nat.le_refl _) o)
  go_enter Tryd.func8, Tryd.ntmps8
  go_wp2
  go_ret
  exact ⟨rfl, hb.out _⟩
set_option maxRecDepth 100000 in
set_option maxHeartbeats 4000000 in
theorem told_5 (s : ByteArray) (n line : Int) (w : World) :
    Calls Tryd.prog 8 #[.agg #[.int .u8 5, .string s, .int .i64 n, .int .i64 line]] w fun e w' => e = .returned (.string ⟨#[41]⟩) ∧ Below w.heap.size w w' := by
  have hb := Lib.hid (fun o => (Below.refl w.heap.size w).alloc (Nat.le_refl _) o)
  go_enter Tryd.func8, Tryd.ntmps8
  go_wp2
  go_ret
  exact ⟨rfl, hb.out _⟩
set_option maxRecDepth 100000 in
set_option maxHeartbeats 4000000 in
theorem told_1 (s : ByteArray) (n line : Int) (w : World) :
    Calls Tryd.prog 8 #[.agg #[.int .u8 1, .string s, .int .i64 n, .int .i64 line]] w fun e w' => e = .returned (.string s) ∧ Below w.heap.size w w' := by
  have hb := Lib.hid (fun o => (Below.refl w.heap.size w).alloc (Nat.le_refl _) o)
  go_enter Tryd.func8, Tryd.ntmps8
  go_wp2
  go_ret
  exact ⟨rfl, hb.out _⟩
set_option maxRecDepth 100000 in
set_option maxHeartbeats 4000000 in
theorem told_2 (s : ByteArray) (n line : Int) (w : World) (h1 : -9223372036854775808 ≤ n) (h2 : n ≤ 9223372036854775807) :
    Calls Tryd.prog 8 #[.agg #[.int .u8 2, .string s, .int .i64 n, .int .i64 line]] w fun e w' => e = .returned (.string ⟨(Lib.itoa n).toArray⟩) ∧ Below w.heap.size w w' := by
  have hb := Lib.hid (fun o => (Below.refl w.heap.size w).alloc (Nat.le_refl _) o)
  have H := Lib.hid (fun W => digits_any n W h1 h2)
  generalize (⟨(Lib.itoa n).toArray⟩ : ByteArray) = z at H ⊢
  clear h1 h2
  go_enter Tryd.func8, Tryd.ntmps8
  go_wp2_with (go_at_call 9; (with_reducible refine (H.out _).mono ?_); rintro e w1 ⟨rfl, rfl⟩)
  go_ret
  exact ⟨rfl, hb.out _⟩
set_option maxRecDepth 100000 in
set_option maxHeartbeats 4000000 in
theorem told_3 (s : ByteArray) (n line : Int) (w : World) (hs : s.size ≤ 1099511627776) :
    Calls Tryd.prog 8 #[.agg #[.int .u8 3, .string s, .int .i64 n, .int .i64 line]] w fun e w' => e = .returned (.string ⟨(LX.quotedL s.data.toList).toArray⟩) ∧ Below w.heap.size w w' := by
  have hb : Hid (∀ o w', Below (w.alloc o).heap.size (w.alloc o) w' → Below w.heap.size w w') := fun o w' h => ((Below.refl w.heap.size w).alloc (Nat.le_refl _) o).trans (h.mono (by simp))
  have H := Lib.hid (fun W => quoted_any s W hs)
  generalize (⟨(LX.quotedL s.data.toList).toArray⟩ : ByteArray) = z at H ⊢
  clear hs
  go_enter Tryd.func8, Tryd.ntmps8
  go_wp2_with (go_at_call 10; (with_reducible refine (H.out _).mono ?_); rintro e w1 ⟨rfl, hb1⟩; (have HB := Lib.hid (hb.out _ _ hb1)); clear hb1)
  go_ret
  exact ⟨rfl, HB.out⟩
/-- A word that may be, as text. -/
theorem told_any (x : LX.LW) (w : World) (h : LX.OkW x) :
    Calls Tryd.prog 8 #[wAggL x] w fun e w' => e = .returned (.string ⟨(LX.toldW x).toArray⟩) ∧ Below w.heap.size w w' := by
  obtain ⟨k, s, n, line⟩ := x
  rcases h with ⟨rfl, rfl, rfl⟩ | ⟨rfl, rfl, rfl⟩ | ⟨rfl, rfl, hl⟩ | ⟨rfl, rfl, h1, h2⟩ | ⟨rfl, rfl, hne, hl, hb, hm⟩
  · exact told_4 _ _ _ w
  · exact told_5 _ _ _ w
  · exact told_3 ⟨s.toArray⟩ 0 line w (by
      have h1 : (⟨s.toArray⟩ : ByteArray).size = s.length := by show s.toArray.size = _; simp
      have h2 : s.length ≤ 4096 := hl
      omega)
  · exact told_2 _ n line w h1 (by have h3 : n < 9223372036854775808 := h2; omega)
  · exact told_1 _ _ _ w
end Go.Proofs.YtpnbnomaaeoemaaDoor
