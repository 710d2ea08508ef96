/-
  Walks: LexAgain returns true; old memory is as it was.
  Conditions: the package's variables hold what the program's text lays in them; the text is no longer than the reach.
-/
import Derived.Test.YtpnbnomaaeoemaaDoorLexO
import Derived.Test.YtpnbnomaaeoemaaDoorLexJ
import Derived.Lib.ConvBytes
import Derived.Lib.BufferRead
namespace Go.Proofs.YtpnbnomaaeoemaaDoor
open Go.RowKit

theorem append_S {w0 : World} {l : List UInt8} {v : Value} {n : Nat} {W : World} {ops : Array Oper} {rest : List Oper} {o : Oper} {a : Act} {Q : Exit → Act → World → Prop} (h : BL w0 l v n W) (hgd : o.guard = none) (s x : Operand)
    (ho : o.op = .call { callee := .builtin .append, args := #[s, x], argTypes := #[27, 27] }) (hs : a.eval s = v) (r : List UInt8) (m c : Nat) (ad : Addr) (hx : a.eval x = .slice (some ad) m c)
    (hm : m = r.length) (hm0 : 0 < m) (hnew : ∀ j u, (Lib.byteCells r)[j]? = some u → W.cell? (ad.add j) = some u) (hb : n + m ≤ 70368744177664)
    (hr : ∀ g cap W', BL w0 (l ++ r) (.slice (some ⟨g, 0, none⟩) (n + m) cap) (n + m) W' → wpList Tryd.prog ops Q rest (a.put o.dst (.slice (some ⟨g, 0, none⟩) (n + m) cap)) W') : wpList Tryd.prog ops Q (o :: rest) a W := by
  subst hm
  obtain ⟨i0, hi, hz0, hz1, hz2⟩ := info_parts info_u8
  refine wpList_append_own _ hgd s x _ ho w0.heap.size 5 i0 (.int .u8 0) 1 1 Tryd.underlying27 hi hz0 hz1 hz2 rfl (by decide) v n _ hs h.own ad r.length c (Lib.byteCells r) hx (by rw [Lib.byteCells_length, Nat.mul_one]) hnew bytes_one (by unfold maxLen; omega) (by omega) h.low.size ?_
  intro v' w' hown hgrow _
  have hlow := h.low.grown hgrow h.low.size (fun k e => by have := (h.own.lt _ e).1; omega)
  rcases hown.2 with ⟨_, h0⟩ | ⟨g, cap, cur, e, _⟩
  · omega
  · subst e
    refine hr g cap w' ⟨by rw [h.len, List.length_append], ?_, hlow⟩
    rw [Lib.byteCells_append]
    exact hown
theorem BL.bytes {w0 : World} {l : List UInt8} {v : Value} {n : Nat} {W : World} (h : BL w0 l v n W) (t : ByteArray) : BL w0 l v n (Lib.bytesWorld W 5 t) :=
  ⟨h.len, ownsRow_keep h.own (fun _ _ h2 => Lib.bytesWorld_at_old _ _ _ _ h2), h.low.trans ((Lib.bytesWorld_below _ _ _).mono h.low.size)⟩
theorem BL.grow {w0 : World} {l : List UInt8} {v : Value} {n : Nat} {W W' : World} (h : BL w0 l v n W) (hb : Below W.heap.size W W') : BL w0 l v n W' :=
  ⟨h.len, ownsRow_keep h.own (fun j _ h2 => hb.block j h2), h.low.trans (hb.mono h.low.size)⟩
theorem bytes_new (W : World) (t : ByteArray) (r : List UInt8) (hr : t.data.toList = r) : ∀ j u, (Lib.byteCells r)[j]? = some u → (Lib.bytesWorld W 5 t).cell? ((⟨W.heap.size, 0, none⟩ : Addr).add j) = some u := by
  intro j u hu
  have e : ((⟨W.heap.size, 0, none⟩ : Addr).add j) = ⟨W.heap.size, j, none⟩ := by
    simp only [Addr.add]
    split <;> simp_all
  have hj : j < r.length := by
    have := (List.getElem?_eq_some_iff.1 hu).1
    rwa [Lib.byteCells_length] at this
  have hl : t.data.toList.length = t.size := by simp
  rw [e, Lib.bytesWorld_cell _ _ _ _ (by rw [← hl, hr]; exact hj), hr, ← hu]
  simp [Lib.byteCells, hj]
theorem Wds.lt {w : World} {b o n cap : Nat} {ws : List LX.LW} (h : Wds w (.slice (some ⟨b, o, none⟩) n cap) ws) (hw : 0 < ws.length) : b < w.heap.size := by
  obtain ⟨ao', cap', he, -, -, hc⟩ := h
  injection he with h1 h2 h3
  rcases hc with rfl | ⟨b', o', e, hb, -⟩
  · simp at hw
  · rw [e] at h1
    injection h1 with h1
    injection h1 with h1
    omega
theorem conv_any {w0 : World} {l : List UInt8} {v : Value} {n : Nat} {W : World} (h : BL w0 l v n W) :
    (convert 27 9 v).run Tryd.prog W = .ok (.string ⟨l.toArray⟩) W := by
  rcases h.own.2 with ⟨hv, h0⟩ | ⟨g, cap, cur, hv, -⟩
  · subst hv
    have : l = [] := List.eq_nil_of_length_eq_zero (by rw [← h.len]; exact h0)
    subst this
    exact Lib.run_convert_nil_bytes W _ _ _ 0 Tryd.underlying27 Tryd.underlying5 Tryd.underlying9
  · subst hv
    exact conv_B h
/-- A word at the line 0. -/
def z0 (x : LX.LW) : LX.LW := { x with line := 0 }
/-- The k first words, as they are told. -/
def jt (ws : List LX.LW) (k : Nat) : List UInt8 := LX.joinW (ws.take k)
theorem jt_zero (ws : List LX.LW) : jt ws 0 = [] := by simp [jt, LX.joinW]
theorem jt_one (ws : List LX.LW) (h : 0 < ws.length) : jt ws 1 = LX.toldW ws[0] := by
  have : ws.take 1 = [] ++ [ws[0]] := by rw [show (1 : Nat) = 0 + 1 from rfl, List.take_succ_eq_append_getElem h]; rfl
  rw [jt, this, LX.join_snoc]; simp [LX.joinW]
theorem jt_succ (ws : List LX.LW) (k : Nat) (h : k + 1 < ws.length) : jt ws (k + 1 + 1) = (jt ws (k + 1) ++ [32]) ++ LX.toldW ws[k + 1] := by
  rw [jt, List.take_succ_eq_append_getElem h, LX.join_snoc, if_neg]
  · rfl
  · intro e
    have h2 : (ws.take (k + 1)).length = 0 := by rw [e]; rfl
    rw [List.length_take] at h2
    omega
theorem told_pos {x : LX.LW} (h : LX.OkW x) : 0 < (LX.toldW x).length := by
  obtain ⟨c, t, e, -⟩ := LX.told_ne h
  rw [e]; simp
theorem told_len {x : LX.LW} (h : LX.OkW x) : (LX.toldW x).length ≤ 8194 := by
  obtain ⟨k, s, n, line⟩ := x
  rcases h with ⟨rfl, rfl, rfl⟩ | ⟨rfl, rfl, rfl⟩ | ⟨rfl, rfl, hl⟩ | ⟨rfl, rfl, h1, h2⟩ | ⟨rfl, rfl, hne, hl, hb, hm⟩
  · show 1 ≤ 8194; omega
  · show 1 ≤ 8194; omega
  · show (LX.quotedL s).length ≤ 8194
    have hl : s.length ≤ 4096 := hl
    have := esc_length s
    simp only [LX.quotedL, esc_flat, List.length_cons, List.length_append, List.length_nil]
    omega
  · show (Lib.itoa n).length ≤ 8194
    have := LX.itoa_len n h1 h2
    omega
  · show s.length ≤ 8194
    have hl : s.length ≤ 4096 := hl
    omega

set_option maxRecDepth 100000 in
set_option maxHeartbeats 8000000 in
theorem again_err (s : ByteArray) (w : World) (ht : LTabs w) (he : ∀ W, LTabs W → ∃ m q, 0 < q ∧ q < 10 ∧ Calls Tryd.prog 6 #[.string s] W fun e w' => e = .returned (.tuple #[.slice none 0 0, .int .i64 (m : Int), .int .i64 (q : Int)]) ∧ Below W.heap.size W w') :
    Calls Tryd.prog 3 #[.string s] w fun e w' => e = .returned (.bool true) ∧ Below w.heap.size w w' := by
  obtain ⟨m, q, q0, q1, h1⟩ := he w ht
  have H1 := Lib.hid h1
  have H2 := Lib.hid (fun W (h : Below w.heap.size w W) => alive_any W (ht.below h ht.gb))
  have HT : Hid (∀ W W', Below w.heap.size w W → Below W.heap.size W W' → Below w.heap.size w W') := fun W W' h k => h.trans (k.mono h.size)
  have t1 : (q != 0) = true := by rw [bne_iff_ne]; omega
  clear ht he h1
  go_enter Tryd.func3, Tryd.ntmps3
  go_wp2_with fail
  refine H1.out.mono ?_
  rintro e w1 ⟨rfl, hb1⟩
  have HB := Lib.hid hb1
  clear hb1
  go_wp2_with fail
  refine (H2.out _ HB.out).mono ?_
  rintro e w2 ⟨rfl, hb2⟩
  have HC := Lib.hid (HT.out _ _ HB.out hb2)
  clear hb2
  go_wp2_with fail
  refine (H2.out _ HC.out).mono ?_
  rintro e w3 ⟨rfl, hb3⟩
  have HD := Lib.hid (HT.out _ _ HC.out hb3)
  clear hb3
  go_wp2
  go_ret
  exact ⟨rfl, HD.out⟩

set_option maxRecDepth 100000 in
set_option maxHeartbeats 8000000 in
theorem again_ok (s : ByteArray) (ws : List LX.LW) (w : World) (ht : LTabs w) (hs : s.size ≤ 65536) (hr : LX.lex 0 s.data.toList = .ok ws) :
    Calls Tryd.prog 3 #[.string s] w fun e w' => e = .returned (.bool true) ∧ Below w.heap.size w w' := by
  have hsnd := LX.lex_sound 0 _ _ hr
  have hlen : s.data.toList.length = s.size := by simp
  have gN : ws.length ≤ 65536 := by omega
  have HOk : Hid (∀ x ∈ ws, LX.OkW x) := fun x hx => (hsnd.1 x hx).1
  have HSo : Hid (∀ k (h : k + 1 < ws.length), ws[k].line ≤ ws[k + 1].line) := fun k h => List.pairwise_iff_getElem.1 hsnd.2.1 k (k + 1) (by omega) h (by omega)
  have hln := lex_bound 0 s.data.toList
  rw [hr] at hln
  have hln : ∀ x ∈ ws, x.line ≤ 0 + s.data.toList.length := hln
  have HLn : Hid (∀ k (h : k < ws.length), ws[k].line ≤ 65536) := fun k h => by have := hln _ (List.getElem_mem h); omega
  have h1 : Calls Tryd.prog 6 #[.string s] w fun e w' => ∃ v, e = .returned (.tuple #[v, .int .i64 0, .int .i64 0]) ∧ Wds w' v ws ∧ Below w.heap.size w w' := (words_any s w hs ht).mono fun e w' hp => by
    unfold PostWords at hp
    rw [hr] at hp
    obtain ⟨⟨v, he, ho⟩, hb⟩ := hp
    exact ⟨v, he, Wds.of_own ho, hb⟩
  have H1 := Lib.hid h1
  have H2 := Lib.hid (fun W (h : Below w.heap.size w W) => alive_any W (ht.below h ht.gb))
  have HT : Hid (∀ W W', Below w.heap.size w W → Below W.heap.size W W' → Below w.heap.size w W') := fun W W' h k => h.trans (k.mono h.size)
  have HTab : Hid (∀ W, Below w.heap.size w W → LTabs W) := fun W h => ht.below h ht.gb
  obtain ⟨N, hN⟩ : ∃ N, ws.length = N := ⟨_, rfl⟩
  have HN := Lib.hid hN
  rw [hN] at gN
  clear ht hs hr hsnd hlen hln h1 hN
  go_enter Tryd.func3, Tryd.ntmps3
  go_wp2_with fail
  refine H1.out.mono ?_
  rintro e w1 ⟨v, rfl, hw1, hb1⟩
  obtain ⟨ao, cp, rfl, hc1, hc2, -⟩ := id hw1
  have HB1 := Lib.hid (And.intro hb1 hw1)
  rw [HN.out] at hc1 ⊢
  unfold maxLen at hc2
  clear hb1 hw1
  go_wp2_with fail
  refine (H2.out _ HB1.out.1).mono ?_
  rintro e w2 ⟨rfl, hb2⟩
  have HB2 := Lib.hid (And.intro (HT.out _ _ HB1.out.1 hb2) (HB1.out.2.below hb2))
  clear hb2
  have HST := Lib.hid (BL.start w2)
  go_wp2
  go_loopw [6, 7] (fun b i wr => ∃ (k : Nat) (v : Value) (n : Nat), v = b ∧ k ≤ N ∧ i = .int .i64 k ∧ n ≤ 65536 ∧ BL w2 (jt ws k) v n wr) (fun _ i _ => N - (intOf i).toNat)
  case atStart => exact ⟨0, _, 0, rfl, Nat.zero_le _, rfl, by omega, by rw [jt_zero]; exact HST.out⟩
  case round =>
    obtain ⟨k, v, n, rfl, hk, rfl, hn, hbl⟩ := hrel
    have HB := Lib.hid hbl
    clear hbl HST
    by_cases hlt : k < N
    · have hkw : k < ws.length := by rw [HN.out]; exact hlt
      have hok := HOk.out _ (List.getElem_mem hkw)
      have KT := Lib.hid (fun W => told_any ws[k] W hok)
      have hpos := told_pos hok
      have hle := told_len hok
      cases k with
      | zero =>
        have HJ := Lib.hid (jt_one ws hkw)
        obtain ⟨b1, o1, rfl, c0, c1, c2, c3⟩ := (HB2.out.2.below (HB.out.low)).at 0 hkw
        obtain ⟨x, hx⟩ : ∃ x, ws[0]'hkw = x := ⟨_, rfl⟩
        rw [hx] at c0 c1 c2 c3 KT HJ hpos hle
        simp only [Nat.zero_mul, Nat.add_zero] at c0 c1 c2 c3
        obtain ⟨kk, sl, nn, ll⟩ := x
        have KT2 : Hid (∀ W, Calls Tryd.prog 8 #[.agg #[.int .u8 kk, .string ⟨sl.toArray⟩, .int .i64 nn, .int .i64 ll]] W fun e w' => e = .returned (.string ⟨(LX.toldW ⟨kk, sl, nn, ll⟩).toArray⟩) ∧ Below W.heap.size W w') := KT.out
        generalize (⟨sl.toArray⟩ : ByteArray) = ss at c1 KT2
        obtain ⟨tl, htl⟩ : ∃ tl, LX.toldW ⟨kk, sl, nn, ll⟩ = tl := ⟨_, rfl⟩
        rw [htl] at KT2 HJ hpos hle
        obtain ⟨tb, htb⟩ : ∃ tb : ByteArray, (⟨tl.toArray⟩ : ByteArray) = tb := ⟨_, rfl⟩
        have htd : tb.data.toList = tl := by rw [← htb]
        have htz : tb.size = tl.length := by rw [← htd]; simp
        rw [htb] at KT2
        have HTD := Lib.hid htd
        have HTZ := Lib.hid htz
        have KV := Lib.hid (fun W : World => Lib.run_convert_string_bytes (P := Tryd.prog) W 9 27 5 tb Tryd.underlying9 Tryd.underlying27 Tryd.underlying5)
        have hpz : 0 < tb.size := by omega
        have hlz : tb.size ≤ 8194 := by omega
        clear KT hx htl htb htd htz hok hpos hle
        have hn0 : n = 0 := by have := HB.out.len; rw [jt_zero] at this; exact this
        subst hn0
        go_wp2_with fail
        refine (KT2.out _).mono ?_
        rintro e w3 ⟨rfl, hb3⟩
        have HB3 := Lib.hid (HB.out.grow hb3)
        have kv := KV.out w3
        clear hb3 c0 c1 c2 c3
        have HNew := Lib.hid (bytes_new w3 tb tl HTD.out)
        have HBy := Lib.hid (HB3.out.bytes tb)
        go_wp2_with (at_builtin; refine append_S HBy.out rfl _ _ rfl rfl tl tb.size _ ⟨w3.heap.size, 0, none⟩ rfl HTZ.out (by omega) HNew.out (by omega) ?_)
        intro g4 cp4 w4 hbl4
        have HB4 := Lib.hid hbl4
        clear kv hbl4
        have gz : ¬ (65536 : Int) < (tb.size : Int) := by omega
        have hbz : BL w2 (jt ws 1) (.slice (some ⟨g4, 0, none⟩) tb.size cp4) tb.size w4 := by
          have := HB4.out
          rw [jt_zero, List.nil_append] at this
          rw [HJ.out]; exact this
        have HBZ := Lib.hid hbz
        clear hbz
        go_wp2
        go_roundw
        case rel => exact ⟨1, _, _, rfl, by omega, by go_num, by omega, HBZ.out⟩
        case measure => simp [intOf]; omega
      | succ k =>
        have HJ := Lib.hid (jt_succ ws k hkw)
        have hso := HSo.out k hkw
        have hl1 := HLn.out k (by omega)
        have hl2 := HLn.out (k + 1) hkw
        have hg0 : (0 : Int) < ((k : Int) + 1) := by omega
        go_wp2_with (at_builtin; refine append_B HB.out rfl _ _ rfl rfl [32] 1 _ _ rfl rfl (by omega) rfl (by omega) ?_)
        intro g5 cp5 w5 hbl5
        have HB5 := Lib.hid hbl5
        clear hbl5
        obtain ⟨b1, o1, ho1, d0, d1, d2, d3⟩ := (HB2.out.2.below (HB5.out.low)).at k (by omega)
        subst ho1
        obtain ⟨b1', o1', ho1, c0, c1, c2, c3⟩ := (HB2.out.2.below (HB5.out.low)).at (k + 1) hkw
        injection ho1 with ho1
        injection ho1 with ho1 ho2
        subst ho1 ho2
        obtain ⟨la, hla⟩ : ∃ x, ws[k].line = x := ⟨_, rfl⟩
        rw [hla] at d3 hso hl1
        obtain ⟨x, hx⟩ : ∃ x, ws[k + 1]'hkw = x := ⟨_, rfl⟩
        rw [hx] at c0 c1 c2 c3 KT HJ hpos hle
        rw [hx] at hso hl2
        obtain ⟨kk, sl, nn, ll⟩ := x
        have KT2 : Hid (∀ W, Calls Tryd.prog 8 #[.agg #[.int .u8 kk, .string ⟨sl.toArray⟩, .int .i64 nn, .int .i64 ll]] W fun e w' => e = .returned (.string ⟨(LX.toldW ⟨kk, sl, nn, ll⟩).toArray⟩) ∧ Below W.heap.size W w') := KT.out
        generalize (⟨sl.toArray⟩ : ByteArray) = ss at c1 KT2
        obtain ⟨tl, htl⟩ : ∃ tl, LX.toldW ⟨kk, sl, nn, ll⟩ = tl := ⟨_, rfl⟩
        rw [htl] at KT2 HJ hpos hle
        obtain ⟨tb, htb⟩ : ∃ tb : ByteArray, (⟨tl.toArray⟩ : ByteArray) = tb := ⟨_, rfl⟩
        have htd : tb.data.toList = tl := by rw [← htb]
        have htz : tb.size = tl.length := by rw [← htd]; simp
        rw [htb] at KT2
        have HTD := Lib.hid htd
        have HTZ := Lib.hid htz
        have KV := Lib.hid (fun W : World => Lib.run_convert_string_bytes (P := Tryd.prog) W 9 27 5 tb Tryd.underlying9 Tryd.underlying27 Tryd.underlying5)
        have hpz : 0 < tb.size := by omega
        have hlz : tb.size ≤ 8194 := by omega
        clear KT hx htl htb htd htz hok hpos hle hla d0 d1 d2
        dsimp only at hso hl2
        go_wp2_with fail
        have y1 : IntKind.i64.wrap ((k : Int) + 1 - 1) = (k : Int) := by rw [show (k : Int) + 1 - 1 = (k : Int) by omega]; exact IntWalk.i64_in _ (by omega)
        have y2 : ((k : Int) + 1).toNat = k + 1 := by omega
        have y3 : (0 : Int) ≤ (k : Int) + 1 := by omega
        have y4 : (k : Int) + 1 < (N : Int) := by omega
        have y5 : (k : Int) < (N : Int) := by omega
        have y6 : k + 1 < cp := by omega
        have y7 : k < cp := by omega
        have y8 : ¬ (ll : Int) < (la : Int) := by omega
        go_quiet (fail)
        clear y1 y2 y3 y4 y5 y6 y7 y8 d3 hso hl1 hl2 hg0
        go_wp2_with fail
        refine (KT2.out _).mono ?_
        rintro e w3 ⟨rfl, hb3⟩
        have HB3 := Lib.hid ((HB5.out.grow (below_drewN (Below.refl _ _))).grow hb3)
        have kv := KV.out w3
        clear hb3 c0 c1 c2 c3
        have HNew := Lib.hid (bytes_new w3 tb tl HTD.out)
        have HBy := Lib.hid (HB3.out.bytes tb)
        go_wp2_with (at_builtin; refine append_S HBy.out rfl _ _ rfl rfl tl tb.size _ ⟨w3.heap.size, 0, none⟩ rfl HTZ.out (by omega) HNew.out (by omega) ?_)
        intro g4 cp4 w4 hbl4
        have HB4 := Lib.hid hbl4
        clear kv hbl4
        have hbz : BL w2 (jt ws (k + 1 + 1)) (.slice (some ⟨g4, 0, none⟩) (n + 1 + tb.size) cp4) (n + 1 + tb.size) w4 := by rw [HJ.out, List.append_assoc]; exact HB4.out
        have HBZ := Lib.hid hbz
        clear hbz
        by_cases hbig : 65536 < n + 1 + tb.size
        · have gz : (65536 : Int) < (n : Int) + 1 + (tb.size : Int) := by omega
          go_wp2
          go_ret
          exact ⟨rfl, HT.out _ _ HB2.out.1 HBZ.out.low⟩
        · have gz : ¬ (65536 : Int) < (n : Int) + 1 + (tb.size : Int) := by omega
          go_wp2
          go_roundw
          case rel => exact ⟨k + 1 + 1, _, _, rfl, by omega, by go_num, by omega, HBZ.out⟩
          case measure => simp [intOf]; omega
    · obtain rfl : k = N := by omega
      have hjt : jt ws k = LX.joinW ws := by rw [jt, List.take_of_length_le (by rw [HN.out]; exact Nat.le_refl _)]
      rw [hjt] at HB
      have hlex := LX.lex_join ws HOk.out
      have kc := conv_any HB.out
      have hyn := HB.out.len
      obtain ⟨y, hy⟩ : ∃ y : ByteArray, (⟨(LX.joinW ws).toArray⟩ : ByteArray) = y := ⟨_, rfl⟩
      have hyd : y.data.toList = LX.joinW ws := by rw [← hy]
      have hyz : y.size = n := by
        have : y.data.toList.length = y.size := by simp
        rw [← this, hyd, hyn]
      rw [hy] at kc
      have HBw : Hid (Below w.heap.size w wr) := HT.out _ _ HB2.out.1 HB.out.low
      have HV1 : Hid (Wds wr (.slice ao k cp) ws) := by
        have := HB2.out.2.below HB.out.low
        rw [HN.out] at this
        exact this
      have h3 : Calls Tryd.prog 6 #[.string y] wr fun e w' => ∃ v, e = .returned (.tuple #[v, .int .i64 0, .int .i64 0]) ∧ Wds w' v (ws.map z0) ∧ Below wr.heap.size wr w' := (words_any y wr (by omega) (HTab.out _ HBw.out)).mono fun e w' hp => by
        unfold PostWords at hp
        rw [hyd, hlex] at hp
        obtain ⟨⟨v, he, ho⟩, hb⟩ := hp
        exact ⟨v, he, Wds.of_own ho, hb⟩
      have H3 := Lib.hid h3
      clear hjt hlex hyn hy hyd hyz h3 hn
      go_wp2_with fail
      refine H3.out.mono ?_
      rintro e w3 ⟨v2, rfl, hw3, hb3⟩
      obtain ⟨ao2, cp2, rfl, hd1, hd2, -⟩ := id hw3
      have HW3 := Lib.hid hw3
      have HV3 := Lib.hid (HV1.out.below hb3)
      have HB3 := Lib.hid (HT.out _ _ HBw.out hb3)
      rw [List.length_map, HN.out] at hd1 HW3 ⊢
      unfold maxLen at hd2
      clear hw3 hb3 kc
      go_wp2
      go_loopw [11] (fun i wr2 => ∃ j : Nat, j ≤ k ∧ i = .int .i64 j ∧ Below w3.heap.size w3 wr2) (fun i _ => k - (intOf i).toNat)
      case atStart => exact ⟨0, Nat.zero_le _, rfl, Below.refl _ _⟩
      case round =>
        obtain ⟨j, hj, rfl, hbr⟩ := hrel
        have HBR := Lib.hid hbr
        clear hbr
        by_cases hlt2 : j < k
        · have hjw : j < ws.length := by rw [HN.out]; exact hlt2
          have hjm : j < (ws.map z0).length := by rw [List.length_map]; exact hjw
          obtain ⟨b1, o1, rfl, c0, c1, c2, c3⟩ := (HV3.out.below HBR.out).at j hjw
          have hlt1 := (HV3.out.below HBR.out).lt (by omega)
          obtain ⟨b2, o2, rfl, d0, d1, d2, d3⟩ := (HW3.out.below HBR.out).at j hjm
          have hltm := (HW3.out.below HBR.out).lt (by omega)
          rw [List.getElem_map] at d0 d1 d2 d3
          obtain ⟨x, hx⟩ : ∃ x, ws[j]'hjw = x := ⟨_, rfl⟩
          rw [hx] at c0 c1 c2 c3 d0 d1 d2 d3
          obtain ⟨kk, sl, nn, ll⟩ := x
          simp only [z0] at d0 d1 d2 d3
          generalize (⟨sl.toArray⟩ : ByteArray) = ss at c1 d1
          have g1 : (j : Int) < (k : Int) := by omega
          have g2 : (0 : Int) ≤ (j : Int) := by omega
          have g3 : j < cp := by omega
          have g4 : j < cp2 := by omega
          have HBa : Hid (∀ o, Below w3.heap.size w3 (wr.alloc o)) := fun o => HBR.out.alloc HBR.out.size o
          clear hx hjw hjm
          go_wp2
          go_quiet (fail)
          go_wp2
          go_roundw
          case rel => exact ⟨j + 1, by omega, by go_num, below_drewN (HBa.out _)⟩
          case measure => simp [intOf]; omega
        · obtain rfl : j = k := by omega
          go_wp2
          go_ret
          exact ⟨rfl, HT.out _ _ HB3.out HBR.out⟩

/-- LexAgain, of any text. -/
theorem again_any (s : ByteArray) (w : World) (ht : LTabs w) (hs : s.size ≤ 140737488355328) :
    Calls Tryd.prog 3 #[.string s] w fun e w' => e = .returned (.bool true) ∧ Below w.heap.size w w' := by
  by_cases h1 : s.size ≤ 65536
  · cases hr : LX.lex 0 s.data.toList with
    | err n =>
      refine again_err s w ht (fun W hW => ⟨n, 4, by decide, by decide, (words_any s W h1 hW).mono fun e w' hp => ?_⟩)
      unfold PostWords at hp
      rw [hr] at hp
      exact hp
    | ok ws => exact again_ok s ws w ht h1 hr
  · refine again_err s w ht (fun W hW => ⟨0, 3, by decide, by decide, (words_big s W (by omega) hs).mono fun e w' hp => ?_⟩)
    obtain ⟨rfl, rfl⟩ := hp
    exact ⟨rfl, Below.refl _ _⟩
end Go.Proofs.YtpnbnomaaeoemaaDoor
