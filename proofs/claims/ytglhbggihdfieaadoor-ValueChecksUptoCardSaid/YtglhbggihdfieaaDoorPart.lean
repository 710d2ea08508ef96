/-
  Walks: parts lays a list of parts of a value, the first of them the value, each one no greater, and one that may be if the value may be; old memory is as it was.
  Conditions: the value lies in memory, and has at most 2^20 parts.
-/
import Derived.Test.YtglhbggihdfieaaDoorPartP
import Derived.Test.YtglhbggihdfieaaDoorTwinL
import Derived.Deep.CutRange
import Derived.Deep.DeepCutAuto
namespace Go.Proofs.YtglhbggihdfieaaDoor
open Go.RowKit Go.Deep Go.WideShapes

theorem in_cells {w : World} {v : V} (h : v.In w) : v.cells.length = 8 := by
  cases v with
  | leaf => exact h.elim
  | mk => rfl

/-- Cells of values that stand one behind the other. -/
theorem flat_cells {W : World} {b o ll : Nat} {L : Nat → V} (h8 : ∀ i, i < ll → (L i).cells.length = 8) (h : ∀ i, i < ll → At W b (o + i * 8) (L i).cells) : ∀ j u, (flatV ll L)[j]? = some u → W.cell? ((⟨b, o, none⟩ : Addr).add j) = some u := by
  intro j u hu
  have hl := flatV_length h8
  have hj : j < ll * 8 := by have := (List.getElem?_eq_some_iff.1 hu).1; omega
  have hg := flatV_get h8 (j / 8) (by omega) (j % 8) (by omega)
  have e : j / 8 * 8 + j % 8 = j := by omega
  rw [e, hu] at hg
  have := h (j / 8) (by omega) (j % 8) (by rw [h8 _ (by omega)]; omega)
  rw [add_plain]
  have e2 : o + j / 8 * 8 + j % 8 = o + j := by omega
  rw [e2] at this
  rw [this, ← hg]

theorem flat_one {ll : Nat} {L : Nat → V} : ∀ u ∈ flatV ll L, u.oneCell' = true := by
  induction ll with
  | zero => intro u hu; simp [flatV] at hu
  | succ n ih =>
    intro u hu
    rw [flatV, List.mem_append] at hu
    exact hu.elim (ih u) (v_one _ u)

theorem at80' {w : World} {b o : Nat} {k n : Int} {s : ByteArray} {la : Option Addr} {ll lc : Nat} {L : Nat → V} {fa : Option Addr} {fl fc : Nat} {fn : Nat → ByteArray} {F : Nat → V} {e : Int} {key : ByteArray} {hk : Bool}
    (h : At w b o (V.mk k n s la ll lc L fa fl fc fn F e key hk).cells) :
    w.cell? ⟨b, o, none⟩ = some (.int .u8 k) ∧ w.cell? ⟨b, o + 1, none⟩ = some (.int .i64 n) ∧ w.cell? ⟨b, o + 2, none⟩ = some (.string s) ∧ w.cell? ⟨b, o + 3, none⟩ = some (.slice la ll lc) ∧ w.cell? ⟨b, o + 4, none⟩ = some (.slice fa fl fc) ∧
      w.cell? ⟨b, o + 5, none⟩ = some (.int .u8 e) ∧ w.cell? ⟨b, o + 6, none⟩ = some (.string key) ∧ w.cell? ⟨b, o + 7, none⟩ = some (.bool hk) := at8 h

/-- The list so far. -/
structure PL (w0 : World) (v : V) (n : Nat) (P : Nat → V) (g cap : Nat) (W : World) : Prop where
  own : W.ownsRow w0.heap.size 27 8 (.slice (some ⟨g, 0, none⟩) n cap) n (flatV n P)
  ok : ∀ i, i < n → (P i).In w0 ∧ Pt v (P i)
  low : Below w0.heap.size w0 W

theorem PL.at {w0 : World} {v : V} {n : Nat} {P : Nat → V} {g cap : Nat} {W : World} (h : PL w0 v n P g cap W) {i : Nat} (hi : i < n) : At W g (i * 8) (P i).cells := by
  have h8 : ∀ i, i < n → (P i).cells.length = 8 := fun i hi => in_cells (h.ok i hi).1
  intro j hj
  have hj8 : j < 8 := by rw [h8 i hi] at hj; exact hj
  have := h.own.cells (g := g) rfl (i * 8 + j) _ (by rw [flatV_get h8 i hi j hj8]; exact List.getElem?_eq_getElem hj)
  rw [add_plain, Nat.zero_add] at this
  rw [this]
  exact (List.getElem?_eq_getElem hj).symm

theorem PL.cap_le {w0 : World} {v : V} {n : Nat} {P : Nat → V} {g cap : Nat} {W : World} (h : PL w0 v n P g cap W) : n ≤ cap ∧ cap ≤ maxLen := by
  rcases h.own.2 with ⟨h0, _⟩ | ⟨g', cap', cur, e, _, _, h1, h2, _⟩
  · cases h0
  · cases e
    exact ⟨h1, h2⟩

theorem PL.below {w0 : World} {v : V} {n : Nat} {P : Nat → V} {g cap : Nat} {W W' : World} (h : PL w0 v n P g cap W) (hb : Below W.heap.size W W') : PL w0 v n P g cap W' :=
  ⟨ownsRow_below h.own hb, h.ok, h.low.trans (hb.mono h.low.size)⟩

theorem PL.cat {w0 : World} {v : V} {n : Nat} {P : Nat → V} {g cap : Nat} {W W' : World} (h : PL w0 v n P g cap W) {m : Nat} {Q : Nat → V} {v' : Value} (hn : 0 < n)
    (hown : W'.ownsRow w0.heap.size 27 8 v' (n + m) (flatV n P ++ flatV m Q)) (hg : W.grownBy W' (Value.ownBlock (.slice (some ⟨g, 0, none⟩) n cap))) (hQ : ∀ i, i < m → (Q i).In w0 ∧ Pt v (Q i)) :
    ∃ g' cap', v' = .slice (some ⟨g', 0, none⟩) (n + m) cap' ∧ PL w0 v (n + m) (catV n P Q) g' cap' W' := by
  have hlow : Below w0.heap.size w0 W' := h.low.grown hg h.low.size (fun k e => by have := (h.own.lt _ e).1; omega)
  rcases hown.2 with ⟨_, h0⟩ | ⟨g', cap', cur, e, _⟩
  · omega
  · subst e
    refine ⟨g', cap', rfl, ?_, fun i hi => ?_, hlow⟩
    · rw [flatV_cat]; exact hown
    · unfold catV
      by_cases h1 : i < n
      · rw [if_pos h1]; exact h.ok i h1
      · rw [if_neg h1]; exact hQ _ (by omega)

theorem size_alloc'' (w : World) (O : Obj) : (w.alloc O).heap.size = w.heap.size + 1 := by simp

theorem PL.start {w : World} {v : V} (h : v.In w) (B : Obj) : PL w v 1 (fun _ => v) (w.heap.size + 1) 1 ((w.alloc B).alloc (.cells v.cells.toArray 27)) := by
  refine ⟨⟨?_, .inr ⟨w.heap.size + 1, 1, v.cells.toArray, rfl, by omega, ?_, Nat.le_refl _, by decide, ?_, ?_⟩⟩, fun i _ => ⟨h, Pt.refl v⟩, (below_alloc _ _).alloc (by simp) _⟩
  · simp [flatV, in_cells h]
  · have := heap_alloc_new (w.alloc B) (.cells v.cells.toArray 27)
    simpa using this
  · simp [in_cells h]
  · simp [flatV, List.take_of_length_le (Nat.le_of_eq (in_cells h))]

/-- Nothing is appended. -/
theorem wpList_append_zero {P : Program} {w : World} {ops : Array Oper} {rest : List Oper} {o : Oper} {a : Act} {Q : Exit → Act → World → Prop} (hgd : o.guard = none) (s x : Operand) (t : TypeId)
    (ho : o.op = .call { callee := .builtin .append, args := #[s, x], argTypes := #[t, t] })
    (e : TypeId) (i : TypeInfo) (ht : P.underlying t = some (.slice e)) (hi : P.info? e = some i)
    (g n cap : Nat) (hnc : n ≤ cap) (hs : a.eval s = .slice (some ⟨g, 0, none⟩) n cap) (la : Option Addr) (lc : Nat) (hx : a.eval x = .slice la 0 lc)
    (h : wpList P ops Q rest (a.put o.dst (.slice (some ⟨g, 0, none⟩) n cap)) w) : wpList P ops Q (o :: rest) a w := by
  refine wpList_plain hgd fun K hK => ?_
  have hrun : (Builtin.append_ #[t, t] o.type #[.slice (some ⟨g, 0, none⟩) n cap, .slice la 0 lc]).run P w = .ok (.slice (some ⟨g, 0, none⟩) n cap) w := by
    cases la <;> simp [Builtin.append_, run_underlying ht, sizeOf, typeInfo, hi, Builtin.lenOf, Builtin.firstCells, loadCells, loadCellsFrom, hnc, storeCells]
  unfold Oper.wp
  simp [execOp, ho, resolve, invoke, builtin, hs, hx, hrun, Result.andThen]
  exact hK _ _ h

theorem one_at {w0 : World} {v q : V} (W : World) {T : TypeId} {L : Nat → V} (hL0 : L 0 = q) (hin : q.In w0) (hpt : Pt v q) :
    ∀ i, i < 1 → (∃ b o, some (⟨W.heap.size, 0, none⟩ : Addr) = some ⟨b, o, none⟩ ∧ At (W.alloc (.cells q.cells.toArray T)) b (o + i * 8) (L i).cells) ∧ (L i).In w0 ∧ Pt v (L i) := by
  intro i hi
  obtain rfl : i = 0 := by omega
  rw [hL0]
  exact ⟨⟨_, _, rfl, at_new (w := W) (T := T) rfl (Below.refl _ _)⟩, hin, hpt⟩

/-- Values are appended. -/
theorem append_V {w0 : World} {v : V} {n : Nat} {P : Nat → V} {g cap : Nat} {W : World} {ops : Array Oper} {rest : List Oper} {o : Oper} {a : Act} {Q : Exit → Act → World → Prop} (h : PL w0 v n P g cap W) (hn0 : 0 < n) (hgd : o.guard = none) (s x : Operand)
    (ho : o.op = .call { callee := .builtin .append, args := #[s, x], argTypes := #[23, 23] }) (hs : a.eval s = .slice (some ⟨g, 0, none⟩) n cap) (la : Option Addr) (ll lc : Nat) (hx : a.eval x = .slice la ll lc)
    (L : Nat → V) (hL : ∀ i, i < ll → (∃ b o, la = some ⟨b, o, none⟩ ∧ At W b (o + i * 8) (L i).cells) ∧ (L i).In w0 ∧ Pt v (L i)) (hb : n + ll ≤ 2000000)
    (hr : ∀ g' cap' W', PL w0 v (n + ll) (catV n P L) g' cap' W' → wpList Tryd.prog ops Q rest (a.put o.dst (.slice (some ⟨g', 0, none⟩) (n + ll) cap')) W') : wpList Tryd.prog ops Q (o :: rest) a W := by
  obtain ⟨i0, hi, hz0, hz1, hz2⟩ := info_parts info_val
  by_cases hz : ll = 0
  · subst hz
    refine wpList_append_zero hgd s x _ ho 27 i0 Tryd.underlying23 hi g n cap h.cap_le.1 hs la lc hx ?_
    refine hr g cap W ⟨?_, fun i hi => ?_, h.low⟩
    · rw [flatV_cat]; simpa [flatV] using h.own
    · unfold catV; rw [if_pos (by omega)]; exact h.ok i (by omega)
  · obtain ⟨⟨b, o', rfl, -⟩, -⟩ := hL 0 (by omega)
    have h8 : ∀ i, i < ll → (L i).cells.length = 8 := fun i hi => in_cells (hL i hi).2.1
    have hat : ∀ i, i < ll → At W b (o' + i * 8) (L i).cells := fun i hi => by
      obtain ⟨⟨b2, o2, he, ha⟩, -⟩ := hL i hi
      simp only [Option.some.injEq, Addr.mk.injEq, and_true] at he
      obtain ⟨rfl, rfl⟩ := he
      exact ha
    refine wpList_append_own W hgd s x _ ho w0.heap.size 27 i0 _ 8 112 Tryd.underlying23 hi hz0 hz1 hz2 rfl (by decide) _ n _ hs h.own ⟨b, o', none⟩ ll lc (flatV ll L) hx (flatV_length h8) (flat_cells h8 hat) flat_one (by unfold maxLen; omega) (by omega) h.low.size ?_
    intro v' w' hown hgrow _
    obtain ⟨g', cap', rfl, hPL⟩ := h.cat hn0 hown hgrow (fun i hi => (hL i hi).2)
    exact hr g' cap' w' hPL

set_option maxRecDepth 100000 in
set_option maxHeartbeats 4000000 in
theorem parts_any (v : V) (w : World) (h : v.In w) (hsz : v.size ≤ 1048576) :
    Calls Tryd.prog 23 #[v.agg, .int .i64 300] w fun e w' => ∃ (n : Nat) (P : Nat → V) (g cap : Nat), e = .returned (.slice (some ⟨g, 0, none⟩) n cap) ∧ n ≤ 1049000 ∧ PL w v n P g cap w' := by
  obtain ⟨i0, hi, hz0, hz1, hz2⟩ := info_parts info_val
  have HI := Lib.hid (And.intro hi (And.intro hz0 (And.intro hz1 hz2)))
  clear hi hz0 hz1 hz2
  have HST := Lib.hid (fun B => PL.start h B)
  have HSZ := Lib.hid (fun p (hp : Pt v p) => Nat.le_trans hp.2 hsz)
  have HPT := Lib.hid (fun p q (hp : Pt v p) (hq : Pt p q) => Pt.trans hp hq)
  have h8 := in_cells h
  cases v with
  | leaf => exact h.elim
  | mk k1 n1 s1 la1 ll1 lc1 L1 fa1 fl1 fc1 fn1 F1 e1 key1 hk1 =>
  clear h hsz h8
  obtain ⟨v0, hv0⟩ : ∃ v0, V.mk k1 n1 s1 la1 ll1 lc1 L1 fa1 fl1 fc1 fn1 F1 e1 key1 hk1 = v0 := ⟨_, rfl⟩
  rw [hv0] at HST HSZ HPT ⊢
  have HBX := Lib.hid (at80 (k := k1) (n := n1) (s := s1) (la := la1) (ll := ll1) (lc := lc1) (L := L1) (fa := fa1) (fl := fl1) (fc := fc1) (fn := fn1) (F := F1) (e := e1) (key := key1) (hk := hk1) (at_new (w := w) (T := 27) rfl (Below.refl _ _)))
  have HS0 := Lib.hid (HST.out (.cells #[.int .u8 k1, .int .i64 n1, .string s1, .slice la1 ll1 lc1, .slice fa1 fl1 fc1, .int .u8 e1, .string key1, .bool hk1] 27))
  have HZ0 := Lib.hid (size_alloc'' w (.cells #[.int .u8 k1, .int .i64 n1, .string s1, .slice la1 ll1 lc1, .slice fa1 fl1 fc1, .int .u8 e1, .string key1, .bool hk1] 27))
  clear HST
  rw [← hv0] at HS0 ⊢
  simp only [V.agg, V.cells] at HBX HS0 ⊢
  rw [hv0] at HS0 ⊢
  clear hv0
  go_enter Tryd.func23, Tryd.ntmps23
  go_upto_region 1 with fail
  revert HBX HS0 HZ0
  generalize w.alloc (.cells #[.int .u8 k1, .int .i64 n1, .string s1, .slice la1 ll1 lc1, .slice fa1 fl1 fc1, .int .u8 e1, .string key1, .bool hk1] 27) = W0
  intro HBX HS0 HZ0
  obtain ⟨c0, c1, c2, c3, c4, c5, c6, c7⟩ := HBX.out
  go_wp2_with fail
  have HS1 := HS0.out
  rw [← HZ0.out] at HS1
  have HS := Lib.hid HS1
  clear HS1 HS0 HZ0 c0 c1 c2 c3 c4 c5 c6 c7 HBX
  go_loopw [5, 6] (fun l i wr => ∃ (n m g cap : Nat) (P : Nat → V), i = .int .i64 m ∧ m ≤ n ∧ 0 < n ∧ n ≤ 1049000 ∧ l = .slice (some ⟨g, 0, none⟩) n cap ∧ PL w v0 n P g cap wr) (fun _ i _ => 1049001 - (intOf i).toNat)
  case atStart => exact ⟨1, 0, _, 1, _, rfl, Nat.zero_le _, Nat.one_pos, by omega, rfl, HS.out⟩
  case round =>
    obtain ⟨n, m, g, cap, P, rfl, hmn, hn0, hn, rfl, hPL⟩ := hrel
    have hcap := hPL.cap_le
    unfold maxLen at hcap
    by_cases hlt : m < n ∧ n < 300
    · obtain ⟨hlt, h300⟩ := hlt
      have hat := hPL.at hlt
      have HPm := Lib.hid (hPL.ok m hlt)
      have HP := Lib.hid hPL
      clear hPL
      obtain ⟨p, hp⟩ : ∃ p, P m = p := ⟨_, rfl⟩
      rw [hp] at hat HPm
      have HPp := Lib.hid hp
      clear hp
      have hx := HPm.out.1
      cases p with
      | leaf => exact hx.elim
      | mk k2 n2 s2 la2 ll2 lc2 L2 fa2 fl2 fc2 fn2 F2 e2 key2 hk2 =>
      have hsz2 := HSZ.out _ HPm.out.2
      have hlen := lens_le hx
      have hll : ll2 ≤ 1048576 := by omega
      have hfl : ll2 + fl2 ≤ 1048576 := by omega
      clear hsz2 hlen
      obtain ⟨c0, c1, c2, c3, c4, c5, c6, c7⟩ := at80' hat
      clear hat hx
      have h300' : (n : Int) < 300 := by omega
      have hlt0 : (0 : Int) ≤ (m : Int) := by omega
      have hlt' : (m : Int) < (n : Int) := by omega
      have HL : Hid (∀ i, i < ll2 → (∃ b o, la2 = some ⟨b, o, none⟩ ∧ At wr b (o + i * 8) (L2 i).cells) ∧ (L2 i).In w ∧ Pt v0 (L2 i)) := fun i hi => by
        obtain ⟨⟨b, o, e, ha⟩, hin⟩ := HPm.out.1.2.2.2.2.2.2.2.1 i hi
        exact ⟨⟨b, o, e, ha.below HP.out.low⟩, hin, HPT.out _ _ HPm.out.2 (pt_list hi)⟩
      have HF : Hid (∀ i, i < fl2 → (∃ b o, fa2 = some ⟨b, o, none⟩ ∧ At w b (o + i * 9) (.string (fn2 i) :: (F2 i).cells)) ∧ (F2 i).In w ∧ Pt v0 (F2 i)) := fun i hi => by
        obtain ⟨e, -, hin⟩ := HPm.out.1.2.2.2.2.2.2.2.2 i hi
        exact ⟨e, hin, HPT.out _ _ HPm.out.2 (pt_field hi)⟩
      go_wp2_with (at_builtin; refine append_V HP.out hn0 rfl _ _ rfl rfl la2 ll2 lc2 rfl L2 HL.out (by omega) ?_)
      intro g1 cap1 W1 hPL1
      have hp1 : catV n P L2 m = .mk k2 n2 s2 la2 ll2 lc2 L2 fa2 fl2 fc2 fn2 F2 e2 key2 hk2 := by rw [catV, if_pos hlt, HPp.out]
      have HP1 := Lib.hid hPL1
      have HPp1 := Lib.hid hp1
      clear hPL1 hp1 HP HPp HL c0 c1 c2 c3 c4 c5 c6 c7
      obtain ⟨n1', hn1'⟩ : ∃ n1', n + ll2 = n1' := ⟨_, rfl⟩
      rw [hn1'] at HP1 ⊢
      have hlt1 : m < n1' := by omega
      have hn1 : n1' + fl2 ≤ 1049000 := by omega
      clear hn1' hlt h300 h300' hlt' hll hfl hmn hn
      go_wp2_with fail
      go_loopw [5, 7] (fun l q W => ∃ (k g2 cap2 : Nat) (P2 : Nat → V), q = .int .i64 k ∧ k ≤ fl2 ∧ l = .slice (some ⟨g2, 0, none⟩) (n1' + k : Nat) cap2 ∧ PL w v0 (n1' + k) P2 g2 cap2 W ∧ P2 m = .mk k2 n2 s2 la2 ll2 lc2 L2 fa2 fl2 fc2 fn2 F2 e2 key2 hk2) (fun _ q _ => fl2 - (intOf q).toNat)
      case atStart => exact ⟨0, _, _, _, rfl, Nat.zero_le _, rfl, HP1.out, HPp1.out⟩
      case round =>
        rename_i W2 _
        obtain ⟨k, g2, cap2, P2, rfl, hk0, rfl, hPL2, hp2⟩ := hrel
        have hat2 := hPL2.at (i := m) (by omega)
        rw [hp2] at hat2
        obtain ⟨c0, c1, c2, c3, c4, c5, c6, c7⟩ := at80' hat2
        have hcap2 := hPL2.cap_le
        unfold maxLen at hcap2
        have HP2 := Lib.hid hPL2
        have HPp2 := Lib.hid hp2
        clear hPL2 hp2 hat2
        obtain ⟨n2', hn2'⟩ : ∃ n2', n1' + k = n2' := ⟨_, rfl⟩
        have HN2 := Lib.hid hn2'
        rw [hn2'] at HP2 hcap2 ⊢
        have hlt2 : (m : Int) < (n2' : Int) := by omega
        have hn2 : n2' + (fl2 - k) ≤ 1049000 := by omega
        clear hn2'
        by_cases hlt3 : k < fl2
        · obtain ⟨⟨b, o, rfl, hatf⟩, hinf, hptf⟩ := HF.out k hlt3
          have hatf := hatf.below HP2.out.low
          have HQ := Lib.hid (And.intro hinf hptf)
          clear hinf hptf
          obtain ⟨q, hq⟩ : ∃ q, F2 k = q := ⟨_, rfl⟩
          rw [hq] at hatf HQ
          have HQq := Lib.hid hq
          clear hq
          cases q with
          | leaf => exact HQ.out.1.elim
          | mk k3 n3 s3 la3 ll3 lc3 L3 fa3 fl3 fc3 fn3 F3 e3 key3 hk3 =>
          obtain ⟨d0, d1, d2, d3, d4, d5, d6, d7, d8⟩ := at9 hatf
          clear hatf
          have hlt4 : (k : Int) < (fl2 : Int) := by omega
          have hk4 : (0 : Int) ≤ (k : Int) := by omega
          have HA := Lib.hid (fun (W : World) (L : Nat → V) (hL0 : L 0 = V.mk k3 n3 s3 la3 ll3 lc3 L3 fa3 fl3 fc3 fn3 F3 e3 key3 hk3) => one_at W (T := 27) hL0 HQ.out.1 HQ.out.2)
          go_wp2_with (at_builtin; refine append_V (HP2.out.below (below_alloc _ _)) (by omega) rfl _ _ rfl rfl _ 1 1 rfl (fun _ => V.mk k3 n3 s3 la3 ll3 lc3 L3 fa3 fl3 fc3 fn3 F3 e3 key3 hk3) (HA.out _ _ rfl) (by omega) ?_)
          intro g3 cap3 W3 hPL3
          have hp3 := (show catV n2' P2 (fun _ => V.mk k3 n3 s3 la3 ll3 lc3 L3 fa3 fl3 fc3 fn3 F3 e3 key3 hk3) m = P2 m by rw [catV, if_pos (by omega)]).trans HPp2.out
          have HP3 := Lib.hid hPL3
          have HPp3 := Lib.hid hp3
          clear hPL3 hp3 HP2 HPp2 HA c0 c1 c2 c3 c4 c5 c6 c7 d0 d1 d2 d3 d4 d5 d6 d7 d8
          go_wp2_with fail
          go_roundw
          case rel =>
            have e := HN2.out
            subst e
            exact ⟨k + 1, g3, cap3, _, by go_num, by omega, rfl, HP3.out, HPp3.out⟩
          case measure => simp [intOf]; omega
        · obtain rfl : fl2 = k := by omega
          have hn0' : 0 < n2' := by omega
          go_wp2_with fail
          go_roundw
          case rel => exact ⟨n2', m + 1, g2, cap2, P2, by go_num, by omega, hn0', by omega, rfl, HP2.out⟩
          case measure => simp [intOf]; omega
    · have HP := Lib.hid hPL
      clear hPL
      by_cases hlt : m < n
      · have h300 : ¬ (n : Int) < 300 := by omega
        have hlt' : (m : Int) < (n : Int) := by omega
        clear hlt
        go_wp2_with fail
        go_ret
        exact ⟨n, P, g, cap, rfl, hn, HP.out⟩
      · obtain rfl : n = m := by omega
        go_wp2_with fail
        go_ret
        exact ⟨n, P, g, cap, rfl, hn, HP.out⟩
end Go.Proofs.YtglhbggihdfieaaDoor
