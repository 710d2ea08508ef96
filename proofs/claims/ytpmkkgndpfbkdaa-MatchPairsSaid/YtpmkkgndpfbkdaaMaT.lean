/-
  Walks: match.Match answers 'matM': the places of the old children that go on; it is memory of its own.
  Conditions: both lists lie in memory.
-/
import Derived.Test.YtpmkkgndpfbkdaaMaS
import Derived.Test.YtpmkkgndpfbkdaaMaP
import Derived.Maps.OwnSet
import Derived.StringKeys
namespace Go.Proofs.Ytpmkkgndpfbkdaa
set_option linter.unusedVariables false
set_option linter.unusedSimpArgs false
open Go.RowKit Go.Deep Go.WideShapes
open Go.Maps hiding size

/-- The map holds just these places. -/
structure HoldsM (D : DataW Unit) (f : List UInt8 → Option Nat) : Prop where
  map : IsMap D
  no : ∀ x, f x = none → Maps.has D (.string x) = false
  yes : ∀ x p, f x = some p → Maps.has D (.string x) = true ∧ ∀ z, D.atKey (.string x) z = .lit (.int .i64 p)
theorem lit_ne {x y : List UInt8} (h : y ≠ x) : (Lit.string y) ≠ Lit.string x := fun e => h (by cases e; rfl)
theorem HoldsM.nil : HoldsM (.map []) (fun _ => none) := ⟨⟨_, rfl⟩, fun _ _ => rfl, fun _ _ h => by cases h⟩
theorem HoldsM.put {D : DataW Unit} {f : List UInt8 → Option Nat} (h : HoldsM D f) (x : List UInt8) (p : Nat) : HoldsM (D.put (.string x) (.lit (.int .i64 p))) (fun y => if y = x then some p else f y) := by
  refine ⟨?_, fun y hy => ?_, fun y q hy => ?_⟩
  · obtain ⟨es, rfl⟩ := h.map
    exact ⟨_, rfl⟩
  · by_cases e : y = x
    · simp only [e, if_true] at hy; cases hy
    · simp only [e, if_false] at hy
      rw [has_put_other (lit_ne e)]
      exact h.no y hy
  · by_cases e : y = x
    · subst e
      simp only [if_true] at hy
      cases hy
      exact ⟨has_put_same (k := .string y) h.map trivial _, fun z => atKey_put_same (k := .string y) h.map trivial _ z⟩
    · simp only [e, if_false] at hy
      rw [has_put_other (lit_ne e)]
      exact ⟨(h.yes y q hy).1, fun z => by rw [atKey_put_other (lit_ne e)]; exact (h.yes y q hy).2 z⟩
theorem HoldsM.del {D : DataW Unit} {f : List UInt8 → Option Nat} (h : HoldsM D f) (x : List UInt8) : HoldsM (D.del (.string x)) (fun y => if y = x then none else f y) := by
  refine ⟨?_, fun y hy => ?_, fun y q hy => ?_⟩
  · obtain ⟨es, rfl⟩ := h.map
    exact ⟨_, rfl⟩
  · by_cases e : y = x
    · subst e
      exact has_del_same
    · simp only [e, if_false] at hy
      rw [has_del_other (lit_ne e)]
      exact h.no y hy
  · by_cases e : y = x
    · simp only [e, if_true] at hy; cases hy
    · simp only [e, if_false] at hy
      rw [has_del_other (lit_ne e)]
      exact ⟨(h.yes y q hy).1, fun z => by rw [atKey_del_other (lit_ne e)]; exact (h.yes y q hy).2 z⟩
/-- Block m is the map of these places. -/
def MapIs (W : World) (m n : Nat) (f : List UInt8 → Option Nat) : Prop := ∃ D : DataW Unit, W.ownsMap Try.prog 9 (plainElem Try.prog 3) m n D ∧ HoldsM D f
theorem MapIs.kept {W W' : World} {m n : Nat} {f : List UInt8 → Option Nat} {row : Option Nat} (h : MapIs W m n f) (hg : W.grownBy W' row) (hne : some m ≠ row) : MapIs W' m n f :=
  let ⟨D, h1, h2⟩ := h
  ⟨D, h1.kept hg hne, h2⟩
theorem grownBy_of_below {w w' : World} (hb : Below w.heap.size w w') (r : Option Nat) : w.grownBy w' r := ⟨hb.os, hb.tape, hb.output, hb.size, fun k hk _ => hb.block k hk⟩
theorem MapIs.below {W W' : World} {m n : Nat} {f : List UInt8 → Option Nat} (h : MapIs W m n f) (hb : Below W.heap.size W W') : MapIs W' m n f := h.kept (grownBy_of_below hb none) (by simp)
theorem MapIs.lt {W : World} {m n : Nat} {f : List UInt8 → Option Nat} (h : MapIs W m n f) : m < W.heap.size := let ⟨_, h1, _⟩ := h; h1.lt
theorem MapIs.mono {W : World} {m n n' : Nat} {f : List UInt8 → Option Nat} (h : MapIs W m n f) (hn : n ≤ n') : MapIs W m n' f := let ⟨D, h1, h2⟩ := h; ⟨D, h1.mono hn, h2⟩
theorem key_lit' (s : ByteArray) (h : s.size ≤ maxLen) : keyOf Try.prog 9 (.string s) = some (.string s.data.toList) := WideMaps.keyOf_string_mk Try.underlying9 h
theorem law_str : Keyed Try.prog 9 := string_keyed Try.underlying9
theorem zero_int (w : World) : (zeroValue 3).run Try.prog w = .ok (.int .i64 0) w := by kernel_rfl
theorem grownBy_trans {a b c : World} {row : Option Nat} (h : a.grownBy b row) (k : b.grownBy c row) : a.grownBy c row :=
  ⟨k.os.trans h.os, k.tape.trans h.tape, k.output.trans h.output, Nat.le_trans h.size k.size, fun i hi hr => (k.block i (Nat.lt_of_lt_of_le hi h.size) hr).trans (h.block i hi hr)⟩

/-- What take leaves. -/
def MtPost (W : World) (m n : Nat) (r : Int × (List UInt8 → Option Nat)) (x : Ending) (w' : World) : Prop := x = .returned (.int .i64 r.1) ∧ MapIs w' m n r.2 ∧ W.grownBy w' (some m)
theorem MtPost.no {W w' : World} {m n : Nat} {f : List UInt8 → Option Nat} {r : Int × (List UInt8 → Option Nat)} (hM : MapIs W m n f) (hr : r = (-1, f)) (hb : Below W.heap.size W w') : MtPost W m n r (.returned (.int .i64 (-1))) w' := by
  subst hr
  exact ⟨rfl, hM.below hb, grownBy_of_below hb _⟩
theorem MtPost.yes {W w1 w' : World} {m n p : Nat} {g : List UInt8 → Option Nat} {r : Int × (List UInt8 → Option Nat)} (hr : r = ((p : Int), g)) (hb : Below W.heap.size W w1) (hM : MapIs w' m n g) (ht : w1.mapTurned w' m) : MtPost W m n r (.returned (.int .i64 p)) w' := by
  subst hr
  exact ⟨rfl, hM, grownBy_trans (grownBy_of_below hb _) ht.grown⟩

set_option maxRecDepth 100000 in
set_option maxHeartbeats 2000000 in
theorem mtake_any (K : Nat → C) (la : Option Addr) (ll lc : Nat) (c2 : C) (b o m n : Nat) (f : List UInt8 → Option Nat) (w : World) (hK : CLst w la ll lc K) (hat : At w b o c2.cells) (hin : c2.In w)
    (hM : MapIs w m n f) (hf : ∀ x p, f x = some p → p < ll) :
    Calls Try.prog 15 #[.map (some m), .slice la ll lc, .pointer (some ⟨b, o, none⟩)] w (MtPost w m n (takeM K f c2)) := by
  have hcs := takeM_cases K f c2
  have hks : c2.key.size ≤ maxLen := hin.1
  have hlit := key_lit' c2.key hks
  have hv2 : c2.val.In w := hin.2.2.2
  have hll := hK.cap
  unfold maxLen at hll
  obtain ⟨D, hown, hD⟩ := hM
  have hM' : MapIs w m n f := ⟨D, hown, hD⟩
  rcases hcs with ⟨hr, hno | ⟨p, hp, hal⟩⟩ | ⟨p, hp, hal, hr⟩
  · have hq := hD.no _ hno
    have Q := Lib.hid (fun w' (hb : Below w.heap.size w w') => MtPost.no hM' hr hb)
    clear hr hno hM' hD hf hK
    unfold C.kl at hq
    generalize takeM K f c2 = r at Q ⊢
    obtain ⟨ck2, ce2, cn2, v2⟩ := c2
    cases v2 with
    | leaf => exact (hv2).elim
    | mk k2 n2 s2 la2 ll2 lc2 L2 fa2 fl2 fc2 fn2 F2 e2 key2 hk2 =>
    obtain ⟨d0, d1, d2, d3, d4, d5, d6, d7, d8, d9, d10⟩ := mt11 hat
    clear hat hv2 hin
    simp only at hq hlit
    go_enter Try.func15, Try.ntmps15
    go_upto_region 2 with (first | (at_lookup; refine wpList_lookup_own_ok_int _ rfl _ _ 43 rfl 9 3 .i64 law_str Try.underlying43 Try.underlying3 (zero_int _) m n D rfl hown (.string ck2) _ rfl hlit ?_; intro q hat hwq) | fail)
    go_quiet (fail)
    have HL := Lib.hid (below_drawM w nq)
    go_wp2_with fail
    go_ret
    exact Q.out _ HL.out
  · have hq := (hD.yes _ p hp).1
    have HAT := Lib.hid ((hD.yes _ p hp).2)
    have hpl := hf _ p hp
    have hpl0 : (0 : Int) ≤ (p : Int) := by omega
    have hpl1 : (p : Int) < (ll : Int) := by omega
    have Q := Lib.hid (fun w' (hb : Below w.heap.size w w') => MtPost.no hM' hr hb)
    obtain ⟨⟨b1, o1, rfl, hat1⟩, hin1⟩ := hK.els p hpl
    have HE : Hid (∀ W, Below w.heap.size w W → Calls Try.prog 8 #[(K p).agg, c2.agg] W fun x w' => x = .returned (.bool false) ∧ Below W.heap.size W w') := fun W hb => hal ▸ alike_all (K p) c2 W (hin1.2.2.2.below hb) (hv2.below hb)
    clear hr hp hM' hD hf hK hal
    unfold C.kl at hq HAT
    generalize takeM K f c2 = r at Q ⊢
    generalize K p = c1 at hat1 hin1 HE
    have hv1 : c1.val.In w := hin1.2.2.2
    obtain ⟨ck1, ce1, cn1, v1⟩ := c1
    cases v1 with
    | leaf => exact (hv1).elim
    | mk k1 n1 s1 la1 ll1 lc1 L1 fa1 fl1 fc1 fn1 F1 e1 key1 hk1 =>
    obtain ⟨ck2, ce2, cn2, v2⟩ := c2
    cases v2 with
    | leaf => exact (hv2).elim
    | mk k2 n2 s2 la2 ll2 lc2 L2 fa2 fl2 fc2 fn2 F2 e2 key2 hk2 =>
    have KS : Hid (∀ W, Below w.heap.size w W → (fun W => Below w.heap.size w W ∧ W.cell? ⟨b1, o1 + p * 11, none⟩ = some (.string ck1) ∧ W.cell? ⟨b1, o1 + p * 11 + 1, none⟩ = some (.int .u8 ce1) ∧ W.cell? ⟨b1, o1 + p * 11 + 2, none⟩ = some (.string cn1) ∧ W.cell? ⟨b1, o1 + p * 11 + 3, none⟩ = some (.int .u8 k1) ∧ W.cell? ⟨b1, o1 + p * 11 + 4, none⟩ = some (.int .i64 n1) ∧ W.cell? ⟨b1, o1 + p * 11 + 5, none⟩ = some (.string s1) ∧ W.cell? ⟨b1, o1 + p * 11 + 6, none⟩ = some (.slice la1 ll1 lc1) ∧ W.cell? ⟨b1, o1 + p * 11 + 7, none⟩ = some (.slice fa1 fl1 fc1) ∧ W.cell? ⟨b1, o1 + p * 11 + 8, none⟩ = some (.int .u8 e1) ∧ W.cell? ⟨b1, o1 + p * 11 + 9, none⟩ = some (.string key1) ∧ W.cell? ⟨b1, o1 + p * 11 + 10, none⟩ = some (.bool hk1) ∧ W.cell? ⟨b, o, none⟩ = some (.string ck2) ∧ W.cell? ⟨b, o + 1, none⟩ = some (.int .u8 ce2) ∧ W.cell? ⟨b, o + 2, none⟩ = some (.string cn2) ∧ W.cell? ⟨b, o + 3, none⟩ = some (.int .u8 k2) ∧ W.cell? ⟨b, o + 4, none⟩ = some (.int .i64 n2) ∧ W.cell? ⟨b, o + 5, none⟩ = some (.string s2) ∧ W.cell? ⟨b, o + 6, none⟩ = some (.slice la2 ll2 lc2) ∧ W.cell? ⟨b, o + 7, none⟩ = some (.slice fa2 fl2 fc2) ∧ W.cell? ⟨b, o + 8, none⟩ = some (.int .u8 e2) ∧ W.cell? ⟨b, o + 9, none⟩ = some (.string key2) ∧ W.cell? ⟨b, o + 10, none⟩ = some (.bool hk2)) W) := fun W hb => by
      have ha := hat1.below hb
      have hb2 := hat.below hb
      exact ⟨hb, ha 0 (by simp [C.cells, V.cells]), ha 1 (by simp [C.cells, V.cells]), ha 2 (by simp [C.cells, V.cells]), ha 3 (by simp [C.cells, V.cells]), ha 4 (by simp [C.cells, V.cells]), ha 5 (by simp [C.cells, V.cells]), ha 6 (by simp [C.cells, V.cells]), ha 7 (by simp [C.cells, V.cells]), ha 8 (by simp [C.cells, V.cells]), ha 9 (by simp [C.cells, V.cells]), ha 10 (by simp [C.cells, V.cells]), hb2 0 (by simp [C.cells, V.cells]), hb2 1 (by simp [C.cells, V.cells]), hb2 2 (by simp [C.cells, V.cells]), hb2 3 (by simp [C.cells, V.cells]), hb2 4 (by simp [C.cells, V.cells]), hb2 5 (by simp [C.cells, V.cells]), hb2 6 (by simp [C.cells, V.cells]), hb2 7 (by simp [C.cells, V.cells]), hb2 8 (by simp [C.cells, V.cells]), hb2 9 (by simp [C.cells, V.cells]), hb2 10 (by simp [C.cells, V.cells])⟩
    have hS0 := KS.out _ (Below.refl _ _)
    clear hat1 hin1 hat hin hv1 hv2
    simp only [C.agg, C.cells, V.cells] at HE
    simp only at hq hlit HAT
    go_enter Try.func15, Try.ntmps15
    obtain ⟨hB0, g0, g1, g2, g3, g4, g5, g6, g7, g8, g9, g10, d0, d1, d2, d3, d4, d5, d6, d7, d8, d9, d10⟩ := hS0
    go_upto_region 2 with (first | (at_lookup; refine wpList_lookup_own_ok_int _ rfl _ _ 43 rfl 9 3 .i64 law_str Try.underlying43 Try.underlying3 (zero_int _) m n D rfl hown (.string ck2) _ rfl hlit ?_; intro q hat hwq) | fail)
    obtain rfl : q = (p : Int) := by
      have e := (HAT.out (.lit (.int .i64 0))).symm.trans hat
      cases e
      rfl
    clear g0 g1 g2 g3 g4 g5 g6 g7 g8 g9 g10 d0 d1 d2 d3 d4 d5 d6 d7 d8 d9 d10 hat hwq hB0
    have hS0 := KS.out _ (Below.refl _ _)
    go_region_held3 (fun W => Below w.heap.size w W ∧ W.cell? ⟨b1, o1 + p * 11, none⟩ = some (.string ck1) ∧ W.cell? ⟨b1, o1 + p * 11 + 1, none⟩ = some (.int .u8 ce1) ∧ W.cell? ⟨b1, o1 + p * 11 + 2, none⟩ = some (.string cn1) ∧ W.cell? ⟨b1, o1 + p * 11 + 3, none⟩ = some (.int .u8 k1) ∧ W.cell? ⟨b1, o1 + p * 11 + 4, none⟩ = some (.int .i64 n1) ∧ W.cell? ⟨b1, o1 + p * 11 + 5, none⟩ = some (.string s1) ∧ W.cell? ⟨b1, o1 + p * 11 + 6, none⟩ = some (.slice la1 ll1 lc1) ∧ W.cell? ⟨b1, o1 + p * 11 + 7, none⟩ = some (.slice fa1 fl1 fc1) ∧ W.cell? ⟨b1, o1 + p * 11 + 8, none⟩ = some (.int .u8 e1) ∧ W.cell? ⟨b1, o1 + p * 11 + 9, none⟩ = some (.string key1) ∧ W.cell? ⟨b1, o1 + p * 11 + 10, none⟩ = some (.bool hk1) ∧ W.cell? ⟨b, o, none⟩ = some (.string ck2) ∧ W.cell? ⟨b, o + 1, none⟩ = some (.int .u8 ce2) ∧ W.cell? ⟨b, o + 2, none⟩ = some (.string cn2) ∧ W.cell? ⟨b, o + 3, none⟩ = some (.int .u8 k2) ∧ W.cell? ⟨b, o + 4, none⟩ = some (.int .i64 n2) ∧ W.cell? ⟨b, o + 5, none⟩ = some (.string s2) ∧ W.cell? ⟨b, o + 6, none⟩ = some (.slice la2 ll2 lc2) ∧ W.cell? ⟨b, o + 7, none⟩ = some (.slice fa2 fl2 fc2) ∧ W.cell? ⟨b, o + 8, none⟩ = some (.int .u8 e2) ∧ W.cell? ⟨b, o + 9, none⟩ = some (.string key2) ∧ W.cell? ⟨b, o + 10, none⟩ = some (.bool hk2))
          (first | exact KS.out _ ((Below.refl _ _).drew) | exact KS.out _ (Below.trans (And.left (by assumption)) (Below.mono (by assumption) (Below.size (And.left (by assumption))))))
          (first | (go_at_call 8; refine (HE.out _ ?_).mono ?_; (go_split_ands; assumption); rintro x w1 ⟨rfl, hb1⟩))
    have HL := Lib.hid (And.left (by assumption : (fun W => Below w.heap.size w W ∧ W.cell? ⟨b1, o1 + p * 11, none⟩ = some (.string ck1) ∧ W.cell? ⟨b1, o1 + p * 11 + 1, none⟩ = some (.int .u8 ce1) ∧ W.cell? ⟨b1, o1 + p * 11 + 2, none⟩ = some (.string cn1) ∧ W.cell? ⟨b1, o1 + p * 11 + 3, none⟩ = some (.int .u8 k1) ∧ W.cell? ⟨b1, o1 + p * 11 + 4, none⟩ = some (.int .i64 n1) ∧ W.cell? ⟨b1, o1 + p * 11 + 5, none⟩ = some (.string s1) ∧ W.cell? ⟨b1, o1 + p * 11 + 6, none⟩ = some (.slice la1 ll1 lc1) ∧ W.cell? ⟨b1, o1 + p * 11 + 7, none⟩ = some (.slice fa1 fl1 fc1) ∧ W.cell? ⟨b1, o1 + p * 11 + 8, none⟩ = some (.int .u8 e1) ∧ W.cell? ⟨b1, o1 + p * 11 + 9, none⟩ = some (.string key1) ∧ W.cell? ⟨b1, o1 + p * 11 + 10, none⟩ = some (.bool hk1) ∧ W.cell? ⟨b, o, none⟩ = some (.string ck2) ∧ W.cell? ⟨b, o + 1, none⟩ = some (.int .u8 ce2) ∧ W.cell? ⟨b, o + 2, none⟩ = some (.string cn2) ∧ W.cell? ⟨b, o + 3, none⟩ = some (.int .u8 k2) ∧ W.cell? ⟨b, o + 4, none⟩ = some (.int .i64 n2) ∧ W.cell? ⟨b, o + 5, none⟩ = some (.string s2) ∧ W.cell? ⟨b, o + 6, none⟩ = some (.slice la2 ll2 lc2) ∧ W.cell? ⟨b, o + 7, none⟩ = some (.slice fa2 fl2 fc2) ∧ W.cell? ⟨b, o + 8, none⟩ = some (.int .u8 e2) ∧ W.cell? ⟨b, o + 9, none⟩ = some (.string key2) ∧ W.cell? ⟨b, o + 10, none⟩ = some (.bool hk2)) _))
    go_wp2_with fail
    go_ret
    exact Q.out _ HL.out
  · have hq := (hD.yes _ p hp).1
    have HAT := Lib.hid ((hD.yes _ p hp).2)
    have hpl := hf _ p hp
    have hpl0 : (0 : Int) ≤ (p : Int) := by omega
    have hpl1 : (p : Int) < (ll : Int) := by omega
    have Q := Lib.hid (fun w1 w' (hb : Below w.heap.size w w1) (hM : MapIs w' m n _) ht => MtPost.yes (w1 := w1) (w' := w') hr hb hM ht)
    have HD := Lib.hid (hD.del c2.kl)
    have HOW := Lib.hid (fun W (hb : Below w.heap.size w W) => hown.kept (grownBy_of_below hb none) (by simp))
    obtain ⟨⟨b1, o1, rfl, hat1⟩, hin1⟩ := hK.els p hpl
    have HE : Hid (∀ W, Below w.heap.size w W → Calls Try.prog 8 #[(K p).agg, c2.agg] W fun x w' => x = .returned (.bool true) ∧ Below W.heap.size W w') := fun W hb => hal ▸ alike_all (K p) c2 W (hin1.2.2.2.below hb) (hv2.below hb)
    have Q2 : Hid (∀ w1 w', Below w.heap.size w w1 → w'.ownsMap Try.prog 9 (plainElem Try.prog 3) m n (D.del (.string c2.key.data.toList)) → w1.mapTurned w' m → MtPost w m n (takeM K f c2) (.returned (.int .i64 p)) w') := fun w1 w' hb ho ht => Q.out w1 w' hb ⟨_, ho, HD.out⟩ ht
    clear hr hp hM' hD hf hK hal Q HD
    unfold C.kl at hq HAT
    generalize takeM K f c2 = r at Q2 ⊢
    generalize K p = c1 at hat1 hin1 HE
    have hv1 : c1.val.In w := hin1.2.2.2
    obtain ⟨ck1, ce1, cn1, v1⟩ := c1
    cases v1 with
    | leaf => exact (hv1).elim
    | mk k1 n1 s1 la1 ll1 lc1 L1 fa1 fl1 fc1 fn1 F1 e1 key1 hk1 =>
    obtain ⟨ck2, ce2, cn2, v2⟩ := c2
    cases v2 with
    | leaf => exact (hv2).elim
    | mk k2 n2 s2 la2 ll2 lc2 L2 fa2 fl2 fc2 fn2 F2 e2 key2 hk2 =>
    have KS : Hid (∀ W, Below w.heap.size w W → (fun W => Below w.heap.size w W ∧ W.cell? ⟨b1, o1 + p * 11, none⟩ = some (.string ck1) ∧ W.cell? ⟨b1, o1 + p * 11 + 1, none⟩ = some (.int .u8 ce1) ∧ W.cell? ⟨b1, o1 + p * 11 + 2, none⟩ = some (.string cn1) ∧ W.cell? ⟨b1, o1 + p * 11 + 3, none⟩ = some (.int .u8 k1) ∧ W.cell? ⟨b1, o1 + p * 11 + 4, none⟩ = some (.int .i64 n1) ∧ W.cell? ⟨b1, o1 + p * 11 + 5, none⟩ = some (.string s1) ∧ W.cell? ⟨b1, o1 + p * 11 + 6, none⟩ = some (.slice la1 ll1 lc1) ∧ W.cell? ⟨b1, o1 + p * 11 + 7, none⟩ = some (.slice fa1 fl1 fc1) ∧ W.cell? ⟨b1, o1 + p * 11 + 8, none⟩ = some (.int .u8 e1) ∧ W.cell? ⟨b1, o1 + p * 11 + 9, none⟩ = some (.string key1) ∧ W.cell? ⟨b1, o1 + p * 11 + 10, none⟩ = some (.bool hk1) ∧ W.cell? ⟨b, o, none⟩ = some (.string ck2) ∧ W.cell? ⟨b, o + 1, none⟩ = some (.int .u8 ce2) ∧ W.cell? ⟨b, o + 2, none⟩ = some (.string cn2) ∧ W.cell? ⟨b, o + 3, none⟩ = some (.int .u8 k2) ∧ W.cell? ⟨b, o + 4, none⟩ = some (.int .i64 n2) ∧ W.cell? ⟨b, o + 5, none⟩ = some (.string s2) ∧ W.cell? ⟨b, o + 6, none⟩ = some (.slice la2 ll2 lc2) ∧ W.cell? ⟨b, o + 7, none⟩ = some (.slice fa2 fl2 fc2) ∧ W.cell? ⟨b, o + 8, none⟩ = some (.int .u8 e2) ∧ W.cell? ⟨b, o + 9, none⟩ = some (.string key2) ∧ W.cell? ⟨b, o + 10, none⟩ = some (.bool hk2)) W) := fun W hb => by
      have ha := hat1.below hb
      have hb2 := hat.below hb
      exact ⟨hb, ha 0 (by simp [C.cells, V.cells]), ha 1 (by simp [C.cells, V.cells]), ha 2 (by simp [C.cells, V.cells]), ha 3 (by simp [C.cells, V.cells]), ha 4 (by simp [C.cells, V.cells]), ha 5 (by simp [C.cells, V.cells]), ha 6 (by simp [C.cells, V.cells]), ha 7 (by simp [C.cells, V.cells]), ha 8 (by simp [C.cells, V.cells]), ha 9 (by simp [C.cells, V.cells]), ha 10 (by simp [C.cells, V.cells]), hb2 0 (by simp [C.cells, V.cells]), hb2 1 (by simp [C.cells, V.cells]), hb2 2 (by simp [C.cells, V.cells]), hb2 3 (by simp [C.cells, V.cells]), hb2 4 (by simp [C.cells, V.cells]), hb2 5 (by simp [C.cells, V.cells]), hb2 6 (by simp [C.cells, V.cells]), hb2 7 (by simp [C.cells, V.cells]), hb2 8 (by simp [C.cells, V.cells]), hb2 9 (by simp [C.cells, V.cells]), hb2 10 (by simp [C.cells, V.cells])⟩
    have hS0 := KS.out _ (Below.refl _ _)
    clear hat1 hin1 hat hin hv1 hv2
    simp only [C.agg, C.cells, V.cells] at HE
    simp only at hq hlit HAT Q2
    go_enter Try.func15, Try.ntmps15
    obtain ⟨hB0, g0, g1, g2, g3, g4, g5, g6, g7, g8, g9, g10, d0, d1, d2, d3, d4, d5, d6, d7, d8, d9, d10⟩ := hS0
    go_upto_region 2 with (first | (at_lookup; refine wpList_lookup_own_ok_int _ rfl _ _ 43 rfl 9 3 .i64 law_str Try.underlying43 Try.underlying3 (zero_int _) m n D rfl hown (.string ck2) _ rfl hlit ?_; intro q hat hwq) | fail)
    obtain rfl : q = (p : Int) := by
      have e := (HAT.out (.lit (.int .i64 0))).symm.trans hat
      cases e
      rfl
    clear g0 g1 g2 g3 g4 g5 g6 g7 g8 g9 g10 d0 d1 d2 d3 d4 d5 d6 d7 d8 d9 d10 hat hwq hB0
    have hS0 := KS.out _ (Below.refl _ _)
    go_region_held3 (fun W => Below w.heap.size w W ∧ W.cell? ⟨b1, o1 + p * 11, none⟩ = some (.string ck1) ∧ W.cell? ⟨b1, o1 + p * 11 + 1, none⟩ = some (.int .u8 ce1) ∧ W.cell? ⟨b1, o1 + p * 11 + 2, none⟩ = some (.string cn1) ∧ W.cell? ⟨b1, o1 + p * 11 + 3, none⟩ = some (.int .u8 k1) ∧ W.cell? ⟨b1, o1 + p * 11 + 4, none⟩ = some (.int .i64 n1) ∧ W.cell? ⟨b1, o1 + p * 11 + 5, none⟩ = some (.string s1) ∧ W.cell? ⟨b1, o1 + p * 11 + 6, none⟩ = some (.slice la1 ll1 lc1) ∧ W.cell? ⟨b1, o1 + p * 11 + 7, none⟩ = some (.slice fa1 fl1 fc1) ∧ W.cell? ⟨b1, o1 + p * 11 + 8, none⟩ = some (.int .u8 e1) ∧ W.cell? ⟨b1, o1 + p * 11 + 9, none⟩ = some (.string key1) ∧ W.cell? ⟨b1, o1 + p * 11 + 10, none⟩ = some (.bool hk1) ∧ W.cell? ⟨b, o, none⟩ = some (.string ck2) ∧ W.cell? ⟨b, o + 1, none⟩ = some (.int .u8 ce2) ∧ W.cell? ⟨b, o + 2, none⟩ = some (.string cn2) ∧ W.cell? ⟨b, o + 3, none⟩ = some (.int .u8 k2) ∧ W.cell? ⟨b, o + 4, none⟩ = some (.int .i64 n2) ∧ W.cell? ⟨b, o + 5, none⟩ = some (.string s2) ∧ W.cell? ⟨b, o + 6, none⟩ = some (.slice la2 ll2 lc2) ∧ W.cell? ⟨b, o + 7, none⟩ = some (.slice fa2 fl2 fc2) ∧ W.cell? ⟨b, o + 8, none⟩ = some (.int .u8 e2) ∧ W.cell? ⟨b, o + 9, none⟩ = some (.string key2) ∧ W.cell? ⟨b, o + 10, none⟩ = some (.bool hk2))
          (first | exact KS.out _ ((Below.refl _ _).drew) | exact KS.out _ (Below.trans (And.left (by assumption)) (Below.mono (by assumption) (Below.size (And.left (by assumption))))))
          (first | (go_at_call 8; refine (HE.out _ ?_).mono ?_; (go_split_ands; assumption); rintro x w1 ⟨rfl, hb1⟩))
    have HL := Lib.hid (And.left (by assumption : (fun W => Below w.heap.size w W ∧ W.cell? ⟨b1, o1 + p * 11, none⟩ = some (.string ck1) ∧ W.cell? ⟨b1, o1 + p * 11 + 1, none⟩ = some (.int .u8 ce1) ∧ W.cell? ⟨b1, o1 + p * 11 + 2, none⟩ = some (.string cn1) ∧ W.cell? ⟨b1, o1 + p * 11 + 3, none⟩ = some (.int .u8 k1) ∧ W.cell? ⟨b1, o1 + p * 11 + 4, none⟩ = some (.int .i64 n1) ∧ W.cell? ⟨b1, o1 + p * 11 + 5, none⟩ = some (.string s1) ∧ W.cell? ⟨b1, o1 + p * 11 + 6, none⟩ = some (.slice la1 ll1 lc1) ∧ W.cell? ⟨b1, o1 + p * 11 + 7, none⟩ = some (.slice fa1 fl1 fc1) ∧ W.cell? ⟨b1, o1 + p * 11 + 8, none⟩ = some (.int .u8 e1) ∧ W.cell? ⟨b1, o1 + p * 11 + 9, none⟩ = some (.string key1) ∧ W.cell? ⟨b1, o1 + p * 11 + 10, none⟩ = some (.bool hk1) ∧ W.cell? ⟨b, o, none⟩ = some (.string ck2) ∧ W.cell? ⟨b, o + 1, none⟩ = some (.int .u8 ce2) ∧ W.cell? ⟨b, o + 2, none⟩ = some (.string cn2) ∧ W.cell? ⟨b, o + 3, none⟩ = some (.int .u8 k2) ∧ W.cell? ⟨b, o + 4, none⟩ = some (.int .i64 n2) ∧ W.cell? ⟨b, o + 5, none⟩ = some (.string s2) ∧ W.cell? ⟨b, o + 6, none⟩ = some (.slice la2 ll2 lc2) ∧ W.cell? ⟨b, o + 7, none⟩ = some (.slice fa2 fl2 fc2) ∧ W.cell? ⟨b, o + 8, none⟩ = some (.int .u8 e2) ∧ W.cell? ⟨b, o + 9, none⟩ = some (.string key2) ∧ W.cell? ⟨b, o + 10, none⟩ = some (.bool hk2)) _))
    obtain ⟨-, g0, g1, g2, g3, g4, g5, g6, g7, g8, g9, g10, d0, d1, d2, d3, d4, d5, d6, d7, d8, d9, d10⟩ := KS.out _ HL.out
    have hown1 := HOW.out _ HL.out
    go_wp2_with (first | (at_delete; refine wpList_delete_own _ rfl _ _ 43 9 rfl 3 law_str Try.underlying43 _ m n D rfl hown1 (.string ck2) _ rfl hlit ?_; intro w2 hown2 hturn2))
    go_ret
    exact Q2.out _ _ HL.out hown2 hturn2
end Go.Proofs.Ytpmkkgndpfbkdaa
