/-
  Walks: match.Match answers 'matM': the places of the old children that go on; it is memory of its own.
  Conditions: both lists lie in memory.
  Walks: match.Match answers 'matM': the places of the old children that go on; it is memory of its own.
  Conditions: both lists lie in memory.
-/
import Derived.Test.YtpmkkgndpfbkdaaGreatDoorMaS
import Derived.Test.YtpmkkgndpfbkdaaGreatDoorMaP
import Derived.Maps.OwnSet
import Derived.StringKeys
namespace Go.Proofs.YtpmkkgndpfbkdaaGreatDoor
set_option linter.unusedVariables false
set_option linter.unusedSimpArgs false
open Go.RowKit Go.Deep Go.WideShapes
open Go.Maps hiding size

/-- The map holds just these places. -/
structure HoldsM (D : DataW Unit) (f : List UInt8 → Option Nat) : Prop where
  map : IsMap D
  no : ∀ x, f x = none → Maps.has D (.string x) = false
  yes : ∀ x p, f x = some p → Maps.has D (.string x) = true ∧ ∀ z, D.atKey (.string x) z = .lit (.int .i64 p)
theorem lit_ne {x y : List UInt8} (h : y ≠ x) : (Lit.string y) ≠ Lit.string x := fun e => h (by cases e; rfl)
theorem HoldsM.nil : HoldsM (.map []) (fun _ => none) := ⟨⟨_, rfl⟩, fun _ _ => rfl, fun _ _ h => by cases h⟩
theorem HoldsM.put {D : DataW Unit} {f : List UInt8 → Option Nat} (h : HoldsM D f) (x : List UInt8) (p : Nat) : HoldsM (D.put (.string x) (.lit (.int .i64 p))) (fun y => if y = x then some p else f y) := by
  refine ⟨?_, fun y hy => ?_, fun y q hy => ?_⟩
  · obtain ⟨es, rfl⟩ := h.map
    exact ⟨_, rfl⟩
  · by_cases e : y = x
    · simp only [e, if_true] at hy; cases hy
    · simp only [e, if_false] at hy
      rw [has_put_other (lit_ne e)]
      exact h.no y hy
  · by_cases e : y = x
    · subst e
      simp only [if_true] at hy
      cases hy
      exact ⟨has_put_same (k := .string y) h.map trivial _, fun z => atKey_put_same (k := .string y) h.map trivial _ z⟩
    · simp only [e, if_false] at hy
      rw [has_put_other (lit_ne e)]
      exact ⟨(h.yes y q hy).1, fun z => by rw [atKey_put_other (lit_ne e)]; exact (h.yes y q hy).2 z⟩
theorem HoldsM.del {D : DataW Unit} {f : List UInt8 → Option Nat} (h : HoldsM D f) (x : List UInt8) : HoldsM (D.del (.string x)) (fun y => if y = x then none else f y) := by
  refine ⟨?_, fun y hy => ?_, fun y q hy => ?_⟩
  · obtain ⟨es, rfl⟩ := h.map
    exact ⟨_, rfl⟩
  · by_cases e : y = x
    · subst e
      exact has_del_same
    · simp only [e, if_false] at hy
      rw [has_del_other (lit_ne e)]
      exact h.no y hy
  · by_cases e : y = x
    · simp only [e, if_true] at hy; cases hy
    · simp only [e, if_false] at hy
      rw [has_del_other (lit_ne e)]
      exact ⟨(h.yes y q hy).1, fun z => by rw [atKey_del_other (lit_ne e)]; exact (h.yes y q hy).2 z⟩
/-- Block m is the map of these places. -/
def MapIs (W : World) (m n : Nat) (f : List UInt8 → Option Nat) : Prop := ∃ D : DataW Unit, W.ownsMap Tryz.prog 9 (plainElem Tryz.prog 3) m n D ∧ HoldsM D f
theorem MapIs.kept {W W' : World} {m n : Nat} {f : List UInt8 → Option Nat} {row : Option Nat} (h : MapIs W m n f) (hg : W.grownBy W' row) (hne : some m ≠ row) : MapIs W' m n f :=
  let ⟨D, h1, h2⟩ := h
  ⟨D, h1.kept hg hne, h2⟩
theorem grownBy_of_below {w w' : World} (hb : Below w.heap.size w w') (r : Option Nat) : w.grownBy w' r := ⟨hb.os, hb.tape, hb.output, hb.size, fun k hk _ => hb.block k hk⟩
theorem MapIs.below {W W' : World} {m n : Nat} {f : List UInt8 → Option Nat} (h : MapIs W m n f) (hb : Below W.heap.size W W') : MapIs W' m n f := h.kept (grownBy_of_below hb none) (by simp)
theorem MapIs.lt {W : World} {m n : Nat} {f : List UInt8 → Option Nat} (h : MapIs W m n f) : m < W.heap.size := let ⟨_, h1, _⟩ := h; h1.lt
theorem MapIs.mono {W : World} {m n n' : Nat} {f : List UInt8 → Option Nat} (h : MapIs W m n f) (hn : n ≤ n') : MapIs W m n' f := let ⟨D, h1, h2⟩ := h; ⟨D, h1.mono hn, h2⟩
theorem key_lit' (s : ByteArray) (h : s.size ≤ maxLen) : keyOf Tryz.prog 9 (.string s) = some (.string s.data.toList) := WideMaps.keyOf_string_mk Tryz.underlying9 h
theorem law_str : Keyed Tryz.prog 9 := string_keyed Tryz.underlying9
theorem zero_int (w : World) : (zeroValue 3).run Tryz.prog w = .ok (.int .i64 0) w := by kernel_rfl
theorem grownBy_trans {a b c : World} {row : Option Nat} (h : a.grownBy b row) (k : b.grownBy c row) : a.grownBy c row :=
  ⟨k.os.trans h.os, k.tape.trans h.tape, k.output.trans h.output, Nat.le_trans h.size k.size, fun i hi hr => (k.block i (Nat.lt_of_lt_of_le hi h.size) hr).trans (h.block i hi hr)⟩

/-- What take leaves. -/
def MtPost (W : World) (m n : Nat) (r : Int × (List UInt8 → Option Nat)) (x : Ending) (w' : World) : Prop := x = .returned (.int .i64 r.1) ∧ MapIs w' m n r.2 ∧ W.grownBy w' (some m)
theorem MtPost.no {W w' : World} {m n : Nat} {f : List UInt8 → Option Nat} {r : Int × (List UInt8 → Option Nat)} (hM : MapIs W m n f) (hr : r = (-1, f)) (hb : Below W.heap.size W w') : MtPost W m n r (.returned (.int .i64 (-1))) w' := by
  subst hr
  exact ⟨rfl, hM.below hb, grownBy_of_below hb _⟩
theorem MtPost.yes {W w1 w' : World} {m n p : Nat} {g : List UInt8 → Option Nat} {r : Int × (List UInt8 → Option Nat)} (hr : r = ((p : Int), g)) (hb : Below W.heap.size W w1) (hM : MapIs w' m n g) (ht : w1.mapTurned w' m) : MtPost W m n r (.returned (.int .i64 p)) w' := by
  subst hr
  exact ⟨rfl, hM, grownBy_trans (grownBy_of_below hb _) ht.grown⟩

set_option maxRecDepth 100000 in
set_option maxHeartbeats 2000000 in
theorem mtake_any (K : Nat → C) (la : Option Addr) (ll lc : Nat) (c2 : C) (b o m n : Nat) (f : List UInt8 → Option Nat) (w : World) (hK : CLst w la ll lc K) (hat : At w b o c2.cells) (hin : c2.In w)
    (hM : MapIs w m n f) (hf : ∀ x p, f x = some p → p < ll) :
    Calls Tryz.prog 16 #[.map (some m), .slice la ll lc, .pointer (some ⟨b, o, none⟩)] w (MtPost w m n (takeM K f c2)) := by
  have hcs := takeM_cases K f c2
  have hks : c2.key.size ≤ maxLen := hin.1
  have hlit := key_lit' c2.key hks
  have hv2 : c2.val.In w := hin.2.2.2
  have hll := hK.cap
  unfold maxLen at hll
  obtain ⟨D, hown, hD⟩ := hM
  have hM' : MapIs w m n f := ⟨D, hown, hD⟩
  rcases hcs with ⟨hr, hno | ⟨p, hp, hal⟩⟩ | ⟨p, hp, hal, hr⟩
  · have hq := hD.no _ hno
    have Q := Lib.hid (fun w' (hb : Below w.heap.size w w') => MtPost.no hM' hr hb)
    clear hr hno hM' hD hf hK
    unfold C.kl at hq
    generalize takeM K f c2 = r at Q ⊢
    obtain ⟨ck2, ce2, cn2, v2⟩ := c2
    cases v2 with
    | leaf => exact (hv2).elim
    | mk k2 n2 s2 la2 ll2 lc2 L2 fa2 fl2 fc2 fn2 F2 e2 key2 hk2 =>
    obtain ⟨d0, d1, d2, d3, d4, d5, d6, d7, d8, d9, d10⟩ := mt11 hat
    clear hat hv2 hin
    simp only at hq hlit
    go_enter Tryz.func16, Tryz.ntmps16
    go_upto_region 2 with (first | (at_lookup; refine wpList_lookup_own_ok_int _ rfl _ _ 61 rfl 9 3 .i64 law_str Tryz.underlying61 Tryz.underlying3 (zero_int _) m n D rfl hown (.string ck2) _ rfl hlit ?_; intro q hat hwq) | fail)
    go_quiet (fail)
    have HL := Lib.hid (below_drawM w nq)
    go_wp2_with fail
    go_ret
    exact Q.out _ HL.out
  · have hq := (hD.yes _ p hp).1
    have HAT := Lib.hid ((hD.yes _ p hp).2)
    have hpl := hf _ p hp
    have hpl0 : (0 : Int) ≤ (p : Int) := by omega
    have hpl1 : (p : Int) < (ll : Int) := by omega
    have Q := Lib.hid (fun w' (hb : Below w.heap.size w w') => MtPost.no hM' hr hb)
    obtain ⟨⟨b1, o1, rfl, hat1⟩, hin1⟩ := hK.els p hpl
    have HE : Hid (∀ W, Below w.heap.size w W → Calls Tryz.prog 71 #[(K p).agg, c2.agg] W fun x w' => x = .returned (.bool false) ∧ Below W.heap.size W w') := fun W hb => hal ▸ alike_all (K p) c2 W (hin1.2.2.2.below hb) (hv2.below hb)
    clear hr hp hM' hD hf hK hal
    unfold C.kl at hq HAT
    generalize takeM K f c2 = r at Q ⊢
    generalize K p = c1 at hat1 hin1 HE
    have hv1 : c1.val.In w := hin1.2.2.2
    obtain ⟨ck1, ce1, cn1, v1⟩ := c1
    cases v1 with
    | leaf => exact (hv1).elim
    | mk k1 n1 s1 la1 ll1 lc1 L1 fa1 fl1 fc1 fn1 F1 e1 key1 hk1 =>
    obtain ⟨ck2, ce2, cn2, v2⟩ := c2
    cases v2 with
    | leaf => exact (hv2).elim
    | mk k2 n2 s2 la2 ll2 lc2 L2 fa2 fl2 fc2 fn2 F2 e2 key2 hk2 =>
    have KS : Hid (∀ W, Below w.heap.size w W → (fun W => Below w.heap.size w W ∧ W.cell? ⟨b1, o1 + p * 11, none⟩ = some (.string ck1) ∧ W.cell? ⟨b1, o1 + p * 11 + 1, none⟩ = some (.int .u8 ce1) ∧ W.cell? ⟨b1, o1 + p * 11 + 2, none⟩ = some (.string cn1) ∧ W.cell? ⟨b1, o1 + p * 11 + 3, none⟩ = some (.int .u8 k1) ∧ W.cell? ⟨b1, o1 + p * 11 + 4, none⟩ = some (.int .i64 n1) ∧ W.cell? ⟨b1, o1 + p * 11 + 5, none⟩ = some (.string s1) ∧ W.cell? ⟨b1, o1 + p * 11 + 6, none⟩ = some (.slice la1 ll1 lc1) ∧ W.cell? ⟨b1, o1 + p * 11 + 7, none⟩ = some (.slice fa1 fl1 fc1) ∧ W.cell? ⟨b1, o1 + p * 11 + 8, none⟩ = some (.int .u8 e1) ∧ W.cell? ⟨b1, o1 + p * 11 + 9, none⟩ = some (.string key1) ∧ W.cell? ⟨b1, o1 + p * 11 + 10, none⟩ = some (.bool hk1) ∧ W.cell? ⟨b, o, none⟩ = some (.string ck2) ∧ W.cell? ⟨b, o + 1, none⟩ = some (.int .u8 ce2) ∧ W.cell? ⟨b, o + 2, none⟩ = some (.string cn2) ∧ W.cell? ⟨b, o + 3, none⟩ = some (.int .u8 k2) ∧ W.cell? ⟨b, o + 4, none⟩ = some (.int .i64 n2) ∧ W.cell? ⟨b, o + 5, none⟩ = some (.string s2) ∧ W.cell? ⟨b, o + 6, none⟩ = some (.slice la2 ll2 lc2) ∧ W.cell? ⟨b, o + 7, none⟩ = some (.slice fa2 fl2 fc2) ∧ W.cell? ⟨b, o + 8, none⟩ = some (.int .u8 e2) ∧ W.cell? ⟨b, o + 9, none⟩ = some (.string key2) ∧ W.cell? ⟨b, o + 10, none⟩ = some (.bool hk2)) W) := fun W hb => by
      have ha := hat1.below hb
      have hb2 := hat.below hb
      exact ⟨hb, ha 0 (by simp [C.cells, V.cells]), ha 1 (by simp [C.cells, V.cells]), ha 2 (by simp [C.cells, V.cells]), ha 3 (by simp [C.cells, V.cells]), ha 4 (by simp [C.cells, V.cells]), ha 5 (by simp [C.cells, V.cells]), ha 6 (by simp [C.cells, V.cells]), ha 7 (by simp [C.cells, V.cells]), ha 8 (by simp [C.cells, V.cells]), ha 9 (by simp [C.cells, V.cells]), ha 10 (by simp [C.cells, V.cells]), hb2 0 (by simp [C.cells, V.cells]), hb2 1 (by simp [C.cells, V.cells]), hb2 2 (by simp [C.cells, V.cells]), hb2 3 (by simp [C.cells, V.cells]), hb2 4 (by simp [C.cells, V.cells]), hb2 5 (by simp [C.cells, V.cells]), hb2 6 (by simp [C.cells, V.cells]), hb2 7 (by simp [C.cells, V.cells]), hb2 8 (by simp [C.cells, V.cells]), hb2 9 (by simp [C.cells, V.cells]), hb2 10 (by simp [C.cells, V.cells])⟩
    have hS0 := KS.out _ (Below.refl _ _)
    clear hat1 hin1 hat hin hv1 hv2
    simp only [C.agg, C.cells, V.cells] at HE
    simp only at hq hlit HAT
    go_enter Tryz.func16, Tryz.ntmps16
    obtain ⟨hB0, g0, g1, g2, g3, g4, g5, g6, g7, g8, g9, g10, d0, d1, d2, d3, d4, d5, d6, d7, d8, d9, d10⟩ := hS0
    go_upto_region 2 with (first | (at_lookup; refine wpList_lookup_own_ok_int _ rfl _ _ 61 rfl 9 3 .i64 law_str Tryz.underlying61 Tryz.underlying3 (zero_int _) m n D rfl hown (.string ck2) _ rfl hlit ?_; intro q hat hwq) | fail)
    obtain rfl : q = (p : Int) := by
      have e := (HAT.out (.lit (.int .i64 0))).symm.trans hat
      cases e
      rfl
    clear g0 g1 g2 g3 g4 g5 g6 g7 g8 g9 g10 d0 d1 d2 d3 d4 d5 d6 d7 d8 d9 d10 hat hwq hB0
    have hS0 := KS.out _ (Below.refl _ _)
    go_region_held3 (fun W => Below w.heap.size w W ∧ W.cell? ⟨b1, o1 + p * 11, none⟩ = some (.string ck1) ∧ W.cell? ⟨b1, o1 + p * 11 + 1, none⟩ = some (.int .u8 ce1) ∧ W.cell? ⟨b1, o1 + p * 11 + 2, none⟩ = some (.string cn1) ∧ W.cell? ⟨b1, o1 + p * 11 + 3, none⟩ = some (.int .u8 k1) ∧ W.cell? ⟨b1, o1 + p * 11 + 4, none⟩ = some (.int .i64 n1) ∧ W.cell? ⟨b1, o1 + p * 11 + 5, none⟩ = some (.string s1) ∧ W.cell? ⟨b1, o1 + p * 11 + 6, none⟩ = some (.slice la1 ll1 lc1) ∧ W.cell? ⟨b1, o1 + p * 11 + 7, none⟩ = some (.slice fa1 fl1 fc1) ∧ W.cell? ⟨b1, o1 + p * 11 + 8, none⟩ = some (.int .u8 e1) ∧ W.cell? ⟨b1, o1 + p * 11 + 9, none⟩ = some (.string key1) ∧ W.cell? ⟨b1, o1 + p * 11 + 10, none⟩ = some (.bool hk1) ∧ W.cell? ⟨b, o, none⟩ = some (.string ck2) ∧ W.cell? ⟨b, o + 1, none⟩ = some (.int .u8 ce2) ∧ W.cell? ⟨b, o + 2, none⟩ = some (.string cn2) ∧ W.cell? ⟨b, o + 3, none⟩ = some (.int .u8 k2) ∧ W.cell? ⟨b, o + 4, none⟩ = some (.int .i64 n2) ∧ W.cell? ⟨b, o + 5, none⟩ = some (.string s2) ∧ W.cell? ⟨b, o + 6, none⟩ = some (.slice la2 ll2 lc2) ∧ W.cell? ⟨b, o + 7, none⟩ = some (.slice fa2 fl2 fc2) ∧ W.cell? ⟨b, o + 8, none⟩ = some (.int .u8 e2) ∧ W.cell? ⟨b, o + 9, none⟩ = some (.string key2) ∧ W.cell? ⟨b, o + 10, none⟩ = some (.bool hk2))
          (first | exact KS.out _ ((Below.refl _ _).drew) | exact KS.out _ (Below.trans (And.left (by assumption)) (Below.mono (by assumption) (Below.size (And.left (by assumption))))))
          (first | (go_at_call 71; refine (HE.out _ ?_).mono ?_; (go_split_ands; assumption); rintro x w1 ⟨rfl, hb1⟩))
    have HL := Lib.hid (And.left (by assumption : (fun W => Below w.heap.size w W ∧ W.cell? ⟨b1, o1 + p * 11, none⟩ = some (.string ck1) ∧ W.cell? ⟨b1, o1 + p * 11 + 1, none⟩ = some (.int .u8 ce1) ∧ W.cell? ⟨b1, o1 + p * 11 + 2, none⟩ = some (.string cn1) ∧ W.cell? ⟨b1, o1 + p * 11 + 3, none⟩ = some (.int .u8 k1) ∧ W.cell? ⟨b1, o1 + p * 11 + 4, none⟩ = some (.int .i64 n1) ∧ W.cell? ⟨b1, o1 + p * 11 + 5, none⟩ = some (.string s1) ∧ W.cell? ⟨b1, o1 + p * 11 + 6, none⟩ = some (.slice la1 ll1 lc1) ∧ W.cell? ⟨b1, o1 + p * 11 + 7, none⟩ = some (.slice fa1 fl1 fc1) ∧ W.cell? ⟨b1, o1 + p * 11 + 8, none⟩ = some (.int .u8 e1) ∧ W.cell? ⟨b1, o1 + p * 11 + 9, none⟩ = some (.string key1) ∧ W.cell? ⟨b1, o1 + p * 11 + 10, none⟩ = some (.bool hk1) ∧ W.cell? ⟨b, o, none⟩ = some (.string ck2) ∧ W.cell? ⟨b, o + 1, none⟩ = some (.int .u8 ce2) ∧ W.cell? ⟨b, o + 2, none⟩ = some (.string cn2) ∧ W.cell? ⟨b, o + 3, none⟩ = some (.int .u8 k2) ∧ W.cell? ⟨b, o + 4, none⟩ = some (.int .i64 n2) ∧ W.cell? ⟨b, o + 5, none⟩ = some (.string s2) ∧ W.cell? ⟨b, o + 6, none⟩ = some (.slice la2 ll2 lc2) ∧ W.cell? ⟨b, o + 7, none⟩ = some (.slice fa2 fl2 fc2) ∧ W.cell? ⟨b, o + 8, none⟩ = some (.int .u8 e2) ∧ W.cell? ⟨b, o + 9, none⟩ = some (.string key2) ∧ W.cell? ⟨b, o + 10, none⟩ = some (.bool hk2)) _))
    go_wp2_with fail
    go_ret
    exact Q.out _ HL.out
  · have hq := (hD.yes _ p hp).1
    have HAT := Lib.hid ((hD.yes _ p hp).2)
    have hpl := hf _ p hp
    have hpl0 : (0 : Int) ≤ (p : Int) := by omega
    have hpl1 : (p : Int) < (ll : Int) := by omega
    have Q := Lib.hid (fun w1 w' (hb : Below w.heap.size w w1) (hM : MapIs w' m n _) ht => MtPost.yes (w1 := w1) (w' := w') hr hb hM ht)
    have HD := Lib.hid (hD.del c2.kl)
    have HOW := Lib.hid (fun W (hb : Below w.heap.size w W) => hown.kept (grownBy_of_below hb none) (by simp))
    obtain ⟨⟨b1, o1, rfl, hat1⟩, hin1⟩ := hK.els p hpl
    have HE : Hid (∀ W, Below w.heap.size w W → Calls Tryz.prog 71 #[(K p).agg, c2.agg] W fun x w' => x = .returned (.bool true) ∧ Below W.heap.size W w') := fun W hb => hal ▸ alike_all (K p) c2 W (hin1.2.2.2.below hb) (hv2.below hb)
    have Q2 : Hid (∀ w1 w', Below w.heap.size w w1 → w'.ownsMap Tryz.prog 9 (plainElem Tryz.prog 3) m n (D.del (.string c2.key.data.toList)) → w1.mapTurned w' m → MtPost w m n (takeM K f c2) (.returned (.int .i64 p)) w') := fun w1 w' hb ho ht => Q.out w1 w' hb ⟨_, ho, HD.out⟩ ht
    clear hr hp hM' hD hf hK hal Q HD
    unfold C.kl at hq HAT
    generalize takeM K f c2 = r at Q2 ⊢
    generalize K p = c1 at hat1 hin1 HE
    have hv1 : c1.val.In w := hin1.2.2.2
    obtain ⟨ck1, ce1, cn1, v1⟩ := c1
    cases v1 with
    | leaf => exact (hv1).elim
    | mk k1 n1 s1 la1 ll1 lc1 L1 fa1 fl1 fc1 fn1 F1 e1 key1 hk1 =>
    obtain ⟨ck2, ce2, cn2, v2⟩ := c2
    cases v2 with
    | leaf => exact (hv2).elim
    | mk k2 n2 s2 la2 ll2 lc2 L2 fa2 fl2 fc2 fn2 F2 e2 key2 hk2 =>
    have KS : Hid (∀ W, Below w.heap.size w W → (fun W => Below w.heap.size w W ∧ W.cell? ⟨b1, o1 + p * 11, none⟩ = some (.string ck1) ∧ W.cell? ⟨b1, o1 + p * 11 + 1, none⟩ = some (.int .u8 ce1) ∧ W.cell? ⟨b1, o1 + p * 11 + 2, none⟩ = some (.string cn1) ∧ W.cell? ⟨b1, o1 + p * 11 + 3, none⟩ = some (.int .u8 k1) ∧ W.cell? ⟨b1, o1 + p * 11 + 4, none⟩ = some (.int .i64 n1) ∧ W.cell? ⟨b1, o1 + p * 11 + 5, none⟩ = some (.string s1) ∧ W.cell? ⟨b1, o1 + p * 11 + 6, none⟩ = some (.slice la1 ll1 lc1) ∧ W.cell? ⟨b1, o1 + p * 11 + 7, none⟩ = some (.slice fa1 fl1 fc1) ∧ W.cell? ⟨b1, o1 + p * 11 + 8, none⟩ = some (.int .u8 e1) ∧ W.cell? ⟨b1, o1 + p * 11 + 9, none⟩ = some (.string key1) ∧ W.cell? ⟨b1, o1 + p * 11 + 10, none⟩ = some (.bool hk1) ∧ W.cell? ⟨b, o, none⟩ = some (.string ck2) ∧ W.cell? ⟨b, o + 1, none⟩ = some (.int .u8 ce2) ∧ W.cell? ⟨b, o + 2, none⟩ = some (.string cn2) ∧ W.cell? ⟨b, o + 3, none⟩ = some (.int .u8 k2) ∧ W.cell? ⟨b, o + 4, none⟩ = some (.int .i64 n2) ∧ W.cell? ⟨b, o + 5, none⟩ = some (.string s2) ∧ W.cell? ⟨b, o + 6, none⟩ = some (.slice la2 ll2 lc2) ∧ W.cell? ⟨b, o + 7, none⟩ = some (.slice fa2 fl2 fc2) ∧ W.cell? ⟨b, o + 8, none⟩ = some (.int .u8 e2) ∧ W.cell? ⟨b, o + 9, none⟩ = some (.string key2) ∧ W.cell? ⟨b, o + 10, none⟩ = some (.bool hk2)) W) := fun W hb => by
      have ha := hat1.below hb
      have hb2 := hat.below hb
      exact ⟨hb, ha 0 (by simp [C.cells, V.cells]), ha 1 (by simp [C.cells, V.cells]), ha 2 (by simp [C.cells, V.cells]), ha 3 (by simp [C.cells, V.cells]), ha 4 (by simp [C.cells, V.cells]), ha 5 (by simp [C.cells, V.cells]), ha 6 (by simp [C.cells, V.cells]), ha 7 (by simp [C.cells, V.cells]), ha 8 (by simp [C.cells, V.cells]), ha 9 (by simp [C.cells, V.cells]), ha 10 (by simp [C.cells, V.cells]), hb2 0 (by simp [C.cells, V.cells]), hb2 1 (by simp [C.cells, V.cells]), hb2 2 (by simp [C.cells, V.cells]), hb2 3 (by simp [C.cells, V.cells]), hb2 4 (by simp [C.cells, V.cells]), hb2 5 (by simp [C.cells, V.cells]), hb2 6 (by simp [C.cells, V.cells]), hb2 7 (by simp [C.cells, V.cells]), hb2 8 (by simp [C.cells, V.cells]), hb2 9 (by simp [C.cells, V.cells]), hb2 10 (by simp [C.cells, V.cells])⟩
    have hS0 := KS.out _ (Below.refl _ _)
    clear hat1 hin1 hat hin hv1 hv2
    simp only [C.agg, C.cells, V.cells] at HE
    simp only at hq hlit HAT Q2
    go_enter Tryz.func16, Tryz.ntmps16
    obtain ⟨hB0, g0, g1, g2, g3, g4, g5, g6, g7, g8, g9, g10, d0, d1, d2, d3, d4, d5, d6, d7, d8, d9, d10⟩ := hS0
    go_upto_region 2 with (first | (at_lookup; refine wpList_lookup_own_ok_int _ rfl _ _ 61 rfl 9 3 .i64 law_str Tryz.underlying61 Tryz.underlying3 (zero_int _) m n D rfl hown (.string ck2) _ rfl hlit ?_; intro q hat hwq) | fail)
    obtain rfl : q = (p : Int) := by
      have e := (HAT.out (.lit (.int .i64 0))).symm.trans hat
      cases e
      rfl
    clear g0 g1 g2 g3 g4 g5 g6 g7 g8 g9 g10 d0 d1 d2 d3 d4 d5 d6 d7 d8 d9 d10 hat hwq hB0
    have hS0 := KS.out _ (Below.refl _ _)
    go_region_held3 (fun W => Below w.heap.size w W ∧ W.cell? ⟨b1, o1 + p * 11, none⟩ = some (.string ck1) ∧ W.cell? ⟨b1, o1 + p * 11 + 1, none⟩ = some (.int .u8 ce1) ∧ W.cell? ⟨b1, o1 + p * 11 + 2, none⟩ = some (.string cn1) ∧ W.cell? ⟨b1, o1 + p * 11 + 3, none⟩ = some (.int .u8 k1) ∧ W.cell? ⟨b1, o1 + p * 11 + 4, none⟩ = some (.int .i64 n1) ∧ W.cell? ⟨b1, o1 + p * 11 + 5, none⟩ = some (.string s1) ∧ W.cell? ⟨b1, o1 + p * 11 + 6, none⟩ = some (.slice la1 ll1 lc1) ∧ W.cell? ⟨b1, o1 + p * 11 + 7, none⟩ = some (.slice fa1 fl1 fc1) ∧ W.cell? ⟨b1, o1 + p * 11 + 8, none⟩ = some (.int .u8 e1) ∧ W.cell? ⟨b1, o1 + p * 11 + 9, none⟩ = some (.string key1) ∧ W.cell? ⟨b1, o1 + p * 11 + 10, none⟩ = some (.bool hk1) ∧ W.cell? ⟨b, o, none⟩ = some (.string ck2) ∧ W.cell? ⟨b, o + 1, none⟩ = some (.int .u8 ce2) ∧ W.cell? ⟨b, o + 2, none⟩ = some (.string cn2) ∧ W.cell? ⟨b, o + 3, none⟩ = some (.int .u8 k2) ∧ W.cell? ⟨b, o + 4, none⟩ = some (.int .i64 n2) ∧ W.cell? ⟨b, o + 5, none⟩ = some (.string s2) ∧ W.cell? ⟨b, o + 6, none⟩ = some (.slice la2 ll2 lc2) ∧ W.cell? ⟨b, o + 7, none⟩ = some (.slice fa2 fl2 fc2) ∧ W.cell? ⟨b, o + 8, none⟩ = some (.int .u8 e2) ∧ W.cell? ⟨b, o + 9, none⟩ = some (.string key2) ∧ W.cell? ⟨b, o + 10, none⟩ = some (.bool hk2))
          (first | exact KS.out _ ((Below.refl _ _).drew) | exact KS.out _ (Below.trans (And.left (by assumption)) (Below.mono (by assumption) (Below.size (And.left (by assumption))))))
          (first | (go_at_call 71; refine (HE.out _ ?_).mono ?_; (go_split_ands; assumption); rintro x w1 ⟨rfl, hb1⟩))
    have HL := Lib.hid (And.left (by assumption : (fun W => Below w.heap.size w W ∧ W.cell? ⟨b1, o1 + p * 11, none⟩ = some (.string ck1) ∧ W.cell? ⟨b1, o1 + p * 11 + 1, none⟩ = some (.int .u8 ce1) ∧ W.cell? ⟨b1, o1 + p * 11 + 2, none⟩ = some (.string cn1) ∧ W.cell? ⟨b1, o1 + p * 11 + 3, none⟩ = some (.int .u8 k1) ∧ W.cell? ⟨b1, o1 + p * 11 + 4, none⟩ = some (.int .i64 n1) ∧ W.cell? ⟨b1, o1 + p * 11 + 5, none⟩ = some (.string s1) ∧ W.cell? ⟨b1, o1 + p * 11 + 6, none⟩ = some (.slice la1 ll1 lc1) ∧ W.cell? ⟨b1, o1 + p * 11 + 7, none⟩ = some (.slice fa1 fl1 fc1) ∧ W.cell? ⟨b1, o1 + p * 11 + 8, none⟩ = some (.int .u8 e1) ∧ W.cell? ⟨b1, o1 + p * 11 + 9, none⟩ = some (.string key1) ∧ W.cell? ⟨b1, o1 + p * 11 + 10, none⟩ = some (.bool hk1) ∧ W.cell? ⟨b, o, none⟩ = some (.string ck2) ∧ W.cell? ⟨b, o + 1, none⟩ = some (.int .u8 ce2) ∧ W.cell? ⟨b, o + 2, none⟩ = some (.string cn2) ∧ W.cell? ⟨b, o + 3, none⟩ = some (.int .u8 k2) ∧ W.cell? ⟨b, o + 4, none⟩ = some (.int .i64 n2) ∧ W.cell? ⟨b, o + 5, none⟩ = some (.string s2) ∧ W.cell? ⟨b, o + 6, none⟩ = some (.slice la2 ll2 lc2) ∧ W.cell? ⟨b, o + 7, none⟩ = some (.slice fa2 fl2 fc2) ∧ W.cell? ⟨b, o + 8, none⟩ = some (.int .u8 e2) ∧ W.cell? ⟨b, o + 9, none⟩ = some (.string key2) ∧ W.cell? ⟨b, o + 10, none⟩ = some (.bool hk2)) _))
    obtain ⟨-, g0, g1, g2, g3, g4, g5, g6, g7, g8, g9, g10, d0, d1, d2, d3, d4, d5, d6, d7, d8, d9, d10⟩ := KS.out _ HL.out
    have hown1 := HOW.out _ HL.out
    go_wp2_with (first | (at_delete; refine wpList_delete_own _ rfl _ _ 61 9 rfl 3 law_str Tryz.underlying61 _ m n D rfl hown1 (.string ck2) _ rfl hlit ?_; intro w2 hown2 hturn2))
    go_ret
    exact Q2.out _ _ HL.out hown2 hturn2
end Go.Proofs.YtpmkkgndpfbkdaaGreatDoor
namespace Go.Proofs.YtpmkkgndpfbkdaaGreatDoor
set_option linter.unusedVariables false
set_option linter.unusedSimpArgs false
open Go.RowKit Go.Deep Go.WideShapes
open Go.Maps hiding size

theorem firstsM_lt {K : Nat → C} {n : Nat} (x : List UInt8) (p : Nat) (h : firstsM K n x = some p) : p < n := (firstsM_some h).1
theorem firstsM_held {K : Nat → C} {n : Nat} {p : Nat} (h : firstsM K n (K n).kl = some p) : firstsM K (n + 1) = firstsM K n := by
  funext x
  rw [firstsM]
  split
  · rename_i e; exact e.symm
  · rename_i e
    rw [if_neg, e]
    intro e2
    rw [← e2, h] at e
    cases e
theorem firstsM_new {K : Nat → C} {n : Nat} (h : firstsM K n (K n).kl = none) : firstsM K (n + 1) = fun y => if y = (K n).kl then some n else firstsM K n y := by
  funext x
  rw [firstsM]
  by_cases e : x = (K n).kl
  · subst e
    rw [h]
  · rw [if_neg e, if_neg (Ne.symm e)]
    split
    · rename_i h; exact h.symm
    · rename_i h; exact h.symm

set_option maxRecDepth 100000 in
set_option maxHeartbeats 2000000 in
theorem holders_any (la : Option Addr) (ll lc : Nat) (K : Nat → C) (w : World) (h : CLst w la ll lc K) :
    Calls Tryz.prog 15 #[.slice la ll lc] w fun x w' => x = .returned (.map (some w.heap.size)) ∧ MapIs w' w.heap.size ll (firstsM K ll) ∧ Below w.heap.size w w' := by
  have hll := h.cap
  unfold maxLen at hll
  have hmm := @run_makeMap Tryz.prog
  have HC := Lib.hid (fun W (hb : Below w.heap.size w W) => (h.below hb).els)
  have HM0 : Hid (MapIs (w.alloc (.map #[] 0)) w.heap.size 0 (firstsM K 0)) := ⟨_, World.ownsMap_made _ _ _ _, HoldsM.nil⟩
  have HB0 := Lib.hid (below_alloc w (.map #[] 0))
  clear h
  go_enter Tryz.func15, Tryz.ntmps15
  go_wp2_with fail
  go_loopw [11] (fun i wr => ∃ j : Nat, j ≤ ll ∧ i = .int .i64 j ∧ MapIs wr w.heap.size j (firstsM K j) ∧ Below w.heap.size w wr) (fun i _ => ll - (intOf i).toNat)
  case atStart => exact ⟨0, Nat.zero_le _, rfl, HM0.out, HB0.out⟩
  case round =>
    obtain ⟨j, hj, rfl, hm, hb⟩ := hrel
    have HM := Lib.hid hm
    have HB := Lib.hid hb
    clear HM0 HB0 hmm hb
    obtain ⟨D, hown, hD⟩ := hm
    by_cases hlt : j < ll
    · have hj0 : (0 : Int) ≤ (j : Int) := by omega
      have hj1 : (j : Int) < (ll : Int) := by omega
      obtain ⟨⟨b, o, rfl, hat⟩, hin⟩ := HC.out _ HB.out j hlt
      have hlit := key_lit' (K j).key hin.1
      have e0 : wr.cell? ⟨b, o + j * 11, none⟩ = some (.string (K j).key) := hat 0 (by simp [C.cells])
      cases hf : firstsM K j (K j).kl with
      | some p =>
        have hq := (hD.yes _ p hf).1
        have HN : Hid (MapIs wr w.heap.size (j + 1) (firstsM K (j + 1))) := by rw [firstsM_held hf]; exact Lib.hid (HM.out.mono (Nat.le_succ _))
        clear hf hD hin hat
        unfold C.kl at hq
        generalize (K j).key = key at e0 hlit hq
        go_wp2_with (first
          | (at_lookup; refine wpList_lookup_own_ok_int _ rfl _ _ 61 rfl 9 3 .i64 law_str Tryz.underlying61 Tryz.underlying3 (zero_int _) _ _ D rfl hown (.string key) _ rfl hlit ?_; intro q hat hwq))
        go_roundw
        case rel => exact ⟨j + 1, by omega, by go_num, HN.out, HB.out⟩
        case measure => simp [intOf]; omega
      | none =>
        have hq := hD.no _ hf
        have HN : Hid (∀ W, W.ownsMap Tryz.prog 9 (plainElem Tryz.prog 3) w.heap.size (j + 1) (D.put (.string (K j).kl) (.lit (.int .i64 j))) → MapIs W w.heap.size (j + 1) (firstsM K (j + 1))) := Lib.hid (fun W ho => ⟨_, ho, by rw [firstsM_new hf]; exact hD.put _ _⟩)
        clear hf hD hin hat
        unfold C.kl at hq HN
        generalize (K j).key = key at e0 hlit hq HN
        go_wp2_with (first
          | (at_lookup; refine wpList_lookup_own_ok_int _ rfl _ _ 61 rfl 9 3 .i64 law_str Tryz.underlying61 Tryz.underlying3 (zero_int _) _ _ D rfl hown (.string key) _ rfl hlit ?_; intro q hat hwq)
          | (at_mapUpdate; refine wpList_mapUpdate_own _ rfl _ _ _ 61 rfl 9 3 law_str Tryz.underlying61 _ _ _ D rfl hown (by unfold maxLen; omega) _ _ _ rfl rfl hlit _ [] (plainElem_int Tryz.underlying3 (by simp [Lit.wf, IntKind.min, IntKind.max, IntKind.signed, IntKind.bits]; omega)) ?_; intro w1 hown1 hgrow1))
        have HM1 := Lib.hid (HN.out _ hown1)
        have HB1 : Hid (Below w.heap.size w w1) := Lib.hid (HB.out.grown hgrow1 HB.out.size (fun k e => by cases e; exact Nat.le_refl _))
        clear hown1 hgrow1
        go_roundw
        case rel => exact ⟨j + 1, by omega, by go_num, HM1.out, HB1.out⟩
        case measure => simp [intOf]; omega
    · obtain rfl : j = ll := by omega
      go_wp2_with fail
      go_ret
      exact ⟨rfl, HM.out, HB.out⟩

/-- Numbers as cells. -/
def rowI (n : Nat) (h : Nat → Int) : List Value := (List.range n).map (fun i => .int .i64 (h i))
theorem rowI_len (n : Nat) (h : Nat → Int) : (rowI n h).length = n := by simp [rowI]
theorem rowI_get {n : Nat} {h : Nat → Int} {j : Nat} (hj : j < n) : (rowI n h)[j]? = some (.int .i64 (h j)) := by simp [rowI, hj]
theorem rowI_ext {n : Nat} {h h' : Nat → Int} (e : ∀ i, i < n → h i = h' i) : rowI n h = rowI n h' := by
  unfold rowI
  exact List.map_congr_left fun i hi => by rw [e i (List.mem_range.1 hi)]
theorem rowI_set {n : Nat} {h : Nat → Int} {j : Nat} (x : Int) : (rowI n h).set j (.int .i64 x) = rowI n (fun i => if i = j then x else h i) := by
  apply List.ext_getElem?
  intro i
  rw [List.getElem?_set]
  by_cases hi : i < n
  · by_cases e : j = i
    · subst e
      rw [if_pos rfl, if_pos (by rw [rowI_len]; exact hi), rowI_get hi, if_pos rfl]
    · rw [if_neg e, rowI_get hi, rowI_get hi, if_neg (Ne.symm e)]
  · have e1 : (rowI n h)[i]? = none := List.getElem?_eq_none (by rw [rowI_len]; omega)
    have e2 : (rowI n (fun i => if i = j then x else h i))[i]? = none := List.getElem?_eq_none (by rw [rowI_len]; omega)
    rw [e1, e2]
    by_cases e : j = i
    · subst e; simp [rowI_len, hi]
    · rw [if_neg e]
/-- A row of one's own: numbers. -/
def OwnI (w : World) (base g n : Nat) (h : Nat → Int) : Prop := w.ownsRow base 3 1 (.slice (some ⟨g, 0, none⟩) n n) n (rowI n h)
theorem OwnI.cell {w : World} {base g n : Nat} {h : Nat → Int} (ho : OwnI w base g n h) {j : Nat} (hj : j < n) : w.cell? ⟨g, j, none⟩ = some (.int .i64 (h j)) := by
  rw [World.ownsRow.cellAt ho j (by omega), rowI_get hj]
theorem OwnI.frozen {w : World} {base g n : Nat} {h : Nat → Int} (ho : OwnI w base g n h) (j : Nat) : w.frozen? ⟨g, j, none⟩ = false := World.ownsRow.frozenAt ho j
theorem OwnI.lt {w : World} {base g n : Nat} {h : Nat → Int} (ho : OwnI w base g n h) : base ≤ g ∧ g < w.heap.size := World.ownsRow.lt ho g rfl
theorem OwnI.kept {w w' : World} {base g n : Nat} {h : Nat → Int} {row : Option Nat} (ho : OwnI w base g n h) (hg : w.grownBy w' row) (hne : some g ≠ row) : OwnI w' base g n h := World.ownsRow.kept ho hg (.inr hne)
theorem OwnI.below {w w' : World} {base g n : Nat} {h : Nat → Int} (ho : OwnI w base g n h) (hb : Below w.heap.size w w') : OwnI w' base g n h := ho.kept (grownBy_of_below hb none) (by simp)
theorem OwnI.il {w : World} {base g n : Nat} {h : Nat → Int} (ho : OwnI w base g n h) : IL w (some ⟨g, 0, none⟩) n h := fun j hj => ⟨g, 0, rfl, by rw [Nat.zero_add]; exact ho.cell hj⟩
theorem OwnI.set {w : World} {base g n : Nat} {h h' : Nat → Int} (ho : OwnI w base g n h) (j : Nat) (x : Int) (e : ∀ i, i < n → h' i = if i = j then x else h i) : OwnI (w.setCell ⟨g, j, none⟩ (.int .i64 x)) base g n h' ∧ w.grownBy (w.setCell ⟨g, j, none⟩ (.int .i64 x)) (some g) := by
  have := World.ownsRow.stored ho j (.int .i64 x)
  rw [rowI_set] at this
  refine ⟨?_, this.2⟩
  unfold OwnI
  rw [rowI_ext e]
  exact this.1
theorem info_int : (Tryz.prog.info? 3).map (fun i => (i.zero, i.size, i.bytes)) = some (some (.int .i64 0), 1, 8) := by kernel_rfl
theorem replicate_rowI (n : Nat) : List.replicate n (Value.int .i64 0) = rowI n (fun _ => 0) := by
  apply List.ext_getElem?
  intro i
  by_cases hi : i < n
  · rw [rowI_get hi]; simp [hi]
  · have e1 : (rowI n (fun _ => 0))[i]? = none := List.getElem?_eq_none (by rw [rowI_len]; omega)
    rw [e1, List.getElem?_eq_none (by simp; omega)]
theorem make_ints (w : World) (n : Nat) (hn : n * 8 ≤ 281474976710656) (base : Nat) (hb : base ≤ w.heap.size) : ∃ w', (Instr.makeSlice 26 (.int .i64 n) (.int .i64 n)).run Tryz.prog w = .ok (.slice (some ⟨w.heap.size, 0, none⟩) n n) w' ∧ OwnI w' base w.heap.size n (fun _ => 0) ∧ Below w.heap.size w w' := by
  obtain ⟨i0, hi, hz0, hz1, hz2⟩ := info_parts info_int
  obtain ⟨w', h1, h2, h3⟩ := run_make_full (P := Tryz.prog) w base 26 3 i0 (.int .i64 0) 1 Tryz.underlying26 hi hz0 hz1 .i64 .i64 n (by rw [hz2]; omega) (by unfold maxLen; omega) hb
  refine ⟨w', h1, ?_, ⟨h3.os, h3.tape, h3.output, h3.size, fun k hk => h3.block k hk (by simp)⟩⟩
  have e : (madeCells (Value.int .i64 0).cells (n * 1)).toList = List.replicate n (Value.int .i64 0) := by rw [Nat.mul_one]; exact toList_madeCells_one _ _
  rw [e, replicate_rowI] at h2
  exact h2

/-- What Match leaves: a row of its own. -/
structure MatPost (w : World) (n : Nat) (h : Nat → Int) (x : Ending) (w' : World) (g : Nat) : Prop where
  ret : x = .returned (.slice (some ⟨g, 0, none⟩) n n)
  own : OwnI w' w.heap.size g n h
  low : Below w.heap.size w w'

theorem heldM_lt {K N : Nat → C} {n j : Nat} (x : List UInt8) (p : Nat) (h : heldM K N n j x = some p) : p < n := (firstsM_some (heldM_sub h)).1
theorem mat_row {K N : Nat → C} {n j : Nat} (i : Nat) : (if i < j + 1 then matM K N n i else (0 : Int)) = if i = j then matM K N n j else if i < j then matM K N n i else 0 := by
  by_cases e : i = j
  · subst e; simp
  · rw [if_neg e]
    by_cases h : i < j
    · rw [if_pos h, if_pos (by omega)]
    · rw [if_neg h, if_neg (by omega)]

set_option maxRecDepth 100000 in
set_option maxHeartbeats 2000000 in
theorem match_any (la : Option Addr) (ll lc : Nat) (K : Nat → C) (na : Option Addr) (nl nc : Nat) (N : Nat → C) (w : World) (hK : CLst w la ll lc K) (hN : CLst w na nl nc N) (hnb : nl * 8 ≤ 281474976710656) :
    Calls Tryz.prog 7 #[.slice la ll lc, .slice na nl nc] w fun x w' => ∃ g, MatPost w nl (matM K N ll) x w' g := by
  have hll := hK.cap
  have hnl := hN.cap
  unfold maxLen at hll hnl
  have HH := Lib.hid (holders_any la ll lc K w hK)
  have HMK := Lib.hid (fun W (hb : w.heap.size ≤ W.heap.size) => make_ints W nl hnb w.heap.size hb)
  have HK := Lib.hid (fun W (hb : Below w.heap.size w W) => hK.below hb)
  have HN := Lib.hid (fun W (hb : Below w.heap.size w W) => (hN.below hb).els)
  clear hK hN hnb
  go_enter Tryz.func7, Tryz.ntmps7
  go_wp2_with fail
  refine HH.out.mono ?_
  rintro x w1 ⟨rfl, hm, hb1⟩
  have hmlt := hm.lt
  obtain ⟨w2, hmk, hown, hb2⟩ := HMK.out w1 hb1.size
  have HM2 := Lib.hid (hm.below hb2)
  have HB2 := Lib.hid (hb1.trans (hb2.mono hb1.size))
  have HO2 := Lib.hid hown
  have HG := Lib.hid (show w1.heap.size ≠ w.heap.size by omega)
  clear hm hb1 hb2 hown HH HMK hmlt
  generalize w1.heap.size = g at hmk HO2 HG
  go_wp2_with fail
  clear hmk
  go_loopw [15] (fun i wr => ∃ j : Nat, j ≤ nl ∧ i = .int .i64 j ∧ MapIs wr w.heap.size ll (heldM K N ll j) ∧ OwnI wr w.heap.size g nl (fun i => if i < j then matM K N ll i else 0) ∧ Below w.heap.size w wr) (fun i _ => nl - (intOf i).toNat)
  case atStart => exact ⟨0, Nat.zero_le _, rfl, HM2.out, by have := HO2.out; simpa using this, HB2.out⟩
  case round =>
    obtain ⟨j, hj, rfl, hm, ho, hb⟩ := hrel
    have HM := Lib.hid hm
    have HO := Lib.hid ho
    have HB := Lib.hid hb
    clear HM2 HB2 HO2 hb hm ho
    by_cases hlt : j < nl
    · have hj0 : (0 : Int) ≤ (j : Int) := by omega
      have hj1 : (j : Int) < (nl : Int) := by omega
      obtain ⟨⟨b, o, rfl, hat⟩, hin⟩ := HN.out _ HB.out j hlt
      have HT := Lib.hid (mtake_any K la ll lc (N j) b (o + j * 11) w.heap.size ll (heldM K N ll j) wr (HK.out _ HB.out) hat hin HM.out (fun x p => heldM_lt x p))
      clear hat hin
      go_wp2_with fail
      refine HT.out.mono ?_
      rintro x w3 ⟨rfl, hm3, hg3⟩
      have ho3 := HO.out.kept hg3 (fun e => HG.out (Option.some.inj e))
      have hc3 := ho3.cell hlt
      have hf3 := ho3.frozen j
      obtain ⟨ho4, hg4⟩ := ho3.set (h' := fun i => if i < j + 1 then matM K N ll i else 0) j (matM K N ll j) (fun i _ => mat_row i)
      have HO4 := Lib.hid ho4
      have HM4 : Hid (MapIs (w3.setCell ⟨g, j, none⟩ (.int .i64 (matM K N ll j))) w.heap.size ll (heldM K N ll (j + 1))) := Lib.hid (MapIs.kept hm3 hg4 (fun e => HG.out (Option.some.inj e).symm))
      have HB4 : Hid (Below w.heap.size w (w3.setCell ⟨g, j, none⟩ (.int .i64 (matM K N ll j)))) := Lib.hid ((HB.out.grown hg3 HB.out.size (fun k e => by cases e; exact Nat.le_refl _)).grown hg4 (Nat.le_trans HB.out.size hg3.size) (fun k e => by cases e; exact ho3.lt.1))
      clear hm3 hg3 ho3 ho4 hg4 HT
      unfold matM at HO4 HM4 HB4
      generalize (takeM K (heldM K N ll j) (N j)).1 = y at HO4 HM4 HB4 ⊢
      go_wp2_with fail
      go_roundw
      case rel => exact ⟨j + 1, by omega, by go_num, HM4.out, HO4.out, HB4.out⟩
      case measure => simp [intOf]; omega
    · obtain rfl : j = nl := by omega
      have HE : Hid (OwnI wr w.heap.size g j (matM K N ll)) := by
        have := HO.out
        unfold OwnI at this ⊢
        rw [rowI_ext (h' := matM K N ll) (fun i hi => if_pos hi)] at this
        exact Lib.hid this
      go_wp2_with fail
      go_ret
      exact ⟨g, rfl, HE.out, HB.out⟩
end Go.Proofs.YtpmkkgndpfbkdaaGreatDoor
