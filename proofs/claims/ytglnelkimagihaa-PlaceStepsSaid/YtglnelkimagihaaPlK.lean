/-
  Walks: the map of a row's places; slices.Backward against whatever loop ('back_in'); places.of.
  Conditions: the row lies in memory.
-/
import Derived.Test.YtglnelkimagihaaPlB
import Derived.RangeFuncBox
import Derived.RangeFuncLeaves
import Derived.RangeFuncCalls
import Derived.RangeFuncBound
import Derived.OwnWalkIn
import Derived.TacticsInMore
import Derived.LoopNIn
import Derived.LoopIn
import Derived.Maps.OwnIn
import Derived.Maps.AppendAt
import Derived.Deep.Heap
import Derived.Stop.RegionWithIn
namespace Go.Proofs.Ytglnelkimagihaa
set_option linter.unusedVariables false
set_option linter.unusedSimpArgs false
open Go.RowKit Go.Deep Go.WideShapes
open Go.Maps hiding size

/-- The map holds just these places. -/
structure HoldsP (D : DataW Unit) (f : Int → Option Nat) : Prop where
  map : IsMap D
  no : ∀ x, f x = none → Maps.has D (.int .i64 x) = false
  yes : ∀ x p, f x = some p → Maps.has D (.int .i64 x) = true ∧ ∀ z, D.atKey (.int .i64 x) z = .lit (.int .i64 p)
theorem lit_ne {x y : Int} (h : y ≠ x) : (Lit.int .i64 y) ≠ Lit.int .i64 x := fun e => h (by cases e; rfl)
theorem HoldsP.nil : HoldsP (.map []) (fun _ => none) := ⟨⟨_, rfl⟩, fun _ _ => rfl, fun _ _ h => by cases h⟩
theorem HoldsP.put {D : DataW Unit} {f : Int → Option Nat} (h : HoldsP D f) (x : Int) (p : Nat) : HoldsP (D.put (.int .i64 x) (.lit (.int .i64 p))) (fun y => if x = y then some p else f y) := by
  refine ⟨?_, fun y hy => ?_, fun y q hy => ?_⟩
  · obtain ⟨es, rfl⟩ := h.map
    exact ⟨_, rfl⟩
  · by_cases e : x = y
    · simp only [e, if_true] at hy; cases hy
    · simp only [e, if_false] at hy
      rw [has_put_other (lit_ne (Ne.symm e))]
      exact h.no y hy
  · by_cases e : x = y
    · subst e
      simp only [if_true] at hy
      cases hy
      exact ⟨has_put_same (k := .int .i64 x) h.map trivial _, fun z => atKey_put_same (k := .int .i64 x) h.map trivial _ z⟩
    · simp only [e, if_false] at hy
      rw [has_put_other (lit_ne (Ne.symm e))]
      exact ⟨(h.yes y q hy).1, fun z => by rw [atKey_put_other (lit_ne (Ne.symm e))]; exact (h.yes y q hy).2 z⟩
/-- Block m is the map of these places. -/
def MapP (W : World) (m n : Nat) (f : Int → Option Nat) : Prop := ∃ D : DataW Unit, W.ownsMap Try.prog 3 (plainElem Try.prog 3) m n D ∧ HoldsP D f
theorem MapP.kept {W W' : World} {m n : Nat} {f : Int → Option Nat} {row : Option Nat} (h : MapP W m n f) (hg : W.grownBy W' row) (hne : some m ≠ row) : MapP W' m n f :=
  let ⟨D, h1, h2⟩ := h
  ⟨D, h1.kept hg hne, h2⟩
theorem MapP.below {W W' : World} {m n : Nat} {f : Int → Option Nat} (h : MapP W m n f) (hb : Below W.heap.size W W') : MapP W' m n f := h.kept (grownBy_of_below hb none) (by simp)
theorem MapP.lt {W : World} {m n : Nat} {f : Int → Option Nat} (h : MapP W m n f) : m < W.heap.size := let ⟨_, h1, _⟩ := h; h1.lt
theorem key_int {x : Int} (h : -9223372036854775808 ≤ x ∧ x ≤ 9223372036854775807) : keyOf Try.prog 3 (.int .i64 x) = some (.int .i64 x) := keyOf_int_mk Try.underlying3 (int_wf h)
theorem law_int : Keyed Try.prog 3 := int_keyed Try.underlying3

set_option maxHeartbeats 1000000 in
/-- The place of a number, looked up. -/
theorem of_any (m n : Nat) (f : Int → Option Nat) (x : Int) (hx : -9223372036854775808 ≤ x ∧ x ≤ 9223372036854775807) (w : World) (hM : MapP w m n f) :
    Calls Try.prog 29 #[.map (some m), .int .i64 x] w fun e w' => e = .returned (.int .i64 (Pl.optI (f x))) ∧ Below w.heap.size w w' := by
  have hlit := key_int hx
  clear hx
  obtain ⟨D, hown, hD⟩ := hM
  have HL := Lib.hid (fun nq => below_drawM w nq)
  cases hf : f x with
  | none =>
    have hq := hD.no _ hf
    clear hD hf
    simp only [Pl.optI]
    go_enter Try.func29, Try.ntmps29
    go_wp2_with (first | (at_lookup; refine wpList_lookup_own_ok_int _ rfl _ _ 51 rfl 3 3 .i64 law_int Try.underlying51 Try.underlying3 (zero_int _) m n D rfl hown (.int .i64 x) _ rfl hlit ?_; intro q hat hwq))
    go_ret
    exact ⟨rfl, HL.out 0⟩
  | some p =>
    have hq := (hD.yes _ p hf).1
    have HAT := Lib.hid ((hD.yes _ p hf).2)
    clear hD hf
    simp only [Pl.optI]
    go_enter Try.func29, Try.ntmps29
    go_wp2_with (first | (at_lookup; refine wpList_lookup_own_ok_int _ rfl _ _ 51 rfl 3 3 .i64 law_int Try.underlying51 Try.underlying3 (zero_int _) m n D rfl hown (.int .i64 x) _ rfl hlit ?_; intro q hat hwq; have HQ := Lib.hid (hat.symm.trans (HAT.out _)); clear hat hwq))
    go_ret
    have := HQ.out
    cases this
    exact ⟨rfl, HL.out 0⟩

set_option maxRecDepth 100000 in
set_option maxHeartbeats 2000000 in
/-- slices.Backward's sequence, against whatever loop: the numbers come from the end on, each with its place. -/
theorem back_in (l Bs : Nat) (J : Nat → World → Prop) (a : Option Addr) (L : List Int) (cap : Nat) (hn : L.length ≤ 1048576)
    (hJ : ∀ c W, J c W → W.cell? ⟨Bs, 0, none⟩ = some (.slice a L.length cap) ∧ RL W a L)
    (hY : ∀ m c W, c < L.length → J c W → YieldAt Fence.wide m Try.prog l #[.int .i64 ((L.length - 1 - c : Nat) : Int), .int .i64 (Pl.nth L (L.length - 1 - c))] W fun e W' => e = .returned (.bool true) ∧ J (c + 1) W') (m : Nat) (hm : 1 ≤ m) (W : World) (h0 : J 0 W) :
    CallsIn Fence.wide m Try.prog 30 #[.func (.yield l) #[] #[], .pointer (some ⟨Bs, 0, none⟩)] W fun x W' => (∃ u, x = .returned u) ∧ J L.length W' := by
  obtain ⟨hs, hr⟩ := hJ 0 W h0
  refine callsIn_of_wp Try.func30 rfl trivial ?_ rfl
  simp only [Try.ntmps30, List.size_toArray, List.length_cons, List.length_nil, Nat.reduceAdd, Nat.reduceSub, Array.replicate_succ, Array.replicate_zero, List.push_toArray, List.append_toArray, List.nil_append, List.cons_append]
  have HJ := Lib.hid hJ
  have HY := Lib.hid hY
  have H0 := Lib.hid h0
  clear hJ hY h0 hr
  obtain ⟨n, hnE⟩ : ∃ n, L.length = n := ⟨_, rfl⟩
  rw [hnE] at HJ HY hs hn ⊢
  have hn0 : (0 : Int) ≤ (n : Int) := by omega
  have hn1 : (n : Int) ≤ 1048576 := by omega
  have HN := Lib.hid hnE
  clear hnE
  gi_wp2
  clear hs
  gi_loopw [3] (fun i wr => ∃ c : Nat, c ≤ n ∧ i = .int .i64 ((n : Int) - 1 - c) ∧ J c wr) (fun i _ => (intOf i + 1).toNat)
  case atStart => exact ⟨0, Nat.zero_le _, by simp, H0.out⟩
  case round =>
    obtain ⟨c, hc, rfl, hj⟩ := hrel
    clear H0
    have HJc := Lib.hid hj
    by_cases hlt : c < n
    · have hc0 : (0 : Int) ≤ (n : Int) - 1 - c := by omega
      have hc1 : (n : Int) - 1 - c < n := by omega
      obtain ⟨hs, hr⟩ := HJ.out c wr hj
      unfold RL at hr
      rw [HN.out] at hr
      obtain ⟨b, o, rfl, hcell⟩ := hr (n - 1 - c) (by omega)
      clear hr
      obtain ⟨p, hp⟩ : ∃ p : Nat, n - 1 - c = p := ⟨_, rfl⟩
      have hpe : (n : Int) - 1 - c = p := by omega
      have HPE := Lib.hid hpe
      rw [hp] at hcell
      rw [hpe] at hc0 hc1 ⊢
      obtain ⟨fn', tmps, assign, body, hy, hR⟩ := HY.out (m - 1) c wr hlt hj
      rw [hp] at hy
      clear hp hpe hj
      have hR2 := hR.mono (R' := fun e W' => e = .returned (.bool true) ∧ Hid (J (c + 1) W')) (fun e W' h => ⟨h.1, Lib.hid h.2⟩)
      clear hR
      gi_wp2
      refine hR2.mono ?_
      rintro e9 w9 ⟨rfl, H9⟩
      clear hR2 hcell
      gi_wp2
      refine ⟨⟨c + 1, by omega, by have := HPE.out; go_num, H9.out⟩, ?_⟩
      simp only [intOf]
      omega
    · obtain rfl : c = n := by omega
      have e : (c : Int) - 1 - c = -1 := by omega
      rw [e]
      gi_wp2
      go_end0
      exact ⟨⟨_, rfl⟩, HJc.out⟩
end Go.Proofs.Ytglnelkimagihaa
