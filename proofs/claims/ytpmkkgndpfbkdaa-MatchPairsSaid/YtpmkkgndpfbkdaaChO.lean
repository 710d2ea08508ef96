/-
  An argument of type []api.Child opens into a list of children that lies in memory.
  Conditions: none.
-/
import Derived.Test.YtpmkkgndpfbkdaaCh
import Derived.Test.YtpmkkgndpfbkdaaRows
import Derived.ChangeSame
import Derived.JoinedOf
import Derived.JoinedAt
import Derived.RowKit
import Derived.RowKit2
import Derived.ReadAgain
import Derived.ChangeAlike
import Derived.ProofKit
import Derived.Deep.Heap
namespace Go.Proofs.Ytpmkkgndpfbkdaa
set_option linter.unusedVariables false
set_option linter.unusedSimpArgs false
open Go.ChangeShapes Go.WideShapes Go.ChangeAt Go.RowKit Go.Deep

/-- What the type table says of a child's type. -/
structure CTypes (P : Program) (tc tv : TypeId) where
  (f0 f1 f2 f3 : Field)
  hc : P.underlying tc = some (.struct #[f0, f1, f2, f3])
  cc : P.cellsOf tc = 11
  t0 : P.underlying f0.type = some .string ∧ P.cellsOf f0.type = 1 ∧ f0.offset = 0
  t1 : P.underlying f1.type = some (.int .u8) ∧ P.cellsOf f1.type = 1 ∧ f1.offset = 1
  t2 : P.underlying f2.type = some .string ∧ P.cellsOf f2.type = 1 ∧ f2.offset = 2
  t3 : f3.type = tv ∧ P.cellsOf f3.type = 8 ∧ f3.offset = 3

theorem open_C {H : Type} {enc : TypeId × Value → H} {P : Program} {w : World} {base : Nat} {held : Bool} {tc tv tsl tsf tf : TypeId} (T : VTypes P tv tsl tsf tf) (U : CTypes P tc tv) {spare : Nat → Bool} (fuel : Nat) (cs : List Value) (x : DataW H × List MemPlace) (h : DataW.trod enc P w base spare held fuel tc cs = some x) :
    ∃ c : C, cs = c.cells ∧ c.In w := by
  obtain ⟨xs, m, rfl, rfl, hl, hlen, hf⟩ := DataW.trod_struct U.hc h
  rw [U.cc] at hl
  match xs, hlen, cs, hl with
  | [y0, y1, y2, y3], _, [v0, v1, v2, v3, v4, v5, v6, v7, v8, v9, v10], _ =>
    have g0 := hf 0 U.f0 rfl
    have g1 := hf 1 U.f1 rfl
    have g2 := hf 2 U.f2 rfl
    have g3 := hf 3 U.f3 rfl
    rw [U.t0.2.2, U.t0.2.1] at g0
    rw [U.t1.2.2, U.t1.2.1] at g1
    rw [U.t2.2.2, U.t2.2.1] at g2
    rw [U.t3.2.2, U.t3.2.1, U.t3.1] at g3
    simp at g0 g1 g2 g3
    obtain ⟨s, hv0, -, ws⟩ := DataW.trod_string U.t0.1 g0
    obtain ⟨k, hv1, -, wk⟩ := DataW.trod_int U.t1.1 g1
    obtain ⟨n, hv2, -, wn⟩ := DataW.trod_string U.t2.1 g2
    simp at hv0 hv1 hv2
    subst hv0 hv1 hv2
    obtain ⟨v, hv, hin⟩ := open_V T _ _ _ g3
    exact ⟨⟨s, k, n, v⟩, by rw [C.cells, ← hv], ws, wf_u8 wk, wn, hin⟩

set_option maxRecDepth 100000 in
theorem open_children {H : Type} {enc : TypeId × Value → H} {W : World} {base : Nat} {v : Value} {d : DataW H} {p : List MemPlace} (hv : Value.okWide Try.prog W .any base 22 v)
    (h : DataW.Trod enc Try.prog W 0 (fun _ => true) true 22 v d p) : ∃ la ll lc K, v = .slice la ll lc ∧ CLst W la ll lc K := by
  have T : VTypes Try.prog 33 30 31 54 :=
    { tk := 0, tn := 0, ts := 0, te := 0, tb := 0, tfv := 0, tfn := 0, f0 := _, f1 := _, f2 := _, f3 := _, f4 := _, f5 := _, f6 := _, f7 := _, g0 := _, g1 := _,
      hv := Try.underlying33, cv := by kernel_rfl, hsl := Try.underlying30, hsf := Try.underlying31, hf := Try.underlying54, cf := by kernel_rfl,
      t0 := ⟨by kernel_rfl, by kernel_rfl, rfl⟩, t1 := ⟨by kernel_rfl, by kernel_rfl, rfl⟩, t2 := ⟨by kernel_rfl, by kernel_rfl, rfl⟩, t3 := ⟨rfl, by kernel_rfl, rfl⟩, t4 := ⟨rfl, by kernel_rfl, rfl⟩,
      t5 := ⟨by kernel_rfl, by kernel_rfl, rfl⟩, t6 := ⟨by kernel_rfl, by kernel_rfl, rfl⟩, t7 := ⟨by kernel_rfl, by kernel_rfl, rfl⟩, s0 := ⟨by kernel_rfl, by kernel_rfl, rfl⟩, s1 := ⟨rfl, by kernel_rfl, rfl⟩ }
  have U : CTypes Try.prog 35 33 :=
    { f0 := _, f1 := _, f2 := _, f3 := _, hc := Try.underlying35, cc := by kernel_rfl, t0 := ⟨by kernel_rfl, by kernel_rfl, rfl⟩, t1 := ⟨by kernel_rfl, by kernel_rfl, rfl⟩, t2 := ⟨by kernel_rfl, by kernel_rfl, rfl⟩, t3 := ⟨rfl, by kernel_rfl, rfl⟩ }
  have hsl := Try.underlying22
  obtain ⟨aa, len2, cap2, rfl⟩ := okWide_slice hsl hv
  obtain ⟨fuel, hf⟩ := h
  simp only [Value.cells] at hf
  rcases DataW.trod_slice hsl hf with ⟨h0, -⟩ | ⟨a, len, cap, elems, rest, n', hn', hcs, hyd, hb, hlc, hm, hle, hel, -, -⟩
  · simp at h0
    obtain ⟨rfl, rfl, rfl⟩ := h0
    exact ⟨none, 0, 0, fun _ => ⟨⟨#[]⟩, 0, ⟨#[]⟩, .leaf⟩, rfl, ⟨Nat.le_refl _, Nat.zero_le _⟩, fun i hi => absurd hi (Nat.not_lt_zero _)⟩
  · simp at hcs
    obtain ⟨rfl, rfl, rfl⟩ := hcs
    have ha0 : 0 < len2 → ∃ b o, a = ⟨b, o, none⟩ := fun h0 => by
      have h1 := hel 0 h0
      rw [List.getElem?_eq_getElem (by omega)] at h1
      obtain ⟨cs', hc1, -⟩ := Option.bind_eq_some_iff.1 h1
      obtain ⟨b, o, ha, -, -⟩ := at_of_cells? (by rw [U.cc]; decide) hc1
      exact ⟨b, o, by simpa [Addr.add] using ha⟩
    have : Inhabited C := ⟨⟨⟨#[]⟩, 0, ⟨#[]⟩, .leaf⟩⟩
    obtain ⟨K, hK⟩ := choose_lt (n := len2) (p := fun i (c : C) => (∃ b o, some a = some ⟨b, o, none⟩ ∧ At W b (o + i * 11) c.cells) ∧ c.In W) fun i hi => by
      have h1 := hel i hi
      rw [List.getElem?_eq_getElem (by omega)] at h1
      obtain ⟨cs', hc1, hc2⟩ := Option.bind_eq_some_iff.1 h1
      rw [U.cc] at hc1
      obtain ⟨c, rfl, hcin⟩ := open_C T U n' cs' _ hc2
      obtain ⟨b, o, rfl⟩ := ha0 (by omega)
      rw [add_plain] at hc1
      obtain ⟨b', o', ha, hat, -⟩ := at_of_cells? (by decide) hc1
      simp only [Addr.mk.injEq, and_true] at ha
      obtain ⟨h1, h2⟩ := ha
      subst h1 h2
      exact ⟨c, ⟨b, o, rfl, hat⟩, hcin⟩
    exact ⟨some a, len2, cap2, K, rfl, ⟨hlc, hm⟩, hK⟩
theorem Try.own : ownKnob Try.prog.godebug = none := by kernel_rfl
theorem Try.laidOut : laidOutB Try.prog = true := by kernel_rfl
end Go.Proofs.Ytpmkkgndpfbkdaa
