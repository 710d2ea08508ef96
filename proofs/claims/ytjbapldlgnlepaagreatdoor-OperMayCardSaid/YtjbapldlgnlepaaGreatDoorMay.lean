/-
  OperMay: for any text and any values the law returns true and leaves its arguments as they were: whatever an operation answers is a value that may be, and only the operations that are listed can be done, on as many values as they take.
  Conditions: none beyond the row's own; the listed variables are tied to the program's text by the card.
-/
import Derived.Test.YtjbapldlgnlepaaGreatDoorOpMay
import Derived.ChangeMaps5
import Derived.SizedLaws
import Derived.Test.YtjbapldlgnlepaaGreatDoorDoor
namespace Go.Proofs.YtjbapldlgnlepaaGreatDoor
open Go.ChangeShapes Go.ChangeMaps Go.WideShapes Go.ChangeAt Go.RowKit Go.Deep

set_option maxRecDepth 100000 in
/-- An argument of type api.Value opens into a value that lies in memory. -/
theorem open_arg {H : Type} {enc : TypeId × Value → H} {W : World} {base : Nat} {v : Value} {d : DataW H} {p : List MemPlace} (hv : Value.okWide Tryz.prog W .any base 55 v)
    (h : DataW.Trod enc Tryz.prog W 0 (fun _ => true) true 55 v d p) : ∃ x : V, v = x.agg ∧ x.In W := by
  have T : VTypes Tryz.prog 55 48 52 82 :=
    { tk := 0, tn := 0, ts := 0, te := 0, tb := 0, tfv := 0, tfn := 0, f0 := _, f1 := _, f2 := _, f3 := _, f4 := _, f5 := _, f6 := _, f7 := _, g0 := _, g1 := _,
      hv := Tryz.underlying55, cv := by kernel_rfl, hsl := Tryz.underlying48, hsf := Tryz.underlying52, hf := Tryz.underlying82, cf := by kernel_rfl,
      t0 := ⟨by kernel_rfl, by kernel_rfl, rfl⟩, t1 := ⟨by kernel_rfl, by kernel_rfl, rfl⟩, t2 := ⟨by kernel_rfl, by kernel_rfl, rfl⟩, t3 := ⟨rfl, by kernel_rfl, rfl⟩, t4 := ⟨rfl, by kernel_rfl, rfl⟩,
      t5 := ⟨by kernel_rfl, by kernel_rfl, rfl⟩, t6 := ⟨by kernel_rfl, by kernel_rfl, rfl⟩, t7 := ⟨by kernel_rfl, by kernel_rfl, rfl⟩, s0 := ⟨by kernel_rfl, by kernel_rfl, rfl⟩, s1 := ⟨rfl, by kernel_rfl, rfl⟩ }
  obtain ⟨cs, rfl, -⟩ := okWide_struct Tryz.underlying55 hv
  obtain ⟨fuel, hf⟩ := h
  obtain ⟨x, hx, hin⟩ := open_V T fuel _ _ hf
  refine ⟨x, ?_, hin⟩
  simp only [Value.cells] at hx
  rw [V.agg, ← hx]

set_option maxRecDepth 100000 in
theorem open_list {H : Type} {enc : TypeId × Value → H} {W : World} {base : Nat} {v : Value} {d : DataW H} {p : List MemPlace} (hv : Value.okWide Tryz.prog W .any base 48 v)
    (h : DataW.Trod enc Tryz.prog W 0 (fun _ => true) true 48 v d p) : ∃ la ll lc L, v = .slice la ll lc ∧ Vals W la ll lc L := by
  have T : VTypes Tryz.prog 55 48 52 82 :=
    { tk := 0, tn := 0, ts := 0, te := 0, tb := 0, tfv := 0, tfn := 0, f0 := _, f1 := _, f2 := _, f3 := _, f4 := _, f5 := _, f6 := _, f7 := _, g0 := _, g1 := _,
      hv := Tryz.underlying55, cv := by kernel_rfl, hsl := Tryz.underlying48, hsf := Tryz.underlying52, hf := Tryz.underlying82, cf := by kernel_rfl,
      t0 := ⟨by kernel_rfl, by kernel_rfl, rfl⟩, t1 := ⟨by kernel_rfl, by kernel_rfl, rfl⟩, t2 := ⟨by kernel_rfl, by kernel_rfl, rfl⟩, t3 := ⟨rfl, by kernel_rfl, rfl⟩, t4 := ⟨rfl, by kernel_rfl, rfl⟩,
      t5 := ⟨by kernel_rfl, by kernel_rfl, rfl⟩, t6 := ⟨by kernel_rfl, by kernel_rfl, rfl⟩, t7 := ⟨by kernel_rfl, by kernel_rfl, rfl⟩, s0 := ⟨by kernel_rfl, by kernel_rfl, rfl⟩, s1 := ⟨rfl, by kernel_rfl, rfl⟩ }
  obtain ⟨aa, len2, cap2, rfl⟩ := okWide_slice T.hsl hv
  obtain ⟨fuel, hf⟩ := h
  simp only [Value.cells] at hf
  rcases DataW.trod_slice T.hsl hf with ⟨h0, -⟩ | ⟨a, len, cap, elems, rest, n', hn', hcs, -, hb, hlc, hm, hle, hel, -, -⟩
  · simp at h0
    obtain ⟨rfl, rfl, rfl⟩ := h0
    exact ⟨none, 0, 0, fun _ => .leaf, rfl, ⟨Nat.le_refl _, by decide⟩, fun i hi => absurd hi (Nat.not_lt_zero _)⟩
  · simp at hcs
    obtain ⟨rfl, rfl, rfl⟩ := hcs
    have ha0 : 0 < len2 → ∃ b o, a = ⟨b, o, none⟩ := fun h0 => by
      have h1 := hel 0 h0
      rw [List.getElem?_eq_getElem (by omega)] at h1
      obtain ⟨cs', hc1, -⟩ := Option.bind_eq_some_iff.1 h1
      obtain ⟨b, o, ha, -, -⟩ := at_of_cells? (by rw [T.cv]; decide) hc1
      exact ⟨b, o, by simpa [Addr.add] using ha⟩
    have hL : ∃ L : Nat → V, ∀ i, i < len2 → (∃ b o, some a = some ⟨b, o, none⟩ ∧ At W b (o + i * 8) (L i).cells) ∧ (L i).In W := by
      refine choose_lt (p := fun i (v : V) => (∃ b o, some a = some ⟨b, o, none⟩ ∧ At W b (o + i * 8) v.cells) ∧ v.In W) fun i hi => ?_
      have h1 := hel i hi
      rw [List.getElem?_eq_getElem (by omega)] at h1
      obtain ⟨cs', hc1, hc2⟩ := Option.bind_eq_some_iff.1 h1
      rw [T.cv] at hc1
      obtain ⟨v, rfl, hvin⟩ := open_V T n' cs' _ hc2
      obtain ⟨b, o, rfl⟩ := ha0 (by omega)
      rw [add_plain] at hc1
      obtain ⟨b', o', ha, hat, -⟩ := at_of_cells? (by decide) hc1
      simp only [Addr.mk.injEq, and_true] at ha
      obtain ⟨h1, h2⟩ := ha
      subst h1 h2
      exact ⟨v, ⟨b, o, rfl, hat⟩, hvin⟩
    obtain ⟨L, hL⟩ := hL
    exact ⟨some a, len2, cap2, L, rfl, ⟨hlc, hm⟩, hL⟩

def will_zero : Array Value := #[.string ⟨#[]⟩, .slice none 0 0]
theorem will_reads (os : Os) {H : Type} (enc : TypeId × Value → H) : ∃ places, DataW.whole enc Tryz.prog ((laidWorld os).forCall (fun _ _ => 0) ⟨#[], will_zero, []⟩).memory Tryz.f4.params.toList Rows.operMaySpec.vars false will_zero.toList 8 = some ([.lit (.string []), .nil], [], places) :=
  ⟨[], by kernel_rfl⟩

set_option maxRecDepth 100000 in
theorem will_contract (H : Type) (enc : TypeId × Value → H) (W : World) (base : Nat) (args : Array Value) (ds gs : List (DataW H)) (before : List MemPlace)
    (hval0 : ∀ (j : Nat) t v, Tryz.f4.params[j]? = some t → args[j]? = some v → Value.okWide Tryz.prog W .any base t v)
    (hW : DataW.Whole enc Tryz.prog Tryz.f4.params.toList Rows.operMaySpec.vars false W args.toList ds gs before) (ht : Tabs W)
    (_hwt : (DataW.weightsEach Tryz.prog (Tryz.f4.params.toList ++ (OpenSpec.ofChange Rows.operMaySpec).bare.plain.varTypes Tryz.prog) (ds ++ gs)).all (· ≤ reachBytes) = true) :
    Calls Tryz.prog 4 args W fun e W' => ∃ v, e = .returned v ∧ Rows.operMaySpec.post enc Tryz.prog Tryz.f4 false true false false W args v W' := by
  have hval := hval0
  have hW' := hW
  obtain ⟨p, q, hA0, hV, rfl, _, _⟩ := hW
  have hA : DataW.TrodAll enc Tryz.prog W 0 (fun _ => true) true Tryz.f4.params.toList args.toList ds p := hA0
  rw [Tryz.params4] at hA hval
  obtain ⟨v0, v1, d0, d1, p0, p1, rfl, rfl, rfl, h0, h1⟩ := trodAll_two hA
  obtain ⟨rfl, rfl⟩ := trodVars_none hV
  obtain ⟨x0, rfl, rfl, rfl, w0⟩ := open_string Tryz.underlying9 (hval 0 9 v0 rfl rfl) h0
  obtain ⟨la, ll, lc, L, hx1, hin1⟩ := open_list (hval 1 48 v1 rfl rfl) h1
  clear hA0 hval0 hA
  simp only [List.append_nil, List.nil_append] at hW'
  have key := will_any x0 la ll lc L W hin1 ht
  rw [← hx1] at key
  refine key.mono fun e W' ⟨he, hb⟩ => ?_
  subst he
  refine ⟨_, rfl, [.lit (.string x0.data.toList), d1], [], p1, [], p1, [], hW', ?_, ?_, rfl, hb.frame _, fun h => by cases h⟩
  · exact trodAll_mk1 (shut_bool Tryz.underlying4 true)
  · have h1' := Below.trod Tryz.laidOut (by kernel_rfl) (of_decide_eq_true (by kernel_rfl)) h1 hb (fun x hx => by simpa using hW'.lt x hx)
    have h2 := trodAll_mk2 (shut_string Tryz.underlying9 w0) h1'
    rw [List.nil_append] at h2
    exact h2

set_option maxRecDepth 100000 in
theorem will_lifted (os : Os) (started : os.Started) (H : Type) (enc : TypeId × Value → H) (F : Stop.Interp) :
    ReturnsInHanded {} Tryz.checked os 4 .any ((OpenSpec.ofChange Rows.operMaySpec).preRow enc Tryz.prog Tryz.f4 Rows.operMayRow.domain false Rows.operMayRow.laid) (((OpenSpec.ofChange Rows.operMaySpec).at F).post enc Tryz.prog Tryz.f4 false true false false) := by
  obtain ⟨places, hx⟩ := will_reads os enc
  refine returnsInHanded_of_row (C := Tryz.checked) (s := OpenSpec.ofChange Rows.operMaySpec) Tryz.own started (by kernel_rfl) Tryz.func4
    (witness_row_at (enc := enc) (C := Tryz.checked) false (laidWorld os) will_zero rfl (by kernel_rfl) (by kernel_rfl) (by kernel_rfl)
      (OpenSpec.preRow_of_cond 8 hx (by kernel_rfl) (fun k hk => by cases hk) (by kernel_rfl) (laid_met os _))) ?_
  intro W base args ds gs before hval hW _ _ hwt hL _ _
  exact will_contract H enc W base args ds gs before hval hW (tabs_of_laid rfl hL) hwt

theorem will_said : Rows.OperMaySaid :=
  OpenClaim.holds_of_cond 4 Tryz.f4 rfl rfl rfl rfl rfl rfl rfl ⟨rfl, rfl, rfl, rfl, rfl⟩ rfl rfl rfl rfl rfl (by kernel_rfl) Tryz.func4 (by kernel_rfl)
    (of_decide_eq_true (by kernel_rfl)) (by unfold Func.isWrapper; first | (rw [if_pos (by decide +kernel)]; kernel_rfl) | (rw [if_neg (by decide +kernel)]; exact ⟨rfl, rfl⟩))
    (fun os started H enc _ F => by rw [OpenClaim.pre_eq_preRow]; exact will_lifted os started H enc F)

theorem will_plain (f : FuncId) (fn : Func) (hf : Tryz.pinned.checked.prog.funcNamed "tapestry/tapestrylaw02.OperMay" = some f) (hfn : Tryz.pinned.checked.prog.funcs[f]? = some fn) :
    false = Tryz.pinned.checked.prog.looks [] ∧ ∀ (j : Nat) t, fn.params[j]? = some t → Tryz.pinned.checked.prog.wantsStandIn t = false := by
  obtain rfl : f = 4 := Option.some.inj ((show Tryz.prog.funcNamed "tapestry/tapestrylaw02.OperMay" = some 4 by kernel_rfl).symm.trans hf) |>.symm
  obtain rfl : fn = Tryz.f4 := (Option.some.inj (Tryz.func4.symm.trans hfn)).symm
  refine ⟨by kernel_rfl, fun j t ht => ?_⟩
  rw [Tryz.params4] at ht
  have hm := Array.mem_of_getElem? ht
  simp at hm
  rcases hm with rfl | rfl
  · exact (show Tryz.prog.wantsStandIn 9 = false by kernel_rfl)
  · exact (show Tryz.prog.wantsStandIn 48 = false by kernel_rfl)

theorem will_card : Rows.OperMayCardSaid :=
  Claim7.holds_tied_plain_at .later [] _ _ _ _ will_said (fun _ h => by cases h) (by kernel_rfl) (fun _ h => by cases h) operMay_row_tie rfl ⟨rfl, rfl⟩ (by kernel_rfl) rfl will_plain (by kernel_rfl)

#print axioms will_card
end Go.Proofs.YtjbapldlgnlepaaGreatDoor
