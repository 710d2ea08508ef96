/-
  NormKinds: for any three children the law returns true and leaves its arguments as they were: being alike is an equivalence, and looks at kind and name alone.
  Conditions: none beyond the row's own; the listed variables are tied to the program's text by the card.
-/
import Derived.Test.YtecmghfofcofpaaDoorNKinds
namespace Go.Proofs.YtecmghfofcofpaaDoor
set_option linter.unusedVariables false
set_option linter.unusedSimpArgs false
open Go.ChangeShapes Go.WideShapes Go.ChangeAt Go.RowKit Go.Deep

/-- What the type table says of a child's type. -/
structure CTypes (P : Program) (tc tv : TypeId) where
  (f0 f1 f2 f3 : Field)
  hc : P.underlying tc = some (.struct #[f0, f1, f2, f3])
  cc : P.cellsOf tc = 11
  t0 : P.underlying f0.type = some .string ∧ P.cellsOf f0.type = 1 ∧ f0.offset = 0
  t1 : P.underlying f1.type = some (.int .u8) ∧ P.cellsOf f1.type = 1 ∧ f1.offset = 1
  t2 : P.underlying f2.type = some .string ∧ P.cellsOf f2.type = 1 ∧ f2.offset = 2
  t3 : f3.type = tv ∧ P.cellsOf f3.type = 8 ∧ f3.offset = 3

theorem open_C {H : Type} {enc : TypeId × Value → H} {P : Program} {w : World} {base : Nat} {held : Bool} {tc tv tsl tsf tf : TypeId} (T : VTypes P tv tsl tsf tf) (U : CTypes P tc tv) {spare : Nat → Bool} (fuel : Nat) (cs : List Value) (x : DataW H × List MemPlace) (h : DataW.trod enc P w base spare held fuel tc cs = some x) :
    ∃ c : C, cs = c.cells ∧ c.In w := by
  obtain ⟨xs, m, rfl, rfl, hl, hlen, hf⟩ := DataW.trod_struct U.hc h
  rw [U.cc] at hl
  match xs, hlen, cs, hl with
  | [y0, y1, y2, y3], _, [v0, v1, v2, v3, v4, v5, v6, v7, v8, v9, v10], _ =>
    have g0 := hf 0 U.f0 rfl
    have g1 := hf 1 U.f1 rfl
    have g2 := hf 2 U.f2 rfl
    have g3 := hf 3 U.f3 rfl
    rw [U.t0.2.2, U.t0.2.1] at g0
    rw [U.t1.2.2, U.t1.2.1] at g1
    rw [U.t2.2.2, U.t2.2.1] at g2
    rw [U.t3.2.2, U.t3.2.1, U.t3.1] at g3
    simp at g0 g1 g2 g3
    obtain ⟨s, hv0, -, ws⟩ := DataW.trod_string U.t0.1 g0
    obtain ⟨k, hv1, -, wk⟩ := DataW.trod_int U.t1.1 g1
    obtain ⟨n, hv2, -, wn⟩ := DataW.trod_string U.t2.1 g2
    simp at hv0 hv1 hv2
    subst hv0 hv1 hv2
    obtain ⟨v, hv, hin⟩ := open_V T _ _ _ g3
    exact ⟨⟨s, k, n, v⟩, by rw [C.cells, ← hv], ws, wf_u8 wk, wn, hin⟩

set_option maxRecDepth 100000 in
/-- An argument of type api.Child opens into a child that lies in memory. -/
theorem open_child {H : Type} {enc : TypeId × Value → H} {W : World} {base : Nat} {v : Value} {d : DataW H} {p : List MemPlace} (hv : Value.okWide Tryd.prog W .any base 34 v)
    (h : DataW.Trod enc Tryd.prog W 0 (fun _ => true) true 34 v d p) : ∃ x : C, v = x.agg ∧ x.In W := by
  have T : VTypes Tryd.prog 32 22 30 68 :=
    { tk := 0, tn := 0, ts := 0, te := 0, tb := 0, tfv := 0, tfn := 0, f0 := _, f1 := _, f2 := _, f3 := _, f4 := _, f5 := _, f6 := _, f7 := _, g0 := _, g1 := _,
      hv := Tryd.underlying32, cv := by kernel_rfl, hsl := Tryd.underlying22, hsf := Tryd.underlying30, hf := Tryd.underlying68, cf := by kernel_rfl,
      t0 := ⟨by kernel_rfl, by kernel_rfl, rfl⟩, t1 := ⟨by kernel_rfl, by kernel_rfl, rfl⟩, t2 := ⟨by kernel_rfl, by kernel_rfl, rfl⟩, t3 := ⟨rfl, by kernel_rfl, rfl⟩, t4 := ⟨rfl, by kernel_rfl, rfl⟩,
      t5 := ⟨by kernel_rfl, by kernel_rfl, rfl⟩, t6 := ⟨by kernel_rfl, by kernel_rfl, rfl⟩, t7 := ⟨by kernel_rfl, by kernel_rfl, rfl⟩, s0 := ⟨by kernel_rfl, by kernel_rfl, rfl⟩, s1 := ⟨rfl, by kernel_rfl, rfl⟩ }
  have U : CTypes Tryd.prog 34 32 :=
    { f0 := _, f1 := _, f2 := _, f3 := _, hc := Tryd.underlying34, cc := by kernel_rfl, t0 := ⟨by kernel_rfl, by kernel_rfl, rfl⟩, t1 := ⟨by kernel_rfl, by kernel_rfl, rfl⟩, t2 := ⟨by kernel_rfl, by kernel_rfl, rfl⟩, t3 := ⟨rfl, by kernel_rfl, rfl⟩ }
  obtain ⟨cs, rfl, -⟩ := okWide_struct Tryd.underlying34 hv
  obtain ⟨fuel, hf⟩ := h
  obtain ⟨x, hx, hin⟩ := open_C T U fuel _ _ hf
  refine ⟨x, ?_, hin⟩
  simp only [Value.cells] at hx
  rw [C.agg, ← hx]

def kinds_zero : Array Value := #[.agg #[.string ByteArray.empty, .int .u8 0, .string ByteArray.empty, .int .u8 0, .int .i64 0, .string ByteArray.empty, .slice none 0 0, .slice none 0 0, .int .u8 0, .string ByteArray.empty, .bool false], .agg #[.string ByteArray.empty, .int .u8 0, .string ByteArray.empty, .int .u8 0, .int .i64 0, .string ByteArray.empty, .slice none 0 0, .slice none 0 0, .int .u8 0, .string ByteArray.empty, .bool false], .agg #[.string ByteArray.empty, .int .u8 0, .string ByteArray.empty, .int .u8 0, .int .i64 0, .string ByteArray.empty, .slice none 0 0, .slice none 0 0, .int .u8 0, .string ByteArray.empty, .bool false]]
theorem kinds_reads (os : Os) {H : Type} (enc : TypeId × Value → H) : ∃ places, DataW.whole enc Tryd.prog ((laidWorld os).forCall (fun _ _ => 0) ⟨#[], kinds_zero, []⟩).memory Tryd.f6.params.toList Rows.normKindsSpec.vars false kinds_zero.toList 8 = some ([.agg [.lit (.string []), .lit (.int .u8 0), .lit (.string []), .agg [.lit (.int .u8 0), .lit (.int .i64 0), .lit (.string []), .nil, .nil, .lit (.int .u8 0), .lit (.string []), .lit (.bool false)]], .agg [.lit (.string []), .lit (.int .u8 0), .lit (.string []), .agg [.lit (.int .u8 0), .lit (.int .i64 0), .lit (.string []), .nil, .nil, .lit (.int .u8 0), .lit (.string []), .lit (.bool false)]], .agg [.lit (.string []), .lit (.int .u8 0), .lit (.string []), .agg [.lit (.int .u8 0), .lit (.int .i64 0), .lit (.string []), .nil, .nil, .lit (.int .u8 0), .lit (.string []), .lit (.bool false)]]], [], places) :=
  ⟨[], by kernel_rfl⟩

set_option maxRecDepth 100000 in
theorem kinds_contract (H : Type) (enc : TypeId × Value → H) (W : World) (base : Nat) (args : Array Value) (ds gs : List (DataW H)) (before : List MemPlace)
    (hval0 : ∀ (j : Nat) t v, Tryd.f6.params[j]? = some t → args[j]? = some v → Value.okWide Tryd.prog W .any base t v)
    (hW : DataW.Whole enc Tryd.prog Tryd.f6.params.toList Rows.normKindsSpec.vars false W args.toList ds gs before) (ht : Tabs W)
    (hsz : (DataW.weightsEach Tryd.prog (Tryd.f6.params.toList ++ (OpenSpec.ofChange Rows.normKindsSpec).bare.plain.varTypes Tryd.prog) (ds ++ gs)).all (· ≤ reachBytes) = true) :
    Calls Tryd.prog 6 args W fun e W' => ∃ v, e = .returned v ∧ Rows.normKindsSpec.post enc Tryd.prog Tryd.f6 false true false false W args v W' := by
  have hval := hval0
  have hW' := hW
  obtain ⟨p, q, hA0, hV, rfl, _, _⟩ := hW
  have hA : DataW.TrodAll enc Tryd.prog W 0 (fun _ => true) true Tryd.f6.params.toList args.toList ds p := hA0
  rw [Tryd.params6] at hA hval hsz
  obtain ⟨v0, v1, v2, d0, d1, d2, p0, p1, p2, rfl, rfl, rfl, h0, h1, h2⟩ := trodAll_three hA
  obtain ⟨rfl, rfl⟩ := trodVars_none hV
  obtain ⟨x0, hx0, hin0⟩ := open_child (hval 0 34 v0 rfl rfl) h0
  obtain ⟨x1, hx1, hin1⟩ := open_child (hval 1 34 v1 rfl rfl) h1
  obtain ⟨x2, hx2, hin2⟩ := open_child (hval 2 34 v2 rfl rfl) h2
  clear hA0 hval0 hA hsz
  simp only [List.append_nil, List.append_assoc] at hW'
  have hlt : ∀ x ∈ p0 ++ (p1 ++ p2), x.block < W.heap.size := fun x hx => by simpa using hW'.lt x hx
  have hargs : ∀ (W' : World), Below W.heap.size W W' → DataW.TrodAll enc Tryd.prog W' 0 (fun b => decide (b < W.heap.size)) true [34, 34, 34] [v0, v1, v2] [d0, d1, d2] (p0 ++ (p1 ++ p2)) := fun W' hn =>
    trodAll_mk3 (Below.trod Tryd.laidOut (by kernel_rfl) (of_decide_eq_true (by kernel_rfl)) h0 hn (fun x hx => hlt x (List.mem_append_left _ hx))) (Below.trod Tryd.laidOut (by kernel_rfl) (of_decide_eq_true (by kernel_rfl)) h1 hn (fun x hx => hlt x (List.mem_append_right _ (List.mem_append_left _ hx)))) (Below.trod Tryd.laidOut (by kernel_rfl) (of_decide_eq_true (by kernel_rfl)) h2 hn (fun x hx => hlt x (List.mem_append_right _ (List.mem_append_right _ hx))))
  have key := kinds_any x0 x1 x2 W hin0.2.2.2 hin1.2.2.2 hin2.2.2.2 ht
  rw [← hx0, ← hx1, ← hx2] at key
  refine key.mono fun e W' ⟨he, hb⟩ => ?_
  subst he
  refine ⟨_, rfl, [d0, d1, d2], [], p0 ++ (p1 ++ p2), [], p0 ++ (p1 ++ p2), [], hW', ?_, ?_, rfl, hb.frame _, fun h => by cases h⟩
  · exact trodAll_mk1 (shut_bool Tryd.underlying4 true)
  · exact hargs W' hb

set_option maxRecDepth 100000 in
theorem kinds_lifted (os : Os) (started : os.Started) (H : Type) (enc : TypeId × Value → H) (F : Stop.Interp) :
    ReturnsInHanded {} Tryd.checked os 6 .any ((OpenSpec.ofChange Rows.normKindsSpec).preRow enc Tryd.prog Tryd.f6 Rows.normKindsRow.domain false Rows.normKindsRow.laid) (((OpenSpec.ofChange Rows.normKindsSpec).at F).post enc Tryd.prog Tryd.f6 false true false false) := by
  obtain ⟨places, hx⟩ := kinds_reads os enc
  refine returnsInHanded_of_row (C := Tryd.checked) (s := OpenSpec.ofChange Rows.normKindsSpec) Tryd.own started (by kernel_rfl) Tryd.func6
    (witness_row_at (enc := enc) (C := Tryd.checked) false (laidWorld os) kinds_zero rfl (by kernel_rfl) (by kernel_rfl) (by kernel_rfl)
      (OpenSpec.preRow_of_cond 8 hx (by kernel_rfl) (fun k hk => by cases hk) (by kernel_rfl) (laid_met os _))) ?_
  intro W base args ds gs before hval hW _ _ hsz hL _ _
  exact kinds_contract H enc W base args ds gs before hval hW (tabs_of_laid rfl hL) hsz

theorem kinds_said : Rows.NormKindsSaid :=
  OpenClaim.holds_of_cond 6 Tryd.f6 rfl rfl rfl rfl rfl rfl rfl ⟨rfl, rfl, rfl, rfl, rfl⟩ rfl rfl rfl rfl rfl (by kernel_rfl) Tryd.func6 (by kernel_rfl)
    (of_decide_eq_true (by kernel_rfl)) (by unfold Func.isWrapper; first | (rw [if_pos (by decide +kernel)]; kernel_rfl) | (rw [if_neg (by decide +kernel)]; exact ⟨rfl, rfl⟩))
    (fun os started H enc _ F => by rw [OpenClaim.pre_eq_preRow]; exact kinds_lifted os started H enc F)

theorem kinds_plain (f : FuncId) (fn : Func) (hf : Tryd.pinned.checked.prog.funcNamed "tapestry/tapestrylaw07.NormKinds" = some f) (hfn : Tryd.pinned.checked.prog.funcs[f]? = some fn) :
    false = Tryd.pinned.checked.prog.looks [] ∧ ∀ (j : Nat) t, fn.params[j]? = some t → Tryd.pinned.checked.prog.wantsStandIn t = false := by
  obtain rfl : f = 6 := Option.some.inj ((show Tryd.prog.funcNamed "tapestry/tapestrylaw07.NormKinds" = some 6 by kernel_rfl).symm.trans hf) |>.symm
  obtain rfl : fn = Tryd.f6 := (Option.some.inj (Tryd.func6.symm.trans hfn)).symm
  refine ⟨by kernel_rfl, fun j t ht => ?_⟩
  rw [Tryd.params6] at ht
  have hm := Array.mem_of_getElem? ht
  simp at hm
  subst hm
  exact (show Tryd.prog.wantsStandIn 34 = false by kernel_rfl)

theorem kinds_card : Rows.NormKindsCardSaid :=
  Claim7.holds_tied_plain_at .later [] _ _ _ _ kinds_said (fun _ h => by cases h) (by kernel_rfl) (fun _ h => by cases h) normKinds_row_tie rfl ⟨rfl, rfl⟩ (by kernel_rfl) rfl kinds_plain (by kernel_rfl)

#print axioms kinds_card
end Go.Proofs.YtecmghfofcofpaaDoor
