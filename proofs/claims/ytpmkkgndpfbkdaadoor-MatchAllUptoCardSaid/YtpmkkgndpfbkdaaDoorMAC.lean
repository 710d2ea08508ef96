/-
  MatchAll's card, in the second form: for any two lists of values whose readings are together of bulk at most 2^20 the law returns true and leaves its arguments as they were.
  Conditions: the second form's bound on the bulk; the listed variables are tied to the program's text by the card.
-/
import Derived.Test.YtpmkkgndpfbkdaaDoorMaX
import Derived.Test.YtpmkkgndpfbkdaaDoorNkDoor
namespace Go.Proofs.YtpmkkgndpfbkdaaDoor
set_option linter.unusedVariables false
set_option linter.unusedSimpArgs false
open Go.ChangeShapes Go.WideShapes Go.ChangeAt Go.RowKit Go.Deep

theorem light_tl {H : Type} {P : Program} {t t' : TypeId} {ts : List TypeId} {d0 d1 : DataW H} {ds : List (DataW H)} (h : (DataW.weightsEach P (t :: t' :: ts) (d0 :: d1 :: ds)).all (· ≤ reachBytes) = true) : Light P t' d1 := by
  intro n hn
  rw [List.all_eq_true] at h
  have := h n (by simp only [DataW.weightsEach, List.mem_append]; exact .inr (.inl hn))
  simpa using this

def mall_zero : Array Value := #[.slice none 0 0, .slice none 0 0]
theorem mall_reads (os : Os) {H : Type} (enc : TypeId × Value → H) : ∃ places, DataW.whole enc Tryd.prog ((laidWorld os).forCall (fun _ _ => 0) ⟨#[], mall_zero, []⟩).memory Tryd.f4.params.toList Rows.matchAllSpec.vars false mall_zero.toList 8 = some ([.nil, .nil], [], places) :=
  ⟨[], by kernel_rfl⟩

set_option maxRecDepth 100000 in
theorem mall_contract (H : Type) (enc : TypeId × Value → H) (W : World) (base : Nat) (args : Array Value) (ds gs : List (DataW H)) (before : List MemPlace)
    (hval0 : ∀ (j : Nat) t v, Tryd.f4.params[j]? = some t → args[j]? = some v → Value.okWide Tryd.prog W .any base t v)
    (hW : DataW.Whole enc Tryd.prog Tryd.f4.params.toList Rows.matchAllSpec.vars false W args.toList ds gs before) (ht : Tabs W)
    (hbk : Rows.uptoBulkAll (ds ++ gs) ≤ 1048576)
    (hsz : (DataW.weightsEach Tryd.prog (Tryd.f4.params.toList ++ (Rows.OpenSpec.upto Rows.matchAllSpec).bare.plain.varTypes Tryd.prog) (ds ++ gs)).all (· ≤ reachBytes) = true) :
    Calls Tryd.prog 4 args W fun e W' => ∃ v, e = .returned v ∧ Rows.matchAllSpec.post enc Tryd.prog Tryd.f4 false true false false W args v W' := by
  have hval := hval0
  have hW' := hW
  obtain ⟨p, q, hA0, hV, rfl, _, _⟩ := hW
  have hA : DataW.TrodAll enc Tryd.prog W 0 (fun _ => true) true Tryd.f4.params.toList args.toList ds p := hA0
  rw [Tryd.params4] at hA hval hsz
  obtain ⟨v0, v1, d0, d1, p0, p1, rfl, rfl, rfl, h0, h1⟩ := trodAll_two hA
  obtain ⟨rfl, rfl⟩ := trodVars_none hV
  obtain ⟨la, ll, lc, L, hx0, hlst, -, hbulk⟩ := open_list (hval 0 22 v0 rfl rfl) h0
  obtain ⟨na, nl, nc, M, hx1, hlst1, -, hbulk1⟩ := open_list (hval 1 22 v1 rfl rfl) h1
  rw [List.append_nil] at hsz
  have hls := (hlst (light_hd hsz)).1
  have hls1 := (hlst1 (light_tl hsz)).1
  have hn : (listV L ll).length ≤ 4611686018427387904 := by
    have := list_size L ll
    simp only [List.append_nil, Rows.uptoBulkAll, Nat.add_zero] at hbk
    omega
  have hn1 : (listV M nl).length ≤ 4611686018427387904 := by
    have := list_size M nl
    simp only [List.append_nil, Rows.uptoBulkAll, Nat.add_zero] at hbk
    omega
  clear hA0 hval0 hA hsz
  simp only [List.append_nil] at hW'
  have hlt : ∀ x ∈ p0 ++ p1, x.block < W.heap.size := fun x hx => by simpa using hW'.lt x hx
  have hargs : ∀ (W' : World), Below W.heap.size W W' → DataW.TrodAll enc Tryd.prog W' 0 (fun b => decide (b < W.heap.size)) true [22, 22] [v0, v1] [d0, d1] (p0 ++ p1) := fun W' hn =>
    trodAll_mk2 (Below.trod Tryd.laidOut (by kernel_rfl) (of_decide_eq_true (by kernel_rfl)) h0 hn (fun x hx => hlt x (List.mem_append_left _ hx))) (Below.trod Tryd.laidOut (by kernel_rfl) (of_decide_eq_true (by kernel_rfl)) h1 hn (fun x hx => hlt x (List.mem_append_right _ hx)))
  have key := ma_any la ll lc L na nl nc M W hls hls1 hn hn1 ht
  rw [← hx0, ← hx1] at key
  refine key.mono fun e W' ⟨he, hb⟩ => ?_
  subst he
  refine ⟨_, rfl, [d0, d1], [], p0 ++ p1, [], p0 ++ p1, [], hW', ?_, ?_, rfl, hb.frame _, fun h => by cases h⟩
  · exact trodAll_mk1 (shut_bool Tryd.underlying4 true)
  · exact hargs W' hb

set_option maxRecDepth 100000 in
theorem mall_lifted (os : Os) (started : os.Started) (H : Type) (enc : TypeId × Value → H) (F : Stop.Interp) :
    ReturnsInHanded {} Tryd.checked os 4 .any ((Rows.OpenSpec.upto Rows.matchAllSpec).preRow enc Tryd.prog Tryd.f4 Rows.matchAllUptoRow.domain false Rows.matchAllUptoRow.laid) (((Rows.OpenSpec.upto Rows.matchAllSpec).at F).post enc Tryd.prog Tryd.f4 false true false false) := by
  obtain ⟨places, hx⟩ := mall_reads os enc
  refine returnsInHanded_of_row (C := Tryd.checked) (s := Rows.OpenSpec.upto Rows.matchAllSpec) Tryd.own started (by kernel_rfl) Tryd.func4
    (witness_row_at (enc := enc) (C := Tryd.checked) false (laidWorld os) mall_zero rfl (by kernel_rfl) (by kernel_rfl) (by kernel_rfl)
      (OpenSpec.preRow_of_cond 8 hx (by kernel_rfl) (fun k hk => by cases hk; kernel_rfl) (by kernel_rfl) (laid_met os _))) ?_
  intro W base args ds gs before hval hW _ hc hsz hL _ _
  exact mall_contract H enc W base args ds gs before hval hW (tabs_of_laid rfl hL) (of_decide_eq_true (hc _ rfl)) hsz

theorem mall_said : Rows.MatchAllUptoSaid :=
  OpenClaim.holds_of_cond 4 Tryd.f4 rfl rfl rfl rfl rfl rfl rfl ⟨rfl, rfl, rfl, rfl, rfl⟩ rfl rfl rfl rfl rfl (by kernel_rfl) Tryd.func4 (by kernel_rfl)
    (of_decide_eq_true (by kernel_rfl)) (by unfold Func.isWrapper; first | (rw [if_pos (by decide +kernel)]; kernel_rfl) | (rw [if_neg (by decide +kernel)]; exact ⟨rfl, rfl⟩))
    (fun os started H enc _ F => by rw [OpenClaim.pre_eq_preRow]; exact mall_lifted os started H enc F)

theorem mall_plain (f : FuncId) (fn : Func) (hf : Tryd.pinned.checked.prog.funcNamed "tapestry/tapestrylaw08.MatchAll" = some f) (hfn : Tryd.pinned.checked.prog.funcs[f]? = some fn) :
    false = Tryd.pinned.checked.prog.looks [] ∧ ∀ (j : Nat) t, fn.params[j]? = some t → Tryd.pinned.checked.prog.wantsStandIn t = false := by
  obtain rfl : f = 4 := Option.some.inj ((show Tryd.prog.funcNamed "tapestry/tapestrylaw08.MatchAll" = some 4 by kernel_rfl).symm.trans hf) |>.symm
  obtain rfl : fn = Tryd.f4 := (Option.some.inj (Tryd.func4.symm.trans hfn)).symm
  refine ⟨by kernel_rfl, fun j t ht => ?_⟩
  rw [Tryd.params4] at ht
  have hm := Array.mem_of_getElem? ht
  simp at hm
  subst hm
  exact (show Tryd.prog.wantsStandIn 22 = false by kernel_rfl)

theorem mall_card : Rows.MatchAllUptoCardSaid :=
  Claim7.holds_tied_plain_at .later [] _ _ _ _ mall_said (fun _ h => by cases h) (by kernel_rfl) (fun _ h => by cases h) matchAllUpto_row_tie rfl ⟨rfl, rfl⟩ (by kernel_rfl) rfl mall_plain (by kernel_rfl)

#print axioms mall_card
end Go.Proofs.YtpmkkgndpfbkdaaDoor
