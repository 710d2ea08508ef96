/-
  MatchChildren's card, in the second form: for any two lists of children whose readings are together of bulk at most 2^20 the law returns true and leaves its arguments as they were.
  Conditions: the second form's bound on the bulk; the listed variables are tied to the program's text by the card.
-/
import Derived.Test.YtpmkkgndpfbkdaaGreatDoorMaC
import Derived.Test.YtpmkkgndpfbkdaaGreatDoorChB
namespace Go.Proofs.YtpmkkgndpfbkdaaGreatDoor
set_option linter.unusedVariables false
set_option linter.unusedSimpArgs false
open Go.ChangeShapes Go.WideShapes Go.ChangeAt Go.RowKit Go.Deep

def mch_zero : Array Value := #[.slice none 0 0, .slice none 0 0]
theorem mch_reads (os : Os) {H : Type} (enc : TypeId × Value → H) : ∃ places, DataW.whole enc Tryz.prog ((laidWorld os).forCall (fun _ _ => 0) ⟨#[], mch_zero, []⟩).memory Tryz.f3.params.toList Rows.matchChildrenSpec.vars false mch_zero.toList 8 = some ([.nil, .nil], [], places) :=
  ⟨[], by kernel_rfl⟩

set_option maxRecDepth 100000 in
theorem mch_contract (H : Type) (enc : TypeId × Value → H) (W : World) (base : Nat) (args : Array Value) (ds gs : List (DataW H)) (before : List MemPlace)
    (hval0 : ∀ (j : Nat) t v, Tryz.f3.params[j]? = some t → args[j]? = some v → Value.okWide Tryz.prog W .any base t v)
    (hW : DataW.Whole enc Tryz.prog Tryz.f3.params.toList Rows.matchChildrenSpec.vars false W args.toList ds gs before)
    (hbk : Rows.uptoBulkAll (ds ++ gs) ≤ 1048576)
    (hsz : (DataW.weightsEach Tryz.prog (Tryz.f3.params.toList ++ (Rows.OpenSpec.upto Rows.matchChildrenSpec).bare.plain.varTypes Tryz.prog) (ds ++ gs)).all (· ≤ reachBytes) = true) :
    Calls Tryz.prog 3 args W fun e W' => ∃ v, e = .returned v ∧ Rows.matchChildrenSpec.post enc Tryz.prog Tryz.f3 false true false false W args v W' := by
  have hval := hval0
  have hW' := hW
  obtain ⟨p, q, hA0, hV, rfl, _, _⟩ := hW
  have hA : DataW.TrodAll enc Tryz.prog W 0 (fun _ => true) true Tryz.f3.params.toList args.toList ds p := hA0
  rw [Tryz.params3] at hA hval hsz
  obtain ⟨v0, v1, d0, d1, p0, p1, rfl, rfl, rfl, h0, h1⟩ := trodAll_two hA
  obtain ⟨rfl, rfl⟩ := trodVars_none hV
  obtain ⟨la, ll, lc, K, hx0, hK, hfit0, hbulk⟩ := open_children2 (hval 0 22 v0 rfl rfl) h0
  obtain ⟨na, nl, nc, N, hx1, hN, hfit1, hbulk1⟩ := open_children2 (hval 1 22 v1 rfl rfl) h1
  rw [List.append_nil] at hsz
  have hls := hfit0 (light_hd hsz)
  have hls1 := hfit1 (light_tl hsz)
  simp only [List.append_nil, Rows.uptoBulkAll, Nat.add_zero] at hbk
  have hn : ll ≤ sumTo ll (fun i => (K i).val.size + 1) := Tw.le_sumTo_all (fun i _ => Nat.succ_le_succ (Nat.zero_le _))
  have hn1 : nl ≤ sumTo nl (fun i => (N i).val.size + 1) := Tw.le_sumTo_all (fun i _ => Nat.succ_le_succ (Nat.zero_le _))
  have hz : ∀ i, i < ll → (K i).val.size ≤ 1099511627776 := fun i hi => by
    have := Tw.le_sumTo (f := fun i => (K i).val.size + 1) hi
    omega
  have hz1 : ∀ i, i < nl → (N i).val.size ≤ 1099511627776 := fun i hi => by
    have := Tw.le_sumTo (f := fun i => (N i).val.size + 1) hi
    omega
  clear hA0 hval0 hA hsz
  simp only [List.append_nil] at hW'
  have hlt : ∀ x ∈ p0 ++ p1, x.block < W.heap.size := fun x hx => by simpa using hW'.lt x hx
  have hargs : ∀ (W' : World), Below W.heap.size W W' → DataW.TrodAll enc Tryz.prog W' 0 (fun b => decide (b < W.heap.size)) true [22, 22] [v0, v1] [d0, d1] (p0 ++ p1) := fun W' hn =>
    trodAll_mk2 (Below.trod Tryz.laidOut (by kernel_rfl) (of_decide_eq_true (by kernel_rfl)) h0 hn (fun x hx => hlt x (List.mem_append_left _ hx))) (Below.trod Tryz.laidOut (by kernel_rfl) (of_decide_eq_true (by kernel_rfl)) h1 hn (fun x hx => hlt x (List.mem_append_right _ hx)))
  have key := mch_any la ll lc K na nl nc N W hK hN (by omega) (by omega) hls hls1 hz hz1
  rw [← hx0, ← hx1] at key
  refine key.mono fun e W' ⟨he, hb⟩ => ?_
  subst he
  refine ⟨_, rfl, [d0, d1], [], p0 ++ p1, [], p0 ++ p1, [], hW', ?_, ?_, rfl, hb.frame _, fun h => by cases h⟩
  · exact trodAll_mk1 (shut_bool Tryz.underlying4 true)
  · exact hargs W' hb

set_option maxRecDepth 100000 in
theorem mch_lifted (os : Os) (started : os.Started) (H : Type) (enc : TypeId × Value → H) (F : Stop.Interp) :
    ReturnsInHanded {} Tryz.checked os 3 .any ((Rows.OpenSpec.upto Rows.matchChildrenSpec).preRow enc Tryz.prog Tryz.f3 Rows.matchChildrenUptoRow.domain false Rows.matchChildrenUptoRow.laid) (((Rows.OpenSpec.upto Rows.matchChildrenSpec).at F).post enc Tryz.prog Tryz.f3 false true false false) := by
  obtain ⟨places, hx⟩ := mch_reads os enc
  refine returnsInHanded_of_row (C := Tryz.checked) (s := Rows.OpenSpec.upto Rows.matchChildrenSpec) Tryz.own started (by kernel_rfl) Tryz.func3
    (witness_row_at (enc := enc) (C := Tryz.checked) false (laidWorld os) mch_zero rfl (by kernel_rfl) (by kernel_rfl) (by kernel_rfl)
      (OpenSpec.preRow_of_cond 8 hx (by kernel_rfl) (fun k hk => by cases hk; kernel_rfl) (by kernel_rfl) (laid_met os _))) ?_
  intro W base args ds gs before hval hW _ hc hsz hL _ _
  exact mch_contract H enc W base args ds gs before hval hW (of_decide_eq_true (hc _ rfl)) hsz

theorem mch_said : Rows.MatchChildrenUptoSaid :=
  OpenClaim.holds_of_cond 3 Tryz.f3 rfl rfl rfl rfl rfl rfl rfl ⟨rfl, rfl, rfl, rfl, rfl⟩ rfl rfl rfl rfl rfl (by kernel_rfl) Tryz.func3 (by kernel_rfl)
    (of_decide_eq_true (by kernel_rfl)) (by unfold Func.isWrapper; first | (rw [if_pos (by decide +kernel)]; kernel_rfl) | (rw [if_neg (by decide +kernel)]; exact ⟨rfl, rfl⟩))
    (fun os started H enc _ F => by rw [OpenClaim.pre_eq_preRow]; exact mch_lifted os started H enc F)

theorem mch_plain (f : FuncId) (fn : Func) (hf : Tryz.pinned.checked.prog.funcNamed "tapestry/tapestrylaw08.MatchChildren" = some f) (hfn : Tryz.pinned.checked.prog.funcs[f]? = some fn) :
    false = Tryz.pinned.checked.prog.looks [] ∧ ∀ (j : Nat) t, fn.params[j]? = some t → Tryz.pinned.checked.prog.wantsStandIn t = false := by
  obtain rfl : f = 3 := Option.some.inj ((show Tryz.prog.funcNamed "tapestry/tapestrylaw08.MatchChildren" = some 3 by kernel_rfl).symm.trans hf) |>.symm
  obtain rfl : fn = Tryz.f3 := (Option.some.inj (Tryz.func3.symm.trans hfn)).symm
  refine ⟨by kernel_rfl, fun j t ht => ?_⟩
  rw [Tryz.params3] at ht
  have hm := Array.mem_of_getElem? ht
  simp at hm
  subst hm
  exact (show Tryz.prog.wantsStandIn 22 = false by kernel_rfl)

theorem mch_card : Rows.MatchChildrenUptoCardSaid :=
  Claim7.holds_tied_plain_at .later [] _ _ _ _ mch_said (fun _ h => by cases h) (by kernel_rfl) (fun _ h => by cases h) matchChildrenUpto_row_tie rfl ⟨rfl, rfl⟩ (by kernel_rfl) rfl mch_plain (by kernel_rfl)

#print axioms mch_card
end Go.Proofs.YtpmkkgndpfbkdaaGreatDoor
