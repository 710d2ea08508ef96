/-
  Walks: place.Steps answers 'Pl.steps' in a row of its own ('steps_any').
  Conditions: the rows lie in memory, 1000 numbers at most.
-/
import Derived.Test.YtglnelkimagihaaPlT
import Derived.Laws.EntriesVeiled
namespace Go.Proofs.Ytglnelkimagihaa
set_option linter.unusedVariables false
set_option linter.unusedSimpArgs false
open Go.RowKit Go.Deep Go.WideShapes
open Go.Maps hiding size

theorem uq_rb {L : List Int} (h : RB L) : RB (Pl.uq L) := fun x hx => h x (Pl.uq_mem.1 hx)

set_option maxRecDepth 100000 in
set_option maxHeartbeats 4000000 in
theorem steps_any (oa : Option Addr) (O : List Int) (oc : Nat) (na : Option Addr) (L : List Int) (nc : Nat) (w : World) (h : RL w oa O) (hB : RB O) (hn : O.length ≤ 1000) (h' : RL w na L) (hB' : RB L) (hn' : L.length ≤ 1000) :
    Calls Try.prog 13 #[.slice oa O.length oc, .slice na L.length nc] w fun e w' => ∃ v, e = .returned v ∧ SR w' w.heap.size v (Pl.steps O L) ∧ Below w.heap.size w w' := by
  refine (callsIn_wide (n := 3)).1 ?_
  have h1 : 1 ≤ 3 := by omega
  have hf21 : Fence.wide.fn 21 := trivial
  have hf22 : Fence.wide.fn 22 := trivial
  have hf10 : Fence.wide.fn 10 := trivial
  have hf24 : Fence.wide.fn 24 := trivial
  have hf25 : Fence.wide.fn 25 := trivial
  have eg : ∀ args w, (callFunc 30 args).run Try.prog w = .ok (.enter 30 args) w := enters_of Try.func30 (by kernel_rfl) rfl
  have HU := Lib.hid (unlike_any na L nc w h' hB' (by omega))
  have HO := Lib.hid (fun W (hb : Below w.heap.size w W) => h.below hb)
  obtain ⟨U, hU⟩ : ∃ U, Pl.uq L = U := ⟨_, rfl⟩
  have hUl : U.length ≤ 1000 := by rw [← hU]; exact Nat.le_trans (Pl.uq_len L) hn'
  have hUB : RB U := by rw [← hU]; exact uq_rb hB'
  have HST := Lib.hid (fun W (hb : Below w.heap.size w W) a cap (hr : RL W a U) => stood_any oa O oc a U cap W (h.below hb) hB (by omega) hr hUB (by omega))
  have HMV := Lib.hid (fun W g (hr : RL W (some ⟨g, 0, none⟩) (Pl.frm O U)) => moves_any (some ⟨g, 0, none⟩) (Pl.frm O U) U.length W hr (by rw [Pl.frm_len]; omega))
  have HT := Lib.hid (fun a n cap W => backward_any a n cap W)
  have HS : Hid (Pl.stpF U (Pl.plc (Pl.frm O U)) U.length = Pl.steps O L) := Lib.hid (by unfold Pl.steps; rw [hU])
  rw [hU] at HU
  simp only [Pl.frm_len] at HMV
  have HF : Hid ((Pl.frm O U).length = U.length) := Lib.hid (Pl.frm_len O U)
  have HNN := Lib.hid hUl
  have HUB := Lib.hid hUB
  clear h h' hB hB' hn hn' hU hUB
  generalize Pl.frm O U = F at HST HMV HS HF
  have hn0 : (0 : Int) ≤ (U.length : Int) := by omega
  have hn1 : (U.length : Int) ≤ 1000 := by omega
  refine callsIn_of_wp_marks Try.func13 rfl trivial ?_ rfl
  simp only [Try.ntmps13, List.size_toArray, List.length_cons, List.length_nil, Nat.reduceAdd, Nat.reduceSub, Array.replicate_succ, Array.replicate_zero, List.push_toArray, List.append_toArray, List.nil_append, List.cons_append]
  gi_wp2_with (first
    | (gi_at_call 21; refine (callsIn_wide.2 HU.out).mono ?_; rintro e w1 ⟨v1, rfl, ho1, hb1⟩; obtain ⟨a, cap, rfl, -, -, hr1⟩ := ho1.rl; have HR1 := Lib.hid hr1; have HB1 := Lib.hid hb1; clear ho1 hr1 hb1)
    | (gi_at_call 22; refine (callsIn_wide.2 (HST.out w1 HB1.out a cap HR1.out)).mono ?_; rintro e w2 ⟨g2, rfl, ho2, hb2⟩; have HO2 := Lib.hid ho2; have HB2 := Lib.hid hb2; clear ho2 hb2)
    | (gi_at_call 10; refine (callsIn_wide.2 (HMV.out w2 g2 (by have := HO2.out.il; unfold RL; rw [HF.out]; exact this))).mono ?_; rintro e w3 ⟨g3, rfl, ho3, hb3⟩; have HO3 := Lib.hid ho3; have HB3 := Lib.hid ((HB1.out.trans (HB2.out.mono HB1.out.size)).trans (hb3.mono (Nat.le_trans HB1.out.size HB2.out.size))); have HR3 := Lib.hid (HR1.out.below (HB2.out.trans (hb3.mono HB2.out.size))); clear ho3 hb3)
    | (gi_at_call 24; refine (callsIn_wide.2 (HT.out a U.length cap _)).mono ?_; rintro e w9 ⟨rfl, rfl⟩))
  clear HU HST HMV HT hf21 hf22 hf10 hf24 HO2 HB2 HR1 HO
  refine wpIn_rangeFunc ?_
  intro fn hfn
  obtain ⟨W0, hW0⟩ : ∃ W0, ((((w3.alloc (.cells #[.slice (some ⟨g3, 0, none⟩) U.length U.length] 25)).alloc (.cells #[.slice none 0 0] 29)).alloc (.cells #[.int .i64 0] 3)).alloc (.cells #[.func (.func 23) #[] #[.pointer (some ⟨w3.heap.size + 1, 0, none⟩), .pointer (some ⟨w3.heap.size + 1 + 1, 0, none⟩)]] 44)).alloc (.cells #[.slice a U.length cap] 22) = W0 := ⟨_, rfl⟩
  have b0 : W0.heap[w3.heap.size]? = some (.cells #[.slice (some ⟨g3, 0, none⟩) U.length U.length] 25 (0, 0)) := by rw [← hW0]; exact al_old _ (al_old _ (al_old _ (al_old _ (al_new _ rfl))))
  have b1 : W0.heap[w3.heap.size + 1]? = some (.cells #[.slice none 0 0] 29 (0, 0)) := by rw [← hW0]; exact al_old _ (al_old _ (al_old _ (al_new _ (by simp))))
  have b2 : W0.heap[w3.heap.size + 2]? = some (.cells #[.int .i64 0] 3 (0, 0)) := by rw [← hW0]; exact al_old _ (al_old _ (al_new _ (by simp)))
  have b3 : W0.heap[w3.heap.size + 3]? = some (.cells #[.func (.func 23) #[] #[.pointer (some ⟨w3.heap.size + 1, 0, none⟩), .pointer (some ⟨w3.heap.size + 2, 0, none⟩)]] 44 (0, 0)) := by rw [← hW0]; exact al_old _ (al_new _ (by simp))
  have b4 : W0.heap[w3.heap.size + 4]? = some (.cells #[.slice a U.length cap] 22 (0, 0)) := by rw [← hW0]; exact al_new _ (by simp)
  have hs0 : W0.heap.size = w3.heap.size + 5 := by rw [← hW0]; simp
  have hlow0 : Below w3.heap.size w3 W0 := by rw [← hW0]; exact ((((below_alloc w3 _).alloc (by simp) _).alloc (by simp; omega) _).alloc (by simp; omega) _).alloc (by simp; omega) _
  rw [hW0]
  obtain ⟨W1, hW1⟩ : ∃ W1, (W0.alloc (.deferred (some []))).alloc (.loop (stRec fn oa O.length oc na L.length nc a U.length cap g2 g3 w3.heap.size .ready none)) = W1 := ⟨_, rfl⟩
  have hat : ∀ j, j < W0.heap.size → W1.heap[j]? = W0.heap[j]? := fun j hj => by
    rw [← hW1]; exact (Below.heap_alloc _ _ _ (by simp; omega)).trans (Below.heap_alloc _ _ _ hj)
  have hlow1 : Below w3.heap.size w3 W1 := by rw [← hW1]; exact (hlow0.alloc hlow0.size _).alloc (by have := hlow0.size; simp; omega) _
  have hs1 : W1.heap.size = w3.heap.size + 7 := by rw [← hW1]; simp; omega
  obtain ⟨P, hP⟩ : ∃ P, Pl.plc F = P := ⟨_, rfl⟩
  rw [hP] at HS
  have hJ0 : SS w3 (.loop (stRec fn oa O.length oc na L.length nc a U.length cap g2 g3 w3.heap.size .ready none)) g3 a U.length cap (.slice none 0 0) (Pl.stpR U P 0) (Pl.bef U P 0) W1 := by
    refine ⟨(hat _ (by omega)).trans b0, (hat _ (by omega)).trans b1, (hat _ (by omega)).trans b2, (hat _ (by omega)).trans b3, (hat _ (by omega)).trans b4, ?_, ?_, SR.nil _ _, hlow1, by omega⟩
    · rw [← hW1, ← hs0]; exact (Below.heap_alloc _ _ _ (by simp)).trans (Go.Deep.blk_alloc_new W0 _)
    · have := Go.Deep.blk_alloc_new (W0.alloc (.deferred (some []))) (.loop (stRec fn oa O.length oc na L.length nc a U.length cap g2 g3 w3.heap.size .ready none))
      rw [World.size_alloc, hs0, hW1] at this
      exact this
  have hback := back_in (w3.heap.size + 6) (w3.heap.size + 4) (fun c W => ∃ v, SS w3 (.loop (stRec fn oa O.length oc na L.length nc a U.length cap g2 g3 w3.heap.size .ready none)) g3 a U.length cap v (Pl.stpR U P c) (Pl.bef U P c) W) a U cap (by omega)
    (fun c W hj => by obtain ⟨v, hj⟩ := hj; exact ⟨by rw [Lib.cell_of_heap hj.sbox]; rfl, HR3.out.below hj.low⟩)
    (fun m c W hc hj => by
      obtain ⟨v, hj⟩ := hj
      refine YieldAt.any m (st_round (P := P) hfn (by omega) (fun W' hb i hi => ?_) 3 (by omega) c W hc v hj)
      rw [← hP]
      exact (HO3.out.below hb).cell hi) 3 (by omega) W1 ⟨_, hJ0⟩
  have HBK := Lib.hid (callsIn_wide.1 hback)
  clear hback hJ0
  refine ⟨w3.heap.size + 6, [{ target := .collected (w3.heap.size + 5), args := #[] }], W1, { target := .fn (.func 30) #[.pointer (some ⟨w3.heap.size + 4, 0, none⟩)], args := #[.func (.yield (w3.heap.size + 6)) #[] #[]] }, W1, 30,
    #[.func (.yield (w3.heap.size + 6)) #[] #[], .pointer (some ⟨w3.heap.size + 4, 0, none⟩)], W1, ?_, ?_, ?_, ?_, fun _ => h1, ?_⟩
  · rw [← hW1]
    have e3 : w3.heap.size + 5 = W0.heap.size := hs0.symm
    have e4 : w3.heap.size + 6 = W0.heap.size + 1 := by omega
    rw [e3, e4]
    unfold stRec
    rw [e3]
    exact run_enterLoop_outer _ _ _ _ _
  · simp [resolve, go_sem]
  · intro f' hf'; trivial
  · simp [invoke, go_sem, eg]
  · refine (callsIn_wide.2 HBK.out).mono ?_
    rintro e W2 ⟨⟨v0, rfl⟩, v, hks⟩
    have hel := run_endLoop (P := Try.prog) hks.L (by simp [stRec])
    obtain ⟨W3, hW3⟩ : ∃ W3, W2.putObj (w3.heap.size + 6) (.loop { stRec fn oa O.length oc na L.length nc a U.length cap g2 g3 w3.heap.size .ready none with state := .exhausted }) = W3 := ⟨_, rfl⟩
    rw [hW3] at hel
    have hk3 : SS w3 (.loop { stRec fn oa O.length oc na L.length nc a U.length cap g2 g3 w3.heap.size .ready none with state := .exhausted }) g3 a U.length cap v (Pl.stpR U P U.length) (Pl.bef U P U.length) W3 := hW3 ▸ hks.putL
    obtain ⟨hc3, -⟩ := box1 hk3.tbox
    have HRV := Lib.hid (reverse_any (w3.heap.size + 7) v (Pl.stpR U P U.length) W3 hk3.row (Nat.le_trans (Pl.stpR_len U P _) (by omega)))
    have HK3 := Lib.hid hk3
    clear hW3 hks hk3 HBK
    refine ⟨none, W3, hel, ?_⟩
    gi_wp2_with (first
      | (gi_at_call 25; refine (callsIn_wide.2 HRV.out).mono ?_; rintro e w8 ⟨⟨u8, rfl⟩, hr8, hg8⟩; have HR8 := Lib.hid hr8; have hK8 := (hg8.block _ (Array.getElem?_eq_some_iff.1 HK3.out.K).1 (fun e => by have := HK3.out.lt e.symm; omega)).trans HK3.out.K; have hT8 := (hg8.block _ (Array.getElem?_eq_some_iff.1 HK3.out.tbox).1 (fun e => by have := HK3.out.lt e.symm; omega)).trans HK3.out.tbox; obtain ⟨hc8, -⟩ := box1 hT8; have HG8 := Lib.hid hg8; clear hr8 hg8 hT8))
    have hlow8 : Below w3.heap.size w3 w8 := HK3.out.low.grown HG8.out HK3.out.low.size (fun k e => by have := HK3.out.lt e; omega)
    have hg9 := grownBy_putObj' w8 (w3.heap.size + 5) (.deferred none)
    have hr9 : SR (w8.putObj (w3.heap.size + 5) (.deferred none)) (w3.heap.size + 7) v (Pl.stpR U P U.length).reverse := World.ownsRow.kept HR8.out hg9 (by
      cases hq : v.ownBlock with
      | none => exact .inl rfl
      | some g => exact .inr (fun e => by have := (World.ownsRow.lt HR8.out g hq).1; have := Option.some.inj e; omega))
    rw [Pl.stp_turned, HS.out] at hr9
    have h38 := HB3.out.size
    have HE := Lib.hid (And.intro (own_base (b := w.heap.size) (by omega) hr9) (HB3.out.trans ((hlow8.grown hg9 hlow8.size (fun k e => by have := Option.some.inj e; omega)).mono h38)))
    refine ⟨by simp, .inl ⟨_, _, rfl, run_takeDeferred hK8, ?_⟩⟩
    exact ⟨_, results_tmp rfl _ _ _, v, rfl, HE.out.1, HE.out.2⟩
end Go.Proofs.Ytglnelkimagihaa
