/-
  Walks: norm.Kids: the children of any values, each with its key, in a row of their own ('kids_any').
  Conditions: the values lie in memory, each list and each key takes no more than the reach; the three tables hold what the program's text lays in them.
-/
import Derived.Test.YtpmkkgndpfbkdaaDoorNkY
namespace Go.Proofs.YtpmkkgndpfbkdaaDoor
set_option linter.unusedVariables false
set_option linter.unusedSimpArgs false
open Go.RowKit Go.Deep Go.WideShapes
open Go.Maps hiding size

/-- The same children, one by one. -/
def Sms : List C → List C → Prop
  | [], [] => True
  | a :: r, b :: s => C.sm a b ∧ Sms r s
  | _, _ => False
theorem Sms.length : ∀ {a b : List C}, Sms a b → a.length = b.length
  | [], [], _ => rfl
  | _ :: _, _ :: _, h => by simp [h.2.length]
  | [], _ :: _, h => h.elim
  | _ :: _, [], h => h.elim
theorem Sms.snoc : ∀ {a b : List C} {c d : C}, Sms a b → C.sm c d → Sms (a ++ [c]) (b ++ [d])
  | [], [], _, _, _, h => ⟨h, trivial⟩
  | _ :: _, _ :: _, _, _, h, k => ⟨h.1, h.2.snoc k⟩
  | [], _ :: _, _, _, h, _ => h.elim
  | _ :: _, [], _, _, h, _ => h.elim

def vsOf (l : List El) : List V := l.map El.v
theorem vsOf_snoc (l : List El) (x : El) : vsOf (l ++ [x]) = vsOf l ++ [x.v] := by simp [vsOf]
theorem vsOf_length (l : List El) : (vsOf l).length = l.length := by simp [vsOf]

/-- Between two yields. -/
def KJ (w0 : World) (fn : FuncId) (la : Option Addr) (ll lc : Nat) (pre : List El) (W : World) : Prop :=
  ∃ v cs, KS w0 (.loop (kdRec fn la ll lc w0.heap.size .ready none)) v cs (stOf (vsOf pre)).seen cs.length W ∧ Sms (stOf (vsOf pre)).out cs ∧ cs.length < 4096
/-- Behind the last one. -/
def KX (w0 : World) (fn : FuncId) (la : Option Addr) (ll lc : Nat) (pre : List El) (W : World) : Prop :=
  ∃ v cs, KS w0 (.loop (kdRec fn la ll lc w0.heap.size .done (some (Code.exit 0)))) v cs (stOf (vsOf pre)).seen cs.length W ∧ Sms (stOf (vsOf pre)).out cs ∧ cs.length = 4096 ∧ ∃ q x, pre = q ++ [x] ∧ (stOf (vsOf q)).out.length < 4096

theorem kj_way {w0 : World} {fn : FuncId} {la : Option Addr} {ll lc : Nat} {pre : List El} {W W' : World} (h : KJ w0 fn la ll lc pre W) (hg : W.grownBy W' (some (w0.heap.size + 3))) : KJ w0 fn la ll lc pre W' ∧ ∀ g, KO w0 W' g → KO w0 W g := by
  obtain ⟨v, cs, h1, h2⟩ := h
  exact ⟨⟨v, cs, h1.way hg, h2⟩, fun g hk => KO.way h1 hg hk⟩
theorem kx_way {w0 : World} {fn : FuncId} {la : Option Addr} {ll lc : Nat} {pre : List El} {W W' : World} (h : KX w0 fn la ll lc pre W) (hg : W.grownBy W' (some (w0.heap.size + 3))) : KX w0 fn la ll lc pre W' ∧ ∀ g, KO w0 W' g → KO w0 W g := by
  obtain ⟨v, cs, h1, h2⟩ := h
  exact ⟨⟨v, cs, h1.way hg, h2⟩, fun g hk => KO.way h1 hg hk⟩

theorem kd_round {w0 : World} {fn : FuncId} {la : Option Addr} {ll lc : Nat} (hfn : Fence.wide.fn fn) (ht : Tabs w0) (m : Nat) (pre : List El) (x : El) (hx : x.Ok w0) (W : World) (h : KJ w0 fn la ll lc pre W) :
    YieldAt Fence.wide m Tryd.prog (w0.heap.size + 7) #[.int .i64 (wrap64 pre.length), x.ptr] W fun e W' => ∃ r, e = .returned (.bool r) ∧ (r = true → KJ w0 fn la ll lc (pre ++ [x]) W') ∧ (r = false → KX w0 fn la ll lc (pre ++ [x]) W') ∧ Kx (KO w0) w0.heap.size (w0.heap.size + 3) W W' ∧ W'.heap[w0.heap.size + 3]? = W.heap[w0.heap.size + 3]? := by
  obtain ⟨v, cs, h1, h2, h3⟩ := h
  have hy := kd_yield 3 (by omega) w0 fn hfn la ll lc v cs (stOf (vsOf pre)).seen cs.length (wrap64 pre.length) (wrap64_range _) x hx ht h3 (by unfold maxLen; omega) W h1
  refine Go.YieldAt.mono (YieldAt.any m hy) fun e W' hr => ?_
  obtain ⟨r, v', cs', he, hch, hv', hks, hm⟩ := hr
  have hlt : ∀ {g : Nat}, KO w0 W g → g < W.heap.size ∧ w0.heap.size ≤ g := fun hg => h1.lt hg
  have hbw : ¬ KO w0 W (w0.heap.size + 3) := fun q => by
    rcases q with q | q | q | ⟨v2, hb, hv⟩
    · omega
    · omega
    · omega
    · rw [h1.box] at hb
      cases hb
      have := (h1.row.lt _ hv).1
      omega
  have hst : stOf (vsOf (pre ++ [x])) = stepK (stOf (vsOf pre)) x.v := by rw [vsOf_snoc, stOf_snoc]
  have hpl : (stOf (vsOf pre)).place = pre.length := by rw [stOf_place, vsOf_length]
  refine ⟨r, he, fun hr => ?_, fun hr => ?_, ⟨⟨hch.os, hch.tape, hch.output, hch.size, fun i hi => hch.block i (by have := h1.low.size; omega) (fun q => by have := (hlt q).2; omega)⟩, hch.size, fun g hg ho _ => hch.block g hg ho, fun g q => ?_⟩, hch.block _ (by have := h1.big; omega) hbw⟩
  · subst hr
    cases hk : x.v.kid with
    | none =>
      rw [hk] at hks hm
      obtain ⟨-, rfl⟩ := hm
      have : stepK (stOf (vsOf pre)) x.v = ⟨(stOf (vsOf pre)).place + 1, (stOf (vsOf pre)).seen, (stOf (vsOf pre)).out⟩ := by unfold stepK; rw [hk]
      refine ⟨v', cs', ?_, ?_, h3⟩
      · rw [hst, this]; exact hks
      · rw [hst, this]; exact h2
    | some c =>
      rw [hk] at hks hm
      obtain ⟨hd, t, hsm, rfl⟩ := hm
      have : stepK (stOf (vsOf pre)) x.v = ⟨(stOf (vsOf pre)).place + 1, (keyM (stOf (vsOf pre)).seen x.v (wrap64 pre.length)).2, (stOf (vsOf pre)).out ++ [⟨(keyM (stOf (vsOf pre)).seen x.v (wrap64 pre.length)).1, c.kind, c.name, c.val⟩]⟩ := by unfold stepK; rw [hk, hpl]
      have hd' : cs.length + 1 ≠ 4096 := of_decide_eq_true hd.symm
      refine ⟨v', cs ++ [⟨(keyM (stOf (vsOf pre)).seen x.v (wrap64 pre.length)).1, c.kind, c.name, t⟩], ?_, ?_, by rw [List.length_append]; simp only [List.length_singleton]; omega⟩
      · rw [hst, this, List.length_append]; exact hks
      · rw [hst, this]; exact h2.snoc ⟨rfl, rfl, rfl, hsm⟩
  · subst hr
    cases hk : x.v.kid with
    | none =>
      rw [hk] at hm
      exact absurd hm.1 (by simp)
    | some c =>
      rw [hk] at hks hm
      obtain ⟨hd, t, hsm, rfl⟩ := hm
      have : stepK (stOf (vsOf pre)) x.v = ⟨(stOf (vsOf pre)).place + 1, (keyM (stOf (vsOf pre)).seen x.v (wrap64 pre.length)).2, (stOf (vsOf pre)).out ++ [⟨(keyM (stOf (vsOf pre)).seen x.v (wrap64 pre.length)).1, c.kind, c.name, c.val⟩]⟩ := by unfold stepK; rw [hk, hpl]
      have hd' : cs.length + 1 = 4096 := by
        have := of_decide_eq_false hd.symm
        omega
      refine ⟨v', cs ++ [⟨(keyM (stOf (vsOf pre)).seen x.v (wrap64 pre.length)).1, c.kind, c.name, t⟩], ?_, ?_, by rw [List.length_append]; exact hd', pre, x, rfl, by rw [h2.length]; exact h3⟩
      · rw [hst, this, List.length_append]; exact hks
      · rw [hst, this]; exact h2.snoc ⟨rfl, rfl, rfl, hsm⟩
  · rcases q with q | q | q | ⟨v2, hb, hv⟩
    · exact .inl (.inl q)
    · exact .inl (.inr (.inl q))
    · exact .inl (.inr (.inr (.inl q)))
    · rw [hks.box] at hb
      cases hb
      rcases hv' with e | ⟨q, e, hq⟩
      · rw [e] at hv
        exact .inl (.inr (.inr (.inr ⟨v, h1.box, hv⟩)))
      · rw [e] at hv
        cases hv
        exact .inr hq

/-- What Kids leaves. -/
structure KidsPost (w : World) (vs : List V) (u : Value) (cs : List C) (W : World) : Prop where
  row : W.ownsRow (w.heap.size + 8) 35 11 u cs.length (cs.flatMap C.cells)
  vals : ∀ c ∈ cs, c.val.In W
  sms : Sms (kidsM vs) cs
  low : Below w.heap.size w W

theorem kids_end {w0 : World} {vs : List V} {Lo : Obj} {v : Value} {cs : List C} {seen : List (List UInt8)} {n : Nat} {W W' : World} (h : KS w0 Lo v cs seen n W) (hs : Sms (kidsM vs) cs) (hg : W.grownBy W' (some (w0.heap.size + 6))) : KidsPost w0 vs v cs W' := by
  refine ⟨h.row.kept hg ?_, fun c hc => ?_, hs, h.low.grown hg h.low.size (fun k e => by have := Option.some.inj e; omega)⟩
  · cases hq : v.ownBlock with
    | none => exact .inl rfl
    | some g => exact .inr (fun e => by have := (h.row.lt g hq).1; have := Option.some.inj e; omega)
  · obtain ⟨q1, q2⟩ := h.vals c hc
    exact in_blocks q1 fun g hgm => hg.block g (q2 g hgm).2.2 (fun e => by have := (q2 g hgm).1; have := Option.some.inj e; omega)

theorem kj_end {w0 : World} {fn : FuncId} {la : Option Addr} {ll lc : Nat} {all : List El} {W : World} (h : KJ w0 fn la ll lc all W) : ∃ v cs, KS w0 (.loop (kdRec fn la ll lc w0.heap.size .ready none)) v cs (stOf (vsOf all)).seen cs.length W ∧ Sms (kidsM (vsOf all)) cs := by
  obtain ⟨v, cs, h1, h2, h3⟩ := h
  exact ⟨v, cs, h1, by rw [kids_all (by rw [h2.length]; exact h3)]; exact h2⟩
theorem kx_end {w0 : World} {fn : FuncId} {la : Option Addr} {ll lc : Nat} {pre T : List El} {W : World} (h : KX w0 fn la ll lc pre W) (hp : pre <+: T) : ∃ v cs, KS w0 (.loop (kdRec fn la ll lc w0.heap.size .done (some (Code.exit 0)))) v cs (stOf (vsOf pre)).seen cs.length W ∧ Sms (kidsM (vsOf T)) cs := by
  obtain ⟨v, cs, h1, h2, h3, q, x, rfl, hq⟩ := h
  obtain ⟨r, rfl⟩ := hp
  refine ⟨v, cs, h1, ?_⟩
  have e : vsOf (q ++ [x] ++ r) = vsOf q ++ [x.v] ++ vsOf r := by simp [vsOf]
  have e2 : vsOf (q ++ [x]) = vsOf q ++ [x.v] := vsOf_snoc q x
  rw [e, kids_full (q := vsOf q) (v := x.v) ⟨vsOf r, rfl⟩ hq (by rw [← e2, h2.length]; exact h3), ← e2]
  exact h2

theorem al_old {W : World} {k : Nat} {o : Obj} (o' : Obj) (h : W.heap[k]? = some o) : (W.alloc o').heap[k]? = some o := (Below.heap_alloc _ _ _ (Array.getElem?_eq_some_iff.1 h).1).trans h
theorem al_new {W : World} {s : Nat} (o : Obj) (h : W.heap.size = s) : (W.alloc o).heap[s]? = some o := by subst h; exact Go.Deep.blk_alloc_new W o
theorem alloc6 (w : World) (o1 o2 o3 o4 o5 o6 : Obj) (W : World) (hW : (((((w.alloc o1).alloc o2).alloc o3).alloc o4).alloc o5).alloc o6 = W) : W.heap[w.heap.size]? = some o1 ∧ W.heap[w.heap.size + 1]? = some o2 ∧ W.heap[w.heap.size + 2]? = some o3 ∧ W.heap[w.heap.size + 3]? = some o4 ∧ W.heap[w.heap.size + 4]? = some o5 ∧ W.heap[w.heap.size + 5]? = some o6 ∧ W.heap.size = w.heap.size + 6 ∧ Below w.heap.size w W := by
  subst hW
  exact ⟨al_old _ (al_old _ (al_old _ (al_old _ (al_old _ (al_new _ rfl))))), al_old _ (al_old _ (al_old _ (al_old _ (al_new _ (by simp))))), al_old _ (al_old _ (al_old _ (al_new _ (by simp)))), al_old _ (al_old _ (al_new _ (by simp))), al_old _ (al_new _ (by simp)), al_new _ (by simp), by simp,
    (((((below_alloc w o1).alloc (by simp) _).alloc (by simp; omega) _).alloc (by simp; omega) _).alloc (by simp; omega) _).alloc (by simp; omega) _⟩

set_option maxRecDepth 100000 in
set_option maxHeartbeats 4000000 in
theorem kids_in (n : Nat) (hn : 3 ≤ n) (la : Option Addr) (ll lc : Nat) (L : Nat → V) (w : World) (h : (V.mk 4 0 ⟨#[]⟩ la ll lc L none 0 0 (fun _ => ⟨#[]⟩) (fun _ => .leaf) 0 ⟨#[]⟩ false).In w) (hf : (V.mk 4 0 ⟨#[]⟩ la ll lc L none 0 0 (fun _ => ⟨#[]⟩) (fun _ => .leaf) 0 ⟨#[]⟩ false).Fit)
    (hok : ∀ x ∈ listA la L ll, x.Ok w) (ht : Tabs w) :
    CallsIn Fence.wide n Tryd.prog 8 #[.slice la ll lc] w fun e w' => ∃ u cs, e = .returned u ∧ KidsPost w (vsOf (listA la L ll)) u cs w' := by
  have h1 : 1 ≤ n := by omega
  have hmm := @run_makeMap Tryd.prog
  have hf16 : Fence.wide.fn 15 := trivial
  have eg : ∀ args w, (callFunc 24 args).run Tryd.prog w = .ok (.enter 24 args) w := enters_of Tryd.func24 (by kernel_rfl) rfl
  have HT := Lib.hid (fun W => through_any (w.heap.size + 1 + 1 + 1) (.slice la ll lc) W ⟨_, _, _, rfl⟩)
  refine callsIn_of_wp_marks Tryd.func8 rfl trivial ?_ rfl
  simp only [Tryd.ntmps8, List.size_toArray, List.length_cons, List.length_nil, Nat.reduceAdd, Nat.reduceSub, Array.replicate_succ, Array.replicate_zero, List.push_toArray, List.append_toArray, List.nil_append, List.cons_append]
  gi_wp2_with (gi_at_call 15; refine (callsIn_wide.2 (HT.out _)).mono ?_; rintro e w9 ⟨rfl, rfl⟩)
  clear HT hf16 hmm
  refine wpIn_rangeFunc ?_
  intro fn hfn
  obtain ⟨W0, hW0⟩ : ∃ W0, (((((w.alloc (.cells #[.slice none 0 0] 31)).alloc (.map #[] 0)).alloc (.cells #[.map (some (w.heap.size + 1))] 43)).alloc (.cells #[.int .i64 0, .bool false] 48)).alloc (.cells #[.pointer (some ⟨w.heap.size + 1 + 1 + 1, 0, none⟩)] 46)).alloc (.cells #[.slice la ll lc] 22) = W0 := ⟨_, rfl⟩
  obtain ⟨b0, b1, b2, b3, b4, b5, hs0, hlow0⟩ := alloc6 w _ _ _ _ _ _ W0 hW0
  rw [hW0]
  obtain ⟨W1, hW1⟩ : ∃ W1, (W0.alloc (.deferred (some []))).alloc (.loop (kdRec fn la ll lc w.heap.size .ready none)) = W1 := ⟨_, rfl⟩
  have hat : ∀ j, j < W0.heap.size → W1.heap[j]? = W0.heap[j]? := fun j hj => by
    rw [← hW1]; exact (Below.heap_alloc _ _ _ (by simp; omega)).trans (Below.heap_alloc _ _ _ hj)
  have hs1 : W1.heap.size = w.heap.size + 8 := by rw [← hW1]; simp; omega
  have hlow1 : Below w.heap.size w W1 := by rw [← hW1]; exact (hlow0.alloc hlow0.size _).alloc (by have := hlow0.size; simp; omega) _
  have hJ0 : KJ w fn la ll lc [] W1 := by
    refine ⟨.slice none 0 0, [], ⟨(hat _ (by omega)).trans b0, ?_, (hat _ (by omega)).trans b2, ?_, ?_, World.ownsRow_nil _ _ _ _, (fun c hc => by cases hc), hlow1, by omega⟩, trivial, by simp⟩
    · have hm : W1.heap[w.heap.size + 1]? = some (.map #[] 0) := (hat _ (by omega)).trans b1
      exact ⟨#[], 0, hm, ⟨by simp, MapKept.stamped_empty 0, by simp⟩, Nat.le_refl _, rfl⟩
    · rw [← hW1, ← hs0]; exact (Below.heap_alloc _ _ _ (by simp)).trans (Go.Deep.blk_alloc_new W0 _)
    · have := Go.Deep.blk_alloc_new (W0.alloc (.deferred (some []))) (.loop (kdRec fn la ll lc w.heap.size .ready none))
      rw [World.size_alloc, hs0, hW1] at this
      exact this
  have hway0 : Way (w.heap.size + 3) (wrap64 (([] : List El).length)) false W1 := by
    rw [show wrap64 (([] : List El).length) = 0 by simp [wrap64]]
    exact (hat _ (by omega)).trans b3
  have hcl : W1.cell? ⟨w.heap.size + 5, 0, none⟩ = some (.slice la ll lc) := by rw [Lib.cell_of_heap ((hat _ (by omega)).trans b5)]; rfl
  have hcb : W1.cell? ⟨w.heap.size + 4, 0, none⟩ = some (.pointer (some ⟨w.heap.size + 3, 0, none⟩)) := by rw [Lib.cell_of_heap ((hat _ (by omega)).trans b4)]; rfl
  have hno : ∀ g, w.heap.size + 3 ≤ g → g < w.heap.size + 7 → ¬ KO w W1 g := fun g h3 h7 q => by
    rcases q with q | q | q | ⟨v2, hb, hv⟩
    · omega
    · omega
    · omega
    · rw [hat _ (by omega), b0] at hb
      cases hb
      cases hv
  have hthr := thr_in w (w.heap.size + 7) (w.heap.size + 3) (KO w) (KJ w fn la ll lc) (KX w fn la ll lc) (listA la L ll) (by omega)
    (fun pre W hj => by obtain ⟨v, cs, q, -⟩ := hj; exact ⟨fun g hg => (q.lt hg).1, q.low.size⟩)
    (fun pre W W' hj hg => kj_way hj hg) (fun pre W W' hj hg => kx_way hj hg)
    (fun m pre x W hj hp => kd_round hfn ht m pre x (hok x (hp.subset (by simp))) W hj)
    _ 5 (w.heap.size + 5) (w.heap.size + 4) [] W1 4 0 ⟨#[]⟩ la ll lc L none 0 0 (fun _ => ⟨#[]⟩) (fun _ => .leaf) 0 ⟨#[]⟩ false (by omega) rfl h hlow1 hJ0 hway0 (List.prefix_refl _) hcl hcb (hno _ (by omega) (by omega)) (hno _ (by omega) (by omega)) (by omega) (by omega) hf
  have HTHR := Lib.hid (callsIn_wide.1 hthr)
  clear hthr hno hcb hcl hway0 hJ0 hok ht
  refine ⟨w.heap.size + 7, [{ target := .collected (w.heap.size + 6), args := #[] }], W1, { target := .fn (.func 24) #[.pointer (some ⟨w.heap.size + 5, 0, none⟩), .pointer (some ⟨w.heap.size + 4, 0, none⟩)], args := #[.func (.yield (w.heap.size + 7)) #[] #[]] }, W1, 24,
    #[.func (.yield (w.heap.size + 7)) #[] #[], .pointer (some ⟨w.heap.size + 5, 0, none⟩), .pointer (some ⟨w.heap.size + 4, 0, none⟩)], W1, ?_, ?_, ?_, ?_, fun _ => h1, ?_⟩
  · rw [← hW1]
    have e6 : w.heap.size + 6 = W0.heap.size := hs0.symm
    have e7 : w.heap.size + 7 = W0.heap.size + 1 := by omega
    rw [e6, e7]
    unfold kdRec
    rw [e6]
    exact run_enterLoop_outer _ _ _ _ _
  · simp [resolve, go_sem]
  · intro f' hf'; trivial
  · simp [invoke, go_sem, eg]
  · refine (callsIn_wide.2 HTHR.out).mono ?_
    rintro e W2 ⟨⟨v0, rfl⟩, hkx, hend⟩
    rw [List.nil_append] at hend
    rcases hend with ⟨hj, -⟩ | ⟨q, hq, hx, -⟩
    · obtain ⟨v, cs, hks, hsm⟩ := kj_end hj
      have hel := run_endLoop (P := Tryd.prog) hks.L (by simp [kdRec])
      obtain ⟨W3, hW3⟩ : ∃ W3, W2.putObj (w.heap.size + 7) (.loop { kdRec fn la ll lc w.heap.size .ready none with state := .exhausted }) = W3 := ⟨_, rfl⟩
      rw [hW3] at hel
      have hk3 : KS w (.loop { kdRec fn la ll lc w.heap.size .ready none with state := .exhausted }) v cs _ cs.length W3 := hW3 ▸ hks.putL
      have hc3 : W3.cell? ⟨w.heap.size, 0, none⟩ = some v := by rw [Lib.cell_of_heap hk3.box]; rfl
      have hK3 := hk3.K
      have HK3 := Lib.hid hk3
      have HSM := Lib.hid hsm
      clear hW3 hks hk3 hkx hj hsm HTHR
      refine ⟨none, W3, hel, ?_⟩
      gi_wp2
      refine ⟨by simp, .inl ⟨_, _, rfl, run_takeDeferred hK3, ?_⟩⟩
      exact ⟨_, results_tmp rfl _ _ _, v, cs, rfl, kids_end HK3.out HSM.out (grownBy_putObj' _ _ _)⟩
    · obtain ⟨v, cs, hks, hsm⟩ := kx_end hx hq
      have hel := run_endLoop (P := Tryd.prog) hks.L (by simp [kdRec])
      obtain ⟨W3, hW3⟩ : ∃ W3, W2.putObj (w.heap.size + 7) (.loop { kdRec fn la ll lc w.heap.size .done (some (Code.exit 0)) with state := .exhausted }) = W3 := ⟨_, rfl⟩
      rw [hW3] at hel
      have hk3 : KS w (.loop { kdRec fn la ll lc w.heap.size .done (some (Code.exit 0)) with state := .exhausted }) v cs _ cs.length W3 := hW3 ▸ hks.putL
      have hc3 : W3.cell? ⟨w.heap.size, 0, none⟩ = some v := by rw [Lib.cell_of_heap hk3.box]; rfl
      have hK3 := hk3.K
      have HK3 := Lib.hid hk3
      have HSM := Lib.hid hsm
      clear hW3 hks hk3 hkx hx hq hsm HTHR
      refine ⟨some (Code.exit 0), W3, hel, ?_⟩
      gi_wp2
      refine ⟨by simp, .inl ⟨_, _, rfl, run_takeDeferred hK3, ?_⟩⟩
      exact ⟨_, results_tmp rfl _ _ _, v, cs, rfl, kids_end HK3.out HSM.out (grownBy_putObj' _ _ _)⟩
end Go.Proofs.YtpmkkgndpfbkdaaDoor
