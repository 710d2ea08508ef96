/-
  Walks: place.placesOf: the map of a row's first places, in a block of its own ('placesOf_any').
  Conditions: the row lies in memory, 1048576 numbers at most.
-/
import Derived.Test.YtglnelkimagihaaPlK
import Derived.Shelf.Abstract
namespace Go.Proofs.Ytglnelkimagihaa
set_option linter.unusedVariables false
set_option linter.unusedSimpArgs false
open Go.RowKit Go.Deep Go.WideShapes
open Go.Maps hiding size

def plAssign : Code := ((Code.region 3 #[{ dst := some 4, op := Op.assign (Operand.tmp 11), type := 3, pos := "row.go:11", after := #[], guard := none }] false).seq (Code.region 4 #[{ dst := some 5, op := Op.assign (Operand.tmp 12), type := 3, pos := "row.go:11", after := #[], guard := none }] false))
def plBody : Code := (Code.block 1 (Code.region 5 #[{ dst := some 13, op := Op.load 51 (Operand.tmp 3), type := 51, pos := "row.go:12", after := #[], guard := none }, { dst := some 14, op := Op.move (Operand.tmp 5), type := 3, pos := "row.go:12", after := #[], guard := none }, { dst := some 15, op := Op.move (Operand.tmp 4), type := 3, pos := "row.go:12", after := #[], guard := none }, { dst := none, op := Op.mapUpdate 51 (Operand.tmp 13) (Operand.tmp 14) (Operand.tmp 15), type := 0, pos := "row.go:12", after := #[{ on := 0, ground := Ground.data }, { on := 1, ground := Ground.data }, { on := 2, ground := Ground.data }, { on := 0, ground := Ground.phase }, { on := 1, ground := Ground.phase }, { on := 2, ground := Ground.phase }], guard := none }] false))
/-- The loop's slots, of which the round's own are handed in. -/
def plTm (a : Option Addr) (n cap B : Nat) (p q : Value) : Array Value :=
  #[.slice a n cap, undef, .map none, .pointer (some ⟨B + 1, 0, none⟩), undef, undef, .slice a n cap, .int .i64 n, .map (some B), .slice a n cap, .func (.func 30) #[] #[.pointer (some ⟨B + 2, 0, none⟩)], p, q, undef, undef, undef, undef]
/-- The loop's record. -/
def plRec (fn : FuncId) (a : Option Addr) (n cap B : Nat) (st : LoopState) (pend : Option Code) : Loop :=
  { state := st, pending := pend, fn, tmps := plTm a n cap B undef undef, params := #[11, 12], assign := plAssign, body := plBody, defers := B + 3 }

/-- What placesOf keeps between two rounds. -/
structure PS (w0 : World) (Lo : Obj) (a : Option Addr) (n cap k : Nat) (f : Int → Option Nat) (W : World) : Prop where
  mbox : W.heap[w0.heap.size + 1]? = some (.cells #[.map (some w0.heap.size)] 51 (0, 0))
  sbox : W.heap[w0.heap.size + 2]? = some (.cells #[.slice a n cap] 22 (0, 0))
  K : W.heap[w0.heap.size + 3]? = some (.deferred (some []))
  L : W.heap[w0.heap.size + 4]? = some Lo
  map : MapP W w0.heap.size k f
  low : Below w0.heap.size w0 W
theorem PS.putL {w0 : World} {Lo Lo' : Obj} {a : Option Addr} {n cap k : Nat} {f : Int → Option Nat} {W : World} (h : PS w0 Lo a n cap k f W) : PS w0 Lo' a n cap k f (W.putObj (w0.heap.size + 4) Lo') := by
  have hlt := (Array.getElem?_eq_some_iff.1 h.L).1
  have hne : ∀ {g : Nat}, g ≠ w0.heap.size + 4 → (W.putObj (w0.heap.size + 4) Lo').heap[g]? = W.heap[g]? := fun hg => World.putObj_heap_other hg
  have hg : W.grownBy (W.putObj (w0.heap.size + 4) Lo') (some (w0.heap.size + 4)) := grownBy_putObj' _ _ _
  exact ⟨(hne (by omega)).trans h.mbox, (hne (by omega)).trans h.sbox, (hne (by omega)).trans h.K, World.putObj_heap_same hlt, h.map.kept hg (fun e => by have := Option.some.inj e; omega), h.low.grown hg h.low.size (fun k e => by have := Option.some.inj e; omega)⟩
theorem PS.put {w0 : World} {Lo : Obj} {a : Option Addr} {n cap k k' : Nat} {f g : Int → Option Nat} {W W' : World} (h : PS w0 Lo a n cap k f W) (hg : W.grownBy W' (some w0.heap.size)) (hm : MapP W' w0.heap.size k' g) : PS w0 Lo a n cap k' g W' := by
  have hlt : ∀ {g : Nat} {o : Obj}, W.heap[g]? = some o → g < W.heap.size := fun h => (Array.getElem?_eq_some_iff.1 h).1
  have kp : ∀ {g : Nat} {o : Obj}, W.heap[g]? = some o → g ≠ w0.heap.size → W'.heap[g]? = some o := fun h hn => (hg.block _ (hlt h) (fun e => hn (Option.some.inj e))).trans h
  exact ⟨kp h.mbox (by omega), kp h.sbox (by omega), kp h.K (by omega), kp h.L (by omega), hm, h.low.grown hg h.low.size (fun k e => by have := Option.some.inj e; omega)⟩

theorem lst_step (L : List Int) {c : Nat} : (fun x => Pl.lst L x (c + 1)) = fun y => if Pl.nth L (L.length - 1 - c) = y then some (L.length - 1 - c) else Pl.lst L y c := by
  funext x; rw [Pl.lst]

set_option maxRecDepth 100000 in
set_option maxHeartbeats 2000000 in
theorem pl_round {w0 : World} {fn : FuncId} {a : Option Addr} {L : List Int} {cap : Nat} (hfn : Fence.wide.fn fn) (hn : L.length ≤ 1048576) (hB : RB L) (m c : Nat) (W : World) (hc : c < L.length) (h : PS w0 (.loop (plRec fn a L.length cap w0.heap.size .ready none)) a L.length cap c (fun x => Pl.lst L x c) W) :
    YieldAt Fence.wide m Try.prog (w0.heap.size + 4) #[.int .i64 ((L.length - 1 - c : Nat) : Int), .int .i64 (Pl.nth L (L.length - 1 - c))] W fun e W' => e = .returned (.bool true) ∧ PS w0 (.loop (plRec fn a L.length cap w0.heap.size .ready none)) a L.length cap (c + 1) (fun x => Pl.lst L x (c + 1)) W' := by
  rw [lst_step]
  have hx := hB.nth (j := L.length - 1 - c) (by omega)
  obtain ⟨p, hp⟩ : ∃ p, L.length - 1 - c = p := ⟨_, rfl⟩
  have hpl : p < 1048576 := by omega
  have hcl : c < 1048576 := by omega
  rw [hp] at hx ⊢
  clear hp
  generalize Pl.nth L p = x at hx ⊢
  obtain ⟨f, hf⟩ : ∃ f : Int → Option Nat, ∀ y, Pl.lst L y c = f y := ⟨fun y => Pl.lst L y c, fun _ => rfl⟩
  simp only [hf] at h ⊢
  clear hf
  refine ⟨fn, plTm a L.length cap w0.heap.size (.int .i64 p) (.int .i64 x), plAssign, plBody, by simpa [plRec, plTm] using run_yield (P := Try.prog) (args := #[.int .i64 p, .int .i64 x]) h.L rfl, roundIn_of_wpIn hfn ?_⟩
  have hbr := run_beginRound (P := Try.prog) h.L rfl
  have hk2 : PS w0 (.loop { plRec fn a L.length cap w0.heap.size .ready none with state := .busy }) a L.length cap c f (W.putObj (w0.heap.size + 4) (.loop { plRec fn a L.length cap w0.heap.size .ready none with state := .busy })) := h.putL
  generalize W.putObj (w0.heap.size + 4) (.loop { plRec fn a L.length cap w0.heap.size .ready none with state := .busy }) = W2 at hbr hk2
  have HK2 := Lib.hid hk2
  have hmb : W2.cell? ⟨w0.heap.size + 1, 0, none⟩ = some (.map (some w0.heap.size)) := by rw [Lib.cell_of_heap hk2.mbox]; rfl
  obtain ⟨D, hown, hD⟩ := hk2.map
  have hlit := key_int hx
  have HN : Hid (∀ W', W'.ownsMap Try.prog 3 (plainElem Try.prog 3) w0.heap.size (c + 1) (D.put (.int .i64 x) (.lit (.int .i64 p))) → MapP W' w0.heap.size (c + 1) (fun y => if x = y then some p else f y)) := Lib.hid (fun W' ho => ⟨_, ho, hD.put _ _⟩)
  clear hk2 h hD hx
  unfold plAssign plTm
  gi_wp2_with (rw [Oper.semAt_eq _ _ _ (fun c h => by cases h)]; go_simp; try go_bits)
  unfold plBody
  gi_wp2_with (first
    | (refine wpListIn_mapUpdate_own _ rfl _ _ _ 51 rfl 3 3 law_int Try.underlying51 _ _ _ D rfl hown (by unfold maxLen; omega) _ _ _ rfl rfl hlit _ [] (plainElem_int Try.underlying3 (by simp [Lit.wf, IntKind.min, IntKind.max, IntKind.signed, IntKind.bits]; omega)) ?_; intro w3 hown3 hgrow3)
    | (rw [Oper.semAt_eq _ _ _ (fun c h => by cases h)]; go_simp; try go_bits))
  have hk3 := HK2.out.put hgrow3 (HN.out _ hown3)
  refine ⟨_, _, run_endRound none hk3.L, ?_⟩
  exact ⟨rfl, hk3.putL⟩

set_option maxHeartbeats 1000000 in
theorem backward_any (a : Option Addr) (n cap : Nat) (w : World) : Calls Try.prog 24 #[.slice a n cap] w fun e w' =>
    e = .returned (.func (.func 30) #[] #[.pointer (some ⟨w.heap.size, 0, none⟩)]) ∧ w' = w.alloc (.cells #[.slice a n cap] 22) := by
  go_enter Try.func24, Try.ntmps24
  go_wp2_with fail
  go_ret
  exact ⟨rfl, rfl⟩

theorem make_places (k : Int) (w : World) : (Instr.makeMap 51 (some (.int .i64 k))).run Try.prog w = .ok (.map (some w.heap.size)) (w.alloc (.map #[] 0)) := by
  simp [Instr.makeMap, run_underlying Try.underlying51, asInt, asIntOf, Result.andThen]
theorem al_old {W : World} {k : Nat} {o : Obj} (o' : Obj) (h : W.heap[k]? = some o) : (W.alloc o').heap[k]? = some o := (Below.heap_alloc _ _ _ (Array.getElem?_eq_some_iff.1 h).1).trans h
theorem al_new {W : World} {s : Nat} (o : Obj) (h : W.heap.size = s) : (W.alloc o).heap[s]? = some o := by subst h; exact Go.Deep.blk_alloc_new W o

set_option maxRecDepth 100000 in
set_option maxHeartbeats 4000000 in
theorem placesOf_any (a : Option Addr) (L : List Int) (cap : Nat) (w : World) (h : RL w a L) (hB : RB L) (hn : L.length ≤ 1048576) :
    Calls Try.prog 28 #[.slice a L.length cap] w fun e w' => e = .returned (.map (some w.heap.size)) ∧ MapP w' w.heap.size L.length (Pl.fst L) ∧ Below w.heap.size w w' := by
  refine (callsIn_wide (n := 3)).1 ?_
  have h1 : 1 ≤ 3 := by omega
  have hmm := make_places
  have hf24 : Fence.wide.fn 24 := trivial
  have eg : ∀ args w, (callFunc 30 args).run Try.prog w = .ok (.enter 30 args) w := enters_of Try.func30 (by kernel_rfl) rfl
  have HT := Lib.hid (fun W => backward_any a L.length cap W)
  have HL := Lib.hid h
  have HBB := Lib.hid hB
  have HNN := Lib.hid hn
  have hn0 : (0 : Int) ≤ (L.length : Int) := by omega
  have hn1 : (L.length : Int) ≤ 1048576 := by omega
  refine callsIn_of_wp_marks Try.func28 rfl trivial ?_ rfl
  simp only [Try.ntmps28, List.size_toArray, List.length_cons, List.length_nil, Nat.reduceAdd, Nat.reduceSub, Array.replicate_succ, Array.replicate_zero, List.push_toArray, List.append_toArray, List.nil_append, List.cons_append]
  gi_wp2_with (gi_at_call 24; refine (callsIn_wide.2 (HT.out _)).mono ?_; rintro e w9 ⟨rfl, rfl⟩)
  clear HT hf24 hmm
  refine wpIn_rangeFunc ?_
  intro fn hfn
  obtain ⟨W0, hW0⟩ : ∃ W0, ((w.alloc (.map #[] 0)).alloc (.cells #[.map (some w.heap.size)] 51)).alloc (.cells #[.slice a L.length cap] 22) = W0 := ⟨_, rfl⟩
  have b0 : W0.heap[w.heap.size]? = some (.map #[] 0) := by rw [← hW0]; exact al_old _ (al_old _ (al_new _ rfl))
  have b1 : W0.heap[w.heap.size + 1]? = some (.cells #[.map (some w.heap.size)] 51 (0, 0)) := by rw [← hW0]; exact al_old _ (al_new _ (by simp))
  have b2 : W0.heap[w.heap.size + 2]? = some (.cells #[.slice a L.length cap] 22 (0, 0)) := by rw [← hW0]; exact al_new _ (by simp)
  have hs0 : W0.heap.size = w.heap.size + 3 := by rw [← hW0]; simp
  have hlow0 : Below w.heap.size w W0 := by rw [← hW0]; exact ((below_alloc w _).alloc (by simp) _).alloc (by simp; omega) _
  rw [hW0]
  obtain ⟨W1, hW1⟩ : ∃ W1, (W0.alloc (.deferred (some []))).alloc (.loop (plRec fn a L.length cap w.heap.size .ready none)) = W1 := ⟨_, rfl⟩
  have hat : ∀ j, j < W0.heap.size → W1.heap[j]? = W0.heap[j]? := fun j hj => by
    rw [← hW1]; exact (Below.heap_alloc _ _ _ (by simp; omega)).trans (Below.heap_alloc _ _ _ hj)
  have hlow1 : Below w.heap.size w W1 := by rw [← hW1]; exact (hlow0.alloc hlow0.size _).alloc (by have := hlow0.size; simp; omega) _
  have hJ0 : PS w (.loop (plRec fn a L.length cap w.heap.size .ready none)) a L.length cap 0 (fun x => Pl.lst L x 0) W1 := by
    refine ⟨(hat _ (by omega)).trans b1, (hat _ (by omega)).trans b2, ?_, ?_, ?_, hlow1⟩
    · rw [← hW1, ← hs0]; exact (Below.heap_alloc _ _ _ (by simp)).trans (Go.Deep.blk_alloc_new W0 _)
    · have := Go.Deep.blk_alloc_new (W0.alloc (.deferred (some []))) (.loop (plRec fn a L.length cap w.heap.size .ready none))
      rw [World.size_alloc, hs0, hW1] at this
      exact this
    · have hm : W1.heap[w.heap.size]? = some (.map #[] 0) := (hat _ (by omega)).trans b0
      refine ⟨.map [], ⟨#[], 0, hm, ⟨by simp, MapKept.stamped_empty 0, by simp⟩, Nat.le_refl _, rfl⟩, ?_⟩
      exact HoldsP.nil
  have hback := back_in (w.heap.size + 4) (w.heap.size + 2) (fun c W => PS w (.loop (plRec fn a L.length cap w.heap.size .ready none)) a L.length cap c (fun x => Pl.lst L x c) W) a L cap hn
    (fun c W hj => ⟨by rw [Lib.cell_of_heap hj.sbox]; rfl, h.below hj.low⟩)
    (fun m c W hc hj => pl_round hfn hn hB m c W hc hj) 3 (by omega) W1 hJ0
  have HBK := Lib.hid (callsIn_wide.1 hback)
  clear hback hJ0 h hB
  refine ⟨w.heap.size + 4, [{ target := .collected (w.heap.size + 3), args := #[] }], W1, { target := .fn (.func 30) #[.pointer (some ⟨w.heap.size + 2, 0, none⟩)], args := #[.func (.yield (w.heap.size + 4)) #[] #[]] }, W1, 30,
    #[.func (.yield (w.heap.size + 4)) #[] #[], .pointer (some ⟨w.heap.size + 2, 0, none⟩)], W1, ?_, ?_, ?_, ?_, fun _ => h1, ?_⟩
  · rw [← hW1]
    have e3 : w.heap.size + 3 = W0.heap.size := hs0.symm
    have e4 : w.heap.size + 4 = W0.heap.size + 1 := by omega
    rw [e3, e4]
    unfold plRec
    rw [e3]
    exact run_enterLoop_outer _ _ _ _ _
  · simp [resolve, go_sem]
  · intro f' hf'; trivial
  · simp [invoke, go_sem, eg]
  · refine (callsIn_wide.2 HBK.out).mono ?_
    rintro e W2 ⟨⟨v0, rfl⟩, hks⟩
    have hel := run_endLoop (P := Try.prog) hks.L (by simp [plRec])
    obtain ⟨W3, hW3⟩ : ∃ W3, W2.putObj (w.heap.size + 4) (.loop { plRec fn a L.length cap w.heap.size .ready none with state := .exhausted }) = W3 := ⟨_, rfl⟩
    rw [hW3] at hel
    have hk3 : PS w (.loop { plRec fn a L.length cap w.heap.size .ready none with state := .exhausted }) a L.length cap L.length (fun x => Pl.lst L x L.length) W3 := hW3 ▸ hks.putL
    have hc3 : W3.cell? ⟨w.heap.size + 1, 0, none⟩ = some (.map (some w.heap.size)) := by rw [Lib.cell_of_heap hk3.mbox]; rfl
    have hK3 := hk3.K
    have hmap := hk3.map
    rw [show (fun x => Pl.lst L x L.length) = Pl.fst L from funext (Pl.lst_all L)] at hmap
    have HM := Lib.hid (And.intro (hmap.kept (grownBy_putObj' W3 (w.heap.size + 3) (.deferred none)) (fun e => by have := Option.some.inj e; omega)) (hk3.low.grown (grownBy_putObj' W3 (w.heap.size + 3) (.deferred none)) hk3.low.size (fun k e => by have := Option.some.inj e; omega)))
    clear hW3 hks hk3 HBK hmap
    refine ⟨none, W3, hel, ?_⟩
    gi_wp2
    refine ⟨by simp, .inl ⟨_, _, rfl, run_takeDeferred hK3, ?_⟩⟩
    exact ⟨_, results_tmp rfl _ _ _, rfl, HM.out.1, HM.out.2⟩
end Go.Proofs.Ytglnelkimagihaa
