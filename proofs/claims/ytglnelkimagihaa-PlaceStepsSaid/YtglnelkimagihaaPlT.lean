/-
  Walks: place.Steps answers 'Pl.steps' in a row of its own ('steps_any').
  Conditions: the rows lie in memory, 1000 numbers at most.
-/
import Derived.Test.YtglnelkimagihaaPlV
import Derived.Test.YtglnelkimagihaaPlM
namespace Go.Proofs.Ytglnelkimagihaa
set_option linter.unusedVariables false
set_option linter.unusedSimpArgs false
open Go.RowKit Go.Deep Go.WideShapes
open Go.Maps hiding size

def stAssign : Code := ((Code.region 7 #[{ dst := some 9, op := Op.assign (Operand.tmp 20), type := 3, pos := "place.go:35", after := #[], guard := none }] false).seq (Code.region 8 #[{ dst := some 10, op := Op.assign (Operand.tmp 21), type := 3, pos := "place.go:35", after := #[], guard := none }] false))
def stBody : Code := (Code.block 1 (Code.region 9 #[{ dst := some 22, op := Op.load 44 (Operand.tmp 8), type := 44, pos := "place.go:36", after := #[], guard := none }, { dst := some 23, op := Op.move (Operand.tmp 10), type := 3, pos := "place.go:36", after := #[], guard := none }, { dst := some 24, op := Op.load 25 (Operand.tmp 5), type := 25, pos := "place.go:36", after := #[], guard := none }, { dst := some 25, op := Op.move (Operand.tmp 9), type := 3, pos := "place.go:36", after := #[], guard := none }, { dst := some 26, op := Op.indexAddr 25 (Operand.tmp 24) (Operand.tmp 25), type := 0, pos := "place.go:36", after := #[{ on := 2, ground := Ground.data }, { on := 3, ground := Ground.data }], guard := none }, { dst := some 27, op := Op.load 4 (Operand.tmp 26), type := 4, pos := "place.go:36", after := #[{ on := 4, ground := Ground.data }], guard := none }, { dst := some 28, op := Op.call { callee := Callee.value (Operand.tmp 22), args := #[Operand.tmp 23, Operand.tmp 27], argTypes := #[3, 4] }, type := 0, pos := "place.go:36", after := #[{ on := 0, ground := Ground.data }, { on := 1, ground := Ground.data }, { on := 5, ground := Ground.data }], guard := none }] true))
/-- The loop's slots, of which the round's own are handed in. -/
def stTm (oa : Option Addr) (on oc : Nat) (na : Option Addr) (nn nc : Nat) (a : Option Addr) (n cap g2 g3 B : Nat) (p q : Value) : Array Value :=
  #[.slice oa on oc, .slice a n cap, undef, undef, .slice none 0 0, .pointer (some ⟨B, 0, none⟩), .pointer (some ⟨B + 1, 0, none⟩), .pointer (some ⟨B + 2, 0, none⟩), .pointer (some ⟨B + 3, 0, none⟩), undef, undef, .slice na nn nc, .slice a n cap, .slice oa on oc, .slice a n cap, .slice (some ⟨g2, 0, none⟩) n n, .slice (some ⟨g3, 0, none⟩) n n,
    .func (.func 23) #[] #[.pointer (some ⟨B + 1, 0, none⟩), .pointer (some ⟨B + 2, 0, none⟩)], .slice a n cap, .func (.func 30) #[] #[.pointer (some ⟨B + 4, 0, none⟩)], p, q, undef, undef, undef, undef, undef, undef, undef, undef, undef, undef]
/-- The loop's record. -/
def stRec (fn : FuncId) (oa : Option Addr) (on oc : Nat) (na : Option Addr) (nn nc : Nat) (a : Option Addr) (n cap g2 g3 B : Nat) (st : LoopState) (pend : Option Code) : Loop :=
  { state := st, pending := pend, fn, tmps := stTm oa on oc na nn nc a n cap g2 g3 B undef undef, params := #[20, 21], assign := stAssign, body := stBody, defers := B + 5 }

/-- What Steps keeps between two rounds. -/
structure SS (w0 : World) (Lo : Obj) (g3 : Nat) (a : Option Addr) (n cap : Nat) (v : Value) (l : List (Int × Int)) (y : Int) (W : World) : Prop where
  pbox : W.heap[w0.heap.size]? = some (.cells #[.slice (some ⟨g3, 0, none⟩) n n] 25 (0, 0))
  tbox : W.heap[w0.heap.size + 1]? = some (.cells #[v] 29 (0, 0))
  bbox : W.heap[w0.heap.size + 2]? = some (.cells #[.int .i64 y] 3 (0, 0))
  fbox : W.heap[w0.heap.size + 3]? = some (.cells #[.func (.func 23) #[] #[.pointer (some ⟨w0.heap.size + 1, 0, none⟩), .pointer (some ⟨w0.heap.size + 2, 0, none⟩)]] 44 (0, 0))
  sbox : W.heap[w0.heap.size + 4]? = some (.cells #[.slice a n cap] 22 (0, 0))
  K : W.heap[w0.heap.size + 5]? = some (.deferred (some []))
  L : W.heap[w0.heap.size + 6]? = some Lo
  row : SR W (w0.heap.size + 7) v l
  low : Below w0.heap.size w0 W
  big : w0.heap.size + 7 ≤ W.heap.size
theorem SS.grown {w0 : World} {Lo Lo' : Obj} {g3 : Nat} {a : Option Addr} {n cap r : Nat} {v v' : Value} {l l' : List (Int × Int)} {y y' : Int} {W W' : World} (h : SS w0 Lo g3 a n cap v l y W) (hg : W.grownBy W' (some r)) (hr : w0.heap.size ≤ r)
    (h0 : r ≠ w0.heap.size) (h3 : r ≠ w0.heap.size + 3) (h4 : r ≠ w0.heap.size + 4) (h5 : r ≠ w0.heap.size + 5)
    (ht : W'.heap[w0.heap.size + 1]? = some (.cells #[v'] 29 (0, 0))) (hb : W'.heap[w0.heap.size + 2]? = some (.cells #[.int .i64 y'] 3 (0, 0))) (hl : W'.heap[w0.heap.size + 6]? = some Lo') (hrow : SR W' (w0.heap.size + 7) v' l') : SS w0 Lo' g3 a n cap v' l' y' W' := by
  have hlt : ∀ {g : Nat} {o : Obj}, W.heap[g]? = some o → g < W.heap.size := fun h => (Array.getElem?_eq_some_iff.1 h).1
  have kp : ∀ {g : Nat} {o : Obj}, W.heap[g]? = some o → g ≠ r → W'.heap[g]? = some o := fun h hn => (hg.block _ (hlt h) (fun e => hn (Option.some.inj e))).trans h
  exact ⟨kp h.pbox (Ne.symm h0), ht, hb, kp h.fbox (Ne.symm h3), kp h.sbox (Ne.symm h4), kp h.K (Ne.symm h5), hl, hrow, h.low.grown hg h.low.size (fun k e => by have := Option.some.inj e; omega), Nat.le_trans h.big hg.size⟩
theorem SS.lt {w0 : World} {Lo : Obj} {g3 : Nat} {a : Option Addr} {n cap : Nat} {v : Value} {l : List (Int × Int)} {y : Int} {W : World} (h : SS w0 Lo g3 a n cap v l y W) {g : Nat} (e : v.ownBlock = some g) : w0.heap.size + 7 ≤ g := (World.ownsRow.lt h.row g e).1
theorem SS.rowk {w0 : World} {Lo : Obj} {g3 : Nat} {a : Option Addr} {n cap r : Nat} {v : Value} {l : List (Int × Int)} {y : Int} {W W' : World} (h : SS w0 Lo g3 a n cap v l y W) (hg : W.grownBy W' (some r)) (hr : r < w0.heap.size + 7) : SR W' (w0.heap.size + 7) v l :=
  World.ownsRow.kept h.row hg (by
    cases hq : v.ownBlock with
    | none => exact .inl rfl
    | some g => exact .inr (fun e => by have := h.lt hq; have := Option.some.inj e; omega))
theorem SS.putL {w0 : World} {Lo Lo' : Obj} {g3 : Nat} {a : Option Addr} {n cap : Nat} {v : Value} {l : List (Int × Int)} {y : Int} {W : World} (h : SS w0 Lo g3 a n cap v l y W) : SS w0 Lo' g3 a n cap v l y (W.putObj (w0.heap.size + 6) Lo') := by
  have hlt := (Array.getElem?_eq_some_iff.1 h.L).1
  have hne : ∀ {g : Nat}, g ≠ w0.heap.size + 6 → (W.putObj (w0.heap.size + 6) Lo').heap[g]? = W.heap[g]? := fun hg => World.putObj_heap_other hg
  have hg : W.grownBy (W.putObj (w0.heap.size + 6) Lo') (some (w0.heap.size + 6)) := grownBy_putObj' _ _ _
  exact h.grown hg (by omega) (by omega) (by omega) (by omega) (by omega) ((hne (by omega)).trans h.tbox) ((hne (by omega)).trans h.bbox) (World.putObj_heap_same hlt) (h.rowk hg (by omega))
theorem grown_cell (W : World) (b k : Nat) (u : Value) : W.grownBy (W.setCell ⟨b, k, none⟩ u) (some b) :=
  ⟨rfl, rfl, rfl, by simp, fun i _ hi => by simp only [World.setCell, Array.getElem?_modify]; rw [if_neg (fun h => hi (by rw [h]))]⟩
theorem box_set {W : World} {B : Nat} {v : Value} {t : TypeId} (v' : Value) (h : W.heap[B]? = some (.cells #[v] t (0, 0))) : (W.setCell ⟨B, 0, none⟩ v').heap[B]? = some (.cells #[v'] t (0, 0)) := by
  simp only [World.setCell, Array.getElem?_modify]
  rw [h]; simp
theorem other_set {W : World} {b g : Nat} {u : Value} {o : Obj} (h : W.heap[g]? = some o) (hn : g ≠ b) : (W.setCell ⟨b, 0, none⟩ u).heap[g]? = some o := ((grown_cell W b 0 u).block g (Array.getElem?_eq_some_iff.1 h).1 (fun e => hn (Option.some.inj e))).trans h
/-- One that stays. -/
theorem SS.stay {w0 : World} {Lo : Obj} {g3 : Nat} {a : Option Addr} {n cap : Nat} {v : Value} {l : List (Int × Int)} {y : Int} {W : World} (h : SS w0 Lo g3 a n cap v l y W) (x : Int) : SS w0 Lo g3 a n cap v l x (W.setCell ⟨w0.heap.size + 2, 0, none⟩ (.int .i64 x)) :=
  h.grown (grown_cell _ _ _ _) (by omega) (by omega) (by omega) (by omega) (by omega) (other_set h.tbox (by omega)) (box_set _ h.bbox) (other_set h.L (by omega)) (h.rowk (grown_cell _ _ _ _) (by omega))
/-- One that is placed. -/
theorem SS.push {w0 : World} {Lo : Obj} {g3 : Nat} {a : Option Addr} {n cap : Nat} {v v' : Value} {l l' : List (Int × Int)} {y : Int} {W w8 : World} (h : SS w0 Lo g3 a n cap v l y W) (ha : App W (w0.heap.size + 7) 34 2 v v' l'.length (cellsS l') w8) : SS w0 Lo g3 a n cap v' l' y (w8.setCell ⟨w0.heap.size + 1, 0, none⟩ v') := by
  have hlt : ∀ {g : Nat} {o : Obj}, W.heap[g]? = some o → g < W.heap.size := fun h => (Array.getElem?_eq_some_iff.1 h).1
  have kp : ∀ {g : Nat} {o : Obj}, W.heap[g]? = some o → g < w0.heap.size + 7 → w8.heap[g]? = some o := fun h' hn => (ha.grown.block _ (hlt h') (fun e => by have := h.lt e.symm; omega)).trans h'
  have hg := grown_cell w8 (w0.heap.size + 1) 0 v'
  have h8 : SR (w8.setCell ⟨w0.heap.size + 1, 0, none⟩ v') (w0.heap.size + 7) v' l' := World.ownsRow.kept ha.own hg (by
    cases hq : v'.ownBlock with
    | none => exact .inl rfl
    | some g => exact .inr (fun e => by have := (World.ownsRow.lt ha.own g hq).1; have := Option.some.inj e; omega))
  exact ⟨other_set (kp h.pbox (by omega)) (by omega), box_set _ (kp h.tbox (by omega)), other_set (kp h.bbox (by omega)) (by omega), other_set (kp h.fbox (by omega)) (by omega), other_set (kp h.sbox (by omega)) (by omega), other_set (kp h.K (by omega)) (by omega), other_set (kp h.L (by omega)) (by omega), h8,
    (h.low.grown ha.grown h.low.size (fun k e => by have := h.lt e; omega)).grown hg (Nat.le_trans h.low.size ha.grown.size) (fun k e => by have := Option.some.inj e; omega), Nat.le_trans h.big (Nat.le_trans ha.grown.size hg.size)⟩
theorem SS.drew {w0 : World} {Lo : Obj} {g3 : Nat} {a : Option Addr} {n cap : Nat} {v : Value} {l : List (Int × Int)} {y : Int} {W : World} (h : SS w0 Lo g3 a n cap v l y W) : SS w0 Lo g3 a n cap v l y W.drew :=
  ⟨h.pbox, h.tbox, h.bbox, h.fbox, h.sbox, h.K, h.L, own_drew h.row, h.low.trans ((below_drawM W 1).mono h.low.size), h.big⟩

theorem room_wide' (k : Nat) : Fence.wide.room k := fun d h => by cases h
theorem YieldAt.any {m : Nat} (m' : Nat) {P : Program} {l : Nat} {args : Array Value} {W : World} {R : Ending → World → Prop} (h : YieldAt Fence.wide m P l args W R) : YieldAt Fence.wide m' P l args W R := by
  obtain ⟨fn, tmps, assign, body, hy, hR⟩ := h
  exact ⟨fn, tmps, assign, body, hy, hR.1, fun c cs _ => hR.2 c cs (room_wide' _)⟩

def calmOp (o : Oper) : Bool := match o.op with | .defer _ => false | _ => true
theorem calm_ops {ops : Array Oper} (h : ops.all calmOp = true) : ∀ (i : Nat) (o : Oper), ops[i]? = some o → ∀ c : Go.Call, o.op ≠ Op.defer c := fun i o hi c e => by
  have hm : o ∈ ops := Array.mem_of_getElem? hi
  have := Array.all_eq_true_iff_forall_mem.1 h o hm
  unfold calmOp at this
  rw [e] at this
  cases this
/-- In a round no operation but a deferred call is another one. -/
theorem wpOpIn_round {F : Fence} {n : Nat} {P : Program} {ops : Array Oper} {Q : Exit → Act → World → Prop} {i l : Nat} {K K' : Act → World → Prop} {a : Act} {w : World} (hro : F.round = none) (hd : ∀ (i : Nat) (o : Oper), ops[i]? = some o → ∀ c : Go.Call, o.op ≠ Op.defer c) (hK : ∀ a w, K a w → K' a w)
    (h : wpOpIn F n P ops Q i K a w) : wpOpIn (F.inRound l) n P ops Q i K' a w := by
  replace h := wpOpIn_mono hK h
  unfold wpOpIn at h ⊢
  cases ho : ops[i]? with
  | none => rw [ho] at h; exact h
  | some o =>
    rw [ho] at h
    simp only at h ⊢
    split
    · rename_i hw
      rw [if_pos hw] at h
      refine ⟨h.1, ?_⟩
      have h2 := h.2
      rw [Oper.semAt_eq _ _ _ (hd i o ho)] at h2 ⊢
      exact h2
    · rename_i hw
      rw [if_neg hw] at h
      exact h
theorem wpAnyIn_round {F : Fence} {n : Nat} {P : Program} {md : Region.Mode} {ops : Array Oper} {Q : Exit → Act → World → Prop} {l : Nat} (hro : F.round = none) (hd : ∀ (i : Nat) (o : Oper), ops[i]? = some o → ∀ c : Go.Call, o.op ≠ Op.defer c) : ∀ {fuel : Nat} {listed : Array Bool} {a : Act} {w : World},
    wpAnyIn F n P md ops Q fuel listed a w → wpAnyIn (F.inRound l) n P md ops Q fuel listed a w
  | 0, _, _, _, h => h
  | fuel + 1, _, _, _, h => ⟨h.1, fun i hi => wpOpIn_round hro hd (fun _ _ q => wpAnyIn_round hro hd q) (h.2 i hi)⟩

set_option maxRecDepth 100000 in
set_option maxHeartbeats 2000000 in
theorem st_round {w0 : World} {fn : FuncId} {oa : Option Addr} {on oc : Nat} {na : Option Addr} {nn nc : Nat} {a : Option Addr} {U : List Int} {cap g2 g3 : Nat} {P : Nat → Bool} (hfn : Fence.wide.fn fn) (hn : U.length ≤ 1048576) (hP : ∀ W, Below w0.heap.size w0 W → ∀ i, i < U.length → W.cell? ⟨g3, i, none⟩ = some (.bool (P i))) (m : Nat) (hm : 1 ≤ m) (c : Nat) (W : World) (hc : c < U.length) (v : Value)
    (h : SS w0 (.loop (stRec fn oa on oc na nn nc a U.length cap g2 g3 w0.heap.size .ready none)) g3 a U.length cap v (Pl.stpR U P c) (Pl.bef U P c) W) :
    YieldAt Fence.wide m Try.prog (w0.heap.size + 6) #[.int .i64 ((U.length - 1 - c : Nat) : Int), .int .i64 (Pl.nth U (U.length - 1 - c))] W fun e W' => e = .returned (.bool true) ∧ ∃ v', SS w0 (.loop (stRec fn oa on oc na nn nc a U.length cap g2 g3 w0.heap.size .ready none)) g3 a U.length cap v' (Pl.stpR U P (c + 1)) (Pl.bef U P (c + 1)) W' := by
  have hR : Pl.stpR U P (c + 1) = if P (U.length - 1 - c) = true then Pl.stpR U P c ++ [(Pl.nth U (U.length - 1 - c), Pl.bef U P c)] else Pl.stpR U P c := rfl
  have hBf : Pl.bef U P (c + 1) = if P (U.length - 1 - c) = true then Pl.bef U P c else Pl.nth U (U.length - 1 - c) := rfl
  have hRl := Pl.stpR_len U P c
  have hp1 : U.length - 1 - c < U.length := by omega
  obtain ⟨p, hp⟩ : ∃ p, U.length - 1 - c = p := ⟨_, rfl⟩
  rw [hp] at hp1 hR hBf ⊢
  clear hp
  have hP' := Lib.hid (fun W hb => hP W hb p hp1)
  clear hP
  generalize Pl.nth U p = x at hR hBf ⊢
  refine ⟨fn, stTm oa on oc na nn nc a U.length cap g2 g3 w0.heap.size (.int .i64 p) (.int .i64 x), stAssign, stBody, by simpa [stRec, stTm] using run_yield (P := Try.prog) (args := #[.int .i64 p, .int .i64 x]) h.L rfl, roundIn_of_wpIn hfn ?_⟩
  have hbr := run_beginRound (P := Try.prog) h.L rfl
  have hk2 : SS w0 (.loop { stRec fn oa on oc na nn nc a U.length cap g2 g3 w0.heap.size .ready none with state := .busy }) g3 a U.length cap v (Pl.stpR U P c) (Pl.bef U P c) (W.putObj (w0.heap.size + 6) (.loop { stRec fn oa on oc na nn nc a U.length cap g2 g3 w0.heap.size .ready none with state := .busy })) := h.putL
  generalize W.putObj (w0.heap.size + 6) (.loop { stRec fn oa on oc na nn nc a U.length cap g2 g3 w0.heap.size .ready none with state := .busy }) = W2 at hbr hk2
  have HK2 := Lib.hid hk2
  obtain ⟨z0, -⟩ := box1 hk2.pbox
  obtain ⟨z3, -⟩ := box1 hk2.fbox
  have hcell := hP'.out W2 hk2.low
  have hpi0 : (0 : Int) ≤ (p : Int) := by omega
  have hpi1 : (p : Int) < (U.length : Int) := by omega
  have HR := Lib.hid hR
  have HBf := Lib.hid hBf
  clear hk2 h hP' hR hBf
  have hf23 : Fence.wide.fn 23 := trivial
  unfold stAssign stTm
  gi_wp2_with (rw [Oper.semAt_eq _ _ _ (fun c h => by cases h)]; go_simp; try go_bits)
  unfold stBody
  cases hq : P p with
  | true =>
    rw [hq] at hcell
    have HPT := Lib.hid (put_true x (w0.heap.size + 1) (w0.heap.size + 2) (Pl.bef U P c) (w0.heap.size + 7) v (Pl.stpR U P c) W2.drew HK2.out.drew.bbox HK2.out.drew.tbox HK2.out.drew.row (by omega) HK2.out.drew.big (by omega))
    gi_wp2_with (rw [Oper.semAt_eq _ _ _ (fun c h => by cases h)]; go_simp; try go_bits)
    refine wpIn_region_any (by kernel_rfl) ?_
    change wpAnyIn _ _ _ _ _ _ _ _ _ (World.drew _)
    refine wpAnyIn_round (F := Fence.wide) rfl (calm_ops (by kernel_rfl)) ?_
    refine wpAnyIn_take (i := 1) (v := ?_) rfl rfl (by kernel_rfl) (by kernel_rfl) (by kernel_rfl) (fun _ _ _ h => h) ⟨Or.inl ⟨by rfl, ?_⟩, fun _ => rfl⟩ ?_
    rotate_left
    · intro w8; go_simp
      try (with_reducible rfl)
    refine wpAnyIn_take (i := 3) (v := ?_) rfl rfl (by kernel_rfl) (by kernel_rfl) (by kernel_rfl) (fun _ _ _ h => h) ⟨Or.inl ⟨by rfl, ?_⟩, fun _ => rfl⟩ ?_
    rotate_left
    · intro w8; go_simp
      try (with_reducible rfl)
    refine wpAnyIn_ready (rs := [0, 2]) (by kernel_rfl) (by simp) ?_
    refine AllReadyIn.cons rfl (fun K hK => ?_) ?_
    · go_simp
      refine hK _ _ ?_
      clear hK K
      refine wpAnyIn_ready (rs := [2]) (by kernel_rfl) (by simp) ?_
      refine AllReadyIn.cons rfl (fun K hK => ?_) ?_
      · go_simp
        refine hK _ _ ?_
        clear hK K
        refine wpAnyIn_take (i := 4) (v := ?_) rfl rfl (by kernel_rfl) (by kernel_rfl) (by kernel_rfl) (fun _ _ _ h => h) ⟨Or.inl ⟨by rfl, ?_⟩, fun _ => rfl⟩ ?_
        rotate_left
        · intro w8; go_simp
          try (with_reducible rfl)
        refine wpAnyIn_ready (rs := [5]) (by kernel_rfl) (by simp) ?_
        refine AllReadyIn.cons rfl (fun K hK => ?_) ?_
        · go_simp
          refine hK _ _ ?_
          clear hK K
          refine wpAnyIn_ready (rs := [6]) (by kernel_rfl) (by simp) ?_
          refine AllReadyIn.cons rfl (fun K hK => ?_) AllReadyIn.nil
          go_simp
          refine (callsIn_wide.2 HPT.out).mono ?_
          rintro e9 w9 ⟨⟨u9, rfl⟩, h9⟩
          go_simp
          refine hK _ _ ?_
          clear hK K
          refine wpAnyIn_done (by kernel_rfl) ?_ _
          obtain ⟨v2, w8, h9, rfl⟩ := h9
          have H9 := Lib.hid h9
          clear h9
          gi_wp2
          have hk3 := HK2.out.drew.push H9.out
          refine ⟨_, _, run_endRound none hk3.L, ?_⟩
          refine ⟨rfl, v2, ?_⟩
          rw [HR.out, HBf.out, hq, if_pos rfl, if_pos rfl]
          exact hk3.putL
        exact AllReadyIn.nil
      exact AllReadyIn.nil
    refine AllReadyIn.cons rfl (fun K hK => ?_) ?_
    · go_simp
      refine hK _ _ ?_
      clear hK K
      refine wpAnyIn_take (i := 4) (v := ?_) rfl rfl (by kernel_rfl) (by kernel_rfl) (by kernel_rfl) (fun _ _ _ h => h) ⟨Or.inl ⟨by rfl, ?_⟩, fun _ => rfl⟩ ?_
      rotate_left
      · intro w8; go_simp
        try (with_reducible rfl)
      refine wpAnyIn_ready (rs := [0, 5]) (by kernel_rfl) (by simp) ?_
      refine AllReadyIn.cons rfl (fun K hK => ?_) ?_
      · go_simp
        refine hK _ _ ?_
        clear hK K
        refine wpAnyIn_ready (rs := [5]) (by kernel_rfl) (by simp) ?_
        refine AllReadyIn.cons rfl (fun K hK => ?_) ?_
        · go_simp
          refine hK _ _ ?_
          clear hK K
          refine wpAnyIn_ready (rs := [6]) (by kernel_rfl) (by simp) ?_
          refine AllReadyIn.cons rfl (fun K hK => ?_) AllReadyIn.nil
          go_simp
          refine (callsIn_wide.2 HPT.out).mono ?_
          rintro e9 w9 ⟨⟨u9, rfl⟩, h9⟩
          go_simp
          refine hK _ _ ?_
          clear hK K
          refine wpAnyIn_done (by kernel_rfl) ?_ _
          obtain ⟨v2, w8, h9, rfl⟩ := h9
          have H9 := Lib.hid h9
          clear h9
          gi_wp2
          have hk3 := HK2.out.drew.push H9.out
          refine ⟨_, _, run_endRound none hk3.L, ?_⟩
          refine ⟨rfl, v2, ?_⟩
          rw [HR.out, HBf.out, hq, if_pos rfl, if_pos rfl]
          exact hk3.putL
        exact AllReadyIn.nil
      refine AllReadyIn.cons rfl (fun K hK => ?_) ?_
      · go_simp
        refine hK _ _ ?_
        clear hK K
        refine wpAnyIn_ready (rs := [0]) (by kernel_rfl) (by simp) ?_
        refine AllReadyIn.cons rfl (fun K hK => ?_) ?_
        · go_simp
          refine hK _ _ ?_
          clear hK K
          refine wpAnyIn_ready (rs := [6]) (by kernel_rfl) (by simp) ?_
          refine AllReadyIn.cons rfl (fun K hK => ?_) AllReadyIn.nil
          go_simp
          refine (callsIn_wide.2 HPT.out).mono ?_
          rintro e9 w9 ⟨⟨u9, rfl⟩, h9⟩
          go_simp
          refine hK _ _ ?_
          clear hK K
          refine wpAnyIn_done (by kernel_rfl) ?_ _
          obtain ⟨v2, w8, h9, rfl⟩ := h9
          have H9 := Lib.hid h9
          clear h9
          gi_wp2
          have hk3 := HK2.out.drew.push H9.out
          refine ⟨_, _, run_endRound none hk3.L, ?_⟩
          refine ⟨rfl, v2, ?_⟩
          rw [HR.out, HBf.out, hq, if_pos rfl, if_pos rfl]
          exact hk3.putL
        exact AllReadyIn.nil
      exact AllReadyIn.nil
    exact AllReadyIn.nil
  | false =>
    rw [hq] at hcell
    have HPT := Lib.hid (put_false x (w0.heap.size + 1) (w0.heap.size + 2) (Pl.bef U P c) W2.drew HK2.out.drew.bbox)
    gi_wp2_with (rw [Oper.semAt_eq _ _ _ (fun c h => by cases h)]; go_simp; try go_bits)
    refine wpIn_region_any (by kernel_rfl) ?_
    change wpAnyIn _ _ _ _ _ _ _ _ _ (World.drew _)
    refine wpAnyIn_round (F := Fence.wide) rfl (calm_ops (by kernel_rfl)) ?_
    refine wpAnyIn_take (i := 1) (v := ?_) rfl rfl (by kernel_rfl) (by kernel_rfl) (by kernel_rfl) (fun _ _ _ h => h) ⟨Or.inl ⟨by rfl, ?_⟩, fun _ => rfl⟩ ?_
    rotate_left
    · intro w8; go_simp
      try (with_reducible rfl)
    refine wpAnyIn_take (i := 3) (v := ?_) rfl rfl (by kernel_rfl) (by kernel_rfl) (by kernel_rfl) (fun _ _ _ h => h) ⟨Or.inl ⟨by rfl, ?_⟩, fun _ => rfl⟩ ?_
    rotate_left
    · intro w8; go_simp
      try (with_reducible rfl)
    refine wpAnyIn_ready (rs := [0, 2]) (by kernel_rfl) (by simp) ?_
    refine AllReadyIn.cons rfl (fun K hK => ?_) ?_
    · go_simp
      refine hK _ _ ?_
      clear hK K
      refine wpAnyIn_ready (rs := [2]) (by kernel_rfl) (by simp) ?_
      refine AllReadyIn.cons rfl (fun K hK => ?_) ?_
      · go_simp
        refine hK _ _ ?_
        clear hK K
        refine wpAnyIn_take (i := 4) (v := ?_) rfl rfl (by kernel_rfl) (by kernel_rfl) (by kernel_rfl) (fun _ _ _ h => h) ⟨Or.inl ⟨by rfl, ?_⟩, fun _ => rfl⟩ ?_
        rotate_left
        · intro w8; go_simp
          try (with_reducible rfl)
        refine wpAnyIn_ready (rs := [5]) (by kernel_rfl) (by simp) ?_
        refine AllReadyIn.cons rfl (fun K hK => ?_) ?_
        · go_simp
          refine hK _ _ ?_
          clear hK K
          refine wpAnyIn_ready (rs := [6]) (by kernel_rfl) (by simp) ?_
          refine AllReadyIn.cons rfl (fun K hK => ?_) AllReadyIn.nil
          go_simp
          refine (callsIn_wide.2 HPT.out).mono ?_
          rintro e9 w9 ⟨⟨u9, rfl⟩, h9⟩
          go_simp
          refine hK _ _ ?_
          clear hK K
          refine wpAnyIn_done (by kernel_rfl) ?_ _
          subst h9
          gi_wp2
          have hk3 := HK2.out.drew.stay x
          refine ⟨_, _, run_endRound none hk3.L, ?_⟩
          refine ⟨rfl, v, ?_⟩
          rw [HR.out, HBf.out, hq, if_neg Bool.noConfusion, if_neg Bool.noConfusion]
          exact hk3.putL
        exact AllReadyIn.nil
      exact AllReadyIn.nil
    refine AllReadyIn.cons rfl (fun K hK => ?_) ?_
    · go_simp
      refine hK _ _ ?_
      clear hK K
      refine wpAnyIn_take (i := 4) (v := ?_) rfl rfl (by kernel_rfl) (by kernel_rfl) (by kernel_rfl) (fun _ _ _ h => h) ⟨Or.inl ⟨by rfl, ?_⟩, fun _ => rfl⟩ ?_
      rotate_left
      · intro w8; go_simp
        try (with_reducible rfl)
      refine wpAnyIn_ready (rs := [0, 5]) (by kernel_rfl) (by simp) ?_
      refine AllReadyIn.cons rfl (fun K hK => ?_) ?_
      · go_simp
        refine hK _ _ ?_
        clear hK K
        refine wpAnyIn_ready (rs := [5]) (by kernel_rfl) (by simp) ?_
        refine AllReadyIn.cons rfl (fun K hK => ?_) ?_
        · go_simp
          refine hK _ _ ?_
          clear hK K
          refine wpAnyIn_ready (rs := [6]) (by kernel_rfl) (by simp) ?_
          refine AllReadyIn.cons rfl (fun K hK => ?_) AllReadyIn.nil
          go_simp
          refine (callsIn_wide.2 HPT.out).mono ?_
          rintro e9 w9 ⟨⟨u9, rfl⟩, h9⟩
          go_simp
          refine hK _ _ ?_
          clear hK K
          refine wpAnyIn_done (by kernel_rfl) ?_ _
          subst h9
          gi_wp2
          have hk3 := HK2.out.drew.stay x
          refine ⟨_, _, run_endRound none hk3.L, ?_⟩
          refine ⟨rfl, v, ?_⟩
          rw [HR.out, HBf.out, hq, if_neg Bool.noConfusion, if_neg Bool.noConfusion]
          exact hk3.putL
        exact AllReadyIn.nil
      refine AllReadyIn.cons rfl (fun K hK => ?_) ?_
      · go_simp
        refine hK _ _ ?_
        clear hK K
        refine wpAnyIn_ready (rs := [0]) (by kernel_rfl) (by simp) ?_
        refine AllReadyIn.cons rfl (fun K hK => ?_) ?_
        · go_simp
          refine hK _ _ ?_
          clear hK K
          refine wpAnyIn_ready (rs := [6]) (by kernel_rfl) (by simp) ?_
          refine AllReadyIn.cons rfl (fun K hK => ?_) AllReadyIn.nil
          go_simp
          refine (callsIn_wide.2 HPT.out).mono ?_
          rintro e9 w9 ⟨⟨u9, rfl⟩, h9⟩
          go_simp
          refine hK _ _ ?_
          clear hK K
          refine wpAnyIn_done (by kernel_rfl) ?_ _
          subst h9
          gi_wp2
          have hk3 := HK2.out.drew.stay x
          refine ⟨_, _, run_endRound none hk3.L, ?_⟩
          refine ⟨rfl, v, ?_⟩
          rw [HR.out, HBf.out, hq, if_neg Bool.noConfusion, if_neg Bool.noConfusion]
          exact hk3.putL
        exact AllReadyIn.nil
      exact AllReadyIn.nil
    exact AllReadyIn.nil

end Go.Proofs.Ytglnelkimagihaa
