/-
  Walks: one round of the loop in Kids ('kd_yield'): what it is handed becomes a child, or is none.
  Conditions: the value lies in old memory; what Kids keeps stands ('KS').
-/
import Derived.Test.YtpmkkgndpfbkdaaDoorNkM
import Derived.Maps.OwnIn
import Derived.RangeFuncCalls
import Derived.Deep.Heap
namespace Go.Proofs.YtpmkkgndpfbkdaaDoor
set_option linter.unusedVariables false
set_option linter.unusedSimpArgs false
open Go.RowKit Go.Deep Go.WideShapes
open Go.Maps hiding size

def kdAssign : Code := ((Code.region 4 #[{ dst := some 5, op := Op.assign (Operand.tmp 13), type := 3, pos := "norm.go:10", after := #[], guard := none }] false).seq (Code.region 5 #[{ dst := some 6, op := Op.assign (Operand.tmp 14), type := 50, pos := "norm.go:10", after := #[], guard := none }] false))
def kdBody : Code := (Code.block 1 ((Code.region 6 #[{ dst := some 16, op := Op.move (Operand.tmp 6), type := 50, pos := "norm.go:11", after := #[], guard := none }, { dst := some 17, op := Op.call { callee := Callee.value (Operand.func 16), args := #[Operand.tmp 16], argTypes := #[50] }, type := 51, pos := "norm.go:11", after := #[{ on := 0, ground := Ground.data }], guard := none }, { dst := some 15, op := Op.move (Operand.tmp 17), type := 51, pos := "norm.go:11", after := #[{ on := 1, ground := Ground.data }], guard := none }, { dst := some 18, op := Op.extract (Operand.tmp 15) 0, type := 35, pos := "norm.go:11", after := #[{ on := 2, ground := Ground.data }], guard := none }, { dst := some 19, op := Op.extract (Operand.tmp 15) 1, type := 4, pos := "norm.go:11", after := #[{ on := 2, ground := Ground.data }, { on := 6, ground := Ground.gcOnly Departure.lateStores }], guard := none }, { dst := some 7, op := Op.alloc 35, type := 0, pos := "norm.go:11", after := #[], guard := none }, { dst := none, op := Op.store 35 (Operand.tmp 7) (Operand.tmp 18), type := 0, pos := "norm.go:11", after := #[{ on := 5, ground := Ground.data }, { on := 3, ground := Ground.data }, { on := 1, ground := Ground.chain }, { on := 0, ground := Ground.phase }, { on := 1, ground := Ground.phase }, { on := 2, ground := Ground.phase }, { on := 3, ground := Ground.phase }, { on := 4, ground := Ground.textOnly Departure.lateStores }, { on := 5, ground := Ground.phase }], guard := none }, { dst := some 8, op := Op.assign (Operand.tmp 19), type := 4, pos := "norm.go:11", after := #[{ on := 4, ground := Ground.data }, { on := 6, ground := Ground.chain }, { on := 0, ground := Ground.phase }, { on := 1, ground := Ground.phase }, { on := 2, ground := Ground.phase }, { on := 3, ground := Ground.phase }, { on := 4, ground := Ground.phase }, { on := 5, ground := Ground.phase }, { on := 6, ground := Ground.phase }], guard := none }] false).seq (((Code.region 7 #[{ dst := some 20, op := Op.move (Operand.tmp 8), type := 4, pos := "norm.go:12", after := #[], guard := none }, { dst := some 21, op := Op.unOp UnOp.not 4 (Operand.tmp 20), type := 4, pos := "norm.go:12", after := #[{ on := 0, ground := Ground.data }], guard := none }] false).seq (Code.cond (Operand.tmp 21) (Code.exit 1) Code.skip)).seq ((Code.region 8 #[{ dst := some 22, op := Op.load 43 (Operand.tmp 4), type := 43, pos := "norm.go:15", after := #[], guard := none }, { dst := some 23, op := Op.move (Operand.tmp 6), type := 50, pos := "norm.go:15", after := #[], guard := none }, { dst := some 24, op := Op.move (Operand.tmp 5), type := 3, pos := "norm.go:15", after := #[], guard := none }, { dst := some 25, op := Op.call { callee := Callee.value (Operand.func 17), args := #[Operand.tmp 22, Operand.tmp 23, Operand.tmp 24], argTypes := #[43, 50, 3] }, type := 9, pos := "norm.go:15", after := #[{ on := 0, ground := Ground.data }, { on := 1, ground := Ground.data }, { on := 2, ground := Ground.data }], guard := none }, { dst := some 26, op := Op.fieldAddr 35 (Operand.tmp 7) 0, type := 0, pos := "norm.go:15", after := #[{ on := 0, ground := Ground.phase }, { on := 1, ground := Ground.phase }, { on := 2, ground := Ground.phase }, { on := 3, ground := Ground.phase }], guard := none }, { dst := none, op := Op.store 9 (Operand.tmp 26) (Operand.tmp 25), type := 0, pos := "norm.go:15", after := #[{ on := 4, ground := Ground.data }, { on := 3, ground := Ground.data }, { on := 3, ground := Ground.chain }, { on := 0, ground := Ground.phase }, { on := 1, ground := Ground.phase }, { on := 2, ground := Ground.phase }, { on := 3, ground := Ground.phase }], guard := none }] false).seq ((Code.region 9 #[{ dst := some 27, op := Op.load 31 (Operand.tmp 3), type := 31, pos := "norm.go:16", after := #[], guard := none }, { dst := some 28, op := Op.load 35 (Operand.tmp 7), type := 35, pos := "norm.go:16", after := #[], guard := none }, { dst := some 29, op := Op.buildSlice 31 1 #[(0, Operand.tmp 28)], type := 31, pos := "norm.go:16", after := #[{ on := 1, ground := Ground.data }], guard := none }, { dst := some 30, op := Op.call { callee := Callee.builtin Builtin.append, args := #[Operand.tmp 27, Operand.tmp 29], argTypes := #[31, 31] }, type := 31, pos := "norm.go:16", after := #[{ on := 0, ground := Ground.data }, { on := 2, ground := Ground.data }], guard := none }, { dst := none, op := Op.store 31 (Operand.tmp 3) (Operand.tmp 30), type := 0, pos := "norm.go:16", after := #[{ on := 3, ground := Ground.data }, { on := 3, ground := Ground.chain }, { on := 0, ground := Ground.phase }, { on := 1, ground := Ground.phase }, { on := 2, ground := Ground.phase }, { on := 3, ground := Ground.phase }], guard := none }] false).seq ((Code.region 10 #[{ dst := some 31, op := Op.load 31 (Operand.tmp 3), type := 31, pos := "norm.go:17", after := #[], guard := none }, { dst := some 32, op := Op.call { callee := Callee.builtin Builtin.len, args := #[Operand.tmp 31], argTypes := #[31] }, type := 3, pos := "norm.go:17", after := #[{ on := 0, ground := Ground.data }], guard := none }, { dst := some 33, op := Op.binOp BinOp.eql 3 (Operand.tmp 32) (Operand.const (Value.int IntKind.i64 4096)) 3, type := 4, pos := "norm.go:17", after := #[{ on := 1, ground := Ground.data }], guard := none }] false).seq (Code.cond (Operand.tmp 33) (Code.exit 0) Code.skip)))))))
/-- The loop's slots, of which the round's own are handed in. -/
def kdTm (la : Option Addr) (ll lc B : Nat) (p q : Value) : Array Value :=
  #[.slice la ll lc, undef, .slice none 0 0, .pointer (some ⟨B, 0, none⟩), .pointer (some ⟨B + 2, 0, none⟩), undef, undef, undef, undef, .map (some (B + 1)), .pointer (some ⟨B + 3, 0, none⟩), .slice la ll lc,
    .func (.func 24) #[] #[.pointer (some ⟨B + 5, 0, none⟩), .pointer (some ⟨B + 4, 0, none⟩)], p, q, undef, undef, undef, undef, undef, undef, undef, undef, undef, undef, undef, undef, undef, undef, undef, undef, undef, undef, undef, undef]
/-- The loop's record. -/
def kdRec (fn : FuncId) (la : Option Addr) (ll lc B : Nat) (st : LoopState) (pend : Option Code) : Loop :=
  { state := st, pending := pend, fn, tmps := kdTm la ll lc B undef undef, params := #[13, 14], assign := kdAssign, body := kdBody, defers := B + 6 }
/-- A value that Kids may be handed. -/
structure El.Ok (w0 : World) (x : El) : Prop where
  inn : x.v.In w0
  fit : x.v.Fit
  at' : At w0 x.b x.o x.v.cells
  key : ∀ k n s la ll lc L fa fl fc fn F e key hk, x.v = .mk k n s la ll lc L fa fl fc fn F e key hk → key.size ≤ 140737488351232

/-- What is changed of a world, at most. -/
structure Ch (S : Nat → Prop) (W W' : World) : Prop where
  os : W'.os = W.os
  tape : W'.tape = W.tape
  output : W'.output = W.output
  size : W.heap.size ≤ W'.heap.size
  block : ∀ k, k < W.heap.size → ¬ S k → W'.heap[k]? = W.heap[k]?
theorem Ch.refl {S : Nat → Prop} {W : World} : Ch S W W := ⟨rfl, rfl, rfl, Nat.le_refl _, fun _ _ _ => rfl⟩
theorem Ch.step {S : Nat → Prop} {A B D : World} {r : Option Nat} (h : Ch S A B) (g : B.grownBy D r) (hr : ∀ k, r = some k → S k ∨ A.heap.size ≤ k) : Ch S A D :=
  ⟨g.os.trans h.os, g.tape.trans h.tape, g.output.trans h.output, Nat.le_trans h.size g.size, fun k hk hs => (g.block k (Nat.lt_of_lt_of_le hk h.size) (fun e => (hr k e.symm).elim hs (fun q => by omega))).trans (h.block k hk hs)⟩


theorem box_set {W : World} {B : Nat} {v : Value} {t : TypeId} (v' : Value) (h : W.heap[B]? = some (.cells #[v] t (0, 0))) : (W.setCell ⟨B, 0, none⟩ v').heap[B]? = some (.cells #[v'] t (0, 0)) := by
  simp only [World.setCell, Array.getElem?_modify]
  rw [h]; simp
theorem KS.putL {w0 : World} {Lo Lo' : Obj} {v : Value} {cs : List C} {seen : List (List UInt8)} {n : Nat} {W : World} (h : KS w0 Lo v cs seen n W) : KS w0 Lo' v cs seen n (W.putObj (w0.heap.size + 7) Lo') := by
  have hlt := (Array.getElem?_eq_some_iff.1 h.L).1
  have hne : ∀ {g : Nat}, g ≠ w0.heap.size + 7 → (W.putObj (w0.heap.size + 7) Lo').heap[g]? = W.heap[g]? := fun hg => World.putObj_heap_other hg
  have hg : W.grownBy (W.putObj (w0.heap.size + 7) Lo') (some (w0.heap.size + 7)) := grownBy_putObj' _ _ _
  refine ⟨(hne (by omega)).trans h.box, h.map.kept hg (fun e => by have := Option.some.inj e; omega), (hne (by omega)).trans h.sbox, (hne (by omega)).trans h.K, World.putObj_heap_same hlt, h.row.kept hg ?_, fun c hc => ?_, h.low.grown hg h.low.size (fun k e => by have := Option.some.inj e; omega), Nat.le_trans h.big hg.size⟩
  · cases hq : v.ownBlock with
    | none => exact .inl rfl
    | some g => exact .inr (fun e => by have := (h.row.lt g hq).1; have := Option.some.inj e; omega)
  · obtain ⟨q1, q2⟩ := h.vals c hc
    exact ⟨in_blocks q1 fun g hgm => hne (by have := (q2 g hgm).1; omega), fun g hgm => ⟨(q2 g hgm).1, (q2 g hgm).2.1, Nat.lt_of_lt_of_le (q2 g hgm).2.2 hg.size⟩⟩

/-- The set of keys is turned. -/
theorem KS.took {w0 : World} {Lo : Obj} {v : Value} {cs : List C} {seen seen' : List (List UInt8)} {n n' : Nat} {W W' : World} (h : KS w0 Lo v cs seen n W) (hg : W.grownBy W' (some (w0.heap.size + 1))) (hm : W'.ownsMap Tryd.prog 9 (unitElem (H := Unit)) (w0.heap.size + 1) n' (Sm seen')) : KS w0 Lo v cs seen' n' W' := by
  have hlt : ∀ {g : Nat} {o : Obj}, W.heap[g]? = some o → g < W.heap.size := fun h => (Array.getElem?_eq_some_iff.1 h).1
  have kp : ∀ {g : Nat} {o : Obj}, W.heap[g]? = some o → g ≠ w0.heap.size + 1 → W'.heap[g]? = some o := fun h hn => (hg.block _ (hlt h) (fun e => hn (Option.some.inj e))).trans h
  refine ⟨kp h.box (by omega), hm, kp h.sbox (by omega), kp h.K (by omega), kp h.L (by omega), h.row.kept hg ?_, fun c hc => ?_, h.low.grown hg h.low.size (fun k e => by have := Option.some.inj e; omega), Nat.le_trans h.big hg.size⟩
  · cases hq : v.ownBlock with
    | none => exact .inl rfl
    | some g => exact .inr (fun e => by have := (h.row.lt g hq).1; have := Option.some.inj e; omega)
  · obtain ⟨q1, q2⟩ := h.vals c hc
    exact ⟨in_blocks q1 fun g hgm => hg.block g (q2 g hgm).2.2 (fun e => by have := (q2 g hgm).1; have := Option.some.inj e; omega), fun g hgm => ⟨(q2 g hgm).1, (q2 g hgm).2.1, Nat.lt_of_lt_of_le (q2 g hgm).2.2 hg.size⟩⟩

/-- One child more. -/
theorem KS.push {w0 : World} {Lo : Obj} {v v' : Value} {cs : List C} {seen : List (List UInt8)} {n : Nat} {W W8 : World} (h : KS w0 Lo v cs seen n W) (c : C) (hg : W.grownBy W8 v.ownBlock) (hrow : W8.ownsRow (w0.heap.size + 8) 35 11 v' (cs.length + 1) (cs.flatMap C.cells ++ c.cells))
    (hv : v'.ownBlock = v.ownBlock ∨ ∃ q, v'.ownBlock = some q ∧ W.heap.size ≤ q) (hc : c.val.In W) (hb : ∀ g ∈ c.val.blocks, w0.heap.size + 8 ≤ g ∧ some g ≠ v.ownBlock ∧ g < W.heap.size) : KS w0 Lo v' (cs ++ [c]) seen n (W8.setCell ⟨w0.heap.size, 0, none⟩ v') := by
  have hlt : ∀ {g : Nat} {o : Obj}, W.heap[g]? = some o → g < W.heap.size := fun h => (Array.getElem?_eq_some_iff.1 h).1
  have hg9 : W8.grownBy (W8.setCell ⟨w0.heap.size, 0, none⟩ v') (some w0.heap.size) := grown_set0 _ _ _ _
  have kp : ∀ {g : Nat} {o : Obj}, W.heap[g]? = some o → g < w0.heap.size + 8 → W8.heap[g]? = some o := fun h' hn => (hg.block _ (hlt h') (fun e => by have := (h.row.lt _ e.symm).1; omega)).trans h'
  have kq : ∀ {g : Nat} {o : Obj}, W.heap[g]? = some o → g < w0.heap.size + 8 → g ≠ w0.heap.size → (W8.setCell ⟨w0.heap.size, 0, none⟩ v').heap[g]? = some o := fun h' hn hne => (hg9.block _ (Nat.lt_of_lt_of_le (hlt h') hg.size) (fun e => hne (Option.some.inj e))).trans (kp h' hn)
  have hr9 : ∀ g, W.heap.size ≤ g ∨ w0.heap.size < g → g < W8.heap.size → (W8.setCell ⟨w0.heap.size, 0, none⟩ v').heap[g]? = W8.heap[g]? := fun g hg' hl => hg9.block _ hl (fun e => by have := Option.some.inj e; have := h.big; omega)
  refine ⟨?_, ?_, kq h.sbox (by omega) (by omega), kq h.K (by omega) (by omega), kq h.L (by omega) (by omega), ?_, fun d hd => ?_, (h.low.grown hg h.low.size (fun k e => by have := (h.row.lt k e).1; omega)).grown hg9 (Nat.le_trans h.low.size hg.size) (fun k e => by have := Option.some.inj e; omega), Nat.le_trans h.big (Nat.le_trans hg.size hg9.size)⟩
  · exact box_set v' (kp h.box (by omega))
  · exact (h.map.kept hg (fun e => by have := (h.row.lt _ e.symm).1; omega)).kept hg9 (fun e => by have := Option.some.inj e; omega)
  · rw [List.length_append, List.flatMap_append]
    have := hrow.kept hg9 (by
      cases hq : v'.ownBlock with
      | none => exact .inl rfl
      | some g => exact .inr (fun e => by have := (hrow.lt g hq).1; have := Option.some.inj e; omega))
    simpa using this
  · have key : d.val.In W ∧ ∀ g ∈ d.val.blocks, w0.heap.size + 8 ≤ g ∧ some g ≠ v.ownBlock ∧ g < W.heap.size := by
      rcases List.mem_append.1 hd with hd | hd
      · exact h.vals d hd
      · rw [List.mem_singleton] at hd; subst hd; exact ⟨hc, hb⟩
    refine ⟨in_blocks key.1 fun g hgm => ?_, fun g hgm => ⟨(key.2 g hgm).1, ?_, Nat.lt_of_lt_of_le (key.2 g hgm).2.2 (Nat.le_trans hg.size hg9.size)⟩⟩
    · have := key.2 g hgm
      rw [hr9 g (.inr (by omega)) (Nat.lt_of_lt_of_le this.2.2 hg.size)]
      exact hg.block g this.2.2 this.2.1
    · have := key.2 g hgm
      rcases hv with e | ⟨q, e, hq⟩
      · rw [e]; exact this.2.1
      · rw [e]; intro e'; have := Option.some.inj e'; omega

theorem info_child : (Tryd.prog.info? 35).map (fun i => (i.zero, i.size, i.bytes)) = some (some nc.agg, 11, 152) := by kernel_rfl
theorem c_one (c : C) : ∀ u ∈ c.cells, u.oneCell' = true := by
  intro u hu
  simp only [C.cells, List.mem_cons] at hu
  rcases hu with rfl | rfl | rfl | hu
  · rfl
  · rfl
  · rfl
  · exact v_one _ u hu


theorem box11 {W : World} {b : Nat} {c0 c1 c2 c3 c4 c5 c6 c7 c8 c9 c10 : Value} {T : TypeId} (h : W.heap[b]? = some (.cells #[c0, c1, c2, c3, c4, c5, c6, c7, c8, c9, c10] T (0, 0))) :
    W.cell? ⟨b, 0, none⟩ = some c0 ∧ W.cell? ⟨b, 1, none⟩ = some c1 ∧ W.cell? ⟨b, 2, none⟩ = some c2 ∧ W.cell? ⟨b, 3, none⟩ = some c3 ∧ W.cell? ⟨b, 4, none⟩ = some c4 ∧ W.cell? ⟨b, 5, none⟩ = some c5 ∧ W.cell? ⟨b, 6, none⟩ = some c6 ∧ W.cell? ⟨b, 7, none⟩ = some c7 ∧ W.cell? ⟨b, 8, none⟩ = some c8 ∧ W.cell? ⟨b, 9, none⟩ = some c9 ∧ W.cell? ⟨b, 10, none⟩ = some c10 ∧ ∀ j, W.frozen? ⟨b, j, none⟩ = false := by
  refine ⟨?_, ?_, ?_, ?_, ?_, ?_, ?_, ?_, ?_, ?_, ?_, fun j => Lib.frozen_of_heap h j⟩ <;> (rw [Lib.cell_of_heap h]; rfl)
theorem cell_one_new' (W : World) (cs : List Value) (T : TypeId) : ∀ j u, cs[j]? = some u → (W.alloc (.cells cs.toArray T)).cell? ((⟨W.heap.size, 0, none⟩ : Addr).add j) = some u := fun j u h => by
  rw [add_plain]
  have := World.cell?_alloc_new (w := W) cs.toArray T (0 + j)
  rw [this]
  simpa using h
theorem cell_one_set (W : World) (a : Addr) (u0 : Value) (cs : List Value) (T : TypeId) : ∀ j u, cs[j]? = some u → ((W.setCell a u0).alloc (.cells cs.toArray T)).cell? ((⟨W.heap.size, 0, none⟩ : Addr).add j) = some u := by
  have e : (W.setCell a u0).heap.size = W.heap.size := by simp
  have := cell_one_new' (W.setCell a u0) cs T
  rwa [e] at this
/-- The child's own box is written. -/
theorem kid_kept {w0 : World} {Lo : Obj} {v : Value} {cs : List C} {seen : List (List UInt8)} {n : Nat} {w3 W2 W5 : World} {c t : V} (h : KS w0 Lo v cs seen n W5) (hb : w0.heap.size + 8 ≤ w3.heap.size) (hn : NewOf W2 c t w3) {kb : Nat} (hkb : kb = w3.heap.size) (u : Value) (hrow : ∀ g, v.ownBlock = some g → g < w3.heap.size) (hvals : ∀ d ∈ cs, ∀ g ∈ d.val.blocks, g < w3.heap.size) : KS w0 Lo v cs seen n (W5.setCell ⟨kb, 0, none⟩ u) :=
  h.grown (grown_set0 _ _ _ _) (by omega) (fun j hj _ _ _ e => by omega) (fun e => by have := hrow _ e.symm; omega) (fun d hd hm => by have := hvals d hd _ hm; omega)

/-- What one round leaves. -/
def RoundPost (w0 : World) (fn : FuncId) (la : Option Addr) (ll lc : Nat) (v : Value) (cs : List C) (seen : List (List UInt8)) (n : Nat) (p : Int) (x : El) (W : World) (e : Ending) (W' : World) : Prop :=
  ∃ r v' cs', e = .returned (.bool r) ∧ Ch (KO w0 W) W W' ∧ (v'.ownBlock = v.ownBlock ∨ ∃ q, v'.ownBlock = some q ∧ W.heap.size ≤ q) ∧
    KS w0 (.loop (kdRec fn la ll lc w0.heap.size (if r then .ready else .done) (if r then none else some (Code.exit 0)))) v' cs' (match x.v.kid with | none => seen | some _ => (keyM seen x.v p).2) (match x.v.kid with | none => n | some _ => n + 1) W' ∧
    (match x.v.kid with | none => r = true ∧ cs' = cs | some c => r = decide (cs.length + 1 ≠ 4096) ∧ ∃ t, c.val.same t = true ∧ cs' = cs ++ [⟨(keyM seen x.v p).1, c.kind, c.name, t⟩])

set_option maxRecDepth 100000 in
set_option maxHeartbeats 4000000 in
theorem kd_yield (m : Nat) (hm : 3 ≤ m) (w0 : World) (fn : FuncId) (hfn : Fence.wide.fn fn) (la : Option Addr) (ll lc : Nat) (v : Value) (cs : List C) (seen : List (List UInt8)) (n : Nat) (p : Int) (hp : -9223372036854775808 ≤ p ∧ p ≤ 9223372036854775807) (x : El) (hx : x.Ok w0) (ht : Tabs w0) (hcs : cs.length < 4096) (hn : n < maxLen)
    (W : World) (h : KS w0 (.loop (kdRec fn la ll lc w0.heap.size .ready none)) v cs seen n W) :
    YieldAt Fence.wide m Tryd.prog (w0.heap.size + 7) #[.int .i64 p, x.ptr] W (RoundPost w0 fn la ll lc v cs seen n p x W) := by
  have hl : w0.heap.size + 7 < W.heap.size := (Array.getElem?_eq_some_iff.1 h.L).1
  refine ⟨fn, kdTm la ll lc w0.heap.size (.int .i64 p) x.ptr, kdAssign, kdBody, by simpa [kdRec, kdTm] using run_yield (P := Tryd.prog) (args := #[.int .i64 p, x.ptr]) h.L rfl, roundIn_of_wpIn hfn ?_⟩
  have hbr := run_beginRound (P := Tryd.prog) h.L rfl
  have hS : ∀ k, k = w0.heap.size ∨ k = w0.heap.size + 1 ∨ k = w0.heap.size + 7 ∨ v.ownBlock = some k → KO w0 W k := fun k hk => by
    rcases hk with q | q | q | q
    · exact .inl q
    · exact .inr (.inl q)
    · exact .inr (.inr (.inl q))
    · exact .inr (.inr (.inr ⟨v, h.box, q⟩))
  have hk2 : KS w0 (.loop { kdRec fn la ll lc w0.heap.size .ready none with state := .busy }) v cs seen n (W.putObj (w0.heap.size + 7) (.loop { kdRec fn la ll lc w0.heap.size .ready none with state := .busy })) := h.putL
  have hch2 : Ch (KO w0 W) W (W.putObj (w0.heap.size + 7) (.loop { kdRec fn la ll lc w0.heap.size .ready none with state := .busy })) := Ch.refl.step (grownBy_putObj' _ _ _) (fun k e => .inl (hS k (.inr (.inr (.inl (Option.some.inj e).symm)))))
  generalize W.putObj (w0.heap.size + 7) (.loop { kdRec fn la ll lc w0.heap.size .ready none with state := .busy }) = W2 at hbr hk2 hch2
  have hb2 : Below w0.heap.size w0 W2 := hk2.low
  have HC := (child_any x.b x.o x.v W2 (hx.inn.below hb2) hx.fit (hx.at'.below hb2) (ht.below hb2))
  have hf17 : Fence.wide.fn 16 := trivial
  have hf18 : Fence.wide.fn 17 := trivial
  have hm1 : 1 ≤ m := by omega
  have HK2 := Lib.hid hk2
  have HH := Lib.hid h
  have HX := Lib.hid hx
  have HT := Lib.hid ht
  have HCH := Lib.hid hch2
  have HS := Lib.hid hS
  clear hk2 h hx ht hch2 hS
  unfold kdAssign kdTm El.ptr
  gi_wp2_with (rw [Oper.semAt_eq _ _ _ (fun c h => by cases h)]; go_simp; try go_bits)
  unfold kdBody
  cases hkid : x.v.kid with
  | none =>
    have HC2 : Calls Tryd.prog 16 #[.pointer (some ⟨x.b, x.o, none⟩)] W2 fun e w3 => e = .returned (.tuple #[nc.agg, .bool false]) ∧ Below W2.heap.size W2 w3 := HC.mono fun e w3 hq => ⟨hq.2.1 hkid, hq.1⟩
    clear HC
    simp only [C.agg, C.cells, nc, nv, vz, V.cells] at HC2
    gi_wp2_with (first
      | (gi_at_call 16; refine (CallsIn.inRound _ (callsIn_wide.2 HC2)).mono ?_; rintro e w3 ⟨rfl, hb3⟩; have HB3 := Lib.hid hb3; clear hb3)
      | (rw [Oper.semAt_eq _ _ _ (fun c h => by cases h)]; go_simp; try go_bits))
    have hk4 := (HK2.out.below HB3.out).below (below_alloc w3 (.cells #[.string ⟨#[]⟩, .int .u8 0, .string ⟨#[]⟩, .int .u8 0, .int .i64 0, .string ⟨#[]⟩, .slice none 0 0, .slice none 0 0, .int .u8 0, .string ⟨#[]⟩, .bool false] 35))
    have hc4 := (HCH.out.step (grown_of_below HB3.out none) (fun k e => by cases e)).step (World.grownBy_alloc w3 (.cells #[.string ⟨#[]⟩, .int .u8 0, .string ⟨#[]⟩, .int .u8 0, .int .i64 0, .string ⟨#[]⟩, .slice none 0 0, .slice none 0 0, .int .u8 0, .string ⟨#[]⟩, .bool false] 35) none) (fun k e => by cases e)
    refine ⟨_, _, run_endRound none hk4.L, ?_⟩
    have hk5 := hk4.putL (Lo' := .loop (kdRec fn la ll lc w0.heap.size .ready none))
    have hc5 := hc4.step (grownBy_putObj' _ (w0.heap.size + 7) (.loop (kdRec fn la ll lc w0.heap.size .ready none))) (fun k e => .inl (HS.out k (.inr (.inr (.inl (Option.some.inj e).symm)))))
    refine ⟨true, v, cs, rfl, hc5, .inl rfl, ?_, ?_⟩
    · rw [hkid]
      exact hk5
    · rw [hkid]
      exact ⟨rfl, rfl⟩
  | some c =>
    have HC2 : Calls Tryd.prog 16 #[.pointer (some ⟨x.b, x.o, none⟩)] W2 fun e w3 => ∃ t, e = .returned (.tuple #[(C.mk c.key c.kind c.name t).agg, .bool true]) ∧ NewOf W2 c.val t w3 := HC.mono fun e w3 hq => hq.2.2 c hkid
    clear HC
    simp only [C.agg, C.cells, V.cells] at HC2
    have hkey : c.key = ⟨#[]⟩ := by
      cases hv : x.v with
      | leaf => rw [hv] at hkid; cases hkid
      | mk k n s la ll lc L fa fl fc fn F e key hk =>
        rw [hv] at hkid
        simp only [V.kid, textC] at hkid
        split at hkid
        · cases hkid; rfl
        · split at hkid
          · cases hkid; rfl
          · split at hkid
            · cases hkid; rfl
            · cases hkid
    rw [hkey] at HC2
    have hbig : W.heap.size ≤ W2.heap.size := HCH.out.size
    obtain ⟨ck, hck⟩ : ∃ k, k = c.kind := ⟨_, rfl⟩
    obtain ⟨cn, hcn⟩ : ∃ k, k = c.name := ⟨_, rfl⟩
    rw [← hck, ← hcn] at HC2
    have HKN := Lib.hid (And.intro hck hcn)
    clear hck hcn hkey
    obtain ⟨rk, hrk⟩ : ∃ r, r = keyM seen x.v p := ⟨_, rfl⟩
    have HRK := Lib.hid hrk
    clear hrk
    obtain ⟨i0, hi, hz0, hz1, hz2⟩ := info_parts info_child
    obtain ⟨q, hq⟩ : ∃ q, ((cs.length : Int) + 1 == 4096) = q := ⟨_, rfl⟩
    have HQ : Hid (q = decide (cs.length + 1 = 4096)) := by
      show q = _
      rw [← hq]
      by_cases h9 : cs.length + 1 = 4096
      · rw [decide_eq_true h9]; simp; omega
      · rw [decide_eq_false h9, beq_eq_false_iff_ne]; omega
    gi_wp2_with (first
      | (gi_at_call 16; refine (CallsIn.inRound _ (callsIn_wide.2 HC2)).mono ?_; rintro e w3 ⟨t, rfl, hn3⟩; (have HN3 := Lib.hid hn3); (have ht8 := hn3.inn); clear hn3; rcases t with _ | ⟨k4, n4, s4, la4, ll4, lc4, L4, fa4, fl4, fc4, fn4, F4, e4', key4, hk4⟩; (exact ht8.elim); clear ht8
         have H4 := Lib.hid (fun O => (HK2.out.below HN3.out.low).below (below_alloc w3 O))
         have hsb : ∀ O, (w3.alloc O).cell? ⟨w0.heap.size + 2, 0, none⟩ = some (.map (some (w0.heap.size + 1))) := fun O => by rw [Lib.cell_of_heap (H4.out O).sbox]; rfl
         have HTK : Hid (∀ O, Calls Tryd.prog 17 #[.map (some (w0.heap.size + 1)), .pointer (some ⟨x.b, x.o, none⟩), .int .i64 p] (w3.alloc O) (TakePost (w3.alloc O) (w0.heap.size + 1) n rk)) := fun O => HRK.out ▸ take_any x.b x.o x.v p (w0.heap.size + 1) n seen (w3.alloc O) (HX.out.inn.below (H4.out O).low) (HX.out.at'.below (H4.out O).low) HX.out.key hp (HT.out.below (H4.out O).low) (H4.out O).map hn)
      | (rw [Oper.semAt_eq _ _ _ (fun c h => by cases h)]; go_simp; try go_bits))
    refine (CallsIn.inRound _ (callsIn_wide.2 (HTK.out _))).mono ?_
    rintro e w5 ⟨rfl, hm5, hg5⟩
    have H5 := Lib.hid ((H4.out _).took hg5 hm5)
    have hbx : w5.heap[w3.heap.size]? = some (.cells #[.string ⟨#[]⟩, .int .u8 ck, .string cn, .int .u8 k4, .int .i64 n4, .string s4, .slice la4 ll4 lc4, .slice fa4 fl4 fc4, .int .u8 e4', .string key4, .bool hk4] 35 (0, 0)) := (hg5.block _ (by simp) (fun e => by have := Option.some.inj e; have := (HK2.out.below HN3.out.low).big; omega)).trans (Go.Deep.blk_alloc_new w3 _)
    have HG5 := Lib.hid hg5
    have HBX := Lib.hid hbx
    clear hg5 hm5
    obtain ⟨z0, z1, z2, z3, z4, z5, z6, z7, z8, z9, z10, zf⟩ := box11 hbx
    clear hbx
    have hvb : ∀ u, (w5.setCell ⟨w3.heap.size, 0, none⟩ u).cell? ⟨w0.heap.size, 0, none⟩ = some v := fun u => by rw [Lib.cell_of_heap (kid_kept H5.out (HK2.out.below HN3.out.low).big HN3.out rfl u (fun g e => ((HK2.out.below HN3.out.low).row.lt g e).2) (fun d hd g hg => ((HK2.out.below HN3.out.low).vals d hd |>.2 g hg).2.2)).box]; rfl
    gi_wp2_with (first
      | (gi_at_builtin; (have H6 := Lib.hid ((kid_kept H5.out (HK2.out.below HN3.out.low).big HN3.out rfl (.string rk.1) (fun g e => ((HK2.out.below HN3.out.low).row.lt g e).2) (fun d hd g hg => ((HK2.out.below HN3.out.low).vals d hd |>.2 g hg).2.2)).below (below_alloc _ (.cells #[.string rk.1, .int .u8 ck, .string cn, .int .u8 k4, .int .i64 n4, .string s4, .slice la4 ll4 lc4, .slice fa4 fl4 fc4, .int .u8 e4', .string key4, .bool hk4] 35)))); refine wpListIn_append_own_at _ rfl _ _ 31 rfl (w0.heap.size + 8) 35 i0 nc.agg 11 152 Tryd.underlying31 hi hz0 hz1 hz2 rfl (by decide) _ _ _ rfl H6.out.row ⟨w5.heap.size, 0, none⟩ 1 1 [.string rk.1, .int .u8 ck, .string cn, .int .u8 k4, .int .i64 n4, .string s4, .slice la4 ll4 lc4, .slice fa4 fl4 fc4, .int .u8 e4', .string key4, .bool hk4] rfl rfl (cell_one_set _ _ _ _ _) (c_one ⟨rk.1, ck, cn, .mk k4 n4 s4 la4 ll4 lc4 L4 fa4 fl4 fc4 fn4 F4 e4' key4 hk4⟩) (show cs.length + 1 ≤ 9223372036854775807 by omega) (show (cs.length + 1) * 152 ≤ 140737488355328 by omega) H6.out.big ?_; intro v' w8 hown8 hg8 hnil8 hat8
         obtain ⟨g', cap', cur', rfl, hgb, hgx, hgc⟩ : ∃ g' cap' cur', v' = .slice (some ⟨g', 0, none⟩) (cs.length + 1) cap' ∧ w0.heap.size + 8 ≤ g' ∧ w8.heap[g']? = some (.cells cur' 35 (0, 0)) ∧ cap' ≤ maxLen := by
           rcases hown8.2 with ⟨_, h0⟩ | ⟨g', cap', cur', e, h1, h2, h3, h4, h5⟩
           · exact absurd h0 (by omega)
           · exact ⟨g', cap', cur', e, h1, h2, h4⟩
         have hvb8 : w8.cell? ⟨w0.heap.size, 0, none⟩ = some v := by
           rw [World.cell?_of_block (a := ⟨w0.heap.size, 0, none⟩) (hg8.block w0.heap.size (Array.getElem?_eq_some_iff.1 H6.out.box).1 (fun e => by have := (H6.out.row.lt _ e.symm).1; omega)), Lib.cell_of_heap H6.out.box]
           rfl
         have hvf8 : w8.frozen? ⟨w0.heap.size, 0, none⟩ = false := by
           rw [World.frozen?_of_block (a := ⟨w0.heap.size, 0, none⟩) (hg8.block w0.heap.size (Array.getElem?_eq_some_iff.1 H6.out.box).1 (fun e => by have := (H6.out.row.lt _ e.symm).1; omega))]
           exact Lib.frozen_of_heap H6.out.box 0
         have HO8 := Lib.hid (And.intro hown8 (And.intro hg8 hat8))
         clear hown8 hg8 hat8 hnil8 hgx)
      | (rw [Oper.semAt_eq _ _ _ (fun c h => by cases h)]; go_simp; try go_bits))
    · have hw3 := (HK2.out.below HN3.out.low).big
      obtain ⟨hown8, hg8, hat8⟩ := HO8.out
      have hr3 := blocks_range HN3.out.frm HN3.out.own
      have hb2s := HK2.out.big
      have hs5 : w3.heap.size < w5.heap.size := Nat.lt_of_lt_of_le (by simp) HG5.out.size
      have hn7 : ∀ g, g ∈ (V.mk k4 n4 s4 la4 ll4 lc4 L4 fa4 fl4 fc4 fn4 F4 e4' key4 hk4).blocks → ((w5.setCell ⟨w3.heap.size, 0, none⟩ (.string rk.1)).alloc (.cells #[.string rk.1, .int .u8 ck, .string cn, .int .u8 k4, .int .i64 n4, .string s4, .slice la4 ll4 lc4, .slice fa4 fl4 fc4, .int .u8 e4', .string key4, .bool hk4] 35)).heap[g]? = w3.heap[g]? := fun g hg => by
        have hr := hr3 g hg
        rw [Below.heap_alloc _ _ g (by simp; omega), (grown_set0 w5 w3.heap.size 0 (.string rk.1)).block g (by omega) (fun e => by have := Option.some.inj e; omega), HG5.out.block g (by simp; omega) (fun e => by have := Option.some.inj e; omega)]
        exact Below.heap_alloc _ _ g hr.2
      have hk9 := H6.out.push ⟨rk.1, ck, cn, .mk k4 n4 s4 la4 ll4 lc4 L4 fa4 fl4 fc4 fn4 F4 e4' key4 hk4⟩ hg8 hown8 (hat8.imp id (fun e => ⟨_, e, Nat.le_refl _⟩)) (in_blocks HN3.out.inn hn7) (fun g hg => by
        have hr := hr3 g hg
        refine ⟨by omega, fun e => ?_, by simp; omega⟩
        have := (HK2.out.row.lt g e.symm).2
        omega)
      have hc1 : Ch (KO w0 W) W w3 := HCH.out.step (grown_of_below HN3.out.low none) (fun k e => by cases e)
      have hc2 := hc1.step (World.grownBy_alloc w3 (.cells #[.string ⟨#[]⟩, .int .u8 ck, .string cn, .int .u8 k4, .int .i64 n4, .string s4, .slice la4 ll4 lc4, .slice fa4 fl4 fc4, .int .u8 e4', .string key4, .bool hk4] 35) none) (fun k e => by cases e)
      have hc3 := hc2.step HG5.out (fun k e => .inl (HS.out k (.inr (.inl (Option.some.inj e).symm))))
      have hc4 := hc3.step (grown_set0 w5 w3.heap.size 0 (.string rk.1)) (fun k e => .inr (by have := Option.some.inj e; have := hc1.size; omega))
      have hc5 := hc4.step (World.grownBy_alloc _ (.cells #[.string rk.1, .int .u8 ck, .string cn, .int .u8 k4, .int .i64 n4, .string s4, .slice la4 ll4 lc4, .slice fa4 fl4 fc4, .int .u8 e4', .string key4, .bool hk4] 35) none) (fun k e => by cases e)
      have hc6 := hc5.step hg8 (fun k e => .inl (HS.out k (.inr (.inr (.inr e)))))
      have hc7 := hc6.step (grown_set0 w8 w0.heap.size 0 (.slice (some ⟨g', 0, none⟩) (cs.length + 1) cap')) (fun k e => .inl (HS.out k (.inl (Option.some.inj e).symm)))
      refine ⟨_, _, run_endRound (some (Code.exit 0)) hk9.L, ?_⟩
      have hk10 := hk9.putL (Lo' := .loop (kdRec fn la ll lc w0.heap.size .done (some (Code.exit 0))))
      have hc8 := hc7.step (grownBy_putObj' _ (w0.heap.size + 7) (.loop (kdRec fn la ll lc w0.heap.size .done (some (Code.exit 0))))) (fun k e => .inl (HS.out k (.inr (.inr (.inl (Option.some.inj e).symm)))))
      have hqq := HQ.out
      refine ⟨false, .slice (some ⟨g', 0, none⟩) (cs.length + 1) cap', cs ++ [⟨rk.1, ck, cn, .mk k4 n4 s4 la4 ll4 lc4 L4 fa4 fl4 fc4 fn4 F4 e4' key4 hk4⟩], rfl, hc8, ?_, ?_, ?_⟩
      · rcases hat8 with e | e
        · exact .inl e
        · exact .inr ⟨_, e, by have := hc5.size; simpa using this⟩
      · rw [hkid]
        have e1 := HRK.out
        simp only
        rw [← e1]
        exact hk10
      · rw [hkid]
        have e1 := HRK.out
        simp only
        rw [← e1, ← HKN.out.1, ← HKN.out.2]
        exact ⟨by simp_all, _, HN3.out.sm, rfl⟩
    · have hw3 := (HK2.out.below HN3.out.low).big
      obtain ⟨hown8, hg8, hat8⟩ := HO8.out
      have hr3 := blocks_range HN3.out.frm HN3.out.own
      have hb2s := HK2.out.big
      have hs5 : w3.heap.size < w5.heap.size := Nat.lt_of_lt_of_le (by simp) HG5.out.size
      have hn7 : ∀ g, g ∈ (V.mk k4 n4 s4 la4 ll4 lc4 L4 fa4 fl4 fc4 fn4 F4 e4' key4 hk4).blocks → ((w5.setCell ⟨w3.heap.size, 0, none⟩ (.string rk.1)).alloc (.cells #[.string rk.1, .int .u8 ck, .string cn, .int .u8 k4, .int .i64 n4, .string s4, .slice la4 ll4 lc4, .slice fa4 fl4 fc4, .int .u8 e4', .string key4, .bool hk4] 35)).heap[g]? = w3.heap[g]? := fun g hg => by
        have hr := hr3 g hg
        rw [Below.heap_alloc _ _ g (by simp; omega), (grown_set0 w5 w3.heap.size 0 (.string rk.1)).block g (by omega) (fun e => by have := Option.some.inj e; omega), HG5.out.block g (by simp; omega) (fun e => by have := Option.some.inj e; omega)]
        exact Below.heap_alloc _ _ g hr.2
      have hk9 := H6.out.push ⟨rk.1, ck, cn, .mk k4 n4 s4 la4 ll4 lc4 L4 fa4 fl4 fc4 fn4 F4 e4' key4 hk4⟩ hg8 hown8 (hat8.imp id (fun e => ⟨_, e, Nat.le_refl _⟩)) (in_blocks HN3.out.inn hn7) (fun g hg => by
        have hr := hr3 g hg
        refine ⟨by omega, fun e => ?_, by simp; omega⟩
        have := (HK2.out.row.lt g e.symm).2
        omega)
      have hc1 : Ch (KO w0 W) W w3 := HCH.out.step (grown_of_below HN3.out.low none) (fun k e => by cases e)
      have hc2 := hc1.step (World.grownBy_alloc w3 (.cells #[.string ⟨#[]⟩, .int .u8 ck, .string cn, .int .u8 k4, .int .i64 n4, .string s4, .slice la4 ll4 lc4, .slice fa4 fl4 fc4, .int .u8 e4', .string key4, .bool hk4] 35) none) (fun k e => by cases e)
      have hc3 := hc2.step HG5.out (fun k e => .inl (HS.out k (.inr (.inl (Option.some.inj e).symm))))
      have hc4 := hc3.step (grown_set0 w5 w3.heap.size 0 (.string rk.1)) (fun k e => .inr (by have := Option.some.inj e; have := hc1.size; omega))
      have hc5 := hc4.step (World.grownBy_alloc _ (.cells #[.string rk.1, .int .u8 ck, .string cn, .int .u8 k4, .int .i64 n4, .string s4, .slice la4 ll4 lc4, .slice fa4 fl4 fc4, .int .u8 e4', .string key4, .bool hk4] 35) none) (fun k e => by cases e)
      have hc6 := hc5.step hg8 (fun k e => .inl (HS.out k (.inr (.inr (.inr e)))))
      have hc7 := hc6.step (grown_set0 w8 w0.heap.size 0 (.slice (some ⟨g', 0, none⟩) (cs.length + 1) cap')) (fun k e => .inl (HS.out k (.inl (Option.some.inj e).symm)))
      refine ⟨_, _, run_endRound (none) hk9.L, ?_⟩
      have hk10 := hk9.putL (Lo' := .loop (kdRec fn la ll lc w0.heap.size .ready (none)))
      have hc8 := hc7.step (grownBy_putObj' _ (w0.heap.size + 7) (.loop (kdRec fn la ll lc w0.heap.size .ready (none)))) (fun k e => .inl (HS.out k (.inr (.inr (.inl (Option.some.inj e).symm)))))
      have hqq := HQ.out
      refine ⟨true, .slice (some ⟨g', 0, none⟩) (cs.length + 1) cap', cs ++ [⟨rk.1, ck, cn, .mk k4 n4 s4 la4 ll4 lc4 L4 fa4 fl4 fc4 fn4 F4 e4' key4 hk4⟩], rfl, hc8, ?_, ?_, ?_⟩
      · rcases hat8 with e | e
        · exact .inl e
        · exact .inr ⟨_, e, by have := hc5.size; simpa using this⟩
      · rw [hkid]
        have e1 := HRK.out
        simp only
        rw [← e1]
        exact hk10
      · rw [hkid]
        have e1 := HRK.out
        simp only
        rw [← e1, ← HKN.out.1, ← HKN.out.2]
        exact ⟨by simp_all, _, HN3.out.sm, rfl⟩
end Go.Proofs.YtpmkkgndpfbkdaaDoor
