/-
  Plain: the children that values are rendered as, as a function of what is gone through ('kidsM'); what Kids keeps between two yields ('KS', 'KAt').
  Conditions: none.
  Walks: one round of the loop in Kids ('kd_yield'): what it is handed becomes a child, or is none.
  Conditions: the value lies in old memory; what Kids keeps stands ('KS').
  Walks: norm.Kids: the children of any values, each with its key, in a row of their own ('kids_any').
  Conditions: the values lie in memory, each list and each key takes no more than the reach; the three tables hold what the program's text lays in them.
  Kids over any list of values that lies in memory ('kids_any'): what is gone through as a function of the values alone ('listV').
  Conditions: the values lie in memory, each list and each key takes no more than the reach; the three tables hold what the program's text lays in them.
-/
import Derived.Test.YtnmindcofdcncaaGreatDoorNkI
import Derived.Maps.OwnIn
import Derived.RangeFuncCalls
import Derived.Deep.Heap
namespace Go.Proofs.YtnmindcofdcncaaGreatDoor
set_option linter.unusedVariables false
set_option linter.unusedSimpArgs false
open Go.RowKit Go.Deep Go.WideShapes
open Go.Maps hiding size
theorem snocInd {α : Type} {P : List α → Prop} (h0 : P []) (h1 : ∀ l a, P l → P (l ++ [a])) : ∀ l, P l := fun l => by
  have : ∀ m : List α, P m.reverse := by
    intro m
    induction m with
    | nil => exact h0
    | cons a m ih => rw [List.reverse_cons]; exact h1 _ _ ih
  have := this l.reverse
  rwa [List.reverse_reverse] at this
structure St where
  place : Nat
  seen : List (List UInt8)
  out : List C
def stepK (st : St) (v : V) : St :=
  match v.kid with
  | none => ⟨st.place + 1, st.seen, st.out⟩
  | some c => ⟨st.place + 1, (keyM st.seen v (wrap64 st.place)).2, st.out ++ [⟨(keyM st.seen v (wrap64 st.place)).1, c.kind, c.name, c.val⟩]⟩
def stOf (l : List V) : St := l.foldl stepK ⟨0, [], []⟩
theorem stOf_snoc (l : List V) (v : V) : stOf (l ++ [v]) = stepK (stOf l) v := by simp [stOf, List.foldl_append]
theorem place_step (st : St) (v : V) : (stepK st v).place = st.place + 1 := by
  unfold stepK; cases v.kid <;> rfl
theorem stOf_place (l : List V) : (stOf l).place = l.length := by
  induction l using snocInd with
  | h0 => rfl
  | h1 l v ih => rw [stOf_snoc, place_step, ih, List.length_append]; rfl
def runK (st : St) : List V → St
  | [] => st
  | v :: r => if (stepK st v).out.length = 4096 then stepK st v else runK (stepK st v) r
def kidsM (l : List V) : List C := (runK ⟨0, [], []⟩ l).out
theorem runK_pre (st : St) (p r : List V) (h : ∀ q v, q ++ [v] <+: p → (q.foldl stepK st |> fun s => (stepK s v).out.length ≠ 4096)) : runK st (p ++ r) = runK (p.foldl stepK st) r := by
  induction p generalizing st with
  | nil => rfl
  | cons v p ih =>
    have h0 := h [] v ⟨p, rfl⟩
    simp only [List.foldl_nil] at h0
    rw [List.cons_append, runK, if_neg h0, List.foldl_cons]
    exact ih _ fun q u hq => h (v :: q) u (by simpa using hq)
theorem out_step (st : St) (v : V) : (stepK st v).out.length = st.out.length ∨ (stepK st v).out.length = st.out.length + 1 := by
  unfold stepK; cases v.kid <;> simp
theorem out_le (l : List V) (r : List V) : (stOf l).out.length ≤ (stOf (l ++ r)).out.length := by
  induction r using snocInd with
  | h0 => simp
  | h1 r v ih =>
    rw [← List.append_assoc, stOf_snoc]
    rcases out_step (stOf (l ++ r)) v with h | h <;> omega
theorem kids_all {l : List V} (h : (stOf l).out.length < 4096) : kidsM l = (stOf l).out := by
  have := runK_pre ⟨0, [], []⟩ l [] (fun q v hq => by
    obtain ⟨r, rfl⟩ := hq
    have h1 := out_le (q ++ [v]) r
    rw [stOf_snoc] at h1
    show (stepK (stOf q) v).out.length ≠ 4096
    omega)
  rw [List.append_nil] at this
  rw [kidsM, this]
  rfl
theorem kids_full {l q : List V} {v : V} (hq : q ++ [v] <+: l) (h0 : (stOf q).out.length < 4096) (h1 : (stOf (q ++ [v])).out.length = 4096) : kidsM l = (stOf (q ++ [v])).out := by
  obtain ⟨r, rfl⟩ := hq
  rw [List.append_assoc]
  have := runK_pre ⟨0, [], []⟩ q ([v] ++ r) (fun p u hp => by
    obtain ⟨r', rfl⟩ := hp
    have h2 := out_le (p ++ [u]) r'
    rw [stOf_snoc] at h2
    show (stepK (stOf p) u).out.length ≠ 4096
    omega)
  rw [kidsM, this]
  rw [stOf_snoc] at h1 ⊢
  show (runK (stOf q) (v :: r)).out = _
  rw [runK, if_pos h1]
theorem in_blocks {w w' : World} : ∀ {v : V}, v.In w → (∀ g ∈ v.blocks, w'.heap[g]? = w.heap[g]?) → v.In w' := by
  intro v
  induction v with
  | leaf => exact fun h _ => h
  | mk k n s la ll lc L fa fl fc fn F e key hk ihL ihF =>
    rintro ⟨h1, h2, h3, h4, h5, h6, h7, hL, hF⟩ hb
    have atb : ∀ {b o : Nat} {cs : List Value}, w'.heap[b]? = w.heap[b]? → At w b o cs → At w' b o cs := fun he ha j hj => by
      rw [World.cell?_of_block (a := ⟨_, _, none⟩) he]
      exact ha j hj
    refine ⟨h1, h2, h3, h4, h5, h6, h7, fun i hi => ?_, fun i hi => ?_⟩
    · obtain ⟨⟨b, o, rfl, ha⟩, hi'⟩ := hL i hi
      exact ⟨⟨b, o, rfl, atb (hb b (by simp [V.blocks, addrs])) ha⟩, ihL i hi' fun g hg => hb g (by
        rw [V.blocks, List.mem_append, List.mem_append]
        exact .inr (.inl (joinTo_mem.2 ⟨i, hi, hg⟩)))⟩
    · obtain ⟨⟨b, o, rfl, ha⟩, hs, hi'⟩ := hF i hi
      exact ⟨⟨b, o, rfl, atb (hb b (by simp [V.blocks, addrs])) ha⟩, hs, ihF i hi' fun g hg => hb g (by
        rw [V.blocks, List.mem_append, List.mem_append, List.mem_append]
        exact .inr (.inr (.inr (joinTo_mem.2 ⟨i, hi, hg⟩))))⟩
theorem own_blocks {w w' : World} : ∀ {v : V}, v.Own w → (∀ g ∈ v.blocks, w'.heap[g]? = w.heap[g]?) → v.Own w' := by
  have aux : ∀ {T : TypeId} {size : Nat} {a : Option Addr} {n c : Nat}, (∀ g ∈ addrs a, w'.heap[g]? = w.heap[g]?) → OwnRow w T size a n c → OwnRow w' T size a n c := by
    intro T size a n c ha h
    rcases h with h | ⟨g, cur, rfl, h2, h3⟩
    · exact .inl h
    · exact .inr ⟨g, cur, rfl, by rw [ha g (by simp [addrs])]; exact h2, h3⟩
  intro v
  induction v with
  | leaf => exact fun h _ => h
  | mk k n s la ll lc L fa fl fc fn F e key hk ihL ihF =>
    rintro ⟨h1, h2, h3, h4⟩ hb
    simp only [V.blocks, List.mem_append, joinTo_mem] at hb
    exact ⟨aux (fun g hg => hb g (.inl hg)) h1, aux (fun g hg => hb g (.inr (.inr (.inl hg)))) h2, fun i hi => ihL i (h3 i hi) fun g hg => hb g (.inr (.inl ⟨i, hi, hg⟩)), fun i hi => ihF i (h4 i hi) fun g hg => hb g (.inr (.inr (.inr ⟨i, hi, hg⟩)))⟩
structure KS (w0 : World) (Lo : Obj) (v : Value) (cs : List C) (seen : List (List UInt8)) (n : Nat) (W : World) : Prop where
  box : W.heap[w0.heap.size]? = some (.cells #[v] 26 (0, 0))
  map : W.ownsMap Tryz.prog 9 (unitElem (H := Unit)) (w0.heap.size + 1) n (Sm seen)
  sbox : W.heap[w0.heap.size + 2]? = some (.cells #[.map (some (w0.heap.size + 1))] 61 (0, 0))
  K : W.heap[w0.heap.size + 6]? = some (.deferred (some []))
  L : W.heap[w0.heap.size + 7]? = some Lo
  row : W.ownsRow (w0.heap.size + 8) 70 11 v cs.length (cs.flatMap C.cells)
  vals : ∀ c ∈ cs, c.val.In W ∧ ∀ g ∈ c.val.blocks, w0.heap.size + 8 ≤ g ∧ some g ≠ v.ownBlock ∧ g < W.heap.size
  low : Below w0.heap.size w0 W
  big : w0.heap.size + 8 ≤ W.heap.size
  own : ∀ c ∈ cs, c.val.Own W
  nod : (cs.flatMap (fun c => c.val.blocks)).Nodup
def KO (w0 : World) (W : World) (g : Nat) : Prop := g = w0.heap.size ∨ g = w0.heap.size + 1 ∨ g = w0.heap.size + 7 ∨ ∃ v, W.heap[w0.heap.size]? = some (.cells #[v] 26 (0, 0)) ∧ v.ownBlock = some g
theorem KS.grown {w0 : World} {Lo : Obj} {v : Value} {cs : List C} {seen : List (List UInt8)} {n r : Nat} {W W' : World} (h : KS w0 Lo v cs seen n W) (hg : W.grownBy W' (some r)) (h0 : w0.heap.size ≤ r) (h1 : ∀ j, j < 8 → j ≠ 3 → j ≠ 4 → j ≠ 5 → r ≠ w0.heap.size + j) (hv : some r ≠ v.ownBlock) (hb : ∀ c ∈ cs, r ∉ c.val.blocks) : KS w0 Lo v cs seen n W' := by
  have hlt : ∀ {g : Nat} {o : Obj}, W.heap[g]? = some o → g < W.heap.size := fun h => (Array.getElem?_eq_some_iff.1 h).1
  have kp : ∀ {g : Nat} {o : Obj}, W.heap[g]? = some o → g ≠ r → W'.heap[g]? = some o := fun h hn => (hg.block _ (hlt h) (fun e => hn (by cases e; rfl))).trans h
  refine ⟨kp h.box (fun e => h1 0 (by decide) (by decide) (by decide) (by decide) e.symm), h.map.kept hg (fun e => h1 1 (by decide) (by decide) (by decide) (by decide) (by cases e; rfl)), kp h.sbox (fun e => h1 2 (by decide) (by decide) (by decide) (by decide) e.symm), kp h.K (fun e => h1 6 (by decide) (by decide) (by decide) (by decide) e.symm), kp h.L (fun e => h1 7 (by decide) (by decide) (by decide) (by decide) e.symm), h.row.kept hg ?_, fun c hc => ?_, h.low.grown hg h.low.size (fun k e => by cases e; exact h0), Nat.le_trans h.big hg.size, fun c hc => own_blocks (h.own c hc) fun g hgm => hg.block g ((h.vals c hc).2 g hgm).2.2 (fun e => hb c hc (by cases e; exact hgm)), h.nod⟩
  · cases hq : v.ownBlock with
    | none => exact .inl rfl
    | some g => exact .inr (fun e => hv (by rw [hq]; exact e.symm))
  · obtain ⟨q1, q2⟩ := h.vals c hc
    refine ⟨in_blocks q1 fun g hgm => hg.block g (q2 g hgm).2.2 (fun e => hb c hc (by cases e; exact hgm)), fun g hgm => ⟨(q2 g hgm).1, (q2 g hgm).2.1, Nat.lt_of_lt_of_le (q2 g hgm).2.2 hg.size⟩⟩
theorem KS.below {w0 : World} {Lo : Obj} {v : Value} {cs : List C} {seen : List (List UInt8)} {n : Nat} {W W' : World} (h : KS w0 Lo v cs seen n W) (hb : Below W.heap.size W W') : KS w0 Lo v cs seen n W' :=
  h.grown (r := W.heap.size) (grown_of_below hb _) (by have := h.big; omega) (fun j hj _ _ _ e => by have := h.big; omega) (fun e => by have := (h.row.lt _ e.symm).2; omega) (fun c hc hm => by have := ((h.vals c hc).2 _ hm).2.2; omega)
theorem KS.way {w0 : World} {Lo : Obj} {v : Value} {cs : List C} {seen : List (List UInt8)} {n : Nat} {W W' : World} (h : KS w0 Lo v cs seen n W) (hg : W.grownBy W' (some (w0.heap.size + 3))) : KS w0 Lo v cs seen n W' :=
  h.grown hg (by omega) (fun j _ h3 _ _ e => h3 (by omega)) (fun e => by have := (h.row.lt _ e.symm).1; omega) (fun c hc hm => by have := ((h.vals c hc).2 _ hm).1; omega)
theorem KS.lt {w0 : World} {Lo : Obj} {v : Value} {cs : List C} {seen : List (List UInt8)} {n : Nat} {W : World} (h : KS w0 Lo v cs seen n W) {g : Nat} (hg : KO w0 W g) : g < W.heap.size ∧ w0.heap.size ≤ g := by
  have := h.big
  rcases hg with rfl | rfl | rfl | ⟨v', hb, hv⟩
  · omega
  · omega
  · omega
  · rw [h.box] at hb
    cases hb
    have := h.row.lt _ hv
    omega
theorem KO.way {w0 : World} {Lo : Obj} {v : Value} {cs : List C} {seen : List (List UInt8)} {n : Nat} {W W' : World} (h : KS w0 Lo v cs seen n W) (hg : W.grownBy W' (some (w0.heap.size + 3))) {g : Nat} (hk : KO w0 W' g) : KO w0 W g := by
  rcases hk with h' | h' | h' | ⟨v', hb, hv⟩
  · exact .inl h'
  · exact .inr (.inl h')
  · exact .inr (.inr (.inl h'))
  · rw [hg.block _ (Array.getElem?_eq_some_iff.1 h.box).1 (fun e => by have := Option.some.inj e; omega)] at hb
    exact .inr (.inr (.inr ⟨v', hb, hv⟩))
end Go.Proofs.YtnmindcofdcncaaGreatDoor
namespace Go.Proofs.YtnmindcofdcncaaGreatDoor
set_option linter.unusedVariables false
set_option linter.unusedSimpArgs false
open Go.RowKit Go.Deep Go.WideShapes
open Go.Maps hiding size
def kdAssign : Code := ((Code.region 4 #[{ dst := some 5, op := Op.assign (Operand.tmp 13), type := 3, pos := "norm.go:10", after := #[], guard := none }] false).seq (Code.region 5 #[{ dst := some 6, op := Op.assign (Operand.tmp 14), type := 68, pos := "norm.go:10", after := #[], guard := none }] false))
def kdBody : Code := (Code.block 1 ((Code.region 6 #[{ dst := some 16, op := Op.move (Operand.tmp 6), type := 68, pos := "norm.go:11", after := #[], guard := none }, { dst := some 17, op := Op.call { callee := Callee.value (Operand.func 17), args := #[Operand.tmp 16], argTypes := #[68] }, type := 71, pos := "norm.go:11", after := #[{ on := 0, ground := Ground.data }], guard := none }, { dst := some 15, op := Op.move (Operand.tmp 17), type := 71, pos := "norm.go:11", after := #[{ on := 1, ground := Ground.data }], guard := none }, { dst := some 18, op := Op.extract (Operand.tmp 15) 0, type := 70, pos := "norm.go:11", after := #[{ on := 2, ground := Ground.data }], guard := none }, { dst := some 19, op := Op.extract (Operand.tmp 15) 1, type := 4, pos := "norm.go:11", after := #[{ on := 2, ground := Ground.data }, { on := 6, ground := Ground.gcOnly Departure.lateStores }], guard := none }, { dst := some 7, op := Op.alloc 70, type := 0, pos := "norm.go:11", after := #[], guard := none }, { dst := none, op := Op.store 70 (Operand.tmp 7) (Operand.tmp 18), type := 0, pos := "norm.go:11", after := #[{ on := 5, ground := Ground.data }, { on := 3, ground := Ground.data }, { on := 1, ground := Ground.chain }, { on := 0, ground := Ground.phase }, { on := 1, ground := Ground.phase }, { on := 2, ground := Ground.phase }, { on := 3, ground := Ground.phase }, { on := 4, ground := Ground.textOnly Departure.lateStores }, { on := 5, ground := Ground.phase }], guard := none }, { dst := some 8, op := Op.assign (Operand.tmp 19), type := 4, pos := "norm.go:11", after := #[{ on := 4, ground := Ground.data }, { on := 6, ground := Ground.chain }, { on := 0, ground := Ground.phase }, { on := 1, ground := Ground.phase }, { on := 2, ground := Ground.phase }, { on := 3, ground := Ground.phase }, { on := 4, ground := Ground.phase }, { on := 5, ground := Ground.phase }, { on := 6, ground := Ground.phase }], guard := none }] false).seq (((Code.region 7 #[{ dst := some 20, op := Op.move (Operand.tmp 8), type := 4, pos := "norm.go:12", after := #[], guard := none }, { dst := some 21, op := Op.unOp UnOp.not 4 (Operand.tmp 20), type := 4, pos := "norm.go:12", after := #[{ on := 0, ground := Ground.data }], guard := none }] false).seq (Code.cond (Operand.tmp 21) (Code.exit 1) Code.skip)).seq ((Code.region 8 #[{ dst := some 22, op := Op.load 61 (Operand.tmp 4), type := 61, pos := "norm.go:15", after := #[], guard := none }, { dst := some 23, op := Op.move (Operand.tmp 6), type := 68, pos := "norm.go:15", after := #[], guard := none }, { dst := some 24, op := Op.move (Operand.tmp 5), type := 3, pos := "norm.go:15", after := #[], guard := none }, { dst := some 25, op := Op.call { callee := Callee.value (Operand.func 18), args := #[Operand.tmp 22, Operand.tmp 23, Operand.tmp 24], argTypes := #[61, 68, 3] }, type := 9, pos := "norm.go:15", after := #[{ on := 0, ground := Ground.data }, { on := 1, ground := Ground.data }, { on := 2, ground := Ground.data }], guard := none }, { dst := some 26, op := Op.fieldAddr 70 (Operand.tmp 7) 0, type := 0, pos := "norm.go:15", after := #[{ on := 0, ground := Ground.phase }, { on := 1, ground := Ground.phase }, { on := 2, ground := Ground.phase }, { on := 3, ground := Ground.phase }], guard := none }, { dst := none, op := Op.store 9 (Operand.tmp 26) (Operand.tmp 25), type := 0, pos := "norm.go:15", after := #[{ on := 4, ground := Ground.data }, { on := 3, ground := Ground.data }, { on := 3, ground := Ground.chain }, { on := 0, ground := Ground.phase }, { on := 1, ground := Ground.phase }, { on := 2, ground := Ground.phase }, { on := 3, ground := Ground.phase }], guard := none }] false).seq ((Code.region 9 #[{ dst := some 27, op := Op.load 26 (Operand.tmp 3), type := 26, pos := "norm.go:16", after := #[], guard := none }, { dst := some 28, op := Op.load 70 (Operand.tmp 7), type := 70, pos := "norm.go:16", after := #[], guard := none }, { dst := some 29, op := Op.buildSlice 26 1 #[(0, Operand.tmp 28)], type := 26, pos := "norm.go:16", after := #[{ on := 1, ground := Ground.data }], guard := none }, { dst := some 30, op := Op.call { callee := Callee.builtin Builtin.append, args := #[Operand.tmp 27, Operand.tmp 29], argTypes := #[26, 26] }, type := 26, pos := "norm.go:16", after := #[{ on := 0, ground := Ground.data }, { on := 2, ground := Ground.data }], guard := none }, { dst := none, op := Op.store 26 (Operand.tmp 3) (Operand.tmp 30), type := 0, pos := "norm.go:16", after := #[{ on := 3, ground := Ground.data }, { on := 3, ground := Ground.chain }, { on := 0, ground := Ground.phase }, { on := 1, ground := Ground.phase }, { on := 2, ground := Ground.phase }, { on := 3, ground := Ground.phase }], guard := none }] false).seq ((Code.region 10 #[{ dst := some 31, op := Op.load 26 (Operand.tmp 3), type := 26, pos := "norm.go:17", after := #[], guard := none }, { dst := some 32, op := Op.call { callee := Callee.builtin Builtin.len, args := #[Operand.tmp 31], argTypes := #[26] }, type := 3, pos := "norm.go:17", after := #[{ on := 0, ground := Ground.data }], guard := none }, { dst := some 33, op := Op.binOp BinOp.eql 3 (Operand.tmp 32) (Operand.const (Value.int IntKind.i64 4096)) 3, type := 4, pos := "norm.go:17", after := #[{ on := 1, ground := Ground.data }], guard := none }] false).seq (Code.cond (Operand.tmp 33) (Code.exit 0) Code.skip)))))))
def kdTm (la : Option Addr) (ll lc B : Nat) (p q : Value) : Array Value :=
  #[.slice la ll lc, undef, .slice none 0 0, .pointer (some ⟨B, 0, none⟩), .pointer (some ⟨B + 2, 0, none⟩), undef, undef, undef, undef, .map (some (B + 1)), .pointer (some ⟨B + 3, 0, none⟩), .slice la ll lc,
    .func (.func 79) #[] #[.pointer (some ⟨B + 5, 0, none⟩), .pointer (some ⟨B + 4, 0, none⟩)], p, q, undef, undef, undef, undef, undef, undef, undef, undef, undef, undef, undef, undef, undef, undef, undef, undef, undef, undef, undef, undef]
def kdRec (fn : FuncId) (la : Option Addr) (ll lc B : Nat) (st : LoopState) (pend : Option Code) : Loop :=
  { state := st, pending := pend, fn, tmps := kdTm la ll lc B undef undef, params := #[13, 14], assign := kdAssign, body := kdBody, defers := B + 6 }
structure El.Ok (w0 : World) (x : El) : Prop where
  inn : x.v.In w0
  fit : x.v.Fit
  at' : At w0 x.b x.o x.v.cells
  key : ∀ k n s la ll lc L fa fl fc fn F e key hk, x.v = .mk k n s la ll lc L fa fl fc fn F e key hk → key.size ≤ 140737488351232
structure Ch (S : Nat → Prop) (W W' : World) : Prop where
  os : W'.os = W.os
  tape : W'.tape = W.tape
  output : W'.output = W.output
  size : W.heap.size ≤ W'.heap.size
  block : ∀ k, k < W.heap.size → ¬ S k → W'.heap[k]? = W.heap[k]?
theorem Ch.refl {S : Nat → Prop} {W : World} : Ch S W W := ⟨rfl, rfl, rfl, Nat.le_refl _, fun _ _ _ => rfl⟩
theorem Ch.step {S : Nat → Prop} {A B D : World} {r : Option Nat} (h : Ch S A B) (g : B.grownBy D r) (hr : ∀ k, r = some k → S k ∨ A.heap.size ≤ k) : Ch S A D :=
  ⟨g.os.trans h.os, g.tape.trans h.tape, g.output.trans h.output, Nat.le_trans h.size g.size, fun k hk hs => (g.block k (Nat.lt_of_lt_of_le hk h.size) (fun e => (hr k e.symm).elim hs (fun q => by omega))).trans (h.block k hk hs)⟩
theorem box_set {W : World} {B : Nat} {v : Value} {t : TypeId} (v' : Value) (h : W.heap[B]? = some (.cells #[v] t (0, 0))) : (W.setCell ⟨B, 0, none⟩ v').heap[B]? = some (.cells #[v'] t (0, 0)) := by
  simp only [World.setCell, Array.getElem?_modify]
  rw [h]; simp
theorem KS.putL {w0 : World} {Lo Lo' : Obj} {v : Value} {cs : List C} {seen : List (List UInt8)} {n : Nat} {W : World} (h : KS w0 Lo v cs seen n W) : KS w0 Lo' v cs seen n (W.putObj (w0.heap.size + 7) Lo') := by
  have hlt := (Array.getElem?_eq_some_iff.1 h.L).1
  have hne : ∀ {g : Nat}, g ≠ w0.heap.size + 7 → (W.putObj (w0.heap.size + 7) Lo').heap[g]? = W.heap[g]? := fun hg => World.putObj_heap_other hg
  have hg : W.grownBy (W.putObj (w0.heap.size + 7) Lo') (some (w0.heap.size + 7)) := grownBy_putObj' _ _ _
  refine ⟨(hne (by omega)).trans h.box, h.map.kept hg (fun e => by have := Option.some.inj e; omega), (hne (by omega)).trans h.sbox, (hne (by omega)).trans h.K, World.putObj_heap_same hlt, h.row.kept hg ?_, fun c hc => ?_, h.low.grown hg h.low.size (fun k e => by have := Option.some.inj e; omega), Nat.le_trans h.big hg.size, fun c hc => own_blocks (h.own c hc) fun g hgm => hne (by have := ((h.vals c hc).2 g hgm).1; omega), h.nod⟩
  · cases hq : v.ownBlock with
    | none => exact .inl rfl
    | some g => exact .inr (fun e => by have := (h.row.lt g hq).1; have := Option.some.inj e; omega)
  · obtain ⟨q1, q2⟩ := h.vals c hc
    exact ⟨in_blocks q1 fun g hgm => hne (by have := (q2 g hgm).1; omega), fun g hgm => ⟨(q2 g hgm).1, (q2 g hgm).2.1, Nat.lt_of_lt_of_le (q2 g hgm).2.2 hg.size⟩⟩
theorem KS.took {w0 : World} {Lo : Obj} {v : Value} {cs : List C} {seen seen' : List (List UInt8)} {n n' : Nat} {W W' : World} (h : KS w0 Lo v cs seen n W) (hg : W.grownBy W' (some (w0.heap.size + 1))) (hm : W'.ownsMap Tryz.prog 9 (unitElem (H := Unit)) (w0.heap.size + 1) n' (Sm seen')) : KS w0 Lo v cs seen' n' W' := by
  have hlt : ∀ {g : Nat} {o : Obj}, W.heap[g]? = some o → g < W.heap.size := fun h => (Array.getElem?_eq_some_iff.1 h).1
  have kp : ∀ {g : Nat} {o : Obj}, W.heap[g]? = some o → g ≠ w0.heap.size + 1 → W'.heap[g]? = some o := fun h hn => (hg.block _ (hlt h) (fun e => hn (Option.some.inj e))).trans h
  refine ⟨kp h.box (by omega), hm, kp h.sbox (by omega), kp h.K (by omega), kp h.L (by omega), h.row.kept hg ?_, fun c hc => ?_, h.low.grown hg h.low.size (fun k e => by have := Option.some.inj e; omega), Nat.le_trans h.big hg.size, fun c hc => own_blocks (h.own c hc) fun g hgm => hg.block g ((h.vals c hc).2 g hgm).2.2 (fun e => by have := ((h.vals c hc).2 g hgm).1; have := Option.some.inj e; omega), h.nod⟩
  · cases hq : v.ownBlock with
    | none => exact .inl rfl
    | some g => exact .inr (fun e => by have := (h.row.lt g hq).1; have := Option.some.inj e; omega)
  · obtain ⟨q1, q2⟩ := h.vals c hc
    exact ⟨in_blocks q1 fun g hgm => hg.block g (q2 g hgm).2.2 (fun e => by have := (q2 g hgm).1; have := Option.some.inj e; omega), fun g hgm => ⟨(q2 g hgm).1, (q2 g hgm).2.1, Nat.lt_of_lt_of_le (q2 g hgm).2.2 hg.size⟩⟩
theorem KS.push {w0 : World} {Lo : Obj} {v v' : Value} {cs : List C} {seen : List (List UInt8)} {n : Nat} {W W8 : World} (h : KS w0 Lo v cs seen n W) (c : C) (hg : W.grownBy W8 v.ownBlock) (hrow : W8.ownsRow (w0.heap.size + 8) 70 11 v' (cs.length + 1) (cs.flatMap C.cells ++ c.cells))
    (hv : v'.ownBlock = v.ownBlock ∨ ∃ q, v'.ownBlock = some q ∧ W.heap.size ≤ q) (hc : c.val.In W) (hb : ∀ g ∈ c.val.blocks, w0.heap.size + 8 ≤ g ∧ some g ≠ v.ownBlock ∧ g < W.heap.size) (hco : c.val.Own W) (hcn : c.val.blocks.Nodup) (hcd : ∀ g ∈ c.val.blocks, ∀ d ∈ cs, g ∉ d.val.blocks) : KS w0 Lo v' (cs ++ [c]) seen n (W8.setCell ⟨w0.heap.size, 0, none⟩ v') := by
  have hlt : ∀ {g : Nat} {o : Obj}, W.heap[g]? = some o → g < W.heap.size := fun h => (Array.getElem?_eq_some_iff.1 h).1
  have hg9 : W8.grownBy (W8.setCell ⟨w0.heap.size, 0, none⟩ v') (some w0.heap.size) := grown_set0 _ _ _ _
  have kp : ∀ {g : Nat} {o : Obj}, W.heap[g]? = some o → g < w0.heap.size + 8 → W8.heap[g]? = some o := fun h' hn => (hg.block _ (hlt h') (fun e => by have := (h.row.lt _ e.symm).1; omega)).trans h'
  have kq : ∀ {g : Nat} {o : Obj}, W.heap[g]? = some o → g < w0.heap.size + 8 → g ≠ w0.heap.size → (W8.setCell ⟨w0.heap.size, 0, none⟩ v').heap[g]? = some o := fun h' hn hne => (hg9.block _ (Nat.lt_of_lt_of_le (hlt h') hg.size) (fun e => hne (Option.some.inj e))).trans (kp h' hn)
  have hr9 : ∀ g, W.heap.size ≤ g ∨ w0.heap.size < g → g < W8.heap.size → (W8.setCell ⟨w0.heap.size, 0, none⟩ v').heap[g]? = W8.heap[g]? := fun g hg' hl => hg9.block _ hl (fun e => by have := Option.some.inj e; have := h.big; omega)
  refine ⟨?_, ?_, kq h.sbox (by omega) (by omega), kq h.K (by omega) (by omega), kq h.L (by omega) (by omega), ?_, fun d hd => ?_, (h.low.grown hg h.low.size (fun k e => by have := (h.row.lt k e).1; omega)).grown hg9 (Nat.le_trans h.low.size hg.size) (fun k e => by have := Option.some.inj e; omega), Nat.le_trans h.big (Nat.le_trans hg.size hg9.size), fun d hd => ?_, ?_⟩
  · exact box_set v' (kp h.box (by omega))
  · exact (h.map.kept hg (fun e => by have := (h.row.lt _ e.symm).1; omega)).kept hg9 (fun e => by have := Option.some.inj e; omega)
  · rw [List.length_append, List.flatMap_append]
    have := hrow.kept hg9 (by
      cases hq : v'.ownBlock with
      | none => exact .inl rfl
      | some g => exact .inr (fun e => by have := (hrow.lt g hq).1; have := Option.some.inj e; omega))
    simpa using this
  · have key : d.val.In W ∧ ∀ g ∈ d.val.blocks, w0.heap.size + 8 ≤ g ∧ some g ≠ v.ownBlock ∧ g < W.heap.size := by
      rcases List.mem_append.1 hd with hd | hd
      · exact h.vals d hd
      · rw [List.mem_singleton] at hd; subst hd; exact ⟨hc, hb⟩
    refine ⟨in_blocks key.1 fun g hgm => ?_, fun g hgm => ⟨(key.2 g hgm).1, ?_, Nat.lt_of_lt_of_le (key.2 g hgm).2.2 (Nat.le_trans hg.size hg9.size)⟩⟩
    · have := key.2 g hgm
      rw [hr9 g (.inr (by omega)) (Nat.lt_of_lt_of_le this.2.2 hg.size)]
      exact hg.block g this.2.2 this.2.1
    · have := key.2 g hgm
      rcases hv with e | ⟨q, e, hq⟩
      · rw [e]; exact this.2.1
      · rw [e]; intro e'; have := Option.some.inj e'; omega
  · have key : d.val.Own W ∧ ∀ g ∈ d.val.blocks, w0.heap.size + 8 ≤ g ∧ some g ≠ v.ownBlock ∧ g < W.heap.size := by
      rcases List.mem_append.1 hd with hd | hd
      · exact ⟨h.own d hd, (h.vals d hd).2⟩
      · rw [List.mem_singleton] at hd; subst hd; exact ⟨hco, hb⟩
    refine own_blocks key.1 fun g hgm => ?_
    have := key.2 g hgm
    rw [hr9 g (.inr (by omega)) (Nat.lt_of_lt_of_le this.2.2 hg.size)]
    exact hg.block g this.2.2 this.2.1
  · rw [List.flatMap_append]
    refine List.nodup_append.2 ⟨h.nod, by simpa using hcn, fun x hx y hy e => ?_⟩
    subst e
    obtain ⟨d, hd, hx⟩ := List.mem_flatMap.1 hx
    exact hcd x (by simpa using hy) d hd hx
theorem info_child : (Tryz.prog.info? 70).map (fun i => (i.zero, i.size, i.bytes)) = some (some nc.agg, 11, 152) := by kernel_rfl
theorem c_one (c : C) : ∀ u ∈ c.cells, u.oneCell' = true := by
  intro u hu
  simp only [C.cells, List.mem_cons] at hu
  rcases hu with rfl | rfl | rfl | hu
  · rfl
  · rfl
  · rfl
  · exact v_one _ u hu
theorem box11 {W : World} {b : Nat} {c0 c1 c2 c3 c4 c5 c6 c7 c8 c9 c10 : Value} {T : TypeId} (h : W.heap[b]? = some (.cells #[c0, c1, c2, c3, c4, c5, c6, c7, c8, c9, c10] T (0, 0))) :
    W.cell? ⟨b, 0, none⟩ = some c0 ∧ W.cell? ⟨b, 1, none⟩ = some c1 ∧ W.cell? ⟨b, 2, none⟩ = some c2 ∧ W.cell? ⟨b, 3, none⟩ = some c3 ∧ W.cell? ⟨b, 4, none⟩ = some c4 ∧ W.cell? ⟨b, 5, none⟩ = some c5 ∧ W.cell? ⟨b, 6, none⟩ = some c6 ∧ W.cell? ⟨b, 7, none⟩ = some c7 ∧ W.cell? ⟨b, 8, none⟩ = some c8 ∧ W.cell? ⟨b, 9, none⟩ = some c9 ∧ W.cell? ⟨b, 10, none⟩ = some c10 ∧ ∀ j, W.frozen? ⟨b, j, none⟩ = false := by
  refine ⟨?_, ?_, ?_, ?_, ?_, ?_, ?_, ?_, ?_, ?_, ?_, fun j => Lib.frozen_of_heap h j⟩ <;> (rw [Lib.cell_of_heap h]; rfl)
theorem cell_one_new' (W : World) (cs : List Value) (T : TypeId) : ∀ j u, cs[j]? = some u → (W.alloc (.cells cs.toArray T)).cell? ((⟨W.heap.size, 0, none⟩ : Addr).add j) = some u := fun j u h => by
  rw [add_plain]
  have := World.cell?_alloc_new (w := W) cs.toArray T (0 + j)
  rw [this]
  simpa using h
theorem cell_one_set (W : World) (a : Addr) (u0 : Value) (cs : List Value) (T : TypeId) : ∀ j u, cs[j]? = some u → ((W.setCell a u0).alloc (.cells cs.toArray T)).cell? ((⟨W.heap.size, 0, none⟩ : Addr).add j) = some u := by
  have e : (W.setCell a u0).heap.size = W.heap.size := by simp
  have := cell_one_new' (W.setCell a u0) cs T
  rwa [e] at this
theorem kid_kept {w0 : World} {Lo : Obj} {v : Value} {cs : List C} {seen : List (List UInt8)} {n : Nat} {w3 W2 W5 : World} {c t : V} (h : KS w0 Lo v cs seen n W5) (hb : w0.heap.size + 8 ≤ w3.heap.size) (hn : NewOf W2 c t w3) {kb : Nat} (hkb : kb = w3.heap.size) (u : Value) (hrow : ∀ g, v.ownBlock = some g → g < w3.heap.size) (hvals : ∀ d ∈ cs, ∀ g ∈ d.val.blocks, g < w3.heap.size) : KS w0 Lo v cs seen n (W5.setCell ⟨kb, 0, none⟩ u) :=
  h.grown (grown_set0 _ _ _ _) (by omega) (fun j hj _ _ _ e => by omega) (fun e => by have := hrow _ e.symm; omega) (fun d hd hm => by have := hvals d hd _ hm; omega)
def RoundPost (w0 : World) (fn : FuncId) (la : Option Addr) (ll lc : Nat) (v : Value) (cs : List C) (seen : List (List UInt8)) (n : Nat) (p : Int) (x : El) (W : World) (e : Ending) (W' : World) : Prop :=
  ∃ r v' cs', e = .returned (.bool r) ∧ Ch (KO w0 W) W W' ∧ (v'.ownBlock = v.ownBlock ∨ ∃ q, v'.ownBlock = some q ∧ W.heap.size ≤ q) ∧
    KS w0 (.loop (kdRec fn la ll lc w0.heap.size (if r then .ready else .done) (if r then none else some (Code.exit 0)))) v' cs' (match x.v.kid with | none => seen | some _ => (keyM seen x.v p).2) (match x.v.kid with | none => n | some _ => n + 1) W' ∧
    (match x.v.kid with | none => r = true ∧ cs' = cs | some c => r = decide (cs.length + 1 ≠ 4096) ∧ ∃ t, c.val.same t = true ∧ cs' = cs ++ [⟨(keyM seen x.v p).1, c.kind, c.name, t⟩])
set_option maxRecDepth 100000 in
set_option maxHeartbeats 4000000 in
theorem kd_yield (m : Nat) (hm : 3 ≤ m) (w0 : World) (fn : FuncId) (hfn : Fence.wide.fn fn) (la : Option Addr) (ll lc : Nat) (v : Value) (cs : List C) (seen : List (List UInt8)) (n : Nat) (p : Int) (hp : -9223372036854775808 ≤ p ∧ p ≤ 9223372036854775807) (x : El) (hx : x.Ok w0) (ht : Tabs w0) (hcs : cs.length < 4096) (hn : n < maxLen)
    (W : World) (h : KS w0 (.loop (kdRec fn la ll lc w0.heap.size .ready none)) v cs seen n W) :
    YieldAt Fence.wide m Tryz.prog (w0.heap.size + 7) #[.int .i64 p, x.ptr] W (RoundPost w0 fn la ll lc v cs seen n p x W) := by
  have hl : w0.heap.size + 7 < W.heap.size := (Array.getElem?_eq_some_iff.1 h.L).1
  refine ⟨fn, kdTm la ll lc w0.heap.size (.int .i64 p) x.ptr, kdAssign, kdBody, by simpa [kdRec, kdTm] using run_yield (P := Tryz.prog) (args := #[.int .i64 p, x.ptr]) h.L rfl, roundIn_of_wpIn hfn ?_⟩
  have hbr := run_beginRound (P := Tryz.prog) h.L rfl
  have hS : ∀ k, k = w0.heap.size ∨ k = w0.heap.size + 1 ∨ k = w0.heap.size + 7 ∨ v.ownBlock = some k → KO w0 W k := fun k hk => by
    rcases hk with q | q | q | q
    · exact .inl q
    · exact .inr (.inl q)
    · exact .inr (.inr (.inl q))
    · exact .inr (.inr (.inr ⟨v, h.box, q⟩))
  have hk2 : KS w0 (.loop { kdRec fn la ll lc w0.heap.size .ready none with state := .busy }) v cs seen n (W.putObj (w0.heap.size + 7) (.loop { kdRec fn la ll lc w0.heap.size .ready none with state := .busy })) := h.putL
  have hch2 : Ch (KO w0 W) W (W.putObj (w0.heap.size + 7) (.loop { kdRec fn la ll lc w0.heap.size .ready none with state := .busy })) := Ch.refl.step (grownBy_putObj' _ _ _) (fun k e => .inl (hS k (.inr (.inr (.inl (Option.some.inj e).symm)))))
  generalize W.putObj (w0.heap.size + 7) (.loop { kdRec fn la ll lc w0.heap.size .ready none with state := .busy }) = W2 at hbr hk2 hch2
  have hb2 : Below w0.heap.size w0 W2 := hk2.low
  have HC := (child_any x.b x.o x.v W2 (hx.inn.below hb2) hx.fit (hx.at'.below hb2) (ht.below hb2))
  have hf17 : Fence.wide.fn 17 := trivial
  have hf18 : Fence.wide.fn 18 := trivial
  have hm1 : 1 ≤ m := by omega
  have HK2 := Lib.hid hk2
  have HH := Lib.hid h
  have HX := Lib.hid hx
  have HT := Lib.hid ht
  have HCH := Lib.hid hch2
  have HS := Lib.hid hS
  clear hk2 h hx ht hch2 hS
  unfold kdAssign kdTm El.ptr
  gi_wp2_with (rw [Oper.semAt_eq _ _ _ (fun c h => by cases h)]; go_simp; try go_bits)
  unfold kdBody
  cases hkid : x.v.kid with
  | none =>
    have HC2 : Calls Tryz.prog 17 #[.pointer (some ⟨x.b, x.o, none⟩)] W2 fun e w3 => e = .returned (.tuple #[nc.agg, .bool false]) ∧ Below W2.heap.size W2 w3 := HC.mono fun e w3 hq => ⟨hq.2.1 hkid, hq.1⟩
    clear HC
    simp only [C.agg, C.cells, nc, nv, vz, V.cells] at HC2
    gi_wp2_with (first
      | (gi_at_call 17; refine (CallsIn.inRound _ (callsIn_wide.2 HC2)).mono ?_; rintro e w3 ⟨rfl, hb3⟩; have HB3 := Lib.hid hb3; clear hb3)
      | (rw [Oper.semAt_eq _ _ _ (fun c h => by cases h)]; go_simp; try go_bits))
    have hk4 := (HK2.out.below HB3.out).below (below_alloc w3 (.cells #[.string ⟨#[]⟩, .int .u8 0, .string ⟨#[]⟩, .int .u8 0, .int .i64 0, .string ⟨#[]⟩, .slice none 0 0, .slice none 0 0, .int .u8 0, .string ⟨#[]⟩, .bool false] 70))
    have hc4 := (HCH.out.step (grown_of_below HB3.out none) (fun k e => by cases e)).step (World.grownBy_alloc w3 (.cells #[.string ⟨#[]⟩, .int .u8 0, .string ⟨#[]⟩, .int .u8 0, .int .i64 0, .string ⟨#[]⟩, .slice none 0 0, .slice none 0 0, .int .u8 0, .string ⟨#[]⟩, .bool false] 70) none) (fun k e => by cases e)
    refine ⟨_, _, run_endRound none hk4.L, ?_⟩
    have hk5 := hk4.putL (Lo' := .loop (kdRec fn la ll lc w0.heap.size .ready none))
    have hc5 := hc4.step (grownBy_putObj' _ (w0.heap.size + 7) (.loop (kdRec fn la ll lc w0.heap.size .ready none))) (fun k e => .inl (HS.out k (.inr (.inr (.inl (Option.some.inj e).symm)))))
    refine ⟨true, v, cs, rfl, hc5, .inl rfl, ?_, ?_⟩
    · rw [hkid]
      exact hk5
    · rw [hkid]
      exact ⟨rfl, rfl⟩
  | some c =>
    have HC2 : Calls Tryz.prog 17 #[.pointer (some ⟨x.b, x.o, none⟩)] W2 fun e w3 => ∃ t, e = .returned (.tuple #[(C.mk c.key c.kind c.name t).agg, .bool true]) ∧ NewOf W2 c.val t w3 := HC.mono fun e w3 hq => hq.2.2 c hkid
    clear HC
    simp only [C.agg, C.cells, V.cells] at HC2
    have hkey : c.key = ⟨#[]⟩ := by
      cases hv : x.v with
      | leaf => rw [hv] at hkid; cases hkid
      | mk k n s la ll lc L fa fl fc fn F e key hk =>
        rw [hv] at hkid
        simp only [V.kid, textC] at hkid
        split at hkid
        · cases hkid; rfl
        · split at hkid
          · cases hkid; rfl
          · split at hkid
            · cases hkid; rfl
            · cases hkid
    rw [hkey] at HC2
    have hbig : W.heap.size ≤ W2.heap.size := HCH.out.size
    obtain ⟨ck, hck⟩ : ∃ k, k = c.kind := ⟨_, rfl⟩
    obtain ⟨cn, hcn⟩ : ∃ k, k = c.name := ⟨_, rfl⟩
    rw [← hck, ← hcn] at HC2
    have HKN := Lib.hid (And.intro hck hcn)
    clear hck hcn hkey
    obtain ⟨rk, hrk⟩ : ∃ r, r = keyM seen x.v p := ⟨_, rfl⟩
    have HRK := Lib.hid hrk
    clear hrk
    obtain ⟨i0, hi, hz0, hz1, hz2⟩ := info_parts info_child
    obtain ⟨q, hq⟩ : ∃ q, ((cs.length : Int) + 1 == 4096) = q := ⟨_, rfl⟩
    have HQ : Hid (q = decide (cs.length + 1 = 4096)) := by
      show q = _
      rw [← hq]
      by_cases h9 : cs.length + 1 = 4096
      · rw [decide_eq_true h9]; simp; omega
      · rw [decide_eq_false h9, beq_eq_false_iff_ne]; omega
    gi_wp2_with (first
      | (gi_at_call 17; refine (CallsIn.inRound _ (callsIn_wide.2 HC2)).mono ?_; rintro e w3 ⟨t, rfl, hn3⟩; (have HN3 := Lib.hid hn3); (have ht8 := hn3.inn); clear hn3; rcases t with _ | ⟨k4, n4, s4, la4, ll4, lc4, L4, fa4, fl4, fc4, fn4, F4, e4', key4, hk4⟩; (exact ht8.elim); clear ht8
         have H4 := Lib.hid (fun O => (HK2.out.below HN3.out.low).below (below_alloc w3 O))
         have hsb : ∀ O, (w3.alloc O).cell? ⟨w0.heap.size + 2, 0, none⟩ = some (.map (some (w0.heap.size + 1))) := fun O => by rw [Lib.cell_of_heap (H4.out O).sbox]; rfl
         have HTK : Hid (∀ O, Calls Tryz.prog 18 #[.map (some (w0.heap.size + 1)), .pointer (some ⟨x.b, x.o, none⟩), .int .i64 p] (w3.alloc O) (TakePost (w3.alloc O) (w0.heap.size + 1) n rk)) := fun O => HRK.out ▸ take_any x.b x.o x.v p (w0.heap.size + 1) n seen (w3.alloc O) (HX.out.inn.below (H4.out O).low) (HX.out.at'.below (H4.out O).low) HX.out.key hp (HT.out.below (H4.out O).low) (H4.out O).map hn)
      | (rw [Oper.semAt_eq _ _ _ (fun c h => by cases h)]; go_simp; try go_bits))
    refine (CallsIn.inRound _ (callsIn_wide.2 (HTK.out _))).mono ?_
    rintro e w5 ⟨rfl, hm5, hg5⟩
    have H5 := Lib.hid ((H4.out _).took hg5 hm5)
    have hbx : w5.heap[w3.heap.size]? = some (.cells #[.string ⟨#[]⟩, .int .u8 ck, .string cn, .int .u8 k4, .int .i64 n4, .string s4, .slice la4 ll4 lc4, .slice fa4 fl4 fc4, .int .u8 e4', .string key4, .bool hk4] 70 (0, 0)) := (hg5.block _ (by simp) (fun e => by have := Option.some.inj e; have := (HK2.out.below HN3.out.low).big; omega)).trans (Go.Deep.blk_alloc_new w3 _)
    have HG5 := Lib.hid hg5
    have HBX := Lib.hid hbx
    clear hg5 hm5
    obtain ⟨z0, z1, z2, z3, z4, z5, z6, z7, z8, z9, z10, zf⟩ := box11 hbx
    clear hbx
    have hvb : ∀ u, (w5.setCell ⟨w3.heap.size, 0, none⟩ u).cell? ⟨w0.heap.size, 0, none⟩ = some v := fun u => by rw [Lib.cell_of_heap (kid_kept H5.out (HK2.out.below HN3.out.low).big HN3.out rfl u (fun g e => ((HK2.out.below HN3.out.low).row.lt g e).2) (fun d hd g hg => ((HK2.out.below HN3.out.low).vals d hd |>.2 g hg).2.2)).box]; rfl
    gi_wp2_with (first
      | (gi_at_builtin; (have H6 := Lib.hid ((kid_kept H5.out (HK2.out.below HN3.out.low).big HN3.out rfl (.string rk.1) (fun g e => ((HK2.out.below HN3.out.low).row.lt g e).2) (fun d hd g hg => ((HK2.out.below HN3.out.low).vals d hd |>.2 g hg).2.2)).below (below_alloc _ (.cells #[.string rk.1, .int .u8 ck, .string cn, .int .u8 k4, .int .i64 n4, .string s4, .slice la4 ll4 lc4, .slice fa4 fl4 fc4, .int .u8 e4', .string key4, .bool hk4] 70)))); refine wpListIn_append_own_at _ rfl _ _ 26 rfl (w0.heap.size + 8) 70 i0 nc.agg 11 152 Tryz.underlying26 hi hz0 hz1 hz2 rfl (by decide) _ _ _ rfl H6.out.row ⟨w5.heap.size, 0, none⟩ 1 1 [.string rk.1, .int .u8 ck, .string cn, .int .u8 k4, .int .i64 n4, .string s4, .slice la4 ll4 lc4, .slice fa4 fl4 fc4, .int .u8 e4', .string key4, .bool hk4] rfl rfl (cell_one_set _ _ _ _ _) (c_one ⟨rk.1, ck, cn, .mk k4 n4 s4 la4 ll4 lc4 L4 fa4 fl4 fc4 fn4 F4 e4' key4 hk4⟩) (show cs.length + 1 ≤ 9223372036854775807 by omega) (show (cs.length + 1) * 152 ≤ 140737488355328 by omega) H6.out.big ?_; intro v' w8 hown8 hg8 hnil8 hat8
         obtain ⟨g', cap', cur', rfl, hgb, hgx, hgc⟩ : ∃ g' cap' cur', v' = .slice (some ⟨g', 0, none⟩) (cs.length + 1) cap' ∧ w0.heap.size + 8 ≤ g' ∧ w8.heap[g']? = some (.cells cur' 70 (0, 0)) ∧ cap' ≤ maxLen := by
           rcases hown8.2 with ⟨_, h0⟩ | ⟨g', cap', cur', e, h1, h2, h3, h4, h5⟩
           · exact absurd h0 (by omega)
           · exact ⟨g', cap', cur', e, h1, h2, h4⟩
         have hvb8 : w8.cell? ⟨w0.heap.size, 0, none⟩ = some v := by
           rw [World.cell?_of_block (a := ⟨w0.heap.size, 0, none⟩) (hg8.block w0.heap.size (Array.getElem?_eq_some_iff.1 H6.out.box).1 (fun e => by have := (H6.out.row.lt _ e.symm).1; omega)), Lib.cell_of_heap H6.out.box]
           rfl
         have hvf8 : w8.frozen? ⟨w0.heap.size, 0, none⟩ = false := by
           rw [World.frozen?_of_block (a := ⟨w0.heap.size, 0, none⟩) (hg8.block w0.heap.size (Array.getElem?_eq_some_iff.1 H6.out.box).1 (fun e => by have := (H6.out.row.lt _ e.symm).1; omega))]
           exact Lib.frozen_of_heap H6.out.box 0
         have HO8 := Lib.hid (And.intro hown8 (And.intro hg8 hat8))
         clear hown8 hg8 hat8 hnil8 hgx)
      | (rw [Oper.semAt_eq _ _ _ (fun c h => by cases h)]; go_simp; try go_bits))
    · have hw3 := (HK2.out.below HN3.out.low).big
      obtain ⟨hown8, hg8, hat8⟩ := HO8.out
      have hr3 := blocks_range HN3.out.frm HN3.out.own
      have hb2s := HK2.out.big
      have hs5 : w3.heap.size < w5.heap.size := Nat.lt_of_lt_of_le (by simp) HG5.out.size
      have hn7 : ∀ g, g ∈ (V.mk k4 n4 s4 la4 ll4 lc4 L4 fa4 fl4 fc4 fn4 F4 e4' key4 hk4).blocks → ((w5.setCell ⟨w3.heap.size, 0, none⟩ (.string rk.1)).alloc (.cells #[.string rk.1, .int .u8 ck, .string cn, .int .u8 k4, .int .i64 n4, .string s4, .slice la4 ll4 lc4, .slice fa4 fl4 fc4, .int .u8 e4', .string key4, .bool hk4] 70)).heap[g]? = w3.heap[g]? := fun g hg => by
        have hr := hr3 g hg
        rw [Below.heap_alloc _ _ g (by simp; omega), (grown_set0 w5 w3.heap.size 0 (.string rk.1)).block g (by omega) (fun e => by have := Option.some.inj e; omega), HG5.out.block g (by simp; omega) (fun e => by have := Option.some.inj e; omega)]
        exact Below.heap_alloc _ _ g hr.2
      have hk9 := H6.out.push ⟨rk.1, ck, cn, .mk k4 n4 s4 la4 ll4 lc4 L4 fa4 fl4 fc4 fn4 F4 e4' key4 hk4⟩ hg8 hown8 (hat8.imp id (fun e => ⟨_, e, Nat.le_refl _⟩)) (in_blocks HN3.out.inn hn7) (fun g hg => by
        have hr := hr3 g hg
        refine ⟨by omega, fun e => ?_, by simp; omega⟩
        have := (HK2.out.row.lt g e.symm).2
        omega) (own_blocks HN3.out.own hn7) HN3.out.nod (fun g hg d hd hm => by
        have hr := hr3 g hg
        have := ((HK2.out.vals d hd).2 g hm).2.2
        omega)
      have hc1 : Ch (KO w0 W) W w3 := HCH.out.step (grown_of_below HN3.out.low none) (fun k e => by cases e)
      have hc2 := hc1.step (World.grownBy_alloc w3 (.cells #[.string ⟨#[]⟩, .int .u8 ck, .string cn, .int .u8 k4, .int .i64 n4, .string s4, .slice la4 ll4 lc4, .slice fa4 fl4 fc4, .int .u8 e4', .string key4, .bool hk4] 70) none) (fun k e => by cases e)
      have hc3 := hc2.step HG5.out (fun k e => .inl (HS.out k (.inr (.inl (Option.some.inj e).symm))))
      have hc4 := hc3.step (grown_set0 w5 w3.heap.size 0 (.string rk.1)) (fun k e => .inr (by have := Option.some.inj e; have := hc1.size; omega))
      have hc5 := hc4.step (World.grownBy_alloc _ (.cells #[.string rk.1, .int .u8 ck, .string cn, .int .u8 k4, .int .i64 n4, .string s4, .slice la4 ll4 lc4, .slice fa4 fl4 fc4, .int .u8 e4', .string key4, .bool hk4] 70) none) (fun k e => by cases e)
      have hc6 := hc5.step hg8 (fun k e => .inl (HS.out k (.inr (.inr (.inr e)))))
      have hc7 := hc6.step (grown_set0 w8 w0.heap.size 0 (.slice (some ⟨g', 0, none⟩) (cs.length + 1) cap')) (fun k e => .inl (HS.out k (.inl (Option.some.inj e).symm)))
      refine ⟨_, _, run_endRound (some (Code.exit 0)) hk9.L, ?_⟩
      have hk10 := hk9.putL (Lo' := .loop (kdRec fn la ll lc w0.heap.size .done (some (Code.exit 0))))
      have hc8 := hc7.step (grownBy_putObj' _ (w0.heap.size + 7) (.loop (kdRec fn la ll lc w0.heap.size .done (some (Code.exit 0))))) (fun k e => .inl (HS.out k (.inr (.inr (.inl (Option.some.inj e).symm)))))
      have hqq := HQ.out
      refine ⟨false, .slice (some ⟨g', 0, none⟩) (cs.length + 1) cap', cs ++ [⟨rk.1, ck, cn, .mk k4 n4 s4 la4 ll4 lc4 L4 fa4 fl4 fc4 fn4 F4 e4' key4 hk4⟩], rfl, hc8, ?_, ?_, ?_⟩
      · rcases hat8 with e | e
        · exact .inl e
        · exact .inr ⟨_, e, by have := hc5.size; simpa using this⟩
      · rw [hkid]
        have e1 := HRK.out
        simp only
        rw [← e1]
        exact hk10
      · rw [hkid]
        have e1 := HRK.out
        simp only
        rw [← e1, ← HKN.out.1, ← HKN.out.2]
        exact ⟨by simp_all, _, HN3.out.sm, rfl⟩
    · have hw3 := (HK2.out.below HN3.out.low).big
      obtain ⟨hown8, hg8, hat8⟩ := HO8.out
      have hr3 := blocks_range HN3.out.frm HN3.out.own
      have hb2s := HK2.out.big
      have hs5 : w3.heap.size < w5.heap.size := Nat.lt_of_lt_of_le (by simp) HG5.out.size
      have hn7 : ∀ g, g ∈ (V.mk k4 n4 s4 la4 ll4 lc4 L4 fa4 fl4 fc4 fn4 F4 e4' key4 hk4).blocks → ((w5.setCell ⟨w3.heap.size, 0, none⟩ (.string rk.1)).alloc (.cells #[.string rk.1, .int .u8 ck, .string cn, .int .u8 k4, .int .i64 n4, .string s4, .slice la4 ll4 lc4, .slice fa4 fl4 fc4, .int .u8 e4', .string key4, .bool hk4] 70)).heap[g]? = w3.heap[g]? := fun g hg => by
        have hr := hr3 g hg
        rw [Below.heap_alloc _ _ g (by simp; omega), (grown_set0 w5 w3.heap.size 0 (.string rk.1)).block g (by omega) (fun e => by have := Option.some.inj e; omega), HG5.out.block g (by simp; omega) (fun e => by have := Option.some.inj e; omega)]
        exact Below.heap_alloc _ _ g hr.2
      have hk9 := H6.out.push ⟨rk.1, ck, cn, .mk k4 n4 s4 la4 ll4 lc4 L4 fa4 fl4 fc4 fn4 F4 e4' key4 hk4⟩ hg8 hown8 (hat8.imp id (fun e => ⟨_, e, Nat.le_refl _⟩)) (in_blocks HN3.out.inn hn7) (fun g hg => by
        have hr := hr3 g hg
        refine ⟨by omega, fun e => ?_, by simp; omega⟩
        have := (HK2.out.row.lt g e.symm).2
        omega) (own_blocks HN3.out.own hn7) HN3.out.nod (fun g hg d hd hm => by
        have hr := hr3 g hg
        have := ((HK2.out.vals d hd).2 g hm).2.2
        omega)
      have hc1 : Ch (KO w0 W) W w3 := HCH.out.step (grown_of_below HN3.out.low none) (fun k e => by cases e)
      have hc2 := hc1.step (World.grownBy_alloc w3 (.cells #[.string ⟨#[]⟩, .int .u8 ck, .string cn, .int .u8 k4, .int .i64 n4, .string s4, .slice la4 ll4 lc4, .slice fa4 fl4 fc4, .int .u8 e4', .string key4, .bool hk4] 70) none) (fun k e => by cases e)
      have hc3 := hc2.step HG5.out (fun k e => .inl (HS.out k (.inr (.inl (Option.some.inj e).symm))))
      have hc4 := hc3.step (grown_set0 w5 w3.heap.size 0 (.string rk.1)) (fun k e => .inr (by have := Option.some.inj e; have := hc1.size; omega))
      have hc5 := hc4.step (World.grownBy_alloc _ (.cells #[.string rk.1, .int .u8 ck, .string cn, .int .u8 k4, .int .i64 n4, .string s4, .slice la4 ll4 lc4, .slice fa4 fl4 fc4, .int .u8 e4', .string key4, .bool hk4] 70) none) (fun k e => by cases e)
      have hc6 := hc5.step hg8 (fun k e => .inl (HS.out k (.inr (.inr (.inr e)))))
      have hc7 := hc6.step (grown_set0 w8 w0.heap.size 0 (.slice (some ⟨g', 0, none⟩) (cs.length + 1) cap')) (fun k e => .inl (HS.out k (.inl (Option.some.inj e).symm)))
      refine ⟨_, _, run_endRound (none) hk9.L, ?_⟩
      have hk10 := hk9.putL (Lo' := .loop (kdRec fn la ll lc w0.heap.size .ready (none)))
      have hc8 := hc7.step (grownBy_putObj' _ (w0.heap.size + 7) (.loop (kdRec fn la ll lc w0.heap.size .ready (none)))) (fun k e => .inl (HS.out k (.inr (.inr (.inl (Option.some.inj e).symm)))))
      have hqq := HQ.out
      refine ⟨true, .slice (some ⟨g', 0, none⟩) (cs.length + 1) cap', cs ++ [⟨rk.1, ck, cn, .mk k4 n4 s4 la4 ll4 lc4 L4 fa4 fl4 fc4 fn4 F4 e4' key4 hk4⟩], rfl, hc8, ?_, ?_, ?_⟩
      · rcases hat8 with e | e
        · exact .inl e
        · exact .inr ⟨_, e, by have := hc5.size; simpa using this⟩
      · rw [hkid]
        have e1 := HRK.out
        simp only
        rw [← e1]
        exact hk10
      · rw [hkid]
        have e1 := HRK.out
        simp only
        rw [← e1, ← HKN.out.1, ← HKN.out.2]
        exact ⟨by simp_all, _, HN3.out.sm, rfl⟩
end Go.Proofs.YtnmindcofdcncaaGreatDoor
namespace Go.Proofs.YtnmindcofdcncaaGreatDoor
set_option linter.unusedVariables false
set_option linter.unusedSimpArgs false
open Go.RowKit Go.Deep Go.WideShapes
open Go.Maps hiding size
def Sms : List C → List C → Prop
  | [], [] => True
  | a :: r, b :: s => C.sm a b ∧ Sms r s
  | _, _ => False
theorem Sms.length : ∀ {a b : List C}, Sms a b → a.length = b.length
  | [], [], _ => rfl
  | _ :: _, _ :: _, h => by simp [h.2.length]
  | [], _ :: _, h => h.elim
  | _ :: _, [], h => h.elim
theorem Sms.snoc : ∀ {a b : List C} {c d : C}, Sms a b → C.sm c d → Sms (a ++ [c]) (b ++ [d])
  | [], [], _, _, _, h => ⟨h, trivial⟩
  | _ :: _, _ :: _, _, _, h, k => ⟨h.1, h.2.snoc k⟩
  | [], _ :: _, _, _, h, _ => h.elim
  | _ :: _, [], _, _, h, _ => h.elim
def vsOf (l : List El) : List V := l.map El.v
theorem vsOf_snoc (l : List El) (x : El) : vsOf (l ++ [x]) = vsOf l ++ [x.v] := by simp [vsOf]
theorem vsOf_length (l : List El) : (vsOf l).length = l.length := by simp [vsOf]
def KJ (w0 : World) (fn : FuncId) (la : Option Addr) (ll lc : Nat) (pre : List El) (W : World) : Prop :=
  ∃ v cs, KS w0 (.loop (kdRec fn la ll lc w0.heap.size .ready none)) v cs (stOf (vsOf pre)).seen cs.length W ∧ Sms (stOf (vsOf pre)).out cs ∧ cs.length < 4096
def KX (w0 : World) (fn : FuncId) (la : Option Addr) (ll lc : Nat) (pre : List El) (W : World) : Prop :=
  ∃ v cs, KS w0 (.loop (kdRec fn la ll lc w0.heap.size .done (some (Code.exit 0)))) v cs (stOf (vsOf pre)).seen cs.length W ∧ Sms (stOf (vsOf pre)).out cs ∧ cs.length = 4096 ∧ ∃ q x, pre = q ++ [x] ∧ (stOf (vsOf q)).out.length < 4096
theorem kj_way {w0 : World} {fn : FuncId} {la : Option Addr} {ll lc : Nat} {pre : List El} {W W' : World} (h : KJ w0 fn la ll lc pre W) (hg : W.grownBy W' (some (w0.heap.size + 3))) : KJ w0 fn la ll lc pre W' ∧ ∀ g, KO w0 W' g → KO w0 W g := by
  obtain ⟨v, cs, h1, h2⟩ := h
  exact ⟨⟨v, cs, h1.way hg, h2⟩, fun g hk => KO.way h1 hg hk⟩
theorem kx_way {w0 : World} {fn : FuncId} {la : Option Addr} {ll lc : Nat} {pre : List El} {W W' : World} (h : KX w0 fn la ll lc pre W) (hg : W.grownBy W' (some (w0.heap.size + 3))) : KX w0 fn la ll lc pre W' ∧ ∀ g, KO w0 W' g → KO w0 W g := by
  obtain ⟨v, cs, h1, h2⟩ := h
  exact ⟨⟨v, cs, h1.way hg, h2⟩, fun g hk => KO.way h1 hg hk⟩
theorem kd_round {w0 : World} {fn : FuncId} {la : Option Addr} {ll lc : Nat} (hfn : Fence.wide.fn fn) (ht : Tabs w0) (m : Nat) (pre : List El) (x : El) (hx : x.Ok w0) (W : World) (h : KJ w0 fn la ll lc pre W) :
    YieldAt Fence.wide m Tryz.prog (w0.heap.size + 7) #[.int .i64 (wrap64 pre.length), x.ptr] W fun e W' => ∃ r, e = .returned (.bool r) ∧ (r = true → KJ w0 fn la ll lc (pre ++ [x]) W') ∧ (r = false → KX w0 fn la ll lc (pre ++ [x]) W') ∧ Kx (KO w0) w0.heap.size (w0.heap.size + 3) W W' ∧ W'.heap[w0.heap.size + 3]? = W.heap[w0.heap.size + 3]? := by
  obtain ⟨v, cs, h1, h2, h3⟩ := h
  have hy := kd_yield 3 (by omega) w0 fn hfn la ll lc v cs (stOf (vsOf pre)).seen cs.length (wrap64 pre.length) (wrap64_range _) x hx ht h3 (by unfold maxLen; omega) W h1
  refine Go.YieldAt.mono (YieldAt.any m hy) fun e W' hr => ?_
  obtain ⟨r, v', cs', he, hch, hv', hks, hm⟩ := hr
  have hlt : ∀ {g : Nat}, KO w0 W g → g < W.heap.size ∧ w0.heap.size ≤ g := fun hg => h1.lt hg
  have hbw : ¬ KO w0 W (w0.heap.size + 3) := fun q => by
    rcases q with q | q | q | ⟨v2, hb, hv⟩
    · omega
    · omega
    · omega
    · rw [h1.box] at hb
      cases hb
      have := (h1.row.lt _ hv).1
      omega
  have hst : stOf (vsOf (pre ++ [x])) = stepK (stOf (vsOf pre)) x.v := by rw [vsOf_snoc, stOf_snoc]
  have hpl : (stOf (vsOf pre)).place = pre.length := by rw [stOf_place, vsOf_length]
  refine ⟨r, he, fun hr => ?_, fun hr => ?_, ⟨⟨hch.os, hch.tape, hch.output, hch.size, fun i hi => hch.block i (by have := h1.low.size; omega) (fun q => by have := (hlt q).2; omega)⟩, hch.size, fun g hg ho _ => hch.block g hg ho, fun g q => ?_⟩, hch.block _ (by have := h1.big; omega) hbw⟩
  · subst hr
    cases hk : x.v.kid with
    | none =>
      rw [hk] at hks hm
      obtain ⟨-, rfl⟩ := hm
      have : stepK (stOf (vsOf pre)) x.v = ⟨(stOf (vsOf pre)).place + 1, (stOf (vsOf pre)).seen, (stOf (vsOf pre)).out⟩ := by unfold stepK; rw [hk]
      refine ⟨v', cs', ?_, ?_, h3⟩
      · rw [hst, this]; exact hks
      · rw [hst, this]; exact h2
    | some c =>
      rw [hk] at hks hm
      obtain ⟨hd, t, hsm, rfl⟩ := hm
      have : stepK (stOf (vsOf pre)) x.v = ⟨(stOf (vsOf pre)).place + 1, (keyM (stOf (vsOf pre)).seen x.v (wrap64 pre.length)).2, (stOf (vsOf pre)).out ++ [⟨(keyM (stOf (vsOf pre)).seen x.v (wrap64 pre.length)).1, c.kind, c.name, c.val⟩]⟩ := by unfold stepK; rw [hk, hpl]
      have hd' : cs.length + 1 ≠ 4096 := of_decide_eq_true hd.symm
      refine ⟨v', cs ++ [⟨(keyM (stOf (vsOf pre)).seen x.v (wrap64 pre.length)).1, c.kind, c.name, t⟩], ?_, ?_, by rw [List.length_append]; simp only [List.length_singleton]; omega⟩
      · rw [hst, this, List.length_append]; exact hks
      · rw [hst, this]; exact h2.snoc ⟨rfl, rfl, rfl, hsm⟩
  · subst hr
    cases hk : x.v.kid with
    | none =>
      rw [hk] at hm
      exact absurd hm.1 (by simp)
    | some c =>
      rw [hk] at hks hm
      obtain ⟨hd, t, hsm, rfl⟩ := hm
      have : stepK (stOf (vsOf pre)) x.v = ⟨(stOf (vsOf pre)).place + 1, (keyM (stOf (vsOf pre)).seen x.v (wrap64 pre.length)).2, (stOf (vsOf pre)).out ++ [⟨(keyM (stOf (vsOf pre)).seen x.v (wrap64 pre.length)).1, c.kind, c.name, c.val⟩]⟩ := by unfold stepK; rw [hk, hpl]
      have hd' : cs.length + 1 = 4096 := by
        have := of_decide_eq_false hd.symm
        omega
      refine ⟨v', cs ++ [⟨(keyM (stOf (vsOf pre)).seen x.v (wrap64 pre.length)).1, c.kind, c.name, t⟩], ?_, ?_, by rw [List.length_append]; exact hd', pre, x, rfl, by rw [h2.length]; exact h3⟩
      · rw [hst, this, List.length_append]; exact hks
      · rw [hst, this]; exact h2.snoc ⟨rfl, rfl, rfl, hsm⟩
  · rcases q with q | q | q | ⟨v2, hb, hv⟩
    · exact .inl (.inl q)
    · exact .inl (.inr (.inl q))
    · exact .inl (.inr (.inr (.inl q)))
    · rw [hks.box] at hb
      cases hb
      rcases hv' with e | ⟨q, e, hq⟩
      · rw [e] at hv
        exact .inl (.inr (.inr (.inr ⟨v, h1.box, hv⟩)))
      · rw [e] at hv
        cases hv
        exact .inr hq
structure KidsPost (w : World) (vs : List V) (u : Value) (cs : List C) (W : World) : Prop where
  row : W.ownsRow (w.heap.size + 8) 70 11 u cs.length (cs.flatMap C.cells)
  vals : ∀ c ∈ cs, c.val.In W
  sms : Sms (kidsM vs) cs
  low : Below w.heap.size w W
  blk : ∀ c ∈ cs, ∀ g ∈ c.val.blocks, w.heap.size + 8 ≤ g ∧ some g ≠ u.ownBlock ∧ g < W.heap.size
  own : ∀ c ∈ cs, c.val.Own W
  nod : (cs.flatMap (fun c => c.val.blocks)).Nodup
theorem kids_end {w0 : World} {vs : List V} {Lo : Obj} {v : Value} {cs : List C} {seen : List (List UInt8)} {n : Nat} {W W' : World} (h : KS w0 Lo v cs seen n W) (hs : Sms (kidsM vs) cs) (hg : W.grownBy W' (some (w0.heap.size + 6))) : KidsPost w0 vs v cs W' := by
  refine ⟨h.row.kept hg ?_, fun c hc => ?_, hs, h.low.grown hg h.low.size (fun k e => by have := Option.some.inj e; omega), fun c hc g hgm => ?_, fun c hc => ?_, h.nod⟩
  · cases hq : v.ownBlock with
    | none => exact .inl rfl
    | some g => exact .inr (fun e => by have := (h.row.lt g hq).1; have := Option.some.inj e; omega)
  · obtain ⟨q1, q2⟩ := h.vals c hc
    exact in_blocks q1 fun g hgm => hg.block g (q2 g hgm).2.2 (fun e => by have := (q2 g hgm).1; have := Option.some.inj e; omega)
  · obtain ⟨q1, q2, q3⟩ := (h.vals c hc).2 g hgm
    exact ⟨q1, q2, Nat.lt_of_lt_of_le q3 hg.size⟩
  · exact own_blocks (h.own c hc) fun g hgm => hg.block g ((h.vals c hc).2 g hgm).2.2 (fun e => by have := ((h.vals c hc).2 g hgm).1; have := Option.some.inj e; omega)
theorem kj_end {w0 : World} {fn : FuncId} {la : Option Addr} {ll lc : Nat} {all : List El} {W : World} (h : KJ w0 fn la ll lc all W) : ∃ v cs, KS w0 (.loop (kdRec fn la ll lc w0.heap.size .ready none)) v cs (stOf (vsOf all)).seen cs.length W ∧ Sms (kidsM (vsOf all)) cs := by
  obtain ⟨v, cs, h1, h2, h3⟩ := h
  exact ⟨v, cs, h1, by rw [kids_all (by rw [h2.length]; exact h3)]; exact h2⟩
theorem kx_end {w0 : World} {fn : FuncId} {la : Option Addr} {ll lc : Nat} {pre T : List El} {W : World} (h : KX w0 fn la ll lc pre W) (hp : pre <+: T) : ∃ v cs, KS w0 (.loop (kdRec fn la ll lc w0.heap.size .done (some (Code.exit 0)))) v cs (stOf (vsOf pre)).seen cs.length W ∧ Sms (kidsM (vsOf T)) cs := by
  obtain ⟨v, cs, h1, h2, h3, q, x, rfl, hq⟩ := h
  obtain ⟨r, rfl⟩ := hp
  refine ⟨v, cs, h1, ?_⟩
  have e : vsOf (q ++ [x] ++ r) = vsOf q ++ [x.v] ++ vsOf r := by simp [vsOf]
  have e2 : vsOf (q ++ [x]) = vsOf q ++ [x.v] := vsOf_snoc q x
  rw [e, kids_full (q := vsOf q) (v := x.v) ⟨vsOf r, rfl⟩ hq (by rw [← e2, h2.length]; exact h3), ← e2]
  exact h2
theorem al_old {W : World} {k : Nat} {o : Obj} (o' : Obj) (h : W.heap[k]? = some o) : (W.alloc o').heap[k]? = some o := (Below.heap_alloc _ _ _ (Array.getElem?_eq_some_iff.1 h).1).trans h
theorem al_new {W : World} {s : Nat} (o : Obj) (h : W.heap.size = s) : (W.alloc o).heap[s]? = some o := by subst h; exact Go.Deep.blk_alloc_new W o
theorem alloc6 (w : World) (o1 o2 o3 o4 o5 o6 : Obj) (W : World) (hW : (((((w.alloc o1).alloc o2).alloc o3).alloc o4).alloc o5).alloc o6 = W) : W.heap[w.heap.size]? = some o1 ∧ W.heap[w.heap.size + 1]? = some o2 ∧ W.heap[w.heap.size + 2]? = some o3 ∧ W.heap[w.heap.size + 3]? = some o4 ∧ W.heap[w.heap.size + 4]? = some o5 ∧ W.heap[w.heap.size + 5]? = some o6 ∧ W.heap.size = w.heap.size + 6 ∧ Below w.heap.size w W := by
  subst hW
  exact ⟨al_old _ (al_old _ (al_old _ (al_old _ (al_old _ (al_new _ rfl))))), al_old _ (al_old _ (al_old _ (al_old _ (al_new _ (by simp))))), al_old _ (al_old _ (al_old _ (al_new _ (by simp)))), al_old _ (al_old _ (al_new _ (by simp))), al_old _ (al_new _ (by simp)), al_new _ (by simp), by simp,
    (((((below_alloc w o1).alloc (by simp) _).alloc (by simp; omega) _).alloc (by simp; omega) _).alloc (by simp; omega) _).alloc (by simp; omega) _⟩
set_option maxRecDepth 100000 in
set_option maxHeartbeats 4000000 in
theorem kids_in (n : Nat) (hn : 3 ≤ n) (la : Option Addr) (ll lc : Nat) (L : Nat → V) (w : World) (h : (V.mk 4 0 ⟨#[]⟩ la ll lc L none 0 0 (fun _ => ⟨#[]⟩) (fun _ => .leaf) 0 ⟨#[]⟩ false).In w) (hf : (V.mk 4 0 ⟨#[]⟩ la ll lc L none 0 0 (fun _ => ⟨#[]⟩) (fun _ => .leaf) 0 ⟨#[]⟩ false).Fit)
    (hok : ∀ x ∈ listA la L ll, x.Ok w) (ht : Tabs w) :
    CallsIn Fence.wide n Tryz.prog 7 #[.slice la ll lc] w fun e w' => ∃ u cs, e = .returned u ∧ KidsPost w (vsOf (listA la L ll)) u cs w' := by
  have h1 : 1 ≤ n := by omega
  have hmm := @run_makeMap Tryz.prog
  have hf16 : Fence.wide.fn 16 := trivial
  have eg : ∀ args w, (callFunc 79 args).run Tryz.prog w = .ok (.enter 79 args) w := enters_of Tryz.func79 (by kernel_rfl) rfl
  have HT := Lib.hid (fun W => through_any (w.heap.size + 1 + 1 + 1) (.slice la ll lc) W ⟨_, _, _, rfl⟩)
  refine callsIn_of_wp_marks Tryz.func7 rfl trivial ?_ rfl
  simp only [Tryz.ntmps7, List.size_toArray, List.length_cons, List.length_nil, Nat.reduceAdd, Nat.reduceSub, Array.replicate_succ, Array.replicate_zero, List.push_toArray, List.append_toArray, List.nil_append, List.cons_append]
  gi_wp2_with (gi_at_call 16; refine (callsIn_wide.2 (HT.out _)).mono ?_; rintro e w9 ⟨rfl, rfl⟩)
  clear HT hf16 hmm
  refine wpIn_rangeFunc ?_
  intro fn hfn
  obtain ⟨W0, hW0⟩ : ∃ W0, (((((w.alloc (.cells #[.slice none 0 0] 26)).alloc (.map #[] 0)).alloc (.cells #[.map (some (w.heap.size + 1))] 61)).alloc (.cells #[.int .i64 0, .bool false] 66)).alloc (.cells #[.pointer (some ⟨w.heap.size + 1 + 1 + 1, 0, none⟩)] 64)).alloc (.cells #[.slice la ll lc] 22) = W0 := ⟨_, rfl⟩
  obtain ⟨b0, b1, b2, b3, b4, b5, hs0, hlow0⟩ := alloc6 w _ _ _ _ _ _ W0 hW0
  rw [hW0]
  obtain ⟨W1, hW1⟩ : ∃ W1, (W0.alloc (.deferred (some []))).alloc (.loop (kdRec fn la ll lc w.heap.size .ready none)) = W1 := ⟨_, rfl⟩
  have hat : ∀ j, j < W0.heap.size → W1.heap[j]? = W0.heap[j]? := fun j hj => by
    rw [← hW1]; exact (Below.heap_alloc _ _ _ (by simp; omega)).trans (Below.heap_alloc _ _ _ hj)
  have hs1 : W1.heap.size = w.heap.size + 8 := by rw [← hW1]; simp; omega
  have hlow1 : Below w.heap.size w W1 := by rw [← hW1]; exact (hlow0.alloc hlow0.size _).alloc (by have := hlow0.size; simp; omega) _
  have hJ0 : KJ w fn la ll lc [] W1 := by
    refine ⟨.slice none 0 0, [], ⟨(hat _ (by omega)).trans b0, ?_, (hat _ (by omega)).trans b2, ?_, ?_, World.ownsRow_nil _ _ _ _, (fun c hc => by cases hc), hlow1, by omega, (fun c hc => by cases hc), List.nodup_nil⟩, trivial, by simp⟩
    · have hm : W1.heap[w.heap.size + 1]? = some (.map #[] 0) := (hat _ (by omega)).trans b1
      exact ⟨#[], 0, hm, ⟨by simp, MapKept.stamped_empty 0, by simp⟩, Nat.le_refl _, rfl⟩
    · rw [← hW1, ← hs0]; exact (Below.heap_alloc _ _ _ (by simp)).trans (Go.Deep.blk_alloc_new W0 _)
    · have := Go.Deep.blk_alloc_new (W0.alloc (.deferred (some []))) (.loop (kdRec fn la ll lc w.heap.size .ready none))
      rw [World.size_alloc, hs0, hW1] at this
      exact this
  have hway0 : Way (w.heap.size + 3) (wrap64 (([] : List El).length)) false W1 := by
    rw [show wrap64 (([] : List El).length) = 0 by simp [wrap64]]
    exact (hat _ (by omega)).trans b3
  have hcl : W1.cell? ⟨w.heap.size + 5, 0, none⟩ = some (.slice la ll lc) := by rw [Lib.cell_of_heap ((hat _ (by omega)).trans b5)]; rfl
  have hcb : W1.cell? ⟨w.heap.size + 4, 0, none⟩ = some (.pointer (some ⟨w.heap.size + 3, 0, none⟩)) := by rw [Lib.cell_of_heap ((hat _ (by omega)).trans b4)]; rfl
  have hno : ∀ g, w.heap.size + 3 ≤ g → g < w.heap.size + 7 → ¬ KO w W1 g := fun g h3 h7 q => by
    rcases q with q | q | q | ⟨v2, hb, hv⟩
    · omega
    · omega
    · omega
    · rw [hat _ (by omega), b0] at hb
      cases hb
      cases hv
  have hthr := thr_in w (w.heap.size + 7) (w.heap.size + 3) (KO w) (KJ w fn la ll lc) (KX w fn la ll lc) (listA la L ll) (by omega)
    (fun pre W hj => by obtain ⟨v, cs, q, -⟩ := hj; exact ⟨fun g hg => (q.lt hg).1, q.low.size⟩)
    (fun pre W W' hj hg => kj_way hj hg) (fun pre W W' hj hg => kx_way hj hg)
    (fun m pre x W hj hp => kd_round hfn ht m pre x (hok x (hp.subset (by simp))) W hj)
    _ 5 (w.heap.size + 5) (w.heap.size + 4) [] W1 4 0 ⟨#[]⟩ la ll lc L none 0 0 (fun _ => ⟨#[]⟩) (fun _ => .leaf) 0 ⟨#[]⟩ false (by omega) rfl h hlow1 hJ0 hway0 (List.prefix_refl _) hcl hcb (hno _ (by omega) (by omega)) (hno _ (by omega) (by omega)) (by omega) (by omega) hf
  have HTHR := Lib.hid (callsIn_wide.1 hthr)
  clear hthr hno hcb hcl hway0 hJ0 hok ht
  refine ⟨w.heap.size + 7, [{ target := .collected (w.heap.size + 6), args := #[] }], W1, { target := .fn (.func 79) #[.pointer (some ⟨w.heap.size + 5, 0, none⟩), .pointer (some ⟨w.heap.size + 4, 0, none⟩)], args := #[.func (.yield (w.heap.size + 7)) #[] #[]] }, W1, 79,
    #[.func (.yield (w.heap.size + 7)) #[] #[], .pointer (some ⟨w.heap.size + 5, 0, none⟩), .pointer (some ⟨w.heap.size + 4, 0, none⟩)], W1, ?_, ?_, ?_, ?_, fun _ => h1, ?_⟩
  · rw [← hW1]
    have e6 : w.heap.size + 6 = W0.heap.size := hs0.symm
    have e7 : w.heap.size + 7 = W0.heap.size + 1 := by omega
    rw [e6, e7]
    unfold kdRec
    rw [e6]
    exact run_enterLoop_outer _ _ _ _ _
  · simp [resolve, go_sem]
  · intro f' hf'; trivial
  · simp [invoke, go_sem, eg]
  · refine (callsIn_wide.2 HTHR.out).mono ?_
    rintro e W2 ⟨⟨v0, rfl⟩, hkx, hend⟩
    rw [List.nil_append] at hend
    rcases hend with ⟨hj, -⟩ | ⟨q, hq, hx, -⟩
    · obtain ⟨v, cs, hks, hsm⟩ := kj_end hj
      have hel := run_endLoop (P := Tryz.prog) hks.L (by simp [kdRec])
      obtain ⟨W3, hW3⟩ : ∃ W3, W2.putObj (w.heap.size + 7) (.loop { kdRec fn la ll lc w.heap.size .ready none with state := .exhausted }) = W3 := ⟨_, rfl⟩
      rw [hW3] at hel
      have hk3 : KS w (.loop { kdRec fn la ll lc w.heap.size .ready none with state := .exhausted }) v cs _ cs.length W3 := hW3 ▸ hks.putL
      have hc3 : W3.cell? ⟨w.heap.size, 0, none⟩ = some v := by rw [Lib.cell_of_heap hk3.box]; rfl
      have hK3 := hk3.K
      have HK3 := Lib.hid hk3
      have HSM := Lib.hid hsm
      clear hW3 hks hk3 hkx hj hsm HTHR
      refine ⟨none, W3, hel, ?_⟩
      gi_wp2
      refine ⟨by simp, .inl ⟨_, _, rfl, run_takeDeferred hK3, ?_⟩⟩
      exact ⟨_, results_tmp rfl _ _ _, v, cs, rfl, kids_end HK3.out HSM.out (grownBy_putObj' _ _ _)⟩
    · obtain ⟨v, cs, hks, hsm⟩ := kx_end hx hq
      have hel := run_endLoop (P := Tryz.prog) hks.L (by simp [kdRec])
      obtain ⟨W3, hW3⟩ : ∃ W3, W2.putObj (w.heap.size + 7) (.loop { kdRec fn la ll lc w.heap.size .done (some (Code.exit 0)) with state := .exhausted }) = W3 := ⟨_, rfl⟩
      rw [hW3] at hel
      have hk3 : KS w (.loop { kdRec fn la ll lc w.heap.size .done (some (Code.exit 0)) with state := .exhausted }) v cs _ cs.length W3 := hW3 ▸ hks.putL
      have hc3 : W3.cell? ⟨w.heap.size, 0, none⟩ = some v := by rw [Lib.cell_of_heap hk3.box]; rfl
      have hK3 := hk3.K
      have HK3 := Lib.hid hk3
      have HSM := Lib.hid hsm
      clear hW3 hks hk3 hkx hx hq hsm HTHR
      refine ⟨some (Code.exit 0), W3, hel, ?_⟩
      gi_wp2
      refine ⟨by simp, .inl ⟨_, _, rfl, run_takeDeferred hK3, ?_⟩⟩
      exact ⟨_, results_tmp rfl _ _ _, v, cs, rfl, kids_end HK3.out HSM.out (grownBy_putObj' _ _ _)⟩
end Go.Proofs.YtnmindcofdcncaaGreatDoor
namespace Go.Proofs.YtnmindcofdcncaaGreatDoor
set_option linter.unusedVariables false
set_option linter.unusedSimpArgs false
open Go.RowKit Go.Deep Go.WideShapes
open Go.Maps hiding size
def V.flatV : V → List V
  | .leaf => []
  | .mk k n s la ll lc L fa fl fc fn F e key hk => if k = 4 then (List.range ll).flatMap (fun i => (L i).flatV) else [.mk k n s la ll lc L fa fl fc fn F e key hk]
def listV (L : Nat → V) (n : Nat) : List V := (List.range n).flatMap (fun i => (L i).flatV)
theorem flat_vs : ∀ (v : V) (b o : Nat), (v.flatA b o).map El.v = v.flatV := by
  intro v
  induction v with
  | leaf => intro b o; rfl
  | mk k n s la ll lc L fa fl fc fn F e key hk ihL ihF =>
    intro b o
    unfold V.flatA V.flatV
    split
    · rw [List.map_flatMap]
      exact congrArg (fun g => (List.range ll).flatMap g) (funext fun i => ihL i _ _)
    · rfl
theorem list_vs (la : Option Addr) (L : Nat → V) (n : Nat) : vsOf (listA la L n) = listV L n := by
  unfold vsOf listA listV
  rw [List.map_flatMap]
  exact congrArg (fun g => (List.range n).flatMap g) (funext fun i => flat_vs _ _ _)
theorem listV_succ (L : Nat → V) (j : Nat) : listV L (j + 1) = listV L j ++ (L j).flatV := by
  unfold listV
  rw [List.range_succ, List.flatMap_append]
  simp
def V.Keys : V → Prop
  | .leaf => True
  | .mk _ _ _ _ ll _ L _ _ _ _ _ _ key _ => key.size ≤ 140737488351232 ∧ ∀ i, i < ll → (L i).Keys
theorem flat_ok {w : World} : ∀ (v : V) (b o : Nat), v.In w → v.Fit → v.Keys → At w b o v.cells → ∀ x ∈ v.flatA b o, x.Ok w := by
  intro v
  induction v with
  | leaf => intro b o h; exact h.elim
  | mk k n s la ll lc L fa fl fc fn F e key hk ihL ihF =>
    intro b o h hf hk' ha x hx
    unfold V.flatA at hx
    split at hx
    · obtain ⟨i, hi, hx⟩ := List.mem_flatMap.1 hx
      rw [List.mem_range] at hi
      obtain ⟨⟨b', o', rfl, ha'⟩, hin⟩ := h.2.2.2.2.2.2.2.1 i hi
      exact ihL i b' (o' + i * 8) hin (hf.2.2.1 i hi) (hk'.2 i hi) ha' x hx
    · rw [List.mem_singleton] at hx
      subst hx
      exact ⟨h, hf, ha, fun k n s la ll lc L fa fl fc fn F e key hk e => by cases e; exact hk'.1⟩
structure Lst (w : World) (la : Option Addr) (ll lc : Nat) (L : Nat → V) : Prop where
  cap : ll ≤ lc ∧ lc ≤ maxLen
  els : ∀ i, i < ll → (∃ b o, la = some ⟨b, o, none⟩ ∧ At w b (o + i * 8) (L i).cells) ∧ (L i).In w
  fit : ll * 112 ≤ 140737488355328 ∧ ∀ i, i < ll → (L i).Fit
  key : ∀ i, i < ll → (L i).Keys
theorem Lst.below {w w' : World} {la : Option Addr} {ll lc : Nat} {L : Nat → V} (h : Lst w la ll lc L) (hb : Below w.heap.size w w') : Lst w' la ll lc L :=
  ⟨h.cap, fun i hi => let ⟨⟨b, o, e, ha⟩, hi'⟩ := h.els i hi; ⟨⟨b, o, e, ha.below hb⟩, hi'.below hb⟩, h.fit, h.key⟩
theorem Lst.ok {w : World} {la : Option Addr} {ll lc : Nat} {L : Nat → V} (h : Lst w la ll lc L) : ∀ x ∈ listA la L ll, x.Ok w := by
  intro x hx
  obtain ⟨i, hi, hx⟩ := List.mem_flatMap.1 hx
  rw [List.mem_range] at hi
  obtain ⟨⟨b', o', rfl, ha'⟩, hin⟩ := h.els i hi
  exact flat_ok (L i) b' (o' + i * 8) hin (h.fit.2 i hi) (h.key i hi) ha' x hx
theorem kids_any (la : Option Addr) (ll lc : Nat) (L : Nat → V) (w : World) (h : Lst w la ll lc L) (ht : Tabs w) :
    Calls Tryz.prog 7 #[.slice la ll lc] w fun e w' => ∃ u cs, e = .returned u ∧ KidsPost w (listV L ll) u cs w' := by
  have := kids_in 3 (by omega) la ll lc L w
    ⟨by decide, by decide, by decide, by decide, by decide, h.cap, ⟨Nat.le_refl _, by decide⟩, h.els, fun i hi => absurd hi (Nat.not_lt_zero _)⟩
    ⟨h.fit.1, by decide, h.fit.2, fun i hi => absurd hi (Nat.not_lt_zero _)⟩ h.ok ht
  rw [list_vs] at this
  exact callsIn_wide.1 this
end Go.Proofs.YtnmindcofdcncaaGreatDoor
