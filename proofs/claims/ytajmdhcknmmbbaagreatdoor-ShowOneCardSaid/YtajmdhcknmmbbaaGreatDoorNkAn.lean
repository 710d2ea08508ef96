/-
  Values in memory of their own ('V.Own', 'V.blocks', 'putL', 'Kids'); walks: anew.Value: the same value, in memory of its own.
  Conditions: the value lies in memory, each of its lists takes no more than the reach.
-/
import Derived.Test.YtajmdhcknmmbbaaGreatDoorTwinP
import Derived.Test.YtajmdhcknmmbbaaGreatDoorSize
import Derived.Test.YtajmdhcknmmbbaaGreatDoorCheckP
import Derived.Test.YtajmdhcknmmbbaaGreatDoorAliveP
import Derived.Deep.RegionWith
import Derived.Deep.RegionLaw
import Derived.Deep.CondSized
import Derived.Deep.Cut
namespace Go.Proofs.YtajmdhcknmmbbaaGreatDoor
set_option linter.unusedVariables false
set_option linter.unusedSimpArgs false
open Go.RowKit Go.Deep Go.WideShapes

theorem in_cells {w : World} {v : V} (h : v.In w) : v.cells.length = 8 := by
  cases v with
  | leaf => exact h.elim
  | mk => rfl
theorem v_one : ∀ v : V, ∀ u ∈ v.cells, u.oneCell' = true := by
  intro v u hu
  cases v with
  | leaf => simp [V.cells] at hu
  | mk k n s la ll lc L fa fl fc fn F e key hk =>
    simp [V.cells] at hu
    rcases hu with rfl | rfl | rfl | rfl | rfl | rfl | rfl | rfl <;> rfl
theorem info_val : (Tryz.prog.info? 66).map (fun i => (i.zero, i.size, i.bytes)) = some (some (vz 0 0 ⟨#[]⟩).agg, 8, 112) := by kernel_rfl
theorem ownsRow_below {base e size n : Nat} {v : Value} {xs : List Value} {W W1 : World} (h : W.ownsRow base e size v n xs) (hb : Below W.heap.size W W1) : W1.ownsRow base e size v n xs := by
  refine ⟨h.1, ?_⟩
  rcases h.2 with hn | ⟨g, cap, cur, rfl, hbb, hgg, rest⟩
  · exact .inl hn
  · exact .inr ⟨g, cap, cur, rfl, hbb, by rw [hb.block g (Array.getElem?_eq_some_iff.1 hgg).1, hgg], rest⟩
/-- Nothing is appended. -/
theorem wpList_append_nothing {P : Program} {w : World} {ops : Array Oper} {rest : List Oper} {o : Oper} {a : Act} {Q : Exit → Act → World → Prop} (hgd : o.guard = none) (s x : Operand) (t : TypeId)
    (ho : o.op = .call { callee := .builtin .append, args := #[s, x], argTypes := #[t, t] })
    (e : TypeId) (i : TypeInfo) (ht : P.underlying t = some (.slice e)) (hi : P.info? e = some i)
    (sa : Option Addr) (n cap : Nat) (hnc : n ≤ cap) (hs : a.eval s = .slice sa n cap) (la : Option Addr) (lc : Nat) (hx : a.eval x = .slice la 0 lc)
    (h : wpList P ops Q rest (a.put o.dst (.slice sa n cap)) w) : wpList P ops Q (o :: rest) a w := by
  refine wpList_plain hgd fun K hK => ?_
  have hrun : (Builtin.append_ #[t, t] o.type #[.slice sa n cap, .slice la 0 lc]).run P w = .ok (.slice sa n cap) w := by
    cases la <;> cases sa <;> simp [Builtin.append_, run_underlying ht, sizeOf, typeInfo, hi, Builtin.lenOf, Builtin.firstCells, loadCells, loadCellsFrom, hnc, storeCells]
  unfold Oper.wp
  simp [execOp, ho, resolve, invoke, builtin, hs, hx, hrun, Result.andThen]
  exact hK _ _ h
theorem same_mk {k n : Int} {s : ByteArray} {la la' : Option Addr} {ll lc lc' : Nat} {L L' : Nat → V} {fa fa' : Option Addr} {fl fc fc' : Nat} {fn fn' : Nat → ByteArray} {F F' : Nat → V} {e : Int} {key : ByteArray} {hk : Bool}
    (hL : ∀ i, i < ll → (L i).same (L' i) = true) (hF : ∀ i, i < fl → fn i = fn' i ∧ (F i).same (F' i) = true) :
    (V.mk k n s la ll lc L fa fl fc fn F e key hk).same (V.mk k n s la' ll lc' L' fa' fl fc' fn' F' e key hk) = true := by
  simp only [V.same, ownB, decide_true, Bool.true_and, Bool.and_eq_true, allB_iff, decide_eq_true_iff]
  exact ⟨hL, hF⟩
def nv : V := vz 0 0 ⟨#[]⟩
/-- The cells of a new block. -/
theorem at_new {w w' : World} {B : Nat} {cs : List Value} {T : TypeId} (hB : B = w.heap.size) (hb : Below (B + 1) (w.alloc (.cells cs.toArray T)) w') : At w' B 0 cs := by
  subst hB
  intro i hi
  rw [hb.cell (p := ⟨w.heap.size, 0 + i, none⟩) (by simp)]
  simp [hi]
/-- What stands in a cell that is there. -/
def rs (W : World) (b i : Nat) : Value := (W.cell? ⟨b, i, none⟩).getD undef
theorem rs_some {W : World} {b i : Nat} {v : Value} (h : W.cell? ⟨b, i, none⟩ = some v) : W.cell? ⟨b, i, none⟩ = some (rs W b i) := by
  rw [rs, h]; rfl

/-- A list in a block of its own, or none. -/
def OwnRow (w : World) (T : TypeId) (size : Nat) (a : Option Addr) (n c : Nat) : Prop :=
  (a = none ∧ n = 0 ∧ c = 0) ∨ ∃ g cur, a = some ⟨g, 0, none⟩ ∧ w.heap[g]? = some (.cells cur T (0, 0)) ∧ cur.size = c * size

/-- Each list of it is a block's row. -/
def V.Own (w : World) : V → Prop
  | .leaf => False
  | .mk _ _ _ la ll lc L fa fl fc _ F _ _ _ => OwnRow w 66 8 la ll lc ∧ OwnRow w 68 9 fa fl fc ∧ (∀ i, i < ll → (L i).Own w) ∧ (∀ i, i < fl → (F i).Own w)

def addrs : Option Addr → List Nat
  | some a => [a.block]
  | none => []
/-- Lists of numbers, one behind the other. -/
def joinTo : Nat → (Nat → List Nat) → List Nat
  | 0, _ => []
  | n + 1, f => joinTo n f ++ f n
/-- The blocks of its lists. -/
def V.blocks : V → List Nat
  | .leaf => []
  | .mk _ _ _ la ll _ L fa fl _ _ F _ _ _ => addrs la ++ (joinTo ll (fun i => (L i).blocks) ++ (addrs fa ++ joinTo fl (fun i => (F i).blocks)))

theorem joinTo_mem {n : Nat} {f : Nat → List Nat} {x : Nat} : x ∈ joinTo n f ↔ ∃ i, i < n ∧ x ∈ f i := by
  induction n with
  | zero => simp [joinTo]
  | succ n ih =>
    rw [joinTo, List.mem_append, ih]
    constructor
    · rintro (⟨i, hi, h⟩ | h)
      · exact ⟨i, by omega, h⟩
      · exact ⟨n, by omega, h⟩
    · rintro ⟨i, hi, h⟩
      rcases Nat.lt_succ_iff_lt_or_eq.1 hi with h1 | rfl
      · exact .inl ⟨i, h1, h⟩
      · exact .inr h
theorem joinTo_ext {n : Nat} {f g : Nat → List Nat} (h : ∀ i, i < n → f i = g i) : joinTo n f = joinTo n g := by
  induction n with
  | zero => rfl
  | succ n ih => rw [joinTo, joinTo, ih (fun i hi => h i (by omega)), h n (by omega)]

theorem OwnRow.below {w w' : World} {T : TypeId} {size : Nat} {a : Option Addr} {n c : Nat} (h : OwnRow w T size a n c) (hb : Below w.heap.size w w') : OwnRow w' T size a n c := by
  rcases h with h | ⟨g, cur, h1, h2, h3⟩
  · exact .inl h
  · exact .inr ⟨g, cur, h1, by rw [hb.block g (Array.getElem?_eq_some_iff.1 h2).1]; exact h2, h3⟩
theorem V.Own.from {B : Nat} {w w' : World} (hh : ∀ g, B ≤ g → g < w.heap.size → w'.heap[g]? = w.heap[g]?) : ∀ {v : V}, v.From B → v.Own w → v.Own w' := by
  have aux : ∀ {T : TypeId} {size : Nat} {a : Option Addr} {n c : Nat}, (∀ x, a = some x → B ≤ x.block) → OwnRow w T size a n c → OwnRow w' T size a n c := by
    intro T size a n c ha h
    rcases h with h | ⟨g, cur, h1, h2, h3⟩
    · exact .inl h
    · exact .inr ⟨g, cur, h1, by rw [hh g (by have := ha _ h1; exact this) (Array.getElem?_eq_some_iff.1 h2).1]; exact h2, h3⟩
  intro v
  induction v with
  | leaf => exact fun h => h.elim
  | mk k n s la ll lc L fa fl fc fn F e key hk ihL ihF =>
    rintro ⟨f1, f2, f3, f4⟩ ⟨h1, h2, h3, h4⟩
    exact ⟨aux f1 h1, aux f2 h2, fun i hi => ihL i (f3 i hi) (h3 i hi), fun i hi => ihF i (f4 i hi) (h4 i hi)⟩

/-- All blocks of a value from B on lie from B on, and are there. -/
theorem blocks_range {B : Nat} {w : World} : ∀ {v : V}, v.From B → v.Own w → ∀ x ∈ v.blocks, B ≤ x ∧ x < w.heap.size := by
  have aux : ∀ {T : TypeId} {size : Nat} {a : Option Addr} {n c : Nat}, (∀ x, a = some x → B ≤ x.block) → OwnRow w T size a n c → ∀ x ∈ addrs a, B ≤ x ∧ x < w.heap.size := by
    intro T size a n c ha h x hx
    rcases h with ⟨rfl, -⟩ | ⟨g, cur, rfl, h2, -⟩
    · simp [addrs] at hx
    · simp only [addrs, List.mem_singleton] at hx
      subst hx
      exact ⟨ha _ rfl, (Array.getElem?_eq_some_iff.1 h2).1⟩
  intro v
  induction v with
  | leaf => exact fun h => h.elim
  | mk k n s la ll lc L fa fl fc fn F e key hk ihL ihF =>
    rintro ⟨f1, f2, f3, f4⟩ ⟨h1, h2, h3, h4⟩ x hx
    simp only [V.blocks, List.mem_append, joinTo_mem] at hx
    rcases hx with hx | ⟨i, hi, hx⟩ | hx | ⟨i, hi, hx⟩
    · exact aux f1 h1 x hx
    · exact ihL i (f3 i hi) (h3 i hi) x hx
    · exact aux f2 h2 x hx
    · exact ihF i (f4 i hi) (h4 i hi) x hx

/-! ### Cells written one behind the other -/
def putL (W : World) (g : Nat) : Nat → List Value → World
  | _, [] => W
  | o, v :: vs => putL (W.setCell ⟨g, o, none⟩ v) g (o + 1) vs

theorem putL_size (W : World) (g o : Nat) (vs : List Value) : (putL W g o vs).heap.size = W.heap.size := by
  induction vs generalizing W o with
  | nil => rfl
  | cons v vs ih => rw [putL, ih]; simp
theorem putL_block (W : World) (g o : Nat) (vs : List Value) (b : Nat) (h : b ≠ g) : (putL W g o vs).heap[b]? = W.heap[b]? := by
  induction vs generalizing W o with
  | nil => rfl
  | cons v vs ih => rw [putL, ih]; simp [World.setCell, Array.getElem?_modify]; intro e; exact absurd e.symm h
theorem putL_frozen (W : World) (g o : Nat) (vs : List Value) (a : Addr) : (putL W g o vs).frozen? a = W.frozen? a := by
  induction vs generalizing W o with
  | nil => rfl
  | cons v vs ih => rw [putL, ih, World.frozen?_setCell]
theorem putL_low {B : Nat} {w W : World} (h : Below B w W) (g o : Nat) (vs : List Value) (hg : B ≤ g) : Below B w (putL W g o vs) := by
  induction vs generalizing W o with
  | nil => exact h
  | cons v vs ih => rw [putL]; exact ih (h.setCell (p := ⟨g, o, none⟩) hg v) _
theorem putL_other (W : World) (g o : Nat) (vs : List Value) (j : Nat) (h : j < o ∨ o + vs.length ≤ j) : (putL W g o vs).cell? ⟨g, j, none⟩ = W.cell? ⟨g, j, none⟩ := by
  induction vs generalizing W o with
  | nil => rfl
  | cons v vs ih =>
    simp only [List.length_cons] at h
    rw [putL, ih _ _ (by omega), World.cell?_setCell_other _ _ _ _ (fun e => by have := congrArg (fun a : Addr => a.off) e; simp only at this; omega)]
theorem putL_at (W : World) (g o : Nat) (vs : List Value) (h : ∀ i, i < vs.length → ∃ u, W.cell? ⟨g, o + i, none⟩ = some u) : At (putL W g o vs) g o vs := by
  induction vs generalizing W o with
  | nil => intro i hi; exact absurd hi (Nat.not_lt_zero _)
  | cons v vs ih =>
    have h1 := ih (W.setCell ⟨g, o, none⟩ v) (o + 1) (fun i hi => by
      obtain ⟨u, hu⟩ := h (i + 1) (by simpa using hi)
      exact ⟨u, by rw [World.cell?_setCell_other _ _ _ _ (fun e => by have := congrArg (fun a : Addr => a.off) e; simp only at this; omega)]; rw [show o + 1 + i = o + (i + 1) by omega]; exact hu⟩)
    intro i hi
    cases i with
    | zero =>
      obtain ⟨u, hu⟩ := h 0 (by simp)
      rw [Nat.add_zero] at hu ⊢
      rw [putL, putL_other _ _ _ _ _ (.inl (by omega)), World.cell?_setCell_same _ _ _ hu]
      rfl
    | succ i =>
      have h2 := h1 i (by simpa using hi)
      rw [show o + 1 + i = o + (i + 1) by omega] at h2
      rw [putL, h2]
      rfl
theorem putL_obj (W : World) (g o : Nat) (vs : List Value) (cur : Array Value) (T : TypeId) (h : W.heap[g]? = some (.cells cur T (0, 0))) : ∃ cur', (putL W g o vs).heap[g]? = some (.cells cur' T (0, 0)) ∧ cur'.size = cur.size := by
  induction vs generalizing W o cur with
  | nil => exact ⟨cur, h, rfl⟩
  | cons v vs ih =>
    obtain ⟨c1, h1, h2⟩ := ih (W.setCell ⟨g, o, none⟩ v) (o + 1) (cur.set! o v) (by simp [World.setCell, Array.getElem?_modify, h])
    exact ⟨c1, by rw [putL]; exact h1, by simpa using h2⟩

/-- t is v anew, in memory that was not there in w. -/
structure NewOf (w : World) (v t : V) (w' : World) : Prop where
  inn : t.In w'
  sm : v.same t = true
  frm : t.From w.heap.size
  own : t.Own w'
  nod : t.blocks.Nodup
  low : Below w.heap.size w w'

/-- A list of n elements of sz cells (p cells ahead of a value's) in a row of its own, from block lb on; the first m of them are new. -/
structure Kids (lb : Nat) (T : TypeId) (sz p : Nat) (pre : Nat → List Value) (n : Nat) (K : Nat → V) (a : Option Addr) (c : Nat) (P : Nat → V) (m : Nat) (W : World) : Prop where
  row : OwnRow W T sz a n c
  cap : n ≤ c ∧ c ≤ maxLen
  frm : ∀ x, a = some x → lb ≤ x.block
  at' : ∀ i, i < n → ∃ g, a = some ⟨g, 0, none⟩ ∧ At W g (i * sz) (pre i ++ (P i).cells)
  new : ∀ i, i < m → (P i).In W ∧ (K i).same (P i) = true ∧ (∀ x, a = some x → (P i).From (x.block + 1)) ∧ (P i).Own W
  rest : ∀ i, m ≤ i → i < n → P i = K i
  nod : (joinTo m (fun i => (P i).blocks)).Nodup
  le : m ≤ n
  psz : sz = p + 8 ∧ ∀ i, (pre i).length = p
  k8 : ∀ i, i < n → (K i).cells.length = 8

theorem OwnRow.from {lb : Nat} {w w' : World} {T : TypeId} {size : Nat} {a : Option Addr} {n c : Nat} (hh : ∀ g, lb ≤ g → g < w.heap.size → w'.heap[g]? = w.heap[g]?) (hf : ∀ x, a = some x → lb ≤ x.block) (h : OwnRow w T size a n c) : OwnRow w' T size a n c := by
  rcases h with h | ⟨g, cur, h1, h2, h3⟩
  · exact .inl h
  · exact .inr ⟨g, cur, h1, by rw [hh g (hf _ h1) (Array.getElem?_eq_some_iff.1 h2).1]; exact h2, h3⟩

theorem Kids.from {lb : Nat} {T : TypeId} {sz p : Nat} {pre : Nat → List Value} {n : Nat} {K : Nat → V} {a : Option Addr} {c : Nat} {P : Nat → V} {m : Nat} {W W' : World} (hh : ∀ g, lb ≤ g → g < W.heap.size → W'.heap[g]? = W.heap[g]?)
    (h : Kids lb T sz p pre n K a c P m W) : Kids lb T sz p pre n K a c P m W' := by
  have hc : ∀ x : Addr, lb ≤ x.block → x.block < W.heap.size → W'.cell? x = W.cell? x := fun x h1 h2 => World.cell?_of_block (hh _ h1 h2)
  refine ⟨h.row.from hh h.frm, h.cap, h.frm, fun i hi => ?_, fun i hi => ?_, h.rest, h.nod, h.le, h.psz, h.k8⟩
  · obtain ⟨g, e, ha⟩ := h.at' i hi
    exact ⟨g, e, At.from (B := lb) (h.frm _ e) hc ha⟩
  · obtain ⟨h1, h2, h3, h4⟩ := h.new i hi
    obtain ⟨g, e, -⟩ := h.at' i (Nat.lt_of_lt_of_le hi h.le)
    have hf : (P i).From lb := (h3 _ e).mono (by have := h.frm _ e; simp only at this ⊢; omega)
    exact ⟨V.In.from hc hf h1, h2, h3, V.Own.from hh hf h4⟩
theorem Kids.below {lb : Nat} {T : TypeId} {sz p : Nat} {pre : Nat → List Value} {n : Nat} {K : Nat → V} {a : Option Addr} {c : Nat} {P : Nat → V} {m : Nat} {W W' : World} (h : Kids lb T sz p pre n K a c P m W) (hb : Below W.heap.size W W') : Kids lb T sz p pre n K a c P m W' :=
  h.from fun g _ hlt => hb.block g hlt

/-- One element is another one now. -/
def updV (P : Nat → V) (m : Nat) (t : V) : Nat → V := fun i => if i = m then t else P i

theorem in_cells' {w : World} {v : V} (h : v.In w) : v.cells.length = 8 := in_cells h

/-- The m-th element is stored anew. -/
theorem Kids.step {lb : Nat} {T : TypeId} {sz p : Nat} {pre : Nat → List Value} {n : Nat} {K : Nat → V} {c : Nat} {P : Nat → V} {m g : Nat} {W w1 : World} {t : V} (h : Kids lb T sz p pre n K (some ⟨g, 0, none⟩) c P m W) (hm : m < n)
    (hK : (K m).In W) (ht : NewOf W (K m) t w1) : Kids lb T sz p pre n K (some ⟨g, 0, none⟩) c (updV P m t) (m + 1) (putL w1 g (m * sz + p) t.cells) := by
  have hg : g < W.heap.size := by
    rcases h.row with ⟨e, -⟩ | ⟨g', cur, e, h2, -⟩
    · cases e
    · cases e; exact (Array.getElem?_eq_some_iff.1 h2).1
  have h1 := h.below ht.low
  have ht8 := in_cells ht.inn
  have hne : ∀ b, b ≠ g → (putL w1 g (m * sz + p) t.cells).heap[b]? = w1.heap[b]? := fun b hb => putL_block _ _ _ _ _ hb
  have hc : ∀ x : Addr, g + 1 ≤ x.block → x.block < w1.heap.size → (putL w1 g (m * sz + p) t.cells).cell? x = w1.cell? x := fun x hx _ => World.cell?_of_block (hne _ (by omega))
  have hfT : t.From (g + 1) := ht.frm.mono (by omega)
  have hw1 := ht.low.size
  refine ⟨?_, h.cap, h.frm, fun i hi => ?_, fun i hi => ?_, fun i hi hin => ?_, ?_, by omega, h.psz, h.k8⟩
  · rcases h1.row with ⟨e, -⟩ | ⟨g', cur, e, h2, h3⟩
    · cases e
    · cases e
      obtain ⟨cur', h4, h5⟩ := putL_obj w1 g (m * sz + p) t.cells cur T h2
      exact .inr ⟨g, cur', rfl, h4, by rw [h5, h3]⟩
  · obtain ⟨g', e, ha⟩ := h1.at' i hi
    cases e
    refine ⟨g, rfl, ?_⟩
    have hpl := h.psz.2 i
    have hsz := h.psz.1
    by_cases e : i = m
    · subst e
      have hPc : (P i).cells.length = 8 := by rw [h.rest i (Nat.le_refl _) hi]; exact in_cells hK
      have h2 : At (putL w1 g (i * sz + p) t.cells) g (i * sz + p) t.cells := by
        refine putL_at _ _ _ _ fun j hj => ?_
        rw [ht8] at hj
        have := ha (p + j) (by rw [List.length_append, hpl, hPc]; omega)
        rw [← Nat.add_assoc] at this
        exact ⟨_, this.trans (List.getElem?_eq_getElem (by rw [List.length_append, hpl, hPc]; omega))⟩
      intro j hj
      simp only [updV, if_pos, List.length_append, hpl, ht8] at hj ⊢
      by_cases hj' : j < p
      · rw [putL_other _ _ _ _ _ (.inl (by omega)), ha j (by rw [List.length_append, hpl, hPc]; omega), List.getElem?_append_left (by omega), List.getElem?_append_left (by omega)]
      · have h3 := h2 (j - p) (by rw [ht8]; omega)
        rw [show i * sz + p + (j - p) = i * sz + j by omega] at h3
        rw [h3, List.getElem?_append_right (by omega), hpl]
    · intro j hj
      simp only [updV, if_neg e] at hj ⊢
      have hPc : (P i).cells.length = 8 := by
        by_cases him : i < m
        · exact in_cells (h.new i him).1
        · rw [h.rest i (by omega) hi]
          exact h.k8 i hi
      rw [List.length_append, hpl, hPc] at hj
      have hd : i * sz + j < m * sz + p ∨ m * sz + p + t.cells.length ≤ i * sz + j := by
        rw [ht8]
        rcases Nat.lt_or_gt_of_ne e with h' | h'
        · left
          have := Nat.mul_le_mul_right sz (show i + 1 ≤ m by omega)
          rw [Nat.add_mul] at this
          omega
        · right
          have := Nat.mul_le_mul_right sz (show m + 1 ≤ i by omega)
          rw [Nat.add_mul] at this
          omega
      rw [putL_other _ _ _ _ _ hd, ha j (by rw [List.length_append, hpl, hPc]; omega)]
  · by_cases e : i = m
    · subst e
      simp only [updV, if_pos]
      exact ⟨V.In.from hc hfT ht.inn, ht.sm, fun x hx => by cases hx; exact hfT, V.Own.from (fun b hb _ => hne b (by omega)) hfT ht.own⟩
    · simp only [updV, if_neg e]
      obtain ⟨q1, q2, q3, q4⟩ := h1.new i (by omega)
      have hf := q3 _ rfl
      exact ⟨V.In.from hc hf q1, q2, q3, V.Own.from (fun b hb _ => hne b (by simp only at hb; omega)) hf q4⟩
  · simp only [updV, if_neg (show i ≠ m by omega)]
    exact h.rest i (by omega) hin
  · rw [joinTo, joinTo_ext (g := fun i => (P i).blocks) (fun i hi => by simp only [updV, if_neg (show i ≠ m by omega)]), show updV P m t m = t by simp [updV], List.nodup_append]
    refine ⟨h.nod, ht.nod, fun x hx y hy => ?_⟩
    obtain ⟨i, hi, hx⟩ := joinTo_mem.1 hx
    obtain ⟨-, -, q3, q4⟩ := h.new i hi
    have a1 := blocks_range (q3 _ rfl) q4 x hx
    have a2 := blocks_range ht.frm ht.own y hy
    omega

/-- A new row that holds what was appended to nothing. -/
structure NewRow (W W' : World) (T : TypeId) (sz n : Nat) (cs : Nat → List Value) (a : Option Addr) (c : Nat) : Prop where
  row : OwnRow W' T sz a n c
  at' : ∀ i, i < n → ∃ g, a = some ⟨g, 0, none⟩ ∧ At W' g (i * sz) (cs i)
  frm : ∀ x, a = some x → W.heap.size ≤ x.block
  cap : n ≤ c ∧ c ≤ maxLen
  low : Below W.heap.size W W'

theorem NewRow.kids {W W' : World} {T : TypeId} {sz n p : Nat} {pre : Nat → List Value} {K : Nat → V} {a : Option Addr} {c : Nat} (h : NewRow W W' T sz n (fun i => pre i ++ (K i).cells) a c) {lb : Nat} (hlb : lb ≤ W.heap.size) (hp : sz = p + 8 ∧ ∀ i, (pre i).length = p) (h8 : ∀ i, i < n → (K i).cells.length = 8) :
    Kids lb T sz p pre n K a c K 0 W' :=
  ⟨h.row, h.cap, fun x hx => Nat.le_trans hlb (h.frm x hx), h.at', fun i hi => absurd hi (Nat.not_lt_zero _), fun _ _ _ => rfl, by simp [joinTo], Nat.zero_le _, hp, h8⟩

/-- Cells that stand one behind the other, in groups of sz. -/
def flatC (sz : Nat) : Nat → (Nat → List Value) → List Value
  | 0, _ => []
  | k + 1, cs => flatC sz k cs ++ cs k
theorem flatC_length {sz k : Nat} {cs : Nat → List Value} (h : ∀ i, i < k → (cs i).length = sz) : (flatC sz k cs).length = k * sz := by
  induction k with
  | zero => simp [flatC]
  | succ k ih => rw [flatC, List.length_append, ih (fun i hi => h i (by omega)), h k (by omega), Nat.add_mul, Nat.one_mul]
theorem flatC_get {sz k : Nat} {cs : Nat → List Value} (h : ∀ i, i < k → (cs i).length = sz) : ∀ i, i < k → ∀ j, j < sz → (flatC sz k cs)[i * sz + j]? = (cs i)[j]? := by
  induction k with
  | zero => intro i hi; omega
  | succ k ih =>
    intro i hi j hj
    have hl := flatC_length (sz := sz) (k := k) (cs := cs) (fun i hi => h i (by omega))
    rw [flatC]
    rcases Nat.lt_succ_iff_lt_or_eq.1 hi with h1 | rfl
    · have := Nat.mul_le_mul_right sz (show i + 1 ≤ k by omega)
      rw [Nat.add_mul] at this
      rw [List.getElem?_append_left (by omega), ih (fun i hi => h i (by omega)) i h1 j hj]
    · rw [List.getElem?_append_right (by omega), hl, Nat.add_sub_cancel_left]
theorem flatC_one {sz k : Nat} {cs : Nat → List Value} (h : ∀ i, ∀ u ∈ cs i, u.oneCell' = true) : ∀ u ∈ flatC sz k cs, u.oneCell' = true := by
  induction k with
  | zero => intro u hu; simp [flatC] at hu
  | succ k ih =>
    intro u hu
    rw [flatC, List.mem_append] at hu
    exact hu.elim (ih u) (h k u)
theorem flatC_cells {W : World} {b o n sz : Nat} {cs : Nat → List Value} (hs : 0 < sz) (h8 : ∀ i, i < n → (cs i).length = sz) (h : ∀ i, i < n → At W b (o + i * sz) (cs i)) : ∀ j u, (flatC sz n cs)[j]? = some u → W.cell? ((⟨b, o, none⟩ : Addr).add j) = some u := by
  intro j u hu
  have hl := flatC_length h8
  have hj : j < n * sz := by have := (List.getElem?_eq_some_iff.1 hu).1; omega
  have hd : j / sz < n := by rw [Nat.div_lt_iff_lt_mul hs]; exact hj
  have hg := flatC_get h8 (j / sz) hd (j % sz) (Nat.mod_lt _ hs)
  have e : j / sz * sz + j % sz = j := by rw [Nat.mul_comm]; exact Nat.div_add_mod j sz
  rw [e, hu] at hg
  have := h (j / sz) hd (j % sz) (by rw [h8 _ hd]; exact Nat.mod_lt _ hs)
  rw [add_plain]
  rw [show o + j / sz * sz + j % sz = o + j by rw [Nat.add_assoc, e]] at this
  rw [this, ← hg]

/-- append(nil, l...): a row of its own, or nothing. -/
theorem append_new {W : World} {ops : Array Oper} {rest : List Oper} {o : Oper} {a : Act} {Q : Exit → Act → World → Prop} (hgd : o.guard = none) (s x : Operand) (ts T : TypeId)
    (ho : o.op = .call { callee := .builtin .append, args := #[s, x], argTypes := #[ts, ts] }) (hs : a.eval s = .slice none 0 0) (la : Option Addr) (n lc : Nat) (hx : a.eval x = .slice la n lc)
    (z : Value) (sz bytes : Nat) (hts : Tryz.prog.underlying ts = some (.slice T)) (hinfo : (Tryz.prog.info? T).map (fun i => (i.zero, i.size, i.bytes)) = some (some z, sz, bytes)) (hzs : z.cells.size = sz) (hsz : 0 < sz) (hby : n * bytes ≤ 140737488355328) (hn : n ≤ maxLen)
    (cs : Nat → List Value) (h8 : ∀ i, i < n → (cs i).length = sz) (h1 : ∀ i, ∀ u ∈ cs i, u.oneCell' = true) (hat : ∀ i, i < n → ∃ b o', la = some ⟨b, o', none⟩ ∧ At W b (o' + i * sz) (cs i))
    (hr : ∀ a' c' W', NewRow W W' T sz n cs a' c' → wpList Tryz.prog ops Q rest (a.put o.dst (.slice a' n c')) W') : wpList Tryz.prog ops Q (o :: rest) a W := by
  obtain ⟨i0, hi, hz0, hz1, hz2⟩ := info_parts hinfo
  by_cases hz : n = 0
  · subst hz
    refine wpList_append_nothing hgd s x _ ho T i0 hts hi none 0 0 (Nat.le_refl _) hs la lc hx ?_
    exact hr none 0 W ⟨.inl ⟨rfl, rfl, rfl⟩, fun i hi => absurd hi (Nat.not_lt_zero _), (fun x hx => by cases hx), ⟨Nat.le_refl _, by decide⟩, Below.refl _ _⟩
  · obtain ⟨b, o', rfl, -⟩ := hat 0 (by omega)
    have hat' : ∀ i, i < n → At W b (o' + i * sz) (cs i) := fun i hi => by
      obtain ⟨b2, o2, he, ha⟩ := hat i hi
      simp only [Option.some.injEq, Addr.mk.injEq, and_true] at he
      obtain ⟨rfl, rfl⟩ := he
      exact ha
    refine wpList_append_own W hgd s x _ ho W.heap.size T i0 z sz bytes hts hi hz0 hz1 hz2 hzs hsz (.slice none 0 0) 0 [] hs ⟨by simp, .inl ⟨rfl, rfl⟩⟩ ⟨b, o', none⟩ n lc (flatC sz n cs) hx (flatC_length h8) (flatC_cells hsz h8 hat') (flatC_one h1) (by omega) (by rw [Nat.zero_add]; exact hby) (Nat.le_refl _) ?_
    intro v' w' hown hgrow _
    rw [Nat.zero_add, List.nil_append] at hown
    have hlow : Below W.heap.size W w' := (Below.refl _ _).grown hgrow (Nat.le_refl _) (fun k e => by cases e)
    rcases hown.2 with ⟨_, h0⟩ | ⟨g, cap, cur, rfl, hbg, hg, hnc, hcm, hcs, htk⟩
    · exact absurd h0 hz
    · refine hr (some ⟨g, 0, none⟩) cap w' ⟨.inr ⟨g, cur, rfl, hg, hcs⟩, fun i hi => ⟨g, rfl, fun j hj => ?_⟩, (fun x hx => by cases hx; exact hbg), ⟨hnc, hcm⟩, hlow⟩
      rw [h8 i hi] at hj
      have := hown.cells (g := g) rfl (i * sz + j) _ (by rw [flatC_get h8 i hi j hj]; exact List.getElem?_eq_getElem (by rw [h8 i hi]; exact hj))
      rw [add_plain, Nat.zero_add] at this
      rw [this]
      exact (List.getElem?_eq_getElem (by rw [h8 i hi]; exact hj)).symm

/-- A value of two new lists. -/
theorem new_mk {w WR W : World} {k n : Int} {s : ByteArray} {la : Option Addr} {ll lc : Nat} {L : Nat → V} {fa : Option Addr} {fl fc : Nat} {fn : Nat → ByteArray} {F : Nat → V} {e : Int} {key : ByteArray} {hk : Bool} {a1 a2 : Option Addr} {c1 c2 : Nat} {P1 P2 : Nat → V} {T T' : TypeId}
    (hT : T = 66) (hT' : T' = 68) (h : (V.mk k n s la ll lc L fa fl fc fn F e key hk).In w) (low : Below w.heap.size w W) (hk1 : Kids (w.heap.size + 2) T 8 0 (fun _ => []) ll L a1 c1 P1 ll WR) (hbig : w.heap.size + 2 ≤ WR.heap.size)
    (mid : ∀ g, w.heap.size + 2 ≤ g → g < WR.heap.size → W.heap[g]? = WR.heap[g]?) (hk2 : Kids WR.heap.size T' 9 1 (fun i => [.string (fn i)]) fl F a2 c2 P2 fl W) :
    NewOf w (V.mk k n s la ll lc L fa fl fc fn F e key hk) (V.mk k n s a1 ll c1 P1 a2 fl c2 fn P2 e key hk) W := by
  subst hT hT'
  have h1 := hk1.from mid
  have hf1 : ∀ i, i < ll → (P1 i).From (w.heap.size + 2) := fun i hi => by
    obtain ⟨g, e, -⟩ := hk1.at' i hi
    exact ((hk1.new i hi).2.2.1 _ e).mono (by have := hk1.frm _ e; simp only at this ⊢; omega)
  have hf2 : ∀ i, i < fl → (P2 i).From WR.heap.size := fun i hi => by
    obtain ⟨g, e, -⟩ := hk2.at' i hi
    exact ((hk2.new i hi).2.2.1 _ e).mono (by have := hk2.frm _ e; simp only at this ⊢; omega)
  have hr1 : ∀ x ∈ addrs a1, x < WR.heap.size := fun x hx => by
    rcases hk1.row with ⟨rfl, -⟩ | ⟨g, cur, rfl, h2, -⟩
    · simp [addrs] at hx
    · simp only [addrs, List.mem_singleton] at hx
      subst hx
      exact (Array.getElem?_eq_some_iff.1 h2).1
  refine ⟨?_, ?_, ?_, ?_, ?_, low⟩
  · obtain ⟨q1, q2, q3, q4, q5, -, -, -, qF⟩ := h
    refine ⟨q1, q2, q3, q4, q5, hk1.cap, hk2.cap, fun i hi => ?_, fun i hi => ?_⟩
    · obtain ⟨g, e, ha⟩ := h1.at' i hi
      exact ⟨⟨g, 0, e, by rw [Nat.zero_add]; exact ha⟩, (h1.new i hi).1⟩
    · obtain ⟨g, e, ha⟩ := hk2.at' i hi
      exact ⟨⟨g, 0, e, by rw [Nat.zero_add]; exact ha⟩, (qF i hi).2.1, (hk2.new i hi).1⟩
  · exact same_mk (fun i hi => (hk1.new i hi).2.1) (fun i hi => ⟨rfl, (hk2.new i hi).2.1⟩)
  · refine ⟨fun x hx => ?_, fun x hx => ?_, fun i hi => (hf1 i hi).mono (by omega), fun i hi => (hf2 i hi).mono (by omega)⟩
    · have := hk1.frm x hx; omega
    · have := hk2.frm x hx; omega
  · exact ⟨h1.row, hk2.row, fun i hi => (h1.new i hi).2.2.2, fun i hi => (hk2.new i hi).2.2.2⟩
  · have n1 : (addrs a1).Nodup := by cases a1 <;> simp [addrs]
    have n2 : (addrs a2).Nodup := by cases a2 <;> simp [addrs]
    have m1 : ∀ x ∈ joinTo ll (fun i => (P1 i).blocks), x < WR.heap.size ∧ ∀ y ∈ addrs a1, y ≠ x := fun x hx => by
      obtain ⟨i, hi, hx⟩ := joinTo_mem.1 hx
      obtain ⟨-, -, q3, q4⟩ := hk1.new i hi
      refine ⟨(blocks_range (hf1 i hi) q4 x hx).2, fun y hy => ?_⟩
      cases a1 with
      | none => simp [addrs] at hy
      | some a =>
        simp only [addrs, List.mem_singleton] at hy
        have := (blocks_range (q3 _ rfl) q4 x hx).1
        omega
    have m2 : ∀ x ∈ addrs a2, WR.heap.size ≤ x := fun x hx => by
      cases a2 with
      | none => simp [addrs] at hx
      | some a =>
        simp only [addrs, List.mem_singleton] at hx
        have := hk2.frm _ rfl
        omega
    have m3 : ∀ x ∈ joinTo fl (fun i => (P2 i).blocks), WR.heap.size ≤ x ∧ ∀ y ∈ addrs a2, y ≠ x := fun x hx => by
      obtain ⟨i, hi, hx⟩ := joinTo_mem.1 hx
      obtain ⟨-, -, q3, q4⟩ := hk2.new i hi
      refine ⟨(blocks_range (hf2 i hi) q4 x hx).1, fun y hy => ?_⟩
      cases a2 with
      | none => simp [addrs] at hy
      | some a =>
        simp only [addrs, List.mem_singleton] at hy
        have := (blocks_range (q3 _ rfl) q4 x hx).1
        omega
    rw [V.blocks, List.nodup_append, List.nodup_append, List.nodup_append]
    refine ⟨n1, ⟨hk1.nod, ⟨n2, hk2.nod, fun x hx y hy => (m3 y hy).2 x hx⟩, fun x hx y hy => ?_⟩, fun x hx y hy => ?_⟩
    · have a := (m1 x hx).1
      rcases List.mem_append.1 hy with hy | hy
      · have := m2 y hy; omega
      · have := (m3 y hy).1; omega
    · rcases List.mem_append.1 hy with hy | hy
      · exact (m1 y hy).2 x hx
      · have a := hr1 x hx
        rcases List.mem_append.1 hy with hy | hy
        · have := m2 y hy; omega
        · have := (m3 y hy).1; omega

/-- No list is longer than the model can lay. -/
def V.Fit : V → Prop
  | .leaf => True
  | .mk _ _ _ _ ll _ L _ fl _ _ F _ _ _ => ll * 112 ≤ 140737488355328 ∧ fl * 128 ≤ 140737488355328 ∧ (∀ i, i < ll → (L i).Fit) ∧ (∀ i, i < fl → (F i).Fit)
/-- What anew.Value's contract says of one value. -/
def AnewIs (v : V) : Prop := ∀ w : World, v.In w → v.Fit → Calls Tryz.prog 90 #[v.agg] w fun e w' => ∃ t : V, e = .returned t.agg ∧ NewOf w v t w'

theorem info_fld' : (Tryz.prog.info? 68).map (fun i => (i.zero, i.size, i.bytes)) = some (some (.agg (.string ⟨#[]⟩ :: nv.cells).toArray), 9, 128) := by kernel_rfl
theorem f_one' (nm : ByteArray) (v : V) : ∀ u ∈ Value.string nm :: v.cells, u.oneCell' = true := by
  intro u hu
  rcases List.mem_cons.1 hu with rfl | hu
  · rfl
  · exact v_one v u hu

/-- The parameter's box and the result's variable, the first two blocks behind 'w'. -/
structure AB (w : World) (cs : List Value) (W : World) : Prop where
  low : Below w.heap.size w W
  box : At W w.heap.size 0 cs
  bfz : ∀ i, W.frozen? ⟨w.heap.size, i, none⟩ = false
  res : ∀ i, i < 8 → (∃ v, W.cell? ⟨w.heap.size + 1, i, none⟩ = some v) ∧ W.frozen? ⟨w.heap.size + 1, i, none⟩ = false
  big : w.heap.size + 2 ≤ W.heap.size

theorem atZ {w : World} {b : Nat} {k n : Int} {s : ByteArray} {la : Option Addr} {ll lc : Nat} {L : Nat → V} {fa : Option Addr} {fl fc : Nat} {fn : Nat → ByteArray} {F : Nat → V} {e : Int} {key : ByteArray} {hk : Bool}
    (h : At w b 0 (V.mk k n s la ll lc L fa fl fc fn F e key hk).cells) :
    w.cell? ⟨b, 0, none⟩ = some (.int .u8 k) ∧ w.cell? ⟨b, 1, none⟩ = some (.int .i64 n) ∧ w.cell? ⟨b, 2, none⟩ = some (.string s) ∧ w.cell? ⟨b, 3, none⟩ = some (.slice la ll lc) ∧ w.cell? ⟨b, 4, none⟩ = some (.slice fa fl fc) ∧
      w.cell? ⟨b, 5, none⟩ = some (.int .u8 e) ∧ w.cell? ⟨b, 6, none⟩ = some (.string key) ∧ w.cell? ⟨b, 7, none⟩ = some (.bool hk) := by
  simpa using at8 h

theorem AB.keep {w W W' : World} {cs : List Value} (h : AB w cs W) (hs : W.heap.size ≤ W'.heap.size) (hl : Below w.heap.size W W') (h0 : W'.heap[w.heap.size]? = W.heap[w.heap.size]?) (h1 : W'.heap[w.heap.size + 1]? = W.heap[w.heap.size + 1]?) : AB w cs W' := by
  refine ⟨h.low.trans hl, fun i hi => ?_, fun i => ?_, fun i hi => ?_, Nat.le_trans h.big hs⟩
  · rw [World.cell?_of_block h0]; exact h.box i hi
  · rw [World.frozen?_of_block h0]; exact h.bfz i
  · obtain ⟨⟨v, q1⟩, q2⟩ := h.res i hi
    exact ⟨⟨v, by rw [World.cell?_of_block h1]; exact q1⟩, by rw [World.frozen?_of_block h1]; exact q2⟩
theorem AB.below {w W W' : World} {cs : List Value} (h : AB w cs W) (hb : Below W.heap.size W W') : AB w cs W' :=
  h.keep hb.size (hb.mono h.low.size) (hb.block _ (by have := h.big; omega)) (hb.block _ (by have := h.big; omega))
theorem AB.put {w W : World} {cs : List Value} (h : AB w cs W) (g o : Nat) (vs : List Value) (hg : w.heap.size + 2 ≤ g) : AB w cs (putL W g o vs) :=
  h.keep (by rw [putL_size]; exact Nat.le_refl _) (putL_low (Below.refl _ _) g o vs (by omega)) (putL_block _ _ _ _ _ (by omega)) (putL_block _ _ _ _ _ (by omega))

theorem AB.start (w : World) (cs : List Value) (T T' : TypeId) : AB w cs ((w.alloc (.cells cs.toArray T)).alloc (.cells nv.cells.toArray T')) := by
  have hs : (w.alloc (.cells cs.toArray T)).heap.size = w.heap.size + 1 := by simp
  refine ⟨(below_alloc _ _).alloc (by rw [hs]; omega) _, At.below (below_alloc _ _) (at_new rfl (Below.refl _ _)), fun i => by simp, fun i hi => ⟨⟨nv.cells[i]'hi, ?_⟩, by simp⟩, by simp⟩
  have := at_new (w := w.alloc (.cells cs.toArray T)) (cs := nv.cells) (T := T') (B := w.heap.size + 1) hs.symm (Below.refl _ _) i hi
  rw [Nat.zero_add] at this
  rw [this]
  exact List.getElem?_eq_getElem hi

theorem AB.box3 {w W : World} {k n : Int} {s : ByteArray} {la : Option Addr} {ll lc : Nat} {L : Nat → V} {fa : Option Addr} {fl fc : Nat} {fn : Nat → ByteArray} {F : Nat → V} {e : Int} {key : ByteArray} {hk : Bool} (h : AB w (V.mk k n s la ll lc L fa fl fc fn F e key hk).cells W) (a : Option Addr) (c : Nat) (P : Nat → V) :
    AB w (V.mk k n s a ll c P fa fl fc fn F e key hk).cells (W.setCell ⟨w.heap.size, 3, none⟩ (.slice a ll c)) := by
  obtain ⟨c0, c1, c2, c3, c4, c5, c6, c7⟩ := atZ h.box
  have ho : ∀ j, j ≠ 3 → (W.setCell ⟨w.heap.size, 3, none⟩ (.slice a ll c)).cell? ⟨w.heap.size, j, none⟩ = W.cell? ⟨w.heap.size, j, none⟩ := fun j hj => World.cell?_setCell_other _ _ _ _ (fun e => hj (congrArg (fun a : Addr => a.off) e).symm)
  have hb1 : (W.setCell ⟨w.heap.size, 3, none⟩ (.slice a ll c)).heap[w.heap.size + 1]? = W.heap[w.heap.size + 1]? := by simp [World.setCell, Array.getElem?_modify]
  refine ⟨h.low.setCell (p := ⟨w.heap.size, 3, none⟩) (Nat.le_refl _) _, fun i hi => ?_, fun i => by rw [World.frozen?_setCell]; exact h.bfz i, fun i hi => ?_, by simpa using h.big⟩
  · rw [Nat.zero_add]
    match i, hi with
    | 0, _ => rw [ho 0 (by decide)]; exact c0
    | 1, _ => rw [ho 1 (by decide)]; exact c1
    | 2, _ => rw [ho 2 (by decide)]; exact c2
    | 3, _ => exact World.cell?_setCell_same _ _ _ c3
    | 4, _ => rw [ho 4 (by decide)]; exact c4
    | 5, _ => rw [ho 5 (by decide)]; exact c5
    | 6, _ => rw [ho 6 (by decide)]; exact c6
    | 7, _ => rw [ho 7 (by decide)]; exact c7
  · obtain ⟨⟨v, q1⟩, q2⟩ := h.res i hi
    exact ⟨⟨v, by rw [World.cell?_of_block hb1]; exact q1⟩, by rw [World.frozen?_of_block hb1]; exact q2⟩

theorem AB.box4 {w W : World} {k n : Int} {s : ByteArray} {la : Option Addr} {ll lc : Nat} {L : Nat → V} {fa : Option Addr} {fl fc : Nat} {fn : Nat → ByteArray} {F : Nat → V} {e : Int} {key : ByteArray} {hk : Bool} (h : AB w (V.mk k n s la ll lc L fa fl fc fn F e key hk).cells W) (a : Option Addr) (c : Nat) (P : Nat → V) :
    AB w (V.mk k n s la ll lc L a fl c fn P e key hk).cells (W.setCell ⟨w.heap.size, 4, none⟩ (.slice a fl c)) := by
  obtain ⟨c0, c1, c2, c3, c4, c5, c6, c7⟩ := atZ h.box
  have ho : ∀ j, j ≠ 4 → (W.setCell ⟨w.heap.size, 4, none⟩ (.slice a fl c)).cell? ⟨w.heap.size, j, none⟩ = W.cell? ⟨w.heap.size, j, none⟩ := fun j hj => World.cell?_setCell_other _ _ _ _ (fun e => hj (congrArg (fun a : Addr => a.off) e).symm)
  have hb1 : (W.setCell ⟨w.heap.size, 4, none⟩ (.slice a fl c)).heap[w.heap.size + 1]? = W.heap[w.heap.size + 1]? := by simp [World.setCell, Array.getElem?_modify]
  refine ⟨h.low.setCell (p := ⟨w.heap.size, 4, none⟩) (Nat.le_refl _) _, fun i hi => ?_, fun i => by rw [World.frozen?_setCell]; exact h.bfz i, fun i hi => ?_, by simpa using h.big⟩
  · rw [Nat.zero_add]
    match i, hi with
    | 0, _ => rw [ho 0 (by decide)]; exact c0
    | 1, _ => rw [ho 1 (by decide)]; exact c1
    | 2, _ => rw [ho 2 (by decide)]; exact c2
    | 3, _ => rw [ho 3 (by decide)]; exact c3
    | 4, _ => exact World.cell?_setCell_same _ _ _ c4
    | 5, _ => rw [ho 5 (by decide)]; exact c5
    | 6, _ => rw [ho 6 (by decide)]; exact c6
    | 7, _ => rw [ho 7 (by decide)]; exact c7
  · obtain ⟨⟨v, q1⟩, q2⟩ := h.res i hi
    exact ⟨⟨v, by rw [World.cell?_of_block hb1]; exact q1⟩, by rw [World.frozen?_of_block hb1]; exact q2⟩

theorem AB.rcells {w W : World} {cs : List Value} (h : AB w cs W) :
    (W.cell? ⟨w.heap.size + 1, 0, none⟩ = some (rs W (w.heap.size + 1) 0) ∧ W.cell? ⟨w.heap.size + 1, 1, none⟩ = some (rs W (w.heap.size + 1) 1) ∧ W.cell? ⟨w.heap.size + 1, 2, none⟩ = some (rs W (w.heap.size + 1) 2) ∧ W.cell? ⟨w.heap.size + 1, 3, none⟩ = some (rs W (w.heap.size + 1) 3) ∧
      W.cell? ⟨w.heap.size + 1, 4, none⟩ = some (rs W (w.heap.size + 1) 4) ∧ W.cell? ⟨w.heap.size + 1, 5, none⟩ = some (rs W (w.heap.size + 1) 5) ∧ W.cell? ⟨w.heap.size + 1, 6, none⟩ = some (rs W (w.heap.size + 1) 6) ∧ W.cell? ⟨w.heap.size + 1, 7, none⟩ = some (rs W (w.heap.size + 1) 7)) ∧
    (W.frozen? ⟨w.heap.size + 1, 0, none⟩ = false ∧ W.frozen? ⟨w.heap.size + 1, 1, none⟩ = false ∧ W.frozen? ⟨w.heap.size + 1, 2, none⟩ = false ∧ W.frozen? ⟨w.heap.size + 1, 3, none⟩ = false ∧ W.frozen? ⟨w.heap.size + 1, 4, none⟩ = false ∧ W.frozen? ⟨w.heap.size + 1, 5, none⟩ = false ∧
      W.frozen? ⟨w.heap.size + 1, 6, none⟩ = false ∧ W.frozen? ⟨w.heap.size + 1, 7, none⟩ = false) :=
  ⟨⟨rs_some (h.res 0 (by decide)).1.choose_spec, rs_some (h.res 1 (by decide)).1.choose_spec, rs_some (h.res 2 (by decide)).1.choose_spec, rs_some (h.res 3 (by decide)).1.choose_spec, rs_some (h.res 4 (by decide)).1.choose_spec, rs_some (h.res 5 (by decide)).1.choose_spec, rs_some (h.res 6 (by decide)).1.choose_spec, rs_some (h.res 7 (by decide)).1.choose_spec⟩,
    (h.res 0 (by decide)).2, (h.res 1 (by decide)).2, (h.res 2 (by decide)).2, (h.res 3 (by decide)).2, (h.res 4 (by decide)).2, (h.res 5 (by decide)).2, (h.res 6 (by decide)).2, (h.res 7 (by decide)).2⟩

/-- The slots of the element that is stored next: a value's. -/
theorem Kids.slotV {lb : Nat} {pre : Nat → List Value} {n : Nat} {K : Nat → V} {c : Nat} {P : Nat → V} {m g : Nat} {W : World} (h : Kids lb 66 8 0 pre n K (some ⟨g, 0, none⟩) c P m W) (hm : m < n) :
    (W.cell? ⟨g, m * 8, none⟩ = some (rs W g (m * 8)) ∧ W.cell? ⟨g, m * 8 + 1, none⟩ = some (rs W g (m * 8 + 1)) ∧ W.cell? ⟨g, m * 8 + 2, none⟩ = some (rs W g (m * 8 + 2)) ∧ W.cell? ⟨g, m * 8 + 3, none⟩ = some (rs W g (m * 8 + 3)) ∧
      W.cell? ⟨g, m * 8 + 4, none⟩ = some (rs W g (m * 8 + 4)) ∧ W.cell? ⟨g, m * 8 + 5, none⟩ = some (rs W g (m * 8 + 5)) ∧ W.cell? ⟨g, m * 8 + 6, none⟩ = some (rs W g (m * 8 + 6)) ∧ W.cell? ⟨g, m * 8 + 7, none⟩ = some (rs W g (m * 8 + 7))) ∧
    (∀ j, W.frozen? ⟨g, j, none⟩ = false) := by
  obtain ⟨g', e, ha⟩ := h.at' m hm
  cases e
  have hp : pre m = [] := List.length_eq_zero_iff.1 (h.psz.2 m)
  rw [hp, List.nil_append] at ha
  have h8 : (P m).cells.length = 8 := by rw [h.rest m (Nat.le_refl _) hm]; exact h.k8 m hm
  have q : ∀ j, j < 8 → W.cell? ⟨g, m * 8 + j, none⟩ = some (rs W g (m * 8 + j)) := fun j hj => rs_some ((ha j (by rw [h8]; exact hj)).trans (List.getElem?_eq_getElem (by rw [h8]; exact hj)))
  refine ⟨⟨q 0 (by decide), q 1 (by decide), q 2 (by decide), q 3 (by decide), q 4 (by decide), q 5 (by decide), q 6 (by decide), q 7 (by decide)⟩, fun j => ?_⟩
  rcases h.row with ⟨e, -⟩ | ⟨g', cur, e, h2, -⟩
  · cases e
  · cases e
    exact Lib.frozen_of_heap h2 j

/-- The slots of the element that is stored next: a field's. -/
theorem Kids.slotF {lb : Nat} {fn : Nat → ByteArray} {n : Nat} {K : Nat → V} {c : Nat} {P : Nat → V} {m g : Nat} {W : World} (h : Kids lb 68 9 1 (fun i => [.string (fn i)]) n K (some ⟨g, 0, none⟩) c P m W) (hm : m < n) :
    (W.cell? ⟨g, m * 9 + 1, none⟩ = some (rs W g (m * 9 + 1)) ∧ W.cell? ⟨g, m * 9 + 2, none⟩ = some (rs W g (m * 9 + 2)) ∧ W.cell? ⟨g, m * 9 + 3, none⟩ = some (rs W g (m * 9 + 3)) ∧ W.cell? ⟨g, m * 9 + 4, none⟩ = some (rs W g (m * 9 + 4)) ∧
      W.cell? ⟨g, m * 9 + 5, none⟩ = some (rs W g (m * 9 + 5)) ∧ W.cell? ⟨g, m * 9 + 6, none⟩ = some (rs W g (m * 9 + 6)) ∧ W.cell? ⟨g, m * 9 + 7, none⟩ = some (rs W g (m * 9 + 7)) ∧ W.cell? ⟨g, m * 9 + 8, none⟩ = some (rs W g (m * 9 + 8))) ∧
    (∀ j, W.frozen? ⟨g, j, none⟩ = false) := by
  obtain ⟨g', e, ha⟩ := h.at' m hm
  cases e
  have h8 : (P m).cells.length = 8 := by rw [h.rest m (Nat.le_refl _) hm]; exact h.k8 m hm
  have q : ∀ j, j < 8 → W.cell? ⟨g, m * 9 + (j + 1), none⟩ = some (rs W g (m * 9 + (j + 1))) := fun j hj => rs_some ((ha (j + 1) (by rw [List.length_append, h8]; simp only [List.length_singleton]; omega)).trans (List.getElem?_eq_getElem (by rw [List.length_append, h8]; simp only [List.length_singleton]; omega)))
  refine ⟨⟨q 0 (by decide), q 1 (by decide), q 2 (by decide), q 3 (by decide), q 4 (by decide), q 5 (by decide), q 6 (by decide), q 7 (by decide)⟩, fun j => ?_⟩
  rcases h.row with ⟨e, -⟩ | ⟨g', cur, e, h2, -⟩
  · cases e
  · cases e
    exact Lib.frozen_of_heap h2 j

set_option maxRecDepth 100000 in
set_option maxHeartbeats 8000000 in
theorem anew_any : ∀ v : V, AnewIs v := by
  intro v
  induction v with
  | leaf => exact fun w h => h.elim
  | mk k n s la ll lc L fa fl fc fn F e key hk ihL ihF =>
  intro w h hck
  have hll : ll ≤ 1256584717500 := by have := hck.1; omega
  have hfl := (show fl ≤ 1256584717500 by have := hck.2.1; omega)
  have HCL : Hid (∀ i, i < ll → ∀ W, Below w.heap.size w W → Calls Tryz.prog 90 #[(L i).agg] W fun e w' => ∃ t : V, e = .returned t.agg ∧ NewOf W (L i) t w') :=
    fun i hi W hb => ihL i W ((h.2.2.2.2.2.2.2.1 i hi).2.below hb) (hck.2.2.1 i hi)
  have HCF : Hid (∀ i, i < fl → ∀ W, Below w.heap.size w W → Calls Tryz.prog 90 #[(F i).agg] W fun e w' => ∃ t : V, e = .returned t.agg ∧ NewOf W (F i) t w') :=
    fun i hi W hb => ihF i W ((h.2.2.2.2.2.2.2.2 i hi).2.2.below hb) (hck.2.2.2 i hi)
  have HIN := Lib.hid h
  have HFB := Lib.hid hck
  clear ihL ihF h hck
  have OK0 := AB.start w (V.mk k n s la ll lc L fa fl fc fn F e key hk).cells 66 66
  simp only [V.agg, nv, vz, V.cells] at OK0 ⊢
  have OKH := Lib.hid OK0
  clear OK0
  go_enter Tryz.func90, Tryz.ntmps90
  go_upto_region 1 with fail
  have OKu := OKH.out
  generalize (w.alloc (.cells #[.int .u8 k, .int .i64 n, .string s, .slice la ll lc, .slice fa fl fc, .int .u8 e, .string key, .bool hk] 66)).alloc (.cells #[.int .u8 0, .int .i64 0, .string ⟨#[]⟩, .slice none 0 0, .slice none 0 0, .int .u8 0, .string ⟨#[]⟩, .bool false] 66) = W0 at OKu ⊢
  have OK : AB w (V.mk k n s la ll lc L fa fl fc fn F e key hk).cells W0 := OKu
  clear OKu OKH
  obtain ⟨c0, c1, c2, c3, c4, c5, c6, c7⟩ := atZ OK.box
  have z3 := OK.bfz 3
  have HAB := Lib.hid OK
  have HBIG := Lib.hid OK.big
  have HAT : Hid (∀ i, i < ll → ∃ b o', la = some ⟨b, o', none⟩ ∧ At W0 b (o' + i * 8) (L i).cells) := fun i hi => let ⟨b, o, q1, q2⟩ := (HIN.out.2.2.2.2.2.2.2.1 i hi).1; ⟨b, o, q1, q2.below OK.low⟩
  have H8 : Hid (∀ i, i < ll → (L i).cells.length = 8) := fun i hi => in_cells (HIN.out.2.2.2.2.2.2.2.1 i hi).2
  clear OK
  go_wp2_with (at_builtin; refine append_new rfl _ _ 63 66 rfl rfl la ll lc rfl (vz 0 0 ⟨#[]⟩).agg 8 112 Tryz.underlying63 info_val rfl (by decide) (by have := HFB.out.1; omega) (by unfold maxLen; omega) (fun i => (L i).cells) H8.out (fun i => v_one (L i)) HAT.out ?_)
  intro a1 cp1 W1 hN1
  have HN1 := Lib.hid hN1
  have HAB1 := Lib.hid (HAB.out.below hN1.low)
  clear hN1 HAB HAT c0 c1 c2 c3 c4 c5 c6 c7 z3
  obtain ⟨c0, c1, c2, c3, c4, c5, c6, c7⟩ := atZ HAB1.out.box
  have z3 := HAB1.out.bfz 3
  have HAB2 := Lib.hid (HAB1.out.box3 a1 cp1 L)
  have HK0 : Hid (Kids (w.heap.size + 2) 66 8 0 (fun _ => []) ll L a1 cp1 L 0 (W1.setCell ⟨w.heap.size, 3, none⟩ (.slice a1 ll cp1))) := by
    have h1 : NewRow W0 W1 66 8 ll (fun i => [] ++ (L i).cells) a1 cp1 := HN1.out
    refine Kids.from (W := W1) (fun g hg _ => by simp [World.setCell, Array.getElem?_modify]; intro e; omega) (h1.kids (pre := fun _ => []) ?_ ⟨rfl, fun _ => rfl⟩ H8.out)
    exact HBIG.out
  have hcap1 := HN1.out.cap
  unfold maxLen at hcap1
  go_wp2_with fail
  revert HAB2 HK0
  generalize W1.setCell ⟨w.heap.size, 3, none⟩ (.slice a1 ll cp1) = W2
  intro HAB2 HK0
  clear c0 c1 c2 c3 c4 c5 c6 c7 z3 HAB1 HN1
  have hll' : (ll : Int) ≤ 1256584717500 := by omega
  go_loopw [12] (fun i W => ∃ (m : Nat) (P : Nat → V), i = .int .i64 m ∧ m ≤ ll ∧ AB w (V.mk k n s a1 ll cp1 L fa fl fc fn F e key hk).cells W ∧ Kids (w.heap.size + 2) 66 8 0 (fun _ => []) ll L a1 cp1 P m W) (fun i _ => ll - (intOf i).toNat)
  case atStart => exact ⟨0, L, rfl, Nat.zero_le _, HAB2.out, HK0.out⟩
  case round =>
    obtain ⟨m, P, rfl, hm, hab, hkids⟩ := hrel
    have HAB := Lib.hid hab
    have HKI := Lib.hid hkids
    clear hab hkids HAB2 HK0
    obtain ⟨c0, c1, c2, c3, c4, c5, c6, c7⟩ := atZ HAB.out.box
    by_cases hlt : m < ll
    · have hlt' : (m : Int) < (ll : Int) := by omega
      have hm0 : (0 : Int) ≤ (m : Int) := by omega
      obtain ⟨g, rfl, hat⟩ := HKI.out.at' m hlt
      rw [HKI.out.rest m (Nat.le_refl _) hlt, List.nil_append] at hat
      have HCM := Lib.hid (HCL.out m hlt)
      have hin : (L m).In w := (HIN.out.2.2.2.2.2.2.2.1 m hlt).2
      have HINM := Lib.hid hin
      clear hin
      have hx8 := H8.out m hlt
      obtain ⟨x, hx⟩ : ∃ x, L m = x := ⟨_, rfl⟩
      rw [hx] at hat HCM HINM hx8
      have HXX := Lib.hid hx
      clear hx
      cases x with
      | leaf => exact HINM.out.elim
      | mk k3 n3 s3 la3 ll3 lc3 L3 fa3 fl3 fc3 fn3 F3 e3 key3 hk3 =>
      clear hx8
      obtain ⟨g0, g1, g2, g3, g4, g5, g6, g7⟩ := at8 hat
      clear hat
      simp only [V.agg, V.cells] at HCM
      go_wp2_with fail
      have HD := Lib.hid (And.intro (HAB.out.below (Below.refl _ _).drew) (HKI.out.below (Below.refl _ _).drew))
      go_region_with ((go_at_call 90; (with_reducible refine (HCM.out _ HD.out.1.low).mono ?_); rintro x w3 ⟨t, rfl, hnew⟩; (have HN3 := Lib.hid hnew); (have HB3 := Lib.hid (HD.out.1.below hnew.low)); (have hsl := ((HD.out.2).below hnew.low).slotV hlt); clear hnew c0 c1 c2 c3 c4 c5 c6 c7 g0 g1 g2 g3 g4 g5 g6 g7; obtain ⟨c0, c1, c2, c3, c4, c5, c6, c7⟩ := atZ HB3.out.box; obtain ⟨⟨g0, g1, g2, g3, g4, g5, g6, g7⟩, hfz⟩ := hsl; (have ht8 := HN3.out.inn); rcases t with _ | ⟨k4, n4, s4, la4, ll4, lc4, L4, fa4, fl4, fc4, fn4, F4, e4, key4, hk4⟩; (exact ht8.elim); clear ht8))
      all_goals
        have hst := HD.out.2.step hlt (by rw [HXX.out]; exact HINM.out.below HD.out.1.low) (by rw [HXX.out]; exact HN3.out)
        have HST := Lib.hid hst
        have hpu := HB3.out.put g (m * 8 + 0) (V.mk k4 n4 s4 la4 ll4 lc4 L4 fa4 fl4 fc4 fn4 F4 e4 key4 hk4).cells (HKI.out.frm _ rfl)
        have HPU := Lib.hid hpu
        clear hst hpu
        go_wp2_with fail
        go_roundw
        case rel => exact ⟨m + 1, _, by go_num, by omega, HPU.out, HST.out⟩
        case measure => simp [intOf]; omega
    · obtain rfl : ll = m := by omega
      obtain ⟨WR, rfl⟩ : ∃ WR, WR = wr := ⟨_, rfl⟩
      clear HCL hlt
      have z4 := HAB.out.bfz 4
      have HAT : Hid (∀ i, i < fl → ∃ b o', fa = some ⟨b, o', none⟩ ∧ At WR b (o' + i * 9) (.string (fn i) :: (F i).cells)) := fun i hi => let ⟨b, o, q1, q2⟩ := (HIN.out.2.2.2.2.2.2.2.2 i hi).1; ⟨b, o, q1, q2.below HAB.out.low⟩
      have H9 : Hid (∀ i, i < fl → (F i).cells.length = 8) := fun i hi => in_cells (HIN.out.2.2.2.2.2.2.2.2 i hi).2.2
      have H9' : Hid (∀ i, i < fl → (Value.string (fn i) :: (F i).cells).length = 9) := fun i hi => by rw [List.length_cons, H9.out i hi]
      go_wp2_with (at_builtin; refine append_new rfl _ _ 56 68 rfl rfl fa fl fc rfl (.agg (.string ⟨#[]⟩ :: nv.cells).toArray) 9 128 Tryz.underlying56 info_fld' rfl (by decide) (by have := HFB.out.2.1; omega) (by unfold maxLen; omega) (fun i => .string (fn i) :: (F i).cells) H9'.out (fun i => f_one' (fn i) (F i)) HAT.out ?_)
      intro a2 cp2 W3 hN2
      have HN2 := Lib.hid hN2
      have HAB3 := Lib.hid (HAB.out.below hN2.low)
      clear hN2 HAT c0 c1 c2 c3 c4 c5 c6 c7 z4
      obtain ⟨c0, c1, c2, c3, c4, c5, c6, c7⟩ := atZ HAB3.out.box
      have z4 := HAB3.out.bfz 4
      have HAB4 := Lib.hid (HAB3.out.box4 a2 cp2 F)
      have HBG := Lib.hid HAB.out.big
      have HK1 : Hid (Kids WR.heap.size 68 9 1 (fun i => [.string (fn i)]) fl F a2 cp2 F 0 (W3.setCell ⟨w.heap.size, 4, none⟩ (.slice a2 fl cp2))) := by
        have h1 : NewRow WR W3 68 9 fl (fun i => [.string (fn i)] ++ (F i).cells) a2 cp2 := HN2.out
        have hbg := HBG.out
        refine Kids.from (W := W3) (fun g hg _ => by simp [World.setCell, Array.getElem?_modify]; intro e; omega) (h1.kids (pre := fun i => [.string (fn i)]) (Nat.le_refl _) ⟨rfl, fun _ => rfl⟩ H9.out)
      have HMID : Hid (∀ g, w.heap.size + 2 ≤ g → g < WR.heap.size → (W3.setCell ⟨w.heap.size, 4, none⟩ (.slice a2 fl cp2)).heap[g]? = WR.heap[g]?) := fun g hg hlt => by
        rw [← HN2.out.low.block g hlt]
        simp [World.setCell, Array.getElem?_modify]; intro e; omega
      have hcap2 := HN2.out.cap
      unfold maxLen at hcap2
      go_wp2_with fail
      revert HAB4 HK1 HMID
      generalize W3.setCell ⟨w.heap.size, 4, none⟩ (.slice a2 fl cp2) = W4
      intro HAB4 HK1 HMID
      clear c0 c1 c2 c3 c4 c5 c6 c7 z4 HAB3 HN2 HAB
      have hfl' : (fl : Int) ≤ 1256584717500 := by omega
      go_loopw [33] (fun i W => ∃ (m : Nat) (P : Nat → V), i = .int .i64 m ∧ m ≤ fl ∧ AB w (V.mk k n s a1 ll cp1 L a2 fl cp2 fn F e key hk).cells W ∧ Kids WR.heap.size 68 9 1 (fun i => [.string (fn i)]) fl F a2 cp2 P m W ∧ (∀ g, w.heap.size + 2 ≤ g → g < WR.heap.size → W.heap[g]? = WR.heap[g]?)) (fun i _ => fl - (intOf i).toNat)
      case atStart => exact ⟨0, F, rfl, Nat.zero_le _, HAB4.out, HK1.out, HMID.out⟩
      case round =>
        obtain ⟨m, P2, rfl, hm, hab, hkids, hmid⟩ := hrel
        have HAB := Lib.hid hab
        have HK2 := Lib.hid hkids
        have HMI := Lib.hid hmid
        clear hab hkids hmid HAB4 HK1 HMID
        obtain ⟨c0, c1, c2, c3, c4, c5, c6, c7⟩ := atZ HAB.out.box
        by_cases hlt : m < fl
        · have hlt' : (m : Int) < (fl : Int) := by omega
          have hm0 : (0 : Int) ≤ (m : Int) := by omega
          obtain ⟨g, rfl, hat⟩ := HK2.out.at' m hlt
          rw [HK2.out.rest m (Nat.le_refl _) hlt] at hat
          have HCM := Lib.hid (HCF.out m hlt)
          have hin : (F m).In w := (HIN.out.2.2.2.2.2.2.2.2 m hlt).2.2
          have HINM := Lib.hid hin
          clear hin
          obtain ⟨x, hx⟩ : ∃ x, F m = x := ⟨_, rfl⟩
          obtain ⟨nm, hnm⟩ : ∃ nm, fn m = nm := ⟨_, rfl⟩
          rw [hx, hnm] at hat
          rw [hx] at HCM HINM
          have HXX := Lib.hid hx
          clear hx hnm
          cases x with
          | leaf => exact HINM.out.elim
          | mk k3 n3 s3 la3 ll3 lc3 L3 fa3 fl3 fc3 fn3 F3 e3 key3 hk3 =>
          obtain ⟨g0, g1, g2, g3, g4, g5, g6, g7, g8⟩ := at9 hat
          clear hat
          simp only [V.agg, V.cells] at HCM
          go_wp2_with fail
          have HD := Lib.hid (And.intro (HAB.out.below (Below.refl _ _).drew) (HK2.out.below (Below.refl _ _).drew))
          go_region_with ((go_at_call 90; (with_reducible refine (HCM.out _ HD.out.1.low).mono ?_); rintro x w3 ⟨t, rfl, hnew⟩; (have HN3 := Lib.hid hnew); (have HB3 := Lib.hid (HD.out.1.below hnew.low)); (have hsl := ((HD.out.2).below hnew.low).slotF hlt); clear hnew c0 c1 c2 c3 c4 c5 c6 c7 g0 g1 g2 g3 g4 g5 g6 g7 g8; obtain ⟨c0, c1, c2, c3, c4, c5, c6, c7⟩ := atZ HB3.out.box; obtain ⟨⟨g1, g2, g3, g4, g5, g6, g7, g8⟩, hfz⟩ := hsl; (have ht8 := HN3.out.inn); rcases t with _ | ⟨k4, n4, s4, la4, ll4, lc4, L4, fa4, fl4, fc4, fn4, F4, e4, key4, hk4⟩; (exact ht8.elim); clear ht8))
          all_goals
            have hst := HD.out.2.step hlt (by rw [HXX.out]; exact HINM.out.below HD.out.1.low) (by rw [HXX.out]; exact HN3.out)
            have HST := Lib.hid hst
            have hgf : WR.heap.size ≤ g := HK2.out.frm _ rfl
            have hgl : g < wr.drew.heap.size := by
              rcases HD.out.2.row with ⟨e, -⟩ | ⟨g', cur, e, h2, -⟩
              · cases e
              · cases e; exact (Array.getElem?_eq_some_iff.1 h2).1
            have hpu := HB3.out.put g (m * 9 + 1) (V.mk k4 n4 s4 la4 ll4 lc4 L4 fa4 fl4 fc4 fn4 F4 e4 key4 hk4).cells (Nat.le_trans HBG.out hgf)
            have HPU := Lib.hid hpu
            have hmi : ∀ q, w.heap.size + 2 ≤ q → q < WR.heap.size → (putL w3 g (m * 9 + 1) (V.mk k4 n4 s4 la4 ll4 lc4 L4 fa4 fl4 fc4 fn4 F4 e4 key4 hk4).cells).heap[q]? = WR.heap[q]? := fun q hq hql => by
              rw [putL_block _ _ _ _ _ (by omega), HN3.out.low.block q (by omega)]
              exact HMI.out q hq hql
            have HMJ := Lib.hid hmi
            clear hst hpu hmi hgf hgl
            go_wp2_with fail
            go_roundw
            case rel => exact ⟨m + 1, _, by go_num, by omega, HPU.out, HST.out, HMJ.out⟩
            case measure => simp [intOf]; omega
        · obtain rfl : fl = m := by omega
          obtain ⟨⟨d0, d1, d2, d3, d4, d5, d6, d7⟩, z0, z1, z2, z3, z4, z5, z6, z7⟩ := HAB.out.rcells
          have hnew : NewOf w _ _ (putL wr (w.heap.size + 1) 0 (V.mk k n s a1 ll cp1 P a2 fl cp2 fn P2 e key hk).cells) := new_mk rfl rfl HIN.out (putL_low HAB.out.low _ _ _ (by omega)) HKI.out HBG.out
            (fun q hq hql => by rw [putL_block _ _ _ _ _ (by omega)]; exact HMI.out q hq hql)
            (HK2.out.from (fun q hq _ => putL_block _ _ _ _ _ (by have := HBG.out; omega)))
          have HNEW := Lib.hid hnew
          clear hnew
          go_wp2_with fail
          refine bodyPost_ret (v := .agg #[.int .u8 k, .int .i64 n, .string s, .slice a1 ll cp1, .slice a2 fl cp2, .int .u8 e, .string key, .bool hk]) (by simp [results, Tryz.results90, go_sem, d0, d1, d2, d3, d4, d5, d6, d7]) rfl ⟨V.mk k n s a1 ll cp1 P a2 fl cp2 fn P2 e key hk, rfl, HNEW.out⟩
end Go.Proofs.YtajmdhcknmmbbaaGreatDoor
