/-
  Values in memory of their own: each list is a block's whole row ('V.Own'), no block holds two lists ('V.blocks'); cells written one behind the other ('putL').
  Conditions: none.
  What anew leaves so far: a list of its own, whose first m elements are new ('Kids').
  Conditions: none.
  Walks: mayBe of package oper: may each of the values be?
  Conditions: the values lie in memory; the table of rows holds what the program's text lays in it.
-/
import Derived.Test.YtjbapldlgnlepaaGreatDoorOpPush
import Derived.Test.YtjbapldlgnlepaaGreatDoorFrom
import Derived.Test.YtjbapldlgnlepaaGreatDoorOpTxt
import Derived.Test.YtjbapldlgnlepaaGreatDoorOpOne
namespace Go.Proofs.YtjbapldlgnlepaaGreatDoor
open Go.RowKit Go.Deep Go.WideShapes

/-- A list in a block of its own, or none. -/
def OwnRow (w : World) (T : TypeId) (size : Nat) (a : Option Addr) (n c : Nat) : Prop :=
  (a = none ∧ n = 0 ∧ c = 0) ∨ ∃ g cur, a = some ⟨g, 0, none⟩ ∧ w.heap[g]? = some (.cells cur T (0, 0)) ∧ cur.size = c * size

/-- Each list of it is a block's row. -/
def V.Own (w : World) : V → Prop
  | .leaf => False
  | .mk _ _ _ la ll lc L fa fl fc _ F _ _ _ => OwnRow w 55 8 la ll lc ∧ OwnRow w 82 9 fa fl fc ∧ (∀ i, i < ll → (L i).Own w) ∧ (∀ i, i < fl → (F i).Own w)

def addrs : Option Addr → List Nat
  | some a => [a.block]
  | none => []
/-- Lists of numbers, one behind the other. -/
def joinTo : Nat → (Nat → List Nat) → List Nat
  | 0, _ => []
  | n + 1, f => joinTo n f ++ f n
/-- The blocks of its lists. -/
def V.blocks : V → List Nat
  | .leaf => []
  | .mk _ _ _ la ll _ L fa fl _ _ F _ _ _ => addrs la ++ (joinTo ll (fun i => (L i).blocks) ++ (addrs fa ++ joinTo fl (fun i => (F i).blocks)))

theorem joinTo_mem {n : Nat} {f : Nat → List Nat} {x : Nat} : x ∈ joinTo n f ↔ ∃ i, i < n ∧ x ∈ f i := by
  induction n with
  | zero => simp [joinTo]
  | succ n ih =>
    rw [joinTo, List.mem_append, ih]
    constructor
    · rintro (⟨i, hi, h⟩ | h)
      · exact ⟨i, by omega, h⟩
      · exact ⟨n, by omega, h⟩
    · rintro ⟨i, hi, h⟩
      rcases Nat.lt_succ_iff_lt_or_eq.1 hi with h1 | rfl
      · exact .inl ⟨i, h1, h⟩
      · exact .inr h
theorem joinTo_ext {n : Nat} {f g : Nat → List Nat} (h : ∀ i, i < n → f i = g i) : joinTo n f = joinTo n g := by
  induction n with
  | zero => rfl
  | succ n ih => rw [joinTo, joinTo, ih (fun i hi => h i (by omega)), h n (by omega)]

theorem OwnRow.below {w w' : World} {T : TypeId} {size : Nat} {a : Option Addr} {n c : Nat} (h : OwnRow w T size a n c) (hb : Below w.heap.size w w') : OwnRow w' T size a n c := by
  rcases h with h | ⟨g, cur, h1, h2, h3⟩
  · exact .inl h
  · exact .inr ⟨g, cur, h1, by rw [hb.block g (Array.getElem?_eq_some_iff.1 h2).1]; exact h2, h3⟩
theorem V.Own.from {B : Nat} {w w' : World} (hh : ∀ g, B ≤ g → g < w.heap.size → w'.heap[g]? = w.heap[g]?) : ∀ {v : V}, v.From B → v.Own w → v.Own w' := by
  have aux : ∀ {T : TypeId} {size : Nat} {a : Option Addr} {n c : Nat}, (∀ x, a = some x → B ≤ x.block) → OwnRow w T size a n c → OwnRow w' T size a n c := by
    intro T size a n c ha h
    rcases h with h | ⟨g, cur, h1, h2, h3⟩
    · exact .inl h
    · exact .inr ⟨g, cur, h1, by rw [hh g (by have := ha _ h1; exact this) (Array.getElem?_eq_some_iff.1 h2).1]; exact h2, h3⟩
  intro v
  induction v with
  | leaf => exact fun h => h.elim
  | mk k n s la ll lc L fa fl fc fn F e key hk ihL ihF =>
    rintro ⟨f1, f2, f3, f4⟩ ⟨h1, h2, h3, h4⟩
    exact ⟨aux f1 h1, aux f2 h2, fun i hi => ihL i (f3 i hi) (h3 i hi), fun i hi => ihF i (f4 i hi) (h4 i hi)⟩

/-- All blocks of a value from B on lie from B on, and are there. -/
theorem blocks_range {B : Nat} {w : World} : ∀ {v : V}, v.From B → v.Own w → ∀ x ∈ v.blocks, B ≤ x ∧ x < w.heap.size := by
  have aux : ∀ {T : TypeId} {size : Nat} {a : Option Addr} {n c : Nat}, (∀ x, a = some x → B ≤ x.block) → OwnRow w T size a n c → ∀ x ∈ addrs a, B ≤ x ∧ x < w.heap.size := by
    intro T size a n c ha h x hx
    rcases h with ⟨rfl, -⟩ | ⟨g, cur, rfl, h2, -⟩
    · simp [addrs] at hx
    · simp only [addrs, List.mem_singleton] at hx
      subst hx
      exact ⟨ha _ rfl, (Array.getElem?_eq_some_iff.1 h2).1⟩
  intro v
  induction v with
  | leaf => exact fun h => h.elim
  | mk k n s la ll lc L fa fl fc fn F e key hk ihL ihF =>
    rintro ⟨f1, f2, f3, f4⟩ ⟨h1, h2, h3, h4⟩ x hx
    simp only [V.blocks, List.mem_append, joinTo_mem] at hx
    rcases hx with hx | ⟨i, hi, hx⟩ | hx | ⟨i, hi, hx⟩
    · exact aux f1 h1 x hx
    · exact ihL i (f3 i hi) (h3 i hi) x hx
    · exact aux f2 h2 x hx
    · exact ihF i (f4 i hi) (h4 i hi) x hx

/-! ### Cells written one behind the other -/
def putL (W : World) (g : Nat) : Nat → List Value → World
  | _, [] => W
  | o, v :: vs => putL (W.setCell ⟨g, o, none⟩ v) g (o + 1) vs

theorem putL_size (W : World) (g o : Nat) (vs : List Value) : (putL W g o vs).heap.size = W.heap.size := by
  induction vs generalizing W o with
  | nil => rfl
  | cons v vs ih => rw [putL, ih]; simp
theorem putL_block (W : World) (g o : Nat) (vs : List Value) (b : Nat) (h : b ≠ g) : (putL W g o vs).heap[b]? = W.heap[b]? := by
  induction vs generalizing W o with
  | nil => rfl
  | cons v vs ih => rw [putL, ih]; simp [World.setCell, Array.getElem?_modify]; intro e; exact absurd e.symm h
theorem putL_frozen (W : World) (g o : Nat) (vs : List Value) (a : Addr) : (putL W g o vs).frozen? a = W.frozen? a := by
  induction vs generalizing W o with
  | nil => rfl
  | cons v vs ih => rw [putL, ih, World.frozen?_setCell]
theorem putL_low {B : Nat} {w W : World} (h : Below B w W) (g o : Nat) (vs : List Value) (hg : B ≤ g) : Below B w (putL W g o vs) := by
  induction vs generalizing W o with
  | nil => exact h
  | cons v vs ih => rw [putL]; exact ih (h.setCell (p := ⟨g, o, none⟩) hg v) _
theorem putL_other (W : World) (g o : Nat) (vs : List Value) (j : Nat) (h : j < o ∨ o + vs.length ≤ j) : (putL W g o vs).cell? ⟨g, j, none⟩ = W.cell? ⟨g, j, none⟩ := by
  induction vs generalizing W o with
  | nil => rfl
  | cons v vs ih =>
    simp only [List.length_cons] at h
    rw [putL, ih _ _ (by omega), World.cell?_setCell_other _ _ _ _ (fun e => by have := congrArg (fun a : Addr => a.off) e; simp only at this; omega)]
theorem putL_at (W : World) (g o : Nat) (vs : List Value) (h : ∀ i, i < vs.length → ∃ u, W.cell? ⟨g, o + i, none⟩ = some u) : At (putL W g o vs) g o vs := by
  induction vs generalizing W o with
  | nil => intro i hi; exact absurd hi (Nat.not_lt_zero _)
  | cons v vs ih =>
    have h1 := ih (W.setCell ⟨g, o, none⟩ v) (o + 1) (fun i hi => by
      obtain ⟨u, hu⟩ := h (i + 1) (by simpa using hi)
      exact ⟨u, by rw [World.cell?_setCell_other _ _ _ _ (fun e => by have := congrArg (fun a : Addr => a.off) e; simp only at this; omega)]; rw [show o + 1 + i = o + (i + 1) by omega]; exact hu⟩)
    intro i hi
    cases i with
    | zero =>
      obtain ⟨u, hu⟩ := h 0 (by simp)
      rw [Nat.add_zero] at hu ⊢
      rw [putL, putL_other _ _ _ _ _ (.inl (by omega)), World.cell?_setCell_same _ _ _ hu]
      rfl
    | succ i =>
      have h2 := h1 i (by simpa using hi)
      rw [show o + 1 + i = o + (i + 1) by omega] at h2
      rw [putL, h2]
      rfl
theorem putL_obj (W : World) (g o : Nat) (vs : List Value) (cur : Array Value) (T : TypeId) (h : W.heap[g]? = some (.cells cur T (0, 0))) : ∃ cur', (putL W g o vs).heap[g]? = some (.cells cur' T (0, 0)) ∧ cur'.size = cur.size := by
  induction vs generalizing W o cur with
  | nil => exact ⟨cur, h, rfl⟩
  | cons v vs ih =>
    obtain ⟨c1, h1, h2⟩ := ih (W.setCell ⟨g, o, none⟩ v) (o + 1) (cur.set! o v) (by simp [World.setCell, Array.getElem?_modify, h])
    exact ⟨c1, by rw [putL]; exact h1, by simpa using h2⟩
end Go.Proofs.YtjbapldlgnlepaaGreatDoor
namespace Go.Proofs.YtjbapldlgnlepaaGreatDoor
open Go.RowKit Go.Deep Go.WideShapes

/-- t is v anew, in memory that was not there in w. -/
structure NewOf (w : World) (v t : V) (w' : World) : Prop where
  inn : t.In w'
  sm : v.same t = true
  frm : t.From w.heap.size
  own : t.Own w'
  nod : t.blocks.Nodup
  low : Below w.heap.size w w'

/-- A list of n elements of sz cells (p cells ahead of a value's) in a row of its own, from block lb on; the first m of them are new. -/
structure Kids (lb : Nat) (T : TypeId) (sz p : Nat) (pre : Nat → List Value) (n : Nat) (K : Nat → V) (a : Option Addr) (c : Nat) (P : Nat → V) (m : Nat) (W : World) : Prop where
  row : OwnRow W T sz a n c
  cap : n ≤ c ∧ c ≤ maxLen
  frm : ∀ x, a = some x → lb ≤ x.block
  at' : ∀ i, i < n → ∃ g, a = some ⟨g, 0, none⟩ ∧ At W g (i * sz) (pre i ++ (P i).cells)
  new : ∀ i, i < m → (P i).In W ∧ (K i).same (P i) = true ∧ (∀ x, a = some x → (P i).From (x.block + 1)) ∧ (P i).Own W
  rest : ∀ i, m ≤ i → i < n → P i = K i
  nod : (joinTo m (fun i => (P i).blocks)).Nodup
  le : m ≤ n
  psz : sz = p + 8 ∧ ∀ i, (pre i).length = p
  k8 : ∀ i, i < n → (K i).cells.length = 8

theorem OwnRow.from {lb : Nat} {w w' : World} {T : TypeId} {size : Nat} {a : Option Addr} {n c : Nat} (hh : ∀ g, lb ≤ g → g < w.heap.size → w'.heap[g]? = w.heap[g]?) (hf : ∀ x, a = some x → lb ≤ x.block) (h : OwnRow w T size a n c) : OwnRow w' T size a n c := by
  rcases h with h | ⟨g, cur, h1, h2, h3⟩
  · exact .inl h
  · exact .inr ⟨g, cur, h1, by rw [hh g (hf _ h1) (Array.getElem?_eq_some_iff.1 h2).1]; exact h2, h3⟩

theorem Kids.from {lb : Nat} {T : TypeId} {sz p : Nat} {pre : Nat → List Value} {n : Nat} {K : Nat → V} {a : Option Addr} {c : Nat} {P : Nat → V} {m : Nat} {W W' : World} (hh : ∀ g, lb ≤ g → g < W.heap.size → W'.heap[g]? = W.heap[g]?)
    (h : Kids lb T sz p pre n K a c P m W) : Kids lb T sz p pre n K a c P m W' := by
  have hc : ∀ x : Addr, lb ≤ x.block → x.block < W.heap.size → W'.cell? x = W.cell? x := fun x h1 h2 => World.cell?_of_block (hh _ h1 h2)
  refine ⟨h.row.from hh h.frm, h.cap, h.frm, fun i hi => ?_, fun i hi => ?_, h.rest, h.nod, h.le, h.psz, h.k8⟩
  · obtain ⟨g, e, ha⟩ := h.at' i hi
    exact ⟨g, e, At.from (B := lb) (h.frm _ e) hc ha⟩
  · obtain ⟨h1, h2, h3, h4⟩ := h.new i hi
    obtain ⟨g, e, -⟩ := h.at' i (Nat.lt_of_lt_of_le hi h.le)
    have hf : (P i).From lb := (h3 _ e).mono (by have := h.frm _ e; simp only at this ⊢; omega)
    exact ⟨V.In.from hc hf h1, h2, h3, V.Own.from hh hf h4⟩
theorem Kids.below {lb : Nat} {T : TypeId} {sz p : Nat} {pre : Nat → List Value} {n : Nat} {K : Nat → V} {a : Option Addr} {c : Nat} {P : Nat → V} {m : Nat} {W W' : World} (h : Kids lb T sz p pre n K a c P m W) (hb : Below W.heap.size W W') : Kids lb T sz p pre n K a c P m W' :=
  h.from fun g _ hlt => hb.block g hlt

/-- One element is another one now. -/
def updV (P : Nat → V) (m : Nat) (t : V) : Nat → V := fun i => if i = m then t else P i

theorem in_cells' {w : World} {v : V} (h : v.In w) : v.cells.length = 8 := in_cells h

/-- The m-th element is stored anew. -/
theorem Kids.step {lb : Nat} {T : TypeId} {sz p : Nat} {pre : Nat → List Value} {n : Nat} {K : Nat → V} {c : Nat} {P : Nat → V} {m g : Nat} {W w1 : World} {t : V} (h : Kids lb T sz p pre n K (some ⟨g, 0, none⟩) c P m W) (hm : m < n)
    (hK : (K m).In W) (ht : NewOf W (K m) t w1) : Kids lb T sz p pre n K (some ⟨g, 0, none⟩) c (updV P m t) (m + 1) (putL w1 g (m * sz + p) t.cells) := by
  have hg : g < W.heap.size := by
    rcases h.row with ⟨e, -⟩ | ⟨g', cur, e, h2, -⟩
    · cases e
    · cases e; exact (Array.getElem?_eq_some_iff.1 h2).1
  have h1 := h.below ht.low
  have ht8 := in_cells ht.inn
  have hne : ∀ b, b ≠ g → (putL w1 g (m * sz + p) t.cells).heap[b]? = w1.heap[b]? := fun b hb => putL_block _ _ _ _ _ hb
  have hc : ∀ x : Addr, g + 1 ≤ x.block → x.block < w1.heap.size → (putL w1 g (m * sz + p) t.cells).cell? x = w1.cell? x := fun x hx _ => World.cell?_of_block (hne _ (by omega))
  have hfT : t.From (g + 1) := ht.frm.mono (by omega)
  have hw1 := ht.low.size
  refine ⟨?_, h.cap, h.frm, fun i hi => ?_, fun i hi => ?_, fun i hi hin => ?_, ?_, by omega, h.psz, h.k8⟩
  · rcases h1.row with ⟨e, -⟩ | ⟨g', cur, e, h2, h3⟩
    · cases e
    · cases e
      obtain ⟨cur', h4, h5⟩ := putL_obj w1 g (m * sz + p) t.cells cur T h2
      exact .inr ⟨g, cur', rfl, h4, by rw [h5, h3]⟩
  · obtain ⟨g', e, ha⟩ := h1.at' i hi
    cases e
    refine ⟨g, rfl, ?_⟩
    have hpl := h.psz.2 i
    have hsz := h.psz.1
    by_cases e : i = m
    · subst e
      have hPc : (P i).cells.length = 8 := by rw [h.rest i (Nat.le_refl _) hi]; exact in_cells hK
      have h2 : At (putL w1 g (i * sz + p) t.cells) g (i * sz + p) t.cells := by
        refine putL_at _ _ _ _ fun j hj => ?_
        rw [ht8] at hj
        have := ha (p + j) (by rw [List.length_append, hpl, hPc]; omega)
        rw [← Nat.add_assoc] at this
        exact ⟨_, this.trans (List.getElem?_eq_getElem (by rw [List.length_append, hpl, hPc]; omega))⟩
      intro j hj
      simp only [updV, if_pos, List.length_append, hpl, ht8] at hj ⊢
      by_cases hj' : j < p
      · rw [putL_other _ _ _ _ _ (.inl (by omega)), ha j (by rw [List.length_append, hpl, hPc]; omega), List.getElem?_append_left (by omega), List.getElem?_append_left (by omega)]
      · have h3 := h2 (j - p) (by rw [ht8]; omega)
        rw [show i * sz + p + (j - p) = i * sz + j by omega] at h3
        rw [h3, List.getElem?_append_right (by omega), hpl]
    · intro j hj
      simp only [updV, if_neg e] at hj ⊢
      have hPc : (P i).cells.length = 8 := by
        by_cases him : i < m
        · exact in_cells (h.new i him).1
        · rw [h.rest i (by omega) hi]
          exact h.k8 i hi
      rw [List.length_append, hpl, hPc] at hj
      have hd : i * sz + j < m * sz + p ∨ m * sz + p + t.cells.length ≤ i * sz + j := by
        rw [ht8]
        rcases Nat.lt_or_gt_of_ne e with h' | h'
        · left
          have := Nat.mul_le_mul_right sz (show i + 1 ≤ m by omega)
          rw [Nat.add_mul] at this
          omega
        · right
          have := Nat.mul_le_mul_right sz (show m + 1 ≤ i by omega)
          rw [Nat.add_mul] at this
          omega
      rw [putL_other _ _ _ _ _ hd, ha j (by rw [List.length_append, hpl, hPc]; omega)]
  · by_cases e : i = m
    · subst e
      simp only [updV, if_pos]
      exact ⟨V.In.from hc hfT ht.inn, ht.sm, fun x hx => by cases hx; exact hfT, V.Own.from (fun b hb _ => hne b (by omega)) hfT ht.own⟩
    · simp only [updV, if_neg e]
      obtain ⟨q1, q2, q3, q4⟩ := h1.new i (by omega)
      have hf := q3 _ rfl
      exact ⟨V.In.from hc hf q1, q2, q3, V.Own.from (fun b hb _ => hne b (by simp only at hb; omega)) hf q4⟩
  · simp only [updV, if_neg (show i ≠ m by omega)]
    exact h.rest i (by omega) hin
  · rw [joinTo, joinTo_ext (g := fun i => (P i).blocks) (fun i hi => by simp only [updV, if_neg (show i ≠ m by omega)]), show updV P m t m = t by simp [updV], List.nodup_append]
    refine ⟨h.nod, ht.nod, fun x hx y hy => ?_⟩
    obtain ⟨i, hi, hx⟩ := joinTo_mem.1 hx
    obtain ⟨-, -, q3, q4⟩ := h.new i hi
    have a1 := blocks_range (q3 _ rfl) q4 x hx
    have a2 := blocks_range ht.frm ht.own y hy
    omega

/-- A new row that holds what was appended to nothing. -/
structure NewRow (W W' : World) (T : TypeId) (sz n : Nat) (cs : Nat → List Value) (a : Option Addr) (c : Nat) : Prop where
  row : OwnRow W' T sz a n c
  at' : ∀ i, i < n → ∃ g, a = some ⟨g, 0, none⟩ ∧ At W' g (i * sz) (cs i)
  frm : ∀ x, a = some x → W.heap.size ≤ x.block
  cap : n ≤ c ∧ c ≤ maxLen
  low : Below W.heap.size W W'

theorem NewRow.kids {W W' : World} {T : TypeId} {sz n p : Nat} {pre : Nat → List Value} {K : Nat → V} {a : Option Addr} {c : Nat} (h : NewRow W W' T sz n (fun i => pre i ++ (K i).cells) a c) {lb : Nat} (hlb : lb ≤ W.heap.size) (hp : sz = p + 8 ∧ ∀ i, (pre i).length = p) (h8 : ∀ i, i < n → (K i).cells.length = 8) :
    Kids lb T sz p pre n K a c K 0 W' :=
  ⟨h.row, h.cap, fun x hx => Nat.le_trans hlb (h.frm x hx), h.at', fun i hi => absurd hi (Nat.not_lt_zero _), fun _ _ _ => rfl, by simp [joinTo], Nat.zero_le _, hp, h8⟩

/-- Cells that stand one behind the other, in groups of sz. -/
def flatC (sz : Nat) : Nat → (Nat → List Value) → List Value
  | 0, _ => []
  | k + 1, cs => flatC sz k cs ++ cs k
theorem flatC_length {sz k : Nat} {cs : Nat → List Value} (h : ∀ i, i < k → (cs i).length = sz) : (flatC sz k cs).length = k * sz := by
  induction k with
  | zero => simp [flatC]
  | succ k ih => rw [flatC, List.length_append, ih (fun i hi => h i (by omega)), h k (by omega), Nat.add_mul, Nat.one_mul]
theorem flatC_get {sz k : Nat} {cs : Nat → List Value} (h : ∀ i, i < k → (cs i).length = sz) : ∀ i, i < k → ∀ j, j < sz → (flatC sz k cs)[i * sz + j]? = (cs i)[j]? := by
  induction k with
  | zero => intro i hi; omega
  | succ k ih =>
    intro i hi j hj
    have hl := flatC_length (sz := sz) (k := k) (cs := cs) (fun i hi => h i (by omega))
    rw [flatC]
    rcases Nat.lt_succ_iff_lt_or_eq.1 hi with h1 | rfl
    · have := Nat.mul_le_mul_right sz (show i + 1 ≤ k by omega)
      rw [Nat.add_mul] at this
      rw [List.getElem?_append_left (by omega), ih (fun i hi => h i (by omega)) i h1 j hj]
    · rw [List.getElem?_append_right (by omega), hl, Nat.add_sub_cancel_left]
theorem flatC_one {sz k : Nat} {cs : Nat → List Value} (h : ∀ i, ∀ u ∈ cs i, u.oneCell' = true) : ∀ u ∈ flatC sz k cs, u.oneCell' = true := by
  induction k with
  | zero => intro u hu; simp [flatC] at hu
  | succ k ih =>
    intro u hu
    rw [flatC, List.mem_append] at hu
    exact hu.elim (ih u) (h k u)
theorem flatC_cells {W : World} {b o n sz : Nat} {cs : Nat → List Value} (hs : 0 < sz) (h8 : ∀ i, i < n → (cs i).length = sz) (h : ∀ i, i < n → At W b (o + i * sz) (cs i)) : ∀ j u, (flatC sz n cs)[j]? = some u → W.cell? ((⟨b, o, none⟩ : Addr).add j) = some u := by
  intro j u hu
  have hl := flatC_length h8
  have hj : j < n * sz := by have := (List.getElem?_eq_some_iff.1 hu).1; omega
  have hd : j / sz < n := by rw [Nat.div_lt_iff_lt_mul hs]; exact hj
  have hg := flatC_get h8 (j / sz) hd (j % sz) (Nat.mod_lt _ hs)
  have e : j / sz * sz + j % sz = j := by rw [Nat.mul_comm]; exact Nat.div_add_mod j sz
  rw [e, hu] at hg
  have := h (j / sz) hd (j % sz) (by rw [h8 _ hd]; exact Nat.mod_lt _ hs)
  rw [add_plain]
  rw [show o + j / sz * sz + j % sz = o + j by rw [Nat.add_assoc, e]] at this
  rw [this, ← hg]

/-- append(nil, l...): a row of its own, or nothing. -/
theorem append_new {W : World} {ops : Array Oper} {rest : List Oper} {o : Oper} {a : Act} {Q : Exit → Act → World → Prop} (hgd : o.guard = none) (s x : Operand) (ts T : TypeId)
    (ho : o.op = .call { callee := .builtin .append, args := #[s, x], argTypes := #[ts, ts] }) (hs : a.eval s = .slice none 0 0) (la : Option Addr) (n lc : Nat) (hx : a.eval x = .slice la n lc)
    (z : Value) (sz bytes : Nat) (hts : Tryz.prog.underlying ts = some (.slice T)) (hinfo : (Tryz.prog.info? T).map (fun i => (i.zero, i.size, i.bytes)) = some (some z, sz, bytes)) (hzs : z.cells.size = sz) (hsz : 0 < sz) (hby : n * bytes ≤ 140737488355328) (hn : n ≤ 100000)
    (cs : Nat → List Value) (h8 : ∀ i, i < n → (cs i).length = sz) (h1 : ∀ i, ∀ u ∈ cs i, u.oneCell' = true) (hat : ∀ i, i < n → ∃ b o', la = some ⟨b, o', none⟩ ∧ At W b (o' + i * sz) (cs i))
    (hr : ∀ a' c' W', NewRow W W' T sz n cs a' c' → wpList Tryz.prog ops Q rest (a.put o.dst (.slice a' n c')) W') : wpList Tryz.prog ops Q (o :: rest) a W := by
  obtain ⟨i0, hi, hz0, hz1, hz2⟩ := info_parts hinfo
  by_cases hz : n = 0
  · subst hz
    refine wpList_append_nothing hgd s x _ ho T i0 hts hi none 0 0 (Nat.le_refl _) hs la lc hx ?_
    exact hr none 0 W ⟨.inl ⟨rfl, rfl, rfl⟩, fun i hi => absurd hi (Nat.not_lt_zero _), (fun x hx => by cases hx), ⟨Nat.le_refl _, by decide⟩, Below.refl _ _⟩
  · obtain ⟨b, o', rfl, -⟩ := hat 0 (by omega)
    have hat' : ∀ i, i < n → At W b (o' + i * sz) (cs i) := fun i hi => by
      obtain ⟨b2, o2, he, ha⟩ := hat i hi
      simp only [Option.some.injEq, Addr.mk.injEq, and_true] at he
      obtain ⟨rfl, rfl⟩ := he
      exact ha
    refine wpList_append_own W hgd s x _ ho W.heap.size T i0 z sz bytes hts hi hz0 hz1 hz2 hzs hsz (.slice none 0 0) 0 [] hs ⟨by simp, .inl ⟨rfl, rfl⟩⟩ ⟨b, o', none⟩ n lc (flatC sz n cs) hx (flatC_length h8) (flatC_cells hsz h8 hat') (flatC_one h1) (by unfold maxLen; omega) (by rw [Nat.zero_add]; exact hby) (Nat.le_refl _) ?_
    intro v' w' hown hgrow _
    rw [Nat.zero_add, List.nil_append] at hown
    have hlow : Below W.heap.size W w' := (Below.refl _ _).grown hgrow (Nat.le_refl _) (fun k e => by cases e)
    rcases hown.2 with ⟨_, h0⟩ | ⟨g, cap, cur, rfl, hbg, hg, hnc, hcm, hcs, htk⟩
    · exact absurd h0 hz
    · refine hr (some ⟨g, 0, none⟩) cap w' ⟨.inr ⟨g, cur, rfl, hg, hcs⟩, fun i hi => ⟨g, rfl, fun j hj => ?_⟩, (fun x hx => by cases hx; exact hbg), ⟨hnc, hcm⟩, hlow⟩
      rw [h8 i hi] at hj
      have := hown.cells (g := g) rfl (i * sz + j) _ (by rw [flatC_get h8 i hi j hj]; exact List.getElem?_eq_getElem (by rw [h8 i hi]; exact hj))
      rw [add_plain, Nat.zero_add] at this
      rw [this]
      exact (List.getElem?_eq_getElem (by rw [h8 i hi]; exact hj)).symm

/-- A value of two new lists. -/
theorem new_mk {w WR W : World} {k n : Int} {s : ByteArray} {la : Option Addr} {ll lc : Nat} {L : Nat → V} {fa : Option Addr} {fl fc : Nat} {fn : Nat → ByteArray} {F : Nat → V} {e : Int} {key : ByteArray} {hk : Bool} {a1 a2 : Option Addr} {c1 c2 : Nat} {P1 P2 : Nat → V} {T T' : TypeId}
    (hT : T = 55) (hT' : T' = 82) (h : (V.mk k n s la ll lc L fa fl fc fn F e key hk).In w) (low : Below w.heap.size w W) (hk1 : Kids (w.heap.size + 2) T 8 0 (fun _ => []) ll L a1 c1 P1 ll WR) (hbig : w.heap.size + 2 ≤ WR.heap.size)
    (mid : ∀ g, w.heap.size + 2 ≤ g → g < WR.heap.size → W.heap[g]? = WR.heap[g]?) (hk2 : Kids WR.heap.size T' 9 1 (fun i => [.string (fn i)]) fl F a2 c2 P2 fl W) :
    NewOf w (V.mk k n s la ll lc L fa fl fc fn F e key hk) (V.mk k n s a1 ll c1 P1 a2 fl c2 fn P2 e key hk) W := by
  subst hT hT'
  have h1 := hk1.from mid
  have hf1 : ∀ i, i < ll → (P1 i).From (w.heap.size + 2) := fun i hi => by
    obtain ⟨g, e, -⟩ := hk1.at' i hi
    exact ((hk1.new i hi).2.2.1 _ e).mono (by have := hk1.frm _ e; simp only at this ⊢; omega)
  have hf2 : ∀ i, i < fl → (P2 i).From WR.heap.size := fun i hi => by
    obtain ⟨g, e, -⟩ := hk2.at' i hi
    exact ((hk2.new i hi).2.2.1 _ e).mono (by have := hk2.frm _ e; simp only at this ⊢; omega)
  have hr1 : ∀ x ∈ addrs a1, x < WR.heap.size := fun x hx => by
    rcases hk1.row with ⟨rfl, -⟩ | ⟨g, cur, rfl, h2, -⟩
    · simp [addrs] at hx
    · simp only [addrs, List.mem_singleton] at hx
      subst hx
      exact (Array.getElem?_eq_some_iff.1 h2).1
  refine ⟨?_, ?_, ?_, ?_, ?_, low⟩
  · obtain ⟨q1, q2, q3, q4, q5, -, -, -, qF⟩ := h
    refine ⟨q1, q2, q3, q4, q5, hk1.cap, hk2.cap, fun i hi => ?_, fun i hi => ?_⟩
    · obtain ⟨g, e, ha⟩ := h1.at' i hi
      exact ⟨⟨g, 0, e, by rw [Nat.zero_add]; exact ha⟩, (h1.new i hi).1⟩
    · obtain ⟨g, e, ha⟩ := hk2.at' i hi
      exact ⟨⟨g, 0, e, by rw [Nat.zero_add]; exact ha⟩, (qF i hi).2.1, (hk2.new i hi).1⟩
  · exact same_mk (fun i hi => (hk1.new i hi).2.1) (fun i hi => ⟨rfl, (hk2.new i hi).2.1⟩)
  · refine ⟨fun x hx => ?_, fun x hx => ?_, fun i hi => (hf1 i hi).mono (by omega), fun i hi => (hf2 i hi).mono (by omega)⟩
    · have := hk1.frm x hx; omega
    · have := hk2.frm x hx; omega
  · exact ⟨h1.row, hk2.row, fun i hi => (h1.new i hi).2.2.2, fun i hi => (hk2.new i hi).2.2.2⟩
  · have n1 : (addrs a1).Nodup := by cases a1 <;> simp [addrs]
    have n2 : (addrs a2).Nodup := by cases a2 <;> simp [addrs]
    have m1 : ∀ x ∈ joinTo ll (fun i => (P1 i).blocks), x < WR.heap.size ∧ ∀ y ∈ addrs a1, y ≠ x := fun x hx => by
      obtain ⟨i, hi, hx⟩ := joinTo_mem.1 hx
      obtain ⟨-, -, q3, q4⟩ := hk1.new i hi
      refine ⟨(blocks_range (hf1 i hi) q4 x hx).2, fun y hy => ?_⟩
      cases a1 with
      | none => simp [addrs] at hy
      | some a =>
        simp only [addrs, List.mem_singleton] at hy
        have := (blocks_range (q3 _ rfl) q4 x hx).1
        omega
    have m2 : ∀ x ∈ addrs a2, WR.heap.size ≤ x := fun x hx => by
      cases a2 with
      | none => simp [addrs] at hx
      | some a =>
        simp only [addrs, List.mem_singleton] at hx
        have := hk2.frm _ rfl
        omega
    have m3 : ∀ x ∈ joinTo fl (fun i => (P2 i).blocks), WR.heap.size ≤ x ∧ ∀ y ∈ addrs a2, y ≠ x := fun x hx => by
      obtain ⟨i, hi, hx⟩ := joinTo_mem.1 hx
      obtain ⟨-, -, q3, q4⟩ := hk2.new i hi
      refine ⟨(blocks_range (hf2 i hi) q4 x hx).1, fun y hy => ?_⟩
      cases a2 with
      | none => simp [addrs] at hy
      | some a =>
        simp only [addrs, List.mem_singleton] at hy
        have := (blocks_range (q3 _ rfl) q4 x hx).1
        omega
    rw [V.blocks, List.nodup_append, List.nodup_append, List.nodup_append]
    refine ⟨n1, ⟨hk1.nod, ⟨n2, hk2.nod, fun x hx y hy => (m3 y hy).2 x hx⟩, fun x hx y hy => ?_⟩, fun x hx y hy => ?_⟩
    · have a := (m1 x hx).1
      rcases List.mem_append.1 hy with hy | hy
      · have := m2 y hy; omega
      · have := (m3 y hy).1; omega
    · rcases List.mem_append.1 hy with hy | hy
      · exact (m1 y hy).2 x hx
      · have a := hr1 x hx
        rcases List.mem_append.1 hy with hy | hy
        · have := m2 y hy; omega
        · have := (m3 y hy).1; omega
end Go.Proofs.YtjbapldlgnlepaaGreatDoor
namespace Go.Proofs.YtjbapldlgnlepaaGreatDoor
open Go.RowKit Go.Deep Go.WideShapes

set_option maxRecDepth 100000 in
set_option maxHeartbeats 2000000 in
theorem mayBe_any (la : Option Addr) (ll lc : Nat) (L : Nat → V) (w : World) (h : Vals w la ll lc L) (ht : Tabs w) :
    Calls Tryz.prog 75 #[.slice la ll lc] w fun e w' => e = .returned (.bool (allB ll (fun i => (L i).check))) ∧ Below w.heap.size w w' := by
  have hlc := h.hlc
  unfold maxLen at hlc
  have HE := Lib.hid (fun i (hi : i < ll) W (hb : Below w.heap.size w W) => And.intro ((h.below hb).el i hi).1 (And.intro ((h.below hb).el i hi).2 (check_any (L i) W ((h.below hb).el i hi).2 (ht.below hb).1)))
  have HT : Hid (∀ i, i < ll → (L i).check = false → allB ll (fun i => (L i).check) = false) := fun i hi he => allB_false hi he
  have HN : Hid (HeldTo ll (fun i => (L i).check) → allB ll (fun i => (L i).check) = true) := fun h => h.all
  generalize allB ll (fun i => (L i).check) = r at HT HN ⊢
  clear h ht
  go_enter Tryz.func75, Tryz.ntmps75
  go_wp2_with fail
  go_loopw [6] (fun i wr => ∃ k : Nat, i = .int .i64 k ∧ k ≤ ll ∧ HeldTo k (fun i => (L i).check) ∧ Below w.heap.size w wr) (fun i _ => ll - (intOf i).toNat)
  case atStart => exact ⟨0, rfl, Nat.zero_le _, HeldTo.zero, Below.refl _ _⟩
  case round =>
    obtain ⟨k, rfl, hk, hnot, hbw⟩ := hrel
    have HH := Lib.hid hnot
    have HB := Lib.hid hbw
    clear hnot hbw
    by_cases hlt : k < ll
    · obtain ⟨⟨b, o, rfl, hat⟩, hin, hcall⟩ := HE.out k hlt wr HB.out
      have hlt' : (k : Int) < (ll : Int) := by omega
      have hk0 : (0 : Int) ≤ (k : Int) := by omega
      have HTk := Lib.hid (HT.out k hlt)
      have HSk := Lib.hid (fun he => HH.out.succ (k := k) (p := fun i => (L i).check) he)
      obtain ⟨x, hx⟩ : ∃ x, L k = x := ⟨_, rfl⟩
      simp only [hx] at hat hin hcall HTk HSk
      clear hx
      cases x with
      | leaf => exact hin.elim
      | mk k3 n3 s3 la3 ll3 lc3 L3 fa3 fl3 fc3 fn3 F3 e3 key3 hk3 =>
      clear hin
      obtain ⟨c0, c1, c2, c3, c4, c5, c6, c7⟩ := at8 hat
      clear hat
      generalize (V.mk k3 n3 s3 la3 ll3 lc3 L3 fa3 fl3 fc3 fn3 F3 e3 key3 hk3).check = q at hcall HTk HSk
      simp only [V.agg, V.cells] at hcall
      have HC := Lib.hid hcall
      clear hcall
      cases q
      · go_wp2_with (go_at_call 16; (with_reducible refine HC.out.mono ?_); rintro x w1 ⟨rfl, hb1⟩)
        go_ret
        exact ⟨by rw [HTk.out (by trivial)]; rfl, HB.out.trans (hb1.mono HB.out.size)⟩
      · go_wp2_with (go_at_call 16; (with_reducible refine HC.out.mono ?_); rintro x w1 ⟨rfl, hb1⟩)
        go_roundw
        case rel => exact ⟨k + 1, by go_num, by omega, HSk.out (by trivial), HB.out.trans (hb1.mono HB.out.size)⟩
        case measure => simp [intOf]; omega
    · obtain rfl : ll = k := by omega
      have HQ := Lib.hid (HN.out HH.out)
      go_wp2_with fail
      go_ret
      exact ⟨by rw [HQ.out]; rfl, HB.out⟩
end Go.Proofs.YtjbapldlgnlepaaGreatDoor
