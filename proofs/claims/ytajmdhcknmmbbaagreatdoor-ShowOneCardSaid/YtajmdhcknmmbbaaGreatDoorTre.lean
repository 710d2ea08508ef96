/-
  Plain: data of structs and slices that lies in memory, as trees of cells ('T', 'Rep'), whatever their types; lists of rows. No program is imported.
  Conditions: none.
-/
import Derived.Deep.Slices
import Derived.Below
import Derived.Lib.Hide
namespace Go.Proofs.YtajmdhcknmmbbaaGreatDoor
open Go.ChangeShapes Go.WideShapes Go.RowKit Go.Deep

/-- A CELL: a number, a text ..; or a slice of n rows of k cells. -/
inductive T where
  | sc (v : Value)
  | ls (n k : Nat) (row : Nat → Nat → T)

instance : Inhabited T := ⟨.sc undef⟩

/-- What lies in a cell is told by the tree; the slices' blocks are as 'ok' says. -/
def T.Rep (w : World) (ok : Nat → Prop) : T → Value → Prop
  | .sc v, x => x = v
  | .ls n k row, x => ∃ a cap, x = .slice a n cap ∧ n ≤ cap ∧ cap ≤ maxLen ∧ ∀ i, i < n → ∃ b o, a = some ⟨b, o, none⟩ ∧ ok b ∧ b < w.heap.size ∧ ∀ j, j < k → ∃ y, w.cell? ⟨b, o + i * k + j, none⟩ = some y ∧ (row i j).Rep w ok y

theorem T.Rep.keep {w w' : World} {ok ok' : Nat → Prop} (hs : w.heap.size ≤ w'.heap.size) (ho : ∀ b, b < w.heap.size → ok b → ok' b) (hh : ∀ b, ok b → b < w.heap.size → w'.heap[b]? = w.heap[b]?) : ∀ {t : T} {x : Value}, t.Rep w ok x → t.Rep w' ok' x := by
  intro t
  induction t with
  | sc v => exact fun h => h
  | ls n k row ih =>
    rintro x ⟨a, cap, e, h1, h2, h⟩
    refine ⟨a, cap, e, h1, h2, fun i hi => ?_⟩
    obtain ⟨b, o, ea, hB, hb, hc⟩ := h i hi
    refine ⟨b, o, ea, ho b hb hB, Nat.lt_of_lt_of_le hb hs, fun j hj => ?_⟩
    obtain ⟨y, hy, hr⟩ := hc j hj
    exact ⟨y, by rw [World.cell?_of_block (w := w) (hh b hB hb), hy], ih i j hr⟩

/-- Two lists, thing by thing. -/
inductive All2 {α β : Type} (R : α → β → Prop) : List α → List β → Prop
  | nil : All2 R [] []
  | cons {a : α} {b : β} {l : List α} {m : List β} : R a b → All2 R l m → All2 R (a :: l) (b :: m)
theorem All2.length_eq {α β : Type} {R : α → β → Prop} {l : List α} {m : List β} (h : All2 R l m) : l.length = m.length := by
  induction h with
  | nil => rfl
  | cons _ _ ih => simp [ih]
theorem All2.imp {α β : Type} {R S : α → β → Prop} (hi : ∀ a b, R a b → S a b) {l : List α} {m : List β} (h : All2 R l m) : All2 S l m := by
  induction h with
  | nil => exact .nil
  | cons h _ ih => exact .cons (hi _ _ h) ih
theorem All2.append {α β : Type} {R : α → β → Prop} {l k : List α} {m n : List β} (h : All2 R l m) (g : All2 R k n) : All2 R (l ++ k) (m ++ n) := by
  induction h with
  | nil => exact g
  | cons h _ ih => exact .cons h ih
/-- A row of cells. -/
def Row (w : World) (ok : Nat → Prop) (ts : List T) (vs : List Value) : Prop := All2 (T.Rep w ok) ts vs
theorem Row.length {w : World} {ok : Nat → Prop} {ts : List T} {vs : List Value} (h : Row w ok ts vs) : vs.length = ts.length := (All2.length_eq h).symm
theorem Row.keep {w w' : World} {ok ok' : Nat → Prop} (hs : w.heap.size ≤ w'.heap.size) (ho : ∀ b, b < w.heap.size → ok b → ok' b) (hh : ∀ b, ok b → b < w.heap.size → w'.heap[b]? = w.heap[b]?) {ts : List T} {vs : List Value} (h : Row w ok ts vs) : Row w' ok' ts vs :=
  All2.imp (fun _ _ h => h.keep hs ho hh) h
theorem Row.get {ok : Nat → Prop} {w : World} {ts : List T} {vs : List Value} (h : Row w ok ts vs) : ∀ (j : Nat) (_ : j < ts.length), ∃ y, vs[j]? = some y ∧ (ts.getD j default).Rep w ok y := by
  induction h with
  | nil => intro j hj; simp at hj
  | cons h _ ih =>
    intro j hj
    cases j with
    | zero => exact ⟨_, rfl, h⟩
    | succ j => simpa using ih j (by simpa using hj)

/-- The slice of these rows. -/
def ofRows (k : Nat) (l : List (List T)) : T := .ls l.length k (fun i j => (l.getD i []).getD j default)

/-- LISTS OF ROWS in the making: what lies in the rows' cells. -/
def Rows2 (w : World) (ok : Nat → Prop) (k : Nat) (l : List (List T)) (vss : List (List Value)) : Prop := All2 (fun ts vs => ts.length = k ∧ Row w ok ts vs) l vss
theorem Rows2.keep {w w' : World} {ok ok' : Nat → Prop} {k : Nat} (hs : w.heap.size ≤ w'.heap.size) (ho : ∀ b, b < w.heap.size → ok b → ok' b) (hh : ∀ b, ok b → b < w.heap.size → w'.heap[b]? = w.heap[b]?) {l : List (List T)} {vss : List (List Value)} (h : Rows2 w ok k l vss) : Rows2 w' ok' k l vss :=
  All2.imp (fun _ _ h => ⟨h.1, h.2.keep hs ho hh⟩) h
theorem Rows2.snoc {ok : Nat → Prop} {k : Nat} {w : World} {l : List (List T)} {vss : List (List Value)} {ts : List T} {vs : List Value} (h : Rows2 w ok k l vss) (hk : ts.length = k) (hr : Row w ok ts vs) : Rows2 w ok k (l ++ [ts]) (vss ++ [vs]) :=
  All2.append h (.cons ⟨hk, hr⟩ .nil)
theorem Rows2.flat {ok : Nat → Prop} {k : Nat} {w : World} {l : List (List T)} {vss : List (List Value)} (h : Rows2 w ok k l vss) : vss.flatten.length = l.length * k ∧ ∀ i (_ : i < l.length), ∀ j, j < k → ∃ y, vss.flatten[i * k + j]? = some y ∧ ((l.getD i []).getD j default).Rep w ok y := by
  induction h with
  | nil => exact ⟨by simp, fun i hi => by simp at hi⟩
  | @cons ts vs l vss h _ ih =>
    obtain ⟨h1, h2⟩ := h
    have hl := h2.length
    refine ⟨by simp [ih.1, hl, h1, Nat.add_mul]; omega, fun i hi j hj => ?_⟩
    cases i with
    | zero =>
      obtain ⟨y, hy, hr⟩ := h2.get j (by omega)
      refine ⟨y, ?_, by simpa using hr⟩
      rw [List.flatten_cons, List.getElem?_append_left (by omega)]
      simpa using hy
    | succ i =>
      obtain ⟨y, hy, hr⟩ := ih.2 i (by simpa using hi) j hj
      refine ⟨y, ?_, by simpa using hr⟩
      rw [List.flatten_cons, List.getElem?_append_right (by rw [hl, h1, Nat.add_mul]; omega)]
      rw [← hy]
      congr 1
      rw [hl, h1, Nat.add_mul]; omega

theorem tr_lt_of_block {w : World} {b : Nat} {o : Obj} (h : w.heap[b]? = some o) : b < w.heap.size := (Array.getElem?_eq_some_iff.1 h).1

/-- An own row of rows is what the slice of the rows tells. -/
theorem rep_of_own {w : World} {base k : Nat} {ty : TypeId} {v : Value} {l : List (List T)} {vss : List (List Value)} {ok ok' : Nat → Prop} (h : w.ownsRow base ty k v l.length vss.flatten) (hr : Rows2 w ok k l vss) (ho : ∀ b, b < w.heap.size → ok b → ok' b) (hb : ∀ b, base ≤ b → ok' b) : (ofRows k l).Rep w ok' v := by
  rcases h.2 with ⟨hv, h0⟩ | ⟨g, cap, cur, hv, hb', hg, h1, h2, h3⟩
  · exact ⟨none, 0, by rw [hv, h0], by omega, by unfold maxLen; omega, fun i hi => by omega⟩
  · refine ⟨_, cap, hv, h1, h2, fun i hi => ⟨g, 0, rfl, hb g hb', tr_lt_of_block hg, fun j hj => ?_⟩⟩
    obtain ⟨y, hy, hrep⟩ := hr.flat.2 i hi j hj
    subst hv
    refine ⟨y, ?_, hrep.keep (Nat.le_refl _) ho (fun _ _ _ => rfl)⟩
    have := h.cells (g := g) rfl (i * k + j) y hy
    rw [add_plain, ← Nat.add_assoc] at this
    exact this
end Go.Proofs.YtajmdhcknmmbbaaGreatDoor
