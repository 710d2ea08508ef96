/-
  Plain: copies of values ('V.twin'), the marks in the room behind their lists ('V.Marks'), and what a list's copy is in memory ('LOk', 'FOk'). No program is imported.
  Conditions: none.
-/
import Derived.Test.YtajmdhcknmmbbaaGreatDoorFrom
import Derived.Test.YtajmdhcknmmbbaaGreatDoorAliveP
import Derived.Test.YtajmdhcknmmbbaaGreatDoorSameP
import Derived.WalkKit
namespace Go.Proofs.YtajmdhcknmmbbaaGreatDoor
open Go.RowKit

/-- Every list takes no more than the reach. -/
def V.Fits : V → Prop
  | .leaf => True
  | .mk _ _ _ _ ll _ L _ fl _ _ F _ _ _ => ll * 112 ≤ 140737488351232 ∧ fl * 128 ≤ 140737488351232 ∧ (∀ i, i < ll → (L i).Fits) ∧ (∀ i, i < fl → (F i).Fits)

/-- The second is a copy of the first. -/
def V.twin : V → V → Prop
  | .mk k n s _ ll _ L _ fl _ fn F e key hk, .mk k' n' s' _ ll' lc' L' _ fl' fc' fn' F' e' key' hk' =>
    (k = k' ∧ n = n' ∧ s = s' ∧ e = e' ∧ key = key' ∧ hk = hk') ∧ (ll = ll' ∧ fl = fl') ∧ (lc' = ll + 1 ∧ fc' = fl + 1) ∧ (∀ i, i < ll → (L i).twin (L' i)) ∧ (∀ i, i < fl → fn i = fn' i ∧ (F i).twin (F' i))
  | _, _ => False

/-- The mark behind a list of values, of fields. -/
def spareV : V := vz 0 0 ⟨#[115, 112, 97, 114, 101]⟩
def spareF : List Value := .string ⟨#[115, 112, 97, 114, 101]⟩ :: (vz 0 0 ⟨#[]⟩).cells

/-- The marks stand. -/
def V.Marks (w : World) : V → Prop
  | .leaf => False
  | .mk _ _ _ la ll _ L fa fl _ _ F _ _ _ => (∃ g, la = some ⟨g, 0, none⟩ ∧ At w g (ll * 8) spareV.cells) ∧ (∃ g, fa = some ⟨g, 0, none⟩ ∧ At w g (fl * 9) spareF) ∧ (∀ i, i < ll → (L i).Marks w) ∧ (∀ i, i < fl → (F i).Marks w)

theorem V.Marks.from {B : Nat} {w w' : World} (hh : ∀ a : Addr, B ≤ a.block → a.block < w.heap.size → w'.cell? a = w.cell? a) : ∀ {v : V}, v.From B → v.Marks w → v.Marks w' := by
  intro v
  induction v with
  | leaf => exact fun h => h.elim
  | mk k n s la ll lc L fa fl fc fn F e key hk ihL ihF =>
    rintro ⟨f1, f2, f3, f4⟩ ⟨⟨g, rfl, h1⟩, ⟨g', rfl, h2⟩, hL, hF⟩
    exact ⟨⟨g, rfl, h1.from (f1 _ rfl) hh⟩, ⟨g', rfl, h2.from (f2 _ rfl) hh⟩, fun i hi => ihL i (f3 i hi) (hL i hi), fun i hi => ihF i (f4 i hi) (hF i hi)⟩

theorem twin_same : ∀ v t : V, v.twin t → v.same t = true := by
  intro v
  induction v with
  | leaf => intro t h; cases t <;> exact h.elim
  | mk k n s la ll lc L fa fl fc fn F e key hk ihL ihF =>
    intro t h
    cases t with
    | leaf => exact h.elim
    | mk k' n' s' la' ll' lc' L' fa' fl' fc' fn' F' e' key' hk' =>
    obtain ⟨⟨rfl, rfl, rfl, rfl, rfl, rfl⟩, ⟨rfl, rfl⟩, -, hL, hF⟩ := h
    simp only [V.same, ownB, decide_true, Bool.true_and, Bool.and_eq_true, allB_true, decide_eq_true_iff]
    exact ⟨fun i hi => ihL i _ (hL i hi), fun i hi => ⟨(hF i hi).1, ihF i _ (hF i hi).2⟩⟩

/-- What one copy is known to be. -/
structure TOk (base : Nat) (W : World) (v t : V) : Prop where
  inn : t.In W
  frm : t.From base
  tw : v.twin t
  mks : t.Marks W

theorem TOk.from {base : Nat} {W W' : World} {v t : V} (hh : ∀ a : Addr, base ≤ a.block → a.block < W.heap.size → W'.cell? a = W.cell? a) (h : TOk base W v t) : TOk base W' v t :=
  ⟨V.In.from hh h.frm h.inn, h.frm, h.tw, V.Marks.from hh h.frm h.mks⟩
theorem TOk.below {base : Nat} {W W' : World} {v t : V} (hb : Below W.heap.size W W') (h : TOk base W v t) : TOk base W' v t := h.from fun _ _ hlt => hb.cell hlt
theorem TOk.mono {base base' : Nat} {W : World} {v t : V} (hb : base' ≤ base) (h : TOk base W v t) : TOk base' W v t := ⟨h.inn, h.frm.mono hb, h.tw, h.mks⟩

/-- The copy of a list of values. -/
structure LOk (base : Nat) (W : World) (g ll : Nat) (L L' : Nat → V) : Prop where
  hg : base ≤ g
  cs : ∀ i, i < ll → At W g (i * 8) (L' i).cells
  ok : ∀ i, i < ll → TOk base W (L i) (L' i)
  spr : At W g (ll * 8) spareV.cells

theorem LOk.from {base : Nat} {W W' : World} {g ll : Nat} {L L' : Nat → V} (hh : ∀ a : Addr, base ≤ a.block → a.block < W.heap.size → W'.cell? a = W.cell? a) (h : LOk base W g ll L L') : LOk base W' g ll L L' :=
  ⟨h.hg, fun i hi => (h.cs i hi).from h.hg hh, fun i hi => (h.ok i hi).from hh, h.spr.from h.hg hh⟩

/-- The copy of a list of fields. -/
structure FOk (base : Nat) (W : World) (g fl : Nat) (fn fn' : Nat → ByteArray) (F F' : Nat → V) : Prop where
  hg : base ≤ g
  cs : ∀ i, i < fl → At W g (i * 9) (.string (fn' i) :: (F' i).cells)
  nm : ∀ i, i < fl → fn i = fn' i
  ok : ∀ i, i < fl → TOk base W (F i) (F' i)
  spr : At W g (fl * 9) spareF

theorem FOk.from {base : Nat} {W W' : World} {g fl : Nat} {fn fn' : Nat → ByteArray} {F F' : Nat → V} (hh : ∀ a : Addr, base ≤ a.block → a.block < W.heap.size → W'.cell? a = W.cell? a) (h : FOk base W g fl fn fn' F F') : FOk base W' g fl fn fn' F F' :=
  ⟨h.hg, fun i hi => (h.cs i hi).from h.hg hh, h.nm, fun i hi => (h.ok i hi).from hh, h.spr.from h.hg hh⟩

/-- Cells of k copies. -/
def flatV : Nat → (Nat → V) → List Value
  | 0, _ => []
  | k + 1, L => flatV k L ++ (L k).cells
def flatF : Nat → (Nat → ByteArray) → (Nat → V) → List Value
  | 0, _, _ => []
  | k + 1, fn, F => flatF k fn F ++ (.string (fn k) :: (F k).cells)

theorem flatV_ext {k : Nat} {L L' : Nat → V} (h : ∀ i, i < k → L i = L' i) : flatV k L = flatV k L' := by
  induction k with
  | zero => rfl
  | succ k ih => rw [flatV, flatV, ih (fun i hi => h i (by omega)), h k (by omega)]
theorem flatF_ext {k : Nat} {fn fn' : Nat → ByteArray} {F F' : Nat → V} (h : ∀ i, i < k → fn i = fn' i ∧ F i = F' i) : flatF k fn F = flatF k fn' F' := by
  induction k with
  | zero => rfl
  | succ k ih => rw [flatF, flatF, ih (fun i hi => h i (by omega)), (h k (by omega)).1, (h k (by omega)).2]

theorem twin_cells {v t : V} (h : v.twin t) : t.cells.length = 8 := by
  cases v <;> cases t <;> first | rfl | exact h.elim

theorem flatV_length {k : Nat} {L : Nat → V} (h : ∀ i, i < k → (L i).cells.length = 8) : (flatV k L).length = k * 8 := by
  induction k with
  | zero => rfl
  | succ k ih => rw [flatV, List.length_append, ih (fun i hi => h i (by omega)), h k (by omega)]; omega
theorem flatF_length {k : Nat} {fn : Nat → ByteArray} {F : Nat → V} (h : ∀ i, i < k → (F i).cells.length = 8) : (flatF k fn F).length = k * 9 := by
  induction k with
  | zero => rfl
  | succ k ih => rw [flatF, List.length_append, ih (fun i hi => h i (by omega)), List.length_cons, h k (by omega)]; omega

theorem flatV_get {k : Nat} {L : Nat → V} (h : ∀ i, i < k → (L i).cells.length = 8) : ∀ i, i < k → ∀ j, j < 8 → (flatV k L)[i * 8 + j]? = (L i).cells[j]? := by
  induction k with
  | zero => exact fun i hi => absurd hi (Nat.not_lt_zero _)
  | succ k ih =>
    intro i hi j hj
    have hl := flatV_length (k := k) (L := L) (fun i hi => h i (by omega))
    rw [flatV]
    rcases Nat.lt_succ_iff_lt_or_eq.1 hi with h1 | rfl
    · rw [List.getElem?_append_left (by omega)]
      exact ih (fun i hi => h i (by omega)) i h1 j hj
    · rw [List.getElem?_append_right (by omega), hl]
      congr 1
      omega
theorem flatF_get {k : Nat} {fn : Nat → ByteArray} {F : Nat → V} (h : ∀ i, i < k → (F i).cells.length = 8) : ∀ i, i < k → ∀ j, j < 9 → (flatF k fn F)[i * 9 + j]? = (Value.string (fn i) :: (F i).cells)[j]? := by
  induction k with
  | zero => exact fun i hi => absurd hi (Nat.not_lt_zero _)
  | succ k ih =>
    intro i hi j hj
    have hl := flatF_length (k := k) (fn := fn) (F := F) (fun i hi => h i (by omega))
    rw [flatF]
    rcases Nat.lt_succ_iff_lt_or_eq.1 hi with h1 | rfl
    · rw [List.getElem?_append_left (by omega)]
      exact ih (fun i hi => h i (by omega)) i h1 j hj
    · rw [List.getElem?_append_right (by omega), hl]
      congr 1
      omega
end Go.Proofs.YtajmdhcknmmbbaaGreatDoor
