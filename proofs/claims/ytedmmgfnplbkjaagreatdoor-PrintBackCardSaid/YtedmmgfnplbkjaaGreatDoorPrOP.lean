/-
  An argument of type api.Program opens into a tree that lies in memory, well made, its numbers in range ('op_prog').
  Conditions: none.
  Walks: ProgramSize and what it calls, on a program that lies as a tree: a number (which one is left open), old memory as it was ('program_size'); Beyond: a Boolean, left open ('beyond_open').
  Conditions: none but the tree's.
-/
import Derived.Test.YtedmmgfnplbkjaaGreatDoorPrT
import Derived.Test.YtedmmgfnplbkjaaGreatDoorParRo
import Derived.ChangeArms
import Derived.OpenShut
namespace Go.Proofs.YtedmmgfnplbkjaaGreatDoor.PR
set_option linter.unusedVariables false
set_option linter.unusedSimpArgs false
open Go.Proofs.YtedmmgfnplbkjaaGreatDoor Go.RowKit Go.Deep G
theorem op_add (b o i : Nat) : (⟨b, o, none⟩ : Addr).add i = ⟨b, o + i, none⟩ := by unfold Addr.add; split <;> simp_all
theorem op_cells? {w : World} {base : Nat} {a : Addr} {n : Nat} {cs : List Value} (hn : 0 < n) (h : w.cells? base a n = some cs) : ∃ b o, a = ⟨b, o, none⟩ ∧ (∀ i, i < cs.length → w.cell? ⟨b, o + i, none⟩ = cs[i]?) ∧ cs.length = n := by
  obtain ⟨_, hlen, hcell⟩ := World.cells?_some h
  obtain ⟨b, o, spot⟩ := a
  have h0 := hcell 0 hn
  rw [List.getElem?_eq_getElem (by omega)] at h0
  have hspot : spot = none := by simpa [Addr.add] using World.cell?_spot h0
  subst hspot
  refine ⟨b, o, rfl, fun i hi => ?_, hlen⟩
  have := hcell i (by omega)
  rwa [op_add] at this
theorem op_i64 {n : Int} (h : (Lit.int .i64 n).wf = true) : R64 n := by
  simp [Lit.wf, IntKind.min, IntKind.max, IntKind.signed, IntKind.bits] at h
  exact ⟨by omega, by omega⟩
def Opens (w : World) (K : Nat) (WX : (Nat → T) → Prop) (cs : List Value) : Prop := ∃ row : Nat → T, cs.length = K ∧ (∀ j, j < K → ∃ y, cs[j]? = some y ∧ (row j).Rep w yes y) ∧ WX row ∧ ∀ j, j < K → Rg (row j)
section
variable {H : Type} {enc : TypeId × Value → H} {w : World} {base : Nat} {held : Bool} {spare : Nat → Bool}
abbrev Tread (enc : TypeId × Value → H) (w : World) (base : Nat) (spare : Nat → Bool) (held : Bool) (n : Nat) (t : TypeId) (cs : List Value) (x : DataW H × List MemPlace) : Prop := DataW.trod enc Tryz.prog w base spare held n t cs = some x
theorem col_u8 {n : Nat} {t : TypeId} {v : Value} {x : DataW H × List MemPlace} (ht : Tryz.prog.underlying t = some (.int .u8)) (h : Tread enc w base spare held n t [v] x) : ∃ t' : T, I8 t' ∧ t'.Rep w yes v ∧ Rg t' := by
  obtain ⟨k, hv, -, wk⟩ := DataW.trod_int ht h
  simp at hv
  subst hv
  exact ⟨.sc (.int .u8 k), ⟨k, rfl⟩, rfl, rg_u8 k⟩
theorem col_i64 {n : Nat} {t : TypeId} {v : Value} {x : DataW H × List MemPlace} (ht : Tryz.prog.underlying t = some (.int .i64)) (h : Tread enc w base spare held n t [v] x) : ∃ t' : T, I64 t' ∧ t'.Rep w yes v ∧ Rg t' := by
  obtain ⟨k, hv, -, wk⟩ := DataW.trod_int ht h
  simp at hv
  subst hv
  exact ⟨.sc (.int .i64 k), ⟨k, rfl⟩, rfl, rg_i64 (op_i64 wk)⟩
theorem col_st {n : Nat} {t : TypeId} {v : Value} {x : DataW H × List MemPlace} (ht : Tryz.prog.underlying t = some .string) (h : Tread enc w base spare held n t [v] x) : ∃ t' : T, St t' ∧ t'.Rep w yes v ∧ Rg t' := by
  obtain ⟨s, hv, -, ws⟩ := DataW.trod_string ht h
  simp at hv
  subst hv
  exact ⟨.sc (.string s), ⟨s, rfl⟩, rfl, fun n h => by cases h⟩
theorem col_sl {n K : Nat} {t e : TypeId} {v : Value} {x : DataW H × List MemPlace} {WX : (Nat → T) → Prop} (hK : 0 < K) (ht : Tryz.prog.underlying t = some (.slice e)) (hc : Tryz.prog.cellsOf e = K) (h : Tread enc w base spare held n t [v] x)
    (ih : ∀ m, m < n → ∀ cs x, Tread enc w base spare held m e cs x → Opens w K WX cs) : ∃ (k : Nat) (row : Nat → Nat → T), (∀ i, i < k → WX (row i)) ∧ (T.ls k K row).Rep w yes v ∧ Rg (.ls k K row) := by
  rcases DataW.trod_slice ht h with ⟨h0, -⟩ | ⟨a, len, cap, elems, rest, n', hn', hcs, -, hb, hlc, hm, hle, hel, -, -⟩
  · simp at h0
    subst h0
    exact ⟨0, fun _ _ => default, fun i hi => absurd hi (Nat.not_lt_zero _), ⟨none, 0, rfl, Nat.le_refl _, by decide, fun i hi => absurd hi (Nat.not_lt_zero _)⟩, fun i hi => absurd hi (Nat.not_lt_zero _)⟩
  · simp at hcs
    subst hcs
    have hz : 0 < len → a.spot = none := fun hi => by
      have h1 := hel 0 hi
      rw [List.getElem?_eq_getElem (by omega)] at h1
      obtain ⟨cs', hc1, hc2⟩ := Option.bind_eq_some_iff.1 h1
      rw [hc] at hc1
      obtain ⟨b, o', ha, -⟩ := op_cells? hK hc1
      obtain ⟨b2, o, spot⟩ := a
      simp [Addr.add] at ha
      exact ha.2.2
    have hall : ∀ i, i < len → ∃ row : Nat → T, (∃ b o, a = ⟨b, o, none⟩ ∧ b < w.heap.size ∧ ∀ j, j < K → ∃ y, w.cell? ⟨b, o + i * K + j, none⟩ = some y ∧ (row j).Rep w yes y) ∧ WX row ∧ ∀ j, j < K → Rg (row j) := fun i hi => by
      have h1 := hel i hi
      rw [List.getElem?_eq_getElem (by omega)] at h1
      obtain ⟨cs', hc1, hc2⟩ := Option.bind_eq_some_iff.1 h1
      rw [hc] at hc1
      obtain ⟨row, hl, hcells, hw, hr⟩ := ih n' (by omega) cs' _ hc2
      obtain ⟨b, o', ha, hat, -⟩ := op_cells? hK hc1
      obtain ⟨b2, o, spot⟩ := a
      have hs : spot = none ∧ b2 = b ∧ o + i * K = o' := by
        obtain rfl : spot = none := hz (by omega)
        rw [op_add] at ha
        simp only [Addr.mk.injEq, and_true] at ha
        exact ⟨rfl, ha.1, ha.2⟩
      obtain ⟨rfl, rfl, rfl⟩ := hs
      refine ⟨row, ⟨b2, o, rfl, ?_, fun j hj => ?_⟩, hw, hr⟩
      · obtain ⟨y, hy, -⟩ := hcells 0 hK
        have := hat 0 (by omega)
        rw [hy] at this
        exact World.block_lt_of_cell? _ _ this
      · obtain ⟨y, hy, hrep⟩ := hcells j hj
        exact ⟨y, by rw [hat j (by omega)]; exact hy, hrep⟩
    obtain ⟨row, hrow⟩ : ∃ row : Nat → Nat → T, ∀ i, i < len → (∃ b o, a = ⟨b, o, none⟩ ∧ b < w.heap.size ∧ ∀ j, j < K → ∃ y, w.cell? ⟨b, o + i * K + j, none⟩ = some y ∧ (row i j).Rep w yes y) ∧ WX (row i) ∧ ∀ j, j < K → Rg (row i j) :=
      ⟨fun i => if hi : i < len then Classical.choose (hall i hi) else fun _ => default, fun i hi => by simp only [hi, dif_pos]; exact Classical.choose_spec (hall i hi)⟩
    refine ⟨len, row, fun i hi => (hrow i hi).2.1, ⟨some a, cap, rfl, hlc, hm, fun i hi => ?_⟩, fun i hi j hj => (hrow i hi).2.2 j hj⟩
    obtain ⟨⟨b, o, rfl, hlt, hc⟩, -⟩ := hrow i hi
    exact ⟨b, o, rfl, trivial, hlt, hc⟩
theorem op_text {n : Nat} {cs : List Value} {x : DataW H × List MemPlace} (h : Tread enc w base spare held n 9 cs x) : Opens w 1 (fun row => St (row 0)) cs := by
  obtain ⟨s, hv, -, ws⟩ := DataW.trod_string Tryz.underlying9 h
  subst hv
  refine ⟨fun _ => .sc (.string s), rfl, fun j hj => ?_, ⟨s, rfl⟩, fun j _ n h => by cases h⟩
  obtain rfl : j = 0 := by omega
  exact ⟨_, rfl, rfl⟩
theorem cE : Tryz.prog.cellsOf 42 = 10 := by kernel_rfl
theorem cA : Tryz.prog.cellsOf 112 = 12 := by kernel_rfl
theorem cS : Tryz.prog.cellsOf 55 = 17 := by kernel_rfl
theorem cC : Tryz.prog.cellsOf 46 = 13 := by kernel_rfl
theorem cT : Tryz.prog.cellsOf 9 = 1 := by kernel_rfl
theorem cKE : Tryz.prog.cellsOf 36 = 1 := by kernel_rfl
theorem cKL : Tryz.prog.cellsOf 39 = 1 := by kernel_rfl
theorem cKA : Tryz.prog.cellsOf 110 = 1 := by kernel_rfl
theorem cKS : Tryz.prog.cellsOf 53 = 1 := by kernel_rfl
theorem cI : Tryz.prog.cellsOf 2 = 1 := by kernel_rfl
theorem cLE : Tryz.prog.cellsOf 37 = 1 := by kernel_rfl
theorem cLA : Tryz.prog.cellsOf 40 = 1 := by kernel_rfl
theorem cLS : Tryz.prog.cellsOf 44 = 1 := by kernel_rfl
theorem cLT : Tryz.prog.cellsOf 38 = 1 := by kernel_rfl
theorem wf_of0 {k : Nat} {row : Nat → Nat → T} (h : ∀ i, i < k → WE (row i) 0) : Wf 0 (.ls k 10 row) := (wf0 _ _ _).2 ⟨rfl, h⟩
theorem wf_of1 {k : Nat} {row : Nat → Nat → T} (h : ∀ i, i < k → WA (row i)) : Wf 1 (.ls k 12 row) := (wf1 _ _ _).2 ⟨rfl, h⟩
theorem wf_of2 {k : Nat} {row : Nat → Nat → T} (h : ∀ i, i < k → WS (row i)) : Wf 2 (.ls k 17 row) := (wf2 _ _ _).2 ⟨rfl, h⟩
theorem wf_of3 {k : Nat} {row : Nat → Nat → T} (h : ∀ i, i < k → St (row i 0)) : Wf 3 (.ls k 1 row) := (wf3 _ _ _).2 ⟨rfl, h⟩
theorem op_fld {fs : Array Field} {m : Nat} {cs : List Value} {xs : List (DataW H × List MemPlace)} (hf : ∀ (i : Nat) (f : Field), fs[i]? = some f → DataW.trod enc Tryz.prog w base spare held m f.type ((cs.drop f.offset).take (Tryz.prog.cellsOf f.type)) = xs[i]?) (i : Nat) {nm tg pk : String} {ty o bo K : Nat} {em : Bool} (h : fs[i]? = some ⟨nm, ty, o, em, tg, pk, bo⟩) (hK : Tryz.prog.cellsOf ty = K) :
    DataW.trod enc Tryz.prog w base spare held m ty ((cs.drop o).take K) = xs[i]? := by
  have := hf i _ h
  simp only [hK] at this
  exact this
def OpE (enc : TypeId × Value → H) (w : World) (base : Nat) (spare : Nat → Bool) (held : Bool) (n : Nat) : Prop := ∀ cs x, Tread enc w base spare held n 42 cs x → Opens w 10 (fun row => WE row 0) cs
def OpA (enc : TypeId × Value → H) (w : World) (base : Nat) (spare : Nat → Bool) (held : Bool) (n : Nat) : Prop := ∀ cs x, Tread enc w base spare held n 112 cs x → Opens w 12 WA cs
def OpS (enc : TypeId × Value → H) (w : World) (base : Nat) (spare : Nat → Bool) (held : Bool) (n : Nat) : Prop := ∀ cs x, Tread enc w base spare held n 55 cs x → Opens w 17 WS cs
set_option maxRecDepth 100000 in
set_option maxHeartbeats 2000000 in
theorem op_expr (n : Nat) (ih : ∀ m, m < n → OpE enc w base spare held m ∧ OpA enc w base spare held m) : OpE enc w base spare held n := by
  intro cs x h
  obtain ⟨xs, m, rfl, rfl, hl, hlen, hf⟩ := DataW.trod_struct Tryz.underlying42 h
  rw [cE] at hl
  match xs, hlen, cs, hl with
  | [x0, x1, x2, x3, x4, x5, x6, x7, x8, x9], _, [v0, v1, v2, v3, v4, v5, v6, v7, v8, v9], _ =>
    have g0 := op_fld hf 0 rfl (by exact cKE : _ = _)
    have g1 := op_fld hf 1 rfl (by exact cI : _ = _)
    have g2 := op_fld hf 2 rfl (by exact cT : _ = _)
    have g3 := op_fld hf 3 rfl (by exact cLE : _ = _)
    have g4 := op_fld hf 4 rfl (by exact cLT : _ = _)
    have g5 := op_fld hf 5 rfl (by exact cLE : _ = _)
    have g6 := op_fld hf 6 rfl (by exact cKL : _ = _)
    have g7 := op_fld hf 7 rfl (by exact cLE : _ = _)
    have g8 := op_fld hf 8 rfl (by exact cLA : _ = _)
    have g9 := op_fld hf 9 rfl (by exact cT : _ = _)
    clear hf
    obtain ⟨t0, a0, b0, c0⟩ := col_u8 Tryz.underlying36 g0
    obtain ⟨t1, a1, b1, c1⟩ := col_i64 Tryz.underlying2 g1
    obtain ⟨t2, a2, b2, c2⟩ := col_st Tryz.underlying9 g2
    obtain ⟨k3, r3, a3, b3, c3⟩ := col_sl (WX := fun row => WE row 0) (by decide) Tryz.underlying37 cE g3 (fun m' hm => (ih m' (by omega)).1)
    obtain ⟨k4, r4, a4, b4, c4⟩ := col_sl (WX := fun row => St (row 0)) (by decide) Tryz.underlying38 cT g4 (fun m' hm cs x h => op_text h)
    obtain ⟨k5, r5, a5, b5, c5⟩ := col_sl (WX := fun row => WE row 0) (by decide) Tryz.underlying37 cE g5 (fun m' hm => (ih m' (by omega)).1)
    obtain ⟨t6, a6, b6, c6⟩ := col_u8 Tryz.underlying39 g6
    obtain ⟨k7, r7, a7, b7, c7⟩ := col_sl (WX := fun row => WE row 0) (by decide) Tryz.underlying37 cE g7 (fun m' hm => (ih m' (by omega)).1)
    obtain ⟨k8, r8, a8, b8, c8⟩ := col_sl (WX := WA) (by decide) Tryz.underlying40 cA g8 (fun m' hm => (ih m' (by omega)).2)
    obtain ⟨t9, a9, b9, c9⟩ := col_st Tryz.underlying9 g9
    refine ⟨at_ [t0, t1, t2, .ls k3 10 r3, .ls k4 1 r4, .ls k5 10 r5, t6, .ls k7 10 r7, .ls k8 12 r8, t9], rfl, fun j hj => ?_, ⟨a0, a1, a2, wf_of0 a3, wf_of3 a4, wf_of0 a5, a6, wf_of0 a7, wf_of1 a8, a9⟩, fun j hj => ?_⟩
    · exact match j, hj with
        | 0, _ => ⟨_, rfl, b0⟩ | 1, _ => ⟨_, rfl, b1⟩ | 2, _ => ⟨_, rfl, b2⟩ | 3, _ => ⟨_, rfl, b3⟩ | 4, _ => ⟨_, rfl, b4⟩ | 5, _ => ⟨_, rfl, b5⟩ | 6, _ => ⟨_, rfl, b6⟩ | 7, _ => ⟨_, rfl, b7⟩ | 8, _ => ⟨_, rfl, b8⟩ | 9, _ => ⟨_, rfl, b9⟩
        | n + 10, h => absurd h (by omega)
    · exact match j, hj with
        | 0, _ => c0 | 1, _ => c1 | 2, _ => c2 | 3, _ => c3 | 4, _ => c4 | 5, _ => c5 | 6, _ => c6 | 7, _ => c7 | 8, _ => c8 | 9, _ => c9
        | n + 10, h => absurd h (by omega)
theorem sub_get {cs es : List Value} {o K : Nat} (he : (cs.drop o).take K = es) {j : Nat} (hj : j < K) : es[j]? = cs[o + j]? := by
  subst he
  rw [List.getElem?_take_of_lt hj, List.getElem?_drop]
set_option maxRecDepth 100000 in
set_option maxHeartbeats 2000000 in
theorem op_act (n : Nat) (ih : ∀ m, m < n → OpE enc w base spare held m) : OpA enc w base spare held n := by
  intro cs x h
  obtain ⟨xs, m, rfl, rfl, hl, hlen, hf⟩ := DataW.trod_struct Tryz.underlying112 h
  rw [cA] at hl
  have g0 := op_fld hf 0 rfl (by exact cKA : _ = _)
  have g1 := op_fld hf 1 rfl (by exact cT : _ = _)
  have g2 := op_fld hf 2 rfl (by exact cE : _ = _)
  clear hf
  match xs, hlen with
  | [x0, x1, x2], _ =>
    obtain ⟨row, hel, hec, hew, her⟩ := ih m (by omega) _ _ g2
    obtain ⟨v0, hv0⟩ : ∃ v, cs[0]? = some v := ⟨_, List.getElem?_eq_getElem (by omega)⟩
    obtain ⟨v1, hv1⟩ : ∃ v, cs[1]? = some v := ⟨_, List.getElem?_eq_getElem (by omega)⟩
    have e0 : (cs.drop 0).take 1 = [v0] := by
      match cs, hl with
      | a :: l, _ => simp at hv0; simp [hv0]
    have e1 : (cs.drop 1).take 1 = [v1] := by
      match cs, hl with
      | a :: b :: l, _ => simp at hv1; simp [hv1]
    replace g0 : DataW.trod enc Tryz.prog w base spare held m 110 ((cs.drop 0).take 1) = some x0 := g0
    replace g1 : DataW.trod enc Tryz.prog w base spare held m 9 ((cs.drop 1).take 1) = some x1 := g1
    rw [e0] at g0
    rw [e1] at g1
    obtain ⟨t0, a0, b0, c0⟩ := col_u8 Tryz.underlying110 g0
    obtain ⟨t1, a1, b1, c1⟩ := col_st Tryz.underlying9 g1
    refine ⟨fun j => match j with | 0 => t0 | 1 => t1 | j + 2 => row j, hl, fun j hj => ?_, ⟨a0, a1, hew⟩, fun j hj => ?_⟩
    · match j, hj with
      | 0, _ => exact ⟨v0, hv0, b0⟩
      | 1, _ => exact ⟨v1, hv1, b1⟩
      | j + 2, hj =>
        obtain ⟨y, hy, hr⟩ := hec j (by omega)
        exact ⟨y, by rw [← hy, sub_get rfl (by omega), Nat.add_comm], hr⟩
    · match j, hj with
      | 0, _ => exact c0
      | 1, _ => exact c1
      | j + 2, hj => exact her j (by omega)
theorem op_ea : ∀ n, OpE enc w base spare held n ∧ OpA enc w base spare held n := by
  intro n
  induction n using Nat.strongRecOn with
  | _ n ih => exact ⟨op_expr n ih, op_act n fun m hm => (ih m hm).1⟩
set_option maxRecDepth 100000 in
set_option maxHeartbeats 2000000 in
theorem op_stmt : ∀ n, OpS enc w base spare held n := by
  intro n
  induction n using Nat.strongRecOn with
  | _ n ih =>
  intro cs x h
  obtain ⟨xs, m, rfl, rfl, hl, hlen, hf⟩ := DataW.trod_struct Tryz.underlying55 h
  rw [cS] at hl
  have g0 := op_fld hf 0 rfl (by exact cKS : _ = _)
  have g1 := op_fld hf 1 rfl (by exact cT : _ = _)
  have g2 := op_fld hf 2 rfl (by exact cT : _ = _)
  have g3 := op_fld hf 3 rfl (by exact cE : _ = _)
  have g4 := op_fld hf 4 rfl (by exact cLE : _ = _)
  have g5 := op_fld hf 5 rfl (by exact cLA : _ = _)
  have g6 := op_fld hf 6 rfl (by exact cLA : _ = _)
  have g7 := op_fld hf 7 rfl (by exact cLS : _ = _)
  clear hf
  match xs, hlen with
  | [x0, x1, x2, x3, x4, x5, x6, x7], _ =>
    obtain ⟨row, hel, hec, hew, her⟩ := (op_ea m).1 _ _ g3
    match cs, hl with
    | [v0, v1, v2, v3, v4, v5, v6, v7, v8, v9, v10, v11, v12, v13, v14, v15, v16], _ =>
      obtain ⟨t0, a0, b0, c0⟩ := col_u8 Tryz.underlying53 g0
      obtain ⟨t1, a1, b1, c1⟩ := col_st Tryz.underlying9 g1
      obtain ⟨t2, a2, b2, c2⟩ := col_st Tryz.underlying9 g2
      obtain ⟨k4, r4, a4, b4, c4⟩ := col_sl (WX := fun row => WE row 0) (by decide) Tryz.underlying37 cE g4 (fun m' hm => (op_ea m').1)
      obtain ⟨k5, r5, a5, b5, c5⟩ := col_sl (WX := WA) (by decide) Tryz.underlying40 cA g5 (fun m' hm => (op_ea m').2)
      obtain ⟨k6, r6, a6, b6, c6⟩ := col_sl (WX := WA) (by decide) Tryz.underlying40 cA g6 (fun m' hm => (op_ea m').2)
      obtain ⟨k7, r7, a7, b7, c7⟩ := col_sl (WX := WS) (by decide) Tryz.underlying44 cS g7 (fun m' hm => ih m' (by omega))
      have hec' : ∀ j, j < 10 → ∃ y, [v3, v4, v5, v6, v7, v8, v9, v10, v11, v12][j]? = some y ∧ (row j).Rep w yes y := hec
      refine ⟨fun j => match j with | 0 => t0 | 1 => t1 | 2 => t2 | 13 => .ls k4 10 r4 | 14 => .ls k5 12 r5 | 15 => .ls k6 12 r6 | 16 => .ls k7 17 r7 | j + 3 => row j, rfl, fun j hj => ?_, ⟨a0, a1, a2, hew, wf_of0 a4, wf_of1 a5, wf_of1 a6, wf_of2 a7⟩, fun j hj => ?_⟩
      · exact match j, hj with
          | 0, _ => ⟨_, rfl, b0⟩ | 1, _ => ⟨_, rfl, b1⟩ | 2, _ => ⟨_, rfl, b2⟩ | 13, _ => ⟨_, rfl, b4⟩ | 14, _ => ⟨_, rfl, b5⟩ | 15, _ => ⟨_, rfl, b6⟩ | 16, _ => ⟨_, rfl, b7⟩
          | 3, _ => hec' 0 (by decide) | 4, _ => hec' 1 (by decide) | 5, _ => hec' 2 (by decide) | 6, _ => hec' 3 (by decide) | 7, _ => hec' 4 (by decide) | 8, _ => hec' 5 (by decide) | 9, _ => hec' 6 (by decide) | 10, _ => hec' 7 (by decide) | 11, _ => hec' 8 (by decide) | 12, _ => hec' 9 (by decide)
          | n + 17, h => absurd h (by omega)
      · exact match j, hj with
          | 0, _ => c0 | 1, _ => c1 | 2, _ => c2 | 13, _ => c4 | 14, _ => c5 | 15, _ => c6 | 16, _ => c7
          | 3, _ => her 0 (by decide) | 4, _ => her 1 (by decide) | 5, _ => her 2 (by decide) | 6, _ => her 3 (by decide) | 7, _ => her 4 (by decide) | 8, _ => her 5 (by decide) | 9, _ => her 6 (by decide) | 10, _ => her 7 (by decide) | 11, _ => her 8 (by decide) | 12, _ => her 9 (by decide)
          | n + 17, h => absurd h (by omega)
set_option maxRecDepth 100000 in
set_option maxHeartbeats 2000000 in
theorem op_comp (n : Nat) {cs : List Value} {x : DataW H × List MemPlace} (h : Tread enc w base spare held n 46 cs x) : Opens w 13 WC cs := by
  obtain ⟨xs, m, rfl, rfl, hl, hlen, hf⟩ := DataW.trod_struct Tryz.underlying46 h
  rw [cC] at hl
  have g0 := op_fld hf 0 rfl (by exact cT : _ = _)
  have g1 := op_fld hf 1 rfl (by exact cT : _ = _)
  have g2 := op_fld hf 2 rfl (by exact cLS : _ = _)
  have g3 := op_fld hf 3 rfl (by exact cE : _ = _)
  clear hf
  match xs, hlen with
  | [x0, x1, x2, x3], _ =>
    obtain ⟨row, hel, hec, hew, her⟩ := (op_ea m).1 _ _ g3
    match cs, hl with
    | [v0, v1, v2, v3, v4, v5, v6, v7, v8, v9, v10, v11, v12], _ =>
      obtain ⟨t0, a0, b0, c0⟩ := col_st Tryz.underlying9 g0
      obtain ⟨t1, a1, b1, c1⟩ := col_st Tryz.underlying9 g1
      obtain ⟨k2, r2, a2, b2, c2⟩ := col_sl (WX := WS) (by decide) Tryz.underlying44 cS g2 (fun m' hm => op_stmt m')
      have hec' : ∀ j, j < 10 → ∃ y, [v3, v4, v5, v6, v7, v8, v9, v10, v11, v12][j]? = some y ∧ (row j).Rep w yes y := hec
      refine ⟨fun j => match j with | 0 => t0 | 1 => t1 | 2 => .ls k2 17 r2 | j + 3 => row j, rfl, fun j hj => ?_, ⟨a0, a1, wf_of2 a2, hew⟩, fun j hj => ?_⟩
      · exact match j, hj with
          | 0, _ => ⟨_, rfl, b0⟩ | 1, _ => ⟨_, rfl, b1⟩ | 2, _ => ⟨_, rfl, b2⟩
          | 3, _ => hec' 0 (by decide) | 4, _ => hec' 1 (by decide) | 5, _ => hec' 2 (by decide) | 6, _ => hec' 3 (by decide) | 7, _ => hec' 4 (by decide) | 8, _ => hec' 5 (by decide) | 9, _ => hec' 6 (by decide) | 10, _ => hec' 7 (by decide) | 11, _ => hec' 8 (by decide) | 12, _ => hec' 9 (by decide)
          | n + 13, h => absurd h (by omega)
      · exact match j, hj with
          | 0, _ => c0 | 1, _ => c1 | 2, _ => c2
          | 3, _ => her 0 (by decide) | 4, _ => her 1 (by decide) | 5, _ => her 2 (by decide) | 6, _ => her 3 (by decide) | 7, _ => her 4 (by decide) | 8, _ => her 5 (by decide) | 9, _ => her 6 (by decide) | 10, _ => her 7 (by decide) | 11, _ => her 8 (by decide) | 12, _ => her 9 (by decide)
          | n + 13, h => absurd h (by omega)
theorem op_prog (n : Nat) {v : Value} {x : DataW H × List MemPlace} (h : Tread enc w base spare held n 23 [v] x) : ∃ (k : Nat) (row : Nat → Nat → T), (∀ i, i < k → WC (row i)) ∧ (T.ls k 13 row).Rep w yes v ∧ Rg (.ls k 13 row) :=
  col_sl (WX := WC) (by decide) Tryz.underlying23 cC h (fun m' hm cs x h => op_comp m' h)
end
end Go.Proofs.YtedmmgfnplbkjaaGreatDoor.PR
namespace Go.Proofs.YtedmmgfnplbkjaaGreatDoor.PR
set_option linter.unusedVariables false
set_option linter.unusedSimpArgs false
open Go.Proofs.YtedmmgfnplbkjaaGreatDoor Go.RowKit G
theorem size_low {W : World} (O : Obj) : Below W.heap.size W (W.alloc O) := (Below.refl _ _).alloc (Nat.le_refl _) _
def qellsA (row : Nat → T) : List T := [row 0, row 1, row 2, row 3, row 4, row 5, row 6, row 7, row 8, row 9, row 10, row 11]
def qellsS (row : Nat → T) : List T := [row 0, row 1, row 2, row 3, row 4, row 5, row 6, row 7, row 8, row 9, row 10, row 11, row 12, row 13, row 14, row 15, row 16]
def qellsC (row : Nat → T) : List T := [row 0, row 1, row 2, row 3, row 4, row 5, row 6, row 7, row 8, row 9, row 10, row 11, row 12]
theorem oneE {row : Nat → T} {o : Nat} {w : World} {ok : Nat → Prop} {vs : List Value} (hw : WE row o) (h : Row w ok (cellsE row o) vs) :
    ∃ (c0 : Int) (c1 : Int) (c2 : ByteArray) (a3 : Option Addr) (n3 p3 : Nat) (a4 : Option Addr) (n4 p4 : Nat) (a5 : Option Addr) (n5 p5 : Nat) (c6 : Int) (a7 : Option Addr) (n7 p7 : Nat) (a8 : Option Addr) (n8 p8 : Nat) (c9 : ByteArray), vs = [.int .u8 c0, .int .i64 c1, .string c2, .slice a3 n3 p3, .slice a4 n4 p4, .slice a5 n5 p5, .int .u8 c6, .slice a7 n7 p7, .slice a8 n8 p8, .string c9] ∧ (row (o + 3)).Rep w ok (.slice a3 n3 p3) ∧ (row (o + 4)).Rep w ok (.slice a4 n4 p4) ∧ (row (o + 5)).Rep w ok (.slice a5 n5 p5) ∧ (row (o + 7)).Rep w ok (.slice a7 n7 p7) ∧ (row (o + 8)).Rep w ok (.slice a8 n8 p8) := by
  obtain ⟨h0, h1, h2, h3, h4, h5, h6, h7, h8, h9⟩ := hw
  obtain ⟨y0, _, rfl, g0, h⟩ := row_inv h
  obtain ⟨y1, _, rfl, g1, h⟩ := row_inv h
  obtain ⟨y2, _, rfl, g2, h⟩ := row_inv h
  obtain ⟨y3, _, rfl, g3, h⟩ := row_inv h
  obtain ⟨y4, _, rfl, g4, h⟩ := row_inv h
  obtain ⟨y5, _, rfl, g5, h⟩ := row_inv h
  obtain ⟨y6, _, rfl, g6, h⟩ := row_inv h
  obtain ⟨y7, _, rfl, g7, h⟩ := row_inv h
  obtain ⟨y8, _, rfl, g8, h⟩ := row_inv h
  obtain ⟨y9, _, rfl, g9, h⟩ := row_inv h
  cases h
  obtain ⟨c0, rfl, e0⟩ := i8_rep h0 g0
  obtain ⟨c1, rfl, e1⟩ := i64_rep h1 g1
  obtain ⟨c2, rfl, e2⟩ := st_rep h2 g2
  obtain ⟨a3, n3, p3, rfl⟩ := wf_rep h3 g3
  obtain ⟨a4, n4, p4, rfl⟩ := wf_rep h4 g4
  obtain ⟨a5, n5, p5, rfl⟩ := wf_rep h5 g5
  obtain ⟨c6, rfl, e6⟩ := i8_rep h6 g6
  obtain ⟨a7, n7, p7, rfl⟩ := wf_rep h7 g7
  obtain ⟨a8, n8, p8, rfl⟩ := wf_rep h8 g8
  obtain ⟨c9, rfl, e9⟩ := st_rep h9 g9
  exact ⟨c0, c1, c2, a3, n3, p3, a4, n4, p4, a5, n5, p5, c6, a7, n7, p7, a8, n8, p8, c9, rfl, g3, g4, g5, g7, g8⟩
theorem oneA {row : Nat → T} {w : World} {ok : Nat → Prop} {vs : List Value} (hw : WA row) (h : Row w ok (qellsA row) vs) :
    ∃ (c0 : Int) (c1 : ByteArray) (c2 : Int) (c3 : Int) (c4 : ByteArray) (a5 : Option Addr) (n5 p5 : Nat) (a6 : Option Addr) (n6 p6 : Nat) (a7 : Option Addr) (n7 p7 : Nat) (c8 : Int) (a9 : Option Addr) (n9 p9 : Nat) (a10 : Option Addr) (n10 p10 : Nat) (c11 : ByteArray), vs = [.int .u8 c0, .string c1, .int .u8 c2, .int .i64 c3, .string c4, .slice a5 n5 p5, .slice a6 n6 p6, .slice a7 n7 p7, .int .u8 c8, .slice a9 n9 p9, .slice a10 n10 p10, .string c11] ∧ Row w ok (cellsE row 2) [.int .u8 c2, .int .i64 c3, .string c4, .slice a5 n5 p5, .slice a6 n6 p6, .slice a7 n7 p7, .int .u8 c8, .slice a9 n9 p9, .slice a10 n10 p10, .string c11] := by
  obtain ⟨h0, h1, h2, h3, h4, h5, h6, h7, h8, h9, h10, h11⟩ := hw
  obtain ⟨y0, _, rfl, g0, h⟩ := row_inv h
  obtain ⟨y1, _, rfl, g1, h⟩ := row_inv h
  obtain ⟨y2, _, rfl, g2, h⟩ := row_inv h
  obtain ⟨y3, _, rfl, g3, h⟩ := row_inv h
  obtain ⟨y4, _, rfl, g4, h⟩ := row_inv h
  obtain ⟨y5, _, rfl, g5, h⟩ := row_inv h
  obtain ⟨y6, _, rfl, g6, h⟩ := row_inv h
  obtain ⟨y7, _, rfl, g7, h⟩ := row_inv h
  obtain ⟨y8, _, rfl, g8, h⟩ := row_inv h
  obtain ⟨y9, _, rfl, g9, h⟩ := row_inv h
  obtain ⟨y10, _, rfl, g10, h⟩ := row_inv h
  obtain ⟨y11, _, rfl, g11, h⟩ := row_inv h
  cases h
  obtain ⟨c0, rfl, e0⟩ := i8_rep h0 g0
  obtain ⟨c1, rfl, e1⟩ := st_rep h1 g1
  obtain ⟨c2, rfl, e2⟩ := i8_rep h2 g2
  obtain ⟨c3, rfl, e3⟩ := i64_rep h3 g3
  obtain ⟨c4, rfl, e4⟩ := st_rep h4 g4
  obtain ⟨a5, n5, p5, rfl⟩ := wf_rep h5 g5
  obtain ⟨a6, n6, p6, rfl⟩ := wf_rep h6 g6
  obtain ⟨a7, n7, p7, rfl⟩ := wf_rep h7 g7
  obtain ⟨c8, rfl, e8⟩ := i8_rep h8 g8
  obtain ⟨a9, n9, p9, rfl⟩ := wf_rep h9 g9
  obtain ⟨a10, n10, p10, rfl⟩ := wf_rep h10 g10
  obtain ⟨c11, rfl, e11⟩ := st_rep h11 g11
  exact ⟨c0, c1, c2, c3, c4, a5, n5, p5, a6, n6, p6, a7, n7, p7, c8, a9, n9, p9, a10, n10, p10, c11, rfl, .cons g2 (.cons g3 (.cons g4 (.cons g5 (.cons g6 (.cons g7 (.cons g8 (.cons g9 (.cons g10 (.cons g11 .nil)))))))))⟩
theorem oneS {row : Nat → T} {w : World} {ok : Nat → Prop} {vs : List Value} (hw : WS row) (h : Row w ok (qellsS row) vs) :
    ∃ (c0 : Int) (c1 : ByteArray) (c2 : ByteArray) (c3 : Int) (c4 : Int) (c5 : ByteArray) (a6 : Option Addr) (n6 p6 : Nat) (a7 : Option Addr) (n7 p7 : Nat) (a8 : Option Addr) (n8 p8 : Nat) (c9 : Int) (a10 : Option Addr) (n10 p10 : Nat) (a11 : Option Addr) (n11 p11 : Nat) (c12 : ByteArray) (a13 : Option Addr) (n13 p13 : Nat) (a14 : Option Addr) (n14 p14 : Nat) (a15 : Option Addr) (n15 p15 : Nat) (a16 : Option Addr) (n16 p16 : Nat), vs = [.int .u8 c0, .string c1, .string c2, .int .u8 c3, .int .i64 c4, .string c5, .slice a6 n6 p6, .slice a7 n7 p7, .slice a8 n8 p8, .int .u8 c9, .slice a10 n10 p10, .slice a11 n11 p11, .string c12, .slice a13 n13 p13, .slice a14 n14 p14, .slice a15 n15 p15, .slice a16 n16 p16] ∧ Row w ok (cellsE row 3) [.int .u8 c3, .int .i64 c4, .string c5, .slice a6 n6 p6, .slice a7 n7 p7, .slice a8 n8 p8, .int .u8 c9, .slice a10 n10 p10, .slice a11 n11 p11, .string c12] ∧ (row 13).Rep w ok (.slice a13 n13 p13) ∧ (row 14).Rep w ok (.slice a14 n14 p14) ∧ (row 15).Rep w ok (.slice a15 n15 p15) ∧ (row 16).Rep w ok (.slice a16 n16 p16) := by
  obtain ⟨h0, h1, h2, ⟨h3, h4, h5, h6, h7, h8, h9, h10, h11, h12⟩, h13, h14, h15, h16⟩ := hw
  obtain ⟨y0, _, rfl, g0, h⟩ := row_inv h
  obtain ⟨y1, _, rfl, g1, h⟩ := row_inv h
  obtain ⟨y2, _, rfl, g2, h⟩ := row_inv h
  obtain ⟨y3, _, rfl, g3, h⟩ := row_inv h
  obtain ⟨y4, _, rfl, g4, h⟩ := row_inv h
  obtain ⟨y5, _, rfl, g5, h⟩ := row_inv h
  obtain ⟨y6, _, rfl, g6, h⟩ := row_inv h
  obtain ⟨y7, _, rfl, g7, h⟩ := row_inv h
  obtain ⟨y8, _, rfl, g8, h⟩ := row_inv h
  obtain ⟨y9, _, rfl, g9, h⟩ := row_inv h
  obtain ⟨y10, _, rfl, g10, h⟩ := row_inv h
  obtain ⟨y11, _, rfl, g11, h⟩ := row_inv h
  obtain ⟨y12, _, rfl, g12, h⟩ := row_inv h
  obtain ⟨y13, _, rfl, g13, h⟩ := row_inv h
  obtain ⟨y14, _, rfl, g14, h⟩ := row_inv h
  obtain ⟨y15, _, rfl, g15, h⟩ := row_inv h
  obtain ⟨y16, _, rfl, g16, h⟩ := row_inv h
  cases h
  obtain ⟨c0, rfl, e0⟩ := i8_rep h0 g0
  obtain ⟨c1, rfl, e1⟩ := st_rep h1 g1
  obtain ⟨c2, rfl, e2⟩ := st_rep h2 g2
  obtain ⟨c3, rfl, e3⟩ := i8_rep h3 g3
  obtain ⟨c4, rfl, e4⟩ := i64_rep h4 g4
  obtain ⟨c5, rfl, e5⟩ := st_rep h5 g5
  obtain ⟨a6, n6, p6, rfl⟩ := wf_rep h6 g6
  obtain ⟨a7, n7, p7, rfl⟩ := wf_rep h7 g7
  obtain ⟨a8, n8, p8, rfl⟩ := wf_rep h8 g8
  obtain ⟨c9, rfl, e9⟩ := i8_rep h9 g9
  obtain ⟨a10, n10, p10, rfl⟩ := wf_rep h10 g10
  obtain ⟨a11, n11, p11, rfl⟩ := wf_rep h11 g11
  obtain ⟨c12, rfl, e12⟩ := st_rep h12 g12
  obtain ⟨a13, n13, p13, rfl⟩ := wf_rep h13 g13
  obtain ⟨a14, n14, p14, rfl⟩ := wf_rep h14 g14
  obtain ⟨a15, n15, p15, rfl⟩ := wf_rep h15 g15
  obtain ⟨a16, n16, p16, rfl⟩ := wf_rep h16 g16
  exact ⟨c0, c1, c2, c3, c4, c5, a6, n6, p6, a7, n7, p7, a8, n8, p8, c9, a10, n10, p10, a11, n11, p11, c12, a13, n13, p13, a14, n14, p14, a15, n15, p15, a16, n16, p16, rfl, .cons g3 (.cons g4 (.cons g5 (.cons g6 (.cons g7 (.cons g8 (.cons g9 (.cons g10 (.cons g11 (.cons g12 .nil))))))))), g13, g14, g15, g16⟩
theorem oneC {row : Nat → T} {w : World} {ok : Nat → Prop} {vs : List Value} (hw : WC row) (h : Row w ok (qellsC row) vs) :
    ∃ (c0 : ByteArray) (c1 : ByteArray) (a2 : Option Addr) (n2 p2 : Nat) (c3 : Int) (c4 : Int) (c5 : ByteArray) (a6 : Option Addr) (n6 p6 : Nat) (a7 : Option Addr) (n7 p7 : Nat) (a8 : Option Addr) (n8 p8 : Nat) (c9 : Int) (a10 : Option Addr) (n10 p10 : Nat) (a11 : Option Addr) (n11 p11 : Nat) (c12 : ByteArray), vs = [.string c0, .string c1, .slice a2 n2 p2, .int .u8 c3, .int .i64 c4, .string c5, .slice a6 n6 p6, .slice a7 n7 p7, .slice a8 n8 p8, .int .u8 c9, .slice a10 n10 p10, .slice a11 n11 p11, .string c12] ∧ Row w ok (cellsE row 3) [.int .u8 c3, .int .i64 c4, .string c5, .slice a6 n6 p6, .slice a7 n7 p7, .slice a8 n8 p8, .int .u8 c9, .slice a10 n10 p10, .slice a11 n11 p11, .string c12] ∧ (row 2).Rep w ok (.slice a2 n2 p2) := by
  obtain ⟨h0, h1, h2, h3, h4, h5, h6, h7, h8, h9, h10, h11, h12⟩ := hw
  obtain ⟨y0, _, rfl, g0, h⟩ := row_inv h
  obtain ⟨y1, _, rfl, g1, h⟩ := row_inv h
  obtain ⟨y2, _, rfl, g2, h⟩ := row_inv h
  obtain ⟨y3, _, rfl, g3, h⟩ := row_inv h
  obtain ⟨y4, _, rfl, g4, h⟩ := row_inv h
  obtain ⟨y5, _, rfl, g5, h⟩ := row_inv h
  obtain ⟨y6, _, rfl, g6, h⟩ := row_inv h
  obtain ⟨y7, _, rfl, g7, h⟩ := row_inv h
  obtain ⟨y8, _, rfl, g8, h⟩ := row_inv h
  obtain ⟨y9, _, rfl, g9, h⟩ := row_inv h
  obtain ⟨y10, _, rfl, g10, h⟩ := row_inv h
  obtain ⟨y11, _, rfl, g11, h⟩ := row_inv h
  obtain ⟨y12, _, rfl, g12, h⟩ := row_inv h
  cases h
  obtain ⟨c0, rfl, e0⟩ := st_rep h0 g0
  obtain ⟨c1, rfl, e1⟩ := st_rep h1 g1
  obtain ⟨a2, n2, p2, rfl⟩ := wf_rep h2 g2
  obtain ⟨c3, rfl, e3⟩ := i8_rep h3 g3
  obtain ⟨c4, rfl, e4⟩ := i64_rep h4 g4
  obtain ⟨c5, rfl, e5⟩ := st_rep h5 g5
  obtain ⟨a6, n6, p6, rfl⟩ := wf_rep h6 g6
  obtain ⟨a7, n7, p7, rfl⟩ := wf_rep h7 g7
  obtain ⟨a8, n8, p8, rfl⟩ := wf_rep h8 g8
  obtain ⟨c9, rfl, e9⟩ := i8_rep h9 g9
  obtain ⟨a10, n10, p10, rfl⟩ := wf_rep h10 g10
  obtain ⟨a11, n11, p11, rfl⟩ := wf_rep h11 g11
  obtain ⟨c12, rfl, e12⟩ := st_rep h12 g12
  exact ⟨c0, c1, a2, n2, p2, c3, c4, c5, a6, n6, p6, a7, n7, p7, a8, n8, p8, c9, a10, n10, p10, a11, n11, p11, c12, rfl, .cons g3 (.cons g4 (.cons g5 (.cons g6 (.cons g7 (.cons g8 (.cons g9 (.cons g10 (.cons g11 (.cons g12 .nil))))))))), g2⟩
def OE (w0 : World) (row : Nat → T) (o : Nat) : Prop := ∀ (W : World) (vs : List Value), Below w0.heap.size w0 W → Row w0 (fun _ => True) (cellsE row o) vs →
  Calls Tryz.prog 84 #[.agg vs.toArray] W fun e W' => (∃ n : Int, R64 n ∧ e = .returned (.int .i64 n)) ∧ Below W.heap.size W W'
def OA (w0 : World) (row : Nat → T) : Prop := ∀ (W : World) (vs : List Value), Below w0.heap.size w0 W → Row w0 (fun _ => True) (qellsA row) vs →
  Calls Tryz.prog 178 #[.agg vs.toArray] W fun e W' => (∃ n : Int, R64 n ∧ e = .returned (.int .i64 n)) ∧ Below W.heap.size W W'
def OS (w0 : World) (row : Nat → T) : Prop := ∀ (W : World) (vs : List Value), Below w0.heap.size w0 W → Row w0 (fun _ => True) (qellsS row) vs →
  Calls Tryz.prog 140 #[.agg vs.toArray] W fun e W' => (∃ n : Int, R64 n ∧ e = .returned (.int .i64 n)) ∧ Below W.heap.size W W'
def OC (w0 : World) (row : Nat → T) : Prop := ∀ (W : World) (vs : List Value), Below w0.heap.size w0 W → Row w0 (fun _ => True) (qellsC row) vs →
  Calls Tryz.prog 49 #[.agg vs.toArray] W fun e W' => (∃ n : Int, R64 n ∧ e = .returned (.int .i64 n)) ∧ Below W.heap.size W W'
def OX0 (w0 : World) (t : T) : Prop := ∀ (W : World) (a : Value), Below w0.heap.size w0 W → t.Rep w0 (fun _ => True) a →
  Calls Tryz.prog 141 #[a] W fun e W' => (∃ n : Int, R64 n ∧ e = .returned (.int .i64 n)) ∧ Below W.heap.size W W'
def OX1 (w0 : World) (t : T) : Prop := ∀ (W : World) (a : Value), Below w0.heap.size w0 W → t.Rep w0 (fun _ => True) a →
  Calls Tryz.prog 143 #[a] W fun e W' => (∃ n : Int, R64 n ∧ e = .returned (.int .i64 n)) ∧ Below W.heap.size W W'
def OX2 (w0 : World) (t : T) : Prop := ∀ (W : World) (a : Value), Below w0.heap.size w0 W → t.Rep w0 (fun _ => True) a →
  Calls Tryz.prog 83 #[a] W fun e W' => (∃ n : Int, R64 n ∧ e = .returned (.int .i64 n)) ∧ Below W.heap.size W W'
def OX3 (w0 : World) (t : T) : Prop := ∀ (W : World) (a : Value), Below w0.heap.size w0 W → t.Rep w0 (fun _ => True) a →
  Calls Tryz.prog 142 #[a] W fun e W' => (∃ n : Int, R64 n ∧ e = .returned (.int .i64 n)) ∧ Below W.heap.size W W'
def OX4 (w0 : World) (t : T) : Prop := ∀ (W : World) (a : Value), Below w0.heap.size w0 W → t.Rep w0 (fun _ => True) a →
  Calls Tryz.prog 32 #[a] W fun e W' => (∃ n : Int, R64 n ∧ e = .returned (.int .i64 n)) ∧ Below W.heap.size W W'
theorem wrap_r (n : Int) : R64 (wrap64 n) := op_i64 (wrap64_wf n)
set_option maxRecDepth 100000 in
set_option maxHeartbeats 16000000 in
theorem sizeE_step (w0 : World) (row : Nat → T) (o : Nat) (hw : WE row o) (h3 : OX0 w0 (row (o + 3))) (h4 : OX3 w0 (row (o + 4))) (h5 : OX0 w0 (row (o + 5))) (h7 : OX0 w0 (row (o + 7))) (h8 : OX1 w0 (row (o + 8))) : OE w0 row o := by
  intro W vs hb hr
  obtain ⟨c0, c1, c2, a3, n3, p3, a4, n4, p4, a5, n5, p5, c6, a7, n7, p7, a8, n8, p8, c9, rfl, r3, r4, r5, r7, r8⟩ := oneE hw hr
  obtain ⟨Wb, hWb⟩ : ∃ Wb, W.alloc (.cells #[.int .u8 c0, .int .i64 c1, .string c2, .slice a3 n3 p3, .slice a4 n4 p4, .slice a5 n5 p5, .int .u8 c6, .slice a7 n7 p7, .slice a8 n8 p8, .string c9] 42) = Wb := ⟨_, rfl⟩
  have hx : Wb.heap[W.heap.size]? = some (.cells #[.int .u8 c0, .int .i64 c1, .string c2, .slice a3 n3 p3, .slice a4 n4 p4, .slice a5 n5 p5, .int .u8 c6, .slice a7 n7 p7, .slice a8 n8 p8, .string c9] 42 (0, 0)) := by rw [← hWb]; exact heap_alloc_new _ _
  have hbb : Below W.heap.size W Wb := by rw [← hWb]; exact size_low _
  have hz : W.heap.size + 1 = Wb.heap.size := by rw [← hWb]; simp
  have hb0 : ∀ W', Below Wb.heap.size Wb W' → Below w0.heap.size w0 W' := fun W' h => (hb.trans (hbb.mono hb.size)).trans (h.mono (Nat.le_trans hb.size hbb.size))
  have HX : Hid (∀ W', Below Wb.heap.size Wb W' → W'.heap[W.heap.size]? = some (.cells #[.int .u8 c0, .int .i64 c1, .string c2, .slice a3 n3 p3, .slice a4 n4 p4, .slice a5 n5 p5, .int .u8 c6, .slice a7 n7 p7, .slice a8 n8 p8, .string c9] 42 (0, 0))) := fun W' h => (h.block _ (by omega)).trans hx
  have H3 : Hid (∀ W', Below Wb.heap.size Wb W' → Calls Tryz.prog 141 #[.slice a3 n3 p3] W' fun e W'' => (∃ n : Int, R64 n ∧ e = .returned (.int .i64 n)) ∧ Below W'.heap.size W' W'') := fun W' h => h3 W' _ (hb0 W' h) r3
  have H4 : Hid (∀ W', Below Wb.heap.size Wb W' → Calls Tryz.prog 142 #[.slice a4 n4 p4] W' fun e W'' => (∃ n : Int, R64 n ∧ e = .returned (.int .i64 n)) ∧ Below W'.heap.size W' W'') := fun W' h => h4 W' _ (hb0 W' h) r4
  have H5 : Hid (∀ W', Below Wb.heap.size Wb W' → Calls Tryz.prog 141 #[.slice a5 n5 p5] W' fun e W'' => (∃ n : Int, R64 n ∧ e = .returned (.int .i64 n)) ∧ Below W'.heap.size W' W'') := fun W' h => h5 W' _ (hb0 W' h) r5
  have H7 : Hid (∀ W', Below Wb.heap.size Wb W' → Calls Tryz.prog 141 #[.slice a7 n7 p7] W' fun e W'' => (∃ n : Int, R64 n ∧ e = .returned (.int .i64 n)) ∧ Below W'.heap.size W' W'') := fun W' h => h7 W' _ (hb0 W' h) r7
  have H8 : Hid (∀ W', Below Wb.heap.size Wb W' → Calls Tryz.prog 143 #[.slice a8 n8 p8] W' fun e W'' => (∃ n : Int, R64 n ∧ e = .returned (.int .i64 n)) ∧ Below W'.heap.size W' W'') := fun W' h => h8 W' _ (hb0 W' h) r8
  have HW := Lib.hid hbb
  have HB := Lib.hid (Below.refl Wb.heap.size Wb)
  clear hr hb hx hbb hz hb0 hw r3 r4 r5 r7 r8 h3 h4 h5 h7 h8
  have hx2 := HX.out _ HB.out
  obtain ⟨⟨x0, x1, x2, x3, x4, x5, x6, x7, x8, x9⟩, -⟩ := blk10 hx2
  clear hx2
  go_enter Tryz.func84, Tryz.ntmps84
  by_cases hm0 : wrap64 (wrap64 (1 + (c2.size : Int)) + (c9.size : Int)) ≤ 1048576
  case neg =>
    go_wp2_with fail
    go_ret
    exact ⟨⟨_, wrap_r _, rfl⟩, HW.out.trans (HB.out.mono HW.out.size)⟩
  go_wp2_with fail
  refine (H3.out _ HB.out).mono ?_
  rintro e0 w0 ⟨⟨z0, hz0, rfl⟩, hb1⟩
  replace HB := Lib.hid (HB.out.trans (hb1.mono HB.out.size))
  clear hb1 x0 x1 x2 x3 x4 x5 x6 x7 x8 x9
  have hx2 := HX.out _ HB.out
  obtain ⟨⟨x0, x1, x2, x3, x4, x5, x6, x7, x8, x9⟩, -⟩ := blk10 hx2
  clear hx2
  by_cases hm1 : wrap64 (wrap64 (wrap64 (1 + (c2.size : Int)) + (c9.size : Int)) + z0) ≤ 1048576
  case neg =>
    go_wp2_with fail
    go_ret
    exact ⟨⟨_, wrap_r _, rfl⟩, HW.out.trans (HB.out.mono HW.out.size)⟩
  go_wp2_with fail
  refine (H4.out _ HB.out).mono ?_
  rintro e1 w1 ⟨⟨z1, hz1, rfl⟩, hb1⟩
  replace HB := Lib.hid (HB.out.trans (hb1.mono HB.out.size))
  clear hb1 x0 x1 x2 x3 x4 x5 x6 x7 x8 x9
  have hx2 := HX.out _ HB.out
  obtain ⟨⟨x0, x1, x2, x3, x4, x5, x6, x7, x8, x9⟩, -⟩ := blk10 hx2
  clear hx2
  by_cases hm2 : wrap64 (wrap64 (wrap64 (wrap64 (1 + (c2.size : Int)) + (c9.size : Int)) + z0) + z1) ≤ 1048576
  case neg =>
    go_wp2_with fail
    go_ret
    exact ⟨⟨_, wrap_r _, rfl⟩, HW.out.trans (HB.out.mono HW.out.size)⟩
  go_wp2_with fail
  refine (H5.out _ HB.out).mono ?_
  rintro e2 w2 ⟨⟨z2, hz2, rfl⟩, hb1⟩
  replace HB := Lib.hid (HB.out.trans (hb1.mono HB.out.size))
  clear hb1 x0 x1 x2 x3 x4 x5 x6 x7 x8 x9
  have hx2 := HX.out _ HB.out
  obtain ⟨⟨x0, x1, x2, x3, x4, x5, x6, x7, x8, x9⟩, -⟩ := blk10 hx2
  clear hx2
  by_cases hm3 : wrap64 (wrap64 (wrap64 (wrap64 (wrap64 (1 + (c2.size : Int)) + (c9.size : Int)) + z0) + z1) + z2) ≤ 1048576
  case neg =>
    go_wp2_with fail
    go_ret
    exact ⟨⟨_, wrap_r _, rfl⟩, HW.out.trans (HB.out.mono HW.out.size)⟩
  go_wp2_with fail
  refine (H7.out _ HB.out).mono ?_
  rintro e3 w3 ⟨⟨z3, hz3, rfl⟩, hb1⟩
  replace HB := Lib.hid (HB.out.trans (hb1.mono HB.out.size))
  clear hb1 x0 x1 x2 x3 x4 x5 x6 x7 x8 x9
  have hx2 := HX.out _ HB.out
  obtain ⟨⟨x0, x1, x2, x3, x4, x5, x6, x7, x8, x9⟩, -⟩ := blk10 hx2
  clear hx2
  by_cases hm4 : wrap64 (wrap64 (wrap64 (wrap64 (wrap64 (wrap64 (1 + (c2.size : Int)) + (c9.size : Int)) + z0) + z1) + z2) + z3) ≤ 1048576
  case neg =>
    go_wp2_with fail
    go_ret
    exact ⟨⟨_, wrap_r _, rfl⟩, HW.out.trans (HB.out.mono HW.out.size)⟩
  go_wp2_with fail
  refine (H8.out _ HB.out).mono ?_
  rintro e4 w4 ⟨⟨z4, hz4, rfl⟩, hb1⟩
  replace HB := Lib.hid (HB.out.trans (hb1.mono HB.out.size))
  clear hb1 x0 x1 x2 x3 x4 x5 x6 x7 x8 x9
  have hx2 := HX.out _ HB.out
  obtain ⟨⟨x0, x1, x2, x3, x4, x5, x6, x7, x8, x9⟩, -⟩ := blk10 hx2
  clear hx2
  go_wp2_with fail
  go_ret
  exact ⟨⟨_, wrap_r _, rfl⟩, HW.out.trans (HB.out.mono HW.out.size)⟩
set_option maxRecDepth 100000 in
set_option maxHeartbeats 16000000 in
theorem sizeA_step (w0 : World) (row : Nat → T) (hw : WA row) (hE : OE w0 row 2) : OA w0 row := by
  intro W vs hb hr
  obtain ⟨c0, c1, c2, c3, c4, a5, n5, p5, a6, n6, p6, a7, n7, p7, c8, a9, n9, p9, a10, n10, p10, c11, rfl, re⟩ := oneA hw hr
  obtain ⟨Wb, hWb⟩ : ∃ Wb, W.alloc (.cells #[.int .u8 c0, .string c1, .int .u8 c2, .int .i64 c3, .string c4, .slice a5 n5 p5, .slice a6 n6 p6, .slice a7 n7 p7, .int .u8 c8, .slice a9 n9 p9, .slice a10 n10 p10, .string c11] 112) = Wb := ⟨_, rfl⟩
  have hx : Wb.heap[W.heap.size]? = some (.cells #[.int .u8 c0, .string c1, .int .u8 c2, .int .i64 c3, .string c4, .slice a5 n5 p5, .slice a6 n6 p6, .slice a7 n7 p7, .int .u8 c8, .slice a9 n9 p9, .slice a10 n10 p10, .string c11] 112 (0, 0)) := by rw [← hWb]; exact heap_alloc_new _ _
  have hbb : Below W.heap.size W Wb := by rw [← hWb]; exact size_low _
  have hz : W.heap.size + 1 = Wb.heap.size := by rw [← hWb]; simp
  have hb0 : ∀ W', Below Wb.heap.size Wb W' → Below w0.heap.size w0 W' := fun W' h => (hb.trans (hbb.mono hb.size)).trans (h.mono (Nat.le_trans hb.size hbb.size))
  have HX : Hid (∀ W', Below Wb.heap.size Wb W' → W'.heap[W.heap.size]? = some (.cells #[.int .u8 c0, .string c1, .int .u8 c2, .int .i64 c3, .string c4, .slice a5 n5 p5, .slice a6 n6 p6, .slice a7 n7 p7, .int .u8 c8, .slice a9 n9 p9, .slice a10 n10 p10, .string c11] 112 (0, 0))) := fun W' h => (h.block _ (by omega)).trans hx
  have HE : Hid (∀ W', Below Wb.heap.size Wb W' → Calls Tryz.prog 84 #[.agg #[.int .u8 c2, .int .i64 c3, .string c4, .slice a5 n5 p5, .slice a6 n6 p6, .slice a7 n7 p7, .int .u8 c8, .slice a9 n9 p9, .slice a10 n10 p10, .string c11]] W' fun e W'' => (∃ n : Int, R64 n ∧ e = .returned (.int .i64 n)) ∧ Below W'.heap.size W' W'') := fun W' h => hE W' _ (hb0 W' h) re
  have HW := Lib.hid hbb
  have HB := Lib.hid (Below.refl Wb.heap.size Wb)
  clear hr hb hx hbb hz hb0 hw re hE
  have hx2 := HX.out _ HB.out
  obtain ⟨⟨x0, x1, x2, x3, x4, x5, x6, x7, x8, x9, x10, x11⟩, -⟩ := blk12 hx2
  clear hx2
  go_enter Tryz.func178, Tryz.ntmps178
  by_cases hm0 : wrap64 (1 + (c1.size : Int)) ≤ 1048576
  case neg =>
    go_wp2_with fail
    go_ret
    exact ⟨⟨_, wrap_r _, rfl⟩, HW.out.trans (HB.out.mono HW.out.size)⟩
  go_wp2_with fail
  refine (HE.out _ HB.out).mono ?_
  rintro e0 w0 ⟨⟨z0, hz0, rfl⟩, hb1⟩
  replace HB := Lib.hid (HB.out.trans (hb1.mono HB.out.size))
  clear hb1 x0 x1 x2 x3 x4 x5 x6 x7 x8 x9 x10 x11
  have hx2 := HX.out _ HB.out
  obtain ⟨⟨x0, x1, x2, x3, x4, x5, x6, x7, x8, x9, x10, x11⟩, -⟩ := blk12 hx2
  clear hx2
  go_wp2_with fail
  go_ret
  exact ⟨⟨_, wrap_r _, rfl⟩, HW.out.trans (HB.out.mono HW.out.size)⟩
set_option maxRecDepth 100000 in
set_option maxHeartbeats 16000000 in
theorem sizeS_step (w0 : World) (row : Nat → T) (hw : WS row) (hE : OE w0 row 3) (h13 : OX0 w0 (row 13)) (h14 : OX1 w0 (row 14)) (h15 : OX1 w0 (row 15)) (h16 : OX2 w0 (row 16)) : OS w0 row := by
  intro W vs hb hr
  obtain ⟨c0, c1, c2, c3, c4, c5, a6, n6, p6, a7, n7, p7, a8, n8, p8, c9, a10, n10, p10, a11, n11, p11, c12, a13, n13, p13, a14, n14, p14, a15, n15, p15, a16, n16, p16, rfl, re, r13, r14, r15, r16⟩ := oneS hw hr
  obtain ⟨Wb, hWb⟩ : ∃ Wb, W.alloc (.cells #[.int .u8 c0, .string c1, .string c2, .int .u8 c3, .int .i64 c4, .string c5, .slice a6 n6 p6, .slice a7 n7 p7, .slice a8 n8 p8, .int .u8 c9, .slice a10 n10 p10, .slice a11 n11 p11, .string c12, .slice a13 n13 p13, .slice a14 n14 p14, .slice a15 n15 p15, .slice a16 n16 p16] 55) = Wb := ⟨_, rfl⟩
  have hx : Wb.heap[W.heap.size]? = some (.cells #[.int .u8 c0, .string c1, .string c2, .int .u8 c3, .int .i64 c4, .string c5, .slice a6 n6 p6, .slice a7 n7 p7, .slice a8 n8 p8, .int .u8 c9, .slice a10 n10 p10, .slice a11 n11 p11, .string c12, .slice a13 n13 p13, .slice a14 n14 p14, .slice a15 n15 p15, .slice a16 n16 p16] 55 (0, 0)) := by rw [← hWb]; exact heap_alloc_new _ _
  have hbb : Below W.heap.size W Wb := by rw [← hWb]; exact size_low _
  have hz : W.heap.size + 1 = Wb.heap.size := by rw [← hWb]; simp
  have hb0 : ∀ W', Below Wb.heap.size Wb W' → Below w0.heap.size w0 W' := fun W' h => (hb.trans (hbb.mono hb.size)).trans (h.mono (Nat.le_trans hb.size hbb.size))
  have HX : Hid (∀ W', Below Wb.heap.size Wb W' → W'.heap[W.heap.size]? = some (.cells #[.int .u8 c0, .string c1, .string c2, .int .u8 c3, .int .i64 c4, .string c5, .slice a6 n6 p6, .slice a7 n7 p7, .slice a8 n8 p8, .int .u8 c9, .slice a10 n10 p10, .slice a11 n11 p11, .string c12, .slice a13 n13 p13, .slice a14 n14 p14, .slice a15 n15 p15, .slice a16 n16 p16] 55 (0, 0))) := fun W' h => (h.block _ (by omega)).trans hx
  have HE : Hid (∀ W', Below Wb.heap.size Wb W' → Calls Tryz.prog 84 #[.agg #[.int .u8 c3, .int .i64 c4, .string c5, .slice a6 n6 p6, .slice a7 n7 p7, .slice a8 n8 p8, .int .u8 c9, .slice a10 n10 p10, .slice a11 n11 p11, .string c12]] W' fun e W'' => (∃ n : Int, R64 n ∧ e = .returned (.int .i64 n)) ∧ Below W'.heap.size W' W'') := fun W' h => hE W' _ (hb0 W' h) re
  have H13 : Hid (∀ W', Below Wb.heap.size Wb W' → Calls Tryz.prog 141 #[.slice a13 n13 p13] W' fun e W'' => (∃ n : Int, R64 n ∧ e = .returned (.int .i64 n)) ∧ Below W'.heap.size W' W'') := fun W' h => h13 W' _ (hb0 W' h) r13
  have H14 : Hid (∀ W', Below Wb.heap.size Wb W' → Calls Tryz.prog 143 #[.slice a14 n14 p14] W' fun e W'' => (∃ n : Int, R64 n ∧ e = .returned (.int .i64 n)) ∧ Below W'.heap.size W' W'') := fun W' h => h14 W' _ (hb0 W' h) r14
  have H15 : Hid (∀ W', Below Wb.heap.size Wb W' → Calls Tryz.prog 143 #[.slice a15 n15 p15] W' fun e W'' => (∃ n : Int, R64 n ∧ e = .returned (.int .i64 n)) ∧ Below W'.heap.size W' W'') := fun W' h => h15 W' _ (hb0 W' h) r15
  have H16 : Hid (∀ W', Below Wb.heap.size Wb W' → Calls Tryz.prog 83 #[.slice a16 n16 p16] W' fun e W'' => (∃ n : Int, R64 n ∧ e = .returned (.int .i64 n)) ∧ Below W'.heap.size W' W'') := fun W' h => h16 W' _ (hb0 W' h) r16
  have HW := Lib.hid hbb
  have HB := Lib.hid (Below.refl Wb.heap.size Wb)
  clear hr hb hx hbb hz hb0 hw re r13 r14 r15 r16 hE h13 h14 h15 h16
  have hx2 := HX.out _ HB.out
  obtain ⟨⟨x0, x1, x2, x3, x4, x5, x6, x7, x8, x9, x10, x11, x12, x13, x14, x15, x16⟩, -⟩ := blk17 hx2
  clear hx2
  go_enter Tryz.func140, Tryz.ntmps140
  by_cases hm0 : wrap64 (wrap64 (1 + (c1.size : Int)) + (c2.size : Int)) ≤ 1048576
  case neg =>
    go_wp2_with fail
    go_ret
    exact ⟨⟨_, wrap_r _, rfl⟩, HW.out.trans (HB.out.mono HW.out.size)⟩
  go_wp2_with fail
  refine (HE.out _ HB.out).mono ?_
  rintro e0 w0 ⟨⟨z0, hz0, rfl⟩, hb1⟩
  replace HB := Lib.hid (HB.out.trans (hb1.mono HB.out.size))
  clear hb1 x0 x1 x2 x3 x4 x5 x6 x7 x8 x9 x10 x11 x12 x13 x14 x15 x16
  have hx2 := HX.out _ HB.out
  obtain ⟨⟨x0, x1, x2, x3, x4, x5, x6, x7, x8, x9, x10, x11, x12, x13, x14, x15, x16⟩, -⟩ := blk17 hx2
  clear hx2
  by_cases hm1 : wrap64 (wrap64 (wrap64 (1 + (c1.size : Int)) + (c2.size : Int)) + z0) ≤ 1048576
  case neg =>
    go_wp2_with fail
    go_ret
    exact ⟨⟨_, wrap_r _, rfl⟩, HW.out.trans (HB.out.mono HW.out.size)⟩
  go_wp2_with fail
  refine (H13.out _ HB.out).mono ?_
  rintro e1 w1 ⟨⟨z1, hz1, rfl⟩, hb1⟩
  replace HB := Lib.hid (HB.out.trans (hb1.mono HB.out.size))
  clear hb1 x0 x1 x2 x3 x4 x5 x6 x7 x8 x9 x10 x11 x12 x13 x14 x15 x16
  have hx2 := HX.out _ HB.out
  obtain ⟨⟨x0, x1, x2, x3, x4, x5, x6, x7, x8, x9, x10, x11, x12, x13, x14, x15, x16⟩, -⟩ := blk17 hx2
  clear hx2
  by_cases hm2 : wrap64 (wrap64 (wrap64 (wrap64 (1 + (c1.size : Int)) + (c2.size : Int)) + z0) + z1) ≤ 1048576
  case neg =>
    go_wp2_with fail
    go_ret
    exact ⟨⟨_, wrap_r _, rfl⟩, HW.out.trans (HB.out.mono HW.out.size)⟩
  go_wp2_with fail
  refine (H14.out _ HB.out).mono ?_
  rintro e2 w2 ⟨⟨z2, hz2, rfl⟩, hb1⟩
  replace HB := Lib.hid (HB.out.trans (hb1.mono HB.out.size))
  clear hb1 x0 x1 x2 x3 x4 x5 x6 x7 x8 x9 x10 x11 x12 x13 x14 x15 x16
  have hx2 := HX.out _ HB.out
  obtain ⟨⟨x0, x1, x2, x3, x4, x5, x6, x7, x8, x9, x10, x11, x12, x13, x14, x15, x16⟩, -⟩ := blk17 hx2
  clear hx2
  by_cases hm3 : wrap64 (wrap64 (wrap64 (wrap64 (wrap64 (1 + (c1.size : Int)) + (c2.size : Int)) + z0) + z1) + z2) ≤ 1048576
  case neg =>
    go_wp2_with fail
    go_ret
    exact ⟨⟨_, wrap_r _, rfl⟩, HW.out.trans (HB.out.mono HW.out.size)⟩
  go_wp2_with fail
  refine (H15.out _ HB.out).mono ?_
  rintro e3 w3 ⟨⟨z3, hz3, rfl⟩, hb1⟩
  replace HB := Lib.hid (HB.out.trans (hb1.mono HB.out.size))
  clear hb1 x0 x1 x2 x3 x4 x5 x6 x7 x8 x9 x10 x11 x12 x13 x14 x15 x16
  have hx2 := HX.out _ HB.out
  obtain ⟨⟨x0, x1, x2, x3, x4, x5, x6, x7, x8, x9, x10, x11, x12, x13, x14, x15, x16⟩, -⟩ := blk17 hx2
  clear hx2
  by_cases hm4 : wrap64 (wrap64 (wrap64 (wrap64 (wrap64 (wrap64 (1 + (c1.size : Int)) + (c2.size : Int)) + z0) + z1) + z2) + z3) ≤ 1048576
  case neg =>
    go_wp2_with fail
    go_ret
    exact ⟨⟨_, wrap_r _, rfl⟩, HW.out.trans (HB.out.mono HW.out.size)⟩
  go_wp2_with fail
  refine (H16.out _ HB.out).mono ?_
  rintro e4 w4 ⟨⟨z4, hz4, rfl⟩, hb1⟩
  replace HB := Lib.hid (HB.out.trans (hb1.mono HB.out.size))
  clear hb1 x0 x1 x2 x3 x4 x5 x6 x7 x8 x9 x10 x11 x12 x13 x14 x15 x16
  have hx2 := HX.out _ HB.out
  obtain ⟨⟨x0, x1, x2, x3, x4, x5, x6, x7, x8, x9, x10, x11, x12, x13, x14, x15, x16⟩, -⟩ := blk17 hx2
  clear hx2
  go_wp2_with fail
  go_ret
  exact ⟨⟨_, wrap_r _, rfl⟩, HW.out.trans (HB.out.mono HW.out.size)⟩
set_option maxRecDepth 100000 in
set_option maxHeartbeats 16000000 in
theorem sizeC_step (w0 : World) (row : Nat → T) (hw : WC row) (hE : OE w0 row 3) (h2 : OX2 w0 (row 2)) : OC w0 row := by
  intro W vs hb hr
  obtain ⟨c0, c1, a2, n2, p2, c3, c4, c5, a6, n6, p6, a7, n7, p7, a8, n8, p8, c9, a10, n10, p10, a11, n11, p11, c12, rfl, re, r2⟩ := oneC hw hr
  obtain ⟨Wb, hWb⟩ : ∃ Wb, W.alloc (.cells #[.string c0, .string c1, .slice a2 n2 p2, .int .u8 c3, .int .i64 c4, .string c5, .slice a6 n6 p6, .slice a7 n7 p7, .slice a8 n8 p8, .int .u8 c9, .slice a10 n10 p10, .slice a11 n11 p11, .string c12] 46) = Wb := ⟨_, rfl⟩
  have hx : Wb.heap[W.heap.size]? = some (.cells #[.string c0, .string c1, .slice a2 n2 p2, .int .u8 c3, .int .i64 c4, .string c5, .slice a6 n6 p6, .slice a7 n7 p7, .slice a8 n8 p8, .int .u8 c9, .slice a10 n10 p10, .slice a11 n11 p11, .string c12] 46 (0, 0)) := by rw [← hWb]; exact heap_alloc_new _ _
  have hbb : Below W.heap.size W Wb := by rw [← hWb]; exact size_low _
  have hz : W.heap.size + 1 = Wb.heap.size := by rw [← hWb]; simp
  have hb0 : ∀ W', Below Wb.heap.size Wb W' → Below w0.heap.size w0 W' := fun W' h => (hb.trans (hbb.mono hb.size)).trans (h.mono (Nat.le_trans hb.size hbb.size))
  have HX : Hid (∀ W', Below Wb.heap.size Wb W' → W'.heap[W.heap.size]? = some (.cells #[.string c0, .string c1, .slice a2 n2 p2, .int .u8 c3, .int .i64 c4, .string c5, .slice a6 n6 p6, .slice a7 n7 p7, .slice a8 n8 p8, .int .u8 c9, .slice a10 n10 p10, .slice a11 n11 p11, .string c12] 46 (0, 0))) := fun W' h => (h.block _ (by omega)).trans hx
  have H2 : Hid (∀ W', Below Wb.heap.size Wb W' → Calls Tryz.prog 83 #[.slice a2 n2 p2] W' fun e W'' => (∃ n : Int, R64 n ∧ e = .returned (.int .i64 n)) ∧ Below W'.heap.size W' W'') := fun W' h => h2 W' _ (hb0 W' h) r2
  have HE : Hid (∀ W', Below Wb.heap.size Wb W' → Calls Tryz.prog 84 #[.agg #[.int .u8 c3, .int .i64 c4, .string c5, .slice a6 n6 p6, .slice a7 n7 p7, .slice a8 n8 p8, .int .u8 c9, .slice a10 n10 p10, .slice a11 n11 p11, .string c12]] W' fun e W'' => (∃ n : Int, R64 n ∧ e = .returned (.int .i64 n)) ∧ Below W'.heap.size W' W'') := fun W' h => hE W' _ (hb0 W' h) re
  have HW := Lib.hid hbb
  have HB := Lib.hid (Below.refl Wb.heap.size Wb)
  clear hr hb hx hbb hz hb0 hw re r2 hE h2
  have hx2 := HX.out _ HB.out
  obtain ⟨⟨x0, x1, x2, x3, x4, x5, x6, x7, x8, x9, x10, x11, x12⟩, -⟩ := blk13 hx2
  clear hx2
  go_enter Tryz.func49, Tryz.ntmps49
  by_cases hm0 : wrap64 (wrap64 (1 + (c0.size : Int)) + (c1.size : Int)) ≤ 1048576
  case neg =>
    go_wp2_with fail
    go_ret
    exact ⟨⟨_, wrap_r _, rfl⟩, HW.out.trans (HB.out.mono HW.out.size)⟩
  go_wp2_with fail
  refine (H2.out _ HB.out).mono ?_
  rintro e0 w0 ⟨⟨z0, hz0, rfl⟩, hb1⟩
  replace HB := Lib.hid (HB.out.trans (hb1.mono HB.out.size))
  clear hb1 x0 x1 x2 x3 x4 x5 x6 x7 x8 x9 x10 x11 x12
  have hx2 := HX.out _ HB.out
  obtain ⟨⟨x0, x1, x2, x3, x4, x5, x6, x7, x8, x9, x10, x11, x12⟩, -⟩ := blk13 hx2
  clear hx2
  by_cases hm1 : wrap64 (wrap64 (wrap64 (1 + (c0.size : Int)) + (c1.size : Int)) + z0) ≤ 1048576
  case neg =>
    go_wp2_with fail
    go_ret
    exact ⟨⟨_, wrap_r _, rfl⟩, HW.out.trans (HB.out.mono HW.out.size)⟩
  go_wp2_with fail
  refine (HE.out _ HB.out).mono ?_
  rintro e1 w1 ⟨⟨z1, hz1, rfl⟩, hb1⟩
  replace HB := Lib.hid (HB.out.trans (hb1.mono HB.out.size))
  clear hb1 x0 x1 x2 x3 x4 x5 x6 x7 x8 x9 x10 x11 x12
  have hx2 := HX.out _ HB.out
  obtain ⟨⟨x0, x1, x2, x3, x4, x5, x6, x7, x8, x9, x10, x11, x12⟩, -⟩ := blk13 hx2
  clear hx2
  go_wp2_with fail
  go_ret
  exact ⟨⟨_, wrap_r _, rfl⟩, HW.out.trans (HB.out.mono HW.out.size)⟩
set_option maxRecDepth 100000 in
set_option maxHeartbeats 16000000 in
theorem sizeL3 (w0 : World) (t : T) (hw : Wf 3 t) : OX3 w0 t := by
  intro W a hb hr
  cases t with
  | sc v => exact hw.elim
  | ls n k row =>
  obtain ⟨rfl, hst⟩ := (wf3 _ _ _).1 hw
  have HWW := Lib.hid hst
  clear hw hst
  obtain ⟨la, lc, rfl, h1, h2, hel⟩ := hr
  have HEL := Lib.hid hel
  have HB0 := Lib.hid hb
  unfold maxLen at h2
  clear hb hel
  have hn64 : R64 (n : Int) := ⟨by omega, by omega⟩
  go_enter Tryz.func142, Tryz.ntmps142
  go_wp2_with fail
  go_loopw [3, 4] (fun m i wr => ∃ (k : Nat) (q : Int), k ≤ n ∧ i = .int .i64 k ∧ m = .int .i64 q ∧ R64 q ∧ Below W.heap.size W wr) (fun _ i _ => n - (intOf i).toNat)
  case atStart => exact ⟨0, n, Nat.zero_le _, rfl, rfl, hn64, Below.refl _ _⟩
  case round =>
    obtain ⟨j, q, hj, rfl, rfl, hq, hbr⟩ := hrel
    have HBR := Lib.hid hbr
    clear hbr
    by_cases hlt : j < n
    case neg =>
      have hn : ¬ (j : Int) < (n : Int) := by omega
      obtain rfl : n = j := by omega
      go_wp2_with fail
      go_ret
      exact ⟨⟨_, hq, rfl⟩, HBR.out⟩
    by_cases hq1 : q ≤ 1048576
    case neg =>
      go_wp2_with fail
      go_ret
      exact ⟨⟨_, hq, rfl⟩, HBR.out⟩
    have g1 : (j : Int) < (n : Int) := by omega
    have g0 : (0 : Int) ≤ (j : Int) := by omega
    have g2 : j < lc := by omega
    obtain ⟨bb1, oo1, rfl, -, hb1, hc1⟩ := HEL.out j hlt
    have hlow := HB0.out.trans (HBR.out.mono HB0.out.size)
    obtain ⟨y, f0, g⟩ := hc1 0 (by decide)
    obtain ⟨s, rfl, e⟩ := st_rep (HWW.out j hlt) g
    have f0' : wr.cell? ⟨bb1, oo1 + j, none⟩ = some (.string s) := by rw [hlow.cell (p := ⟨bb1, oo1 + j, none⟩) hb1]; simpa using f0
    clear f0 g hlow hc1
    go_wp2_with fail
    go_roundw
    case rel => exact ⟨j + 1, _, by omega, by go_num, rfl, wrap_r _, HBR.out⟩
    case measure => simp [intOf]; try omega
theorem qetE (row : Nat → T) : ∀ j, j < 10 → (cellsE row 0).getD j default = row j := fun j hj => match j, hj with
  | 0, _ => rfl
  | 1, _ => by show row (0 + 1) = row 1; rw [Nat.zero_add]
  | 2, _ => by show row (0 + 2) = row 2; rw [Nat.zero_add]
  | 3, _ => by show row (0 + 3) = row 3; rw [Nat.zero_add]
  | 4, _ => by show row (0 + 4) = row 4; rw [Nat.zero_add]
  | 5, _ => by show row (0 + 5) = row 5; rw [Nat.zero_add]
  | 6, _ => by show row (0 + 6) = row 6; rw [Nat.zero_add]
  | 7, _ => by show row (0 + 7) = row 7; rw [Nat.zero_add]
  | 8, _ => by show row (0 + 8) = row 8; rw [Nat.zero_add]
  | 9, _ => by show row (0 + 9) = row 9; rw [Nat.zero_add]
  | j + 10, h => absurd h (by omega)
set_option maxRecDepth 100000 in
set_option maxHeartbeats 16000000 in
theorem sizeL0 (w0 : World) (n : Nat) (row : Nat → Nat → T) (hw : ∀ i, i < n → WE (row i) 0) (hE : ∀ i, i < n → OE w0 (row i) 0) : OX0 w0 (.ls n 10 row) := by
  intro W a hb hr
  have HWW := Lib.hid hw
  have HEE := Lib.hid hE
  clear hw hE
  obtain ⟨la, lc, rfl, h1, h2, hel⟩ := hr
  have HEL := Lib.hid hel
  have HB0 := Lib.hid hb
  unfold maxLen at h2
  clear hb hel
  have hn64 : R64 (n : Int) := ⟨by omega, by omega⟩
  go_enter Tryz.func141, Tryz.ntmps141
  go_wp2_with fail
  go_loopw [3, 4] (fun m i wr => ∃ (k : Nat) (q : Int), k ≤ n ∧ i = .int .i64 k ∧ m = .int .i64 q ∧ R64 q ∧ Below W.heap.size W wr) (fun _ i _ => n - (intOf i).toNat)
  case atStart => exact ⟨0, n, Nat.zero_le _, rfl, rfl, hn64, Below.refl _ _⟩
  case round =>
    obtain ⟨j, q, hj, rfl, rfl, hq, hbr⟩ := hrel
    have HBR := Lib.hid hbr
    clear hbr
    by_cases hlt : j < n
    case neg =>
      have hn : ¬ (j : Int) < (n : Int) := by omega
      obtain rfl : n = j := by omega
      go_wp2_with fail
      go_ret
      exact ⟨⟨_, hq, rfl⟩, HBR.out⟩
    by_cases hq1 : q ≤ 1048576
    case neg =>
      go_wp2_with fail
      go_ret
      exact ⟨⟨_, hq, rfl⟩, HBR.out⟩
    have g1 : (j : Int) < (n : Int) := by omega
    have g0 : (0 : Int) ≤ (j : Int) := by omega
    have g2 : j < lc := by omega
    obtain ⟨bb1, oo1, rfl, -, hb1, hc1⟩ := HEL.out j hlt
    have hlow := HB0.out.trans (HBR.out.mono HB0.out.size)
    obtain ⟨vs, hr1, hat1, -⟩ := sm_rep_row (n := 0) (i := j) (k := 10) (x := cellsE (row j) 0) rfl (fun q hq => by rw [qetE _ q hq]; exact hc1 q hq)
    obtain ⟨c0, c1, c2, a3, n3, p3, a4, n4, p4, a5, n5, p5, c6, a7, n7, p7, a8, n8, p8, c9, rfl, -⟩ := oneE (row := row j) (o := 0) (HWW.out j hlt) hr1
    have HE : Hid (∀ W', Below wr.heap.size wr W' → Calls Tryz.prog 84 #[.agg #[.int .u8 c0, .int .i64 c1, .string c2, .slice a3 n3 p3, .slice a4 n4 p4, .slice a5 n5 p5, .int .u8 c6, .slice a7 n7 p7, .slice a8 n8 p8, .string c9]] W' fun e W'' => (∃ n : Int, R64 n ∧ e = .returned (.int .i64 n)) ∧ Below wr.heap.size wr W'') := fun W' h =>
      (HEE.out j hlt W' _ (hlow.trans (h.mono hlow.size)) hr1).mono fun e W'' ⟨h1, h2⟩ => ⟨h1, h.trans (h2.mono h.size)⟩
    have hk1 : ∀ q y, ([.int .u8 c0, .int .i64 c1, .string c2, .slice a3 n3 p3, .slice a4 n4 p4, .slice a5 n5 p5, .int .u8 c6, .slice a7 n7 p7, .slice a8 n8 p8, .string c9] : List Value)[q]? = some y → wr.cell? ⟨bb1, oo1 + j * 10 + q, none⟩ = some y := fun q y hy => by
      rw [hlow.cell (p := ⟨bb1, oo1 + j * 10 + q, none⟩) hb1, hat1 q (List.getElem?_eq_some_iff.1 hy).1]; exact hy
    have c0' : wr.cell? ⟨bb1, oo1 + j * 10, none⟩ = some (.int .u8 c0) := hk1 0 _ rfl
    have c1' : wr.cell? ⟨bb1, oo1 + j * 10 + 1, none⟩ = some (.int .i64 c1) := hk1 1 _ rfl
    have c2' : wr.cell? ⟨bb1, oo1 + j * 10 + 2, none⟩ = some (.string c2) := hk1 2 _ rfl
    have c3' : wr.cell? ⟨bb1, oo1 + j * 10 + 3, none⟩ = some (.slice a3 n3 p3) := hk1 3 _ rfl
    have c4' : wr.cell? ⟨bb1, oo1 + j * 10 + 4, none⟩ = some (.slice a4 n4 p4) := hk1 4 _ rfl
    have c5' : wr.cell? ⟨bb1, oo1 + j * 10 + 5, none⟩ = some (.slice a5 n5 p5) := hk1 5 _ rfl
    have c6' : wr.cell? ⟨bb1, oo1 + j * 10 + 6, none⟩ = some (.int .u8 c6) := hk1 6 _ rfl
    have c7' : wr.cell? ⟨bb1, oo1 + j * 10 + 7, none⟩ = some (.slice a7 n7 p7) := hk1 7 _ rfl
    have c8' : wr.cell? ⟨bb1, oo1 + j * 10 + 8, none⟩ = some (.slice a8 n8 p8) := hk1 8 _ rfl
    have c9' : wr.cell? ⟨bb1, oo1 + j * 10 + 9, none⟩ = some (.string c9) := hk1 9 _ rfl
    clear hk1 hr1 hat1 hc1 hlow
    go_wp2_with fail
    refine (HE.out _ (Below.refl _ _)).mono ?_
    rintro e w1 ⟨⟨z, hz, rfl⟩, hb2⟩
    have HB1 := Lib.hid (HBR.out.trans (hb2.mono HBR.out.size))
    clear hb2 HE c0' c1' c2' c3' c4' c5' c6' c7' c8' c9'
    go_wp2_with fail
    go_roundw
    case rel => exact ⟨j + 1, _, by omega, by go_num, rfl, wrap_r _, HB1.out⟩
    case measure => simp [intOf]; try omega
theorem qetA (row : Nat → T) : ∀ j, j < 12 → (qellsA row).getD j default = row j := fun j hj => match j, hj with
  | 0, _ => rfl
  | 1, _ => rfl
  | 2, _ => rfl
  | 3, _ => rfl
  | 4, _ => rfl
  | 5, _ => rfl
  | 6, _ => rfl
  | 7, _ => rfl
  | 8, _ => rfl
  | 9, _ => rfl
  | 10, _ => rfl
  | 11, _ => rfl
  | j + 12, h => absurd h (by omega)
set_option maxRecDepth 100000 in
set_option maxHeartbeats 16000000 in
theorem sizeL1 (w0 : World) (n : Nat) (row : Nat → Nat → T) (hw : ∀ i, i < n → WA (row i)) (hE : ∀ i, i < n → OA w0 (row i)) : OX1 w0 (.ls n 12 row) := by
  intro W a hb hr
  have HWW := Lib.hid hw
  have HEE := Lib.hid hE
  clear hw hE
  obtain ⟨la, lc, rfl, h1, h2, hel⟩ := hr
  have HEL := Lib.hid hel
  have HB0 := Lib.hid hb
  unfold maxLen at h2
  clear hb hel
  have hn64 : R64 (n : Int) := ⟨by omega, by omega⟩
  go_enter Tryz.func143, Tryz.ntmps143
  go_wp2_with fail
  go_loopw [3, 4] (fun m i wr => ∃ (k : Nat) (q : Int), k ≤ n ∧ i = .int .i64 k ∧ m = .int .i64 q ∧ R64 q ∧ Below W.heap.size W wr) (fun _ i _ => n - (intOf i).toNat)
  case atStart => exact ⟨0, n, Nat.zero_le _, rfl, rfl, hn64, Below.refl _ _⟩
  case round =>
    obtain ⟨j, q, hj, rfl, rfl, hq, hbr⟩ := hrel
    have HBR := Lib.hid hbr
    clear hbr
    by_cases hlt : j < n
    case neg =>
      have hn : ¬ (j : Int) < (n : Int) := by omega
      obtain rfl : n = j := by omega
      go_wp2_with fail
      go_ret
      exact ⟨⟨_, hq, rfl⟩, HBR.out⟩
    by_cases hq1 : q ≤ 1048576
    case neg =>
      go_wp2_with fail
      go_ret
      exact ⟨⟨_, hq, rfl⟩, HBR.out⟩
    have g1 : (j : Int) < (n : Int) := by omega
    have g0 : (0 : Int) ≤ (j : Int) := by omega
    have g2 : j < lc := by omega
    obtain ⟨bb1, oo1, rfl, -, hb1, hc1⟩ := HEL.out j hlt
    have hlow := HB0.out.trans (HBR.out.mono HB0.out.size)
    obtain ⟨vs, hr1, hat1, -⟩ := sm_rep_row (n := 0) (i := j) (k := 12) (x := qellsA (row j)) rfl (fun q hq => by rw [qetA _ q hq]; exact hc1 q hq)
    obtain ⟨c0, c1, c2, c3, c4, a5, n5, p5, a6, n6, p6, a7, n7, p7, c8, a9, n9, p9, a10, n10, p10, c11, rfl, -⟩ := oneA (row := row j) (HWW.out j hlt) hr1
    have HE : Hid (∀ W', Below wr.heap.size wr W' → Calls Tryz.prog 178 #[.agg #[.int .u8 c0, .string c1, .int .u8 c2, .int .i64 c3, .string c4, .slice a5 n5 p5, .slice a6 n6 p6, .slice a7 n7 p7, .int .u8 c8, .slice a9 n9 p9, .slice a10 n10 p10, .string c11]] W' fun e W'' => (∃ n : Int, R64 n ∧ e = .returned (.int .i64 n)) ∧ Below wr.heap.size wr W'') := fun W' h =>
      (HEE.out j hlt W' _ (hlow.trans (h.mono hlow.size)) hr1).mono fun e W'' ⟨h1, h2⟩ => ⟨h1, h.trans (h2.mono h.size)⟩
    have hk1 : ∀ q y, ([.int .u8 c0, .string c1, .int .u8 c2, .int .i64 c3, .string c4, .slice a5 n5 p5, .slice a6 n6 p6, .slice a7 n7 p7, .int .u8 c8, .slice a9 n9 p9, .slice a10 n10 p10, .string c11] : List Value)[q]? = some y → wr.cell? ⟨bb1, oo1 + j * 12 + q, none⟩ = some y := fun q y hy => by
      rw [hlow.cell (p := ⟨bb1, oo1 + j * 12 + q, none⟩) hb1, hat1 q (List.getElem?_eq_some_iff.1 hy).1]; exact hy
    have c0' : wr.cell? ⟨bb1, oo1 + j * 12, none⟩ = some (.int .u8 c0) := hk1 0 _ rfl
    have c1' : wr.cell? ⟨bb1, oo1 + j * 12 + 1, none⟩ = some (.string c1) := hk1 1 _ rfl
    have c2' : wr.cell? ⟨bb1, oo1 + j * 12 + 2, none⟩ = some (.int .u8 c2) := hk1 2 _ rfl
    have c3' : wr.cell? ⟨bb1, oo1 + j * 12 + 3, none⟩ = some (.int .i64 c3) := hk1 3 _ rfl
    have c4' : wr.cell? ⟨bb1, oo1 + j * 12 + 4, none⟩ = some (.string c4) := hk1 4 _ rfl
    have c5' : wr.cell? ⟨bb1, oo1 + j * 12 + 5, none⟩ = some (.slice a5 n5 p5) := hk1 5 _ rfl
    have c6' : wr.cell? ⟨bb1, oo1 + j * 12 + 6, none⟩ = some (.slice a6 n6 p6) := hk1 6 _ rfl
    have c7' : wr.cell? ⟨bb1, oo1 + j * 12 + 7, none⟩ = some (.slice a7 n7 p7) := hk1 7 _ rfl
    have c8' : wr.cell? ⟨bb1, oo1 + j * 12 + 8, none⟩ = some (.int .u8 c8) := hk1 8 _ rfl
    have c9' : wr.cell? ⟨bb1, oo1 + j * 12 + 9, none⟩ = some (.slice a9 n9 p9) := hk1 9 _ rfl
    have c10' : wr.cell? ⟨bb1, oo1 + j * 12 + 10, none⟩ = some (.slice a10 n10 p10) := hk1 10 _ rfl
    have c11' : wr.cell? ⟨bb1, oo1 + j * 12 + 11, none⟩ = some (.string c11) := hk1 11 _ rfl
    clear hk1 hr1 hat1 hc1 hlow
    go_wp2_with fail
    refine (HE.out _ (Below.refl _ _)).mono ?_
    rintro e w1 ⟨⟨z, hz, rfl⟩, hb2⟩
    have HB1 := Lib.hid (HBR.out.trans (hb2.mono HBR.out.size))
    clear hb2 HE c0' c1' c2' c3' c4' c5' c6' c7' c8' c9' c10' c11'
    go_wp2_with fail
    go_roundw
    case rel => exact ⟨j + 1, _, by omega, by go_num, rfl, wrap_r _, HB1.out⟩
    case measure => simp [intOf]; try omega
theorem qetS (row : Nat → T) : ∀ j, j < 17 → (qellsS row).getD j default = row j := fun j hj => match j, hj with
  | 0, _ => rfl
  | 1, _ => rfl
  | 2, _ => rfl
  | 3, _ => rfl
  | 4, _ => rfl
  | 5, _ => rfl
  | 6, _ => rfl
  | 7, _ => rfl
  | 8, _ => rfl
  | 9, _ => rfl
  | 10, _ => rfl
  | 11, _ => rfl
  | 12, _ => rfl
  | 13, _ => rfl
  | 14, _ => rfl
  | 15, _ => rfl
  | 16, _ => rfl
  | j + 17, h => absurd h (by omega)
set_option maxRecDepth 100000 in
set_option maxHeartbeats 16000000 in
theorem sizeL2 (w0 : World) (n : Nat) (row : Nat → Nat → T) (hw : ∀ i, i < n → WS (row i)) (hE : ∀ i, i < n → OS w0 (row i)) : OX2 w0 (.ls n 17 row) := by
  intro W a hb hr
  have HWW := Lib.hid hw
  have HEE := Lib.hid hE
  clear hw hE
  obtain ⟨la, lc, rfl, h1, h2, hel⟩ := hr
  have HEL := Lib.hid hel
  have HB0 := Lib.hid hb
  unfold maxLen at h2
  clear hb hel
  have hn64 : R64 (n : Int) := ⟨by omega, by omega⟩
  go_enter Tryz.func83, Tryz.ntmps83
  go_wp2_with fail
  go_loopw [3, 4] (fun m i wr => ∃ (k : Nat) (q : Int), k ≤ n ∧ i = .int .i64 k ∧ m = .int .i64 q ∧ R64 q ∧ Below W.heap.size W wr) (fun _ i _ => n - (intOf i).toNat)
  case atStart => exact ⟨0, n, Nat.zero_le _, rfl, rfl, hn64, Below.refl _ _⟩
  case round =>
    obtain ⟨j, q, hj, rfl, rfl, hq, hbr⟩ := hrel
    have HBR := Lib.hid hbr
    clear hbr
    by_cases hlt : j < n
    case neg =>
      have hn : ¬ (j : Int) < (n : Int) := by omega
      obtain rfl : n = j := by omega
      go_wp2_with fail
      go_ret
      exact ⟨⟨_, hq, rfl⟩, HBR.out⟩
    by_cases hq1 : q ≤ 1048576
    case neg =>
      go_wp2_with fail
      go_ret
      exact ⟨⟨_, hq, rfl⟩, HBR.out⟩
    have g1 : (j : Int) < (n : Int) := by omega
    have g0 : (0 : Int) ≤ (j : Int) := by omega
    have g2 : j < lc := by omega
    obtain ⟨bb1, oo1, rfl, -, hb1, hc1⟩ := HEL.out j hlt
    have hlow := HB0.out.trans (HBR.out.mono HB0.out.size)
    obtain ⟨vs, hr1, hat1, -⟩ := sm_rep_row (n := 0) (i := j) (k := 17) (x := qellsS (row j)) rfl (fun q hq => by rw [qetS _ q hq]; exact hc1 q hq)
    obtain ⟨c0, c1, c2, c3, c4, c5, a6, n6, p6, a7, n7, p7, a8, n8, p8, c9, a10, n10, p10, a11, n11, p11, c12, a13, n13, p13, a14, n14, p14, a15, n15, p15, a16, n16, p16, rfl, -⟩ := oneS (row := row j) (HWW.out j hlt) hr1
    have HE : Hid (∀ W', Below wr.heap.size wr W' → Calls Tryz.prog 140 #[.agg #[.int .u8 c0, .string c1, .string c2, .int .u8 c3, .int .i64 c4, .string c5, .slice a6 n6 p6, .slice a7 n7 p7, .slice a8 n8 p8, .int .u8 c9, .slice a10 n10 p10, .slice a11 n11 p11, .string c12, .slice a13 n13 p13, .slice a14 n14 p14, .slice a15 n15 p15, .slice a16 n16 p16]] W' fun e W'' => (∃ n : Int, R64 n ∧ e = .returned (.int .i64 n)) ∧ Below wr.heap.size wr W'') := fun W' h =>
      (HEE.out j hlt W' _ (hlow.trans (h.mono hlow.size)) hr1).mono fun e W'' ⟨h1, h2⟩ => ⟨h1, h.trans (h2.mono h.size)⟩
    have hk1 : ∀ q y, ([.int .u8 c0, .string c1, .string c2, .int .u8 c3, .int .i64 c4, .string c5, .slice a6 n6 p6, .slice a7 n7 p7, .slice a8 n8 p8, .int .u8 c9, .slice a10 n10 p10, .slice a11 n11 p11, .string c12, .slice a13 n13 p13, .slice a14 n14 p14, .slice a15 n15 p15, .slice a16 n16 p16] : List Value)[q]? = some y → wr.cell? ⟨bb1, oo1 + j * 17 + q, none⟩ = some y := fun q y hy => by
      rw [hlow.cell (p := ⟨bb1, oo1 + j * 17 + q, none⟩) hb1, hat1 q (List.getElem?_eq_some_iff.1 hy).1]; exact hy
    have c0' : wr.cell? ⟨bb1, oo1 + j * 17, none⟩ = some (.int .u8 c0) := hk1 0 _ rfl
    have c1' : wr.cell? ⟨bb1, oo1 + j * 17 + 1, none⟩ = some (.string c1) := hk1 1 _ rfl
    have c2' : wr.cell? ⟨bb1, oo1 + j * 17 + 2, none⟩ = some (.string c2) := hk1 2 _ rfl
    have c3' : wr.cell? ⟨bb1, oo1 + j * 17 + 3, none⟩ = some (.int .u8 c3) := hk1 3 _ rfl
    have c4' : wr.cell? ⟨bb1, oo1 + j * 17 + 4, none⟩ = some (.int .i64 c4) := hk1 4 _ rfl
    have c5' : wr.cell? ⟨bb1, oo1 + j * 17 + 5, none⟩ = some (.string c5) := hk1 5 _ rfl
    have c6' : wr.cell? ⟨bb1, oo1 + j * 17 + 6, none⟩ = some (.slice a6 n6 p6) := hk1 6 _ rfl
    have c7' : wr.cell? ⟨bb1, oo1 + j * 17 + 7, none⟩ = some (.slice a7 n7 p7) := hk1 7 _ rfl
    have c8' : wr.cell? ⟨bb1, oo1 + j * 17 + 8, none⟩ = some (.slice a8 n8 p8) := hk1 8 _ rfl
    have c9' : wr.cell? ⟨bb1, oo1 + j * 17 + 9, none⟩ = some (.int .u8 c9) := hk1 9 _ rfl
    have c10' : wr.cell? ⟨bb1, oo1 + j * 17 + 10, none⟩ = some (.slice a10 n10 p10) := hk1 10 _ rfl
    have c11' : wr.cell? ⟨bb1, oo1 + j * 17 + 11, none⟩ = some (.slice a11 n11 p11) := hk1 11 _ rfl
    have c12' : wr.cell? ⟨bb1, oo1 + j * 17 + 12, none⟩ = some (.string c12) := hk1 12 _ rfl
    have c13' : wr.cell? ⟨bb1, oo1 + j * 17 + 13, none⟩ = some (.slice a13 n13 p13) := hk1 13 _ rfl
    have c14' : wr.cell? ⟨bb1, oo1 + j * 17 + 14, none⟩ = some (.slice a14 n14 p14) := hk1 14 _ rfl
    have c15' : wr.cell? ⟨bb1, oo1 + j * 17 + 15, none⟩ = some (.slice a15 n15 p15) := hk1 15 _ rfl
    have c16' : wr.cell? ⟨bb1, oo1 + j * 17 + 16, none⟩ = some (.slice a16 n16 p16) := hk1 16 _ rfl
    clear hk1 hr1 hat1 hc1 hlow
    go_wp2_with fail
    refine (HE.out _ (Below.refl _ _)).mono ?_
    rintro e w1 ⟨⟨z, hz, rfl⟩, hb2⟩
    have HB1 := Lib.hid (HBR.out.trans (hb2.mono HBR.out.size))
    clear hb2 HE c0' c1' c2' c3' c4' c5' c6' c7' c8' c9' c10' c11' c12' c13' c14' c15' c16'
    go_wp2_with fail
    go_roundw
    case rel => exact ⟨j + 1, _, by omega, by go_num, rfl, wrap_r _, HB1.out⟩
    case measure => simp [intOf]; try omega
theorem qetC (row : Nat → T) : ∀ j, j < 13 → (qellsC row).getD j default = row j := fun j hj => match j, hj with
  | 0, _ => rfl
  | 1, _ => rfl
  | 2, _ => rfl
  | 3, _ => rfl
  | 4, _ => rfl
  | 5, _ => rfl
  | 6, _ => rfl
  | 7, _ => rfl
  | 8, _ => rfl
  | 9, _ => rfl
  | 10, _ => rfl
  | 11, _ => rfl
  | 12, _ => rfl
  | j + 13, h => absurd h (by omega)
set_option maxRecDepth 100000 in
set_option maxHeartbeats 16000000 in
theorem sizeL4 (w0 : World) (n : Nat) (row : Nat → Nat → T) (hw : ∀ i, i < n → WC (row i)) (hE : ∀ i, i < n → OC w0 (row i)) : OX4 w0 (.ls n 13 row) := by
  intro W a hb hr
  have HWW := Lib.hid hw
  have HEE := Lib.hid hE
  clear hw hE
  obtain ⟨la, lc, rfl, h1, h2, hel⟩ := hr
  have HEL := Lib.hid hel
  have HB0 := Lib.hid hb
  unfold maxLen at h2
  clear hb hel
  have hn64 : R64 (n : Int) := ⟨by omega, by omega⟩
  go_enter Tryz.func32, Tryz.ntmps32
  go_wp2_with fail
  go_loopw [3, 4] (fun m i wr => ∃ (k : Nat) (q : Int), k ≤ n ∧ i = .int .i64 k ∧ m = .int .i64 q ∧ R64 q ∧ Below W.heap.size W wr) (fun _ i _ => n - (intOf i).toNat)
  case atStart => exact ⟨0, n, Nat.zero_le _, rfl, rfl, hn64, Below.refl _ _⟩
  case round =>
    obtain ⟨j, q, hj, rfl, rfl, hq, hbr⟩ := hrel
    have HBR := Lib.hid hbr
    clear hbr
    by_cases hlt : j < n
    case neg =>
      have hn : ¬ (j : Int) < (n : Int) := by omega
      obtain rfl : n = j := by omega
      go_wp2_with fail
      go_ret
      exact ⟨⟨_, hq, rfl⟩, HBR.out⟩
    by_cases hq1 : q ≤ 1048576
    case neg =>
      go_wp2_with fail
      go_ret
      exact ⟨⟨_, hq, rfl⟩, HBR.out⟩
    have g1 : (j : Int) < (n : Int) := by omega
    have g0 : (0 : Int) ≤ (j : Int) := by omega
    have g2 : j < lc := by omega
    obtain ⟨bb1, oo1, rfl, -, hb1, hc1⟩ := HEL.out j hlt
    have hlow := HB0.out.trans (HBR.out.mono HB0.out.size)
    obtain ⟨vs, hr1, hat1, -⟩ := sm_rep_row (n := 0) (i := j) (k := 13) (x := qellsC (row j)) rfl (fun q hq => by rw [qetC _ q hq]; exact hc1 q hq)
    obtain ⟨c0, c1, a2, n2, p2, c3, c4, c5, a6, n6, p6, a7, n7, p7, a8, n8, p8, c9, a10, n10, p10, a11, n11, p11, c12, rfl, -⟩ := oneC (row := row j) (HWW.out j hlt) hr1
    have HE : Hid (∀ W', Below wr.heap.size wr W' → Calls Tryz.prog 49 #[.agg #[.string c0, .string c1, .slice a2 n2 p2, .int .u8 c3, .int .i64 c4, .string c5, .slice a6 n6 p6, .slice a7 n7 p7, .slice a8 n8 p8, .int .u8 c9, .slice a10 n10 p10, .slice a11 n11 p11, .string c12]] W' fun e W'' => (∃ n : Int, R64 n ∧ e = .returned (.int .i64 n)) ∧ Below wr.heap.size wr W'') := fun W' h =>
      (HEE.out j hlt W' _ (hlow.trans (h.mono hlow.size)) hr1).mono fun e W'' ⟨h1, h2⟩ => ⟨h1, h.trans (h2.mono h.size)⟩
    have hk1 : ∀ q y, ([.string c0, .string c1, .slice a2 n2 p2, .int .u8 c3, .int .i64 c4, .string c5, .slice a6 n6 p6, .slice a7 n7 p7, .slice a8 n8 p8, .int .u8 c9, .slice a10 n10 p10, .slice a11 n11 p11, .string c12] : List Value)[q]? = some y → wr.cell? ⟨bb1, oo1 + j * 13 + q, none⟩ = some y := fun q y hy => by
      rw [hlow.cell (p := ⟨bb1, oo1 + j * 13 + q, none⟩) hb1, hat1 q (List.getElem?_eq_some_iff.1 hy).1]; exact hy
    have c0' : wr.cell? ⟨bb1, oo1 + j * 13, none⟩ = some (.string c0) := hk1 0 _ rfl
    have c1' : wr.cell? ⟨bb1, oo1 + j * 13 + 1, none⟩ = some (.string c1) := hk1 1 _ rfl
    have c2' : wr.cell? ⟨bb1, oo1 + j * 13 + 2, none⟩ = some (.slice a2 n2 p2) := hk1 2 _ rfl
    have c3' : wr.cell? ⟨bb1, oo1 + j * 13 + 3, none⟩ = some (.int .u8 c3) := hk1 3 _ rfl
    have c4' : wr.cell? ⟨bb1, oo1 + j * 13 + 4, none⟩ = some (.int .i64 c4) := hk1 4 _ rfl
    have c5' : wr.cell? ⟨bb1, oo1 + j * 13 + 5, none⟩ = some (.string c5) := hk1 5 _ rfl
    have c6' : wr.cell? ⟨bb1, oo1 + j * 13 + 6, none⟩ = some (.slice a6 n6 p6) := hk1 6 _ rfl
    have c7' : wr.cell? ⟨bb1, oo1 + j * 13 + 7, none⟩ = some (.slice a7 n7 p7) := hk1 7 _ rfl
    have c8' : wr.cell? ⟨bb1, oo1 + j * 13 + 8, none⟩ = some (.slice a8 n8 p8) := hk1 8 _ rfl
    have c9' : wr.cell? ⟨bb1, oo1 + j * 13 + 9, none⟩ = some (.int .u8 c9) := hk1 9 _ rfl
    have c10' : wr.cell? ⟨bb1, oo1 + j * 13 + 10, none⟩ = some (.slice a10 n10 p10) := hk1 10 _ rfl
    have c11' : wr.cell? ⟨bb1, oo1 + j * 13 + 11, none⟩ = some (.slice a11 n11 p11) := hk1 11 _ rfl
    have c12' : wr.cell? ⟨bb1, oo1 + j * 13 + 12, none⟩ = some (.string c12) := hk1 12 _ rfl
    clear hk1 hr1 hat1 hc1 hlow
    go_wp2_with fail
    refine (HE.out _ (Below.refl _ _)).mono ?_
    rintro e w1 ⟨⟨z, hz, rfl⟩, hb2⟩
    have HB1 := Lib.hid (HBR.out.trans (hb2.mono HBR.out.size))
    clear hb2 HE c0' c1' c2' c3' c4' c5' c6' c7' c8' c9' c10' c11' c12'
    go_wp2_with fail
    go_roundw
    case rel => exact ⟨j + 1, _, by omega, by go_num, rfl, wrap_r _, HB1.out⟩
    case measure => simp [intOf]; try omega
theorem size_tree (w0 : World) : ∀ t : T, (Wf 0 t → OX0 w0 t) ∧ (Wf 1 t → OX1 w0 t) ∧ (Wf 2 t → OX2 w0 t) := by
  intro t
  induction t with
  | sc v => exact ⟨fun h => h.elim, fun h => h.elim, fun h => h.elim⟩
  | ls n k row ih =>
    have step : ∀ i o, WE (row i) o → OE w0 (row i) o := fun i o hw =>
      sizeE_step w0 (row i) o hw ((ih i (o + 3)).1 hw.2.2.2.1) (sizeL3 w0 _ hw.2.2.2.2.1) ((ih i (o + 5)).1 hw.2.2.2.2.2.1) ((ih i (o + 7)).1 hw.2.2.2.2.2.2.2.1) ((ih i (o + 8)).2.1 hw.2.2.2.2.2.2.2.2.1)
    refine ⟨fun hw => ?_, fun hw => ?_, fun hw => ?_⟩
    · obtain ⟨rfl, h⟩ := (wf0 _ _ _).1 hw
      exact sizeL0 w0 n row h fun i hi => step i 0 (h i hi)
    · obtain ⟨rfl, h⟩ := (wf1 _ _ _).1 hw
      exact sizeL1 w0 n row h fun i hi => sizeA_step w0 (row i) (h i hi) (step i 2 (h i hi).2.2)
    · obtain ⟨rfl, h⟩ := (wf2 _ _ _).1 hw
      exact sizeL2 w0 n row h fun i hi => sizeS_step w0 (row i) (h i hi) (step i 3 (h i hi).2.2.2.1) ((ih i 13).1 (h i hi).2.2.2.2.1) ((ih i 14).2.1 (h i hi).2.2.2.2.2.1) ((ih i 15).2.1 (h i hi).2.2.2.2.2.2.1) ((ih i 16).2.2 (h i hi).2.2.2.2.2.2.2)
theorem sizeE_any (w0 : World) (row : Nat → T) (o : Nat) (hw : WE row o) : OE w0 row o :=
  sizeE_step w0 row o hw ((size_tree w0 _).1 hw.2.2.2.1) (sizeL3 w0 _ hw.2.2.2.2.1) ((size_tree w0 _).1 hw.2.2.2.2.2.1) ((size_tree w0 _).1 hw.2.2.2.2.2.2.2.1) ((size_tree w0 _).2.1 hw.2.2.2.2.2.2.2.2.1)
theorem sizeC_any (w0 : World) (row : Nat → T) (hw : WC row) : OC w0 row := sizeC_step w0 row hw (sizeE_any w0 row 3 hw.2.2.2) ((size_tree w0 _).2.2 hw.2.2.1)
theorem sizes_any (w0 : World) (n : Nat) (row : Nat → Nat → T) (hw : ∀ i, i < n → WC (row i)) : OX4 w0 (.ls n 13 row) := sizeL4 w0 n row hw fun i hi => sizeC_any w0 (row i) (hw i hi)
set_option maxRecDepth 100000 in
theorem program_size (w0 : World) (n : Nat) (row : Nat → Nat → T) (hw : ∀ i, i < n → WC (row i)) (W : World) (a : Value) (hb : Below w0.heap.size w0 W) (hr : (T.ls n 13 row).Rep w0 (fun _ => True) a) :
    Calls Tryz.prog 14 #[a] W fun e W' => (∃ n : Int, R64 n ∧ e = .returned (.int .i64 n)) ∧ Below W.heap.size W W' := by
  have H := Lib.hid (sizes_any w0 n row hw W a hb hr)
  clear hr hb hw
  go_enter Tryz.func14, Tryz.ntmps14
  go_wp2_with fail
  refine H.out.mono ?_
  rintro e1 w1 ⟨⟨z, hz, rfl⟩, hb1⟩
  have HB := Lib.hid hb1
  clear hb1
  go_wp2_with fail
  try go_ret
  exact ⟨⟨_, hz, rfl⟩, HB.out⟩
set_option maxHeartbeats 400000 in
theorem beyond_open (w : World) (b o n c : Nat) (g : Nat → Int) (hn : n ≤ 1000) (h : ∀ j, j < n → w.cell? ⟨b, o + j, none⟩ = some (.int .i64 (g j))) (hg : ∀ i, R64 (g i)) :
    Calls Tryz.prog 13 #[.slice (some ⟨b, o, none⟩) n c] w fun e w' => (∃ q : Bool, e = .returned (.bool q)) ∧ w = w' := by
  have H := Lib.hid h
  have HG := Lib.hid hg
  have hn64 : R64 0 := ⟨by decide, by decide⟩
  clear h hg
  go_enter Tryz.func13, Tryz.ntmps13
  go_wp2_with fail
  go_loopw [3, 4] (fun m i wr => ∃ (k : Nat) (q : Int), k ≤ n ∧ i = .int .i64 k ∧ m = .int .i64 q ∧ R64 q ∧ w = wr) (fun _ i _ => n - (intOf i).toNat)
  case atStart => exact ⟨0, 0, Nat.zero_le _, rfl, rfl, hn64, rfl⟩
  case round =>
    obtain ⟨k, q, hk, rfl, rfl, hq, rfl⟩ := hrel
    by_cases hlt : k < n
    · have hy := H.out k hlt
      have hm2 := HG.out k
      by_cases h1 : 1048576 < wrap64 (q + g k)
      · generalize g k = y at hm2 hy h1
        go_wp2_with fail
        go_ret
        exact ⟨⟨_, rfl⟩, rfl⟩
      · generalize g k = y at hm2 hy h1
        go_wp2_with fail
        go_roundw
        case rel => exact ⟨k + 1, _, by omega, by go_num, rfl, wrap_r _, trivial⟩
        case measure => simp [intOf]; omega
    · obtain rfl : n = k := by omega
      go_wp2_with fail
      go_ret
      exact ⟨⟨_, rfl⟩, rfl⟩
end Go.Proofs.YtedmmgfnplbkjaaGreatDoor.PR
