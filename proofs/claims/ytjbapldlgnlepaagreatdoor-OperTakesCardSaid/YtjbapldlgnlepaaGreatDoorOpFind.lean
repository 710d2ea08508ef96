/-
  Walks: rows, find, takes of package oper: which operation has a name, and how many values it takes.
  Conditions: none.
  Walks: find, takes, Takes of package oper.
  Conditions: none.
  Every operation by its row's number ('op_any').
  Conditions: the values lie in memory, and may be, and are as many as the operation takes; the three tables hold what the program's text lays in them.
  Walks: Takes of package oper.
  Conditions: none.
-/
import Derived.Test.YtjbapldlgnlepaaGreatDoorOpTwo
import Derived.Test.YtjbapldlgnlepaaGreatDoorOpTxt
import Derived.Test.YtjbapldlgnlepaaGreatDoorOpPush
import Derived.Test.YtjbapldlgnlepaaGreatDoorOpCat
namespace Go.Proofs.YtjbapldlgnlepaaGreatDoor
open Go.RowKit Go.Deep Go.WideShapes

/-- What stands in the rows' last field. -/
def opFn : Nat → FuncId
  | 0 => 83 | 1 => 84 | 2 => 85 | 3 => 86 | 4 => 87 | 5 => 88 | 6 => 89
  | 7 => 90 | 8 => 91 | 9 => 92 | 10 => 93 | 11 => 94 | _ => 95
def rowCells (nm : ByteArray) (a b : Int) (f : FuncId) : List Value := [.string nm, .int .i64 a, .int .i64 b, .func (Fn.func f) #[] #[]]
def rowOf (k : Nat) : List Value := rowCells (opName k) (opLeast k) (opMost k) (opFn k)

def RowsIn (W : World) (g : Nat) : Prop := ∀ i, i < 13 → At W g (i * 4) (rowOf i)
theorem RowsIn.below {W W' : World} {g : Nat} (h : RowsIn W g) (hb : Below W.heap.size W W') : RowsIn W' g := fun i hi => (h i hi).below hb

theorem rowsIn_new (w : World) (T : TypeId) : RowsIn (w.alloc (.cells (rowOf 0 ++ rowOf 1 ++ rowOf 2 ++ rowOf 3 ++ rowOf 4 ++ rowOf 5 ++ rowOf 6 ++ rowOf 7 ++ rowOf 8 ++ rowOf 9 ++ rowOf 10 ++ rowOf 11 ++ rowOf 12).toArray T)) w.heap.size := by
  intro i hi
  have h := at_new (w := w) (cs := (rowOf 0 ++ rowOf 1 ++ rowOf 2 ++ rowOf 3 ++ rowOf 4 ++ rowOf 5 ++ rowOf 6 ++ rowOf 7 ++ rowOf 8 ++ rowOf 9 ++ rowOf 10 ++ rowOf 11 ++ rowOf 12)) (T := T) rfl (Below.refl _ _)
  rw [← Nat.zero_add (i * 4)]
  match i, hi with
  | 0, _ => exact h.sub 0 (tl := _) rfl
  | 1, _ => exact h.sub 4 (tl := _) rfl
  | 2, _ => exact h.sub 8 (tl := _) rfl
  | 3, _ => exact h.sub 12 (tl := _) rfl
  | 4, _ => exact h.sub 16 (tl := _) rfl
  | 5, _ => exact h.sub 20 (tl := _) rfl
  | 6, _ => exact h.sub 24 (tl := _) rfl
  | 7, _ => exact h.sub 28 (tl := _) rfl
  | 8, _ => exact h.sub 32 (tl := _) rfl
  | 9, _ => exact h.sub 36 (tl := _) rfl
  | 10, _ => exact h.sub 40 (tl := _) rfl
  | 11, _ => exact h.sub 44 (tl := _) rfl
  | 12, _ => exact h.sub 48 (tl := []) rfl

set_option maxRecDepth 100000 in
set_option maxHeartbeats 2000000 in
theorem rows_any (w : World) : Calls Tryz.prog 19 #[] w fun e w' => e = .returned (.slice (some ⟨w.heap.size, 0, none⟩) 13 13) ∧ RowsIn w' w.heap.size ∧ Below w.heap.size w w' := by
  have HR := Lib.hid (rowsIn_new w 63)
  have HB := Lib.hid (fun O => below_alloc w O)
  go_enter Tryz.func19, Tryz.ntmps19
  go_wp2_with fail
  go_ret
  exact ⟨rfl, HR.out, HB.out _⟩
end Go.Proofs.YtjbapldlgnlepaaGreatDoor
namespace Go.Proofs.YtjbapldlgnlepaaGreatDoor
open Go.RowKit Go.Deep Go.WideShapes

/-- The rows, and the result's variable, the first block behind 'w'. -/
structure FW (w W : World) : Prop where
  low : Below w.heap.size w W
  rows : RowsIn W (w.heap.size + 1)
  res : ∀ i, i < 4 → (∃ v, W.cell? ⟨w.heap.size, i, none⟩ = some v) ∧ W.frozen? ⟨w.heap.size, i, none⟩ = false
theorem FW.below {w W W' : World} (h : FW w W) (hb : Below W.heap.size W W') : FW w W' := by
  refine ⟨h.low.trans (hb.mono h.low.size), h.rows.below hb, fun i hi => ?_⟩
  obtain ⟨⟨v, h1⟩, h2⟩ := h.res i hi
  exact ⟨⟨v, by rw [hb.cell (World.block_lt_of_cell? _ _ h1), h1]⟩, by rw [hb.frozen (World.block_lt_of_cell? _ _ h1), h2]⟩
theorem FW.rcells {w W : World} (h : FW w W) :
    (W.cell? ⟨w.heap.size, 0, none⟩ = some (rs W w.heap.size 0) ∧ W.cell? ⟨w.heap.size, 1, none⟩ = some (rs W w.heap.size 1) ∧ W.cell? ⟨w.heap.size, 2, none⟩ = some (rs W w.heap.size 2) ∧ W.cell? ⟨w.heap.size, 3, none⟩ = some (rs W w.heap.size 3)) ∧
    (W.frozen? ⟨w.heap.size, 0, none⟩ = false ∧ W.frozen? ⟨w.heap.size, 1, none⟩ = false ∧ W.frozen? ⟨w.heap.size, 2, none⟩ = false ∧ W.frozen? ⟨w.heap.size, 3, none⟩ = false) :=
  ⟨⟨rs_some (h.res 0 (by decide)).1.choose_spec, rs_some (h.res 1 (by decide)).1.choose_spec, rs_some (h.res 2 (by decide)).1.choose_spec, rs_some (h.res 3 (by decide)).1.choose_spec⟩,
    (h.res 0 (by decide)).2, (h.res 1 (by decide)).2, (h.res 2 (by decide)).2, (h.res 3 (by decide)).2⟩

theorem at4 {w : World} {b o : Nat} {nm : ByteArray} {x y : Int} {f : FuncId} (h : At w b o (rowCells nm x y f)) :
    w.cell? ⟨b, o, none⟩ = some (.string nm) ∧ w.cell? ⟨b, o + 1, none⟩ = some (.int .i64 x) ∧ w.cell? ⟨b, o + 2, none⟩ = some (.int .i64 y) ∧ w.cell? ⟨b, o + 3, none⟩ = some (.func (Fn.func f) #[] #[]) := by
  refine ⟨?_, ?_, ?_, ?_⟩
  · simpa [rowCells] using h 0 (by simp [rowCells])
  · simpa [rowCells] using h 1 (by simp [rowCells])
  · simpa [rowCells] using h 2 (by simp [rowCells])
  · simpa [rowCells] using h 3 (by simp [rowCells])

theorem at4' {w : World} {b : Nat} {nm : ByteArray} {x y : Int} {f : FuncId} (h : At w b 0 [.string nm, .int .i64 x, .int .i64 y, .func (Fn.func f) #[] #[]]) :
    w.cell? ⟨b, 0, none⟩ = some (.string nm) ∧ w.cell? ⟨b, 1, none⟩ = some (.int .i64 x) ∧ w.cell? ⟨b, 2, none⟩ = some (.int .i64 y) ∧ w.cell? ⟨b, 3, none⟩ = some (.func (Fn.func f) #[] #[]) := by
  refine ⟨?_, ?_, ?_, ?_⟩
  · simpa using h 0 (by simp)
  · simpa using h 1 (by simp)
  · simpa using h 2 (by simp)
  · simpa using h 3 (by simp)

/-- What find answers. -/
def Found (name : ByteArray) (e : Ending) : Prop := match opAt name with
  | some k => e = .returned (.tuple #[.agg (rowOf k).toArray, .bool true])
  | none => e = .returned (.tuple #[.agg #[.string ⟨#[]⟩, .int .i64 0, .int .i64 0, .nilFunc], .bool false])
theorem found_some {name : ByteArray} {k : Nat} {e : Ending} (h : opAt name = some k) (he : e = .returned (.tuple #[.agg (rowOf k).toArray, .bool true])) : Found name e := by
  unfold Found; rw [h]; exact he
theorem found_none {name : ByteArray} {e : Ending} (h : opAt name = none) (he : e = .returned (.tuple #[.agg #[.string ⟨#[]⟩, .int .i64 0, .int .i64 0, .nilFunc], .bool false])) : Found name e := by
  unfold Found; rw [h]; exact he

set_option maxRecDepth 100000 in
set_option maxHeartbeats 2000000 in
theorem find_any (name : ByteArray) (w : World) : Calls Tryz.prog 18 #[.string name] w fun e w' => Found name e ∧ Below w.heap.size w w' := by
  have HS : Hid (∀ k, k < 13 → NoneTo k opName name → opName k = name → ∀ nm a b f, rowOf k = rowCells nm a b f → ∀ e, e = .returned (.tuple #[.agg (rowCells nm a b f).toArray, .bool true]) → Found name e) := by
    intro k hk hn he nm a b f hr e h
    exact found_some (findF_some hk he hn) (by rw [hr]; exact h)
  have HN : Hid (NoneTo 13 opName name → ∀ e, e = .returned (.tuple #[.agg #[.string ⟨#[]⟩, .int .i64 0, .int .i64 0, .nilFunc], .bool false]) → Found name e) := fun hn _ h => found_none (findF_none hn) h
  have KS := Lib.hid (fun W (h : FW w W) => And.intro h h.rcells)
  have HRW := Lib.hid (fun W => rows_any W)
  go_enter Tryz.func18, Tryz.ntmps18
  go_upto_region 1 with fail
  have HF0 : Hid (∀ w1, RowsIn w1 (w.heap.size + 1) → Below (w.heap.size + 1) (w.alloc (.cells #[.string ⟨#[]⟩, .int .i64 0, .int .i64 0, .nilFunc] 63)) w1 → FW w w1) := by
    intro w1 h1 h2
    refine ⟨(below_alloc _ _).trans (h2.mono (by omega)), h1, fun i hi => ?_⟩
    have hc := at_new (w := w) (cs := [.string ⟨#[]⟩, .int .i64 0, .int .i64 0, .nilFunc]) (T := 63) rfl h2 i hi
    rw [Nat.zero_add] at hc
    exact ⟨⟨_, hc.trans (List.getElem?_eq_getElem hi)⟩, by rw [h2.frozen (p := ⟨w.heap.size, i, none⟩) (by simp)]; simp⟩
  have hzs : (w.alloc (.cells #[.string ⟨#[]⟩, .int .i64 0, .int .i64 0, .nilFunc] 63)).heap.size = w.heap.size + 1 := by simp
  have HZS := Lib.hid hzs
  clear hzs
  revert HZS HF0
  generalize w.alloc (.cells #[.string ⟨#[]⟩, .int .i64 0, .int .i64 0, .nilFunc] 63) = W0
  intro HF0 HZS
  go_wp2_with (go_at_call 19; (with_reducible refine (HRW.out _).mono ?_); rintro x w1 ⟨rfl, h1, h2⟩)
  rw [HZS.out] at h1 h2 ⊢
  have HFW := Lib.hid (HF0.out w1 h1 h2)
  clear h1 h2 HZS HF0 HRW
  go_loopw [8] (fun i wr => ∃ k : Nat, i = .int .i64 k ∧ k ≤ 13 ∧ NoneTo k opName name ∧ FW w wr) (fun i _ => 13 - (intOf i).toNat)
  case atStart => exact ⟨0, rfl, by omega, NoneTo.zero, HFW.out⟩
  case round =>
    obtain ⟨k, rfl, hk, hnone, hfw⟩ := hrel
    have HNO := Lib.hid hnone
    have HW := Lib.hid hfw
    clear hnone HFW
    obtain ⟨-, ⟨d0, d1, d2, d3⟩, z0, z1, z2, z3⟩ := KS.out _ hfw
    clear hfw
    by_cases hlt : k < 13
    · have hlt' : (k : Int) < 13 := by omega
      have hk0 : (0 : Int) ≤ (k : Int) := by omega
      have hat := HW.out.rows k hlt
      have HSk := Lib.hid (HS.out k hlt HNO.out)
      have HNk := Lib.hid (fun hne => HNO.out.succ (k := k) hne)
      obtain ⟨nm, hnm⟩ : ∃ nm, opName k = nm := ⟨_, rfl⟩
      obtain ⟨x, hx⟩ : ∃ x, opLeast k = x := ⟨_, rfl⟩
      obtain ⟨y, hy⟩ : ∃ y, opMost k = y := ⟨_, rfl⟩
      obtain ⟨f, hf⟩ : ∃ f, opFn k = f := ⟨_, rfl⟩
      have hro : rowOf k = rowCells nm x y f := by rw [rowOf, hnm, hx, hy, hf]
      rw [hro] at hat
      rw [hnm] at HSk HNk
      have HRO := Lib.hid hro
      clear hnm hx hy hf hro
      obtain ⟨c0, c1, c2, c3⟩ := at4 hat
      clear hat
      have HBX := Lib.hid (And.intro (HW.out.below (below_alloc wr (.cells #[.string nm, .int .i64 x, .int .i64 y, .func (Fn.func f) #[] #[]] 63))) (at_new (w := wr) (cs := rowCells nm x y f) (T := 63) rfl (Below.refl _ _)))
      go_upto_region 4 with fail
      simp only [rowCells] at HBX
      revert HBX
      generalize wr.alloc (.cells #[.string nm, .int .i64 x, .int .i64 y, .func (Fn.func f) #[] #[]] 63) = W1
      intro HBX
      clear d0 d1 d2 d3 z0 z1 z2 z3 c0 c1 c2 c3
      obtain ⟨-, ⟨d0, d1, d2, d3⟩, z0, z1, z2, z3⟩ := KS.out _ HBX.out.1
      obtain ⟨c0, c1, c2, c3⟩ := at4' HBX.out.2
      by_cases he : nm = name
      · have HG := Lib.hid (HSk.out he nm x y f HRO.out)
        subst he
        go_wp2_with fail
        refine bodyPost_ret (v := .tuple #[.agg #[.string nm, .int .i64 x, .int .i64 y, .func (Fn.func f) #[] #[]], .bool true]) (by simp [results, Tryz.results18, go_sem, d0, d1, d2, d3]) rfl ⟨HG.out _ rfl, ?_⟩
        iterate 4 (with_reducible refine low_set ?_ _ _)
        exact HBX.out.1.low
      · have hq := bytes_ne he
        have HNE := Lib.hid (HNk.out he)
        clear he
        go_wp2_with fail
        go_roundw
        case rel => exact ⟨k + 1, by go_num, by omega, HNE.out, HBX.out.1⟩
        case measure => simp [intOf]; omega
    · obtain rfl : 13 = k := by omega
      have HG := Lib.hid (HN.out HNO.out)
      go_wp2_with fail
      refine bodyPost_ret (v := .tuple #[.agg #[.string ⟨#[]⟩, .int .i64 0, .int .i64 0, .nilFunc], .bool false]) (by simp [results, Tryz.results18, go_sem, d0, d1, d2, d3]) rfl ⟨HG.out _ rfl, ?_⟩
      iterate 4 (with_reducible refine low_set ?_ _ _)
      exact HW.out.low

set_option maxHeartbeats 1000000 in
theorem takes_any (nm : ByteArray) (a b : Int) (f : FuncId) (n : Int) (w : World) : Calls Tryz.prog 74 #[.agg (rowCells nm a b f).toArray, .int .i64 n] w fun e w' => e = .returned (.bool (takesB a b n)) ∧ Below w.heap.size w w' := by
  have HB := Lib.hid (fun O => below_alloc w O)
  unfold takesB
  by_cases h1 : a ≤ n
  · by_cases h2 : b = -1
    · subst h2
      simp only [rowCells]
      go_enter Tryz.func74, Tryz.ntmps74
      go_wp2_with fail
      go_ret
      exact ⟨by simp [h1], HB.out _⟩
    · have hq : (b == -1) = false := by simpa using h2
      by_cases h3 : n ≤ b
      all_goals
        simp only [rowCells]
        go_enter Tryz.func74, Tryz.ntmps74
        go_wp2_with fail
        go_ret
        exact ⟨by simp [h1, h2, h3], HB.out _⟩
  · have hq : decide (a ≤ n) = false := by simpa using h1
    simp only [rowCells]
    go_enter Tryz.func74, Tryz.ntmps74
    go_wp2_with fail
    go_ret
    exact ⟨by simp, HB.out _⟩
end Go.Proofs.YtjbapldlgnlepaaGreatDoor
namespace Go.Proofs.YtjbapldlgnlepaaGreatDoor
open Go.RowKit Go.Deep Go.WideShapes

theorem op_any {k : Nat} (hk : k < 13) (la : Option Addr) (ll lc : Nat) (L : Nat → V) (w : World) (h : Vals w la ll lc L) (hck : ∀ i, i < ll → (L i).check = true) (ht : Tabs w) (htk : takesB (opLeast k) (opMost k) ll = true) :
    Calls Tryz.prog (opFn k) #[.slice la ll lc] w (OpPost k ll L w) := by
  rcases k with _ | _ | _ | _ | _ | _ | _ | _ | _ | _ | _ | _ | _ | k
  · obtain rfl := takes2 htk; exact add_any la lc L w h
  · obtain rfl := takes2 htk; exact sub_any la lc L w h
  · obtain rfl := takes2 htk; exact mul_any la lc L w h
  · obtain rfl := takes2 htk; exact lt_any la lc L w h
  · obtain rfl := takes2 htk; exact eq_any la lc L w h
  · obtain rfl := takes1 htk; exact not_any la lc L w h
  · exact oCat_any la ll lc L w h hck ht
  · obtain rfl := takes1 htk; exact length_any la lc L w h
  · obtain rfl := takes2 htk; exact at_any la lc L w h
  · obtain rfl := takes2 htk; exact get_any la lc L w h
  · exact oList_any la ll lc L w h
  · obtain rfl := takes2 htk; exact push_any la lc L w h (hck 0 (by decide))
  · obtain rfl := takes1 htk; exact oText_any la lc L w h ht
  · omega

theorem run_enter {P : Program} {f : FuncId} {fn : Func} {c : Code} (hf : P.funcs[f]? = some fn) (hname : (fn.name == "runtime.NumGoroutine") = false) (hb : fn.body = some c) (args : Array Value) (w : World) :
    (callFunc f args).run P w = .ok (.enter f args) w := by
  have h1 : fn.name ≠ "runtime.NumGoroutine" := by simpa using hname
  simp [callFunc, hf, h1, hb]

/-- Each of them is a function with a body. -/
theorem enter_op {k : Nat} (hk : k < 13) (args : Array Value) (w : World) : (callFunc (opFn k) args).run Tryz.prog w = .ok (.enter (opFn k) args) w := by
  rcases k with _ | _ | _ | _ | _ | _ | _ | _ | _ | _ | _ | _ | _ | k
  · exact run_enter Tryz.func83 (by kernel_rfl) rfl args w
  · exact run_enter Tryz.func84 (by kernel_rfl) rfl args w
  · exact run_enter Tryz.func85 (by kernel_rfl) rfl args w
  · exact run_enter Tryz.func86 (by kernel_rfl) rfl args w
  · exact run_enter Tryz.func87 (by kernel_rfl) rfl args w
  · exact run_enter Tryz.func88 (by kernel_rfl) rfl args w
  · exact run_enter Tryz.func89 (by kernel_rfl) rfl args w
  · exact run_enter Tryz.func90 (by kernel_rfl) rfl args w
  · exact run_enter Tryz.func91 (by kernel_rfl) rfl args w
  · exact run_enter Tryz.func92 (by kernel_rfl) rfl args w
  · exact run_enter Tryz.func93 (by kernel_rfl) rfl args w
  · exact run_enter Tryz.func94 (by kernel_rfl) rfl args w
  · exact run_enter Tryz.func95 (by kernel_rfl) rfl args w
  · omega
end Go.Proofs.YtjbapldlgnlepaaGreatDoor
namespace Go.Proofs.YtjbapldlgnlepaaGreatDoor
open Go.RowKit Go.Deep Go.WideShapes

/-- What Takes answers. -/
def takeL (name : ByteArray) : Int := match opAt name with | some k => opLeast k | none => 0
def takeM (name : ByteArray) : Int := match opAt name with | some k => opMost k | none => 0
def takeB (name : ByteArray) : Bool := match opAt name with | some _ => true | none => false

theorem found_any {name : ByteArray} {e : Ending} (h : Found name e) : ∃ nm f, e = .returned (.tuple #[.agg #[.string nm, .int .i64 (takeL name), .int .i64 (takeM name), f], .bool (takeB name)]) ∧ (f = .nilFunc ∨ ∃ g, f = .func (Fn.func g) #[] #[]) := by
  unfold Found at h
  unfold takeL takeM takeB
  cases hk : opAt name with
  | none => rw [hk] at h; exact ⟨_, _, h, .inl rfl⟩
  | some k => rw [hk] at h; exact ⟨_, _, h, .inr ⟨_, rfl⟩⟩

set_option maxRecDepth 100000 in
set_option maxHeartbeats 2000000 in
theorem oTakes_any (name : ByteArray) (w : World) : Calls Tryz.prog 5 #[.string name] w fun e w' => e = .returned (.tuple #[.int .i64 (takeL name), .int .i64 (takeM name), .bool (takeB name)]) ∧ Below w.heap.size w w' := by
  have HF := Lib.hid (fun W => (find_any name W).mono (R' := fun e w' => ∃ nm f, e = .returned (.tuple #[.agg #[.string nm, .int .i64 (takeL name), .int .i64 (takeM name), f], .bool (takeB name)]) ∧ (f = .nilFunc ∨ ∃ g, f = .func (Fn.func g) #[] #[]) ∧ Below W.heap.size W w') (fun e w' ⟨h1, h2⟩ => let ⟨nm, f, q1, q2⟩ := found_any h1; ⟨nm, f, q1, q2, h2⟩))
  generalize takeL name = x at HF ⊢
  generalize takeM name = y at HF ⊢
  generalize takeB name = b at HF ⊢
  go_enter Tryz.func5, Tryz.ntmps5
  go_wp2_with (go_at_call 18; (with_reducible refine (HF.out _).mono ?_); rintro q w1 ⟨nm, f, rfl, hf, hb1⟩; have HB := Lib.hid hb1; clear hb1; rcases hf with rfl | ⟨g, rfl⟩)
  all_goals
    go_quiet (fail)
    go_wp2_with fail
    go_ret3
    exact ⟨rfl, below_drewN (HB.out.alloc HB.out.size _) _⟩
end Go.Proofs.YtjbapldlgnlepaaGreatDoor
