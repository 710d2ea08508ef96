/-
  NormAlike: for any two children the code and the document's answer say the same: the law returns true and leaves its arguments as they were.
  Conditions: none beyond the row's own.
-/
import Derived.Test.YtecmghfofcofpaaVal
import Derived.Test.YtecmghfofcofpaaRows
import Derived.WalkKit
import Derived.WalkSpells
import Derived.WalkLawsBesides
import Derived.Lib.Hide
import Derived.Deep.QuietTactic
import Derived.BigQuiet
import Derived.ChangeSame
import Derived.JoinedOf
import Derived.JoinedAt
import Derived.RowKit
import Derived.RowKit2
import Derived.ReadAgain
import Derived.ChangeAlike
import Derived.ProofKit
import Derived.Deep.RegionHeld3
import Derived.Deep.Heap
namespace Go.Proofs.Ytecmghfofcofpaa
set_option linter.unusedVariables false
set_option linter.unusedSimpArgs false
open Go.ChangeShapes Go.WideShapes Go.ChangeAt Go.RowKit Go.Deep

theorem bytes_ne {a b : ByteArray} (h : ¬ a = b) : (a.toList == b.toList) = false := by
  rw [beq_eq_false_iff_ne, ByteArray.toList_eq, ByteArray.toList_eq]
  exact fun e => h (WideShapes.bytes_inj e)
theorem Try.own : ownKnob Try.prog.godebug = none := by kernel_rfl
theorem Try.laidOut : laidOutB Try.prog = true := by kernel_rfl

/-- A child: its key, its kind, its name, its value. -/
structure C where
  key : ByteArray
  kind : Int
  name : ByteArray
  val : V
def C.cells (c : C) : List Value := .string c.key :: .int .u8 c.kind :: .string c.name :: c.val.cells
def C.agg (c : C) : Value := .agg c.cells.toArray
def C.In (w : World) (c : C) : Prop := c.key.size ≤ maxLen ∧ (0 ≤ c.kind ∧ c.kind ≤ 255) ∧ c.name.size ≤ maxLen ∧ c.val.In w
theorem C.In.below {w w' : World} (hb : Below w.heap.size w w') {c : C} (h : c.In w) : c.In w' := ⟨h.1, h.2.1, h.2.2.1, h.2.2.2.below hb⟩
/-- Are two alike? -/
def C.alike (c d : C) : Bool := decide (c.kind = d.kind) && decide (c.name = d.name)
set_option maxHeartbeats 1000000 in
theorem alike_any (c d : C) (w : World) (hc : c.val.In w) (hd : d.val.In w) :
    Calls Try.prog 4 #[c.agg, d.agg] w fun x w' => x = .returned (.bool (c.alike d)) ∧ Below w.heap.size w w' := by
  obtain ⟨key, k, s, v⟩ := c
  obtain ⟨key', k', s', u⟩ := d
  cases v with
  | leaf => exact hc.elim
  | mk vk vn vs la ll lc L fa fl fc fn F e vkey hk =>
  cases u with
  | leaf => exact hd.elim
  | mk vk' vn' vs' la' ll' lc' L' fa' fl' fc' fn' F' e' vkey' hk' =>
  clear hc hd
  have hlow : Hid (∀ (O O' : Obj) (m : Nat), Below w.heap.size w (((w.alloc O).alloc O').drewN m)) := fun O O' m => below_drewN (((Below.refl _ _).alloc (Nat.le_refl _) _).alloc (by simp) _) m
  simp only [C.agg, C.cells, V.cells]
  by_cases e0 : k = k'
  · subst e0
    by_cases e1 : s = s'
    · subst e1
      have H := Lib.hid (show Ending.returned (.bool true) = .returned (.bool (C.alike ⟨key, k, s, (V.mk vk vn vs la ll lc L fa fl fc fn F e vkey hk)⟩ ⟨key', k, s, (V.mk vk' vn' vs' la' ll' lc' L' fa' fl' fc' fn' F' e' vkey' hk')⟩)) by simp [C.alike])
      go_enter Try.func4, Try.ntmps4
      go_wp2_with fail
      go_ret
      exact ⟨H.out, hlow.out _ _ 0⟩
    · have q4 : (s.toList == s'.toList) = false := bytes_ne e1
      have H := Lib.hid (show Ending.returned (.bool false) = .returned (.bool (C.alike ⟨key, k, s, (V.mk vk vn vs la ll lc L fa fl fc fn F e vkey hk)⟩ ⟨key', k, s', (V.mk vk' vn' vs' la' ll' lc' L' fa' fl' fc' fn' F' e' vkey' hk')⟩)) by simp [C.alike, e1])
      clear e1
      go_enter Try.func4, Try.ntmps4
      go_wp2_with fail
      go_ret
      exact ⟨H.out, hlow.out _ _ 0⟩
  · have q3 : (k == k') = false := by simp [e0]
    have H := Lib.hid (show Ending.returned (.bool false) = .returned (.bool (C.alike ⟨key, k, s, (V.mk vk vn vs la ll lc L fa fl fc fn F e vkey hk)⟩ ⟨key', k', s', (V.mk vk' vn' vs' la' ll' lc' L' fa' fl' fc' fn' F' e' vkey' hk')⟩)) by simp [C.alike, e0])
    clear e0
    go_enter Try.func4, Try.ntmps4
    go_wp2_with fail
    go_ret
    exact ⟨H.out, hlow.out _ _ 0⟩
set_option maxHeartbeats 1000000 in
theorem ralike_any (c d : C) (w : World) (hc : c.val.In w) (hd : d.val.In w) :
    Calls Try.prog 5 #[c.agg, d.agg] w fun x w' => x = .returned (.bool (c.alike d)) ∧ Below w.heap.size w w' := by
  obtain ⟨key, k, s, v⟩ := c
  obtain ⟨key', k', s', u⟩ := d
  cases v with
  | leaf => exact hc.elim
  | mk vk vn vs la ll lc L fa fl fc fn F e vkey hk =>
  cases u with
  | leaf => exact hd.elim
  | mk vk' vn' vs' la' ll' lc' L' fa' fl' fc' fn' F' e' vkey' hk' =>
  clear hc hd
  have hlow : Hid (∀ (O O' : Obj) (m : Nat), Below w.heap.size w (((w.alloc O).alloc O').drewN m)) := fun O O' m => below_drewN (((Below.refl _ _).alloc (Nat.le_refl _) _).alloc (by simp) _) m
  simp only [C.agg, C.cells, V.cells]
  by_cases e0 : k = k'
  · subst e0
    by_cases e1 : s = s'
    · subst e1
      have H := Lib.hid (show Ending.returned (.bool true) = .returned (.bool (C.alike ⟨key, k, s, (V.mk vk vn vs la ll lc L fa fl fc fn F e vkey hk)⟩ ⟨key', k, s, (V.mk vk' vn' vs' la' ll' lc' L' fa' fl' fc' fn' F' e' vkey' hk')⟩)) by simp [C.alike])
      go_enter Try.func5, Try.ntmps5
      go_wp2_with fail
      go_ret
      exact ⟨H.out, hlow.out _ _ 0⟩
    · have q4 : (s.toList == s'.toList) = false := bytes_ne e1
      have H := Lib.hid (show Ending.returned (.bool false) = .returned (.bool (C.alike ⟨key, k, s, (V.mk vk vn vs la ll lc L fa fl fc fn F e vkey hk)⟩ ⟨key', k, s', (V.mk vk' vn' vs' la' ll' lc' L' fa' fl' fc' fn' F' e' vkey' hk')⟩)) by simp [C.alike, e1])
      clear e1
      go_enter Try.func5, Try.ntmps5
      go_wp2_with fail
      go_ret
      exact ⟨H.out, hlow.out _ _ 0⟩
  · have q3 : (k == k') = false := by simp [e0]
    have H := Lib.hid (show Ending.returned (.bool false) = .returned (.bool (C.alike ⟨key, k, s, (V.mk vk vn vs la ll lc L fa fl fc fn F e vkey hk)⟩ ⟨key', k', s', (V.mk vk' vn' vs' la' ll' lc' L' fa' fl' fc' fn' F' e' vkey' hk')⟩)) by simp [C.alike, e0])
    clear e0
    go_enter Try.func5, Try.ntmps5
    go_wp2_with fail
    go_ret
    exact ⟨H.out, hlow.out _ _ 0⟩
/-- What the type table says of a child's type. -/
structure CTypes (P : Program) (tc tv : TypeId) where
  (f0 f1 f2 f3 : Field)
  hc : P.underlying tc = some (.struct #[f0, f1, f2, f3])
  cc : P.cellsOf tc = 11
  t0 : P.underlying f0.type = some .string ∧ P.cellsOf f0.type = 1 ∧ f0.offset = 0
  t1 : P.underlying f1.type = some (.int .u8) ∧ P.cellsOf f1.type = 1 ∧ f1.offset = 1
  t2 : P.underlying f2.type = some .string ∧ P.cellsOf f2.type = 1 ∧ f2.offset = 2
  t3 : f3.type = tv ∧ P.cellsOf f3.type = 8 ∧ f3.offset = 3

theorem open_C {H : Type} {enc : TypeId × Value → H} {P : Program} {w : World} {base : Nat} {held : Bool} {tc tv tsl tsf tf : TypeId} (T : VTypes P tv tsl tsf tf) (U : CTypes P tc tv) {spare : Nat → Bool} (fuel : Nat) (cs : List Value) (x : DataW H × List MemPlace) (h : DataW.trod enc P w base spare held fuel tc cs = some x) :
    ∃ c : C, cs = c.cells ∧ c.In w := by
  obtain ⟨xs, m, rfl, rfl, hl, hlen, hf⟩ := DataW.trod_struct U.hc h
  rw [U.cc] at hl
  match xs, hlen, cs, hl with
  | [y0, y1, y2, y3], _, [v0, v1, v2, v3, v4, v5, v6, v7, v8, v9, v10], _ =>
    have g0 := hf 0 U.f0 rfl
    have g1 := hf 1 U.f1 rfl
    have g2 := hf 2 U.f2 rfl
    have g3 := hf 3 U.f3 rfl
    rw [U.t0.2.2, U.t0.2.1] at g0
    rw [U.t1.2.2, U.t1.2.1] at g1
    rw [U.t2.2.2, U.t2.2.1] at g2
    rw [U.t3.2.2, U.t3.2.1, U.t3.1] at g3
    simp at g0 g1 g2 g3
    obtain ⟨s, hv0, -, ws⟩ := DataW.trod_string U.t0.1 g0
    obtain ⟨k, hv1, -, wk⟩ := DataW.trod_int U.t1.1 g1
    obtain ⟨n, hv2, -, wn⟩ := DataW.trod_string U.t2.1 g2
    simp at hv0 hv1 hv2
    subst hv0 hv1 hv2
    obtain ⟨v, hv, hin⟩ := open_V T _ _ _ g3
    exact ⟨⟨s, k, n, v⟩, by rw [C.cells, ← hv], ws, wf_u8 wk, wn, hin⟩

set_option maxRecDepth 100000 in
/-- An argument of type api.Child opens into a child that lies in memory. -/
theorem open_child {H : Type} {enc : TypeId × Value → H} {W : World} {base : Nat} {v : Value} {d : DataW H} {p : List MemPlace} (hv : Value.okWide Try.prog W .any base 29 v)
    (h : DataW.Trod enc Try.prog W 0 (fun _ => true) true 29 v d p) : ∃ x : C, v = x.agg ∧ x.In W := by
  have T : VTypes Try.prog 27 24 25 48 :=
    { tk := 0, tn := 0, ts := 0, te := 0, tb := 0, tfv := 0, tfn := 0, f0 := _, f1 := _, f2 := _, f3 := _, f4 := _, f5 := _, f6 := _, f7 := _, g0 := _, g1 := _,
      hv := Try.underlying27, cv := by kernel_rfl, hsl := Try.underlying24, hsf := Try.underlying25, hf := Try.underlying48, cf := by kernel_rfl,
      t0 := ⟨by kernel_rfl, by kernel_rfl, rfl⟩, t1 := ⟨by kernel_rfl, by kernel_rfl, rfl⟩, t2 := ⟨by kernel_rfl, by kernel_rfl, rfl⟩, t3 := ⟨rfl, by kernel_rfl, rfl⟩, t4 := ⟨rfl, by kernel_rfl, rfl⟩,
      t5 := ⟨by kernel_rfl, by kernel_rfl, rfl⟩, t6 := ⟨by kernel_rfl, by kernel_rfl, rfl⟩, t7 := ⟨by kernel_rfl, by kernel_rfl, rfl⟩, s0 := ⟨by kernel_rfl, by kernel_rfl, rfl⟩, s1 := ⟨rfl, by kernel_rfl, rfl⟩ }
  have U : CTypes Try.prog 29 27 :=
    { f0 := _, f1 := _, f2 := _, f3 := _, hc := Try.underlying29, cc := by kernel_rfl, t0 := ⟨by kernel_rfl, by kernel_rfl, rfl⟩, t1 := ⟨by kernel_rfl, by kernel_rfl, rfl⟩, t2 := ⟨by kernel_rfl, by kernel_rfl, rfl⟩, t3 := ⟨rfl, by kernel_rfl, rfl⟩ }
  obtain ⟨cs, rfl, -⟩ := okWide_struct Try.underlying29 hv
  obtain ⟨fuel, hf⟩ := h
  obtain ⟨x, hx, hin⟩ := open_C T U fuel _ _ hf
  refine ⟨x, ?_, hin⟩
  simp only [Value.cells] at hx
  rw [C.agg, ← hx]

/-- Two boxes behind w. -/
structure TwoIn (w : World) (A B : Array Value) (T : TypeId) (W : World) : Prop where
  low : Below w.heap.size w W
  a : W.heap[w.heap.size]? = some (.cells A T (0, 0))
  b : W.heap[w.heap.size + 1]? = some (.cells B T (0, 0))
theorem TwoIn.start (w : World) (A B : Array Value) (T : TypeId) : TwoIn w A B T ((w.alloc (.cells A T)).alloc (.cells B T)) := by
  refine ⟨((Below.refl _ _).alloc (Nat.le_refl _) _).alloc (by simp) _, ?_, ?_⟩
  · exact (Below.heap_alloc _ _ _ (by simp)).trans (Go.Deep.blk_alloc_new w _)
  · have := Go.Deep.blk_alloc_new (w.alloc (.cells A T)) (.cells B T)
    rwa [World.size_alloc] at this
theorem TwoIn.below {w W W' : World} {A B : Array Value} {T : TypeId} (h : TwoIn w A B T W) (hb : Below W.heap.size W W') : TwoIn w A B T W' :=
  ⟨h.low.trans (hb.mono h.low.size), (hb.block _ (Array.getElem?_eq_some_iff.1 h.a).1).trans h.a, (hb.block _ (Array.getElem?_eq_some_iff.1 h.b).1).trans h.b⟩
theorem TwoIn.cells {w W : World} {A B : Array Value} {T : TypeId} (h : TwoIn w A B T W) : (∀ j, W.cell? ⟨w.heap.size, j, none⟩ = A[j]?) ∧ ∀ j, W.cell? ⟨w.heap.size + 1, j, none⟩ = B[j]? := by
  refine ⟨fun j => ?_, fun j => ?_⟩
  · simp [World.cell?, h.a]
  · simp [World.cell?, h.b]

set_option maxHeartbeats 1000000 in
theorem alikes_any (c d : C) (w : World) (hc : c.val.In w) (hd : d.val.In w) :
    Calls Try.prog 3 #[c.agg, d.agg] w fun x w' => x = .returned (.bool true) ∧ Below w.heap.size w w' := by
  have HA := Lib.hid (fun W (hw : Below w.heap.size w W) => alike_any c d W (hc.below hw) (hd.below hw))
  have HR := Lib.hid (fun W (hw : Below w.heap.size w W) => ralike_any c d W (hc.below hw) (hd.below hw))
  obtain ⟨key, k, s, v⟩ := c
  obtain ⟨key', k', s', u⟩ := d
  cases v with
  | leaf => exact hc.elim
  | mk vk vn vs la ll lc L fa fl fc fn F e vkey hk =>
  cases u with
  | leaf => exact hd.elim
  | mk vk' vn' vs' la' ll' lc' L' fa' fl' fc' fn' F' e' vkey' hk' =>
  clear hc hd
  simp only [C.agg, C.cells, V.cells] at HA HR ⊢
  generalize C.alike ⟨key, k, s, (V.mk vk vn vs la ll lc L fa fl fc fn F e vkey hk)⟩ ⟨key', k', s', (V.mk vk' vn' vs' la' ll' lc' L' fa' fl' fc' fn' F' e' vkey' hk')⟩ = q at HA HR
  go_enter Try.func3, Try.ntmps3
  go_wp2_with fail
  generalize hW : (w.alloc (.cells #[.string key, .int .u8 k, .string s, .int .u8 vk, .int .i64 vn, .string vs, .slice la ll lc, .slice fa fl fc, .int .u8 e, .string vkey, .bool hk] 29)).alloc (.cells #[.string key', .int .u8 k', .string s', .int .u8 vk', .int .i64 vn', .string vs', .slice la' ll' lc', .slice fa' fl' fc', .int .u8 e', .string vkey', .bool hk'] 29) = W0
  have hS0 : TwoIn w #[.string key, .int .u8 k, .string s, .int .u8 vk, .int .i64 vn, .string vs, .slice la ll lc, .slice fa fl fc, .int .u8 e, .string vkey, .bool hk] #[.string key', .int .u8 k', .string s', .int .u8 vk', .int .i64 vn', .string vs', .slice la' ll' lc', .slice fa' fl' fc', .int .u8 e', .string vkey', .bool hk'] 29 W0 := hW ▸ TwoIn.start _ _ _ _
  clear hW
  have KS : Hid (∀ W, TwoIn w #[.string key, .int .u8 k, .string s, .int .u8 vk, .int .i64 vn, .string vs, .slice la ll lc, .slice fa fl fc, .int .u8 e, .string vkey, .bool hk] #[.string key', .int .u8 k', .string s', .int .u8 vk', .int .i64 vn', .string vs', .slice la' ll' lc', .slice fa' fl' fc', .int .u8 e', .string vkey', .bool hk'] 29 W → (fun W => TwoIn w #[.string key, .int .u8 k, .string s, .int .u8 vk, .int .i64 vn, .string vs, .slice la ll lc, .slice fa fl fc, .int .u8 e, .string vkey, .bool hk] #[.string key', .int .u8 k', .string s', .int .u8 vk', .int .i64 vn', .string vs', .slice la' ll' lc', .slice fa' fl' fc', .int .u8 e', .string vkey', .bool hk'] 29 W ∧ W.cell? ⟨w.heap.size, 0, none⟩ = some (.string key) ∧ W.cell? ⟨w.heap.size, 1, none⟩ = some (.int .u8 k) ∧ W.cell? ⟨w.heap.size, 2, none⟩ = some (.string s) ∧ W.cell? ⟨w.heap.size, 3, none⟩ = some (.int .u8 vk) ∧ W.cell? ⟨w.heap.size, 4, none⟩ = some (.int .i64 vn) ∧ W.cell? ⟨w.heap.size, 5, none⟩ = some (.string vs) ∧ W.cell? ⟨w.heap.size, 6, none⟩ = some (.slice la ll lc) ∧ W.cell? ⟨w.heap.size, 7, none⟩ = some (.slice fa fl fc) ∧ W.cell? ⟨w.heap.size, 8, none⟩ = some (.int .u8 e) ∧ W.cell? ⟨w.heap.size, 9, none⟩ = some (.string vkey) ∧ W.cell? ⟨w.heap.size, 10, none⟩ = some (.bool hk) ∧ W.cell? ⟨w.heap.size + 1, 0, none⟩ = some (.string key') ∧ W.cell? ⟨w.heap.size + 1, 1, none⟩ = some (.int .u8 k') ∧ W.cell? ⟨w.heap.size + 1, 2, none⟩ = some (.string s') ∧ W.cell? ⟨w.heap.size + 1, 3, none⟩ = some (.int .u8 vk') ∧ W.cell? ⟨w.heap.size + 1, 4, none⟩ = some (.int .i64 vn') ∧ W.cell? ⟨w.heap.size + 1, 5, none⟩ = some (.string vs') ∧ W.cell? ⟨w.heap.size + 1, 6, none⟩ = some (.slice la' ll' lc') ∧ W.cell? ⟨w.heap.size + 1, 7, none⟩ = some (.slice fa' fl' fc') ∧ W.cell? ⟨w.heap.size + 1, 8, none⟩ = some (.int .u8 e') ∧ W.cell? ⟨w.heap.size + 1, 9, none⟩ = some (.string vkey') ∧ W.cell? ⟨w.heap.size + 1, 10, none⟩ = some (.bool hk')) W) := fun W h => ⟨h, by rw [h.cells.1]; rfl, by rw [h.cells.1]; rfl, by rw [h.cells.1]; rfl, by rw [h.cells.1]; rfl, by rw [h.cells.1]; rfl, by rw [h.cells.1]; rfl, by rw [h.cells.1]; rfl, by rw [h.cells.1]; rfl, by rw [h.cells.1]; rfl, by rw [h.cells.1]; rfl, by rw [h.cells.1]; rfl, by rw [h.cells.2]; rfl, by rw [h.cells.2]; rfl, by rw [h.cells.2]; rfl, by rw [h.cells.2]; rfl, by rw [h.cells.2]; rfl, by rw [h.cells.2]; rfl, by rw [h.cells.2]; rfl, by rw [h.cells.2]; rfl, by rw [h.cells.2]; rfl, by rw [h.cells.2]; rfl, by rw [h.cells.2]; rfl⟩
  have hS1 := KS.out _ hS0
  go_region_held3 (fun W => TwoIn w #[.string key, .int .u8 k, .string s, .int .u8 vk, .int .i64 vn, .string vs, .slice la ll lc, .slice fa fl fc, .int .u8 e, .string vkey, .bool hk] #[.string key', .int .u8 k', .string s', .int .u8 vk', .int .i64 vn', .string vs', .slice la' ll' lc', .slice fa' fl' fc', .int .u8 e', .string vkey', .bool hk'] 29 W ∧ W.cell? ⟨w.heap.size, 0, none⟩ = some (.string key) ∧ W.cell? ⟨w.heap.size, 1, none⟩ = some (.int .u8 k) ∧ W.cell? ⟨w.heap.size, 2, none⟩ = some (.string s) ∧ W.cell? ⟨w.heap.size, 3, none⟩ = some (.int .u8 vk) ∧ W.cell? ⟨w.heap.size, 4, none⟩ = some (.int .i64 vn) ∧ W.cell? ⟨w.heap.size, 5, none⟩ = some (.string vs) ∧ W.cell? ⟨w.heap.size, 6, none⟩ = some (.slice la ll lc) ∧ W.cell? ⟨w.heap.size, 7, none⟩ = some (.slice fa fl fc) ∧ W.cell? ⟨w.heap.size, 8, none⟩ = some (.int .u8 e) ∧ W.cell? ⟨w.heap.size, 9, none⟩ = some (.string vkey) ∧ W.cell? ⟨w.heap.size, 10, none⟩ = some (.bool hk) ∧ W.cell? ⟨w.heap.size + 1, 0, none⟩ = some (.string key') ∧ W.cell? ⟨w.heap.size + 1, 1, none⟩ = some (.int .u8 k') ∧ W.cell? ⟨w.heap.size + 1, 2, none⟩ = some (.string s') ∧ W.cell? ⟨w.heap.size + 1, 3, none⟩ = some (.int .u8 vk') ∧ W.cell? ⟨w.heap.size + 1, 4, none⟩ = some (.int .i64 vn') ∧ W.cell? ⟨w.heap.size + 1, 5, none⟩ = some (.string vs') ∧ W.cell? ⟨w.heap.size + 1, 6, none⟩ = some (.slice la' ll' lc') ∧ W.cell? ⟨w.heap.size + 1, 7, none⟩ = some (.slice fa' fl' fc') ∧ W.cell? ⟨w.heap.size + 1, 8, none⟩ = some (.int .u8 e') ∧ W.cell? ⟨w.heap.size + 1, 9, none⟩ = some (.string vkey') ∧ W.cell? ⟨w.heap.size + 1, 10, none⟩ = some (.bool hk'))
    (first | exact KS.out _ (hS0.below (Below.refl _ _).drew) | exact KS.out _ (TwoIn.below (And.left (by assumption)) (by assumption)))
    (first
      | (go_at_call 4; refine (HA.out _ ?_).mono ?_; (go_split_ands; exact TwoIn.low (by assumption)); rintro x w1 ⟨rfl, hb1⟩)
      | (go_at_call 5; refine (HR.out _ ?_).mono ?_; (go_split_ands; exact TwoIn.low (by assumption)); rintro x w1 ⟨rfl, hb1⟩))
  rename_i hS2
  have HG := Lib.hid hS2.1.low
  clear hS1 hS2
  go_wp2_with fail
  go_ret
  exact ⟨by simp, HG.out⟩
set_option maxRecDepth 100000 in
theorem alikes_lifted (os : Os) (started : os.Started) (H : Type) (enc : TypeId × Value → H) :
    ReturnsInHanded {} Try.checked os 3 .any (Rows.normAlikeSpec.pre6 enc Try.prog Try.f3 Rows.normAlikeRow.domain false) (Rows.normAlikeSpec.post enc Try.prog Try.f3 false true false false) := by
  refine returnsInHanded_of_change (C := Try.checked) Try.own started (by kernel_rfl) Try.func3
    (ChangeSpec.witness6 (enc := enc) (C := Try.checked) false ⟨#[], #[.agg #[.string ByteArray.empty, .int .u8 0, .string ByteArray.empty, .int .u8 0, .int .i64 0, .string ByteArray.empty, .slice none 0 0, .slice none 0 0, .int .u8 0, .string ByteArray.empty, .bool false], .agg #[.string ByteArray.empty, .int .u8 0, .string ByteArray.empty, .int .u8 0, .int .i64 0, .string ByteArray.empty, .slice none 0 0, .slice none 0 0, .int .u8 0, .string ByteArray.empty, .bool false]], []⟩ 8 (by kernel_rfl) (by kernel_rfl) (by kernel_rfl) (by kernel_rfl)) ?_
  intro W base args ds gs before hval0 hW _ _
  have hval : ∀ (j : Nat) t v, Try.f3.params[j]? = some t → args[j]? = some v → Value.okWide Try.prog W .any base t v := hval0
  have hW' := hW
  obtain ⟨p, q, hA0, hV, rfl, _, _⟩ := hW
  have hA : DataW.TrodAll enc Try.prog W 0 (fun _ => true) true Try.f3.params.toList args.toList ds p := hA0
  rw [Try.params3] at hA hval
  obtain ⟨v0, v1, d0, d1, p0, p1, rfl, rfl, rfl, h0, h1⟩ := trodAll_two hA
  obtain ⟨rfl, rfl⟩ := trodVars_none hV
  obtain ⟨x0, hx0, hin0⟩ := open_child (hval 0 29 v0 rfl rfl) h0
  obtain ⟨x1, hx1, hin1⟩ := open_child (hval 1 29 v1 rfl rfl) h1
  clear hA0 hval0 hA
  simp only [List.append_nil] at hW'
  have hlt : ∀ x ∈ p0 ++ p1, x.block < W.heap.size := fun x hx => by simpa using hW'.lt x hx
  have hargs : ∀ (W' : World), Below W.heap.size W W' → DataW.TrodAll enc Try.prog W' 0 (fun b => decide (b < W.heap.size)) true [29, 29] [v0, v1] [d0, d1] (p0 ++ p1) := fun W' hn =>
    trodAll_mk2 (Below.trod Try.laidOut (by kernel_rfl) (of_decide_eq_true (by kernel_rfl)) h0 hn (fun x hx => hlt x (List.mem_append_left _ hx))) (Below.trod Try.laidOut (by kernel_rfl) (of_decide_eq_true (by kernel_rfl)) h1 hn (fun x hx => hlt x (List.mem_append_right _ hx)))
  have key := alikes_any x0 x1 W hin0.2.2.2 hin1.2.2.2
  rw [← hx0, ← hx1] at key
  refine key.mono fun e W' ⟨he, hb⟩ => ?_
  subst he
  refine ⟨_, rfl, [d0, d1], [], p0 ++ p1, [], p0 ++ p1, [], hW', ?_, ?_, rfl, hb.frame _, fun h => by cases h⟩
  · exact trodAll_mk1 (shut_bool Try.underlying4 true)
  · exact hargs W' hb

theorem alikes_holds : Rows.NormAlikeSaid :=
  OpenClaim.holds_of_wide 3 Try.f3 rfl rfl rfl rfl rfl rfl rfl ⟨rfl, rfl, rfl, rfl, rfl⟩ rfl rfl rfl rfl rfl (by kernel_rfl) Try.func3 (by kernel_rfl)
    (of_decide_eq_true (by kernel_rfl)) (by unfold Func.isWrapper; first | (rw [if_pos (by decide +kernel)]; kernel_rfl) | (rw [if_neg (by decide +kernel)]; exact ⟨rfl, rfl⟩))
    (fun os started H enc _ => alikes_lifted os started H enc)

#print axioms alikes_holds

end Go.Proofs.Ytecmghfofcofpaa
