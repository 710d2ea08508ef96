/-
  A region that draws its order and lays a box of its own: the box empty ('ZB'), and filled behind the call ('BX.store').
  Conditions: none.
  Values whose fields may be: names rise, so each is found at its place; every other name is found nowhere.
  Conditions: none.
-/
import Derived.Test.YtjbapldlgnlepaaGreatDoorOpNum
import Derived.Sort.Walk0
namespace Go.Proofs.YtjbapldlgnlepaaGreatDoor
open Go.RowKit Go.Deep Go.WideShapes

/-- An empty box. -/
structure ZB (b : Nat) (W : World) : Prop where
  at' : At W b 0 nv.cells
  fz : ∀ i, W.frozen? ⟨b, i, none⟩ = false
theorem ZB.below {b : Nat} {W W' : World} (h : ZB b W) (hb : Below W.heap.size W W') : ZB b W' := by
  have hlt : b < W.heap.size := World.block_lt_of_cell? _ _ (h.at' 0 (by decide))
  exact ⟨h.at'.below hb, fun i => by rw [hb.frozen (p := ⟨b, i, none⟩) hlt]; exact h.fz i⟩
theorem zb_new (W : World) (T : TypeId) : ZB W.heap.size (W.alloc (.cells #[.int .u8 0, .int .i64 0, .string ⟨#[]⟩, .slice none 0 0, .slice none 0 0, .int .u8 0, .string ⟨#[]⟩, .bool false] T)) :=
  ⟨at_new (cs := nv.cells) rfl (Below.refl _ _), fun i => by simp⟩
/-- The box was laid behind the slice, or ahead of it, or ahead of what came first. -/
theorem zb_B {W w' : World} {S : Obj} {T : TypeId} (h : Below ((W.alloc S).alloc (.cells #[.int .u8 0, .int .i64 0, .string ⟨#[]⟩, .slice none 0 0, .slice none 0 0, .int .u8 0, .string ⟨#[]⟩, .bool false] T)).heap.size ((W.alloc S).alloc (.cells #[.int .u8 0, .int .i64 0, .string ⟨#[]⟩, .slice none 0 0, .slice none 0 0, .int .u8 0, .string ⟨#[]⟩, .bool false] T)) w') : ZB (W.heap.size + 1) w' := by
  have h1 := (zb_new (W.alloc S) T).below h
  simpa using h1
theorem zb_C {W w' : World} {S : Obj} {T : TypeId} (h : Below ((W.alloc (.cells #[.int .u8 0, .int .i64 0, .string ⟨#[]⟩, .slice none 0 0, .slice none 0 0, .int .u8 0, .string ⟨#[]⟩, .bool false] T)).alloc S).heap.size ((W.alloc (.cells #[.int .u8 0, .int .i64 0, .string ⟨#[]⟩, .slice none 0 0, .slice none 0 0, .int .u8 0, .string ⟨#[]⟩, .bool false] T)).alloc S) w') : ZB W.heap.size w' :=
  ((zb_new W T).below (below_alloc _ _)).below h
theorem zb_T {W w' : World} {T : TypeId} (h : Below (W.alloc (.cells #[.int .u8 0, .int .i64 0, .string ⟨#[]⟩, .slice none 0 0, .slice none 0 0, .int .u8 0, .string ⟨#[]⟩, .bool false] T)).drew.heap.size (W.alloc (.cells #[.int .u8 0, .int .i64 0, .string ⟨#[]⟩, .slice none 0 0, .slice none 0 0, .int .u8 0, .string ⟨#[]⟩, .bool false] T)).drew w') : ZB W.heap.size w' :=
  ((zb_new W T).below (Below.refl _ _).drew).below h
theorem ZB.slots {b : Nat} {W : World} (h : ZB b W) :
    (W.cell? ⟨b, 0, none⟩ = some (.int .u8 0) ∧ W.cell? ⟨b, 1, none⟩ = some (.int .i64 0) ∧ W.cell? ⟨b, 2, none⟩ = some (.string ⟨#[]⟩) ∧ W.cell? ⟨b, 3, none⟩ = some (.slice none 0 0) ∧ W.cell? ⟨b, 4, none⟩ = some (.slice none 0 0) ∧ W.cell? ⟨b, 5, none⟩ = some (.int .u8 0) ∧ W.cell? ⟨b, 6, none⟩ = some (.string ⟨#[]⟩) ∧ W.cell? ⟨b, 7, none⟩ = some (.bool false)) ∧
    (W.frozen? ⟨b, 0, none⟩ = false ∧ W.frozen? ⟨b, 1, none⟩ = false ∧ W.frozen? ⟨b, 2, none⟩ = false ∧ W.frozen? ⟨b, 3, none⟩ = false ∧ W.frozen? ⟨b, 4, none⟩ = false ∧ W.frozen? ⟨b, 5, none⟩ = false ∧ W.frozen? ⟨b, 6, none⟩ = false ∧ W.frozen? ⟨b, 7, none⟩ = false) :=
  ⟨bx_get h.at', h.fz 0, h.fz 1, h.fz 2, h.fz 3, h.fz 4, h.fz 5, h.fz 6, h.fz 7⟩

theorem BX.alloc {w0 W : World} {l : List (Nat × List Value)} (h : BX w0 l W) (O : Obj) : BX w0 l (W.alloc O) := h.below (below_alloc _ _)
theorem BX.drew {w0 W : World} {l : List (Nat × List Value)} (h : BX w0 l W) : BX w0 l W.drew := h.below (Below.refl _ _).drew
/-- The box is filled. -/
theorem BX.store {w0 W : World} {l : List (Nat × List Value)} {b : Nat} (h : BX w0 l W) (hz : ZB b W) (hne : ∀ p ∈ l, p.1 ≠ b) (hb : w0.heap.size ≤ b) (hg : ∀ W', Below w0.heap.size w0 W' → Tabs W') (cs : List Value) (h8 : cs.length = 8) : BX w0 ((b, cs) :: l) (putL W b 0 cs) := by
  have hl := putL_low h.low b 0 cs hb
  refine ⟨hl, hg _ hl, fun p hp => ?_⟩
  rcases List.mem_cons.1 hp with rfl | hp
  · refine putL_at _ _ _ _ fun i hi => ?_
    rw [h8] at hi
    have := hz.at' i hi
    exact ⟨_, this.trans (List.getElem?_eq_getElem hi)⟩
  · intro i hi
    rw [World.cell?_of_block (w := W) (putL_block _ _ _ _ _ (hne p hp))]
    exact h.at' p hp i hi

/-- The statements' do, wherever its list of values stands. -/
theorem lDo_at {nm : ByteArray} {n sb : Nat} {W : World} {L : Nat → V} (hV : Vals W (some ⟨sb, 0, none⟩) n n L) (ht : Tabs W) :
    Calls Tryz.prog 70 #[.string nm, .slice (some ⟨sb, 0, none⟩) n n] W fun e w' => ∃ u : V, e = .returned (.tuple #[u.agg, .bool (doB nm n L)]) ∧ u.In w' ∧ (doB nm n L = true → (doV nm n L).same u = true) ∧ (doB nm n L = false → u = nv) ∧ Below W.heap.size W w' := lDo_any nm _ n n L W hV ht

theorem vals_two {W : World} {b : Nat} {x y : V} (ha : At W b 0 (x.cells ++ y.cells)) (hx : x.In W) (hy : y.In W) : Vals W (some ⟨b, 0, none⟩) 2 2 (v2 x y) := by
  refine ⟨⟨Nat.le_refl _, by decide⟩, fun i hi => ?_⟩
  have h8 := in_cells hx
  match i, hi with
  | 0, _ => exact ⟨⟨b, 0, rfl, fun j hj => by
      have hj8 : j < 8 := by rw [← h8]; exact hj
      have := ha j (by rw [List.length_append]; omega)
      rw [List.getElem?_append_left (by omega)] at this
      rw [Nat.zero_mul, Nat.add_zero]; exact this⟩, hx⟩
  | 1, _ => exact ⟨⟨b, 0, rfl, fun j hj => by
      have hj' : j < y.cells.length := hj
      have := ha (8 + j) (by rw [List.length_append]; omega)
      rw [List.getElem?_append_right (by omega), h8, Nat.add_sub_cancel_left] at this
      rw [show 0 + 1 * 8 + j = 0 + (8 + j) by omega]; exact this⟩, hy⟩
/-- Behind what was laid. -/
theorem below_al {W w' : World} {O : Obj} (h : Below (W.alloc O).heap.size (W.alloc O) w') : Below W.heap.size W w' := (below_alloc W O).trans (h.mono (by simp))
theorem BX.lt {w0 W : World} {l : List (Nat × List Value)} (h : BX w0 l W) : ∀ p ∈ l, 0 < p.2.length → p.1 < W.heap.size := fun p hp h0 => World.block_lt_of_cell? _ _ ((h.at' p hp 0 h0).trans (List.getElem?_eq_getElem h0))
theorem BX.ne {w0 W : World} {l : List (Nat × List Value)} {b : Nat} (h : BX w0 l W) (hl : l.all (fun p => decide (0 < p.2.length)) = true) (hb : W.heap.size ≤ b) : ∀ p ∈ l, p.1 ≠ b := fun p hp => Nat.ne_of_lt (Nat.lt_of_lt_of_le (h.lt p hp (of_decide_eq_true (List.all_eq_true.1 hl p hp))) hb)
theorem BX.grew {w0 W : World} {l : List (Nat × List Value)} (h : BX w0 l W) : w0.heap.size ≤ W.heap.size := h.low.size
/-- The box is filled: it was laid behind 'W1'. -/
theorem BX.store' {w0 W1 W : World} {l : List (Nat × List Value)} {b : Nat} (h1 : BX w0 l W1) (h : BX w0 l W) (hb : W1.heap.size ≤ b) (hz : ZB b W) (hl : l.all (fun p => decide (0 < p.2.length)) = true) (hg : ∀ W', Below w0.heap.size w0 W' → Tabs W') (cs : List Value) (h8 : cs.length = 8) : BX w0 ((b, cs) :: l) (putL W b 0 cs) :=
  h.store hz (h1.ne hl hb) (Nat.le_trans h1.low.size hb) hg cs h8

theorem doF2_at {nm : ByteArray} {ok : Bool} {k z : Int} {s : ByteArray} {k1 z1 : Int} {s1 : ByteArray} {la1 : Option Addr} {lc1 : Nat} {fa1 : Option Addr} {fc1 : Nat} {k2 z2 : Int} {s2 : ByteArray} {la2 : Option Addr} {lc2 : Nat} {fa2 : Option Addr} {fc2 : Nat} {sb : Nat} {W : World} (ha : At W sb 0 [.int .u8 k1, .int .i64 z1, .string s1, .slice la1 0 lc1, .slice fa1 0 fc1, .int .u8 0, .string ⟨#[]⟩, .bool false, .int .u8 k2, .int .i64 z2, .string s2, .slice la2 0 lc2, .slice fa2 0 fc2, .int .u8 0, .string ⟨#[]⟩, .bool false]) (ht : Tabs W) (h1 : FlOk k1 z1 s1 lc1 fc1) (h2 : FlOk k2 z2 s2 lc2 fc2)
    (hf : Fact nm 2 (v2 (vz k1 z1 s1) (vz k2 z2 s2)) ok k z s) :
    Calls Tryz.prog 70 #[.string nm, .slice (some ⟨sb, 0, none⟩) 2 2] W (FlPost ok k z s W) := by
  have hV := vals_two (x := (fl k1 z1 s1 la1 lc1 (fun _ => .leaf) fa1 fc1 (fun _ => ⟨#[]⟩) (fun _ => .leaf))) (y := (fl k2 z2 s2 la2 lc2 (fun _ => .leaf) fa2 fc2 (fun _ => ⟨#[]⟩) (fun _ => .leaf))) ha (fl_in h1 W) (fl_in h2 W)
  have hs : ∀ i, i < 2 → (v2 (vz k1 z1 s1) (vz k2 z2 s2) i).same (v2 (fl k1 z1 s1 la1 lc1 (fun _ => .leaf) fa1 fc1 (fun _ => ⟨#[]⟩) (fun _ => .leaf)) (fl k2 z2 s2 la2 lc2 (fun _ => .leaf) fa2 fc2 (fun _ => ⟨#[]⟩) (fun _ => .leaf)) i) = true := by
    intro i hi
    match i, hi with
    | 0, _ => exact fl_same _ _ _ _ _ _ _ _ _ _
    | 1, _ => exact fl_same _ _ _ _ _ _ _ _ _ _
  have hx := do_ext (name := nm) hs
  obtain ⟨hb, hv, hv'⟩ := hf
  refine (lDo_at (nm := nm) hV ht).mono ?_
  rintro e w' ⟨u, rfl, hin, hy, hn, hl⟩
  rw [hx.1, hb] at hy hn ⊢
  have hsu : (vz k z s).same u = true := by
    cases ok with
    | false => rw [hv' rfl, hn rfl]; exact vz_same _ _ _
    | true => rw [← hv rfl]; exact same_trans _ _ _ (hx.2 (by rw [hb])) (hy rfl)
  obtain ⟨la, lc, L, fa, fc, fn, F, rfl, hok⟩ := fl_of_same hsu hin
  exact ⟨la, lc, fa, fc, rfl, hok, hl⟩
end Go.Proofs.YtjbapldlgnlepaaGreatDoor
namespace Go.Proofs.YtjbapldlgnlepaaGreatDoor
open Go.RowKit Go.Deep

theorem bless_iff (a b : ByteArray) : (!(bLe b a)) = decide (a.toList < b.toList) := by
  rw [bLe, bytesLess_eq, Bool.eq_iff_iff, Bool.not_eq_true', Bool.or_eq_false_iff, decide_eq_false_iff_not, decide_eq_true_eq, beq_eq_false_iff_ne]
  constructor
  · rintro ⟨h1, h2⟩
    rcases Std.lt_trichotomy a.toList b.toList with h | h | h
    · exact h
    · exact absurd h.symm h2
    · exact absurd h h1
  · intro h
    exact ⟨fun h' => List.lt_irrefl _ (List.lt_trans h h'), fun h' => List.lt_irrefl a.toList (by rw [h'] at h; exact h)⟩
theorem rising_iff {fl : Nat} {fn : Nat → ByteArray} (h : risingB fl fn = true) : ∀ i, i < fl → (lastB fn i).toList < (fn i).toList ∧ (fn i).size ≤ 4096 := by
  intro i hi
  have h1 := (allB_iff.1 h) i hi
  rw [Bool.and_eq_true, bless_iff, decide_eq_true_eq, decide_eq_true_eq] at h1
  exact h1
theorem rising_lt {fl : Nat} {fn : Nat → ByteArray} (h : risingB fl fn = true) : ∀ j, j < fl → ∀ i, i < j → (fn i).toList < (fn j).toList
  | 0, _, i, hi => absurd hi (Nat.not_lt_zero _)
  | j + 1, hj, i, hi => by
    have h1 := (rising_iff h (j + 1) hj).1
    rcases Nat.lt_or_eq_of_le (Nat.le_of_lt_succ hi) with h2 | rfl
    · exact List.lt_trans (rising_lt h j (by omega) i h2) h1
    · exact h1
theorem v_rising {v : V} (h : v.check = true) (hk : v.kind = 5) : risingB v.flen v.fnm = true := by
  cases v with
  | leaf => cases hk
  | mk k n s la ll lc L fa fl fc fn F e key hk' =>
  rw [check_iff] at h
  have h1 : shapeB k n s ll fl fn e key hk' = true := h.1.1
  rw [shapeB, Bool.and_eq_true, Bool.and_eq_true] at h1
  exact h1.2.2
theorem get_nth {v : V} (h : v.check = true) (hk : v.kind = 5) {i : Nat} (hi : i < v.flen) : v.get (v.fnm i) = v.fel i ∧ (v.fnm i).size ≤ 4096 := by
  have hr := v_rising h hk
  refine ⟨?_, (rising_iff hr i hi).2⟩
  unfold V.get
  rw [findF_some hi rfl (fun j hj he => List.lt_irrefl (v.fnm i).toList (by have := rising_lt hr i hi j hj; rw [he] at this; exact this))]
theorem get_not {v : V} {nm : ByteArray} (h : ∀ j, j < v.flen → v.fnm j ≠ nm) : v.get nm = nv := by
  unfold V.get
  rw [findF_none h]

/-- A value in a box, in a later world. -/
structure FX (w : World) (v : V) (W : World) : Prop where
  low : Below w.heap.size w W
  tabs : Tabs W
  vin : v.In W
  cv : At W w.heap.size 0 v.cells
theorem FX.below {w : World} {v : V} {W W' : World} (h : FX w v W) (hb : Below W.heap.size W W') : FX w v W' :=
  ⟨h.low.trans (hb.mono h.low.size), h.tabs.below hb, h.vin.below hb, h.cv.below hb⟩
theorem FX.alloc {w : World} {v : V} {W : World} (h : FX w v W) (O : Obj) : FX w v (W.alloc O) := h.below (below_alloc _ _)
theorem FX.drew {w : World} {v : V} {W : World} (h : FX w v W) : FX w v W.drew := h.below (Below.refl _ _).drew
theorem fx_new {w : World} {v : V} (ht : Tabs w) (hv : v.In w) (T : TypeId) : FX w v (w.alloc (.cells v.cells.toArray T)) :=
  ⟨below_alloc _ _, ht.below (below_alloc _ _), hv.below (below_alloc _ _), at_new rfl (Below.refl _ _)⟩

set_option maxHeartbeats 4000000 in
/-- The statements' do: what it answers is new through and through. -/
theorem lDo_new (name : ByteArray) (la : Option Addr) (ll lc : Nat) (L : Nat → V) (w : World) (h : Vals w la ll lc L) (ht : Tabs w) :
    Calls Tryz.prog 70 #[.string name, .slice la ll lc] w fun e w' => ∃ u : V, e = .returned (.tuple #[u.agg, .bool (doB name ll L)]) ∧ u.In w' ∧ (doB name ll L = true → (doV name ll L).same u = true) ∧ (doB name ll L = false → u = nv) ∧ u.From w.heap.size ∧ Below w.heap.size w w' := by
  have OK0 := OW.start h 55
  have HC := Lib.hid (fun W (hW : OW w la ll lc L W) => oDo_any name la ll lc L W hW.vals (ht.below hW.low))
  have KS := Lib.hid (fun W (h : OW w la ll lc L W) => And.intro h h.rcells)
  generalize doB name ll L = db at HC ⊢
  generalize doV name ll L = dv at HC ⊢
  simp only [nv, vz, V.cells] at OK0
  have OKH := Lib.hid OK0
  clear OK0 h ht
  go_enter Tryz.func70, Tryz.ntmps70
  go_upto_region 1 with fail
  have OKu := OKH.out
  generalize w.alloc (.cells #[.int .u8 0, .int .i64 0, .string ⟨#[]⟩, .slice none 0 0, .slice none 0 0, .int .u8 0, .string ⟨#[]⟩, .bool false] 55) = W0 at OKu ⊢
  have OK : OW w la ll lc L W0 := OKu
  clear OKu OKH
  go_wp2_with (go_at_call 15; (with_reducible refine (HC.out _ OK).mono ?_); rintro x w1 ⟨u, rfl, hd⟩; have HD := Lib.hid hd; have HO := Lib.hid (OK.below hd.low); clear hd; obtain ⟨-, ⟨d0, d1, d2, d3, d4, d5, d6, d7⟩, z0, z1, z2, z3, z4, z5, z6, z7⟩ := KS.out _ HO.out; (have hin := HD.out.inn); rcases u with _ | ⟨k4, n4, s4, la4, ll4, lc4, L4, fa4, fl4, fc4, fn4, F4, e4, key4, hk4⟩; (exact hin.elim); clear hin; simp only [V.agg, V.cells])
  refine bodyPost_ret (v := .tuple #[(V.mk k4 n4 s4 la4 ll4 lc4 L4 fa4 fl4 fc4 fn4 F4 e4 key4 hk4).agg, .bool db]) (by simp [results, Tryz.results70, go_sem, d0, d1, d2, d3, d4, d5, d6, d7, V.agg, V.cells]) rfl ?_
  have hts : TS w (V.mk k4 n4 s4 la4 ll4 lc4 L4 fa4 fl4 fc4 fn4 F4 e4 key4 hk4) w1 := ⟨HD.out.inn, HD.out.frm.mono OK.big, HD.out.own, HO.out.low⟩
  have HT := Lib.hid hts
  clear hts
  refine (fun (hs : TS w (V.mk k4 n4 s4 la4 ll4 lc4 L4 fa4 fl4 fc4 fn4 F4 e4 key4 hk4) _) => ⟨_, rfl, hs.inn, HD.out.yes, HD.out.no, hs.frm.mono (Nat.le_succ _), hs.low⟩) ?_
  iterate 8 (with_reducible refine TS.set ?_ _ _)
  exact HT.out
/-- What lies behind a block is not touched by what is written into it. -/
theorem in_putL {u : V} {W : World} {B b : Nat} {cs : List Value} (hf : u.From B) (hin : u.In W) (hb : b < B) : u.In (putL W b 0 cs) :=
  V.In.from (fun _ h1 _ => World.cell?_of_block (putL_block _ _ _ _ _ (by omega))) hf hin
/-- 'get', wherever the list of its two values stands. -/
theorem doGet_at {nm : ByteArray} {k n : Int} {s : ByteArray} {la : Option Addr} {ll lc : Nat} {L : Nat → V} {fa : Option Addr} {fl fc : Nat} {fn : Nat → ByteArray} {F : Nat → V} {e : Int} {key : ByteArray} {hk : Bool} {sb : Nat} {W : World}
    (ha : At W sb 0 [.int .u8 k, .int .i64 n, .string s, .slice la ll lc, .slice fa fl fc, .int .u8 e, .string key, .bool hk, .int .u8 3, .int .i64 0, .string nm, .slice none 0 0, .slice none 0 0, .int .u8 0, .string ⟨#[]⟩, .bool false]) (ht : Tabs W)
    (hv : (V.mk k n s la ll lc L fa fl fc fn F e key hk).In W) (hc : (V.mk k n s la ll lc L fa fl fc fn F e key hk).check = true) (h5 : k = 5) (hn : nm.size ≤ 4096) :
    Calls Tryz.prog 70 #[.string ⟨#[103, 101, 116]⟩, .slice (some ⟨sb, 0, none⟩) 2 2] W fun q w' => ∃ (k' n' : Int) (s' : ByteArray) (la' : Option Addr) (ll' lc' : Nat) (L' : Nat → V) (fa' : Option Addr) (fl' fc' : Nat) (fn' : Nat → ByteArray) (F' : Nat → V) (e' : Int) (key' : ByteArray) (hk' : Bool),
      q = .returned (.tuple #[.agg #[.int .u8 k', .int .i64 n', .string s', .slice la' ll' lc', .slice fa' fl' fc', .int .u8 e', .string key', .bool hk'], .bool true]) ∧ (V.mk k' n' s' la' ll' lc' L' fa' fl' fc' fn' F' e' key' hk').In w' ∧
      ((V.mk k n s la ll lc L fa fl fc fn F e key hk).get nm).same (.mk k' n' s' la' ll' lc' L' fa' fl' fc' fn' F' e' key' hk') = true ∧ (V.mk k' n' s' la' ll' lc' L' fa' fl' fc' fn' F' e' key' hk').From W.heap.size ∧ Below W.heap.size W w' := by
  have hg := do_get (nm := nm) hc h5 hn
  have hV := vals_two (x := V.mk k n s la ll lc L fa fl fc fn F e key hk) (y := sv nm) ha hv (fl_in (ok_sv (s := nm) (by unfold maxLen; omega)) W)
  refine (lDo_new ⟨#[103, 101, 116]⟩ _ 2 2 _ W hV ht).mono ?_
  rintro q w' ⟨u, rfl, hin, hy, hn', hfr, hl⟩
  rw [hg.1] at hy hn' ⊢
  have hs := hy rfl
  rw [hg.2] at hs
  cases u with
  | leaf => exact hin.elim
  | mk k' n' s' la' ll' lc' L' fa' fl' fc' fn' F' e' key' hk' => exact ⟨k', n', s', la', ll', lc', L', fa', fl', fc', fn', F', e', key', hk', rfl, hin, hs, hfr, hl⟩
end Go.Proofs.YtjbapldlgnlepaaGreatDoor
