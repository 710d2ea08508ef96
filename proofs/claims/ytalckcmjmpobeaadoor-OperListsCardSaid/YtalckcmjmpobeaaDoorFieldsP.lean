/-
  Values whose fields may be: names rise, so each is found at its place; every other name is found nowhere.
  Conditions: none.
-/
import Derived.Test.YtalckcmjmpobeaaDoorBoxZ
import Derived.Sort.Walk0
namespace Go.Proofs.YtalckcmjmpobeaaDoor
open Go.RowKit Go.Deep

theorem bless_iff (a b : ByteArray) : (!(bLe b a)) = decide (a.toList < b.toList) := by
  rw [bLe, bytesLess_eq, Bool.eq_iff_iff, Bool.not_eq_true', Bool.or_eq_false_iff, decide_eq_false_iff_not, decide_eq_true_eq, beq_eq_false_iff_ne]
  constructor
  · rintro ⟨h1, h2⟩
    rcases Std.lt_trichotomy a.toList b.toList with h | h | h
    · exact h
    · exact absurd h.symm h2
    · exact absurd h h1
  · intro h
    exact ⟨fun h' => List.lt_irrefl _ (List.lt_trans h h'), fun h' => List.lt_irrefl a.toList (by rw [h'] at h; exact h)⟩
theorem rising_iff {fl : Nat} {fn : Nat → ByteArray} (h : risingB fl fn = true) : ∀ i, i < fl → (lastB fn i).toList < (fn i).toList ∧ (fn i).size ≤ 4096 := by
  intro i hi
  have h1 := (allB_iff.1 h) i hi
  rw [Bool.and_eq_true, bless_iff, decide_eq_true_eq, decide_eq_true_eq] at h1
  exact h1
theorem rising_lt {fl : Nat} {fn : Nat → ByteArray} (h : risingB fl fn = true) : ∀ j, j < fl → ∀ i, i < j → (fn i).toList < (fn j).toList
  | 0, _, i, hi => absurd hi (Nat.not_lt_zero _)
  | j + 1, hj, i, hi => by
    have h1 := (rising_iff h (j + 1) hj).1
    rcases Nat.lt_or_eq_of_le (Nat.le_of_lt_succ hi) with h2 | rfl
    · exact List.lt_trans (rising_lt h j (by omega) i h2) h1
    · exact h1
theorem v_rising {v : V} (h : v.check = true) (hk : v.kind = 5) : risingB v.flen v.fnm = true := by
  cases v with
  | leaf => cases hk
  | mk k n s la ll lc L fa fl fc fn F e key hk' =>
  rw [check_iff] at h
  have h1 : shapeB k n s ll fl fn e key hk' = true := h.1.1
  rw [shapeB, Bool.and_eq_true, Bool.and_eq_true] at h1
  exact h1.2.2
theorem get_nth {v : V} (h : v.check = true) (hk : v.kind = 5) {i : Nat} (hi : i < v.flen) : v.get (v.fnm i) = v.fel i ∧ (v.fnm i).size ≤ 4096 := by
  have hr := v_rising h hk
  refine ⟨?_, (rising_iff hr i hi).2⟩
  unfold V.get
  rw [findF_some hi rfl (fun j hj he => List.lt_irrefl (v.fnm i).toList (by have := rising_lt hr i hi j hj; rw [he] at this; exact this))]
theorem get_not {v : V} {nm : ByteArray} (h : ∀ j, j < v.flen → v.fnm j ≠ nm) : v.get nm = nv := by
  unfold V.get
  rw [findF_none h]

/-- A value in a box, in a later world. -/
structure FX (w : World) (v : V) (W : World) : Prop where
  low : Below w.heap.size w W
  tabs : Tabs W
  vin : v.In W
  cv : At W w.heap.size 0 v.cells
theorem FX.below {w : World} {v : V} {W W' : World} (h : FX w v W) (hb : Below W.heap.size W W') : FX w v W' :=
  ⟨h.low.trans (hb.mono h.low.size), h.tabs.below hb, h.vin.below hb, h.cv.below hb⟩
theorem FX.alloc {w : World} {v : V} {W : World} (h : FX w v W) (O : Obj) : FX w v (W.alloc O) := h.below (below_alloc _ _)
theorem FX.drew {w : World} {v : V} {W : World} (h : FX w v W) : FX w v W.drew := h.below (Below.refl _ _).drew
theorem fx_new {w : World} {v : V} (ht : Tabs w) (hv : v.In w) (T : TypeId) : FX w v (w.alloc (.cells v.cells.toArray T)) :=
  ⟨below_alloc _ _, ht.below (below_alloc _ _), hv.below (below_alloc _ _), at_new rfl (Below.refl _ _)⟩

set_option maxHeartbeats 4000000 in
/-- The statements' do: what it answers is new through and through. -/
theorem lDo_new (name : ByteArray) (la : Option Addr) (ll lc : Nat) (L : Nat → V) (w : World) (h : Vals w la ll lc L) (ht : Tabs w) :
    Calls Tryd.prog 8 #[.string name, .slice la ll lc] w fun e w' => ∃ u : V, e = .returned (.tuple #[u.agg, .bool (doB name ll L)]) ∧ u.In w' ∧ (doB name ll L = true → (doV name ll L).same u = true) ∧ (doB name ll L = false → u = nv) ∧ u.From w.heap.size ∧ Below w.heap.size w w' := by
  have OK0 := OW.start h 27
  have HC := Lib.hid (fun W (hW : OW w la ll lc L W) => oDo_any name la ll lc L W hW.vals (ht.below hW.low))
  have KS := Lib.hid (fun W (h : OW w la ll lc L W) => And.intro h h.rcells)
  generalize doB name ll L = db at HC ⊢
  generalize doV name ll L = dv at HC ⊢
  simp only [nv, vz, V.cells] at OK0
  have OKH := Lib.hid OK0
  clear OK0 h ht
  go_enter Tryd.func8, Tryd.ntmps8
  go_upto_region 1 with fail
  have OKu := OKH.out
  generalize w.alloc (.cells #[.int .u8 0, .int .i64 0, .string ⟨#[]⟩, .slice none 0 0, .slice none 0 0, .int .u8 0, .string ⟨#[]⟩, .bool false] 27) = W0 at OKu ⊢
  have OK : OW w la ll lc L W0 := OKu
  clear OKu OKH
  go_wp2_with (go_at_call 14; (with_reducible refine (HC.out _ OK).mono ?_); rintro x w1 ⟨u, rfl, hd⟩; have HD := Lib.hid hd; have HO := Lib.hid (OK.below hd.low); clear hd; obtain ⟨-, ⟨d0, d1, d2, d3, d4, d5, d6, d7⟩, z0, z1, z2, z3, z4, z5, z6, z7⟩ := KS.out _ HO.out; (have hin := HD.out.inn); rcases u with _ | ⟨k4, n4, s4, la4, ll4, lc4, L4, fa4, fl4, fc4, fn4, F4, e4, key4, hk4⟩; (exact hin.elim); clear hin; simp only [V.agg, V.cells])
  refine bodyPost_ret (v := .tuple #[(V.mk k4 n4 s4 la4 ll4 lc4 L4 fa4 fl4 fc4 fn4 F4 e4 key4 hk4).agg, .bool db]) (by simp [results, Tryd.results8, go_sem, d0, d1, d2, d3, d4, d5, d6, d7, V.agg, V.cells]) rfl ?_
  have hts : TS w (V.mk k4 n4 s4 la4 ll4 lc4 L4 fa4 fl4 fc4 fn4 F4 e4 key4 hk4) w1 := ⟨HD.out.inn, HD.out.frm.mono OK.big, HD.out.own, HO.out.low⟩
  have HT := Lib.hid hts
  clear hts
  refine (fun (hs : TS w (V.mk k4 n4 s4 la4 ll4 lc4 L4 fa4 fl4 fc4 fn4 F4 e4 key4 hk4) _) => ⟨_, rfl, hs.inn, HD.out.yes, HD.out.no, hs.frm.mono (Nat.le_succ _), hs.low⟩) ?_
  iterate 8 (with_reducible refine TS.set ?_ _ _)
  exact HT.out
/-- What lies behind a block is not touched by what is written into it. -/
theorem in_putL {u : V} {W : World} {B b : Nat} {cs : List Value} (hf : u.From B) (hin : u.In W) (hb : b < B) : u.In (putL W b 0 cs) :=
  V.In.from (fun _ h1 _ => World.cell?_of_block (putL_block _ _ _ _ _ (by omega))) hf hin
/-- 'get', wherever the list of its two values stands. -/
theorem doGet_at {nm : ByteArray} {k n : Int} {s : ByteArray} {la : Option Addr} {ll lc : Nat} {L : Nat → V} {fa : Option Addr} {fl fc : Nat} {fn : Nat → ByteArray} {F : Nat → V} {e : Int} {key : ByteArray} {hk : Bool} {sb : Nat} {W : World}
    (ha : At W sb 0 [.int .u8 k, .int .i64 n, .string s, .slice la ll lc, .slice fa fl fc, .int .u8 e, .string key, .bool hk, .int .u8 3, .int .i64 0, .string nm, .slice none 0 0, .slice none 0 0, .int .u8 0, .string ⟨#[]⟩, .bool false]) (ht : Tabs W)
    (hv : (V.mk k n s la ll lc L fa fl fc fn F e key hk).In W) (hc : (V.mk k n s la ll lc L fa fl fc fn F e key hk).check = true) (h5 : k = 5) (hn : nm.size ≤ 4096) :
    Calls Tryd.prog 8 #[.string ⟨#[103, 101, 116]⟩, .slice (some ⟨sb, 0, none⟩) 2 2] W fun q w' => ∃ (k' n' : Int) (s' : ByteArray) (la' : Option Addr) (ll' lc' : Nat) (L' : Nat → V) (fa' : Option Addr) (fl' fc' : Nat) (fn' : Nat → ByteArray) (F' : Nat → V) (e' : Int) (key' : ByteArray) (hk' : Bool),
      q = .returned (.tuple #[.agg #[.int .u8 k', .int .i64 n', .string s', .slice la' ll' lc', .slice fa' fl' fc', .int .u8 e', .string key', .bool hk'], .bool true]) ∧ (V.mk k' n' s' la' ll' lc' L' fa' fl' fc' fn' F' e' key' hk').In w' ∧
      ((V.mk k n s la ll lc L fa fl fc fn F e key hk).get nm).same (.mk k' n' s' la' ll' lc' L' fa' fl' fc' fn' F' e' key' hk') = true ∧ (V.mk k' n' s' la' ll' lc' L' fa' fl' fc' fn' F' e' key' hk').From W.heap.size ∧ Below W.heap.size W w' := by
  have hg := do_get (nm := nm) hc h5 hn
  have hV := vals_two (x := V.mk k n s la ll lc L fa fl fc fn F e key hk) (y := sv nm) ha hv (fl_in (ok_sv (s := nm) (by unfold maxLen; omega)) W)
  refine (lDo_new ⟨#[103, 101, 116]⟩ _ 2 2 _ W hV ht).mono ?_
  rintro q w' ⟨u, rfl, hin, hy, hn', hfr, hl⟩
  rw [hg.1] at hy hn' ⊢
  have hs := hy rfl
  rw [hg.2] at hs
  cases u with
  | leaf => exact hin.elim
  | mk k' n' s' la' ll' lc' L' fa' fl' fc' fn' F' e' key' hk' => exact ⟨k', n', s', la', ll', lc', L', fa', fl', fc', fn', F', e', key', hk', rfl, hin, hs, hfr, hl⟩
end Go.Proofs.YtalckcmjmpobeaaDoor
