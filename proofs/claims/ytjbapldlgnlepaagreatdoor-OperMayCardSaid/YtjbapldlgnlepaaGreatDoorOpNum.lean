/-
  Walks: what the statements call (number, text, do) on values without lists; boxes that hold what was read so far.
  Conditions: the three tables hold what the program's text lays in them.
  Plain: sums, differences and products modulo 2^64; what the operations answer for three numbers.
  Conditions: none.
  Walks: alive() of the statements of layer 2 answers true; old memory is as it was.
  Conditions: the three tables hold what the program's text lays in them.
-/
import Derived.Test.YtjbapldlgnlepaaGreatDoorOpDo
import Derived.Test.YtjbapldlgnlepaaGreatDoorOpFind
namespace Go.Proofs.YtjbapldlgnlepaaGreatDoor
open Go.RowKit Go.Deep Go.WideShapes

/-- A value without elements and without fields. -/
def fl (k z : Int) (s : ByteArray) (la : Option Addr) (lc : Nat) (L : Nat → V) (fa : Option Addr) (fc : Nat) (fn : Nat → ByteArray) (F : Nat → V) : V := .mk k z s la 0 lc L fa 0 fc fn F 0 ⟨#[]⟩ false
/-- Its numbers and lengths are in range. -/
def FlOk (k z : Int) (s : ByteArray) (lc fc : Nat) : Prop := (0 ≤ k ∧ k ≤ 255) ∧ (-9223372036854775808 ≤ z ∧ z ≤ 9223372036854775807) ∧ s.size ≤ maxLen ∧ lc ≤ maxLen ∧ fc ≤ maxLen
theorem fl_in {k z : Int} {s : ByteArray} {la : Option Addr} {lc : Nat} {L : Nat → V} {fa : Option Addr} {fc : Nat} {fn : Nat → ByteArray} {F : Nat → V} (h : FlOk k z s lc fc) (W : World) : (fl k z s la lc L fa fc fn F).In W :=
  ⟨h.1, h.2.1, h.2.2.1, by omega, by decide, ⟨Nat.zero_le _, h.2.2.2.1⟩, ⟨Nat.zero_le _, h.2.2.2.2⟩, fun _ hi => absurd hi (Nat.not_lt_zero _), fun _ hi => absurd hi (Nat.not_lt_zero _)⟩
theorem fl_same (k z : Int) (s : ByteArray) (la : Option Addr) (lc : Nat) (L : Nat → V) (fa : Option Addr) (fc : Nat) (fn : Nat → ByteArray) (F : Nat → V) : (vz k z s).same (fl k z s la lc L fa fc fn F) = true :=
  same_mk (fun _ hi => absurd hi (Nat.not_lt_zero _)) (fun _ hi => absurd hi (Nat.not_lt_zero _))
/-- What is the same as a flat value is flat. -/
theorem fl_of_same {k z : Int} {s : ByteArray} {u : V} {W : World} (h : (vz k z s).same u = true) (hu : u.In W) : ∃ la lc L fa fc fn F, u = fl k z s la lc L fa fc fn F ∧ FlOk k z s lc fc := by
  cases u with
  | leaf => exact hu.elim
  | mk k' n' s' la' ll' lc' L' fa' fl' fc' fn' F' e' key' hk' =>
  simp only [vz, V.same, ownB, Bool.and_eq_true, allB_iff, decide_eq_true_iff] at h
  obtain ⟨⟨rfl, rfl, rfl, rfl, rfl, rfl⟩, rfl, rfl, -⟩ := h
  exact ⟨_, _, _, _, _, _, _, rfl, hu.1, hu.2.1, hu.2.2.1, hu.2.2.2.2.2.1.2, hu.2.2.2.2.2.2.1.2⟩

set_option maxHeartbeats 400000 in
theorem number_fl (x : Int) (w : World) : Calls Tryz.prog 71 #[.int .i64 x] w fun e w' => e = .returned (.agg #[.int .u8 1, .int .i64 x, .string ⟨#[]⟩, .slice none 0 0, .slice none 0 0, .int .u8 0, .string ⟨#[]⟩, .bool false]) ∧ Below w.heap.size w w' := by
  go_enter Tryz.func71, Tryz.ntmps71
  go_wp2
  exact bodyPost_ret (v := (iv x).agg) (by simp [results, Tryz.results71, go_sem, iv, vz, V.agg, V.cells]) rfl ⟨rfl, (below_alloc w _)⟩
set_option maxHeartbeats 400000 in
theorem text_fl (s : ByteArray) (w : World) : Calls Tryz.prog 72 #[.string s] w fun e w' => e = .returned (.agg #[.int .u8 3, .int .i64 0, .string s, .slice none 0 0, .slice none 0 0, .int .u8 0, .string ⟨#[]⟩, .bool false]) ∧ Below w.heap.size w w' := by
  go_enter Tryz.func72, Tryz.ntmps72
  go_wp2
  exact bodyPost_ret (v := (sv s).agg) (by simp [results, Tryz.results72, go_sem, sv, vz, V.agg, V.cells]) rfl ⟨rfl, (below_alloc w _)⟩

set_option maxRecDepth 100000 in
set_option maxHeartbeats 2000000 in
/-- The statements' do: as Do. -/
theorem lDo_any (name : ByteArray) (la : Option Addr) (ll lc : Nat) (L : Nat → V) (w : World) (h : Vals w la ll lc L) (ht : Tabs w) :
    Calls Tryz.prog 70 #[.string name, .slice la ll lc] w fun e w' => ∃ u : V, e = .returned (.tuple #[u.agg, .bool (doB name ll L)]) ∧ u.In w' ∧ (doB name ll L = true → (doV name ll L).same u = true) ∧ (doB name ll L = false → u = nv) ∧ Below w.heap.size w w' := by
  have OK0 := OW.start h 55
  have HC := Lib.hid (fun W (hW : OW w la ll lc L W) => oDo_any name la ll lc L W hW.vals (ht.below hW.low))
  have KS := Lib.hid (fun W (h : OW w la ll lc L W) => And.intro h h.rcells)
  generalize doB name ll L = db at HC ⊢
  generalize doV name ll L = dv at HC ⊢
  simp only [nv, vz, V.cells] at OK0
  have OKH := Lib.hid OK0
  clear OK0 h ht
  go_enter Tryz.func70, Tryz.ntmps70
  go_upto_region 1 with fail
  have OKu := OKH.out
  generalize w.alloc (.cells #[.int .u8 0, .int .i64 0, .string ⟨#[]⟩, .slice none 0 0, .slice none 0 0, .int .u8 0, .string ⟨#[]⟩, .bool false] 55) = W0 at OKu ⊢
  have OK : OW w la ll lc L W0 := OKu
  clear OKu OKH
  go_wp2_with (go_at_call 15; (with_reducible refine (HC.out _ OK).mono ?_); rintro x w1 ⟨u, rfl, hd⟩; have HD := Lib.hid hd; have HO := Lib.hid (OK.below hd.low); clear hd; obtain ⟨-, ⟨d0, d1, d2, d3, d4, d5, d6, d7⟩, z0, z1, z2, z3, z4, z5, z6, z7⟩ := KS.out _ HO.out; (have hin := HD.out.inn); rcases u with _ | ⟨k4, n4, s4, la4, ll4, lc4, L4, fa4, fl4, fc4, fn4, F4, e4, key4, hk4⟩; (exact hin.elim); clear hin; simp only [V.agg, V.cells])
  refine bodyPost_ret (v := .tuple #[(V.mk k4 n4 s4 la4 ll4 lc4 L4 fa4 fl4 fc4 fn4 F4 e4 key4 hk4).agg, .bool db]) (by simp [results, Tryz.results70, go_sem, d0, d1, d2, d3, d4, d5, d6, d7, V.agg, V.cells]) rfl ?_
  have hts : TS w (V.mk k4 n4 s4 la4 ll4 lc4 L4 fa4 fl4 fc4 fn4 F4 e4 key4 hk4) w1 := ⟨HD.out.inn, HD.out.frm.mono OK.big, HD.out.own, HO.out.low⟩
  have HT := Lib.hid hts
  clear hts
  refine (fun (hs : TS w (V.mk k4 n4 s4 la4 ll4 lc4 L4 fa4 fl4 fc4 fn4 F4 e4 key4 hk4) _) => ⟨_, rfl, hs.inn, HD.out.yes, HD.out.no, hs.low⟩) ?_
  iterate 8 (with_reducible refine TS.set ?_ _ _)
  exact HT.out

/-- Boxes, and the tables. -/
structure BX (w0 : World) (l : List (Nat × List Value)) (W : World) : Prop where
  low : Below w0.heap.size w0 W
  tabs : Tabs W
  at' : ∀ p ∈ l, At W p.1 0 p.2
theorem BX.below {w0 W W' : World} {l : List (Nat × List Value)} (h : BX w0 l W) (hb : Below W.heap.size W W') : BX w0 l W' :=
  ⟨h.low.trans (hb.mono h.low.size), h.tabs.below hb, fun p hp => (h.at' p hp).below hb⟩
theorem BX.push {w0 W : World} {l : List (Nat × List Value)} (h : BX w0 l W) (cs : List Value) (T : TypeId) : BX w0 ((W.heap.size, cs) :: l) (W.alloc (.cells cs.toArray T)) := by
  have h1 := h.below (below_alloc W (.cells cs.toArray T))
  refine ⟨h1.low, h1.tabs, fun p hp => ?_⟩
  rcases List.mem_cons.1 hp with rfl | hp
  · exact at_new rfl (Below.refl _ _)
  · exact h1.at' p hp
theorem bx_get {W : World} {b : Nat} {k z : Int} {s : ByteArray} {la : Option Addr} {lc : Nat} {fa : Option Addr} {fc : Nat} (h : At W b 0 [.int .u8 k, .int .i64 z, .string s, .slice la 0 lc, .slice fa 0 fc, .int .u8 0, .string ⟨#[]⟩, .bool false]) :
    W.cell? ⟨b, 0, none⟩ = some (.int .u8 k) ∧ W.cell? ⟨b, 1, none⟩ = some (.int .i64 z) ∧ W.cell? ⟨b, 2, none⟩ = some (.string s) ∧ W.cell? ⟨b, 3, none⟩ = some (.slice la 0 lc) ∧ W.cell? ⟨b, 4, none⟩ = some (.slice fa 0 fc) ∧ W.cell? ⟨b, 5, none⟩ = some (.int .u8 0) ∧ W.cell? ⟨b, 6, none⟩ = some (.string ⟨#[]⟩) ∧ W.cell? ⟨b, 7, none⟩ = some (.bool false) :=
  atZ (L := fun _ => .leaf) (fn := fun _ => ⟨#[]⟩) (F := fun _ => .leaf) h

/-- What a call's answer is known to be. -/
def Fact (nm : ByteArray) (n : Nat) (L : Nat → V) (ok : Bool) (k z : Int) (s : ByteArray) : Prop := doB nm n L = ok ∧ (ok = true → doV nm n L = vz k z s) ∧ (ok = false → vz k z s = nv)
theorem fact_yes {nm : ByteArray} {n : Nat} {L : Nat → V} {k z : Int} {s : ByteArray} (h : doB nm n L = true ∧ doV nm n L = vz k z s) : Fact nm n L true k z s := ⟨h.1, fun _ => h.2, fun h => by cases h⟩
theorem fact_no {nm : ByteArray} {n : Nat} {L : Nat → V} (h : doB nm n L = false) : Fact nm n L false 0 0 ⟨#[]⟩ := ⟨h, (fun h => by cases h), fun _ => rfl⟩

/-- What a call on flat values answers: a flat value. -/
def FlPost (ok : Bool) (k z : Int) (s : ByteArray) (W : World) (e : Ending) (w' : World) : Prop :=
  ∃ la lc fa fc, e = .returned (.tuple #[.agg #[.int .u8 k, .int .i64 z, .string s, .slice la 0 lc, .slice fa 0 fc, .int .u8 0, .string ⟨#[]⟩, .bool false], .bool ok]) ∧ FlOk k z s lc fc ∧ Below W.heap.size W w'

theorem doF1 {nm : ByteArray} {ok : Bool} {k z : Int} {s : ByteArray} {k1 z1 : Int} {s1 : ByteArray} {la1 : Option Addr} {lc1 : Nat} {fa1 : Option Addr} {fc1 : Nat} (W : World) (ht : Tabs W) (h1 : FlOk k1 z1 s1 lc1 fc1)
    (hf : Fact nm 1 (v1 (vz k1 z1 s1)) ok k z s) :
    Calls Tryz.prog 70 #[.string nm, .slice (some ⟨W.heap.size, 0, none⟩) 1 1] (W.alloc (.cells #[.int .u8 k1, .int .i64 z1, .string s1, .slice la1 0 lc1, .slice fa1 0 fc1, .int .u8 0, .string ⟨#[]⟩, .bool false] 55)) (FlPost ok k z s W) := by
  have hV : Vals (W.alloc (.cells #[.int .u8 k1, .int .i64 z1, .string s1, .slice la1 0 lc1, .slice fa1 0 fc1, .int .u8 0, .string ⟨#[]⟩, .bool false] 55)) (some ⟨W.heap.size, 0, none⟩) 1 1 (v1 (fl k1 z1 s1 la1 lc1 (fun _ => .leaf) fa1 fc1 (fun _ => ⟨#[]⟩) (fun _ => .leaf))) := by
    have ha : At (W.alloc (.cells #[.int .u8 k1, .int .i64 z1, .string s1, .slice la1 0 lc1, .slice fa1 0 fc1, .int .u8 0, .string ⟨#[]⟩, .bool false] 55)) W.heap.size 0 ((fl k1 z1 s1 la1 lc1 (fun _ => .leaf) fa1 fc1 (fun _ => ⟨#[]⟩) (fun _ => .leaf)).cells) := at_new (cs := (fl k1 z1 s1 la1 lc1 (fun _ => .leaf) fa1 fc1 (fun _ => ⟨#[]⟩) (fun _ => .leaf)).cells) rfl (Below.refl _ _)
    refine ⟨⟨Nat.le_refl _, by decide⟩, fun i hi => ?_⟩
    match i, hi with
    | 0, _ => exact ⟨⟨_, 0, rfl, ha.sub 0 (tl := []) rfl⟩, fl_in h1 _⟩
  have hs : ∀ i, i < 1 → ((v1 (vz k1 z1 s1)) i).same ((v1 (fl k1 z1 s1 la1 lc1 (fun _ => .leaf) fa1 fc1 (fun _ => ⟨#[]⟩) (fun _ => .leaf))) i) = true := by
    intro i hi
    match i, hi with
    | 0, _ => exact fl_same _ _ _ _ _ _ _ _ _ _
  have hx := do_ext (name := nm) hs
  obtain ⟨hb, hv, hv'⟩ := hf
  refine (lDo_any nm _ 1 1 (v1 (fl k1 z1 s1 la1 lc1 (fun _ => .leaf) fa1 fc1 (fun _ => ⟨#[]⟩) (fun _ => .leaf))) _ hV (ht.below (below_alloc _ _))).mono ?_
  rintro e w' ⟨u, rfl, hin, hy, hn, hl⟩
  have hl' : Below W.heap.size W w' := (below_alloc W _).trans (hl.mono (by simp))
  rw [hx.1, hb] at hy hn ⊢
  have hsu : (vz k z s).same u = true := by
    cases ok with
    | false => rw [hv' rfl, hn rfl]; exact vz_same _ _ _
    | true => rw [← hv rfl]; exact same_trans _ _ _ (hx.2 (by rw [hb])) (hy rfl)
  obtain ⟨la, lc, L, fa, fc, fn, F, rfl, hok⟩ := fl_of_same hsu hin
  exact ⟨la, lc, fa, fc, rfl, hok, hl'⟩

theorem doF2 {nm : ByteArray} {ok : Bool} {k z : Int} {s : ByteArray} {k1 z1 : Int} {s1 : ByteArray} {la1 : Option Addr} {lc1 : Nat} {fa1 : Option Addr} {fc1 : Nat} {k2 z2 : Int} {s2 : ByteArray} {la2 : Option Addr} {lc2 : Nat} {fa2 : Option Addr} {fc2 : Nat} (W : World) (ht : Tabs W) (h1 : FlOk k1 z1 s1 lc1 fc1) (h2 : FlOk k2 z2 s2 lc2 fc2)
    (hf : Fact nm 2 (v2 (vz k1 z1 s1) (vz k2 z2 s2)) ok k z s) :
    Calls Tryz.prog 70 #[.string nm, .slice (some ⟨W.heap.size, 0, none⟩) 2 2] (W.alloc (.cells #[.int .u8 k1, .int .i64 z1, .string s1, .slice la1 0 lc1, .slice fa1 0 fc1, .int .u8 0, .string ⟨#[]⟩, .bool false, .int .u8 k2, .int .i64 z2, .string s2, .slice la2 0 lc2, .slice fa2 0 fc2, .int .u8 0, .string ⟨#[]⟩, .bool false] 55)) (FlPost ok k z s W) := by
  have hV : Vals (W.alloc (.cells #[.int .u8 k1, .int .i64 z1, .string s1, .slice la1 0 lc1, .slice fa1 0 fc1, .int .u8 0, .string ⟨#[]⟩, .bool false, .int .u8 k2, .int .i64 z2, .string s2, .slice la2 0 lc2, .slice fa2 0 fc2, .int .u8 0, .string ⟨#[]⟩, .bool false] 55)) (some ⟨W.heap.size, 0, none⟩) 2 2 (v2 (fl k1 z1 s1 la1 lc1 (fun _ => .leaf) fa1 fc1 (fun _ => ⟨#[]⟩) (fun _ => .leaf)) (fl k2 z2 s2 la2 lc2 (fun _ => .leaf) fa2 fc2 (fun _ => ⟨#[]⟩) (fun _ => .leaf))) := by
    have ha : At (W.alloc (.cells #[.int .u8 k1, .int .i64 z1, .string s1, .slice la1 0 lc1, .slice fa1 0 fc1, .int .u8 0, .string ⟨#[]⟩, .bool false, .int .u8 k2, .int .i64 z2, .string s2, .slice la2 0 lc2, .slice fa2 0 fc2, .int .u8 0, .string ⟨#[]⟩, .bool false] 55)) W.heap.size 0 ((fl k1 z1 s1 la1 lc1 (fun _ => .leaf) fa1 fc1 (fun _ => ⟨#[]⟩) (fun _ => .leaf)).cells ++ (fl k2 z2 s2 la2 lc2 (fun _ => .leaf) fa2 fc2 (fun _ => ⟨#[]⟩) (fun _ => .leaf)).cells) := at_new (cs := (fl k1 z1 s1 la1 lc1 (fun _ => .leaf) fa1 fc1 (fun _ => ⟨#[]⟩) (fun _ => .leaf)).cells ++ (fl k2 z2 s2 la2 lc2 (fun _ => .leaf) fa2 fc2 (fun _ => ⟨#[]⟩) (fun _ => .leaf)).cells) rfl (Below.refl _ _)
    refine ⟨⟨Nat.le_refl _, by decide⟩, fun i hi => ?_⟩
    match i, hi with
    | 0, _ => exact ⟨⟨_, 0, rfl, ha.sub 0 (tl := _) rfl⟩, fl_in h1 _⟩
    | 1, _ => exact ⟨⟨_, 0, rfl, ha.sub 8 (tl := []) rfl⟩, fl_in h2 _⟩
  have hs : ∀ i, i < 2 → ((v2 (vz k1 z1 s1) (vz k2 z2 s2)) i).same ((v2 (fl k1 z1 s1 la1 lc1 (fun _ => .leaf) fa1 fc1 (fun _ => ⟨#[]⟩) (fun _ => .leaf)) (fl k2 z2 s2 la2 lc2 (fun _ => .leaf) fa2 fc2 (fun _ => ⟨#[]⟩) (fun _ => .leaf))) i) = true := by
    intro i hi
    match i, hi with
    | 0, _ => exact fl_same _ _ _ _ _ _ _ _ _ _
    | 1, _ => exact fl_same _ _ _ _ _ _ _ _ _ _
  have hx := do_ext (name := nm) hs
  obtain ⟨hb, hv, hv'⟩ := hf
  refine (lDo_any nm _ 2 2 (v2 (fl k1 z1 s1 la1 lc1 (fun _ => .leaf) fa1 fc1 (fun _ => ⟨#[]⟩) (fun _ => .leaf)) (fl k2 z2 s2 la2 lc2 (fun _ => .leaf) fa2 fc2 (fun _ => ⟨#[]⟩) (fun _ => .leaf))) _ hV (ht.below (below_alloc _ _))).mono ?_
  rintro e w' ⟨u, rfl, hin, hy, hn, hl⟩
  have hl' : Below W.heap.size W w' := (below_alloc W _).trans (hl.mono (by simp))
  rw [hx.1, hb] at hy hn ⊢
  have hsu : (vz k z s).same u = true := by
    cases ok with
    | false => rw [hv' rfl, hn rfl]; exact vz_same _ _ _
    | true => rw [← hv rfl]; exact same_trans _ _ _ (hx.2 (by rw [hb])) (hy rfl)
  obtain ⟨la, lc, L, fa, fc, fn, F, rfl, hok⟩ := fl_of_same hsu hin
  exact ⟨la, lc, fa, fc, rfl, hok, hl'⟩

theorem doF3 {nm : ByteArray} {ok : Bool} {k z : Int} {s : ByteArray} {k1 z1 : Int} {s1 : ByteArray} {la1 : Option Addr} {lc1 : Nat} {fa1 : Option Addr} {fc1 : Nat} {k2 z2 : Int} {s2 : ByteArray} {la2 : Option Addr} {lc2 : Nat} {fa2 : Option Addr} {fc2 : Nat} {k3 z3 : Int} {s3 : ByteArray} {la3 : Option Addr} {lc3 : Nat} {fa3 : Option Addr} {fc3 : Nat} (W : World) (ht : Tabs W) (h1 : FlOk k1 z1 s1 lc1 fc1) (h2 : FlOk k2 z2 s2 lc2 fc2) (h3 : FlOk k3 z3 s3 lc3 fc3)
    (hf : Fact nm 3 (v3 (vz k1 z1 s1) (vz k2 z2 s2) (vz k3 z3 s3)) ok k z s) :
    Calls Tryz.prog 70 #[.string nm, .slice (some ⟨W.heap.size, 0, none⟩) 3 3] (W.alloc (.cells #[.int .u8 k1, .int .i64 z1, .string s1, .slice la1 0 lc1, .slice fa1 0 fc1, .int .u8 0, .string ⟨#[]⟩, .bool false, .int .u8 k2, .int .i64 z2, .string s2, .slice la2 0 lc2, .slice fa2 0 fc2, .int .u8 0, .string ⟨#[]⟩, .bool false, .int .u8 k3, .int .i64 z3, .string s3, .slice la3 0 lc3, .slice fa3 0 fc3, .int .u8 0, .string ⟨#[]⟩, .bool false] 55)) (FlPost ok k z s W) := by
  have hV : Vals (W.alloc (.cells #[.int .u8 k1, .int .i64 z1, .string s1, .slice la1 0 lc1, .slice fa1 0 fc1, .int .u8 0, .string ⟨#[]⟩, .bool false, .int .u8 k2, .int .i64 z2, .string s2, .slice la2 0 lc2, .slice fa2 0 fc2, .int .u8 0, .string ⟨#[]⟩, .bool false, .int .u8 k3, .int .i64 z3, .string s3, .slice la3 0 lc3, .slice fa3 0 fc3, .int .u8 0, .string ⟨#[]⟩, .bool false] 55)) (some ⟨W.heap.size, 0, none⟩) 3 3 (v3 (fl k1 z1 s1 la1 lc1 (fun _ => .leaf) fa1 fc1 (fun _ => ⟨#[]⟩) (fun _ => .leaf)) (fl k2 z2 s2 la2 lc2 (fun _ => .leaf) fa2 fc2 (fun _ => ⟨#[]⟩) (fun _ => .leaf)) (fl k3 z3 s3 la3 lc3 (fun _ => .leaf) fa3 fc3 (fun _ => ⟨#[]⟩) (fun _ => .leaf))) := by
    have ha : At (W.alloc (.cells #[.int .u8 k1, .int .i64 z1, .string s1, .slice la1 0 lc1, .slice fa1 0 fc1, .int .u8 0, .string ⟨#[]⟩, .bool false, .int .u8 k2, .int .i64 z2, .string s2, .slice la2 0 lc2, .slice fa2 0 fc2, .int .u8 0, .string ⟨#[]⟩, .bool false, .int .u8 k3, .int .i64 z3, .string s3, .slice la3 0 lc3, .slice fa3 0 fc3, .int .u8 0, .string ⟨#[]⟩, .bool false] 55)) W.heap.size 0 ((fl k1 z1 s1 la1 lc1 (fun _ => .leaf) fa1 fc1 (fun _ => ⟨#[]⟩) (fun _ => .leaf)).cells ++ (fl k2 z2 s2 la2 lc2 (fun _ => .leaf) fa2 fc2 (fun _ => ⟨#[]⟩) (fun _ => .leaf)).cells ++ (fl k3 z3 s3 la3 lc3 (fun _ => .leaf) fa3 fc3 (fun _ => ⟨#[]⟩) (fun _ => .leaf)).cells) := at_new (cs := (fl k1 z1 s1 la1 lc1 (fun _ => .leaf) fa1 fc1 (fun _ => ⟨#[]⟩) (fun _ => .leaf)).cells ++ (fl k2 z2 s2 la2 lc2 (fun _ => .leaf) fa2 fc2 (fun _ => ⟨#[]⟩) (fun _ => .leaf)).cells ++ (fl k3 z3 s3 la3 lc3 (fun _ => .leaf) fa3 fc3 (fun _ => ⟨#[]⟩) (fun _ => .leaf)).cells) rfl (Below.refl _ _)
    refine ⟨⟨Nat.le_refl _, by decide⟩, fun i hi => ?_⟩
    match i, hi with
    | 0, _ => exact ⟨⟨_, 0, rfl, ha.sub 0 (tl := _) rfl⟩, fl_in h1 _⟩
    | 1, _ => exact ⟨⟨_, 0, rfl, ha.sub 8 (tl := _) rfl⟩, fl_in h2 _⟩
    | 2, _ => exact ⟨⟨_, 0, rfl, ha.sub 16 (tl := []) rfl⟩, fl_in h3 _⟩
  have hs : ∀ i, i < 3 → ((v3 (vz k1 z1 s1) (vz k2 z2 s2) (vz k3 z3 s3)) i).same ((v3 (fl k1 z1 s1 la1 lc1 (fun _ => .leaf) fa1 fc1 (fun _ => ⟨#[]⟩) (fun _ => .leaf)) (fl k2 z2 s2 la2 lc2 (fun _ => .leaf) fa2 fc2 (fun _ => ⟨#[]⟩) (fun _ => .leaf)) (fl k3 z3 s3 la3 lc3 (fun _ => .leaf) fa3 fc3 (fun _ => ⟨#[]⟩) (fun _ => .leaf))) i) = true := by
    intro i hi
    match i, hi with
    | 0, _ => exact fl_same _ _ _ _ _ _ _ _ _ _
    | 1, _ => exact fl_same _ _ _ _ _ _ _ _ _ _
    | 2, _ => exact fl_same _ _ _ _ _ _ _ _ _ _
  have hx := do_ext (name := nm) hs
  obtain ⟨hb, hv, hv'⟩ := hf
  refine (lDo_any nm _ 3 3 (v3 (fl k1 z1 s1 la1 lc1 (fun _ => .leaf) fa1 fc1 (fun _ => ⟨#[]⟩) (fun _ => .leaf)) (fl k2 z2 s2 la2 lc2 (fun _ => .leaf) fa2 fc2 (fun _ => ⟨#[]⟩) (fun _ => .leaf)) (fl k3 z3 s3 la3 lc3 (fun _ => .leaf) fa3 fc3 (fun _ => ⟨#[]⟩) (fun _ => .leaf))) _ hV (ht.below (below_alloc _ _))).mono ?_
  rintro e w' ⟨u, rfl, hin, hy, hn, hl⟩
  have hl' : Below W.heap.size W w' := (below_alloc W _).trans (hl.mono (by simp))
  rw [hx.1, hb] at hy hn ⊢
  have hsu : (vz k z s).same u = true := by
    cases ok with
    | false => rw [hv' rfl, hn rfl]; exact vz_same _ _ _
    | true => rw [← hv rfl]; exact same_trans _ _ _ (hx.2 (by rw [hb])) (hy rfl)
  obtain ⟨la, lc, L, fa, fc, fn, F, rfl, hok⟩ := fl_of_same hsu hin
  exact ⟨la, lc, fa, fc, rfl, hok, hl'⟩
end Go.Proofs.YtjbapldlgnlepaaGreatDoor
namespace Go.Proofs.YtjbapldlgnlepaaGreatDoor
open Go.RowKit Go.Deep Go.WideShapes

theorem wrap_emod (x : Int) : wrap64 x % 18446744073709551616 = x % 18446744073709551616 := by unfold wrap64; omega
theorem wrap_congr {x y : Int} (h : x % 18446744073709551616 = y % 18446744073709551616) : wrap64 x = wrap64 y := by unfold wrap64; omega
theorem wrap_back {a b : Int} (h : -9223372036854775808 ≤ a ∧ a ≤ 9223372036854775807) : wrap64 (wrap64 (a + b) - b) = a := by unfold wrap64; omega
theorem wrap_dist (a b c : Int) : wrap64 (wrap64 (a * b) + wrap64 (a * c)) = wrap64 (a * wrap64 (b + c)) := by
  refine wrap_congr ?_
  rw [Int.add_emod, wrap_emod, wrap_emod, ← Int.add_emod, Int.mul_emod a (wrap64 (b + c)), wrap_emod, ← Int.mul_emod, Int.mul_add]

theorem n_add {a b z : Int} (h : wrap64 (a + b) = z) : Fact ⟨#[97, 100, 100]⟩ 2 (v2 (vz 1 a ⟨#[]⟩) (vz 1 b ⟨#[]⟩)) true 1 z ⟨#[]⟩ := fact_yes (by rw [← h]; exact do_add a b)
theorem n_sub {a b z : Int} (h : wrap64 (a - b) = z) : Fact ⟨#[115, 117, 98]⟩ 2 (v2 (vz 1 a ⟨#[]⟩) (vz 1 b ⟨#[]⟩)) true 1 z ⟨#[]⟩ := fact_yes (by rw [← h]; exact do_sub a b)
theorem n_mul {a b z : Int} (h : wrap64 (a * b) = z) : Fact ⟨#[109, 117, 108]⟩ 2 (v2 (vz 1 a ⟨#[]⟩) (vz 1 b ⟨#[]⟩)) true 1 z ⟨#[]⟩ := fact_yes (by rw [← h]; exact do_mul a b)
theorem n_lt {a b z : Int} (h : bq (decide (a < b)) = z) : Fact ⟨#[108, 116]⟩ 2 (v2 (vz 1 a ⟨#[]⟩) (vz 1 b ⟨#[]⟩)) true 2 z ⟨#[]⟩ := fact_yes (by rw [← h]; exact do_lt a b)
theorem n_eq {a b z : Int} (h : bq (decide (a = b)) = z) : Fact ⟨#[101, 113]⟩ 2 (v2 (vz 1 a ⟨#[]⟩) (vz 1 b ⟨#[]⟩)) true 2 z ⟨#[]⟩ := fact_yes (by
  rw [← h]
  have h1 := do_eq (iv a) (iv b) (iv_check a) (iv_check b)
  rw [iv_eq] at h1
  exact h1)
theorem tri (a b : Int) : bq (decide (a < b)) + bq (decide (b < a)) + bq (decide (a = b)) = 1 := by
  unfold bq
  by_cases h1 : a < b
  · have h2 : ¬ b < a := by omega
    have h3 : ¬ a = b := by omega
    simp [h1, h2, h3]
  · by_cases h2 : b < a
    · have h3 : ¬ a = b := by omega
      simp [h1, h2, h3]
    · have h3 : a = b := by omega
      simp [h3]
theorem bq_range (b : Bool) : 0 ≤ bq b ∧ bq b ≤ 1 := by cases b <;> decide

theorem BX.push3 {w0 W : World} {l : List (Nat × List Value)} (h : BX w0 l W) (c1 c2 c3 : List Value) (T : TypeId) :
    BX w0 ((W.heap.size + 2, c3) :: (W.heap.size + 1, c2) :: (W.heap.size, c1) :: l) (((W.alloc (.cells c1.toArray T)).alloc (.cells c2.toArray T)).alloc (.cells c3.toArray T)) := by
  have h3 := ((h.push c1 T).push c2 T).push c3 T
  simpa using h3
end Go.Proofs.YtjbapldlgnlepaaGreatDoor
namespace Go.Proofs.YtjbapldlgnlepaaGreatDoor
open Go.RowKit Go.Deep Go.WideShapes

theorem al_1 : Fact ⟨#[97, 100, 100]⟩ 2 (v2 (vz 1 2 ⟨#[]⟩) (vz 1 3 ⟨#[]⟩)) true 1 5 ⟨#[]⟩ := fact_yes ⟨(do_add 2 3).1, (do_add 2 3).2.trans (by rw [show wrap64 (2 + 3) = 5 by unfold wrap64; omega]; rfl)⟩
theorem al_2 : Fact ⟨#[99, 97, 116]⟩ 3 (v3 (vz 3 0 ⟨#[97]⟩) (vz 1 (-5) ⟨#[]⟩) (vz 3 0 ⟨#[98]⟩)) true 3 0 ⟨#[97, 45, 53, 98]⟩ := by
  have hi : Lib.itoa (-5) = [45, 53] := by simp [Lib.itoa, Lib.decDigits]
  have e1 : catL 1 (v3 (vz 3 0 ⟨#[97]⟩) (vz 1 (-5) ⟨#[]⟩) (vz 3 0 ⟨#[98]⟩)) = [97] := rfl
  have e2 : catL 2 (v3 (vz 3 0 ⟨#[97]⟩) (vz 1 (-5) ⟨#[]⟩) (vz 3 0 ⟨#[98]⟩)) = [97, 45, 53] := by
    rw [catL, e1, show piece (v3 (vz 3 0 ⟨#[97]⟩) (vz 1 (-5) ⟨#[]⟩) (vz 3 0 ⟨#[98]⟩) 1) = Lib.itoa (-5) from rfl, hi]; rfl
  have e3 : catL 3 (v3 (vz 3 0 ⟨#[97]⟩) (vz 1 (-5) ⟨#[]⟩) (vz 3 0 ⟨#[98]⟩)) = [97, 45, 53, 98] := by
    rw [catL, e2]; rfl
  have e : opV 6 3 (v3 (vz 3 0 ⟨#[97]⟩) (vz 1 (-5) ⟨#[]⟩) (vz 3 0 ⟨#[98]⟩)) = vz 3 0 ⟨#[97, 45, 53, 98]⟩ := by
    show sv ⟨(catL 3 _).toArray⟩ = _
    rw [e3]; rfl
  refine fact_yes ?_
  unfold doB doV
  rw [at_cat]
  refine ⟨?_, e⟩
  show (takesB 0 (-1) (3 : Nat) && (allB 3 (fun i => (v3 (vz 3 0 ⟨#[97]⟩) (vz 1 (-5) ⟨#[]⟩) (vz 3 0 ⟨#[98]⟩) i).check) && (catB 3 _ && (opV 6 3 _).check))) = true
  rw [e, catB, allB3, allB3, e1, e2, e3]
  rfl
theorem al_3 : Fact ⟨#[108, 116]⟩ 2 (v2 (vz 3 0 ⟨#[97]⟩) (vz 3 0 ⟨#[97, 98]⟩)) true 2 1 ⟨#[]⟩ := fact_yes ⟨(do_lts ⟨#[97]⟩ ⟨#[97, 98]⟩ (by decide) (by decide)).1, (do_lts ⟨#[97]⟩ ⟨#[97, 98]⟩ (by decide) (by decide)).2.trans (by rw [show Op.bytesLess (ByteArray.mk #[97]).toList (ByteArray.mk #[97, 98]).toList = true by rw [ByteArray.toList_eq, ByteArray.toList_eq]; rfl]; rfl)⟩
theorem al_4 : Fact ⟨#[97, 100, 100]⟩ 1 (v1 (vz 1 1 ⟨#[]⟩)) false 0 0 ⟨#[]⟩ := fact_no (by rfl)
theorem al_5 : Fact ⟨#[108, 101, 110]⟩ 1 (v1 (vz 1 5 ⟨#[]⟩)) false 0 0 ⟨#[]⟩ := fact_no (by rfl)
theorem al_6 : takeL ⟨#[99, 97, 116]⟩ = 0 ∧ takeM ⟨#[99, 97, 116]⟩ = -1 ∧ takeB ⟨#[99, 97, 116]⟩ = true := by
  simp only [takeL, takeM, takeB, at_cat]; exact ⟨rfl, rfl, trivial⟩

theorem ok_iv {z : Int} (h : -9223372036854775808 ≤ z ∧ z ≤ 9223372036854775807) : FlOk 1 z ⟨#[]⟩ 0 0 := ⟨by omega, h, by decide, by decide, by decide⟩
theorem ok_sv {s : ByteArray} (h : s.size ≤ maxLen) : FlOk 3 0 s 0 0 := ⟨by omega, by omega, h, by decide, by decide⟩
theorem bx_nil {w : World} (h : Tabs w) : BX w [] w := ⟨Below.refl _ _, h, fun _ hp => by cases hp⟩

set_option maxRecDepth 100000 in
set_option maxHeartbeats 4000000 in
theorem alive2_any (w : World) (ht : Tabs w) : Calls Tryz.prog 12 #[] w fun e w' => e = .returned (.bool true) ∧ Below w.heap.size w w' := by
  have HB := Lib.hid (bx_nil ht)
  have F1 := Lib.hid al_1
  have F2 := Lib.hid al_2
  have F3 := Lib.hid al_3
  have F4 := Lib.hid al_4
  have F5 := Lib.hid al_5
  have HT6 : Hid (∀ W, Calls Tryz.prog 5 #[.string ⟨#[99, 97, 116]⟩] W fun e w' => e = .returned (.tuple #[.int .i64 0, .int .i64 (-1), .bool true]) ∧ Below W.heap.size W w') := fun W => by
    have h := oTakes_any ⟨#[99, 97, 116]⟩ W
    rw [al_6.1, al_6.2.1, al_6.2.2] at h
    exact h
  clear ht
  go_enter Tryz.func12, Tryz.ntmps12
  go_upto_region 2 with (first
      | (go_at_call 70; (with_reducible refine (doF2 _ HB.out.tabs (ok_iv (by omega)) (ok_iv (by omega)) F1.out).mono ?_); rintro q w1 ⟨lab1, lcb1, fab1, fcb1, rfl, hok, hb1⟩; (have HOb1 := Lib.hid hok); replace HB := Lib.hid (HB.out.below hb1); clear hok hb1)
      | (go_at_call 71; (with_reducible refine (number_fl _ _).mono ?_); rintro q w1 ⟨rfl, hb1⟩; replace HB := Lib.hid (HB.out.below hb1); clear hb1))
  replace HB := Lib.hid (HB.out.push [.int .u8 1, .int .i64 5, .string ⟨#[]⟩, .slice lab1 0 lcb1, .slice fab1 0 fcb1, .int .u8 0, .string ⟨#[]⟩, .bool false] 55)
  revert HB
  generalize w1.alloc (.cells #[.int .u8 1, .int .i64 5, .string ⟨#[]⟩, .slice lab1 0 lcb1, .slice fab1 0 fcb1, .int .u8 0, .string ⟨#[]⟩, .bool false] 55) = W
  generalize w1.heap.size = b1
  intro HB
  go_upto_region 3 with (first
      | (go_at_call 70; (with_reducible refine (doF3 _ HB.out.tabs (ok_sv (by decide)) (ok_iv (by omega)) (ok_sv (by decide)) F2.out).mono ?_); rintro q w1 ⟨lab2, lcb2, fab2, fcb2, rfl, hok, hb1⟩; (have HOb2 := Lib.hid hok); replace HB := Lib.hid (HB.out.below hb1); clear hok hb1)
      | (go_at_call 71; (with_reducible refine (number_fl _ _).mono ?_); rintro q w1 ⟨rfl, hb1⟩; replace HB := Lib.hid (HB.out.below hb1); clear hb1)
      | (go_at_call 72; (with_reducible refine (text_fl _ _).mono ?_); rintro q w1 ⟨rfl, hb1⟩; replace HB := Lib.hid (HB.out.below hb1); clear hb1))
  replace HB := Lib.hid (HB.out.push [.int .u8 3, .int .i64 0, .string ⟨#[97, 45, 53, 98]⟩, .slice lab2 0 lcb2, .slice fab2 0 fcb2, .int .u8 0, .string ⟨#[]⟩, .bool false] 55)
  revert HB
  generalize w1.alloc (.cells #[.int .u8 3, .int .i64 0, .string ⟨#[97, 45, 53, 98]⟩, .slice lab2 0 lcb2, .slice fab2 0 fcb2, .int .u8 0, .string ⟨#[]⟩, .bool false] 55) = W
  generalize w1.heap.size = b2
  intro HB
  go_upto_region 4 with (first
      | (go_at_call 70; (with_reducible refine (doF2 _ HB.out.tabs (ok_sv (by decide)) (ok_sv (by decide)) F3.out).mono ?_); rintro q w1 ⟨lab3, lcb3, fab3, fcb3, rfl, hok, hb1⟩; (have HOb3 := Lib.hid hok); replace HB := Lib.hid (HB.out.below hb1); clear hok hb1)
      | (go_at_call 72; (with_reducible refine (text_fl _ _).mono ?_); rintro q w1 ⟨rfl, hb1⟩; replace HB := Lib.hid (HB.out.below hb1); clear hb1))
  replace HB := Lib.hid (HB.out.push [.int .u8 2, .int .i64 1, .string ⟨#[]⟩, .slice lab3 0 lcb3, .slice fab3 0 fcb3, .int .u8 0, .string ⟨#[]⟩, .bool false] 55)
  revert HB
  generalize w1.alloc (.cells #[.int .u8 2, .int .i64 1, .string ⟨#[]⟩, .slice lab3 0 lcb3, .slice fab3 0 fcb3, .int .u8 0, .string ⟨#[]⟩, .bool false] 55) = W
  generalize w1.heap.size = b3
  intro HB
  go_upto_region 5 with (first
      | (go_at_call 70; (with_reducible refine (doF1 _ HB.out.tabs (ok_iv (by omega)) F4.out).mono ?_); rintro q w1 ⟨lab4, lcb4, fab4, fcb4, rfl, hok, hb1⟩; (have HOb4 := Lib.hid hok); replace HB := Lib.hid (HB.out.below hb1); clear hok hb1)
      | (go_at_call 71; (with_reducible refine (number_fl _ _).mono ?_); rintro q w1 ⟨rfl, hb1⟩; replace HB := Lib.hid (HB.out.below hb1); clear hb1))
  replace HB := Lib.hid (HB.out.push [.int .u8 0, .int .i64 0, .string ⟨#[]⟩, .slice lab4 0 lcb4, .slice fab4 0 fcb4, .int .u8 0, .string ⟨#[]⟩, .bool false] 55)
  revert HB
  generalize w1.alloc (.cells #[.int .u8 0, .int .i64 0, .string ⟨#[]⟩, .slice lab4 0 lcb4, .slice fab4 0 fcb4, .int .u8 0, .string ⟨#[]⟩, .bool false] 55) = W
  generalize w1.heap.size = b4
  intro HB
  go_upto_region 6 with (first
      | (go_at_call 70; (with_reducible refine (doF1 _ HB.out.tabs (ok_iv (by omega)) F5.out).mono ?_); rintro q w1 ⟨lab5, lcb5, fab5, fcb5, rfl, hok, hb1⟩; (have HOb5 := Lib.hid hok); replace HB := Lib.hid (HB.out.below hb1); clear hok hb1)
      | (go_at_call 71; (with_reducible refine (number_fl _ _).mono ?_); rintro q w1 ⟨rfl, hb1⟩; replace HB := Lib.hid (HB.out.below hb1); clear hb1))
  replace HB := Lib.hid (HB.out.push [.int .u8 0, .int .i64 0, .string ⟨#[]⟩, .slice lab5 0 lcb5, .slice fab5 0 fcb5, .int .u8 0, .string ⟨#[]⟩, .bool false] 55)
  revert HB
  generalize w1.alloc (.cells #[.int .u8 0, .int .i64 0, .string ⟨#[]⟩, .slice lab5 0 lcb5, .slice fab5 0 fcb5, .int .u8 0, .string ⟨#[]⟩, .bool false] 55) = W
  generalize w1.heap.size = b5
  intro HB
  go_upto_region 7 with (go_at_call 5; (with_reducible refine (HT6.out _).mono ?_); rintro q w1 ⟨rfl, hb1⟩; replace HB := Lib.hid (HB.out.below hb1); clear hb1)
  obtain ⟨c0, c1, c2, c3, c4, c5, c6, c7⟩ := bx_get (HB.out.at' _ (.tail _ (.tail _ (.tail _ (.tail _ (.head _))))))
  obtain ⟨d0, d1, d2, d3, d4, d5, d6, d7⟩ := bx_get (HB.out.at' _ (.tail _ (.tail _ (.tail _ (.head _)))))
  obtain ⟨f0, f1, f2, f3, f4, f5, f6, f7⟩ := bx_get (HB.out.at' _ (.tail _ (.tail _ (.head _))))
  go_wp2_with fail
  go_ret
  exact ⟨rfl, HB.out.low⟩
end Go.Proofs.YtjbapldlgnlepaaGreatDoor
