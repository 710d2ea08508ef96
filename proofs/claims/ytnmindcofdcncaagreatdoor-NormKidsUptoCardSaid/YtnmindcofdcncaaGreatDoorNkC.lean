/-
  Plain: api.Child ('C'), what value is which child ('V.kid'); walks: norm.text, norm.element, norm.child.
  Conditions: the value lies in memory, each of its lists takes no more than the reach; the three tables hold what the program's text lays in them.
-/
import Derived.Test.YtnmindcofdcncaaGreatDoorNkAn
import Derived.Test.YtnmindcofdcncaaGreatDoorNTab
import Derived.Test.YtnmindcofdcncaaGreatDoorCh
import Derived.Deep.RegionHeld3
namespace Go.Proofs.YtnmindcofdcncaaGreatDoor
set_option linter.unusedVariables false
set_option linter.unusedSimpArgs false
open Go.RowKit Go.Deep Go.WideShapes
instance : Inhabited C := ⟨⟨⟨#[]⟩, 0, ⟨#[]⟩, nv⟩⟩
def C.sm (c d : C) : Prop := c.key = d.key ∧ c.kind = d.kind ∧ c.name = d.name ∧ c.val.same d.val = true
def nc : C := ⟨⟨#[]⟩, 0, ⟨#[]⟩, nv⟩
def textC (s : ByteArray) : C := ⟨⟨#[]⟩, 9, ⟨#[]⟩, vz 3 0 s⟩
def V.kid : V → Option C
  | .leaf => none
  | .mk k n s la ll lc L fa fl fc fn F e key hk =>
    if k = 1 then some (textC ⟨(Lib.itoa n).toArray⟩) else if k = 3 then some (textC s) else if k = 6 ∧ 0 < e ∧ e < 9 then some ⟨⟨#[]⟩, e, s, .mk k n s la ll lc L fa fl fc fn F e key hk⟩ else none
theorem int_told (n : Int) (hn : -9223372036854775808 ≤ n ∧ n ≤ 9223372036854775807) : (vz 1 n ⟨#[]⟩).text = ⟨(Lib.itoa n).toArray⟩ := by
  have hc : (vz 1 n ⟨#[]⟩).check = true := by
    have e0 : ((⟨#[]⟩ : ByteArray) = ByteArray.empty) = True := eq_true rfl
    simp [e0, vz, V.check, V.may, foldTo, inLimB, inRowB, isElemB, emptyB, ByteArray.size, risingB, allB]
  rw [V.text, if_pos hc]
  rfl
set_option maxHeartbeats 1000000 in
theorem ktext_any (s : ByteArray) (w : World) : Calls Tryz.prog 80 #[.string s] w fun e w' => e = .returned (textC s).agg ∧ Below w.heap.size w w' := by
  have hlow : Hid (∀ (O : Obj), Below w.heap.size w (w.alloc O)) := fun O => below_alloc w O
  simp only [C.agg, C.cells, textC, vz, V.cells]
  go_enter Tryz.func80, Tryz.ntmps80
  go_wp2_with fail
  refine bodyPost_ret (v := .agg #[.string ⟨#[]⟩, .int .u8 9, .string ⟨#[]⟩, .int .u8 3, .int .i64 0, .string s, .slice none 0 0, .slice none 0 0, .int .u8 0, .string ⟨#[]⟩, .bool false]) (by simp [results, Tryz.results80, go_sem]) rfl ⟨rfl, hlow.out _⟩
theorem at11 {w : World} {b o : Nat} {c0 c1 c2 c3 c4 c5 c6 c7 c8 c9 c10 : Value} (h : At w b o [c0, c1, c2, c3, c4, c5, c6, c7, c8, c9, c10]) :
    w.cell? ⟨b, o, none⟩ = some c0 ∧ w.cell? ⟨b, o + 1, none⟩ = some c1 ∧ w.cell? ⟨b, o + 2, none⟩ = some c2 ∧ w.cell? ⟨b, o + 3, none⟩ = some c3 ∧ w.cell? ⟨b, o + 4, none⟩ = some c4 ∧ w.cell? ⟨b, o + 5, none⟩ = some c5 ∧ w.cell? ⟨b, o + 6, none⟩ = some c6 ∧ w.cell? ⟨b, o + 7, none⟩ = some c7 ∧ w.cell? ⟨b, o + 8, none⟩ = some c8 ∧ w.cell? ⟨b, o + 9, none⟩ = some c9 ∧ w.cell? ⟨b, o + 10, none⟩ = some c10 :=
  ⟨h 0 (by simp), h 1 (by simp), h 2 (by simp), h 3 (by simp), h 4 (by simp), h 5 (by simp), h 6 (by simp), h 7 (by simp), h 8 (by simp), h 9 (by simp), h 10 (by simp)⟩
theorem laid_cell {w W : World} {cs : Array Value} {T : TypeId} (hb : Below (w.alloc (.cells cs T)).heap.size (w.alloc (.cells cs T)) W) (j : Nat) : W.cell? ⟨w.heap.size, j, none⟩ = cs[j]? := by
  rw [hb.cell (p := ⟨w.heap.size, j, none⟩) (by simp)]
  simp
theorem laid_bfz {w W : World} {cs : Array Value} {T : TypeId} (hb : Below (w.alloc (.cells cs T)).heap.size (w.alloc (.cells cs T)) W) (j : Nat) : W.frozen? ⟨w.heap.size, j, none⟩ = false := by
  rw [hb.frozen (p := ⟨w.heap.size, j, none⟩) (by simp)]
  simp
def ElemPost (w : World) (v : V) (e : Int) (s : ByteArray) (x : Ending) (w' : World) : Prop := Below w.heap.size w w' ∧
      ((0 < e ∧ e < 9) → ∃ t : V, NewOf w v t w' ∧ x = .returned (.tuple #[(C.mk ⟨#[]⟩ e s t).agg, .bool true])) ∧
      (¬ (0 < e ∧ e < 9) → x = .returned (.tuple #[nc.agg, .bool false]))
set_option maxRecDepth 100000 in
set_option maxHeartbeats 4000000 in
theorem kelem_any (b o : Nat) (k n : Int) (s : ByteArray) (la : Option Addr) (ll lc : Nat) (L : Nat → V) (fa : Option Addr) (fl fc : Nat) (fn : Nat → ByteArray) (F : Nat → V) (e : Int) (key : ByteArray) (hk : Bool) (w : World)
    (h : (V.mk k n s la ll lc L fa fl fc fn F e key hk).In w) (hf : (V.mk k n s la ll lc L fa fl fc fn F e key hk).Fit) (hat : At w b o (V.mk k n s la ll lc L fa fl fc fn F e key hk).cells) :
    Calls Tryz.prog 82 #[.pointer (some ⟨b, o, none⟩)] w (ElemPost w (V.mk k n s la ll lc L fa fl fc fn F e key hk) e s) := by
  have he := h.2.2.2.1
  have HA := Lib.hid (fun W (hb : Below w.heap.size w W) => anew_any _ W (h.below hb) hf)
  have HAT := Lib.hid (fun W (hb : Below w.heap.size w W) => at8 (hat.below hb))
  have hlow : Hid (∀ (O : Obj), Below w.heap.size w (w.alloc O)) := fun O => below_alloc w O
  have hbw : Hid (b < w.heap.size) := World.block_lt_of_cell? _ _ (at8 hat).1
  have hc := fun O => at8 (hat.below (below_alloc w O))
  have c0 := fun O => (hc O).1
  have c1 := fun O => (hc O).2.1
  have c2 := fun O => (hc O).2.2.1
  have c3 := fun O => (hc O).2.2.2.1
  have c4 := fun O => (hc O).2.2.2.2.1
  have c5 := fun O => (hc O).2.2.2.2.2.1
  have c6 := fun O => (hc O).2.2.2.2.2.2.1
  have c7 := fun O => (hc O).2.2.2.2.2.2.2
  clear h hf hat hc
  have R0 : Hid (∀ w', ¬ (0 < e ∧ e < 9) → Below w.heap.size w w' → ElemPost w (V.mk k n s la ll lc L fa fl fc fn F e key hk) e s (.returned (.tuple #[.agg #[.string ⟨#[]⟩, .int .u8 0, .string ⟨#[]⟩, .int .u8 0, .int .i64 0, .string ⟨#[]⟩, .slice none 0 0, .slice none 0 0, .int .u8 0, .string ⟨#[]⟩, .bool false], .bool false])) w') := fun w' h0 hb => ⟨hb, fun h => absurd h h0, fun _ => rfl⟩
  have R1 : Hid (∀ w' t, 0 < e ∧ e < 9 → NewOf w (V.mk k n s la ll lc L fa fl fc fn F e key hk) t w' → ElemPost w (V.mk k n s la ll lc L fa fl fc fn F e key hk) e s (.returned (.tuple #[(C.mk ⟨#[]⟩ e s t).agg, .bool true])) w') := fun w' t h0 hn => ⟨hn.low, fun _ => ⟨t, hn, rfl⟩, fun h => absurd h0 h⟩
  have HNW : Hid (∀ W W1 w' t, Below w.heap.size w W → NewOf W (V.mk k n s la ll lc L fa fl fc fn F e key hk) t W1 → (∀ g, W.heap.size ≤ g → g < W1.heap.size → w'.heap[g]? = W1.heap[g]?) → Below w.heap.size w w' → NewOf w (V.mk k n s la ll lc L fa fl fc fn F e key hk) t w') := fun W W1 w' t hb hn hk hb' =>
    ⟨V.In.from (B := W.heap.size) (fun a h1 h2 => World.cell?_of_block (hk _ h1 h2)) hn.frm hn.inn, hn.sm, hn.frm.mono hb.size, V.Own.from (B := W.heap.size) hk hn.frm hn.own, hn.nod, hb'⟩
  simp only [V.agg] at HA
  generalize ElemPost w (V.mk k n s la ll lc L fa fl fc fn F e key hk) e s = R at R0 R1 ⊢
  have HA8 : Hid (∀ W, Below w.heap.size w W → Calls Tryz.prog 132 #[.agg #[.int .u8 k, .int .i64 n, .string s, .slice la ll lc, .slice fa fl fc, .int .u8 e, .string key, .bool hk]] W fun x w' => ∃ t : V, x = .returned (.agg t.cells.toArray) ∧ NewOf W (V.mk k n s la ll lc L fa fl fc fn F e key hk) t w') := HA.out
  clear HA
  simp only [V.cells] at HA8
  by_cases h0 : e = 0
  · have R := Lib.hid (R0.out (w.alloc (.cells #[.string ⟨#[]⟩, .int .u8 0, .string ⟨#[]⟩, .int .u8 0, .int .i64 0, .string ⟨#[]⟩, .slice none 0 0, .slice none 0 0, .int .u8 0, .string ⟨#[]⟩, .bool false] 70)) (by omega) (hlow.out _))
    subst h0
    clear R1 R0
    go_enter Tryz.func82, Tryz.ntmps82
    go_wp2_with fail
    refine bodyPost_ret (v := .tuple #[.agg #[.string ⟨#[]⟩, .int .u8 0, .string ⟨#[]⟩, .int .u8 0, .int .i64 0, .string ⟨#[]⟩, .slice none 0 0, .slice none 0 0, .int .u8 0, .string ⟨#[]⟩, .bool false], .bool false]) (by simp [results, Tryz.results82, go_sem]) rfl ?_
    exact R.out
  · by_cases h9 : e < 9
    · have h9' : ¬ (9 : Int) ≤ e := by omega
      have h0' : (e == 0) = false := by simp [h0]
      have R := Lib.hid (fun w' t => R1.out w' t (by omega))
      clear R1 R0 h0
      go_enter Tryz.func82, Tryz.ntmps82
      go_wp2_with fail
      have KS : Hid (∀ W, Below (w.alloc (.cells #[.string ⟨#[]⟩, .int .u8 0, .string ⟨#[]⟩, .int .u8 0, .int .i64 0, .string ⟨#[]⟩, .slice none 0 0, .slice none 0 0, .int .u8 0, .string ⟨#[]⟩, .bool false] 70)).heap.size (w.alloc (.cells #[.string ⟨#[]⟩, .int .u8 0, .string ⟨#[]⟩, .int .u8 0, .int .i64 0, .string ⟨#[]⟩, .slice none 0 0, .slice none 0 0, .int .u8 0, .string ⟨#[]⟩, .bool false] 70)) W → (fun W => Below (w.alloc (.cells #[.string ⟨#[]⟩, .int .u8 0, .string ⟨#[]⟩, .int .u8 0, .int .i64 0, .string ⟨#[]⟩, .slice none 0 0, .slice none 0 0, .int .u8 0, .string ⟨#[]⟩, .bool false] 70)).heap.size (w.alloc (.cells #[.string ⟨#[]⟩, .int .u8 0, .string ⟨#[]⟩, .int .u8 0, .int .i64 0, .string ⟨#[]⟩, .slice none 0 0, .slice none 0 0, .int .u8 0, .string ⟨#[]⟩, .bool false] 70)) W ∧ W.cell? ⟨b, o, none⟩ = some (.int .u8 k) ∧ W.cell? ⟨b, o + 1, none⟩ = some (.int .i64 n) ∧ W.cell? ⟨b, o + 2, none⟩ = some (.string s) ∧ W.cell? ⟨b, o + 3, none⟩ = some (.slice la ll lc) ∧ W.cell? ⟨b, o + 4, none⟩ = some (.slice fa fl fc) ∧ W.cell? ⟨b, o + 5, none⟩ = some (.int .u8 e) ∧ W.cell? ⟨b, o + 6, none⟩ = some (.string key) ∧ W.cell? ⟨b, o + 7, none⟩ = some (.bool hk) ∧ W.cell? ⟨w.heap.size, 0, none⟩ = some (.string ⟨#[]⟩) ∧ W.cell? ⟨w.heap.size, 1, none⟩ = some (.int .u8 0) ∧ W.cell? ⟨w.heap.size, 2, none⟩ = some (.string ⟨#[]⟩) ∧ W.cell? ⟨w.heap.size, 3, none⟩ = some (.int .u8 0) ∧ W.cell? ⟨w.heap.size, 4, none⟩ = some (.int .i64 0) ∧ W.cell? ⟨w.heap.size, 5, none⟩ = some (.string ⟨#[]⟩) ∧ W.cell? ⟨w.heap.size, 6, none⟩ = some (.slice none 0 0) ∧ W.cell? ⟨w.heap.size, 7, none⟩ = some (.slice none 0 0) ∧ W.cell? ⟨w.heap.size, 8, none⟩ = some (.int .u8 0) ∧ W.cell? ⟨w.heap.size, 9, none⟩ = some (.string ⟨#[]⟩) ∧ W.cell? ⟨w.heap.size, 10, none⟩ = some (.bool false)) W) := fun W hb => by
        have hb' : Below w.heap.size w W := (below_alloc w _).trans (hb.mono (by simp))
        obtain ⟨q0, q1, q2, q3, q4, q5, q6, q7⟩ := HAT.out W hb'
        exact ⟨hb, q0, q1, q2, q3, q4, q5, q6, q7, laid_cell hb 0, laid_cell hb 1, laid_cell hb 2, laid_cell hb 3, laid_cell hb 4, laid_cell hb 5, laid_cell hb 6, laid_cell hb 7, laid_cell hb 8, laid_cell hb 9, laid_cell hb 10⟩
      have HB : Hid (∀ W, Below (w.alloc (.cells #[.string ⟨#[]⟩, .int .u8 0, .string ⟨#[]⟩, .int .u8 0, .int .i64 0, .string ⟨#[]⟩, .slice none 0 0, .slice none 0 0, .int .u8 0, .string ⟨#[]⟩, .bool false] 70)).heap.size (w.alloc (.cells #[.string ⟨#[]⟩, .int .u8 0, .string ⟨#[]⟩, .int .u8 0, .int .i64 0, .string ⟨#[]⟩, .slice none 0 0, .slice none 0 0, .int .u8 0, .string ⟨#[]⟩, .bool false] 70)) W → Below w.heap.size w W) := fun W hb => (below_alloc w _).trans (hb.mono (by simp))
      have hS0 := KS.out _ (Below.refl _ _)
      clear c0 c1 c2 c3 c4 c5 c6 c7
      have hfz : ∀ W, Below (w.alloc (.cells #[.string ⟨#[]⟩, .int .u8 0, .string ⟨#[]⟩, .int .u8 0, .int .i64 0, .string ⟨#[]⟩, .slice none 0 0, .slice none 0 0, .int .u8 0, .string ⟨#[]⟩, .bool false] 70)).heap.size (w.alloc (.cells #[.string ⟨#[]⟩, .int .u8 0, .string ⟨#[]⟩, .int .u8 0, .int .i64 0, .string ⟨#[]⟩, .slice none 0 0, .slice none 0 0, .int .u8 0, .string ⟨#[]⟩, .bool false] 70)) W → ∀ j, W.frozen? ⟨w.heap.size, j, none⟩ = false := fun W hb j => laid_bfz hb j
      have HF := Lib.hid hfz
      clear hfz
      have hsz : ((w.alloc (.cells #[.string ⟨#[]⟩, .int .u8 0, .string ⟨#[]⟩, .int .u8 0, .int .i64 0, .string ⟨#[]⟩, .slice none 0 0, .slice none 0 0, .int .u8 0, .string ⟨#[]⟩, .bool false] 70)).heap.size = w.heap.size + 1) := by simp
      generalize hW : w.alloc (.cells #[.string ⟨#[]⟩, .int .u8 0, .string ⟨#[]⟩, .int .u8 0, .int .i64 0, .string ⟨#[]⟩, .slice none 0 0, .slice none 0 0, .int .u8 0, .string ⟨#[]⟩, .bool false] 70) = W0 at hS0 KS HB HF hsz ⊢
      have HSZ := Lib.hid hsz
      clear hsz
      clear hW
      obtain ⟨hb0, e0, e1, e2, e3, e4, e5, e6, e7, z0, z1, z2, z3, z4, z5, z6, z7, z8, z9, z10⟩ := hS0
      have HB0 := Lib.hid hb0
      clear hb0
      have zf := HF.out _ HB0.out
      go_region_with ((go_at_call 132; (with_reducible refine (HA8.out _ (HB.out _ (Below.refl _ _).drew)).mono ?_); rintro x w3 ⟨t, rfl, hn⟩; (have HN := Lib.hid hn); (have hb3 := KS.out _ ((Below.refl _ _).drew.trans (hn.low))); (have zf3 := HF.out _ ((Below.refl _ _).drew.trans (hn.low))); clear hn e0 e1 e2 e3 e4 e5 e6 e7 z0 z1 z2 z3 z4 z5 z6 z7 z8 z9 z10 zf; obtain ⟨hb0, e0, e1, e2, e3, e4, e5, e6, e7, z0, z1, z2, z3, z4, z5, z6, z7, z8, z9, z10⟩ := hb3; (have HB3 := Lib.hid hb0); clear hb0; (have ht8 := HN.out.inn); rcases t with _ | ⟨k4, n4, s4, la4, ll4, lc4, L4, fa4, fl4, fc4, fn4, F4, e4', key4, hk4⟩; (exact ht8.elim); clear ht8))
      all_goals
        have hP := HNW.out _ _ (putL w3 w.heap.size 0 (C.mk ⟨#[]⟩ e s (V.mk k4 n4 s4 la4 ll4 lc4 L4 fa4 fl4 fc4 fn4 F4 e4' key4 hk4)).cells) _ (HB.out _ (Below.refl _ _).drew) HN.out (fun g hg hl => putL_block _ _ _ _ _ (by have := HSZ.out; have hg' : W0.heap.size ≤ g := hg; omega)) (putL_low (HB.out _ ((Below.refl _ _).drew.trans HN.out.low)) _ _ _ (Nat.le_refl _))
        have HR := Lib.hid (R.out _ _ hP)
        clear hP
        go_wp2_with fail
        refine bodyPost_ret (v := .tuple #[.agg #[.string ⟨#[]⟩, .int .u8 e, .string s, .int .u8 k4, .int .i64 n4, .string s4, .slice la4 ll4 lc4, .slice fa4 fl4 fc4, .int .u8 e4', .string key4, .bool hk4], .bool true]) (by simp [results, Tryz.results82, go_sem, zf3, z0, z1, z2, z3, z4, z5, z6, z7, z8, z9, z10]) rfl ?_
        exact HR.out
    · have h9' : (9 : Int) ≤ e := by omega
      have h0' : (e == 0) = false := by simp [h0]
      have R := Lib.hid (R0.out (w.alloc (.cells #[.string ⟨#[]⟩, .int .u8 0, .string ⟨#[]⟩, .int .u8 0, .int .i64 0, .string ⟨#[]⟩, .slice none 0 0, .slice none 0 0, .int .u8 0, .string ⟨#[]⟩, .bool false] 70)) (by omega) (hlow.out _))
      clear R1 R0 h0 h9
      go_enter Tryz.func82, Tryz.ntmps82
      go_wp2_with fail
      refine bodyPost_ret (v := .tuple #[.agg #[.string ⟨#[]⟩, .int .u8 0, .string ⟨#[]⟩, .int .u8 0, .int .i64 0, .string ⟨#[]⟩, .slice none 0 0, .slice none 0 0, .int .u8 0, .string ⟨#[]⟩, .bool false], .bool false]) (by simp [results, Tryz.results82, go_sem]) rfl ?_
      exact R.out
end Go.Proofs.YtnmindcofdcncaaGreatDoor
