/-
  Walks: ValueSize, ValuesSize, FieldsSize, FieldSize return just 'V.vsz' and the like; Beyond is a function of its numbers; old memory is as it was.
  Conditions: the value lies in memory ('V.In').
-/
import Derived.Test.YtjbapldlgnlepaaGreatDoorSize
import Derived.Test.YtjbapldlgnlepaaGreatDoorCheckP
namespace Go.Proofs.YtjbapldlgnlepaaGreatDoor
open Go.RowKit

/-- A count, with more to it, unless it is beyond what is counted. -/
def addS (n m : Int) : Int := if n ≤ 1048576 then wrap64 (n + m) else n

/-- A field's count. -/
def fsz (nm : ByteArray) (m : Int) : Int := addS (wrap64 (1 + nm.size)) m

/-- What ValueSize counts. -/
def V.vsz : V → Int
  | .leaf => 0
  | .mk _ _ s _ ll _ L _ fl _ fn F _ key _ => addS (addS (wrap64 (wrap64 (1 + s.size) + key.size)) (foldTo ll (fun i a => addS a ((L i).vsz)) ll)) (foldTo fl (fun i a => addS a (fsz (fn i) ((F i).vsz))) fl)

theorem addS_range {n m : Int} (h : -9223372036854775808 ≤ n ∧ n ≤ 9223372036854775807) : -9223372036854775808 ≤ addS n m ∧ addS n m ≤ 9223372036854775807 := by
  unfold addS
  split
  · exact wrap64_range _
  · exact h
theorem foldS_range {n : Nat} {g : Nat → Int} {x : Int} (h : -9223372036854775808 ≤ x ∧ x ≤ 9223372036854775807) : ∀ j, -9223372036854775808 ≤ foldTo j (fun i a => addS a (g i)) x ∧ foldTo j (fun i a => addS a (g i)) x ≤ 9223372036854775807
  | 0 => h
  | j + 1 => addS_range (foldS_range (n := n) h j)
theorem foldS_stop {g : Nat → Int} {x : Int} {j : Nat} (h : ¬ foldTo j (fun i a => addS a (g i)) x ≤ 1048576) : ∀ n, j ≤ n → foldTo n (fun i a => addS a (g i)) x = foldTo j (fun i a => addS a (g i)) x := by
  intro n
  induction n with
  | zero => intro hj; obtain rfl : j = 0 := by omega
            rfl
  | succ n ih =>
    intro hj
    rcases Nat.lt_or_ge n j with h1 | h1
    · obtain rfl : j = n + 1 := by omega
      rfl
    · have e := ih h1
      show addS (foldTo n _ x) (g n) = _
      rw [e, addS, if_neg h]
theorem addS_add {n m : Int} (h : n ≤ 1048576) : addS n m = wrap64 (n + m) := if_pos h
theorem addS_not {n m : Int} (h : ¬ n ≤ 1048576) : addS n m = n := if_neg h
theorem vsz_range : ∀ v : V, -9223372036854775808 ≤ v.vsz ∧ v.vsz ≤ 9223372036854775807 := by
  intro v
  cases v with
  | leaf => exact ⟨by decide, by decide⟩
  | mk => exact addS_range (addS_range (wrap64_range _))
theorem fsz_range (nm : ByteArray) (m : Int) : -9223372036854775808 ≤ fsz nm m ∧ fsz nm m ≤ 9223372036854775807 := addS_range (wrap64_range _)

theorem list8 {l : List Value} (h : l.length = 8) : ∃ e0 e1 e2 e3 e4 e5 e6 e7, l = [e0, e1, e2, e3, e4, e5, e6, e7] := by
  match l, h with
  | [e0, e1, e2, e3, e4, e5, e6, e7], _ => exact ⟨_, _, _, _, _, _, _, _, rfl⟩

theorem list9 {l : List Value} (h : l.length = 9) : ∃ e0 e1 e2 e3 e4 e5 e6 e7 e8, l = [e0, e1, e2, e3, e4, e5, e6, e7, e8] := by
  match l, h with
  | [e0, e1, e2, e3, e4, e5, e6, e7, e8], _ => exact ⟨_, _, _, _, _, _, _, _, _, rfl⟩

/-- What a size function's contract says of one value. -/
def SizeIs (v : V) : Prop := ∀ w : World, v.In w → Calls Tryz.prog 73 #[v.agg] w fun e w' => e = .returned (.int .i64 v.vsz) ∧ Below w.heap.size w w'
theorem int_is {a b : Int} (h : a = b) : Value.int .i64 a = .int .i64 b := by rw [h]
theorem ret_is {a b : Int} (h : a = b) : Ending.returned (.int .i64 a) = .returned (.int .i64 b) := by rw [h]

set_option maxHeartbeats 400000 in
theorem fieldSize_is (nm : ByteArray) (v : V) (hv : SizeIs v) (w : World) (_hn : nm.size ≤ maxLen) (h : v.In w) :
    Calls Tryz.prog 157 #[.agg (Value.string nm :: v.cells).toArray] w fun e w' => e = .returned (.int .i64 (fsz nm v.vsz)) ∧ Below w.heap.size w w' := by
  have H := Lib.hid (fun O => hv (w.alloc O) (h.below (below_alloc w O)))
  have hr := vsz_range v
  clear hv
  cases v with
  | leaf => exact h.elim
  | mk k n s la ll lc L fa fl fc fn F e key hk =>
  clear h
  revert H hr
  generalize (V.mk k n s la ll lc L fa fl fc fn F e key hk).vsz = q
  intro H hr
  unfold maxLen at _hn
  have HR := Lib.hid (show fsz nm q = addS (wrap64 (1 + nm.size)) q from rfl)
  simp only [V.agg, V.cells] at H ⊢
  by_cases h1 : wrap64 (1 + (nm.size : Int)) ≤ 1048576
  · have HA := Lib.hid (addS_add (m := q) h1)
    go_enter Tryz.func157, Tryz.ntmps157
    go_wp2_with fail
    refine (H.out _).mono ?_
    rintro e w1 ⟨rfl, hb⟩
    have HB := Lib.hid ((below_alloc w _).trans (hb.mono (by simp)))
    clear hb
    go_wp2_with fail
    go_ret
    exact ⟨ret_is (by rw [HR.out, HA.out]), HB.out⟩
  · have HA := Lib.hid (addS_not (m := q) h1)
    go_enter Tryz.func157, Tryz.ntmps157
    go_wp2_with fail
    go_ret
    exact ⟨ret_is (by rw [HR.out, HA.out]), below_alloc _ _⟩

set_option maxHeartbeats 400000 in
theorem valuesSize_is (la : Option Addr) (ll lc : Nat) (L : Nat → V) (g : Nat → Int) (w : World) (hlc : ll ≤ lc ∧ lc ≤ maxLen) (hg : ∀ i, -9223372036854775808 ≤ g i ∧ g i ≤ 9223372036854775807)
    (h : ∀ i, i < ll → (∃ b o, la = some ⟨b, o, none⟩ ∧ At w b (o + i * 8) (L i).cells) ∧ ∀ W, Below w.heap.size w W → Calls Tryz.prog 73 #[.agg ((L i).cells).toArray] W fun e W' => e = .returned (.int .i64 (g i)) ∧ Below W.heap.size W W') (h8 : ∀ i, i < ll → ((L i).cells).length = 8) :
    Calls Tryz.prog 14 #[.slice la ll lc] w fun e w' => e = .returned (.int .i64 (foldTo ll (fun i a => addS a (g i)) ll)) ∧ Below w.heap.size w w' := by
  unfold maxLen at hlc
  obtain ⟨f, hf⟩ : ∃ f : Nat → Int, f = fun j => foldTo j (fun i a => addS a (g i)) (ll : Int) := ⟨_, rfl⟩
  have HR := Lib.hid (show foldTo ll (fun i a => addS a (g i)) ll = f ll by rw [hf])
  have HF : Hid (∀ j, -9223372036854775808 ≤ f j ∧ f j ≤ 9223372036854775807) := by rw [hf]; exact foldS_range (n := 0) (by omega)
  have HS : Hid (∀ j, f (j + 1) = addS (f j) (g j)) := by rw [hf]; exact fun _ => rfl
  have HE : Hid (∀ j, j ≤ ll → 1048576 < f j → f ll = f j) := by rw [hf]; exact fun j hj h => foldS_stop (Int.not_le.2 h) _ hj
  have H0 := Lib.hid (show f 0 = (ll : Int) by rw [hf]; rfl)
  clear hf
  rw [HR.out]
  clear HR
  by_cases hz : ll = 0
  · subst hz
    clear h hg h8
    go_enter Tryz.func14, Tryz.ntmps14
    go_wp2_with fail
    go_loopw [3, 4] (fun n i wr => i = .int .i64 0 ∧ n = .int .i64 0 ∧ w = wr) (fun _ _ _ => 0)
    case atStart => exact ⟨rfl, rfl, rfl⟩
    case round =>
      obtain ⟨rfl, rfl, rfl⟩ := hrel
      go_wp2_with fail
      go_ret
      exact ⟨ret_is (by rw [H0.out]; rfl), Below.refl _ _⟩
  · obtain ⟨⟨b, o, rfl, -⟩, -⟩ := h 0 (by omega)
    have H := Lib.hid h
    have HG := Lib.hid hg
    have H8 := Lib.hid h8
    clear h hg h8
    go_enter Tryz.func14, Tryz.ntmps14
    go_wp2_with fail
    go_loopw [3, 4] (fun n i wr => ∃ k : Nat, k ≤ ll ∧ i = .int .i64 k ∧ n = .int .i64 (f k) ∧ Below w.heap.size w wr) (fun _ i _ => ll - (intOf i).toNat)
    case atStart => exact ⟨0, Nat.zero_le _, rfl, int_is H0.out.symm, Below.refl _ _⟩
    case round =>
      obtain ⟨k, hk, rfl, rfl, hb⟩ := hrel
      have hm := HF.out k
      by_cases hlt : k < ll
      · by_cases h1 : f k ≤ 1048576
        · obtain ⟨⟨b', o', he, hat⟩, hx⟩ := H.out k hlt
          simp only [Option.some.injEq, Addr.mk.injEq, and_true] at he
          obtain ⟨rfl, rfl⟩ := he
          have hat := hat.below hb
          have hm2 := HG.out k
          have HX := Lib.hid (hx wr hb)
          have HB := Lib.hid hb
          have HA := Lib.hid ((HS.out k).trans (addS_add h1))
          have hl8 := H8.out k hlt
          clear hb hx
          generalize f k = m at HA hm h1 ⊢
          generalize g k = y at HA hm2 HX
          generalize (L k).cells = cs at hat HX hl8
          obtain ⟨e0, e1, e2, e3, e4, e5, e6, e7, rfl⟩ : ∃ e0 e1 e2 e3 e4 e5 e6 e7, cs = [e0, e1, e2, e3, e4, e5, e6, e7] := list8 hl8
          have c0 : wr.cell? ⟨b, o + k * 8, none⟩ = some e0 := hat 0 (by simp)
          have c1 : wr.cell? ⟨b, o + k * 8 + 1, none⟩ = some e1 := hat 1 (by simp)
          have c2 : wr.cell? ⟨b, o + k * 8 + 2, none⟩ = some e2 := hat 2 (by simp)
          have c3 : wr.cell? ⟨b, o + k * 8 + 3, none⟩ = some e3 := hat 3 (by simp)
          have c4 : wr.cell? ⟨b, o + k * 8 + 4, none⟩ = some e4 := hat 4 (by simp)
          have c5 : wr.cell? ⟨b, o + k * 8 + 5, none⟩ = some e5 := hat 5 (by simp)
          have c6 : wr.cell? ⟨b, o + k * 8 + 6, none⟩ = some e6 := hat 6 (by simp)
          have c7 : wr.cell? ⟨b, o + k * 8 + 7, none⟩ = some e7 := hat 7 (by simp)
          clear hat hl8
          go_wp2_with fail
          refine HX.out.mono ?_
          rintro e w1 ⟨rfl, hb1⟩
          have HB1 := Lib.hid (HB.out.trans (hb1.mono HB.out.size))
          clear hb1 c0 c1 c2 c3 c4 c5 c6 c7
          go_wp2_with fail
          go_roundw
          case rel => exact ⟨k + 1, by omega, by go_num, int_is HA.out.symm, HB1.out⟩
          case measure => simp [intOf]; omega
        · have HB := Lib.hid hb
          have HA := Lib.hid (HE.out k hk (by omega))
          clear hb
          generalize f k = m at HA hm h1 ⊢
          go_wp2_with fail
          go_ret
          exact ⟨ret_is HA.out.symm, HB.out⟩
      · obtain rfl : ll = k := by omega
        have HB := Lib.hid hb
        clear hb
        generalize hfm : f ll = m at hm ⊢
        have HFM := Lib.hid hfm
        clear hfm
        go_wp2_with fail
        go_ret
        exact ⟨ret_is HFM.out.symm, HB.out⟩

set_option maxHeartbeats 400000 in
theorem fieldsSize_is (fa : Option Addr) (fl fc : Nat) (fn : Nat → ByteArray) (F : Nat → V) (g : Nat → Int) (w : World) (hlc : fl ≤ fc ∧ fc ≤ maxLen) (hg : ∀ i, -9223372036854775808 ≤ g i ∧ g i ≤ 9223372036854775807)
    (h : ∀ i, i < fl → (∃ b o, fa = some ⟨b, o, none⟩ ∧ At w b (o + i * 9) (Value.string (fn i) :: (F i).cells)) ∧ ∀ W, Below w.heap.size w W → Calls Tryz.prog 157 #[.agg (Value.string (fn i) :: (F i).cells).toArray] W fun e W' => e = .returned (.int .i64 (g i)) ∧ Below W.heap.size W W') (h8 : ∀ i, i < fl → (Value.string (fn i) :: (F i).cells).length = 9) :
    Calls Tryz.prog 130 #[.slice fa fl fc] w fun e w' => e = .returned (.int .i64 (foldTo fl (fun i a => addS a (g i)) fl)) ∧ Below w.heap.size w w' := by
  unfold maxLen at hlc
  obtain ⟨f, hf⟩ : ∃ f : Nat → Int, f = fun j => foldTo j (fun i a => addS a (g i)) (fl : Int) := ⟨_, rfl⟩
  have HR := Lib.hid (show foldTo fl (fun i a => addS a (g i)) fl = f fl by rw [hf])
  have HF : Hid (∀ j, -9223372036854775808 ≤ f j ∧ f j ≤ 9223372036854775807) := by rw [hf]; exact foldS_range (n := 0) (by omega)
  have HS : Hid (∀ j, f (j + 1) = addS (f j) (g j)) := by rw [hf]; exact fun _ => rfl
  have HE : Hid (∀ j, j ≤ fl → 1048576 < f j → f fl = f j) := by rw [hf]; exact fun j hj h => foldS_stop (Int.not_le.2 h) _ hj
  have H0 := Lib.hid (show f 0 = (fl : Int) by rw [hf]; rfl)
  clear hf
  rw [HR.out]
  clear HR
  by_cases hz : fl = 0
  · subst hz
    clear h hg h8
    go_enter Tryz.func130, Tryz.ntmps130
    go_wp2_with fail
    go_loopw [3, 4] (fun n i wr => i = .int .i64 0 ∧ n = .int .i64 0 ∧ w = wr) (fun _ _ _ => 0)
    case atStart => exact ⟨rfl, rfl, rfl⟩
    case round =>
      obtain ⟨rfl, rfl, rfl⟩ := hrel
      go_wp2_with fail
      go_ret
      exact ⟨ret_is (by rw [H0.out]; rfl), Below.refl _ _⟩
  · obtain ⟨⟨b, o, rfl, -⟩, -⟩ := h 0 (by omega)
    have H := Lib.hid h
    have HG := Lib.hid hg
    have H8 := Lib.hid h8
    clear h hg h8
    go_enter Tryz.func130, Tryz.ntmps130
    go_wp2_with fail
    go_loopw [3, 4] (fun n i wr => ∃ k : Nat, k ≤ fl ∧ i = .int .i64 k ∧ n = .int .i64 (f k) ∧ Below w.heap.size w wr) (fun _ i _ => fl - (intOf i).toNat)
    case atStart => exact ⟨0, Nat.zero_le _, rfl, int_is H0.out.symm, Below.refl _ _⟩
    case round =>
      obtain ⟨k, hk, rfl, rfl, hb⟩ := hrel
      have hm := HF.out k
      by_cases hlt : k < fl
      · by_cases h1 : f k ≤ 1048576
        · obtain ⟨⟨b', o', he, hat⟩, hx⟩ := H.out k hlt
          simp only [Option.some.injEq, Addr.mk.injEq, and_true] at he
          obtain ⟨rfl, rfl⟩ := he
          have hat := hat.below hb
          have hm2 := HG.out k
          have HX := Lib.hid (hx wr hb)
          have HB := Lib.hid hb
          have HA := Lib.hid ((HS.out k).trans (addS_add h1))
          have hl8 := H8.out k hlt
          clear hb hx
          generalize f k = m at HA hm h1 ⊢
          generalize g k = y at HA hm2 HX
          generalize (Value.string (fn k) :: (F k).cells) = cs at hat HX hl8
          obtain ⟨e0, e1, e2, e3, e4, e5, e6, e7, e8, rfl⟩ : ∃ e0 e1 e2 e3 e4 e5 e6 e7 e8, cs = [e0, e1, e2, e3, e4, e5, e6, e7, e8] := list9 hl8
          have c0 : wr.cell? ⟨b, o + k * 9, none⟩ = some e0 := hat 0 (by simp)
          have c1 : wr.cell? ⟨b, o + k * 9 + 1, none⟩ = some e1 := hat 1 (by simp)
          have c2 : wr.cell? ⟨b, o + k * 9 + 2, none⟩ = some e2 := hat 2 (by simp)
          have c3 : wr.cell? ⟨b, o + k * 9 + 3, none⟩ = some e3 := hat 3 (by simp)
          have c4 : wr.cell? ⟨b, o + k * 9 + 4, none⟩ = some e4 := hat 4 (by simp)
          have c5 : wr.cell? ⟨b, o + k * 9 + 5, none⟩ = some e5 := hat 5 (by simp)
          have c6 : wr.cell? ⟨b, o + k * 9 + 6, none⟩ = some e6 := hat 6 (by simp)
          have c7 : wr.cell? ⟨b, o + k * 9 + 7, none⟩ = some e7 := hat 7 (by simp)
          have c8 : wr.cell? ⟨b, o + k * 9 + 8, none⟩ = some e8 := hat 8 (by simp)
          clear hat hl8
          go_wp2_with fail
          refine HX.out.mono ?_
          rintro e w1 ⟨rfl, hb1⟩
          have HB1 := Lib.hid (HB.out.trans (hb1.mono HB.out.size))
          clear hb1 c0 c1 c2 c3 c4 c5 c6 c7 c8
          go_wp2_with fail
          go_roundw
          case rel => exact ⟨k + 1, by omega, by go_num, int_is HA.out.symm, HB1.out⟩
          case measure => simp [intOf]; omega
        · have HB := Lib.hid hb
          have HA := Lib.hid (HE.out k hk (by omega))
          clear hb
          generalize f k = m at HA hm h1 ⊢
          go_wp2_with fail
          go_ret
          exact ⟨ret_is HA.out.symm, HB.out⟩
      · obtain rfl : fl = k := by omega
        have HB := Lib.hid hb
        clear hb
        generalize hfm : f fl = m at hm ⊢
        have HFM := Lib.hid hfm
        clear hfm
        go_wp2_with fail
        go_ret
        exact ⟨ret_is HFM.out.symm, HB.out⟩

theorem cells8 {w : World} {v : V} (h : v.In w) : v.cells.length = 8 := by
  cases v with
  | leaf => exact h.elim
  | mk => rfl

set_option maxHeartbeats 400000 in
theorem valueSize_is : ∀ v : V, SizeIs v := by
  intro v
  induction v with
  | leaf => exact fun w h => h.elim
  | mk k n s la ll lc L fa fl fc fn F e key hk ihL ihF =>
  intro w h
  obtain ⟨hk1, hn1, hs1, he1, hkey1, hl1, hf1, hL, hF⟩ := h
  have HL := Lib.hid (fun W (hb : Below w.heap.size w W) => valuesSize_is la ll lc L (fun i => (L i).vsz) W hl1 (fun i => vsz_range _) (fun i hi => ⟨let ⟨b, o, e1, ha⟩ := (hL i hi).1; ⟨b, o, e1, ha.below hb⟩, fun W2 hb2 => ihL i W2 (((hL i hi).2.below hb).below hb2)⟩) (fun i hi => cells8 (hL i hi).2))
  have HF := Lib.hid (fun W (hb : Below w.heap.size w W) => fieldsSize_is fa fl fc fn F (fun i => fsz (fn i) (F i).vsz) W hf1 (fun i => fsz_range _ _) (fun i hi => ⟨let ⟨b, o, e1, ha⟩ := (hF i hi).1; ⟨b, o, e1, ha.below hb⟩, fun W2 hb2 => fieldSize_is _ _ (ihF i) W2 (hF i hi).2.1 (((hF i hi).2.2.below hb).below hb2)⟩) (fun i hi => by rw [List.length_cons, cells8 (hF i hi).2.2]))
  unfold maxLen at hs1 hkey1
  have HR := Lib.hid (show (V.mk k n s la ll lc L fa fl fc fn F e key hk).vsz = addS (addS (wrap64 (wrap64 (1 + s.size) + key.size)) (foldTo ll (fun i a => addS a ((L i).vsz)) ll)) (foldTo fl (fun i a => addS a (fsz (fn i) ((F i).vsz))) fl) from rfl)
  have r1 := foldS_range (n := 0) (g := fun i => (L i).vsz) (x := (ll : Int)) (by have := hl1.1; have := hl1.2; unfold maxLen at this; omega) ll
  have r2 := foldS_range (n := 0) (g := fun i => fsz (fn i) (F i).vsz) (x := (fl : Int)) (by have := hf1.1; have := hf1.2; unfold maxLen at this; omega) fl
  rw [HR.out]
  clear HR hL hF ihL ihF hl1 hf1
  revert HL HF r1 r2
  generalize foldTo ll (fun i a => addS a ((L i).vsz)) ll = x1
  generalize foldTo fl (fun i a => addS a (fsz (fn i) ((F i).vsz))) fl = x2
  intro HL HF r1 r2
  simp only [V.agg, V.cells]
  by_cases h1 : wrap64 (wrap64 (1 + (s.size : Int)) + (key.size : Int)) ≤ 1048576
  · have HA := Lib.hid (addS_add (m := x1) h1)
    by_cases h2 : wrap64 (wrap64 (wrap64 (1 + (s.size : Int)) + (key.size : Int)) + x1) ≤ 1048576
    · have HC := Lib.hid (addS_add (m := x2) h2)
      go_enter Tryz.func73, Tryz.ntmps73
      go_wp2_with fail
      refine (HL.out _ (below_alloc _ _)).mono ?_
      rintro e w1 ⟨rfl, hb1⟩
      obtain ⟨hc, hf⟩ := bcell hb1
      have HB1 := Lib.hid ((below_alloc _ _).trans (hb1.mono (by simp)))
      clear hb1
      go_wp2_with fail
      refine (HF.out _ HB1.out).mono ?_
      rintro e w2 ⟨rfl, hb2⟩
      have HB2 := Lib.hid (HB1.out.trans (hb2.mono HB1.out.size))
      clear hb2 hc hf
      go_wp2_with fail
      go_ret
      exact ⟨ret_is (by rw [HA.out, HC.out]), HB2.out⟩
    · have HC := Lib.hid (addS_not (m := x2) h2)
      go_enter Tryz.func73, Tryz.ntmps73
      go_wp2_with fail
      refine (HL.out _ (below_alloc _ _)).mono ?_
      rintro e w1 ⟨rfl, hb1⟩
      have HB1 := Lib.hid ((below_alloc _ _).trans (hb1.mono (by simp)))
      clear hb1
      go_wp2_with fail
      go_ret
      exact ⟨ret_is (by rw [HA.out, HC.out]), HB1.out⟩
  · have HA := Lib.hid (addS_not (m := x1) h1)
    have HC := Lib.hid (addS_not (m := x2) h1)
    go_enter Tryz.func73, Tryz.ntmps73
    go_wp2_with fail
    go_ret
    exact ⟨ret_is (by rw [HA.out, HC.out]), below_alloc _ _⟩
end Go.Proofs.YtjbapldlgnlepaaGreatDoor
