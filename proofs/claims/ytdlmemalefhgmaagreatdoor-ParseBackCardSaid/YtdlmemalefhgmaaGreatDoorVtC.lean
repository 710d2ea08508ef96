/-
  Walks: stage 1's texts of values (value.Text) in a namespace of their own: MayN MayA MayB Check Text.
  Conditions: none.
-/
import Derived.Test.YtdlmemalefhgmaaGreatDoorVtB
import Derived.StillTailTactics
import Derived.Laws.EntriesVeiled
import Derived.Test.YtdlmemalefhgmaaGreatDoorVtA
section
namespace Go.Proofs.YtdlmemalefhgmaaGreatDoor.VT
set_option linter.unusedVariables false
set_option linter.unusedSimpArgs false
open Go.RowKit

/-- The count and the closure, in the two blocks from B on. -/
structure CS (B : Nat) (left : Int) (w : World) : Prop where
  size : B + 1 < w.heap.size
  cnt : w.cell? ⟨B, 0, none⟩ = some (.int .i64 left)
  frz : w.frozen? ⟨B, 0, none⟩ = false
  clo : w.cell? ⟨B + 1, 0, none⟩ = some (.func (Fn.func 42) #[] #[.pointer (some ⟨B, 0, none⟩), .pointer (some ⟨B + 1, 0, none⟩)])

theorem CS.below {B : Nat} {left : Int} {w w' : World} (h : CS B left w) (hb : Below w.heap.size w w') : CS B left w' := by
  have := h.size
  have := hb.size
  obtain ⟨e, f⟩ := bcell hb
  exact ⟨by omega, by rw [e _ _ (by omega), h.cnt], by rw [f _ _ (by omega), h.frz], by rw [e _ _ (by omega), h.clo]⟩

theorem CS.set {B : Nat} {left : Int} {w : World} (h : CS B left w) (x : Int) : CS B x (w.setCell ⟨B, 0, none⟩ (.int .i64 x)) := by
  refine ⟨by simpa [World.setCell] using h.size, ?_, ?_, ?_⟩
  · exact World.cell?_setCell_same _ _ _ h.cnt
  · simpa using h.frz
  · rw [World.cell?_setCell_other _ _ _ _ (by simp)]
    exact h.clo

theorem RowsAt.below {w w' : World} (h : RowsAt w) (hb : Below w.heap.size w w') : RowsAt w' := fun i hi => by
  have e := h i hi
  rw [(bcell hb).1 _ _ (World.block_lt_of_cell? _ _ e), e]

def MayPost (w0 : World) (v : V) (deep left : Int) (x : Ending) (w' : World) : Prop := x = .returned (.bool (v.may deep left).1) ∧ Below w0.heap.size w0 w' ∧ CS w0.heap.size (v.may deep left).2 w'

theorem mayPost_of {w0 : World} {v : V} {deep left : Int} {x : Ending} {w' : World} (h : MayPost w0 v deep left x w') {r : Bool} (hr : (v.may deep left).1 = r) : x = .returned (.bool r) ∧ Below w0.heap.size w0 w' ∧ CS w0.heap.size (v.may deep left).2 w' := by
  obtain ⟨h1, h2, h3⟩ := h
  rw [hr] at h1
  exact ⟨h1, h2, h3⟩

/-- At a round's head: all ahead answered yes; so much is left. -/
def MS (w0 : World) (a : Bool × Int) (w : World) : Prop := a.1 = true ∧ (0 ≤ a.2 ∧ a.2 ≤ 4096) ∧ Below w0.heap.size w0 w ∧ CS w0.heap.size a.2 w

theorem At.tail {w : World} {b o : Nat} {x : Value} {cs : List Value} (h : At w b o (x :: cs)) : At w b (o + 1) cs := by
  intro i hi
  have := h (i + 1) (by simpa using hi)
  rw [show o + 1 + i = o + (i + 1) by omega, this]
  rfl

def MayOk (v : V) : Prop := ∀ (w0 w : World) (b o : Nat) (deep left : Int), v.In w0 → At w0 b o v.cells → RowsAt w0 → Below w0.heap.size w0 w → CS w0.heap.size left w → (0 ≤ left ∧ left ≤ 4096) → (1 ≤ deep ∧ deep ≤ 65) →
  Calls Tryz.prog 42 #[.pointer (some ⟨b, o, none⟩), .int .i64 deep, .pointer (some ⟨w0.heap.size, 0, none⟩), .pointer (some ⟨w0.heap.size + 1, 0, none⟩)] w (MayPost w0 v deep left)

theorem namesAt_of {w : World} {k n : Int} {s : ByteArray} {la : Option Addr} {ll lc : Nat} {L : Nat → V} {fa : Option Addr} {fl fc : Nat} {fn : Nat → ByteArray} {F : Nat → V} {e : Int} {key : ByteArray} {hk : Bool}
    (h : (V.mk k n s la ll lc L fa fl fc fn F e key hk).In w) : NamesAt w fa fl fc fn := by
  obtain ⟨-, -, -, -, -, -, hf1, -, hF⟩ := h
  exact ⟨hf1, fun i hi => ⟨let ⟨b, o, e1, ha⟩ := (hF i hi).1; ⟨b, o, e1, by simpa using ha 0 (by simp)⟩, (hF i hi).2.1⟩⟩

set_option maxHeartbeats 400000 in
theorem inRow_8 (w : World) (b o : Nat) (k n : Int) (s : ByteArray) (la : Option Addr) (ll lc : Nat) (L : Nat → V) (fa : Option Addr) (fl fc : Nat) (fn : Nat → ByteArray) (F : Nat → V) (e : Int) (key : ByteArray) (hk : Bool)
    (h : At w b o (V.mk k n s la ll lc L fa fl fc fn F e key hk).cells) (h8 : 8 ≤ k ∧ k ≤ 255) :
    Calls Tryz.prog 43 #[.pointer (some ⟨b, o, none⟩)] w fun x w' => x = .returned (.bool (inRowB k n s ll fl fn e key hk)) ∧ Below w.heap.size w w' := by
  obtain ⟨c0, -, -, -, -, -, -, -⟩ := at8 h
  have R := Lib.hid (show Ending.returned (.bool false) = .returned (.bool (inRowB k n s ll fl fn e key hk)) by
    have h9 : ¬ k < 8 := by omega
    simp [inRowB, h9])
  clear h
  go_enter Tryz.func43, Tryz.ntmps43
  go_wp2_with fail
  go_ret
  exact ⟨R.out, Below.refl _ _⟩

theorem inRow_any (w : World) (b o : Nat) (k n : Int) (s : ByteArray) (la : Option Addr) (ll lc : Nat) (L : Nat → V) (fa : Option Addr) (fl fc : Nat) (fn : Nat → ByteArray) (F : Nat → V) (e : Int) (key : ByteArray) (hk : Bool)
    (h : At w b o (V.mk k n s la ll lc L fa fl fc fn F e key hk).cells) (hr : RowsAt w) (hin : (V.mk k n s la ll lc L fa fl fc fn F e key hk).In w) :
    Calls Tryz.prog 43 #[.pointer (some ⟨b, o, none⟩)] w fun x w' => x = .returned (.bool (inRowB k n s ll fl fn e key hk)) ∧ Below w.heap.size w w' := by
  have hn := namesAt_of hin
  obtain ⟨hk1, -, -, -, -, hl1, -, -, -⟩ := hin
  have hl := Nat.le_trans hl1.1 hl1.2
  have hk8 : k = 0 ∨ k = 1 ∨ k = 2 ∨ k = 3 ∨ k = 4 ∨ k = 5 ∨ k = 6 ∨ k = 7 ∨ 8 ≤ k := by omega
  rcases hk8 with rfl | rfl | rfl | rfl | rfl | rfl | rfl | rfl | h8
  · exact inRow_0 w b o n s la ll lc L fa fl fc fn F e key hk h hr hl hn
  · exact inRow_1 w b o n s la ll lc L fa fl fc fn F e key hk h hr hl hn
  · exact inRow_2 w b o n s la ll lc L fa fl fc fn F e key hk h hr hl hn
  · exact inRow_3 w b o n s la ll lc L fa fl fc fn F e key hk h hr hl hn
  · exact inRow_4 w b o n s la ll lc L fa fl fc fn F e key hk h hr hl hn
  · exact inRow_5 w b o n s la ll lc L fa fl fc fn F e key hk h hr hl hn
  · exact inRow_6 w b o n s la ll lc L fa fl fc fn F e key hk h hr hl hn
  · exact inRow_7 w b o n s la ll lc L fa fl fc fn F e key hk h hr hl hn
  · exact inRow_8 w b o k n s la ll lc L fa fl fc fn F e key hk h ⟨h8, hk1.2⟩

theorem rising_of (fa : Option Addr) (fl fc : Nat) (fn : Nat → ByteArray) (w w' : World) (h : NamesAt w fa fl fc fn) (hb : Below w.heap.size w w') :
    Calls Tryz.prog 45 #[.slice fa fl fc] w' fun x w'' => x = .returned (.bool (risingB fl fn)) ∧ w' = w'' :=
  rising_any fa fl fc fn w' h.1 (h.below hb).2
end Go.Proofs.YtdlmemalefhgmaaGreatDoor.VT
end
section
namespace Go.Proofs.YtdlmemalefhgmaaGreatDoor.VT
set_option linter.unusedVariables false
set_option linter.unusedSimpArgs false
open Go.RowKit

set_option maxRecDepth 100000 in
set_option maxHeartbeats 2000000 in
theorem may_nn (w0 w : World) (b o : Nat) (deep left : Int) (k n : Int) (s : ByteArray) (lc : Nat) (L : Nat → V) (fc : Nat) (fn : Nat → ByteArray) (F : Nat → V) (e : Int) (key : ByteArray) (hk : Bool) (ll lb lo : Nat) (fl fb fo : Nat)
    (ihL : ∀ i, MayOk (L i)) (ihF : ∀ i, MayOk (F i)) (h : V.In w0 (V.mk k n s (some ⟨lb, lo, none⟩) ll lc L (some ⟨fb, fo, none⟩) fl fc fn F e key hk)) (ha : At w0 b o (V.mk k n s (some ⟨lb, lo, none⟩) ll lc L (some ⟨fb, fo, none⟩) fl fc fn F e key hk).cells) (hr : RowsAt w0) (hb : Below w0.heap.size w0 w) (hc : CS w0.heap.size left w) (hleft : 0 ≤ left ∧ left ≤ 4096) (hdeep : 1 ≤ deep ∧ deep ≤ 65) :
    Calls Tryz.prog 42 #[.pointer (some ⟨b, o, none⟩), .int .i64 deep, .pointer (some ⟨w0.heap.size, 0, none⟩), .pointer (some ⟨w0.heap.size + 1, 0, none⟩)] w (MayPost w0 (V.mk k n s (some ⟨lb, lo, none⟩) ll lc L (some ⟨fb, fo, none⟩) fl fc fn F e key hk) deep left) := by
  have hle := hb.size
  have hmk := Lib.hid (may_mk k n s (some ⟨lb, lo, none⟩) ll lc L (some ⟨fb, fo, none⟩) fl fc fn F e key hk deep left)
  have HI := Lib.hid (fun W (hw : Below w0.heap.size w0 W) => inRow_any W b o k n s (some ⟨lb, lo, none⟩) ll lc L (some ⟨fb, fo, none⟩) fl fc fn F e key hk (ha.below hw) (hr.below hw) (h.below hw))
  have HM := Lib.hid (fun W (hw : Below w0.heap.size w0 W) => inLim_any W b o k n s (some ⟨lb, lo, none⟩) ll lc L (some ⟨fb, fo, none⟩) fl fc fn F e key hk (ha.below hw) h.2.2.1 h.2.2.2.2.1)
  have HR := Lib.hid (fun W (hw : Below w0.heap.size w0 W) => rising_of (some ⟨fb, fo, none⟩) fl fc fn w0 W (namesAt_of h) hw)
  have HA := Lib.hid (fun W (hw : Below w0.heap.size w0 W) => at8 (ha.below hw))
  have hS := hc
  have CSet := Lib.hid (hc.set (left - 1))
  have BSet := Lib.hid (hb.setCell (p := ⟨w0.heap.size, 0, none⟩) (Nat.le_refl _) (.int .i64 (left - 1)))
  obtain ⟨z0, z1, z2, z3⟩ := hS
  by_cases hstop : left - 1 < 0 ∨ 64 < deep
  · have R : Hid ((V.mk k n s (some ⟨lb, lo, none⟩) ll lc L (some ⟨fb, fo, none⟩) fl fc fn F e key hk).may deep left = (false, left - 1)) := by
      have := hmk.out
      rw [if_pos hstop] at this
      exact this
    clear hmk HI HM HR HA ihL ihF h ha hr hc
    by_cases h0 : left - 1 < 0
    · go_enter Tryz.func42, Tryz.ntmps42
      go_wp2_with fail
      go_ret
      exact ⟨ret_b (by rw [R.out]), BSet.out, by rw [R.out]; exact CSet.out⟩
    · have h64 : 64 < deep := by omega
      go_enter Tryz.func42, Tryz.ntmps42
      go_wp2_with fail
      go_ret
      exact ⟨ret_b (by rw [R.out]), BSet.out, by rw [R.out]; exact CSet.out⟩
  have h0 : ¬ left - 1 < 0 := by omega
  have h64 : ¬ 64 < deep := by omega
  clear hstop
  cases hq : (inRowB k n s ll fl fn e key hk && (inLimB s key && risingB fl fn)) with
  | false =>
    have R : Hid ((V.mk k n s (some ⟨lb, lo, none⟩) ll lc L (some ⟨fb, fo, none⟩) fl fc fn F e key hk).may deep left = (false, left - 1)) := by
      have := hmk.out
      rw [if_neg (by omega), if_pos hq] at this
      exact this
    clear hmk ihL ihF h ha hr hc
    cases q1 : inRowB k n s ll fl fn e key hk
    · rw [q1] at HI
      clear HM HR hq q1
      go_enter Tryz.func42, Tryz.ntmps42
      go_wp2_with fail
      refine (HI.out _ BSet.out).mono ?_
      rintro x w1 ⟨rfl, hb1⟩
      have HB1 := Lib.hid (BSet.out.trans (hb1.mono BSet.out.size))
      have HC1 := Lib.hid (CSet.out.below hb1)
      clear hb1 z0 z1 z2 z3
      go_wp2_with fail
      go_ret
      exact ⟨ret_b (by rw [R.out]), HB1.out, by rw [R.out]; exact HC1.out⟩
    · rw [q1] at HI hq
      cases q2 : inLimB s key
      · rw [q2] at HM
        clear HR hq q1 q2
        go_enter Tryz.func42, Tryz.ntmps42
        go_wp2_with fail
        refine (HI.out _ BSet.out).mono ?_
        rintro x w1 ⟨rfl, hb1⟩
        have HB1 := Lib.hid (BSet.out.trans (hb1.mono BSet.out.size))
        have HC1 := Lib.hid (CSet.out.below hb1)
        clear hb1 z0 z1 z2 z3
        go_wp2_with fail
        refine (HM.out _ HB1.out).mono ?_
        rintro x w2 ⟨rfl, rfl⟩
        go_wp2_with fail
        go_ret
        exact ⟨ret_b (by rw [R.out]), HB1.out, by rw [R.out]; exact HC1.out⟩
      · rw [q2] at HM hq
        have q3 : risingB fl fn = false := by simpa using hq
        rw [q3] at HR
        clear hq q1 q2 q3
        go_enter Tryz.func42, Tryz.ntmps42
        go_wp2_with fail
        refine (HI.out _ BSet.out).mono ?_
        rintro x w1 ⟨rfl, hb1⟩
        have HB1 := Lib.hid (BSet.out.trans (hb1.mono BSet.out.size))
        have HC1 := Lib.hid (CSet.out.below hb1)
        clear hb1 z0 z1 z2 z3
        go_wp2_with fail
        refine (HM.out _ HB1.out).mono ?_
        rintro x w2 ⟨rfl, rfl⟩
        obtain ⟨-, -, -, c3, c4, -, -, -⟩ := HA.out _ HB1.out
        go_wp2_with fail
        refine (HR.out _ HB1.out).mono ?_
        rintro x w2 ⟨rfl, rfl⟩
        clear c3 c4
        go_wp2_with fail
        go_ret
        exact ⟨ret_b (by rw [R.out]), HB1.out, by rw [R.out]; exact HC1.out⟩
  | true =>
    have RT : Hid ((V.mk k n s (some ⟨lb, lo, none⟩) ll lc L (some ⟨fb, fo, none⟩) fl fc fn F e key hk).may deep left = mayTo fl (fun i => (F i).may (deep + 1)) (mayTo ll (fun i => (L i).may (deep + 1)) (true, left - 1))) := by
      have := hmk.out
      rw [if_neg (by omega), if_neg (by rw [hq]; exact Bool.noConfusion)] at this
      exact this
    have RE1 : Hid (∀ j, j < ll → (mayTo j (fun i => (L i).may (deep + 1)) (true, left - 1)).1 = true → ((L j).may (deep + 1) (mayTo j (fun i => (L i).may (deep + 1)) (true, left - 1)).2).1 = false → (V.mk k n s (some ⟨lb, lo, none⟩) ll lc L (some ⟨fb, fo, none⟩) fl fc fn F e key hk).may deep left = (L j).may (deep + 1) (mayTo j (fun i => (L i).may (deep + 1)) (true, left - 1)).2) := fun j hj h1 h2 => by
      have e1 := mayTo_succ j (fun i => (L i).may (deep + 1)) (true, left - 1) h1
      have e2 := mayTo_stop (g := (fun i => (L i).may (deep + 1))) (a := (true, left - 1)) (j := j + 1) (by rw [e1]; exact h2) ll hj
      rw [RT.out, e2, e1, mayTo_false _ _ _ h2]
    have RE2 : Hid (∀ j, j < fl → (mayTo j (fun i => (F i).may (deep + 1)) (mayTo ll (fun i => (L i).may (deep + 1)) (true, left - 1))).1 = true → ((F j).may (deep + 1) (mayTo j (fun i => (F i).may (deep + 1)) (mayTo ll (fun i => (L i).may (deep + 1)) (true, left - 1))).2).1 = false → (V.mk k n s (some ⟨lb, lo, none⟩) ll lc L (some ⟨fb, fo, none⟩) fl fc fn F e key hk).may deep left = (F j).may (deep + 1) (mayTo j (fun i => (F i).may (deep + 1)) (mayTo ll (fun i => (L i).may (deep + 1)) (true, left - 1))).2) := fun j hj h1 h2 => by
      have e1 := mayTo_succ j (fun i => (F i).may (deep + 1)) (mayTo ll (fun i => (L i).may (deep + 1)) (true, left - 1)) h1
      have e2 := mayTo_stop (g := (fun i => (F i).may (deep + 1))) (a := (mayTo ll (fun i => (L i).may (deep + 1)) (true, left - 1))) (j := j + 1) (by rw [e1]; exact h2) fl hj
      rw [RT.out, e2, e1]
    have HL := Lib.hid h.2.2.2.2.2.2.2.1
    have HF := Lib.hid h.2.2.2.2.2.2.2.2
    have hl1 := h.2.2.2.2.2.1
    have hf1 := h.2.2.2.2.2.2.1
    have HIL := Lib.hid ihL
    have HIF := Lib.hid ihF
    have HR0 := Lib.hid hr
    have q1 : inRowB k n s ll fl fn e key hk = true := by
      cases q : inRowB k n s ll fl fn e key hk <;> simp [q] at hq ⊢
    have q2 : inLimB s key = true := by
      cases q : inLimB s key <;> simp [q] at hq ⊢
    have q3 : risingB fl fn = true := by
      cases q : risingB fl fn <;> simp [q] at hq ⊢
    rw [q1] at HI
    rw [q2] at HM
    rw [q3] at HR
    unfold maxLen at hl1 hf1
    clear hmk ihL ihF h ha hr hc hq q1 q2 q3
    go_enter Tryz.func42, Tryz.ntmps42
    go_wp2_with fail
    refine (HI.out _ BSet.out).mono ?_
    rintro x w1 ⟨rfl, hb1⟩
    have HB1 := Lib.hid (BSet.out.trans (hb1.mono BSet.out.size))
    have HC1 := Lib.hid (CSet.out.below hb1)
    clear hb1 z0 z1 z2 z3
    go_wp2_with fail
    refine (HM.out _ HB1.out).mono ?_
    rintro x w2 ⟨rfl, rfl⟩
    obtain ⟨-, -, -, c3, c4, -, -, -⟩ := HA.out _ HB1.out
    go_wp2_with fail
    refine (HR.out _ HB1.out).mono ?_
    rintro x w2 ⟨rfl, rfl⟩
    go_wp2_with fail
    clear c3 c4
    go_loopw [38] (fun i wr => ∃ j : Nat, j ≤ ll ∧ i = .int .i64 j ∧ MS w0 (mayTo j (fun i => (L i).may (deep + 1)) (true, left - 1)) wr) (fun i _ => ll - (intOf i).toNat)
    case atStart => exact ⟨0, Nat.zero_le _, rfl, ⟨rfl, ⟨show 0 ≤ left - 1 by omega, show left - 1 ≤ 4096 by omega⟩, HB1.out, HC1.out⟩⟩
    case round =>
      obtain ⟨j, hj, rfl, hms⟩ := hrel
      obtain ⟨m1, m2, mb, mc⟩ := hms
      obtain ⟨-, -, -, c3, c4, -, -, -⟩ := HA.out _ mb
      have HMC := Lib.hid mc
      have HMB := Lib.hid mb
      have hle1 := mb.size
      obtain ⟨z0, -, z2, z3⟩ := mc
      clear mb
      by_cases hlt : j < ll
      · obtain ⟨⟨b1, o1, he, hat⟩, hin⟩ := HL.out j hlt
        simp only [Option.some.injEq, Addr.mk.injEq, and_true] at he
        obtain ⟨rfl, rfl⟩ := he
        have hx := fun W (hw : Below w0.heap.size w0 W) hcs => HIL.out j w0 W _ _ (deep + 1) (mayTo j (fun i => (L i).may (deep + 1)) (true, left - 1)).2 hin hat HR0.out hw hcs m2 (by omega)
        have RE := Lib.hid (RE1.out j hlt m1)
        have RS := Lib.hid (mayTo_succ j (fun i => (L i).may (deep + 1)) (true, left - 1) m1)
        have RG := Lib.hid (may_range (L j) (deep + 1) (mayTo j (fun i => (L i).may (deep + 1)) (true, left - 1)).2 m2.1)
        have hl0 : (0 : Int) ≤ (j : Int) := by omega
        have hli : (j : Int) < (ll : Int) := by omega
        have hd1 : IntKind.i64.wrap (deep + 1) = deep + 1 := IntWalk.i64_in _ (by omega)
        have HM2 := Lib.hid m2
        clear m1 m2 hat hin
        cases hr1 : ((L j).may (deep + 1) (mayTo j (fun i => (L i).may (deep + 1)) (true, left - 1)).2).1
        · have HX := Lib.hid (fun W hw hcs => (hx W hw hcs).mono (fun x w' h => mayPost_of h hr1))
          have R := Lib.hid (RE.out hr1)
          have R1 := Lib.hid hr1
          clear hx RE RS RG hr1
          go_wp2_with fail
          go_still_tail 9, (by kernel_rfl)
          go_wp2_with fail
          refine (HX.out _ HMB.out.drew (HMC.out.below (Below.refl _ _).drew)).mono ?_
          rintro x w2 ⟨rfl, hb2, hc2⟩
          have HB2 := Lib.hid hb2
          have HC2 := Lib.hid hc2
          clear hb2 hc2 c3 c4 z0 z2 z3
          go_wp2_with fail
          go_ret
          exact ⟨ret_b (by rw [R.out, R1.out]), HB2.out, by rw [R.out]; exact HC2.out⟩
        · have HX := Lib.hid (fun W hw hcs => (hx W hw hcs).mono (fun x w' h => mayPost_of h hr1))
          have R1 := Lib.hid hr1
          clear hx RE hr1
          go_wp2_with fail
          go_still_tail 9, (by kernel_rfl)
          go_wp2_with fail
          refine (HX.out _ HMB.out.drew (HMC.out.below (Below.refl _ _).drew)).mono ?_
          rintro x w2 ⟨rfl, hb2, hc2⟩
          have HS2 : Hid (MS w0 (mayTo (j + 1) (fun i => (L i).may (deep + 1)) (true, left - 1)) w2) := by
            have e := RS.out
            have g := RG.out
            have g2 := HM2.out
            refine (show MS w0 _ w2 from ?_)
            rw [e]
            exact ⟨R1.out, ⟨g.2.2 R1.out, by omega⟩, hb2, hc2⟩
          clear hb2 hc2 c3 c4 z0 z2 z3 RS RG HM2
          go_wp2_with fail
          go_roundw
          case rel => exact ⟨j + 1, by omega, by go_num, HS2.out⟩
          case measure => simp [intOf]; omega
      · obtain rfl : ll = j := by omega
        have HM1 := Lib.hid m1
        have HM2 := Lib.hid m2
        clear m1 m2
        go_wp2_with fail
        go_loopw [58] (fun i wr => ∃ j : Nat, j ≤ fl ∧ i = .int .i64 j ∧ MS w0 (mayTo j (fun i => (F i).may (deep + 1)) (mayTo ll (fun i => (L i).may (deep + 1)) (true, left - 1))) wr) (fun i _ => fl - (intOf i).toNat)
        case atStart => exact ⟨0, Nat.zero_le _, rfl, ⟨HM1.out, HM2.out, HMB.out, HMC.out⟩⟩
        case round =>
          obtain ⟨j, hj, rfl, hms⟩ := hrel
          obtain ⟨m1, m2, mb, mc⟩ := hms
          obtain ⟨-, -, -, c3, c4, -, -, -⟩ := HA.out _ mb
          have HMC := Lib.hid mc
          have HMB := Lib.hid mb
          have hle1 := mb.size
          obtain ⟨z0, -, z2, z3⟩ := mc
          clear mb
          by_cases hlt : j < fl
          · obtain ⟨⟨b1, o1, he, hat⟩, -, hin⟩ := HF.out j hlt
            simp only [Option.some.injEq, Addr.mk.injEq, and_true] at he
            obtain ⟨rfl, rfl⟩ := he
            have hx := fun W (hw : Below w0.heap.size w0 W) hcs => HIF.out j w0 W _ _ (deep + 1) (mayTo j (fun i => (F i).may (deep + 1)) (mayTo ll (fun i => (L i).may (deep + 1)) (true, left - 1))).2 hin hat.tail HR0.out hw hcs m2 (by omega)
            have RE := Lib.hid (RE2.out j hlt m1)
            have RS := Lib.hid (mayTo_succ j (fun i => (F i).may (deep + 1)) (mayTo ll (fun i => (L i).may (deep + 1)) (true, left - 1)) m1)
            have RG := Lib.hid (may_range (F j) (deep + 1) (mayTo j (fun i => (F i).may (deep + 1)) (mayTo ll (fun i => (L i).may (deep + 1)) (true, left - 1))).2 m2.1)
            have hl0 : (0 : Int) ≤ (j : Int) := by omega
            have hli : (j : Int) < (fl : Int) := by omega
            have hd1 : IntKind.i64.wrap (deep + 1) = deep + 1 := IntWalk.i64_in _ (by omega)
            have HM2 := Lib.hid m2
            clear m1 m2 hat hin
            cases hr1 : ((F j).may (deep + 1) (mayTo j (fun i => (F i).may (deep + 1)) (mayTo ll (fun i => (L i).may (deep + 1)) (true, left - 1))).2).1
            · have HX := Lib.hid (fun W hw hcs => (hx W hw hcs).mono (fun x w' h => mayPost_of h hr1))
              have R := Lib.hid (RE.out hr1)
              have R1 := Lib.hid hr1
              clear hx RE RS RG hr1
              go_wp2_with fail
              go_still_tail 10, (by kernel_rfl)
              go_wp2_with fail
              refine (HX.out _ HMB.out.drew (HMC.out.below (Below.refl _ _).drew)).mono ?_
              rintro x w2 ⟨rfl, hb2, hc2⟩
              have HB2 := Lib.hid hb2
              have HC2 := Lib.hid hc2
              clear hb2 hc2 c3 c4 z0 z2 z3
              go_wp2_with fail
              go_ret
              exact ⟨ret_b (by rw [R.out, R1.out]), HB2.out, by rw [R.out]; exact HC2.out⟩
            · have HX := Lib.hid (fun W hw hcs => (hx W hw hcs).mono (fun x w' h => mayPost_of h hr1))
              have R1 := Lib.hid hr1
              clear hx RE hr1
              go_wp2_with fail
              go_still_tail 10, (by kernel_rfl)
              go_wp2_with fail
              refine (HX.out _ HMB.out.drew (HMC.out.below (Below.refl _ _).drew)).mono ?_
              rintro x w2 ⟨rfl, hb2, hc2⟩
              have HS2 : Hid (MS w0 (mayTo (j + 1) (fun i => (F i).may (deep + 1)) (mayTo ll (fun i => (L i).may (deep + 1)) (true, left - 1))) w2) := by
                have e := RS.out
                have g := RG.out
                have g2 := HM2.out
                refine (show MS w0 _ w2 from ?_)
                rw [e]
                exact ⟨R1.out, ⟨g.2.2 R1.out, by omega⟩, hb2, hc2⟩
              clear hb2 hc2 c3 c4 z0 z2 z3 RS RG HM2
              go_wp2_with fail
              go_roundw
              case rel => exact ⟨j + 1, by omega, by go_num, HS2.out⟩
              case measure => simp [intOf]; omega
          · obtain rfl : fl = j := by omega
            have RR : Hid ((V.mk k n s (some ⟨lb, lo, none⟩) ll lc L (some ⟨fb, fo, none⟩) fl fc fn F e key hk).may deep left = mayTo fl (fun i => (F i).may (deep + 1)) (mayTo ll (fun i => (L i).may (deep + 1)) (true, left - 1))) := RT.out
            have HM1 := Lib.hid m1
            clear m1 m2
            go_wp2_with fail
            go_ret
            exact ⟨ret_b (by rw [RR.out, HM1.out]), HMB.out, by rw [RR.out]; exact HMC.out⟩

set_option maxRecDepth 100000 in
set_option maxHeartbeats 2000000 in
theorem may_nz (w0 w : World) (b o : Nat) (deep left : Int) (k n : Int) (s : ByteArray) (lc : Nat) (L : Nat → V) (fc : Nat) (fn : Nat → ByteArray) (F : Nat → V) (e : Int) (key : ByteArray) (hk : Bool) (ll lb lo : Nat) (fa : Option Addr)
    (ihL : ∀ i, MayOk (L i)) (ihF : ∀ i, MayOk (F i)) (h : V.In w0 (V.mk k n s (some ⟨lb, lo, none⟩) ll lc L fa 0 fc fn F e key hk)) (ha : At w0 b o (V.mk k n s (some ⟨lb, lo, none⟩) ll lc L fa 0 fc fn F e key hk).cells) (hr : RowsAt w0) (hb : Below w0.heap.size w0 w) (hc : CS w0.heap.size left w) (hleft : 0 ≤ left ∧ left ≤ 4096) (hdeep : 1 ≤ deep ∧ deep ≤ 65) :
    Calls Tryz.prog 42 #[.pointer (some ⟨b, o, none⟩), .int .i64 deep, .pointer (some ⟨w0.heap.size, 0, none⟩), .pointer (some ⟨w0.heap.size + 1, 0, none⟩)] w (MayPost w0 (V.mk k n s (some ⟨lb, lo, none⟩) ll lc L fa 0 fc fn F e key hk) deep left) := by
  have hle := hb.size
  have hmk := Lib.hid (may_mk k n s (some ⟨lb, lo, none⟩) ll lc L fa 0 fc fn F e key hk deep left)
  have HI := Lib.hid (fun W (hw : Below w0.heap.size w0 W) => inRow_any W b o k n s (some ⟨lb, lo, none⟩) ll lc L fa 0 fc fn F e key hk (ha.below hw) (hr.below hw) (h.below hw))
  have HM := Lib.hid (fun W (hw : Below w0.heap.size w0 W) => inLim_any W b o k n s (some ⟨lb, lo, none⟩) ll lc L fa 0 fc fn F e key hk (ha.below hw) h.2.2.1 h.2.2.2.2.1)
  have HR := Lib.hid (fun W (hw : Below w0.heap.size w0 W) => rising_of fa 0 fc fn w0 W (namesAt_of h) hw)
  have HA := Lib.hid (fun W (hw : Below w0.heap.size w0 W) => at8 (ha.below hw))
  have hS := hc
  have CSet := Lib.hid (hc.set (left - 1))
  have BSet := Lib.hid (hb.setCell (p := ⟨w0.heap.size, 0, none⟩) (Nat.le_refl _) (.int .i64 (left - 1)))
  obtain ⟨z0, z1, z2, z3⟩ := hS
  by_cases hstop : left - 1 < 0 ∨ 64 < deep
  · have R : Hid ((V.mk k n s (some ⟨lb, lo, none⟩) ll lc L fa 0 fc fn F e key hk).may deep left = (false, left - 1)) := by
      have := hmk.out
      rw [if_pos hstop] at this
      exact this
    clear hmk HI HM HR HA ihL ihF h ha hr hc
    by_cases h0 : left - 1 < 0
    · go_enter Tryz.func42, Tryz.ntmps42
      go_wp2_with fail
      go_ret
      exact ⟨ret_b (by rw [R.out]), BSet.out, by rw [R.out]; exact CSet.out⟩
    · have h64 : 64 < deep := by omega
      go_enter Tryz.func42, Tryz.ntmps42
      go_wp2_with fail
      go_ret
      exact ⟨ret_b (by rw [R.out]), BSet.out, by rw [R.out]; exact CSet.out⟩
  have h0 : ¬ left - 1 < 0 := by omega
  have h64 : ¬ 64 < deep := by omega
  clear hstop
  cases hq : (inRowB k n s ll 0 fn e key hk && (inLimB s key && risingB 0 fn)) with
  | false =>
    have R : Hid ((V.mk k n s (some ⟨lb, lo, none⟩) ll lc L fa 0 fc fn F e key hk).may deep left = (false, left - 1)) := by
      have := hmk.out
      rw [if_neg (by omega), if_pos hq] at this
      exact this
    clear hmk ihL ihF h ha hr hc
    cases q1 : inRowB k n s ll 0 fn e key hk
    · rw [q1] at HI
      clear HM HR hq q1
      go_enter Tryz.func42, Tryz.ntmps42
      go_wp2_with fail
      refine (HI.out _ BSet.out).mono ?_
      rintro x w1 ⟨rfl, hb1⟩
      have HB1 := Lib.hid (BSet.out.trans (hb1.mono BSet.out.size))
      have HC1 := Lib.hid (CSet.out.below hb1)
      clear hb1 z0 z1 z2 z3
      go_wp2_with fail
      go_ret
      exact ⟨ret_b (by rw [R.out]), HB1.out, by rw [R.out]; exact HC1.out⟩
    · rw [q1] at HI hq
      cases q2 : inLimB s key
      · rw [q2] at HM
        clear HR hq q1 q2
        go_enter Tryz.func42, Tryz.ntmps42
        go_wp2_with fail
        refine (HI.out _ BSet.out).mono ?_
        rintro x w1 ⟨rfl, hb1⟩
        have HB1 := Lib.hid (BSet.out.trans (hb1.mono BSet.out.size))
        have HC1 := Lib.hid (CSet.out.below hb1)
        clear hb1 z0 z1 z2 z3
        go_wp2_with fail
        refine (HM.out _ HB1.out).mono ?_
        rintro x w2 ⟨rfl, rfl⟩
        go_wp2_with fail
        go_ret
        exact ⟨ret_b (by rw [R.out]), HB1.out, by rw [R.out]; exact HC1.out⟩
      · rw [q2] at HM hq
        have q3 : risingB 0 fn = false := by simpa using hq
        rw [q3] at HR
        clear hq q1 q2 q3
        go_enter Tryz.func42, Tryz.ntmps42
        go_wp2_with fail
        refine (HI.out _ BSet.out).mono ?_
        rintro x w1 ⟨rfl, hb1⟩
        have HB1 := Lib.hid (BSet.out.trans (hb1.mono BSet.out.size))
        have HC1 := Lib.hid (CSet.out.below hb1)
        clear hb1 z0 z1 z2 z3
        go_wp2_with fail
        refine (HM.out _ HB1.out).mono ?_
        rintro x w2 ⟨rfl, rfl⟩
        obtain ⟨-, -, -, c3, c4, -, -, -⟩ := HA.out _ HB1.out
        go_wp2_with fail
        refine (HR.out _ HB1.out).mono ?_
        rintro x w2 ⟨rfl, rfl⟩
        clear c3 c4
        go_wp2_with fail
        go_ret
        exact ⟨ret_b (by rw [R.out]), HB1.out, by rw [R.out]; exact HC1.out⟩
  | true =>
    have RT : Hid ((V.mk k n s (some ⟨lb, lo, none⟩) ll lc L fa 0 fc fn F e key hk).may deep left = mayTo 0 (fun i => (F i).may (deep + 1)) (mayTo ll (fun i => (L i).may (deep + 1)) (true, left - 1))) := by
      have := hmk.out
      rw [if_neg (by omega), if_neg (by rw [hq]; exact Bool.noConfusion)] at this
      exact this
    have RE1 : Hid (∀ j, j < ll → (mayTo j (fun i => (L i).may (deep + 1)) (true, left - 1)).1 = true → ((L j).may (deep + 1) (mayTo j (fun i => (L i).may (deep + 1)) (true, left - 1)).2).1 = false → (V.mk k n s (some ⟨lb, lo, none⟩) ll lc L fa 0 fc fn F e key hk).may deep left = (L j).may (deep + 1) (mayTo j (fun i => (L i).may (deep + 1)) (true, left - 1)).2) := fun j hj h1 h2 => by
      have e1 := mayTo_succ j (fun i => (L i).may (deep + 1)) (true, left - 1) h1
      have e2 := mayTo_stop (g := (fun i => (L i).may (deep + 1))) (a := (true, left - 1)) (j := j + 1) (by rw [e1]; exact h2) ll hj
      rw [RT.out, e2, e1, mayTo_false _ _ _ h2]
    have RE2 : Hid (∀ j, j < 0 → (mayTo j (fun i => (F i).may (deep + 1)) (mayTo ll (fun i => (L i).may (deep + 1)) (true, left - 1))).1 = true → ((F j).may (deep + 1) (mayTo j (fun i => (F i).may (deep + 1)) (mayTo ll (fun i => (L i).may (deep + 1)) (true, left - 1))).2).1 = false → (V.mk k n s (some ⟨lb, lo, none⟩) ll lc L fa 0 fc fn F e key hk).may deep left = (F j).may (deep + 1) (mayTo j (fun i => (F i).may (deep + 1)) (mayTo ll (fun i => (L i).may (deep + 1)) (true, left - 1))).2) := fun j hj h1 h2 => by
      have e1 := mayTo_succ j (fun i => (F i).may (deep + 1)) (mayTo ll (fun i => (L i).may (deep + 1)) (true, left - 1)) h1
      have e2 := mayTo_stop (g := (fun i => (F i).may (deep + 1))) (a := (mayTo ll (fun i => (L i).may (deep + 1)) (true, left - 1))) (j := j + 1) (by rw [e1]; exact h2) 0 hj
      rw [RT.out, e2, e1]
    have HL := Lib.hid h.2.2.2.2.2.2.2.1
    have HF := Lib.hid h.2.2.2.2.2.2.2.2
    have hl1 := h.2.2.2.2.2.1
    have hf1 := h.2.2.2.2.2.2.1
    have HIL := Lib.hid ihL
    have HIF := Lib.hid ihF
    have HR0 := Lib.hid hr
    have q1 : inRowB k n s ll 0 fn e key hk = true := by
      cases q : inRowB k n s ll 0 fn e key hk <;> simp [q] at hq ⊢
    have q2 : inLimB s key = true := by
      cases q : inLimB s key <;> simp [q] at hq ⊢
    have q3 : risingB 0 fn = true := by
      cases q : risingB 0 fn <;> simp [q] at hq ⊢
    rw [q1] at HI
    rw [q2] at HM
    rw [q3] at HR
    unfold maxLen at hl1 hf1
    clear hmk ihL ihF h ha hr hc hq q1 q2 q3
    go_enter Tryz.func42, Tryz.ntmps42
    go_wp2_with fail
    refine (HI.out _ BSet.out).mono ?_
    rintro x w1 ⟨rfl, hb1⟩
    have HB1 := Lib.hid (BSet.out.trans (hb1.mono BSet.out.size))
    have HC1 := Lib.hid (CSet.out.below hb1)
    clear hb1 z0 z1 z2 z3
    go_wp2_with fail
    refine (HM.out _ HB1.out).mono ?_
    rintro x w2 ⟨rfl, rfl⟩
    obtain ⟨-, -, -, c3, c4, -, -, -⟩ := HA.out _ HB1.out
    go_wp2_with fail
    refine (HR.out _ HB1.out).mono ?_
    rintro x w2 ⟨rfl, rfl⟩
    go_wp2_with fail
    clear c3 c4
    go_loopw [38] (fun i wr => ∃ j : Nat, j ≤ ll ∧ i = .int .i64 j ∧ MS w0 (mayTo j (fun i => (L i).may (deep + 1)) (true, left - 1)) wr) (fun i _ => ll - (intOf i).toNat)
    case atStart => exact ⟨0, Nat.zero_le _, rfl, ⟨rfl, ⟨show 0 ≤ left - 1 by omega, show left - 1 ≤ 4096 by omega⟩, HB1.out, HC1.out⟩⟩
    case round =>
      obtain ⟨j, hj, rfl, hms⟩ := hrel
      obtain ⟨m1, m2, mb, mc⟩ := hms
      obtain ⟨-, -, -, c3, c4, -, -, -⟩ := HA.out _ mb
      have HMC := Lib.hid mc
      have HMB := Lib.hid mb
      have hle1 := mb.size
      obtain ⟨z0, -, z2, z3⟩ := mc
      clear mb
      by_cases hlt : j < ll
      · obtain ⟨⟨b1, o1, he, hat⟩, hin⟩ := HL.out j hlt
        simp only [Option.some.injEq, Addr.mk.injEq, and_true] at he
        obtain ⟨rfl, rfl⟩ := he
        have hx := fun W (hw : Below w0.heap.size w0 W) hcs => HIL.out j w0 W _ _ (deep + 1) (mayTo j (fun i => (L i).may (deep + 1)) (true, left - 1)).2 hin hat HR0.out hw hcs m2 (by omega)
        have RE := Lib.hid (RE1.out j hlt m1)
        have RS := Lib.hid (mayTo_succ j (fun i => (L i).may (deep + 1)) (true, left - 1) m1)
        have RG := Lib.hid (may_range (L j) (deep + 1) (mayTo j (fun i => (L i).may (deep + 1)) (true, left - 1)).2 m2.1)
        have hl0 : (0 : Int) ≤ (j : Int) := by omega
        have hli : (j : Int) < (ll : Int) := by omega
        have hd1 : IntKind.i64.wrap (deep + 1) = deep + 1 := IntWalk.i64_in _ (by omega)
        have HM2 := Lib.hid m2
        clear m1 m2 hat hin
        cases hr1 : ((L j).may (deep + 1) (mayTo j (fun i => (L i).may (deep + 1)) (true, left - 1)).2).1
        · have HX := Lib.hid (fun W hw hcs => (hx W hw hcs).mono (fun x w' h => mayPost_of h hr1))
          have R := Lib.hid (RE.out hr1)
          have R1 := Lib.hid hr1
          clear hx RE RS RG hr1
          go_wp2_with fail
          go_still_tail 9, (by kernel_rfl)
          go_wp2_with fail
          refine (HX.out _ HMB.out.drew (HMC.out.below (Below.refl _ _).drew)).mono ?_
          rintro x w2 ⟨rfl, hb2, hc2⟩
          have HB2 := Lib.hid hb2
          have HC2 := Lib.hid hc2
          clear hb2 hc2 c3 c4 z0 z2 z3
          go_wp2_with fail
          go_ret
          exact ⟨ret_b (by rw [R.out, R1.out]), HB2.out, by rw [R.out]; exact HC2.out⟩
        · have HX := Lib.hid (fun W hw hcs => (hx W hw hcs).mono (fun x w' h => mayPost_of h hr1))
          have R1 := Lib.hid hr1
          clear hx RE hr1
          go_wp2_with fail
          go_still_tail 9, (by kernel_rfl)
          go_wp2_with fail
          refine (HX.out _ HMB.out.drew (HMC.out.below (Below.refl _ _).drew)).mono ?_
          rintro x w2 ⟨rfl, hb2, hc2⟩
          have HS2 : Hid (MS w0 (mayTo (j + 1) (fun i => (L i).may (deep + 1)) (true, left - 1)) w2) := by
            have e := RS.out
            have g := RG.out
            have g2 := HM2.out
            refine (show MS w0 _ w2 from ?_)
            rw [e]
            exact ⟨R1.out, ⟨g.2.2 R1.out, by omega⟩, hb2, hc2⟩
          clear hb2 hc2 c3 c4 z0 z2 z3 RS RG HM2
          go_wp2_with fail
          go_roundw
          case rel => exact ⟨j + 1, by omega, by go_num, HS2.out⟩
          case measure => simp [intOf]; omega
      · obtain rfl : ll = j := by omega
        have HM1 := Lib.hid m1
        have HM2 := Lib.hid m2
        clear m1 m2
        go_wp2_with fail
        go_loopw [58] (fun i wr => i = .int .i64 0 ∧ MS w0 (mayTo 0 (fun i => (F i).may (deep + 1)) (mayTo ll (fun i => (L i).may (deep + 1)) (true, left - 1))) wr) (fun _ _ => 0)
        case atStart => exact ⟨rfl, ⟨HM1.out, HM2.out, HMB.out, HMC.out⟩⟩
        case round =>
          obtain ⟨rfl, hms⟩ := hrel
          obtain ⟨m1, m2, mb, mc⟩ := hms
          obtain ⟨-, -, -, c3, c4, -, -, -⟩ := HA.out _ mb
          have HMC := Lib.hid mc
          have HMB := Lib.hid mb
          have hle1 := mb.size
          obtain ⟨z0, -, z2, z3⟩ := mc
          clear mb
          have RR : Hid ((V.mk k n s (some ⟨lb, lo, none⟩) ll lc L fa 0 fc fn F e key hk).may deep left = mayTo 0 (fun i => (F i).may (deep + 1)) (mayTo ll (fun i => (L i).may (deep + 1)) (true, left - 1))) := RT.out
          have HM1 := Lib.hid m1
          clear m1 m2
          go_wp2_with fail
          go_ret
          exact ⟨ret_b (by rw [RR.out, HM1.out]), HMB.out, by rw [RR.out]; exact HMC.out⟩

end Go.Proofs.YtdlmemalefhgmaaGreatDoor.VT
end
section
namespace Go.Proofs.YtdlmemalefhgmaaGreatDoor.VT
set_option linter.unusedVariables false
set_option linter.unusedSimpArgs false
open Go.RowKit

set_option maxRecDepth 100000 in
set_option maxHeartbeats 2000000 in
theorem may_zn (w0 w : World) (b o : Nat) (deep left : Int) (k n : Int) (s : ByteArray) (lc : Nat) (L : Nat → V) (fc : Nat) (fn : Nat → ByteArray) (F : Nat → V) (e : Int) (key : ByteArray) (hk : Bool) (la : Option Addr) (fl fb fo : Nat)
    (ihL : ∀ i, MayOk (L i)) (ihF : ∀ i, MayOk (F i)) (h : V.In w0 (V.mk k n s la 0 lc L (some ⟨fb, fo, none⟩) fl fc fn F e key hk)) (ha : At w0 b o (V.mk k n s la 0 lc L (some ⟨fb, fo, none⟩) fl fc fn F e key hk).cells) (hr : RowsAt w0) (hb : Below w0.heap.size w0 w) (hc : CS w0.heap.size left w) (hleft : 0 ≤ left ∧ left ≤ 4096) (hdeep : 1 ≤ deep ∧ deep ≤ 65) :
    Calls Tryz.prog 42 #[.pointer (some ⟨b, o, none⟩), .int .i64 deep, .pointer (some ⟨w0.heap.size, 0, none⟩), .pointer (some ⟨w0.heap.size + 1, 0, none⟩)] w (MayPost w0 (V.mk k n s la 0 lc L (some ⟨fb, fo, none⟩) fl fc fn F e key hk) deep left) := by
  have hle := hb.size
  have hmk := Lib.hid (may_mk k n s la 0 lc L (some ⟨fb, fo, none⟩) fl fc fn F e key hk deep left)
  have HI := Lib.hid (fun W (hw : Below w0.heap.size w0 W) => inRow_any W b o k n s la 0 lc L (some ⟨fb, fo, none⟩) fl fc fn F e key hk (ha.below hw) (hr.below hw) (h.below hw))
  have HM := Lib.hid (fun W (hw : Below w0.heap.size w0 W) => inLim_any W b o k n s la 0 lc L (some ⟨fb, fo, none⟩) fl fc fn F e key hk (ha.below hw) h.2.2.1 h.2.2.2.2.1)
  have HR := Lib.hid (fun W (hw : Below w0.heap.size w0 W) => rising_of (some ⟨fb, fo, none⟩) fl fc fn w0 W (namesAt_of h) hw)
  have HA := Lib.hid (fun W (hw : Below w0.heap.size w0 W) => at8 (ha.below hw))
  have hS := hc
  have CSet := Lib.hid (hc.set (left - 1))
  have BSet := Lib.hid (hb.setCell (p := ⟨w0.heap.size, 0, none⟩) (Nat.le_refl _) (.int .i64 (left - 1)))
  obtain ⟨z0, z1, z2, z3⟩ := hS
  by_cases hstop : left - 1 < 0 ∨ 64 < deep
  · have R : Hid ((V.mk k n s la 0 lc L (some ⟨fb, fo, none⟩) fl fc fn F e key hk).may deep left = (false, left - 1)) := by
      have := hmk.out
      rw [if_pos hstop] at this
      exact this
    clear hmk HI HM HR HA ihL ihF h ha hr hc
    by_cases h0 : left - 1 < 0
    · go_enter Tryz.func42, Tryz.ntmps42
      go_wp2_with fail
      go_ret
      exact ⟨ret_b (by rw [R.out]), BSet.out, by rw [R.out]; exact CSet.out⟩
    · have h64 : 64 < deep := by omega
      go_enter Tryz.func42, Tryz.ntmps42
      go_wp2_with fail
      go_ret
      exact ⟨ret_b (by rw [R.out]), BSet.out, by rw [R.out]; exact CSet.out⟩
  have h0 : ¬ left - 1 < 0 := by omega
  have h64 : ¬ 64 < deep := by omega
  clear hstop
  cases hq : (inRowB k n s 0 fl fn e key hk && (inLimB s key && risingB fl fn)) with
  | false =>
    have R : Hid ((V.mk k n s la 0 lc L (some ⟨fb, fo, none⟩) fl fc fn F e key hk).may deep left = (false, left - 1)) := by
      have := hmk.out
      rw [if_neg (by omega), if_pos hq] at this
      exact this
    clear hmk ihL ihF h ha hr hc
    cases q1 : inRowB k n s 0 fl fn e key hk
    · rw [q1] at HI
      clear HM HR hq q1
      go_enter Tryz.func42, Tryz.ntmps42
      go_wp2_with fail
      refine (HI.out _ BSet.out).mono ?_
      rintro x w1 ⟨rfl, hb1⟩
      have HB1 := Lib.hid (BSet.out.trans (hb1.mono BSet.out.size))
      have HC1 := Lib.hid (CSet.out.below hb1)
      clear hb1 z0 z1 z2 z3
      go_wp2_with fail
      go_ret
      exact ⟨ret_b (by rw [R.out]), HB1.out, by rw [R.out]; exact HC1.out⟩
    · rw [q1] at HI hq
      cases q2 : inLimB s key
      · rw [q2] at HM
        clear HR hq q1 q2
        go_enter Tryz.func42, Tryz.ntmps42
        go_wp2_with fail
        refine (HI.out _ BSet.out).mono ?_
        rintro x w1 ⟨rfl, hb1⟩
        have HB1 := Lib.hid (BSet.out.trans (hb1.mono BSet.out.size))
        have HC1 := Lib.hid (CSet.out.below hb1)
        clear hb1 z0 z1 z2 z3
        go_wp2_with fail
        refine (HM.out _ HB1.out).mono ?_
        rintro x w2 ⟨rfl, rfl⟩
        go_wp2_with fail
        go_ret
        exact ⟨ret_b (by rw [R.out]), HB1.out, by rw [R.out]; exact HC1.out⟩
      · rw [q2] at HM hq
        have q3 : risingB fl fn = false := by simpa using hq
        rw [q3] at HR
        clear hq q1 q2 q3
        go_enter Tryz.func42, Tryz.ntmps42
        go_wp2_with fail
        refine (HI.out _ BSet.out).mono ?_
        rintro x w1 ⟨rfl, hb1⟩
        have HB1 := Lib.hid (BSet.out.trans (hb1.mono BSet.out.size))
        have HC1 := Lib.hid (CSet.out.below hb1)
        clear hb1 z0 z1 z2 z3
        go_wp2_with fail
        refine (HM.out _ HB1.out).mono ?_
        rintro x w2 ⟨rfl, rfl⟩
        obtain ⟨-, -, -, c3, c4, -, -, -⟩ := HA.out _ HB1.out
        go_wp2_with fail
        refine (HR.out _ HB1.out).mono ?_
        rintro x w2 ⟨rfl, rfl⟩
        clear c3 c4
        go_wp2_with fail
        go_ret
        exact ⟨ret_b (by rw [R.out]), HB1.out, by rw [R.out]; exact HC1.out⟩
  | true =>
    have RT : Hid ((V.mk k n s la 0 lc L (some ⟨fb, fo, none⟩) fl fc fn F e key hk).may deep left = mayTo fl (fun i => (F i).may (deep + 1)) (mayTo 0 (fun i => (L i).may (deep + 1)) (true, left - 1))) := by
      have := hmk.out
      rw [if_neg (by omega), if_neg (by rw [hq]; exact Bool.noConfusion)] at this
      exact this
    have RE1 : Hid (∀ j, j < 0 → (mayTo j (fun i => (L i).may (deep + 1)) (true, left - 1)).1 = true → ((L j).may (deep + 1) (mayTo j (fun i => (L i).may (deep + 1)) (true, left - 1)).2).1 = false → (V.mk k n s la 0 lc L (some ⟨fb, fo, none⟩) fl fc fn F e key hk).may deep left = (L j).may (deep + 1) (mayTo j (fun i => (L i).may (deep + 1)) (true, left - 1)).2) := fun j hj h1 h2 => by
      have e1 := mayTo_succ j (fun i => (L i).may (deep + 1)) (true, left - 1) h1
      have e2 := mayTo_stop (g := (fun i => (L i).may (deep + 1))) (a := (true, left - 1)) (j := j + 1) (by rw [e1]; exact h2) 0 hj
      rw [RT.out, e2, e1, mayTo_false _ _ _ h2]
    have RE2 : Hid (∀ j, j < fl → (mayTo j (fun i => (F i).may (deep + 1)) (mayTo 0 (fun i => (L i).may (deep + 1)) (true, left - 1))).1 = true → ((F j).may (deep + 1) (mayTo j (fun i => (F i).may (deep + 1)) (mayTo 0 (fun i => (L i).may (deep + 1)) (true, left - 1))).2).1 = false → (V.mk k n s la 0 lc L (some ⟨fb, fo, none⟩) fl fc fn F e key hk).may deep left = (F j).may (deep + 1) (mayTo j (fun i => (F i).may (deep + 1)) (mayTo 0 (fun i => (L i).may (deep + 1)) (true, left - 1))).2) := fun j hj h1 h2 => by
      have e1 := mayTo_succ j (fun i => (F i).may (deep + 1)) (mayTo 0 (fun i => (L i).may (deep + 1)) (true, left - 1)) h1
      have e2 := mayTo_stop (g := (fun i => (F i).may (deep + 1))) (a := (mayTo 0 (fun i => (L i).may (deep + 1)) (true, left - 1))) (j := j + 1) (by rw [e1]; exact h2) fl hj
      rw [RT.out, e2, e1]
    have HL := Lib.hid h.2.2.2.2.2.2.2.1
    have HF := Lib.hid h.2.2.2.2.2.2.2.2
    have hl1 := h.2.2.2.2.2.1
    have hf1 := h.2.2.2.2.2.2.1
    have HIL := Lib.hid ihL
    have HIF := Lib.hid ihF
    have HR0 := Lib.hid hr
    have q1 : inRowB k n s 0 fl fn e key hk = true := by
      cases q : inRowB k n s 0 fl fn e key hk <;> simp [q] at hq ⊢
    have q2 : inLimB s key = true := by
      cases q : inLimB s key <;> simp [q] at hq ⊢
    have q3 : risingB fl fn = true := by
      cases q : risingB fl fn <;> simp [q] at hq ⊢
    rw [q1] at HI
    rw [q2] at HM
    rw [q3] at HR
    unfold maxLen at hl1 hf1
    clear hmk ihL ihF h ha hr hc hq q1 q2 q3
    go_enter Tryz.func42, Tryz.ntmps42
    go_wp2_with fail
    refine (HI.out _ BSet.out).mono ?_
    rintro x w1 ⟨rfl, hb1⟩
    have HB1 := Lib.hid (BSet.out.trans (hb1.mono BSet.out.size))
    have HC1 := Lib.hid (CSet.out.below hb1)
    clear hb1 z0 z1 z2 z3
    go_wp2_with fail
    refine (HM.out _ HB1.out).mono ?_
    rintro x w2 ⟨rfl, rfl⟩
    obtain ⟨-, -, -, c3, c4, -, -, -⟩ := HA.out _ HB1.out
    go_wp2_with fail
    refine (HR.out _ HB1.out).mono ?_
    rintro x w2 ⟨rfl, rfl⟩
    go_wp2_with fail
    clear c3 c4
    go_loopw [38] (fun i wr => i = .int .i64 0 ∧ MS w0 (mayTo 0 (fun i => (L i).may (deep + 1)) (true, left - 1)) wr) (fun _ _ => 0)
    case atStart => exact ⟨rfl, ⟨rfl, ⟨show 0 ≤ left - 1 by omega, show left - 1 ≤ 4096 by omega⟩, HB1.out, HC1.out⟩⟩
    case round =>
      obtain ⟨rfl, hms⟩ := hrel
      obtain ⟨m1, m2, mb, mc⟩ := hms
      obtain ⟨-, -, -, c3, c4, -, -, -⟩ := HA.out _ mb
      have HMC := Lib.hid mc
      have HMB := Lib.hid mb
      have hle1 := mb.size
      obtain ⟨z0, -, z2, z3⟩ := mc
      clear mb
      have HM1 := Lib.hid m1
      have HM2 := Lib.hid m2
      clear m1 m2
      go_wp2_with fail
      go_loopw [58] (fun i wr => ∃ j : Nat, j ≤ fl ∧ i = .int .i64 j ∧ MS w0 (mayTo j (fun i => (F i).may (deep + 1)) (mayTo 0 (fun i => (L i).may (deep + 1)) (true, left - 1))) wr) (fun i _ => fl - (intOf i).toNat)
      case atStart => exact ⟨0, Nat.zero_le _, rfl, ⟨HM1.out, HM2.out, HMB.out, HMC.out⟩⟩
      case round =>
        obtain ⟨j, hj, rfl, hms⟩ := hrel
        obtain ⟨m1, m2, mb, mc⟩ := hms
        obtain ⟨-, -, -, c3, c4, -, -, -⟩ := HA.out _ mb
        have HMC := Lib.hid mc
        have HMB := Lib.hid mb
        have hle1 := mb.size
        obtain ⟨z0, -, z2, z3⟩ := mc
        clear mb
        by_cases hlt : j < fl
        · obtain ⟨⟨b1, o1, he, hat⟩, -, hin⟩ := HF.out j hlt
          simp only [Option.some.injEq, Addr.mk.injEq, and_true] at he
          obtain ⟨rfl, rfl⟩ := he
          have hx := fun W (hw : Below w0.heap.size w0 W) hcs => HIF.out j w0 W _ _ (deep + 1) (mayTo j (fun i => (F i).may (deep + 1)) (mayTo 0 (fun i => (L i).may (deep + 1)) (true, left - 1))).2 hin hat.tail HR0.out hw hcs m2 (by omega)
          have RE := Lib.hid (RE2.out j hlt m1)
          have RS := Lib.hid (mayTo_succ j (fun i => (F i).may (deep + 1)) (mayTo 0 (fun i => (L i).may (deep + 1)) (true, left - 1)) m1)
          have RG := Lib.hid (may_range (F j) (deep + 1) (mayTo j (fun i => (F i).may (deep + 1)) (mayTo 0 (fun i => (L i).may (deep + 1)) (true, left - 1))).2 m2.1)
          have hl0 : (0 : Int) ≤ (j : Int) := by omega
          have hli : (j : Int) < (fl : Int) := by omega
          have hd1 : IntKind.i64.wrap (deep + 1) = deep + 1 := IntWalk.i64_in _ (by omega)
          have HM2 := Lib.hid m2
          clear m1 m2 hat hin
          cases hr1 : ((F j).may (deep + 1) (mayTo j (fun i => (F i).may (deep + 1)) (mayTo 0 (fun i => (L i).may (deep + 1)) (true, left - 1))).2).1
          · have HX := Lib.hid (fun W hw hcs => (hx W hw hcs).mono (fun x w' h => mayPost_of h hr1))
            have R := Lib.hid (RE.out hr1)
            have R1 := Lib.hid hr1
            clear hx RE RS RG hr1
            go_wp2_with fail
            go_still_tail 10, (by kernel_rfl)
            go_wp2_with fail
            refine (HX.out _ HMB.out.drew (HMC.out.below (Below.refl _ _).drew)).mono ?_
            rintro x w2 ⟨rfl, hb2, hc2⟩
            have HB2 := Lib.hid hb2
            have HC2 := Lib.hid hc2
            clear hb2 hc2 c3 c4 z0 z2 z3
            go_wp2_with fail
            go_ret
            exact ⟨ret_b (by rw [R.out, R1.out]), HB2.out, by rw [R.out]; exact HC2.out⟩
          · have HX := Lib.hid (fun W hw hcs => (hx W hw hcs).mono (fun x w' h => mayPost_of h hr1))
            have R1 := Lib.hid hr1
            clear hx RE hr1
            go_wp2_with fail
            go_still_tail 10, (by kernel_rfl)
            go_wp2_with fail
            refine (HX.out _ HMB.out.drew (HMC.out.below (Below.refl _ _).drew)).mono ?_
            rintro x w2 ⟨rfl, hb2, hc2⟩
            have HS2 : Hid (MS w0 (mayTo (j + 1) (fun i => (F i).may (deep + 1)) (mayTo 0 (fun i => (L i).may (deep + 1)) (true, left - 1))) w2) := by
              have e := RS.out
              have g := RG.out
              have g2 := HM2.out
              refine (show MS w0 _ w2 from ?_)
              rw [e]
              exact ⟨R1.out, ⟨g.2.2 R1.out, by omega⟩, hb2, hc2⟩
            clear hb2 hc2 c3 c4 z0 z2 z3 RS RG HM2
            go_wp2_with fail
            go_roundw
            case rel => exact ⟨j + 1, by omega, by go_num, HS2.out⟩
            case measure => simp [intOf]; omega
        · obtain rfl : fl = j := by omega
          have RR : Hid ((V.mk k n s la 0 lc L (some ⟨fb, fo, none⟩) fl fc fn F e key hk).may deep left = mayTo fl (fun i => (F i).may (deep + 1)) (mayTo 0 (fun i => (L i).may (deep + 1)) (true, left - 1))) := RT.out
          have HM1 := Lib.hid m1
          clear m1 m2
          go_wp2_with fail
          go_ret
          exact ⟨ret_b (by rw [RR.out, HM1.out]), HMB.out, by rw [RR.out]; exact HMC.out⟩

set_option maxRecDepth 100000 in
set_option maxHeartbeats 2000000 in
theorem may_zz (w0 w : World) (b o : Nat) (deep left : Int) (k n : Int) (s : ByteArray) (lc : Nat) (L : Nat → V) (fc : Nat) (fn : Nat → ByteArray) (F : Nat → V) (e : Int) (key : ByteArray) (hk : Bool) (la : Option Addr) (fa : Option Addr)
    (ihL : ∀ i, MayOk (L i)) (ihF : ∀ i, MayOk (F i)) (h : V.In w0 (V.mk k n s la 0 lc L fa 0 fc fn F e key hk)) (ha : At w0 b o (V.mk k n s la 0 lc L fa 0 fc fn F e key hk).cells) (hr : RowsAt w0) (hb : Below w0.heap.size w0 w) (hc : CS w0.heap.size left w) (hleft : 0 ≤ left ∧ left ≤ 4096) (hdeep : 1 ≤ deep ∧ deep ≤ 65) :
    Calls Tryz.prog 42 #[.pointer (some ⟨b, o, none⟩), .int .i64 deep, .pointer (some ⟨w0.heap.size, 0, none⟩), .pointer (some ⟨w0.heap.size + 1, 0, none⟩)] w (MayPost w0 (V.mk k n s la 0 lc L fa 0 fc fn F e key hk) deep left) := by
  have hle := hb.size
  have hmk := Lib.hid (may_mk k n s la 0 lc L fa 0 fc fn F e key hk deep left)
  have HI := Lib.hid (fun W (hw : Below w0.heap.size w0 W) => inRow_any W b o k n s la 0 lc L fa 0 fc fn F e key hk (ha.below hw) (hr.below hw) (h.below hw))
  have HM := Lib.hid (fun W (hw : Below w0.heap.size w0 W) => inLim_any W b o k n s la 0 lc L fa 0 fc fn F e key hk (ha.below hw) h.2.2.1 h.2.2.2.2.1)
  have HR := Lib.hid (fun W (hw : Below w0.heap.size w0 W) => rising_of fa 0 fc fn w0 W (namesAt_of h) hw)
  have HA := Lib.hid (fun W (hw : Below w0.heap.size w0 W) => at8 (ha.below hw))
  have hS := hc
  have CSet := Lib.hid (hc.set (left - 1))
  have BSet := Lib.hid (hb.setCell (p := ⟨w0.heap.size, 0, none⟩) (Nat.le_refl _) (.int .i64 (left - 1)))
  obtain ⟨z0, z1, z2, z3⟩ := hS
  by_cases hstop : left - 1 < 0 ∨ 64 < deep
  · have R : Hid ((V.mk k n s la 0 lc L fa 0 fc fn F e key hk).may deep left = (false, left - 1)) := by
      have := hmk.out
      rw [if_pos hstop] at this
      exact this
    clear hmk HI HM HR HA ihL ihF h ha hr hc
    by_cases h0 : left - 1 < 0
    · go_enter Tryz.func42, Tryz.ntmps42
      go_wp2_with fail
      go_ret
      exact ⟨ret_b (by rw [R.out]), BSet.out, by rw [R.out]; exact CSet.out⟩
    · have h64 : 64 < deep := by omega
      go_enter Tryz.func42, Tryz.ntmps42
      go_wp2_with fail
      go_ret
      exact ⟨ret_b (by rw [R.out]), BSet.out, by rw [R.out]; exact CSet.out⟩
  have h0 : ¬ left - 1 < 0 := by omega
  have h64 : ¬ 64 < deep := by omega
  clear hstop
  cases hq : (inRowB k n s 0 0 fn e key hk && (inLimB s key && risingB 0 fn)) with
  | false =>
    have R : Hid ((V.mk k n s la 0 lc L fa 0 fc fn F e key hk).may deep left = (false, left - 1)) := by
      have := hmk.out
      rw [if_neg (by omega), if_pos hq] at this
      exact this
    clear hmk ihL ihF h ha hr hc
    cases q1 : inRowB k n s 0 0 fn e key hk
    · rw [q1] at HI
      clear HM HR hq q1
      go_enter Tryz.func42, Tryz.ntmps42
      go_wp2_with fail
      refine (HI.out _ BSet.out).mono ?_
      rintro x w1 ⟨rfl, hb1⟩
      have HB1 := Lib.hid (BSet.out.trans (hb1.mono BSet.out.size))
      have HC1 := Lib.hid (CSet.out.below hb1)
      clear hb1 z0 z1 z2 z3
      go_wp2_with fail
      go_ret
      exact ⟨ret_b (by rw [R.out]), HB1.out, by rw [R.out]; exact HC1.out⟩
    · rw [q1] at HI hq
      cases q2 : inLimB s key
      · rw [q2] at HM
        clear HR hq q1 q2
        go_enter Tryz.func42, Tryz.ntmps42
        go_wp2_with fail
        refine (HI.out _ BSet.out).mono ?_
        rintro x w1 ⟨rfl, hb1⟩
        have HB1 := Lib.hid (BSet.out.trans (hb1.mono BSet.out.size))
        have HC1 := Lib.hid (CSet.out.below hb1)
        clear hb1 z0 z1 z2 z3
        go_wp2_with fail
        refine (HM.out _ HB1.out).mono ?_
        rintro x w2 ⟨rfl, rfl⟩
        go_wp2_with fail
        go_ret
        exact ⟨ret_b (by rw [R.out]), HB1.out, by rw [R.out]; exact HC1.out⟩
      · rw [q2] at HM hq
        have q3 : risingB 0 fn = false := by simpa using hq
        rw [q3] at HR
        clear hq q1 q2 q3
        go_enter Tryz.func42, Tryz.ntmps42
        go_wp2_with fail
        refine (HI.out _ BSet.out).mono ?_
        rintro x w1 ⟨rfl, hb1⟩
        have HB1 := Lib.hid (BSet.out.trans (hb1.mono BSet.out.size))
        have HC1 := Lib.hid (CSet.out.below hb1)
        clear hb1 z0 z1 z2 z3
        go_wp2_with fail
        refine (HM.out _ HB1.out).mono ?_
        rintro x w2 ⟨rfl, rfl⟩
        obtain ⟨-, -, -, c3, c4, -, -, -⟩ := HA.out _ HB1.out
        go_wp2_with fail
        refine (HR.out _ HB1.out).mono ?_
        rintro x w2 ⟨rfl, rfl⟩
        clear c3 c4
        go_wp2_with fail
        go_ret
        exact ⟨ret_b (by rw [R.out]), HB1.out, by rw [R.out]; exact HC1.out⟩
  | true =>
    have RT : Hid ((V.mk k n s la 0 lc L fa 0 fc fn F e key hk).may deep left = mayTo 0 (fun i => (F i).may (deep + 1)) (mayTo 0 (fun i => (L i).may (deep + 1)) (true, left - 1))) := by
      have := hmk.out
      rw [if_neg (by omega), if_neg (by rw [hq]; exact Bool.noConfusion)] at this
      exact this
    have RE1 : Hid (∀ j, j < 0 → (mayTo j (fun i => (L i).may (deep + 1)) (true, left - 1)).1 = true → ((L j).may (deep + 1) (mayTo j (fun i => (L i).may (deep + 1)) (true, left - 1)).2).1 = false → (V.mk k n s la 0 lc L fa 0 fc fn F e key hk).may deep left = (L j).may (deep + 1) (mayTo j (fun i => (L i).may (deep + 1)) (true, left - 1)).2) := fun j hj h1 h2 => by
      have e1 := mayTo_succ j (fun i => (L i).may (deep + 1)) (true, left - 1) h1
      have e2 := mayTo_stop (g := (fun i => (L i).may (deep + 1))) (a := (true, left - 1)) (j := j + 1) (by rw [e1]; exact h2) 0 hj
      rw [RT.out, e2, e1, mayTo_false _ _ _ h2]
    have RE2 : Hid (∀ j, j < 0 → (mayTo j (fun i => (F i).may (deep + 1)) (mayTo 0 (fun i => (L i).may (deep + 1)) (true, left - 1))).1 = true → ((F j).may (deep + 1) (mayTo j (fun i => (F i).may (deep + 1)) (mayTo 0 (fun i => (L i).may (deep + 1)) (true, left - 1))).2).1 = false → (V.mk k n s la 0 lc L fa 0 fc fn F e key hk).may deep left = (F j).may (deep + 1) (mayTo j (fun i => (F i).may (deep + 1)) (mayTo 0 (fun i => (L i).may (deep + 1)) (true, left - 1))).2) := fun j hj h1 h2 => by
      have e1 := mayTo_succ j (fun i => (F i).may (deep + 1)) (mayTo 0 (fun i => (L i).may (deep + 1)) (true, left - 1)) h1
      have e2 := mayTo_stop (g := (fun i => (F i).may (deep + 1))) (a := (mayTo 0 (fun i => (L i).may (deep + 1)) (true, left - 1))) (j := j + 1) (by rw [e1]; exact h2) 0 hj
      rw [RT.out, e2, e1]
    have HL := Lib.hid h.2.2.2.2.2.2.2.1
    have HF := Lib.hid h.2.2.2.2.2.2.2.2
    have hl1 := h.2.2.2.2.2.1
    have hf1 := h.2.2.2.2.2.2.1
    have HIL := Lib.hid ihL
    have HIF := Lib.hid ihF
    have HR0 := Lib.hid hr
    have q1 : inRowB k n s 0 0 fn e key hk = true := by
      cases q : inRowB k n s 0 0 fn e key hk <;> simp [q] at hq ⊢
    have q2 : inLimB s key = true := by
      cases q : inLimB s key <;> simp [q] at hq ⊢
    have q3 : risingB 0 fn = true := by
      cases q : risingB 0 fn <;> simp [q] at hq ⊢
    rw [q1] at HI
    rw [q2] at HM
    rw [q3] at HR
    unfold maxLen at hl1 hf1
    clear hmk ihL ihF h ha hr hc hq q1 q2 q3
    go_enter Tryz.func42, Tryz.ntmps42
    go_wp2_with fail
    refine (HI.out _ BSet.out).mono ?_
    rintro x w1 ⟨rfl, hb1⟩
    have HB1 := Lib.hid (BSet.out.trans (hb1.mono BSet.out.size))
    have HC1 := Lib.hid (CSet.out.below hb1)
    clear hb1 z0 z1 z2 z3
    go_wp2_with fail
    refine (HM.out _ HB1.out).mono ?_
    rintro x w2 ⟨rfl, rfl⟩
    obtain ⟨-, -, -, c3, c4, -, -, -⟩ := HA.out _ HB1.out
    go_wp2_with fail
    refine (HR.out _ HB1.out).mono ?_
    rintro x w2 ⟨rfl, rfl⟩
    go_wp2_with fail
    clear c3 c4
    go_loopw [38] (fun i wr => i = .int .i64 0 ∧ MS w0 (mayTo 0 (fun i => (L i).may (deep + 1)) (true, left - 1)) wr) (fun _ _ => 0)
    case atStart => exact ⟨rfl, ⟨rfl, ⟨show 0 ≤ left - 1 by omega, show left - 1 ≤ 4096 by omega⟩, HB1.out, HC1.out⟩⟩
    case round =>
      obtain ⟨rfl, hms⟩ := hrel
      obtain ⟨m1, m2, mb, mc⟩ := hms
      obtain ⟨-, -, -, c3, c4, -, -, -⟩ := HA.out _ mb
      have HMC := Lib.hid mc
      have HMB := Lib.hid mb
      have hle1 := mb.size
      obtain ⟨z0, -, z2, z3⟩ := mc
      clear mb
      have HM1 := Lib.hid m1
      have HM2 := Lib.hid m2
      clear m1 m2
      go_wp2_with fail
      go_loopw [58] (fun i wr => i = .int .i64 0 ∧ MS w0 (mayTo 0 (fun i => (F i).may (deep + 1)) (mayTo 0 (fun i => (L i).may (deep + 1)) (true, left - 1))) wr) (fun _ _ => 0)
      case atStart => exact ⟨rfl, ⟨HM1.out, HM2.out, HMB.out, HMC.out⟩⟩
      case round =>
        obtain ⟨rfl, hms⟩ := hrel
        obtain ⟨m1, m2, mb, mc⟩ := hms
        obtain ⟨-, -, -, c3, c4, -, -, -⟩ := HA.out _ mb
        have HMC := Lib.hid mc
        have HMB := Lib.hid mb
        have hle1 := mb.size
        obtain ⟨z0, -, z2, z3⟩ := mc
        clear mb
        have RR : Hid ((V.mk k n s la 0 lc L fa 0 fc fn F e key hk).may deep left = mayTo 0 (fun i => (F i).may (deep + 1)) (mayTo 0 (fun i => (L i).may (deep + 1)) (true, left - 1))) := RT.out
        have HM1 := Lib.hid m1
        clear m1 m2
        go_wp2_with fail
        go_ret
        exact ⟨ret_b (by rw [RR.out, HM1.out]), HMB.out, by rw [RR.out]; exact HMC.out⟩

end Go.Proofs.YtdlmemalefhgmaaGreatDoor.VT
end
section
namespace Go.Proofs.YtdlmemalefhgmaaGreatDoor.VT
set_option linter.unusedVariables false
set_option linter.unusedSimpArgs false
open Go.RowKit

theorem may_any : ∀ v : V, MayOk v := by
  intro v
  induction v with
  | leaf => exact fun w0 w b o deep left h => h.elim
  | mk k n s la ll lc L fa fl fc fn F e key hk ihL ihF =>
  intro w0 w b o deep left h ha hr hb hc hleft hdeep
  have hL := h.2.2.2.2.2.2.2.1
  have hF := h.2.2.2.2.2.2.2.2
  by_cases zl : ll = 0 <;> by_cases zf : fl = 0
  · subst zl zf
    exact may_zz w0 w b o deep left k n s lc L fc fn F e key hk la fa ihL ihF h ha hr hb hc hleft hdeep
  · subst zl
    obtain ⟨⟨fb, fo, rfl, -⟩, -⟩ := hF 0 (by omega)
    exact may_zn w0 w b o deep left k n s lc L fc fn F e key hk la fl fb fo ihL ihF h ha hr hb hc hleft hdeep
  · subst zf
    obtain ⟨⟨lb, lo, rfl, -⟩, -⟩ := hL 0 (by omega)
    exact may_nz w0 w b o deep left k n s lc L fc fn F e key hk ll lb lo fa ihL ihF h ha hr hb hc hleft hdeep
  · obtain ⟨⟨fb, fo, rfl, -⟩, -⟩ := hF 0 (by omega)
    obtain ⟨⟨lb, lo, rfl, -⟩, -⟩ := hL 0 (by omega)
    exact may_nn w0 w b o deep left k n s lc L fc fn F e key hk ll lb lo fl fb fo ihL ihF h ha hr hb hc hleft hdeep

/-- The cells of a new block. -/
theorem at_new' {w w' : World} {B : Nat} {cs : List Value} {T : TypeId} (hB : B = w.heap.size) (hb : Below (B + 1) (w.alloc (.cells cs.toArray T)) w') : At w' B 0 cs := by
  subst hB
  intro i hi
  rw [hb.cell (p := ⟨w.heap.size, 0 + i, none⟩) (by simp)]
  simp [hi]

theorem may_from (v : V) (w : World) (O : Obj) (h : v.In w) (hr : RowsAt w) (hO : At (w.alloc O) w.heap.size 0 v.cells) (W : World) (hw : Below (w.heap.size + 1) (w.alloc O) W) (hc : CS (w.heap.size + 1) 4096 W) :
    Calls Tryz.prog 42 #[.pointer (some ⟨w.heap.size, 0, none⟩), .int .i64 1, .pointer (some ⟨w.heap.size + 1, 0, none⟩), .pointer (some ⟨w.heap.size + 1 + 1, 0, none⟩)] W fun x w' => x = .returned (.bool v.check) ∧ Below w.heap.size w w' := by
  have hsz : (w.alloc O).heap.size = w.heap.size + 1 := by simp
  have H := may_any v (w.alloc O) W w.heap.size 0 1 4096 (h.below (below_alloc w O)) hO (hr.below (below_alloc w O)) (by rw [hsz]; exact hw) (by rw [hsz]; exact hc) (by omega) (by omega)
  rw [hsz] at H
  exact H.mono fun x w' ⟨h1, h2, _⟩ => ⟨h1, (below_alloc w O).trans (h2.mono (by rw [hsz]; omega))⟩

set_option maxHeartbeats 1000000 in
theorem check_any (v : V) (w : World) (h : v.In w) (hr : RowsAt w) :
    Calls Tryz.prog 18 #[v.agg] w fun x w' => x = .returned (.bool v.check) ∧ Below w.heap.size w w' := by
  cases v with
  | leaf => exact h.elim
  | mk k n s la ll lc L fa fl fc fn F e key hk =>
  have H := Lib.hid (fun T => may_from (V.mk k n s la ll lc L fa fl fc fn F e key hk) w (.cells (V.mk k n s la ll lc L fa fl fc fn F e key hk).cells.toArray T) h hr (at_new' rfl (Below.refl _ _)))
  generalize (V.mk k n s la ll lc L fa fl fc fn F e key hk).check = q at H ⊢
  clear h hr
  have hmf : ∀ (fn : Fn) (first cap : Array Value) (w : World), (Instr.makeFunc fn first cap).run Tryz.prog w = .ok (.func fn first cap) w := fun _ _ _ _ => rfl
  simp only [V.agg, V.cells] at H ⊢
  go_enter Tryz.func18, Tryz.ntmps18
  go_wp2_with fail
  refine (H.out 50 _ ?_ ?_).mono ?_
  · refine Below.alloc (Below.alloc (Below.refl _ _) ?_ _) ?_ _ <;> simp
  · refine ⟨by simp, ?_, by rw [frozen?_alloc_cells]; exact World.frozen?_alloc_at _ _ _ _ (by simp), ?_⟩
    · exact at_new' (cs := [_]) (by simp) ((Below.refl _ _).alloc (by simp) _) 0 (by simp)
    · exact at_new' (cs := [_]) (by simp) (Below.refl _ _) 0 (by simp)
  · rintro x w1 ⟨rfl, hb⟩
    have HB := Lib.hid hb
    clear hb
    go_wp2_with fail
    go_ret
    exact ⟨ret_b rfl, HB.out⟩
end Go.Proofs.YtdlmemalefhgmaaGreatDoor.VT
end
section
namespace Go.Proofs.YtdlmemalefhgmaaGreatDoor.VT
set_option linter.unusedVariables false
set_option linter.unusedSimpArgs false
open Go.RowKit

theorem shaped_good : ∀ v : V, v.shaped → v.good := by
  intro v
  induction v with
  | leaf => exact fun h => h.elim
  | mk k n s la ll lc L fa fl fc fn F e key hk ihL ihF =>
    rintro ⟨ho, hL, hF⟩
    exact ⟨fun h6 => elem_range ((row_lt (inLim_of ho).2.2.1).2 h6), fun i hi => ihL i (hL i hi), fun i hi => ihF i (hF i hi)⟩

theorem In_kind {w : World} {v : V} (h : v.In w) : ∀ k n s la ll lc L fa fl fc fn F e key hk, v = .mk k n s la ll lc L fa fl fc fn F e key hk → 0 ≤ k := by
  rintro k n s la ll lc L fa fl fc fn F e key hk rfl
  exact h.1.1

theorem told_short {w : World} {v : V} (h : v.In w) (hc : v.check = true) : ([] : List UInt8).length + v.told.length ≤ 140737488355328 := by
  obtain ⟨h1, h2, -⟩ := (check_iff v).1 hc
  have := told_length v h1 h.nums
  simp only [List.length_nil]
  omega

theorem WordsAt.below {w w' : World} (h : WordsAt w) (hb : Below w.heap.size w w') : WordsAt w' := by
  intro e he
  have h0 := h e he
  rw [hb.cell (p := ⟨0, e, none⟩) (World.block_lt_of_cell? _ _ h0), h0]

/-- The builder's first bytes: none. -/
theorem isT_new {w W : World} (h : W.heap[w.heap.size]? = some (.cells #[.pointer none, .slice none 0 0] 88 (0, 0))) (hs : w.heap.size + 2 < W.heap.size) : IsT w.heap.size [] W :=
  ⟨.inl ⟨_, h, rfl, .inl ⟨rfl, rfl⟩⟩, hs⟩

theorem tab_below {w w' : World} (h : Lib.TabIs Tryz.prog w "internal/strconv.uint64pow10" .u64 Lib.pow10Tab) (hb : Below w.heap.size w w') : Lib.TabIs Tryz.prog w' "internal/strconv.uint64pow10" .u64 Lib.pow10Tab := by
  have hg : Tryz.prog.globalNamed "internal/strconv.uint64pow10" = some 2 := by kernel_rfl
  have hlt : 2 < w.heap.size := by
    rcases Nat.lt_or_ge 2 w.heap.size with h' | h'
    · exact h'
    · simp [Lib.TabIs, World.var?, hg, Array.getElem?_eq_none h'] at h
  exact var?_below hb hg hlt h

theorem tell_world (w : World) : TE w.heap.size w (((w.alloc (.cells #[.pointer none, .slice none 0 0] 88)).alloc (.cells #[.pointer (some ⟨w.heap.size, 0, none⟩)] 82)).alloc
      (.cells #[.func (Fn.func 28) #[] #[.pointer (some ⟨w.heap.size + 1, 0, none⟩), .pointer (some ⟨w.heap.size + 1 + 1, 0, none⟩)]] 89)) ∧
    IsT w.heap.size [] (((w.alloc (.cells #[.pointer none, .slice none 0 0] 88)).alloc (.cells #[.pointer (some ⟨w.heap.size, 0, none⟩)] 82)).alloc
      (.cells #[.func (Fn.func 28) #[] #[.pointer (some ⟨w.heap.size + 1, 0, none⟩), .pointer (some ⟨w.heap.size + 1 + 1, 0, none⟩)]] 89)) := by
  refine ⟨⟨rfl, ?_, ?_, ?_⟩, isT_new ?_ ?_⟩
  · refine Below.alloc (Below.alloc (Below.alloc (Below.refl _ _) ?_ _) ?_ _) ?_ _ <;> simp <;> omega
  · show (((w.heap.push _).push _).push _)[w.heap.size + 1]? = _
    rw [Array.getElem?_push, if_neg (by simp), Array.getElem?_push, if_pos (by simp)]
  · show (((w.heap.push _).push _).push _)[w.heap.size + 2]? = _
    rw [Array.getElem?_push, if_pos (by simp)]
    rfl
  · show (((w.heap.push _).push _).push _)[w.heap.size]? = _
    simp [Array.getElem?_push]
    omega
  · simp

set_option maxHeartbeats 1000000 in
theorem text_any (v : V) (w : World) (h : v.In w) (hr : RowsAt w) (hwd : WordsAt w) (htb : Lib.TabIs Tryz.prog w "internal/strconv.uint64pow10" .u64 Lib.pow10Tab) :
    Calls Tryz.prog 13 #[v.agg] w fun x w' => x = .returned (.string v.text) ∧ Below w.heap.size w w' := by
  have hal := fun O => below_alloc w O
  have HC := Lib.hid (fun T => check_any v (w.alloc (.cells v.cells.toArray T)) (h.below (hal _)) (hr.below (hal _)))
  by_cases hc : v.check = true
  · have HT := Lib.hid (fun T (w1 W : World) (hb : Below (w.alloc (.cells v.cells.toArray T)).heap.size (w.alloc (.cells v.cells.toArray T)) w1) (hte : TE w1.heap.size w1 W) (ht : IsT w1.heap.size [] W) =>
      have hb1 := (hal (.cells v.cells.toArray T)).trans (hb.mono (hal _).size)
      tell_any v w1 W w1.heap.size w.heap.size 0 [] (h.below hb1) (at_new' rfl (by simpa using hb)) (hwd.below hb1) (tab_below htb hb1) hte ht (told_short h hc) (shaped_good v ((check_iff v).1 hc).1))
    have HS := Lib.hid (fun (B : Nat) (W : World) (ht : IsT B v.told W) => string_any B v.told W ht (told_ne ((check_iff v).1 hc).1 (In_kind h)))
    have HV := Lib.hid (show v.text = ⟨v.told.toArray⟩ by rw [V.text, if_pos hc])
    rw [HV.out]
    rw [hc] at HC
    clear HV
    cases v with
    | leaf => exact h.elim
    | mk k n s la ll lc L fa fl fc fn F e key hk =>
    clear h hr hwd htb hal hc
    revert HC HT HS
    generalize (V.mk k n s la ll lc L fa fl fc fn F e key hk).told = q
    intro HC HT HS
    simp only [V.agg, V.cells] at HC HT ⊢
    go_enter Tryz.func13, Tryz.ntmps13
    go_wp2_with fail
    refine (HC.out _).mono ?_
    rintro x w1 ⟨rfl, hb1⟩
    have HB1 := Lib.hid hb1
    clear hb1
    go_wp2_with fail
    refine (HT.out _ w1 _ HB1.out (tell_world w1).1 (tell_world w1).2).mono ?_
    rintro x w2 ⟨rfl, hw2⟩
    have HW2 := Lib.hid hw2
    have c4 : w2.cell? ⟨w1.heap.size + 1, 0, none⟩ = some (.pointer (some ⟨w1.heap.size, 0, none⟩)) := by
      rw [Lib.cell_of_heap (hw2.2.2.1.trans (tell_world w1).1.t)]; rfl
    clear hw2
    go_wp2_with fail
    refine (HS.out _ _ HW2.out.1).mono ?_
    rintro x w3 ⟨rfl, hw3⟩
    have HW3 := Lib.hid hw3
    clear hw3
    go_wp2_with fail
    go_ret
    refine ⟨rfl, ?_⟩
    have hb1 := HB1.out
    have hs1 := hb1.size
    simp at hs1
    have hA : Below w.heap.size w w1 := (below_alloc w _).trans (hb1.mono (by simp))
    have hB : Below w1.heap.size w1 w2 := (tell_world w1).1.below.trans HW2.out.2.1
    exact (hA.trans (hB.mono (by omega))).trans (HW3.out.mono (by omega))
  · have HV := Lib.hid (show v.text = ⟨#[]⟩ by rw [V.text, if_neg hc])
    rw [HV.out]
    rw [Bool.not_eq_true] at hc
    rw [hc] at HC
    clear HV
    cases v with
    | leaf => exact h.elim
    | mk k n s la ll lc L fa fl fc fn F e key hk =>
    clear h hr hwd htb hal hc
    simp only [V.agg, V.cells] at HC ⊢
    go_enter Tryz.func13, Tryz.ntmps13
    go_wp2_with fail
    refine (HC.out _).mono ?_
    rintro x w1 ⟨rfl, hb1⟩
    have HB1 := Lib.hid hb1
    clear hb1
    go_wp2_with fail
    go_ret
    exact ⟨rfl, (below_alloc w _).trans (HB1.out.mono (by simp))⟩
end Go.Proofs.YtdlmemalefhgmaaGreatDoor.VT
end
