/-
  Walks: the function that (*reader).text eats with.
  Conditions: the builder lies in block B, the bool in the block behind it.
-/
import Derived.Test.YtedmmgfnplbkjaaGreatDoorLexI
namespace Go.Proofs.YtedmmgfnplbkjaaGreatDoor
open Go.RowKit
def tyes (b : Bool) (c : UInt8) : Bool := if b then stOk c else c.toNat == 92 || (c.toNat != 34 && c.toNat != 10)
def tnb (b : Bool) (c : UInt8) : Bool := !b && c.toNat == 92
def tout (b : Bool) (c : UInt8) : List UInt8 := if b then [stB c] else if c.toNat = 92 then [] else [c]
def stT : Bool → List UInt8 → Nat → Bool × List UInt8
  | b, _, 0 => (b, [])
  | b, [], _ + 1 => (b, [])
  | b, c :: t, n + 1 => ((stT (tnb b c) t n).1, tout b c ++ (stT (tnb b c) t n).2)
theorem stT_zero (b : Bool) (l : List UInt8) : stT b l 0 = (b, []) := by cases l <;> rfl
theorem stT_snoc : ∀ (l : List UInt8) (b : Bool) (n : Nat) (h : n < l.length), stT b l (n + 1) = (tnb (stT b l n).1 l[n], (stT b l n).2 ++ tout (stT b l n).1 l[n])
  | [], b, n, h => by simp at h
  | c :: t, b, 0, h => by simp [stT, stT_zero]
  | c :: t, b, n + 1, h => by
    have hl : n < t.length := by simpa using h
    have ih := stT_snoc t (tnb b c) n hl
    rw [stT, ih, stT]
    simp
theorem stT_len : ∀ (l : List UInt8) (b : Bool) (n : Nat), (stT b l n).2.length ≤ n
  | l, b, 0 => by rw [stT_zero]; simp
  | [], b, n + 1 => by simp [stT]
  | c :: t, b, n + 1 => by
    have := stT_len t (tnb b c) n
    have h : (tout b c).length ≤ 1 := by unfold tout; split <;> (try split) <;> simp
    rw [stT]; simp; omega
theorem txt_le : ∀ (l : List UInt8) (b : Bool), (LX.txt b l).1 ≤ l.length := fun l b => (LX.txt_nl l [] b).2.1
theorem txt_run : ∀ (l : List UInt8) (b : Bool), (stT b l (LX.txt b l).1).2 = (LX.txt b l).2 ∧ ∀ (n : Nat) (h : n < l.length), (n < (LX.txt b l).1 → tyes (stT b l n).1 l[n] = true) ∧ (n = (LX.txt b l).1 → tyes (stT b l n).1 l[n] = false)
  | [], b => ⟨by cases b <;> rfl, fun n h => by simp at h⟩
  | c :: t, true => by
    cases hs : LX.stands c with
    | none =>
      have e : LX.txt true (c :: t) = (0, []) := by simp only [LX.txt, hs]
      rw [e]
      refine ⟨rfl, fun n h => ⟨fun hn => by omega, fun hn => ?_⟩⟩
      subst hn
      simp [stT, tyes, stOk, hs]
    | some d =>
      have e : LX.txt true (c :: t) = ((LX.txt false t).1 + 1, d :: (LX.txt false t).2) := by simp only [LX.txt, hs]
      have ih := txt_run t false
      have hb : tnb true c = false := rfl
      have ho : tout true c = [d] := by simp [tout, stB, hs]
      rw [e]
      refine ⟨by simp only [stT, hb, ho, ih.1]; rfl, fun n h => ?_⟩
      cases n with
      | zero => exact ⟨fun _ => by simp [stT, tyes, stOk, hs], fun hn => by simp at hn⟩
      | succ n =>
        have := ih.2 n (by simpa using h)
        refine ⟨fun hn => ?_, fun hn => ?_⟩
        · have := this.1 (by simp at hn; exact hn); simpa [stT, hb] using this
        · have := this.2 (by simp at hn; exact hn); simpa [stT, hb] using this
  | c :: t, false => by
    by_cases h1 : c.toNat = 92
    · have e : LX.txt false (c :: t) = ((LX.txt true t).1 + 1, (LX.txt true t).2) := by simp only [LX.txt, h1, if_true]
      have ih := txt_run t true
      have hb : tnb false c = true := by simp [tnb, h1]
      have ho : tout false c = [] := by simp [tout, h1]
      rw [e]
      refine ⟨by simp only [stT, hb, ho, ih.1]; rfl, fun n h => ?_⟩
      cases n with
      | zero => exact ⟨fun _ => by simp [stT, tyes, h1], fun hn => by simp at hn⟩
      | succ n =>
        have := ih.2 n (by simpa using h)
        refine ⟨fun hn => ?_, fun hn => ?_⟩
        · have := this.1 (by simp at hn; exact hn); simpa [stT, hb] using this
        · have := this.2 (by simp at hn; exact hn); simpa [stT, hb] using this
    by_cases h2 : c.toNat = 34 ∨ c.toNat = 10
    · have e : LX.txt false (c :: t) = (0, []) := by simp only [LX.txt, h1, h2, if_true, if_false]
      rw [e]
      refine ⟨rfl, fun n h => ⟨fun hn => by omega, fun hn => ?_⟩⟩
      subst hn
      simp [stT, tyes, h1]
      omega
    · have e : LX.txt false (c :: t) = ((LX.txt false t).1 + 1, c :: (LX.txt false t).2) := by simp only [LX.txt, h1, h2, if_false]
      have ih := txt_run t false
      have hb : tnb false c = false := by simp [tnb, h1]
      have ho : tout false c = [c] := by simp [tout, h1]
      rw [e]
      refine ⟨by simp only [stT, hb, ho, ih.1]; rfl, fun n h => ?_⟩
      cases n with
      | zero => exact ⟨fun _ => by simp [stT, tyes]; omega, fun hn => by simp at hn⟩
      | succ n =>
        have := ih.2 n (by simpa using h)
        refine ⟨fun hn => ?_, fun hn => ?_⟩
        · have := this.1 (by simp at hn; exact hn); simpa [stT, hb] using this
        · have := this.2 (by simp at hn; exact hn); simpa [stT, hb] using this
def TxAt (B : Nat) (b : Bool) (acc : List UInt8) (w : World) : Prop := IsT B acc w ∧ BoolAt (B + 1) b w
theorem IsT.set1 {B : Nat} {l : List UInt8} {w : World} (h : IsT B l w) (v : Value) : IsT B l (w.setCell ⟨B + 1, 0, none⟩ v) := by
  have key : ∀ p bs, BAt B p bs w → BAt B p bs (w.setCell ⟨B + 1, 0, none⟩ v) := by
    rintro p bs ⟨u, hb, ho⟩
    refine ⟨u, ?_, ownsRow_setCell_below ho (by show B + 1 < B + 2; omega) v⟩
    rw [Below.heap_setCell _ _ _ _ (by show B ≠ B + 1; omega)]; exact hb
  refine ⟨?_, by have := h.2; simpa using this⟩
  rcases h.1 with h | h
  · exact .inl (key _ _ h)
  · exact .inr (key _ _ h)
theorem TxAt.put {B : Nat} {a : Bool} {acc : List UInt8} {w : World} (h : TxAt B a acc w) (b : Bool) : TxAt B b acc (w.setCell ⟨B + 1, 0, none⟩ (.bool b)) := ⟨h.1.set1 _, h.2.put⟩
theorem TxAt.wrote {B : Nat} {b : Bool} {acc l : List UInt8} {w w' : World} (h : TxAt B b acc w) (k : Wrote B acc l w w') : TxAt B b (acc ++ l) w' := ⟨k.1, by unfold BoolAt; rw [k.2.2]; exact h.2⟩
def Post1 (B : Nat) (b : Bool) (acc : List UInt8) (c : UInt8) (w : World) (e : Ending) (w' : World) : Prop :=
  e = .returned (.bool (tyes b c)) ∧ TxAt B (tnb b c) (acc ++ if tyes b c then tout b c else []) w' ∧ Below B w w'
set_option maxRecDepth 100000 in
set_option maxHeartbeats 4000000 in
theorem text1_any (B : Nat) (b : Bool) (acc : List UInt8) (c : UInt8) (w : World) (h : TxAt B b acc w) (hlen : acc.length + 1 ≤ 140737488355328) :
    Calls Tryz.prog 99 #[.int .u8 c.toNat, .pointer (some ⟨B + 1, 0, none⟩), .pointer (some ⟨B, 0, none⟩)] w (Post1 B b acc c w) := by
  have c0 := h.2.c0
  have f0 := h.2.f0
  have h0 : (0 : Int) ≤ (c.toNat : Int) := by omega
  have h1 : (c.toNat : Int) ≤ 255 := by have := c.toNat_lt; omega
  have HH := Lib.hid h
  have HW := Lib.hid (fun W (d : UInt8) b' (h : TxAt B b' acc W) => writeB_any B acc d W h.1 hlen)
  clear h hlen
  cases b
  · by_cases h92 : c.toNat = 92
    · have t1 : ((c.toNat : Int) == 92) = true := by rw [beq_iff_eq]; omega
      have HF : Hid (tyes false c = true ∧ tnb false c = true ∧ tout false c = []) := ⟨by simp [tyes, h92], by simp [tnb, h92], by simp [tout, h92]⟩
      clear h92
      go_enter Tryz.func99, Tryz.ntmps99
      go_wp2
      go_ret
      refine ⟨ret_bool HF.out.1.symm, ?_, (Below.refl _ _).setCell (p := ⟨B + 1, 0, none⟩) (by show B ≤ B + 1; omega) _⟩
      rw [HF.out.1, HF.out.2.1, HF.out.2.2]
      simpa using HH.out.put true
    · have t1 : ((c.toNat : Int) == 92) = false := by rw [beq_eq_false_iff_ne]; omega
      by_cases hq : c.toNat = 34 ∨ c.toNat = 10
      · have HF : Hid (tyes false c = false ∧ tnb false c = false) := ⟨by simp [tyes, h92]; omega, by simp [tnb, h92]⟩
        by_cases h34 : c.toNat = 34
        · have t2 : ((c.toNat : Int) != 34) = false := by rw [bne_eq_false_iff_eq]; omega
          clear h92 hq h34
          go_enter Tryz.func99, Tryz.ntmps99
          go_wp2
          go_ret
          refine ⟨ret_bool HF.out.1.symm, ?_, Below.refl _ _⟩
          rw [HF.out.1, HF.out.2]
          simpa using HH.out
        · have t2 : ((c.toNat : Int) != 34) = true := by rw [bne_iff_ne]; omega
          have t3 : ((c.toNat : Int) != 10) = false := by rw [bne_eq_false_iff_eq]; omega
          clear h92 hq h34
          go_enter Tryz.func99, Tryz.ntmps99
          go_wp2
          go_ret
          refine ⟨ret_bool HF.out.1.symm, ?_, Below.refl _ _⟩
          rw [HF.out.1, HF.out.2]
          simpa using HH.out
      · have HF : Hid (tyes false c = true ∧ tnb false c = false ∧ tout false c = [c]) := ⟨by simp [tyes, h92]; omega, by simp [tnb, h92], by simp [tout, h92]⟩
        have t2 : ((c.toNat : Int) != 34) = true := by rw [bne_iff_ne]; omega
        have t3 : ((c.toNat : Int) != 10) = true := by rw [bne_iff_ne]; omega
        clear h92 hq
        go_enter Tryz.func99, Tryz.ntmps99
        go_wp2_with (go_at_call 101; (with_reducible refine (HW.out _ _ _ HH.out).mono ?_); rintro e w1 ⟨rfl, hw1⟩; have HW1 := Lib.hid hw1; clear hw1)
        go_ret
        refine ⟨ret_bool HF.out.1.symm, ?_, HW1.out.2.1⟩
        rw [HF.out.1, HF.out.2.1, HF.out.2.2]
        simpa using HH.out.wrote HW1.out
  · have HST := Lib.hid (standsFor_any c w)
    have HB : Hid (tnb true c = false ∧ tyes true c = stOk c ∧ tout true c = [stB c]) := ⟨rfl, rfl, rfl⟩
    obtain ⟨d, hd⟩ : ∃ d, stB c = d := ⟨_, rfl⟩
    obtain ⟨ok, hok⟩ : ∃ ok, stOk c = ok := ⟨_, rfl⟩
    rw [hd, hok] at HST HB
    clear hd hok
    have HP := Lib.hid (HH.out.put false)
    have HBel : Hid (Below B w (w.setCell ⟨B + 1, 0, none⟩ (.bool false))) := (Below.refl _ _).setCell (p := ⟨B + 1, 0, none⟩) (by show B ≤ B + 1; omega) _
    obtain ⟨x1, t1⟩ : ∃ x, ((c.toNat : Int) == 92) = x := ⟨_, rfl⟩
    obtain ⟨x2, t2⟩ : ∃ x, ((c.toNat : Int) != 34) = x := ⟨_, rfl⟩
    obtain ⟨x3, t3⟩ : ∃ x, ((c.toNat : Int) != 10) = x := ⟨_, rfl⟩
    cases ok
    · go_enter Tryz.func99, Tryz.ntmps99
      go_wp2_with (go_at_call 100; (with_reducible refine HST.out.mono ?_); rintro e w1 ⟨rfl, rfl⟩)
      all_goals
        go_ret
        refine ⟨ret_bool HB.out.2.1.symm, ?_, HBel.out⟩
        rw [HB.out.1, HB.out.2.1]
        simpa using HP.out
    · go_enter Tryz.func99, Tryz.ntmps99
      go_wp2_with (first
        | (go_at_call 100; (with_reducible refine HST.out.mono ?_); rintro e w1 ⟨rfl, rfl⟩)
        | (go_at_call 101; (with_reducible refine (HW.out _ _ _ HP.out).mono ?_); rintro e w1 ⟨rfl, hw1⟩; have HW1 := Lib.hid hw1; clear hw1))
      all_goals
        go_ret
        refine ⟨ret_bool HB.out.2.1.symm, ?_, HBel.out.trans HW1.out.2.1⟩
        rw [HB.out.1, HB.out.2.1, HB.out.2.2]
        simpa using HP.out.wrote HW1.out
end Go.Proofs.YtedmmgfnplbkjaaGreatDoor
