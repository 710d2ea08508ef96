/-
  Plain: the parts of a value. No program is imported.
  Conditions: none.
-/
import Derived.Test.YtglhbggihdfieaaDoorShape
import Derived.Test.YtglhbggihdfieaaDoorTwinP
namespace Go.Proofs.YtglhbggihdfieaaDoor

/-- What is known of a part. -/
def Pt (v p : V) : Prop := (v.check = true → p.check = true) ∧ p.size ≤ v.size

theorem Pt.refl (v : V) : Pt v v := ⟨id, Nat.le_refl _⟩

theorem Pt.trans {v p q : V} (h : Pt v p) (h' : Pt p q) : Pt v q := ⟨fun c => h'.1 (h.1 c), Nat.le_trans h'.2 h.2⟩

theorem pt_list {k n : Int} {s : ByteArray} {la : Option Addr} {ll lc : Nat} {L : Nat → V} {fa : Option Addr} {fl fc : Nat} {fn : Nat → ByteArray} {F : Nat → V} {e : Int} {key : ByteArray} {hk : Bool} {i : Nat} (hi : i < ll) :
    Pt (.mk k n s la ll lc L fa fl fc fn F e key hk) (L i) := by
  have h1 : (L i).size ≤ sumTo ll (fun i => (L i).size) := le_sumTo (f := fun i => (L i).size) hi
  have h2 : (L i).depth ≤ maxTo ll (fun i => (L i).depth) := (maxTo_le (f := fun i => (L i).depth)).1 (Nat.le_refl _) i hi
  refine ⟨fun c => ?_, ?_⟩
  · obtain ⟨c1, c2, c3⟩ := (check_iff _).1 c
    simp only [V.size, V.depth] at c2 c3
    exact (check_iff _).2 ⟨c1.2.1 i hi, by omega, by omega⟩
  · simp only [V.size]; omega

theorem pt_field {k n : Int} {s : ByteArray} {la : Option Addr} {ll lc : Nat} {L : Nat → V} {fa : Option Addr} {fl fc : Nat} {fn : Nat → ByteArray} {F : Nat → V} {e : Int} {key : ByteArray} {hk : Bool} {i : Nat} (hi : i < fl) :
    Pt (.mk k n s la ll lc L fa fl fc fn F e key hk) (F i) := by
  have h1 : (F i).size ≤ sumTo fl (fun i => (F i).size) := le_sumTo (f := fun i => (F i).size) hi
  have h2 : (F i).depth ≤ maxTo fl (fun i => (F i).depth) := (maxTo_le (f := fun i => (F i).depth)).1 (Nat.le_refl _) i hi
  refine ⟨fun c => ?_, ?_⟩
  · obtain ⟨c1, c2, c3⟩ := (check_iff _).1 c
    simp only [V.size, V.depth] at c2 c3
    exact (check_iff _).2 ⟨c1.2.2 i hi, by omega, by omega⟩
  · simp only [V.size]; omega

/-- A value that lies in memory has one part at least; each list is no longer than there are parts. -/
theorem size_pos {w : World} : ∀ {v : V}, v.In w → 1 ≤ v.size := by
  intro v h
  cases v with
  | leaf => exact h.elim
  | mk => simp only [V.size]; omega

theorem le_sumTo_all {n : Nat} {f : Nat → Nat} (h : ∀ i, i < n → 1 ≤ f i) : n ≤ sumTo n f := by
  induction n with
  | zero => exact Nat.zero_le _
  | succ n ih =>
    have := ih (fun i hi => h i (by omega))
    have := h n (by omega)
    rw [sumTo]; omega

theorem lens_le {w : World} {k n : Int} {s : ByteArray} {la : Option Addr} {ll lc : Nat} {L : Nat → V} {fa : Option Addr} {fl fc : Nat} {fn : Nat → ByteArray} {F : Nat → V} {e : Int} {key : ByteArray} {hk : Bool}
    (h : (V.mk k n s la ll lc L fa fl fc fn F e key hk).In w) : ll + fl + 1 ≤ (V.mk k n s la ll lc L fa fl fc fn F e key hk).size := by
  obtain ⟨-, -, -, -, -, -, -, hL, hF⟩ := h
  have h1 := le_sumTo_all (n := ll) (f := fun i => (L i).size) (fun i hi => size_pos (hL i hi).2)
  have h2 := le_sumTo_all (n := fl) (f := fun i => (F i).size) (fun i hi => size_pos (hF i hi).2.2)
  simp only [V.size]
  omega

/-- Two lists, one behind the other. -/
def catV (n : Nat) (P Q : Nat → V) : Nat → V := fun i => if i < n then P i else Q (i - n)
theorem flatV_cat (n : Nat) (P Q : Nat → V) : ∀ m, flatV (n + m) (catV n P Q) = flatV n P ++ flatV m Q
  | 0 => by
    rw [Nat.add_zero, flatV, List.append_nil]
    exact flatV_ext fun i hi => if_pos hi
  | m + 1 => by
    rw [← Nat.add_assoc, flatV, flatV_cat n P Q m, flatV, List.append_assoc]
    congr 2
    rw [catV, if_neg (by omega), Nat.add_sub_cancel_left]
end Go.Proofs.YtglhbggihdfieaaDoor
