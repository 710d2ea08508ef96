/-
  Plain: what check comes to of a list of so many values, of lists so deep within one another, of texts so long. No program is imported.
  Conditions: none.
-/
import Derived.Test.YtjbapldlgnlepaaGreatDoorAliveP
namespace Go.Proofs.YtjbapldlgnlepaaGreatDoor

/-- A list of m zero values. -/
def lz (la : Option Addr) (m lc : Nat) : V := .mk 4 0 ⟨#[]⟩ la m lc (fun _ => vz 0 0 ⟨#[]⟩) none 0 0 (fun _ => ⟨#[]⟩) (fun _ => .leaf) 0 ⟨#[]⟩ false
/-- A list of one value. -/
def l1 (la : Option Addr) (lc : Nat) (x : V) : V := .mk 4 0 ⟨#[]⟩ la 1 lc (fun _ => x) none 0 0 (fun _ => ⟨#[]⟩) (fun _ => .leaf) 0 ⟨#[]⟩ false
/-- A fragment with a key. -/
def kx (s : ByteArray) : V := .mk 6 0 ⟨#[]⟩ none 0 0 (fun _ => .leaf) none 0 0 (fun _ => ⟨#[]⟩) (fun _ => .leaf) 4 s true

theorem e0T : ((⟨#[]⟩ : ByteArray) = ByteArray.empty) = True := eq_true rfl

theorem sumTo_const (c : Nat) : ∀ n, sumTo n (fun _ => c) = n * c := by
  intro n
  induction n with
  | zero => simp [sumTo]
  | succ n ih => rw [sumTo, ih, Nat.succ_mul]

theorem maxTo_const (c : Nat) (n : Nat) : maxTo n (fun _ => c) ≤ c := by
  rw [maxTo_le]; exact fun _ _ => Nat.le_refl _

theorem list_shape (ll : Nat) : shapeB 4 0 ⟨#[]⟩ ll 0 (fun _ => ⟨#[]⟩) 0 ⟨#[]⟩ false = true := by
  simp [shapeB, inRowB, inLimB, risingB, allB, emptyB, e0T, ByteArray.size]

theorem vz0_shaped : (vz 0 0 ⟨#[]⟩).shaped := ⟨by simp [shapeB, inRowB, inLimB, risingB, allB, emptyB, e0T, ByteArray.size], fun i hi => absurd hi (Nat.not_lt_zero _), fun i hi => absurd hi (Nat.not_lt_zero _)⟩

theorem lz_check (la : Option Addr) (m lc : Nat) : (lz la m lc).check = decide (m + 1 ≤ 4096) := by
  have h1 : (lz la m lc).shaped := ⟨list_shape m, fun i _ => vz0_shaped, fun i hi => absurd hi (Nat.not_lt_zero _)⟩
  have h2 : (lz la m lc).size = m + 1 := by
    show 1 + sumTo m (fun _ => 1) + 0 = m + 1
    rw [sumTo_const]; omega
  have h3 : (lz la m lc).depth ≤ 2 := by
    show max (maxTo m (fun _ => 1)) 0 + 1 ≤ 2
    have := maxTo_const 1 m
    omega
  rw [Bool.eq_iff_iff, check_iff, decide_eq_true_iff]
  constructor
  · rintro ⟨_, h, _⟩; omega
  · exact fun h => ⟨h1, by omega, by omega⟩

/-- So deep within one another, one in each. -/
def Deep1 (x : V) (k : Nat) : Prop := x.shaped ∧ x.size = k + 1 ∧ x.depth = k + 1

theorem deep1_zero : Deep1 (vz 0 0 ⟨#[]⟩) 0 := ⟨vz0_shaped, rfl, rfl⟩

theorem deep1_succ {x : V} {k : Nat} (la : Option Addr) (lc : Nat) (h : Deep1 x k) : Deep1 (l1 la lc x) (k + 1) := by
  obtain ⟨h1, h2, h3⟩ := h
  refine ⟨⟨list_shape 1, fun i _ => h1, fun i hi => absurd hi (Nat.not_lt_zero _)⟩, ?_, ?_⟩
  · show 1 + (0 + x.size) + 0 = _
    omega
  · show max (max 0 x.depth) 0 + 1 = _
    omega

theorem deep1_check {x : V} {k : Nat} (hk : k ≤ 255) (h : Deep1 x k) : x.check = decide (k + 1 ≤ 64) := by
  obtain ⟨h1, h2, h3⟩ := h
  rw [Bool.eq_iff_iff, check_iff, decide_eq_true_iff, h2, h3]
  constructor
  · rintro ⟨_, _, h⟩; omega
  · exact fun h => ⟨h1, by omega, by omega⟩

theorem tx_check (s : ByteArray) : (vz 3 0 s).check = decide (s.size ≤ 4096) := by
  rw [Bool.eq_iff_iff, check_iff, decide_eq_true_iff]
  constructor
  · rintro ⟨⟨h, -⟩, -⟩
    have := (inLim_of h).1
    simpa using this
  · intro h
    refine ⟨⟨?_, fun i hi => absurd hi (Nat.not_lt_zero _), fun i hi => absurd hi (Nat.not_lt_zero _)⟩, by show 1 ≤ 4096; omega, by show 1 ≤ 64; omega⟩
    simp [shapeB, inRowB, inLimB, risingB, allB, emptyB, e0T, h, show (ByteArray.size ⟨#[]⟩) = 0 from rfl]

theorem kx_check (s : ByteArray) : (kx s).check = decide (s.size ≤ 4096) := by
  rw [Bool.eq_iff_iff, check_iff, decide_eq_true_iff]
  constructor
  · rintro ⟨⟨h, -⟩, -⟩
    have := (inLim_of h).2.1
    simpa using this
  · intro h
    refine ⟨⟨?_, fun i hi => absurd hi (Nat.not_lt_zero _), fun i hi => absurd hi (Nat.not_lt_zero _)⟩, by show 1 ≤ 4096; omega, by show 1 ≤ 64; omega⟩
    simp [shapeB, inRowB, isElemB, justB, inLimB, risingB, allB, emptyB, e0T, h, show (ByteArray.size ⟨#[]⟩) = 0 from rfl]
end Go.Proofs.YtjbapldlgnlepaaGreatDoor
