/-
  Plain: being the same is an equivalence; for records that may be it is being the same field by field. No program is imported.
  Conditions: none.
-/
import Derived.Test.YtjbapldlgnlepaaGreatDoorOneQ
namespace Go.Proofs.YtjbapldlgnlepaaGreatDoor

theorem same_symm1 : ∀ v u : V, v.same u = true → u.same v = true := by
  intro v
  induction v with
  | leaf => intro u h; simp [V.same] at h
  | mk k n s la ll lc L fa fl fc fn F e key hk ihL ihF =>
  intro u h
  cases u with
  | leaf => simp [V.same] at h
  | mk k' n' s' la' ll' lc' L' fa' fl' fc' fn' F' e' key' hk' =>
  simp only [V.same, ownB, Bool.and_eq_true, allB_iff, decide_eq_true_iff] at h ⊢
  obtain ⟨⟨rfl, rfl, rfl, rfl, rfl, rfl⟩, rfl, rfl, hL, hF⟩ := h
  exact ⟨⟨rfl, rfl, rfl, rfl, rfl, rfl⟩, rfl, rfl, fun i hi => ihL i _ (hL i hi), fun i hi => ⟨(hF i hi).1.symm, ihF i _ (hF i hi).2⟩⟩

theorem same_symm (v u : V) : u.same v = v.same u := by
  rw [Bool.eq_iff_iff]
  exact ⟨same_symm1 u v, same_symm1 v u⟩

theorem same_trans : ∀ v u t : V, v.same u = true → u.same t = true → v.same t = true := by
  intro v
  induction v with
  | leaf => intro u t h; simp [V.same] at h
  | mk k n s la ll lc L fa fl fc fn F e key hk ihL ihF =>
  intro u t h1 h2
  cases u with
  | leaf => simp [V.same] at h1
  | mk k' n' s' la' ll' lc' L' fa' fl' fc' fn' F' e' key' hk' =>
  cases t with
  | leaf => simp [V.same] at h2
  | mk k2 n2 s2 la2 ll2 lc2 L2 fa2 fl2 fc2 fn2 F2 e2 key2 hk2 =>
  simp only [V.same, ownB, Bool.and_eq_true, allB_iff, decide_eq_true_iff] at h1 h2 ⊢
  obtain ⟨⟨rfl, rfl, rfl, rfl, rfl, rfl⟩, rfl, rfl, hL, hF⟩ := h1
  obtain ⟨⟨rfl, rfl, rfl, rfl, rfl, rfl⟩, rfl, rfl, hL2, hF2⟩ := h2
  exact ⟨⟨rfl, rfl, rfl, rfl, rfl, rfl⟩, rfl, rfl, fun i hi => ihL i _ _ (hL i hi) (hL2 i hi), fun i hi => ⟨(hF i hi).1.trans (hF2 i hi).1, ihF i _ _ (hF i hi).2 (hF2 i hi).2⟩⟩

theorem sameF_symm {fl : Nat} {fn : Nat → ByteArray} {F : Nat → V} {fl' : Nat} {fn' : Nat → ByteArray} {F' : Nat → V} : sameF fl' fn' F' fl fn F = sameF fl fn F fl' fn' F' := by
  rw [Bool.eq_iff_iff]
  simp only [sameF, Bool.and_eq_true, allB_iff, decide_eq_true_iff]
  constructor
  · rintro ⟨rfl, h⟩; exact ⟨rfl, fun i hi => ⟨(h i hi).1.symm, same_symm1 _ _ (h i hi).2⟩⟩
  · rintro ⟨rfl, h⟩; exact ⟨rfl, fun i hi => ⟨(h i hi).1.symm, same_symm1 _ _ (h i hi).2⟩⟩

theorem shallow_symm (v u : V) : u.shallow v = v.shallow u := by
  cases v with
  | leaf => cases u <;> rfl
  | mk k n s la ll lc L fa fl fc fn F e key hk =>
  cases u with
  | leaf => rfl
  | mk k' n' s' la' ll' lc' L' fa' fl' fc' fn' F' e' key' hk' =>
  simp only [V.shallow, sameF_symm (fl := fl) (fl' := fl')]
  cases decide (k = 5) <;> cases decide (k' = 5) <;> rfl

theorem shallow_no {v u : V} (h : ¬ (v.kind = 5 ∧ u.kind = 5)) : v.shallow u = false := by
  cases v with
  | leaf => rfl
  | mk k n s la ll lc L fa fl fc fn F e key hk =>
  cases u with
  | leaf => rfl
  | mk k' n' s' la' ll' lc' L' fa' fl' fc' fn' F' e' key' hk' =>
  simp only [V.kind] at h
  simp only [V.shallow]
  by_cases h1 : k = 5
  · rw [decide_eq_false (p := k' = 5) (fun h2 => h ⟨h1, h2⟩)]; simp
  · rw [decide_eq_false h1]; rfl

theorem shallow_same {v u : V} (h1 : v.kind = 5) (h2 : u.kind = 5) (hv : v.check = true) (hu : u.check = true) : v.shallow u = v.same u := by
  obtain ⟨v1, -⟩ := (check_iff v).1 hv
  obtain ⟨u1, -⟩ := (check_iff u).1 hu
  cases v with
  | leaf => exact v1.elim
  | mk k n s la ll lc L fa fl fc fn F e key hk =>
  cases u with
  | leaf => exact u1.elim
  | mk k' n' s' la' ll' lc' L' fa' fl' fc' fn' F' e' key' hk' =>
  simp only [V.kind] at h1 h2
  subst h1 h2
  obtain ⟨h8, rn, rs, rl, rf, re, rk, r2, r6⟩ := row_of v1.1
  obtain ⟨-, rn', rs', rl', rf', re', rk', r2', r6'⟩ := row_of u1.1
  obtain ⟨rfl, rfl⟩ := re.resolve_left (by decide)
  obtain ⟨rfl, rfl⟩ := re'.resolve_left (by decide)
  obtain rfl := rk.resolve_left (by decide)
  obtain rfl := rk'.resolve_left (by decide)
  obtain rfl := rn.resolve_left (by decide)
  obtain rfl := rn'.resolve_left (by decide)
  obtain rfl := rs.resolve_left (by decide)
  obtain rfl := rs'.resolve_left (by decide)
  obtain rfl := rl.resolve_left (by decide)
  obtain rfl := rl'.resolve_left (by decide)
  simp [V.shallow, V.same, ownB, sameF, allB]
end Go.Proofs.YtjbapldlgnlepaaGreatDoor
