/-
  Walks: value.Same and value.Shallow answer 'V.same', 'V.shallow'; old memory is as it was.
  Conditions: the values lie in memory.
-/
import Derived.Test.YtglhbggihdfieaaDoorSame1
import Derived.Laws.EntriesVeiled
namespace Go.Proofs.YtglhbggihdfieaaDoor
open Go.RowKit

/-- The cells of a new block. -/
theorem at_new {w w' : World} {B : Nat} {cs : List Value} {T : TypeId} (hB : B = w.heap.size) (hb : Below (B + 1) (w.alloc (.cells cs.toArray T)) w') : At w' B 0 cs := by
  subst hB
  intro i hi
  rw [hb.cell (p := ⟨w.heap.size, 0 + i, none⟩) (by simp)]
  simp [hi]

set_option maxHeartbeats 1000000 in
theorem same_any (v u : V) (w : World) (h : v.In w) (h' : u.In w) :
    Calls Tryd.prog 21 #[v.agg, u.agg] w fun x w' => x = .returned (.bool (v.same u)) ∧ Below w.heap.size w w' := by
  have H := Lib.hid (fun W (hw : Below w.heap.size w W) b o b' o' c => same1_any v u W b o b' o' c (h.below hw) (h'.below hw))
  cases v with
  | leaf => exact h.elim
  | mk k n s la ll lc L fa fl fc fn F e key hk =>
  cases u with
  | leaf => exact h'.elim
  | mk k' n' s' la' ll' lc' L' fa' fl' fc' fn' F' e' key' hk' =>
  clear h h'
  have hmf : ∀ (fn : Fn) (first cap : Array Value) (w : World), (Instr.makeFunc fn first cap).run Tryd.prog w = .ok (.func fn first cap) w := fun _ _ _ _ => rfl
  simp only [V.agg, V.cells]
  go_enter Tryd.func21, Tryd.ntmps21
  go_wp2_with fail
  refine (H.out _ ?_ _ _ _ _ _ ?_ ?_ ?_).mono ?_
  · exact (((Below.refl _ _).alloc (Nat.le_refl _) _).alloc (by simp) _).alloc (by simp; omega) _
  · exact at_new rfl (((Below.refl _ _).alloc (by simp) _).alloc (by simp) _)
  · exact at_new (by simp) ((Below.refl _ _).alloc (by simp) _)
  · exact at_new (cs := [_]) (by simp) (Below.refl _ _) 0 (by simp)
  · rintro x w1 ⟨rfl, m, rfl⟩
    go_wp2_with fail
    go_ret
    exact ⟨ret_b rfl, below_drewN ((((Below.refl _ _).alloc (Nat.le_refl _) _).alloc (by simp) _).alloc (by simp; omega) _) _⟩

/-- The record that value.Shallow makes of a value's fields. -/
def V.only : V → V
  | .leaf => .leaf
  | .mk _ _ _ _ _ _ _ fa fl fc fn F _ _ _ => .mk 0 0 ⟨#[]⟩ none 0 0 (fun _ => .leaf) fa fl fc fn F 0 ⟨#[]⟩ false

theorem only_in {w : World} : ∀ {v : V}, v.In w → v.only.In w
  | .leaf, h => h
  | .mk _ _ _ _ _ _ _ _ _ _ _ _ _ _ _, ⟨_, _, _, _, _, _, h7, _, hF⟩ => ⟨by omega, by omega, Nat.zero_le _, by omega, Nat.zero_le _, by simp [maxLen], h7, fun i hi => absurd hi (Nat.not_lt_zero _), hF⟩

theorem only_same (k n : Int) (s : ByteArray) (la : Option Addr) (ll lc : Nat) (L : Nat → V) (fa : Option Addr) (fl fc : Nat) (fn : Nat → ByteArray) (F : Nat → V) (e : Int) (key : ByteArray) (hk : Bool)
    (k' n' : Int) (s' : ByteArray) (la' : Option Addr) (ll' lc' : Nat) (L' : Nat → V) (fa' : Option Addr) (fl' fc' : Nat) (fn' : Nat → ByteArray) (F' : Nat → V) (e' : Int) (key' : ByteArray) (hk' : Bool) :
    (V.mk k n s la ll lc L fa fl fc fn F e key hk).only.same (V.mk k' n' s' la' ll' lc' L' fa' fl' fc' fn' F' e' key' hk').only = sameF fl fn F fl' fn' F' := by
  simp [V.only, V.same, ownB, sameF, allB]

set_option maxHeartbeats 1000000 in
theorem shallow_any (v u : V) (w : World) (h : v.In w) (h' : u.In w) :
    Calls Tryd.prog 22 #[v.agg, u.agg] w fun x w' => x = .returned (.bool (v.shallow u)) ∧ Below w.heap.size w w' := by
  cases v with
  | leaf => exact h.elim
  | mk k n s la ll lc L fa fl fc fn F e key hk =>
  cases u with
  | leaf => exact h'.elim
  | mk k' n' s' la' ll' lc' L' fa' fl' fc' fn' F' e' key' hk' =>
  have H := Lib.hid (fun W (hw : Below w.heap.size w W) => same_any _ _ W (only_in (h.below hw)) (only_in (h'.below hw)))
  rw [only_same] at H
  clear h h'
  by_cases e5 : k = 5
  · subst e5
    by_cases e5' : k' = 5
    · subst e5'
      have R := Lib.hid (show sameF fl fn F fl' fn' F' = (V.mk 5 n s la ll lc L fa fl fc fn F e key hk).shallow (.mk 5 n' s' la' ll' lc' L' fa' fl' fc' fn' F' e' key' hk') by simp [V.shallow])
      simp only [V.agg, V.cells]
      go_enter Tryd.func22, Tryd.ntmps22
      go_wp2_with fail
      refine (H.out _ ((below_alloc _ _).alloc (by simp) _)).mono ?_
      rintro x w1 ⟨rfl, hb⟩
      have HB := Lib.hid (((below_alloc _ _).alloc (by simp) _).trans (hb.mono (by simp; omega)))
      clear hb
      go_wp2_with fail
      go_ret
      exact ⟨ret_b R.out, HB.out⟩
    · have R := Lib.hid (show Ending.returned (.bool false) = .returned (.bool ((V.mk 5 n s la ll lc L fa fl fc fn F e key hk).shallow (.mk k' n' s' la' ll' lc' L' fa' fl' fc' fn' F' e' key' hk'))) by simp [V.shallow, e5'])
      have q : (k' == 5) = false := by simp [e5']
      simp only [V.agg, V.cells]
      clear H
      go_enter Tryd.func22, Tryd.ntmps22
      go_wp2_with fail
      go_ret
      exact ⟨R.out, (below_alloc _ _).alloc (by simp) _⟩
  · have R := Lib.hid (show Ending.returned (.bool false) = .returned (.bool ((V.mk k n s la ll lc L fa fl fc fn F e key hk).shallow (.mk k' n' s' la' ll' lc' L' fa' fl' fc' fn' F' e' key' hk'))) by simp [V.shallow, e5])
    have q : (k == 5) = false := by simp [e5]
    simp only [V.agg, V.cells]
    clear H
    go_enter Tryd.func22, Tryd.ntmps22
    go_wp2_with fail
    go_ret
    exact ⟨R.out, (below_alloc _ _).alloc (by simp) _⟩

end Go.Proofs.YtglhbggihdfieaaDoor
