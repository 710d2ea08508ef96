/-
  Walks: value.Same answers 'V.same'; old memory is as it was.
  Conditions: the values lie in memory.
-/
import Derived.Test.YtjbapldlgnlepaaGreatDoorSame1
import Derived.Laws.EntriesVeiled
namespace Go.Proofs.YtjbapldlgnlepaaGreatDoor
open Go.RowKit

/-- The cells of a new block. -/
theorem at_new {w w' : World} {B : Nat} {cs : List Value} {T : TypeId} (hB : B = w.heap.size) (hb : Below (B + 1) (w.alloc (.cells cs.toArray T)) w') : At w' B 0 cs := by
  subst hB
  intro i hi
  rw [hb.cell (p := ⟨w.heap.size, 0 + i, none⟩) (by simp)]
  simp [hi]

set_option maxHeartbeats 1000000 in
theorem same_any (v u : V) (w : World) (h : v.In w) (h' : u.In w) :
    Calls Tryz.prog 136 #[v.agg, u.agg] w fun x w' => x = .returned (.bool (v.same u)) ∧ Below w.heap.size w w' := by
  have H := Lib.hid (fun W (hw : Below w.heap.size w W) b o b' o' c => same1_any v u W b o b' o' c (h.below hw) (h'.below hw))
  cases v with
  | leaf => exact h.elim
  | mk k n s la ll lc L fa fl fc fn F e key hk =>
  cases u with
  | leaf => exact h'.elim
  | mk k' n' s' la' ll' lc' L' fa' fl' fc' fn' F' e' key' hk' =>
  clear h h'
  have hmf : ∀ (fn : Fn) (first cap : Array Value) (w : World), (Instr.makeFunc fn first cap).run Tryz.prog w = .ok (.func fn first cap) w := fun _ _ _ _ => rfl
  simp only [V.agg, V.cells]
  go_enter Tryz.func136, Tryz.ntmps136
  go_wp2_with fail
  refine (H.out _ ?_ _ _ _ _ _ ?_ ?_ ?_).mono ?_
  · exact (((Below.refl _ _).alloc (Nat.le_refl _) _).alloc (by simp) _).alloc (by simp; omega) _
  · exact at_new rfl (((Below.refl _ _).alloc (by simp) _).alloc (by simp) _)
  · exact at_new (by simp) ((Below.refl _ _).alloc (by simp) _)
  · exact at_new (cs := [_]) (by simp) (Below.refl _ _) 0 (by simp)
  · rintro x w1 ⟨rfl, m, rfl⟩
    go_wp2_with fail
    go_ret
    exact ⟨ret_b rfl, below_drewN ((((Below.refl _ _).alloc (Nat.le_refl _) _).alloc (by simp) _).alloc (by simp; omega) _) _⟩
end Go.Proofs.YtjbapldlgnlepaaGreatDoor
