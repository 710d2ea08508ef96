/-
  Walks: value.Check answers 'V.check'; old memory is as it was.
  Conditions: the value lies in memory; the table of the kinds' rows holds what the program's text lays in it.
-/
import Derived.Test.YtajmdhcknmmbbaaGreatDoorMayA
import Derived.Test.YtajmdhcknmmbbaaGreatDoorMayB
import Derived.Laws.EntriesVeiled
namespace Go.Proofs.YtajmdhcknmmbbaaGreatDoor
open Go.RowKit

theorem may_any : ∀ v : V, MayOk v := by
  intro v
  induction v with
  | leaf => exact fun w0 w b o deep left h => h.elim
  | mk k n s la ll lc L fa fl fc fn F e key hk ihL ihF =>
  intro w0 w b o deep left h ha hr hb hc hleft hdeep
  have hL := h.2.2.2.2.2.2.2.1
  have hF := h.2.2.2.2.2.2.2.2
  by_cases zl : ll = 0 <;> by_cases zf : fl = 0
  · subst zl zf
    exact may_zz w0 w b o deep left k n s lc L fc fn F e key hk la fa ihL ihF h ha hr hb hc hleft hdeep
  · subst zl
    obtain ⟨⟨fb, fo, rfl, -⟩, -⟩ := hF 0 (by omega)
    exact may_zn w0 w b o deep left k n s lc L fc fn F e key hk la fl fb fo ihL ihF h ha hr hb hc hleft hdeep
  · subst zf
    obtain ⟨⟨lb, lo, rfl, -⟩, -⟩ := hL 0 (by omega)
    exact may_nz w0 w b o deep left k n s lc L fc fn F e key hk ll lb lo fa ihL ihF h ha hr hb hc hleft hdeep
  · obtain ⟨⟨fb, fo, rfl, -⟩, -⟩ := hF 0 (by omega)
    obtain ⟨⟨lb, lo, rfl, -⟩, -⟩ := hL 0 (by omega)
    exact may_nn w0 w b o deep left k n s lc L fc fn F e key hk ll lb lo fl fb fo ihL ihF h ha hr hb hc hleft hdeep

/-- The cells of a new block. -/
theorem at_new' {w w' : World} {B : Nat} {cs : List Value} {T : TypeId} (hB : B = w.heap.size) (hb : Below (B + 1) (w.alloc (.cells cs.toArray T)) w') : At w' B 0 cs := by
  subst hB
  intro i hi
  rw [hb.cell (p := ⟨w.heap.size, 0 + i, none⟩) (by simp)]
  simp [hi]

theorem may_from (v : V) (w : World) (O : Obj) (h : v.In w) (hr : RowsAt w) (hO : At (w.alloc O) w.heap.size 0 v.cells) (W : World) (hw : Below (w.heap.size + 1) (w.alloc O) W) (hc : CS (w.heap.size + 1) 4096 W) :
    Calls Tryz.prog 203 #[.pointer (some ⟨w.heap.size, 0, none⟩), .int .i64 1, .pointer (some ⟨w.heap.size + 1, 0, none⟩), .pointer (some ⟨w.heap.size + 1 + 1, 0, none⟩)] W fun x w' => x = .returned (.bool v.check) ∧ Below w.heap.size w w' := by
  have hsz : (w.alloc O).heap.size = w.heap.size + 1 := by simp
  have H := may_any v (w.alloc O) W w.heap.size 0 1 4096 (h.below (below_alloc w O)) hO (hr.below (below_alloc w O)) (by rw [hsz]; exact hw) (by rw [hsz]; exact hc) (by omega) (by omega)
  rw [hsz] at H
  exact H.mono fun x w' ⟨h1, h2, _⟩ => ⟨h1, (below_alloc w O).trans (h2.mono (by rw [hsz]; omega))⟩

set_option maxHeartbeats 1000000 in
theorem check_any (v : V) (w : World) (h : v.In w) (hr : RowsAt w) :
    Calls Tryz.prog 183 #[v.agg] w fun x w' => x = .returned (.bool v.check) ∧ Below w.heap.size w w' := by
  cases v with
  | leaf => exact h.elim
  | mk k n s la ll lc L fa fl fc fn F e key hk =>
  have H := Lib.hid (fun T => may_from (V.mk k n s la ll lc L fa fl fc fn F e key hk) w (.cells (V.mk k n s la ll lc L fa fl fc fn F e key hk).cells.toArray T) h hr (at_new' rfl (Below.refl _ _)))
  generalize (V.mk k n s la ll lc L fa fl fc fn F e key hk).check = q at H ⊢
  clear h hr
  have hmf : ∀ (fn : Fn) (first cap : Array Value) (w : World), (Instr.makeFunc fn first cap).run Tryz.prog w = .ok (.func fn first cap) w := fun _ _ _ _ => rfl
  simp only [V.agg, V.cells] at H ⊢
  go_enter Tryz.func183, Tryz.ntmps183
  go_wp2_with fail
  refine (H.out 66 _ ?_ ?_).mono ?_
  · refine Below.alloc (Below.alloc (Below.refl _ _) ?_ _) ?_ _ <;> simp
  · refine ⟨by simp, ?_, by rw [frozen?_alloc_cells]; exact World.frozen?_alloc_at _ _ _ _ (by simp), ?_⟩
    · exact at_new' (cs := [_]) (by simp) ((Below.refl _ _).alloc (by simp) _) 0 (by simp)
    · exact at_new' (cs := [_]) (by simp) (Below.refl _ _) 0 (by simp)
  · rintro x w1 ⟨rfl, hb⟩
    have HB := Lib.hid hb
    clear hb
    go_wp2_with fail
    go_ret
    exact ⟨ret_b rfl, HB.out⟩
end Go.Proofs.YtajmdhcknmmbbaaGreatDoor
