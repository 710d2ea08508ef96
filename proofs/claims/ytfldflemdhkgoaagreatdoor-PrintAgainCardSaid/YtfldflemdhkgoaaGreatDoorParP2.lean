/-
  Walks: line.
  Conditions: the reader lies as 'RD' says; its words are at most 65536; one has been taken.
-/
import Derived.Test.YtfldflemdhkgoaaGreatDoorParX
namespace Go.Proofs.YtfldflemdhkgoaaGreatDoor
set_option linter.unusedVariables false
set_option linter.unusedSimpArgs false
open Go.RowKit G

set_option maxRecDepth 100000 in
set_option maxHeartbeats 4000000 in
theorem line_any {W1 : World} {wv : Value} {ws : List LX.LW} {c : Str} {t d : Nat} {W : World} (h : RD W1 wv ws c t d W) (hn : ws.length ≤ 65536) (ht : 1 ≤ t) (ht2 : t ≤ 65537) (j : Nat) (hj : j = min t ws.length - 1) (hjl : j < ws.length) :
    Calls Tryz.prog 19 #[rp W1] W fun e w' => e = .returned (.int .i64 (ws[j].line : Nat)) ∧ ∃ m, w' = W.drewN m := by
  obtain ⟨ao, cap, rfl, hc1, hc2⟩ := h.slice
  unfold maxLen at hc2
  obtain ⟨⟨c0, c1, c2, c3⟩, f0, f1, f2, f3⟩ := h.cells
  obtain ⟨b, o, rfl, x0, x1, x2, x3⟩ := h.word j hjl
  obtain ⟨ln, hln⟩ : ∃ ln, ws[j].line = ln := ⟨_, rfl⟩
  rw [hln] at x3 ⊢
  clear x0 x1 x2 hln h
  have q4 : j < cap := by omega
  have q2 : (0 : Int) ≤ (j : Int) := by omega
  have q3 : (j : Int) < (ws.length : Int) := by omega
  have hmin : min (t : Int) (ws.length : Int) = (j : Int) + 1 := by omega
  clear hj
  have q5 : IntKind.i64.wrap (j : Int) = (j : Int) := IntWalk.i64_in _ (by omega)
  have q6 : IntKind.i64.wrap ((j : Int) + 1 - 1) = (j : Int) := by rw [Int.add_sub_cancel]; exact q5
  go_enter Tryz.func19, Tryz.ntmps19
  go_wp2
  go_region
  go_wp2
  go_ret
  exact ⟨rfl, 1, rfl⟩
end Go.Proofs.YtfldflemdhkgoaaGreatDoor
