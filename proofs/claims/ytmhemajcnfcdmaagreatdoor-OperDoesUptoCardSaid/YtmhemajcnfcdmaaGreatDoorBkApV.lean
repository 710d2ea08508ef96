/-
  Walks: Apart answers yes for a book whose lists share no block (Value, Field); the other kinds hold none.
  Conditions: the book, its lists, and what they hold lie in blocks behind a world; no two share a block.
-/
import Derived.Test.YtmhemajcnfcdmaaGreatDoorBkValue
import Derived.Test.YtmhemajcnfcdmaaGreatDoorBkField
namespace Go.Proofs.YtmhemajcnfcdmaaGreatDoor.Bk
set_option linter.unusedVariables false
set_option linter.unusedSimpArgs false
open Go.RowKit
theorem fillInt_nil {B : Nat} {w : World} (h : w.cell? ⟨B, 1, none⟩ = some (.slice none 0 0)) : Calls Tryz.prog 28 #[.pointer (some ⟨B, 0, none⟩)] w fun e w' => e = .returned (.tuple #[]) ∧ w = w' := by
  go_enter Tryz.func28, Tryz.ntmps28
  go_wp2_with fail
  go_loopw [2] (fun i wr => i = .int .i64 0 ∧ w = wr) (fun _ _ => 0)
  case atStart => exact ⟨rfl, rfl⟩
  case round =>
    obtain ⟨rfl, rfl⟩ := hrel
    go_wp2_with fail
    go_end0
    exact ⟨rfl, rfl⟩
theorem growInt_nil {B : Nat} {w : World} (h : w.cell? ⟨B, 1, none⟩ = some (.slice none 0 0)) : Calls Tryz.prog 44 #[.pointer (some ⟨B, 0, none⟩)] w fun e w' => e = .returned (.tuple #[]) ∧ w = w' := by
  go_enter Tryz.func44, Tryz.ntmps44
  go_wp2_with fail
  go_loopw [2] (fun i wr => i = .int .i64 0 ∧ w = wr) (fun _ _ => 0)
  case atStart => exact ⟨rfl, rfl⟩
  case round =>
    obtain ⟨rfl, rfl⟩ := hrel
    go_wp2_with fail
    go_end0
    exact ⟨rfl, rfl⟩
theorem lookInt_nil {B : Nat} {w : World} (h : w.cell? ⟨B, 1, none⟩ = some (.slice none 0 0)) : Calls Tryz.prog 60 #[.pointer (some ⟨B, 0, none⟩)] w fun e w' => e = .returned (.bool true) ∧ w = w' := by
  go_enter Tryz.func60, Tryz.ntmps60
  go_wp2_with fail
  go_loopw [3] (fun i wr => i = .int .i64 0 ∧ w = wr) (fun _ _ => 0)
  case atStart => exact ⟨rfl, rfl⟩
  case round =>
    obtain ⟨rfl, rfl⟩ := hrel
    go_wp2_with fail
    go_ret
    exact ⟨rfl, rfl⟩
theorem fillText_nil {B : Nat} {w : World} (h : w.cell? ⟨B, 2, none⟩ = some (.slice none 0 0)) : Calls Tryz.prog 29 #[.pointer (some ⟨B, 0, none⟩)] w fun e w' => e = .returned (.tuple #[]) ∧ w = w' := by
  go_enter Tryz.func29, Tryz.ntmps29
  go_wp2_with fail
  go_loopw [2] (fun i wr => i = .int .i64 0 ∧ w = wr) (fun _ _ => 0)
  case atStart => exact ⟨rfl, rfl⟩
  case round =>
    obtain ⟨rfl, rfl⟩ := hrel
    go_wp2_with fail
    go_end0
    exact ⟨rfl, rfl⟩
theorem growText_nil {B : Nat} {w : World} (h : w.cell? ⟨B, 2, none⟩ = some (.slice none 0 0)) : Calls Tryz.prog 45 #[.pointer (some ⟨B, 0, none⟩)] w fun e w' => e = .returned (.tuple #[]) ∧ w = w' := by
  go_enter Tryz.func45, Tryz.ntmps45
  go_wp2_with fail
  go_loopw [2] (fun i wr => i = .int .i64 0 ∧ w = wr) (fun _ _ => 0)
  case atStart => exact ⟨rfl, rfl⟩
  case round =>
    obtain ⟨rfl, rfl⟩ := hrel
    go_wp2_with fail
    go_end0
    exact ⟨rfl, rfl⟩
theorem lookText_nil {B : Nat} {w : World} (h : w.cell? ⟨B, 2, none⟩ = some (.slice none 0 0)) : Calls Tryz.prog 61 #[.pointer (some ⟨B, 0, none⟩)] w fun e w' => e = .returned (.bool true) ∧ w = w' := by
  go_enter Tryz.func61, Tryz.ntmps61
  go_wp2_with fail
  go_loopw [3] (fun i wr => i = .int .i64 0 ∧ w = wr) (fun _ _ => 0)
  case atStart => exact ⟨rfl, rfl⟩
  case round =>
    obtain ⟨rfl, rfl⟩ := hrel
    go_wp2_with fail
    go_ret
    exact ⟨rfl, rfl⟩
theorem fillValue_nil {B : Nat} {w : World} (h : w.cell? ⟨B, 3, none⟩ = some (.slice none 0 0)) : Calls Tryz.prog 30 #[.pointer (some ⟨B, 0, none⟩)] w fun e w' => e = .returned (.tuple #[]) ∧ w = w' := by
  go_enter Tryz.func30, Tryz.ntmps30
  go_wp2_with fail
  go_loopw [2] (fun i wr => i = .int .i64 0 ∧ w = wr) (fun _ _ => 0)
  case atStart => exact ⟨rfl, rfl⟩
  case round =>
    obtain ⟨rfl, rfl⟩ := hrel
    go_wp2_with fail
    go_end0
    exact ⟨rfl, rfl⟩
theorem growValue_nil {B : Nat} {w : World} (h : w.cell? ⟨B, 3, none⟩ = some (.slice none 0 0)) : Calls Tryz.prog 46 #[.pointer (some ⟨B, 0, none⟩)] w fun e w' => e = .returned (.tuple #[]) ∧ w = w' := by
  go_enter Tryz.func46, Tryz.ntmps46
  go_wp2_with fail
  go_loopw [2] (fun i wr => i = .int .i64 0 ∧ w = wr) (fun _ _ => 0)
  case atStart => exact ⟨rfl, rfl⟩
  case round =>
    obtain ⟨rfl, rfl⟩ := hrel
    go_wp2_with fail
    go_end0
    exact ⟨rfl, rfl⟩
theorem lookValue_nil {B : Nat} {w : World} (h : w.cell? ⟨B, 3, none⟩ = some (.slice none 0 0)) : Calls Tryz.prog 62 #[.pointer (some ⟨B, 0, none⟩)] w fun e w' => e = .returned (.bool true) ∧ w = w' := by
  go_enter Tryz.func62, Tryz.ntmps62
  go_wp2_with fail
  go_loopw [3] (fun i wr => i = .int .i64 0 ∧ w = wr) (fun _ _ => 0)
  case atStart => exact ⟨rfl, rfl⟩
  case round =>
    obtain ⟨rfl, rfl⟩ := hrel
    go_wp2_with fail
    go_ret
    exact ⟨rfl, rfl⟩
theorem fillField_nil {B : Nat} {w : World} (h : w.cell? ⟨B, 4, none⟩ = some (.slice none 0 0)) : Calls Tryz.prog 31 #[.pointer (some ⟨B, 0, none⟩)] w fun e w' => e = .returned (.tuple #[]) ∧ w = w' := by
  go_enter Tryz.func31, Tryz.ntmps31
  go_wp2_with fail
  go_loopw [2] (fun i wr => i = .int .i64 0 ∧ w = wr) (fun _ _ => 0)
  case atStart => exact ⟨rfl, rfl⟩
  case round =>
    obtain ⟨rfl, rfl⟩ := hrel
    go_wp2_with fail
    go_end0
    exact ⟨rfl, rfl⟩
theorem growField_nil {B : Nat} {w : World} (h : w.cell? ⟨B, 4, none⟩ = some (.slice none 0 0)) : Calls Tryz.prog 47 #[.pointer (some ⟨B, 0, none⟩)] w fun e w' => e = .returned (.tuple #[]) ∧ w = w' := by
  go_enter Tryz.func47, Tryz.ntmps47
  go_wp2_with fail
  go_loopw [2] (fun i wr => i = .int .i64 0 ∧ w = wr) (fun _ _ => 0)
  case atStart => exact ⟨rfl, rfl⟩
  case round =>
    obtain ⟨rfl, rfl⟩ := hrel
    go_wp2_with fail
    go_end0
    exact ⟨rfl, rfl⟩
theorem lookField_nil {B : Nat} {w : World} (h : w.cell? ⟨B, 4, none⟩ = some (.slice none 0 0)) : Calls Tryz.prog 63 #[.pointer (some ⟨B, 0, none⟩)] w fun e w' => e = .returned (.bool true) ∧ w = w' := by
  go_enter Tryz.func63, Tryz.ntmps63
  go_wp2_with fail
  go_loopw [3] (fun i wr => i = .int .i64 0 ∧ w = wr) (fun _ _ => 0)
  case atStart => exact ⟨rfl, rfl⟩
  case round =>
    obtain ⟨rfl, rfl⟩ := hrel
    go_wp2_with fail
    go_ret
    exact ⟨rfl, rfl⟩
theorem fillWord_nil {B : Nat} {w : World} (h : w.cell? ⟨B, 5, none⟩ = some (.slice none 0 0)) : Calls Tryz.prog 32 #[.pointer (some ⟨B, 0, none⟩)] w fun e w' => e = .returned (.tuple #[]) ∧ w = w' := by
  go_enter Tryz.func32, Tryz.ntmps32
  go_wp2_with fail
  go_loopw [2] (fun i wr => i = .int .i64 0 ∧ w = wr) (fun _ _ => 0)
  case atStart => exact ⟨rfl, rfl⟩
  case round =>
    obtain ⟨rfl, rfl⟩ := hrel
    go_wp2_with fail
    go_end0
    exact ⟨rfl, rfl⟩
theorem growWord_nil {B : Nat} {w : World} (h : w.cell? ⟨B, 5, none⟩ = some (.slice none 0 0)) : Calls Tryz.prog 48 #[.pointer (some ⟨B, 0, none⟩)] w fun e w' => e = .returned (.tuple #[]) ∧ w = w' := by
  go_enter Tryz.func48, Tryz.ntmps48
  go_wp2_with fail
  go_loopw [2] (fun i wr => i = .int .i64 0 ∧ w = wr) (fun _ _ => 0)
  case atStart => exact ⟨rfl, rfl⟩
  case round =>
    obtain ⟨rfl, rfl⟩ := hrel
    go_wp2_with fail
    go_end0
    exact ⟨rfl, rfl⟩
theorem lookWord_nil {B : Nat} {w : World} (h : w.cell? ⟨B, 5, none⟩ = some (.slice none 0 0)) : Calls Tryz.prog 64 #[.pointer (some ⟨B, 0, none⟩)] w fun e w' => e = .returned (.bool true) ∧ w = w' := by
  go_enter Tryz.func64, Tryz.ntmps64
  go_wp2_with fail
  go_loopw [3] (fun i wr => i = .int .i64 0 ∧ w = wr) (fun _ _ => 0)
  case atStart => exact ⟨rfl, rfl⟩
  case round =>
    obtain ⟨rfl, rfl⟩ := hrel
    go_wp2_with fail
    go_ret
    exact ⟨rfl, rfl⟩
theorem fillChild_nil {B : Nat} {w : World} (h : w.cell? ⟨B, 6, none⟩ = some (.slice none 0 0)) : Calls Tryz.prog 33 #[.pointer (some ⟨B, 0, none⟩)] w fun e w' => e = .returned (.tuple #[]) ∧ w = w' := by
  go_enter Tryz.func33, Tryz.ntmps33
  go_wp2_with fail
  go_loopw [2] (fun i wr => i = .int .i64 0 ∧ w = wr) (fun _ _ => 0)
  case atStart => exact ⟨rfl, rfl⟩
  case round =>
    obtain ⟨rfl, rfl⟩ := hrel
    go_wp2_with fail
    go_end0
    exact ⟨rfl, rfl⟩
theorem growChild_nil {B : Nat} {w : World} (h : w.cell? ⟨B, 6, none⟩ = some (.slice none 0 0)) : Calls Tryz.prog 49 #[.pointer (some ⟨B, 0, none⟩)] w fun e w' => e = .returned (.tuple #[]) ∧ w = w' := by
  go_enter Tryz.func49, Tryz.ntmps49
  go_wp2_with fail
  go_loopw [2] (fun i wr => i = .int .i64 0 ∧ w = wr) (fun _ _ => 0)
  case atStart => exact ⟨rfl, rfl⟩
  case round =>
    obtain ⟨rfl, rfl⟩ := hrel
    go_wp2_with fail
    go_end0
    exact ⟨rfl, rfl⟩
theorem lookChild_nil {B : Nat} {w : World} (h : w.cell? ⟨B, 6, none⟩ = some (.slice none 0 0)) : Calls Tryz.prog 65 #[.pointer (some ⟨B, 0, none⟩)] w fun e w' => e = .returned (.bool true) ∧ w = w' := by
  go_enter Tryz.func65, Tryz.ntmps65
  go_wp2_with fail
  go_loopw [3] (fun i wr => i = .int .i64 0 ∧ w = wr) (fun _ _ => 0)
  case atStart => exact ⟨rfl, rfl⟩
  case round =>
    obtain ⟨rfl, rfl⟩ := hrel
    go_wp2_with fail
    go_ret
    exact ⟨rfl, rfl⟩
theorem fillCell_nil {B : Nat} {w : World} (h : w.cell? ⟨B, 7, none⟩ = some (.slice none 0 0)) : Calls Tryz.prog 34 #[.pointer (some ⟨B, 0, none⟩)] w fun e w' => e = .returned (.tuple #[]) ∧ w = w' := by
  go_enter Tryz.func34, Tryz.ntmps34
  go_wp2_with fail
  go_loopw [2] (fun i wr => i = .int .i64 0 ∧ w = wr) (fun _ _ => 0)
  case atStart => exact ⟨rfl, rfl⟩
  case round =>
    obtain ⟨rfl, rfl⟩ := hrel
    go_wp2_with fail
    go_end0
    exact ⟨rfl, rfl⟩
theorem growCell_nil {B : Nat} {w : World} (h : w.cell? ⟨B, 7, none⟩ = some (.slice none 0 0)) : Calls Tryz.prog 50 #[.pointer (some ⟨B, 0, none⟩)] w fun e w' => e = .returned (.tuple #[]) ∧ w = w' := by
  go_enter Tryz.func50, Tryz.ntmps50
  go_wp2_with fail
  go_loopw [2] (fun i wr => i = .int .i64 0 ∧ w = wr) (fun _ _ => 0)
  case atStart => exact ⟨rfl, rfl⟩
  case round =>
    obtain ⟨rfl, rfl⟩ := hrel
    go_wp2_with fail
    go_end0
    exact ⟨rfl, rfl⟩
theorem lookCell_nil {B : Nat} {w : World} (h : w.cell? ⟨B, 7, none⟩ = some (.slice none 0 0)) : Calls Tryz.prog 66 #[.pointer (some ⟨B, 0, none⟩)] w fun e w' => e = .returned (.bool true) ∧ w = w' := by
  go_enter Tryz.func66, Tryz.ntmps66
  go_wp2_with fail
  go_loopw [3] (fun i wr => i = .int .i64 0 ∧ w = wr) (fun _ _ => 0)
  case atStart => exact ⟨rfl, rfl⟩
  case round =>
    obtain ⟨rfl, rfl⟩ := hrel
    go_wp2_with fail
    go_ret
    exact ⟨rfl, rfl⟩
theorem fillInst_nil {B : Nat} {w : World} (h : w.cell? ⟨B, 8, none⟩ = some (.slice none 0 0)) : Calls Tryz.prog 35 #[.pointer (some ⟨B, 0, none⟩)] w fun e w' => e = .returned (.tuple #[]) ∧ w = w' := by
  go_enter Tryz.func35, Tryz.ntmps35
  go_wp2_with fail
  go_loopw [2] (fun i wr => i = .int .i64 0 ∧ w = wr) (fun _ _ => 0)
  case atStart => exact ⟨rfl, rfl⟩
  case round =>
    obtain ⟨rfl, rfl⟩ := hrel
    go_wp2_with fail
    go_end0
    exact ⟨rfl, rfl⟩
theorem growInst_nil {B : Nat} {w : World} (h : w.cell? ⟨B, 8, none⟩ = some (.slice none 0 0)) : Calls Tryz.prog 51 #[.pointer (some ⟨B, 0, none⟩)] w fun e w' => e = .returned (.tuple #[]) ∧ w = w' := by
  go_enter Tryz.func51, Tryz.ntmps51
  go_wp2_with fail
  go_loopw [2] (fun i wr => i = .int .i64 0 ∧ w = wr) (fun _ _ => 0)
  case atStart => exact ⟨rfl, rfl⟩
  case round =>
    obtain ⟨rfl, rfl⟩ := hrel
    go_wp2_with fail
    go_end0
    exact ⟨rfl, rfl⟩
theorem lookInst_nil {B : Nat} {w : World} (h : w.cell? ⟨B, 8, none⟩ = some (.slice none 0 0)) : Calls Tryz.prog 67 #[.pointer (some ⟨B, 0, none⟩)] w fun e w' => e = .returned (.bool true) ∧ w = w' := by
  go_enter Tryz.func67, Tryz.ntmps67
  go_wp2_with fail
  go_loopw [3] (fun i wr => i = .int .i64 0 ∧ w = wr) (fun _ _ => 0)
  case atStart => exact ⟨rfl, rfl⟩
  case round =>
    obtain ⟨rfl, rfl⟩ := hrel
    go_wp2_with fail
    go_ret
    exact ⟨rfl, rfl⟩
theorem fillAct_nil {B : Nat} {w : World} (h : w.cell? ⟨B, 9, none⟩ = some (.slice none 0 0)) : Calls Tryz.prog 36 #[.pointer (some ⟨B, 0, none⟩)] w fun e w' => e = .returned (.tuple #[]) ∧ w = w' := by
  go_enter Tryz.func36, Tryz.ntmps36
  go_wp2_with fail
  go_loopw [2] (fun i wr => i = .int .i64 0 ∧ w = wr) (fun _ _ => 0)
  case atStart => exact ⟨rfl, rfl⟩
  case round =>
    obtain ⟨rfl, rfl⟩ := hrel
    go_wp2_with fail
    go_end0
    exact ⟨rfl, rfl⟩
theorem growAct_nil {B : Nat} {w : World} (h : w.cell? ⟨B, 9, none⟩ = some (.slice none 0 0)) : Calls Tryz.prog 52 #[.pointer (some ⟨B, 0, none⟩)] w fun e w' => e = .returned (.tuple #[]) ∧ w = w' := by
  go_enter Tryz.func52, Tryz.ntmps52
  go_wp2_with fail
  go_loopw [2] (fun i wr => i = .int .i64 0 ∧ w = wr) (fun _ _ => 0)
  case atStart => exact ⟨rfl, rfl⟩
  case round =>
    obtain ⟨rfl, rfl⟩ := hrel
    go_wp2_with fail
    go_end0
    exact ⟨rfl, rfl⟩
theorem lookAct_nil {B : Nat} {w : World} (h : w.cell? ⟨B, 9, none⟩ = some (.slice none 0 0)) : Calls Tryz.prog 68 #[.pointer (some ⟨B, 0, none⟩)] w fun e w' => e = .returned (.bool true) ∧ w = w' := by
  go_enter Tryz.func68, Tryz.ntmps68
  go_wp2_with fail
  go_loopw [3] (fun i wr => i = .int .i64 0 ∧ w = wr) (fun _ _ => 0)
  case atStart => exact ⟨rfl, rfl⟩
  case round =>
    obtain ⟨rfl, rfl⟩ := hrel
    go_wp2_with fail
    go_ret
    exact ⟨rfl, rfl⟩
theorem fillExpr_nil {B : Nat} {w : World} (h : w.cell? ⟨B, 10, none⟩ = some (.slice none 0 0)) : Calls Tryz.prog 37 #[.pointer (some ⟨B, 0, none⟩)] w fun e w' => e = .returned (.tuple #[]) ∧ w = w' := by
  go_enter Tryz.func37, Tryz.ntmps37
  go_wp2_with fail
  go_loopw [2] (fun i wr => i = .int .i64 0 ∧ w = wr) (fun _ _ => 0)
  case atStart => exact ⟨rfl, rfl⟩
  case round =>
    obtain ⟨rfl, rfl⟩ := hrel
    go_wp2_with fail
    go_end0
    exact ⟨rfl, rfl⟩
theorem growExpr_nil {B : Nat} {w : World} (h : w.cell? ⟨B, 10, none⟩ = some (.slice none 0 0)) : Calls Tryz.prog 53 #[.pointer (some ⟨B, 0, none⟩)] w fun e w' => e = .returned (.tuple #[]) ∧ w = w' := by
  go_enter Tryz.func53, Tryz.ntmps53
  go_wp2_with fail
  go_loopw [2] (fun i wr => i = .int .i64 0 ∧ w = wr) (fun _ _ => 0)
  case atStart => exact ⟨rfl, rfl⟩
  case round =>
    obtain ⟨rfl, rfl⟩ := hrel
    go_wp2_with fail
    go_end0
    exact ⟨rfl, rfl⟩
theorem lookExpr_nil {B : Nat} {w : World} (h : w.cell? ⟨B, 10, none⟩ = some (.slice none 0 0)) : Calls Tryz.prog 69 #[.pointer (some ⟨B, 0, none⟩)] w fun e w' => e = .returned (.bool true) ∧ w = w' := by
  go_enter Tryz.func69, Tryz.ntmps69
  go_wp2_with fail
  go_loopw [3] (fun i wr => i = .int .i64 0 ∧ w = wr) (fun _ _ => 0)
  case atStart => exact ⟨rfl, rfl⟩
  case round =>
    obtain ⟨rfl, rfl⟩ := hrel
    go_wp2_with fail
    go_ret
    exact ⟨rfl, rfl⟩
theorem fillStmt_nil {B : Nat} {w : World} (h : w.cell? ⟨B, 11, none⟩ = some (.slice none 0 0)) : Calls Tryz.prog 38 #[.pointer (some ⟨B, 0, none⟩)] w fun e w' => e = .returned (.tuple #[]) ∧ w = w' := by
  go_enter Tryz.func38, Tryz.ntmps38
  go_wp2_with fail
  go_loopw [2] (fun i wr => i = .int .i64 0 ∧ w = wr) (fun _ _ => 0)
  case atStart => exact ⟨rfl, rfl⟩
  case round =>
    obtain ⟨rfl, rfl⟩ := hrel
    go_wp2_with fail
    go_end0
    exact ⟨rfl, rfl⟩
theorem growStmt_nil {B : Nat} {w : World} (h : w.cell? ⟨B, 11, none⟩ = some (.slice none 0 0)) : Calls Tryz.prog 54 #[.pointer (some ⟨B, 0, none⟩)] w fun e w' => e = .returned (.tuple #[]) ∧ w = w' := by
  go_enter Tryz.func54, Tryz.ntmps54
  go_wp2_with fail
  go_loopw [2] (fun i wr => i = .int .i64 0 ∧ w = wr) (fun _ _ => 0)
  case atStart => exact ⟨rfl, rfl⟩
  case round =>
    obtain ⟨rfl, rfl⟩ := hrel
    go_wp2_with fail
    go_end0
    exact ⟨rfl, rfl⟩
theorem lookStmt_nil {B : Nat} {w : World} (h : w.cell? ⟨B, 11, none⟩ = some (.slice none 0 0)) : Calls Tryz.prog 70 #[.pointer (some ⟨B, 0, none⟩)] w fun e w' => e = .returned (.bool true) ∧ w = w' := by
  go_enter Tryz.func70, Tryz.ntmps70
  go_wp2_with fail
  go_loopw [3] (fun i wr => i = .int .i64 0 ∧ w = wr) (fun _ _ => 0)
  case atStart => exact ⟨rfl, rfl⟩
  case round =>
    obtain ⟨rfl, rfl⟩ := hrel
    go_wp2_with fail
    go_ret
    exact ⟨rfl, rfl⟩
theorem fillComponent_nil {B : Nat} {w : World} (h : w.cell? ⟨B, 12, none⟩ = some (.slice none 0 0)) : Calls Tryz.prog 39 #[.pointer (some ⟨B, 0, none⟩)] w fun e w' => e = .returned (.tuple #[]) ∧ w = w' := by
  go_enter Tryz.func39, Tryz.ntmps39
  go_wp2_with fail
  go_loopw [2] (fun i wr => i = .int .i64 0 ∧ w = wr) (fun _ _ => 0)
  case atStart => exact ⟨rfl, rfl⟩
  case round =>
    obtain ⟨rfl, rfl⟩ := hrel
    go_wp2_with fail
    go_end0
    exact ⟨rfl, rfl⟩
theorem growComponent_nil {B : Nat} {w : World} (h : w.cell? ⟨B, 12, none⟩ = some (.slice none 0 0)) : Calls Tryz.prog 55 #[.pointer (some ⟨B, 0, none⟩)] w fun e w' => e = .returned (.tuple #[]) ∧ w = w' := by
  go_enter Tryz.func55, Tryz.ntmps55
  go_wp2_with fail
  go_loopw [2] (fun i wr => i = .int .i64 0 ∧ w = wr) (fun _ _ => 0)
  case atStart => exact ⟨rfl, rfl⟩
  case round =>
    obtain ⟨rfl, rfl⟩ := hrel
    go_wp2_with fail
    go_end0
    exact ⟨rfl, rfl⟩
theorem lookComponent_nil {B : Nat} {w : World} (h : w.cell? ⟨B, 12, none⟩ = some (.slice none 0 0)) : Calls Tryz.prog 71 #[.pointer (some ⟨B, 0, none⟩)] w fun e w' => e = .returned (.bool true) ∧ w = w' := by
  go_enter Tryz.func71, Tryz.ntmps71
  go_wp2_with fail
  go_loopw [3] (fun i wr => i = .int .i64 0 ∧ w = wr) (fun _ _ => 0)
  case atStart => exact ⟨rfl, rfl⟩
  case round =>
    obtain ⟨rfl, rfl⟩ := hrel
    go_wp2_with fail
    go_ret
    exact ⟨rfl, rfl⟩
theorem fillNode_nil {B : Nat} {w : World} (h : w.cell? ⟨B, 13, none⟩ = some (.slice none 0 0)) : Calls Tryz.prog 40 #[.pointer (some ⟨B, 0, none⟩)] w fun e w' => e = .returned (.tuple #[]) ∧ w = w' := by
  go_enter Tryz.func40, Tryz.ntmps40
  go_wp2_with fail
  go_loopw [2] (fun i wr => i = .int .i64 0 ∧ w = wr) (fun _ _ => 0)
  case atStart => exact ⟨rfl, rfl⟩
  case round =>
    obtain ⟨rfl, rfl⟩ := hrel
    go_wp2_with fail
    go_end0
    exact ⟨rfl, rfl⟩
theorem growNode_nil {B : Nat} {w : World} (h : w.cell? ⟨B, 13, none⟩ = some (.slice none 0 0)) : Calls Tryz.prog 56 #[.pointer (some ⟨B, 0, none⟩)] w fun e w' => e = .returned (.tuple #[]) ∧ w = w' := by
  go_enter Tryz.func56, Tryz.ntmps56
  go_wp2_with fail
  go_loopw [2] (fun i wr => i = .int .i64 0 ∧ w = wr) (fun _ _ => 0)
  case atStart => exact ⟨rfl, rfl⟩
  case round =>
    obtain ⟨rfl, rfl⟩ := hrel
    go_wp2_with fail
    go_end0
    exact ⟨rfl, rfl⟩
theorem lookNode_nil {B : Nat} {w : World} (h : w.cell? ⟨B, 13, none⟩ = some (.slice none 0 0)) : Calls Tryz.prog 72 #[.pointer (some ⟨B, 0, none⟩)] w fun e w' => e = .returned (.bool true) ∧ w = w' := by
  go_enter Tryz.func72, Tryz.ntmps72
  go_wp2_with fail
  go_loopw [3] (fun i wr => i = .int .i64 0 ∧ w = wr) (fun _ _ => 0)
  case atStart => exact ⟨rfl, rfl⟩
  case round =>
    obtain ⟨rfl, rfl⟩ := hrel
    go_wp2_with fail
    go_ret
    exact ⟨rfl, rfl⟩
theorem fillOp_nil {B : Nat} {w : World} (h : w.cell? ⟨B, 14, none⟩ = some (.slice none 0 0)) : Calls Tryz.prog 41 #[.pointer (some ⟨B, 0, none⟩)] w fun e w' => e = .returned (.tuple #[]) ∧ w = w' := by
  go_enter Tryz.func41, Tryz.ntmps41
  go_wp2_with fail
  go_loopw [2] (fun i wr => i = .int .i64 0 ∧ w = wr) (fun _ _ => 0)
  case atStart => exact ⟨rfl, rfl⟩
  case round =>
    obtain ⟨rfl, rfl⟩ := hrel
    go_wp2_with fail
    go_end0
    exact ⟨rfl, rfl⟩
theorem growOp_nil {B : Nat} {w : World} (h : w.cell? ⟨B, 14, none⟩ = some (.slice none 0 0)) : Calls Tryz.prog 57 #[.pointer (some ⟨B, 0, none⟩)] w fun e w' => e = .returned (.tuple #[]) ∧ w = w' := by
  go_enter Tryz.func57, Tryz.ntmps57
  go_wp2_with fail
  go_loopw [2] (fun i wr => i = .int .i64 0 ∧ w = wr) (fun _ _ => 0)
  case atStart => exact ⟨rfl, rfl⟩
  case round =>
    obtain ⟨rfl, rfl⟩ := hrel
    go_wp2_with fail
    go_end0
    exact ⟨rfl, rfl⟩
theorem lookOp_nil {B : Nat} {w : World} (h : w.cell? ⟨B, 14, none⟩ = some (.slice none 0 0)) : Calls Tryz.prog 73 #[.pointer (some ⟨B, 0, none⟩)] w fun e w' => e = .returned (.bool true) ∧ w = w' := by
  go_enter Tryz.func73, Tryz.ntmps73
  go_wp2_with fail
  go_loopw [3] (fun i wr => i = .int .i64 0 ∧ w = wr) (fun _ _ => 0)
  case atStart => exact ⟨rfl, rfl⟩
  case round =>
    obtain ⟨rfl, rfl⟩ := hrel
    go_wp2_with fail
    go_ret
    exact ⟨rfl, rfl⟩
theorem fillNote_nil {B : Nat} {w : World} (h : w.cell? ⟨B, 15, none⟩ = some (.slice none 0 0)) : Calls Tryz.prog 42 #[.pointer (some ⟨B, 0, none⟩)] w fun e w' => e = .returned (.tuple #[]) ∧ w = w' := by
  go_enter Tryz.func42, Tryz.ntmps42
  go_wp2_with fail
  go_loopw [2] (fun i wr => i = .int .i64 0 ∧ w = wr) (fun _ _ => 0)
  case atStart => exact ⟨rfl, rfl⟩
  case round =>
    obtain ⟨rfl, rfl⟩ := hrel
    go_wp2_with fail
    go_end0
    exact ⟨rfl, rfl⟩
theorem growNote_nil {B : Nat} {w : World} (h : w.cell? ⟨B, 15, none⟩ = some (.slice none 0 0)) : Calls Tryz.prog 58 #[.pointer (some ⟨B, 0, none⟩)] w fun e w' => e = .returned (.tuple #[]) ∧ w = w' := by
  go_enter Tryz.func58, Tryz.ntmps58
  go_wp2_with fail
  go_loopw [2] (fun i wr => i = .int .i64 0 ∧ w = wr) (fun _ _ => 0)
  case atStart => exact ⟨rfl, rfl⟩
  case round =>
    obtain ⟨rfl, rfl⟩ := hrel
    go_wp2_with fail
    go_end0
    exact ⟨rfl, rfl⟩
theorem lookNote_nil {B : Nat} {w : World} (h : w.cell? ⟨B, 15, none⟩ = some (.slice none 0 0)) : Calls Tryz.prog 74 #[.pointer (some ⟨B, 0, none⟩)] w fun e w' => e = .returned (.bool true) ∧ w = w' := by
  go_enter Tryz.func74, Tryz.ntmps74
  go_wp2_with fail
  go_loopw [3] (fun i wr => i = .int .i64 0 ∧ w = wr) (fun _ _ => 0)
  case atStart => exact ⟨rfl, rfl⟩
  case round =>
    obtain ⟨rfl, rfl⟩ := hrel
    go_wp2_with fail
    go_ret
    exact ⟨rfl, rfl⟩
theorem fillResource_nil {B : Nat} {w : World} (h : w.cell? ⟨B, 16, none⟩ = some (.slice none 0 0)) : Calls Tryz.prog 43 #[.pointer (some ⟨B, 0, none⟩)] w fun e w' => e = .returned (.tuple #[]) ∧ w = w' := by
  go_enter Tryz.func43, Tryz.ntmps43
  go_wp2_with fail
  go_loopw [2] (fun i wr => i = .int .i64 0 ∧ w = wr) (fun _ _ => 0)
  case atStart => exact ⟨rfl, rfl⟩
  case round =>
    obtain ⟨rfl, rfl⟩ := hrel
    go_wp2_with fail
    go_end0
    exact ⟨rfl, rfl⟩
theorem growResource_nil {B : Nat} {w : World} (h : w.cell? ⟨B, 16, none⟩ = some (.slice none 0 0)) : Calls Tryz.prog 59 #[.pointer (some ⟨B, 0, none⟩)] w fun e w' => e = .returned (.tuple #[]) ∧ w = w' := by
  go_enter Tryz.func59, Tryz.ntmps59
  go_wp2_with fail
  go_loopw [2] (fun i wr => i = .int .i64 0 ∧ w = wr) (fun _ _ => 0)
  case atStart => exact ⟨rfl, rfl⟩
  case round =>
    obtain ⟨rfl, rfl⟩ := hrel
    go_wp2_with fail
    go_end0
    exact ⟨rfl, rfl⟩
theorem lookResource_nil {B : Nat} {w : World} (h : w.cell? ⟨B, 16, none⟩ = some (.slice none 0 0)) : Calls Tryz.prog 75 #[.pointer (some ⟨B, 0, none⟩)] w fun e w' => e = .returned (.bool true) ∧ w = w' := by
  go_enter Tryz.func75, Tryz.ntmps75
  go_wp2_with fail
  go_loopw [3] (fun i wr => i = .int .i64 0 ∧ w = wr) (fun _ _ => 0)
  case atStart => exact ⟨rfl, rfl⟩
  case round =>
    obtain ⟨rfl, rfl⟩ := hrel
    go_wp2_with fail
    go_ret
    exact ⟨rfl, rfl⟩
section
variable {K : KTab} {D : BkD} {w0 W : World}
theorem rows_end (hm : ∀ κ, ¬ (1 ≤ κ ∧ κ < 17) → D.m κ = 0) (h : RowsF K D w0 (fillF D 17 0 0) W) : RowsF K D w0 D.ln W := h.mono fun κ j hj => by
  unfold fillF
  rcases Classical.em (1 ≤ κ ∧ κ < 17) with q | q
  · rw [if_pos q.2]; exact Nat.le_refl _
  · have := hm κ q; omega
theorem gs_of (hs : BkS D w0) (hm : ∀ κ, ¬ (1 ≤ κ ∧ κ < 17) → D.m κ = 0) (h : BkT D w0 W) (hr : RowsF K D w0 D.ln W) : GS D w0 W.heap.size := by
  refine ⟨hs, ?_, fun κ h0 => World.block_lt_of_cell? _ _ (h.ent κ 0 h0).1, fun κ j hj b e => hr.lt hj e, fun κ j hj b e => ?_, h.low.size⟩
  · rcases Nat.eq_zero_or_pos (D.m 1) with q | q
    · exact World.block_lt_of_cell? _ _ (h.nil 1 (by decide) (by decide) q)
    · exact World.block_lt_of_cell? _ _ (h.fld 1 (by decide) (by decide) q)
  · have := hr κ j hj
    rw [e] at this
    exact (this.lt rfl).1
theorem go_of (hs : BkS D w0) (hm : ∀ κ, ¬ (1 ≤ κ ∧ κ < 17) → D.m κ = 0) (h : BkT D w0 W) (hr : RowsF K D w0 D.ln W) : GO K D w0 W.heap.size 1 0 W :=
  ⟨h, hr, fun κ j hj => by
    rcases hj with ⟨h1, h2 | ⟨rfl, h2⟩⟩
    · have := hm κ (by omega); omega
    · omega, Nat.le_refl _⟩
theorem rows_skip {κ : Nat} (h0 : D.m κ = 0) (h : RowsF K D w0 (fillF D κ 0 0) W) : RowsF K D w0 (fillF D (κ + 1) 0 0) W := fill_next (by rw [h0]; exact h)
theorem go_skip {κ ws : Nat} (h0 : D.m κ = 0) (h : GO K D w0 ws κ 0 W) : GO K D w0 ws (κ + 1) 0 W := GO.next (by rw [h0]; exact h)
end
set_option maxRecDepth 100000 in
set_option maxHeartbeats 8000000 in
theorem apartApV_any {K : KTab} {D : BkD} {w0 w : World} (hs : BkS D w0) (hm : ∀ κ, ¬ (1 ≤ κ ∧ κ < 17) → D.m κ = 0) (ha : ∀ κ, κ ≠ 3 → κ ≠ 4 → D.m κ = 0)
    (ht3 : K.ty 3 = 30) (hz3 : K.sz 3 = 8) (hk3 : ∀ n, K.mark 3 n = markValueL n)
    (hM3 : ∀ i, i < D.m 3 → ∀ W, BkT D w0 W → Calls Tryz.prog 93 #[.int .i64 (D.N 3 i)] W fun e w' => e = .returned (.agg #[.int .u8 0, .int .i64 0, .string (wordB (D.N 3 i)), .slice none 0 0, .slice none 0 0, .int .u8 0, .string ⟨#[]⟩, .bool false]) ∧ Below W.heap.size W w')
    (hI3 : ∀ i, i < D.m 3 → ∀ W, BkT D w0 W → Calls Tryz.prog 109 #[.agg #[.int .u8 0, .int .i64 0, .string (wordB (D.N 3 i)), .slice none 0 0, .slice none 0 0, .int .u8 0, .string ⟨#[]⟩, .bool false], .int .i64 (D.N 3 i)] W fun e w' => e = .returned (.bool true) ∧ Below W.heap.size W w')
    (ht4 : K.ty 4 = 78) (hz4 : K.sz 4 = 9) (hk4 : ∀ n, K.mark 4 n = markFieldL n)
    (hM4 : ∀ i, i < D.m 4 → ∀ W, BkT D w0 W → Calls Tryz.prog 94 #[.int .i64 (D.N 4 i)] W fun e w' => e = .returned (.agg #[.string (wordB (D.N 4 i)), .int .u8 0, .int .i64 0, .string ⟨#[]⟩, .slice none 0 0, .slice none 0 0, .int .u8 0, .string ⟨#[]⟩, .bool false]) ∧ Below W.heap.size W w')
    (hI4 : ∀ i, i < D.m 4 → ∀ W, BkT D w0 W → Calls Tryz.prog 110 #[.agg #[.string (wordB (D.N 4 i)), .int .u8 0, .int .i64 0, .string ⟨#[]⟩, .slice none 0 0, .slice none 0 0, .int .u8 0, .string ⟨#[]⟩, .bool false], .int .i64 (D.N 4 i)] W fun e w' => e = .returned (.bool true) ∧ Below W.heap.size W w')
    (h : BkT D w0 w) (hr : RowsF K D w0 (fillF D 1 0 0) w) :
    Calls Tryz.prog 13 #[.pointer (some ⟨D.B, 0, none⟩)] w fun e w' => e = .returned (.bool true) ∧ Below w0.heap.size w0 w' := by
  have Hf1 : Hid (∀ W, (BkT D w0 W ∧ RowsF K D w0 (fillF D 1 0 0) W) → Calls Tryz.prog 28 #[.pointer (some ⟨D.B, 0, none⟩)] W fun e w' => e = .returned (.tuple #[]) ∧ (BkT D w0 w' ∧ RowsF K D w0 (fillF D 2 0 0) w')) := Lib.hid (fun W h => by
    have q := ha 1 (by decide) (by decide)
    exact (fillInt_nil (h.1.nil 1 (by decide) (by decide) q)).mono fun e w' x => ⟨x.1, by rw [← x.2]; exact ⟨h.1, rows_skip q h.2⟩⟩)
  have Hg1 : Hid (∀ ws W, GS D w0 ws → GO K D w0 ws 1 0 W → Calls Tryz.prog 44 #[.pointer (some ⟨D.B, 0, none⟩)] W fun e w' => e = .returned (.tuple #[]) ∧ GO K D w0 ws 2 0 w') := Lib.hid (fun ws W hg h => by
    have q := ha 1 (by decide) (by decide)
    exact (growInt_nil (h.bk.nil 1 (by decide) (by decide) q)).mono fun e w' x => ⟨x.1, by rw [← x.2]; exact go_skip q h⟩)
  have Hl1 : Hid (∀ ws W, GS D w0 ws → GO K D w0 ws 17 0 W → Calls Tryz.prog 60 #[.pointer (some ⟨D.B, 0, none⟩)] W fun e w' => e = .returned (.bool true) ∧ GO K D w0 ws 17 0 w') := Lib.hid (fun ws W hg h => by
    have q := ha 1 (by decide) (by decide)
    exact (lookInt_nil (h.bk.nil 1 (by decide) (by decide) q)).mono fun e w' x => ⟨x.1, by rw [← x.2]; exact h⟩)
  have Hf2 : Hid (∀ W, (BkT D w0 W ∧ RowsF K D w0 (fillF D 2 0 0) W) → Calls Tryz.prog 29 #[.pointer (some ⟨D.B, 0, none⟩)] W fun e w' => e = .returned (.tuple #[]) ∧ (BkT D w0 w' ∧ RowsF K D w0 (fillF D 3 0 0) w')) := Lib.hid (fun W h => by
    have q := ha 2 (by decide) (by decide)
    exact (fillText_nil (h.1.nil 2 (by decide) (by decide) q)).mono fun e w' x => ⟨x.1, by rw [← x.2]; exact ⟨h.1, rows_skip q h.2⟩⟩)
  have Hg2 : Hid (∀ ws W, GS D w0 ws → GO K D w0 ws 2 0 W → Calls Tryz.prog 45 #[.pointer (some ⟨D.B, 0, none⟩)] W fun e w' => e = .returned (.tuple #[]) ∧ GO K D w0 ws 3 0 w') := Lib.hid (fun ws W hg h => by
    have q := ha 2 (by decide) (by decide)
    exact (growText_nil (h.bk.nil 2 (by decide) (by decide) q)).mono fun e w' x => ⟨x.1, by rw [← x.2]; exact go_skip q h⟩)
  have Hl2 : Hid (∀ ws W, GS D w0 ws → GO K D w0 ws 17 0 W → Calls Tryz.prog 61 #[.pointer (some ⟨D.B, 0, none⟩)] W fun e w' => e = .returned (.bool true) ∧ GO K D w0 ws 17 0 w') := Lib.hid (fun ws W hg h => by
    have q := ha 2 (by decide) (by decide)
    exact (lookText_nil (h.bk.nil 2 (by decide) (by decide) q)).mono fun e w' x => ⟨x.1, by rw [← x.2]; exact h⟩)
  have Hf3 : Hid (∀ W, (BkT D w0 W ∧ RowsF K D w0 (fillF D 3 0 0) W) → Calls Tryz.prog 30 #[.pointer (some ⟨D.B, 0, none⟩)] W fun e w' => e = .returned (.tuple #[]) ∧ (BkT D w0 w' ∧ RowsF K D w0 (fillF D 4 0 0) w')) := Lib.hid (fun W h => by
    rcases Nat.eq_zero_or_pos (D.m 3) with q | q
    · exact (fillValue_nil (h.1.nil 3 (by decide) (by decide) q)).mono fun e w' x => ⟨x.1, by rw [← x.2]; exact ⟨h.1, rows_skip q h.2⟩⟩
    · exact fillValue_any hz3 hk3 hs q hM3 h.1 h.2)
  have Hg3 : Hid (∀ ws W, GS D w0 ws → GO K D w0 ws 3 0 W → Calls Tryz.prog 46 #[.pointer (some ⟨D.B, 0, none⟩)] W fun e w' => e = .returned (.tuple #[]) ∧ GO K D w0 ws 4 0 w') := Lib.hid (fun ws W hg h => by
    rcases Nat.eq_zero_or_pos (D.m 3) with q | q
    · exact (growValue_nil (h.bk.nil 3 (by decide) (by decide) q)).mono fun e w' x => ⟨x.1, by rw [← x.2]; exact go_skip q h⟩
    · exact growValue_any ht3 hz3 hk3 hg q hM3 h)
  have Hl3 : Hid (∀ ws W, GS D w0 ws → GO K D w0 ws 17 0 W → Calls Tryz.prog 62 #[.pointer (some ⟨D.B, 0, none⟩)] W fun e w' => e = .returned (.bool true) ∧ GO K D w0 ws 17 0 w') := Lib.hid (fun ws W hg h => by
    rcases Nat.eq_zero_or_pos (D.m 3) with q | q
    · exact (lookValue_nil (h.bk.nil 3 (by decide) (by decide) q)).mono fun e w' x => ⟨x.1, by rw [← x.2]; exact h⟩
    · exact lookValue_any hz3 hk3 hg q hI3 h)
  have Hf4 : Hid (∀ W, (BkT D w0 W ∧ RowsF K D w0 (fillF D 4 0 0) W) → Calls Tryz.prog 31 #[.pointer (some ⟨D.B, 0, none⟩)] W fun e w' => e = .returned (.tuple #[]) ∧ (BkT D w0 w' ∧ RowsF K D w0 (fillF D 5 0 0) w')) := Lib.hid (fun W h => by
    rcases Nat.eq_zero_or_pos (D.m 4) with q | q
    · exact (fillField_nil (h.1.nil 4 (by decide) (by decide) q)).mono fun e w' x => ⟨x.1, by rw [← x.2]; exact ⟨h.1, rows_skip q h.2⟩⟩
    · exact fillField_any hz4 hk4 hs q hM4 h.1 h.2)
  have Hg4 : Hid (∀ ws W, GS D w0 ws → GO K D w0 ws 4 0 W → Calls Tryz.prog 47 #[.pointer (some ⟨D.B, 0, none⟩)] W fun e w' => e = .returned (.tuple #[]) ∧ GO K D w0 ws 5 0 w') := Lib.hid (fun ws W hg h => by
    rcases Nat.eq_zero_or_pos (D.m 4) with q | q
    · exact (growField_nil (h.bk.nil 4 (by decide) (by decide) q)).mono fun e w' x => ⟨x.1, by rw [← x.2]; exact go_skip q h⟩
    · exact growField_any ht4 hz4 hk4 hg q hM4 h)
  have Hl4 : Hid (∀ ws W, GS D w0 ws → GO K D w0 ws 17 0 W → Calls Tryz.prog 63 #[.pointer (some ⟨D.B, 0, none⟩)] W fun e w' => e = .returned (.bool true) ∧ GO K D w0 ws 17 0 w') := Lib.hid (fun ws W hg h => by
    rcases Nat.eq_zero_or_pos (D.m 4) with q | q
    · exact (lookField_nil (h.bk.nil 4 (by decide) (by decide) q)).mono fun e w' x => ⟨x.1, by rw [← x.2]; exact h⟩
    · exact lookField_any hz4 hk4 hg q hI4 h)
  have Hf5 : Hid (∀ W, (BkT D w0 W ∧ RowsF K D w0 (fillF D 5 0 0) W) → Calls Tryz.prog 32 #[.pointer (some ⟨D.B, 0, none⟩)] W fun e w' => e = .returned (.tuple #[]) ∧ (BkT D w0 w' ∧ RowsF K D w0 (fillF D 6 0 0) w')) := Lib.hid (fun W h => by
    have q := ha 5 (by decide) (by decide)
    exact (fillWord_nil (h.1.nil 5 (by decide) (by decide) q)).mono fun e w' x => ⟨x.1, by rw [← x.2]; exact ⟨h.1, rows_skip q h.2⟩⟩)
  have Hg5 : Hid (∀ ws W, GS D w0 ws → GO K D w0 ws 5 0 W → Calls Tryz.prog 48 #[.pointer (some ⟨D.B, 0, none⟩)] W fun e w' => e = .returned (.tuple #[]) ∧ GO K D w0 ws 6 0 w') := Lib.hid (fun ws W hg h => by
    have q := ha 5 (by decide) (by decide)
    exact (growWord_nil (h.bk.nil 5 (by decide) (by decide) q)).mono fun e w' x => ⟨x.1, by rw [← x.2]; exact go_skip q h⟩)
  have Hl5 : Hid (∀ ws W, GS D w0 ws → GO K D w0 ws 17 0 W → Calls Tryz.prog 64 #[.pointer (some ⟨D.B, 0, none⟩)] W fun e w' => e = .returned (.bool true) ∧ GO K D w0 ws 17 0 w') := Lib.hid (fun ws W hg h => by
    have q := ha 5 (by decide) (by decide)
    exact (lookWord_nil (h.bk.nil 5 (by decide) (by decide) q)).mono fun e w' x => ⟨x.1, by rw [← x.2]; exact h⟩)
  have Hf6 : Hid (∀ W, (BkT D w0 W ∧ RowsF K D w0 (fillF D 6 0 0) W) → Calls Tryz.prog 33 #[.pointer (some ⟨D.B, 0, none⟩)] W fun e w' => e = .returned (.tuple #[]) ∧ (BkT D w0 w' ∧ RowsF K D w0 (fillF D 7 0 0) w')) := Lib.hid (fun W h => by
    have q := ha 6 (by decide) (by decide)
    exact (fillChild_nil (h.1.nil 6 (by decide) (by decide) q)).mono fun e w' x => ⟨x.1, by rw [← x.2]; exact ⟨h.1, rows_skip q h.2⟩⟩)
  have Hg6 : Hid (∀ ws W, GS D w0 ws → GO K D w0 ws 6 0 W → Calls Tryz.prog 49 #[.pointer (some ⟨D.B, 0, none⟩)] W fun e w' => e = .returned (.tuple #[]) ∧ GO K D w0 ws 7 0 w') := Lib.hid (fun ws W hg h => by
    have q := ha 6 (by decide) (by decide)
    exact (growChild_nil (h.bk.nil 6 (by decide) (by decide) q)).mono fun e w' x => ⟨x.1, by rw [← x.2]; exact go_skip q h⟩)
  have Hl6 : Hid (∀ ws W, GS D w0 ws → GO K D w0 ws 17 0 W → Calls Tryz.prog 65 #[.pointer (some ⟨D.B, 0, none⟩)] W fun e w' => e = .returned (.bool true) ∧ GO K D w0 ws 17 0 w') := Lib.hid (fun ws W hg h => by
    have q := ha 6 (by decide) (by decide)
    exact (lookChild_nil (h.bk.nil 6 (by decide) (by decide) q)).mono fun e w' x => ⟨x.1, by rw [← x.2]; exact h⟩)
  have Hf7 : Hid (∀ W, (BkT D w0 W ∧ RowsF K D w0 (fillF D 7 0 0) W) → Calls Tryz.prog 34 #[.pointer (some ⟨D.B, 0, none⟩)] W fun e w' => e = .returned (.tuple #[]) ∧ (BkT D w0 w' ∧ RowsF K D w0 (fillF D 8 0 0) w')) := Lib.hid (fun W h => by
    have q := ha 7 (by decide) (by decide)
    exact (fillCell_nil (h.1.nil 7 (by decide) (by decide) q)).mono fun e w' x => ⟨x.1, by rw [← x.2]; exact ⟨h.1, rows_skip q h.2⟩⟩)
  have Hg7 : Hid (∀ ws W, GS D w0 ws → GO K D w0 ws 7 0 W → Calls Tryz.prog 50 #[.pointer (some ⟨D.B, 0, none⟩)] W fun e w' => e = .returned (.tuple #[]) ∧ GO K D w0 ws 8 0 w') := Lib.hid (fun ws W hg h => by
    have q := ha 7 (by decide) (by decide)
    exact (growCell_nil (h.bk.nil 7 (by decide) (by decide) q)).mono fun e w' x => ⟨x.1, by rw [← x.2]; exact go_skip q h⟩)
  have Hl7 : Hid (∀ ws W, GS D w0 ws → GO K D w0 ws 17 0 W → Calls Tryz.prog 66 #[.pointer (some ⟨D.B, 0, none⟩)] W fun e w' => e = .returned (.bool true) ∧ GO K D w0 ws 17 0 w') := Lib.hid (fun ws W hg h => by
    have q := ha 7 (by decide) (by decide)
    exact (lookCell_nil (h.bk.nil 7 (by decide) (by decide) q)).mono fun e w' x => ⟨x.1, by rw [← x.2]; exact h⟩)
  have Hf8 : Hid (∀ W, (BkT D w0 W ∧ RowsF K D w0 (fillF D 8 0 0) W) → Calls Tryz.prog 35 #[.pointer (some ⟨D.B, 0, none⟩)] W fun e w' => e = .returned (.tuple #[]) ∧ (BkT D w0 w' ∧ RowsF K D w0 (fillF D 9 0 0) w')) := Lib.hid (fun W h => by
    have q := ha 8 (by decide) (by decide)
    exact (fillInst_nil (h.1.nil 8 (by decide) (by decide) q)).mono fun e w' x => ⟨x.1, by rw [← x.2]; exact ⟨h.1, rows_skip q h.2⟩⟩)
  have Hg8 : Hid (∀ ws W, GS D w0 ws → GO K D w0 ws 8 0 W → Calls Tryz.prog 51 #[.pointer (some ⟨D.B, 0, none⟩)] W fun e w' => e = .returned (.tuple #[]) ∧ GO K D w0 ws 9 0 w') := Lib.hid (fun ws W hg h => by
    have q := ha 8 (by decide) (by decide)
    exact (growInst_nil (h.bk.nil 8 (by decide) (by decide) q)).mono fun e w' x => ⟨x.1, by rw [← x.2]; exact go_skip q h⟩)
  have Hl8 : Hid (∀ ws W, GS D w0 ws → GO K D w0 ws 17 0 W → Calls Tryz.prog 67 #[.pointer (some ⟨D.B, 0, none⟩)] W fun e w' => e = .returned (.bool true) ∧ GO K D w0 ws 17 0 w') := Lib.hid (fun ws W hg h => by
    have q := ha 8 (by decide) (by decide)
    exact (lookInst_nil (h.bk.nil 8 (by decide) (by decide) q)).mono fun e w' x => ⟨x.1, by rw [← x.2]; exact h⟩)
  have Hf9 : Hid (∀ W, (BkT D w0 W ∧ RowsF K D w0 (fillF D 9 0 0) W) → Calls Tryz.prog 36 #[.pointer (some ⟨D.B, 0, none⟩)] W fun e w' => e = .returned (.tuple #[]) ∧ (BkT D w0 w' ∧ RowsF K D w0 (fillF D 10 0 0) w')) := Lib.hid (fun W h => by
    have q := ha 9 (by decide) (by decide)
    exact (fillAct_nil (h.1.nil 9 (by decide) (by decide) q)).mono fun e w' x => ⟨x.1, by rw [← x.2]; exact ⟨h.1, rows_skip q h.2⟩⟩)
  have Hg9 : Hid (∀ ws W, GS D w0 ws → GO K D w0 ws 9 0 W → Calls Tryz.prog 52 #[.pointer (some ⟨D.B, 0, none⟩)] W fun e w' => e = .returned (.tuple #[]) ∧ GO K D w0 ws 10 0 w') := Lib.hid (fun ws W hg h => by
    have q := ha 9 (by decide) (by decide)
    exact (growAct_nil (h.bk.nil 9 (by decide) (by decide) q)).mono fun e w' x => ⟨x.1, by rw [← x.2]; exact go_skip q h⟩)
  have Hl9 : Hid (∀ ws W, GS D w0 ws → GO K D w0 ws 17 0 W → Calls Tryz.prog 68 #[.pointer (some ⟨D.B, 0, none⟩)] W fun e w' => e = .returned (.bool true) ∧ GO K D w0 ws 17 0 w') := Lib.hid (fun ws W hg h => by
    have q := ha 9 (by decide) (by decide)
    exact (lookAct_nil (h.bk.nil 9 (by decide) (by decide) q)).mono fun e w' x => ⟨x.1, by rw [← x.2]; exact h⟩)
  have Hf10 : Hid (∀ W, (BkT D w0 W ∧ RowsF K D w0 (fillF D 10 0 0) W) → Calls Tryz.prog 37 #[.pointer (some ⟨D.B, 0, none⟩)] W fun e w' => e = .returned (.tuple #[]) ∧ (BkT D w0 w' ∧ RowsF K D w0 (fillF D 11 0 0) w')) := Lib.hid (fun W h => by
    have q := ha 10 (by decide) (by decide)
    exact (fillExpr_nil (h.1.nil 10 (by decide) (by decide) q)).mono fun e w' x => ⟨x.1, by rw [← x.2]; exact ⟨h.1, rows_skip q h.2⟩⟩)
  have Hg10 : Hid (∀ ws W, GS D w0 ws → GO K D w0 ws 10 0 W → Calls Tryz.prog 53 #[.pointer (some ⟨D.B, 0, none⟩)] W fun e w' => e = .returned (.tuple #[]) ∧ GO K D w0 ws 11 0 w') := Lib.hid (fun ws W hg h => by
    have q := ha 10 (by decide) (by decide)
    exact (growExpr_nil (h.bk.nil 10 (by decide) (by decide) q)).mono fun e w' x => ⟨x.1, by rw [← x.2]; exact go_skip q h⟩)
  have Hl10 : Hid (∀ ws W, GS D w0 ws → GO K D w0 ws 17 0 W → Calls Tryz.prog 69 #[.pointer (some ⟨D.B, 0, none⟩)] W fun e w' => e = .returned (.bool true) ∧ GO K D w0 ws 17 0 w') := Lib.hid (fun ws W hg h => by
    have q := ha 10 (by decide) (by decide)
    exact (lookExpr_nil (h.bk.nil 10 (by decide) (by decide) q)).mono fun e w' x => ⟨x.1, by rw [← x.2]; exact h⟩)
  have Hf11 : Hid (∀ W, (BkT D w0 W ∧ RowsF K D w0 (fillF D 11 0 0) W) → Calls Tryz.prog 38 #[.pointer (some ⟨D.B, 0, none⟩)] W fun e w' => e = .returned (.tuple #[]) ∧ (BkT D w0 w' ∧ RowsF K D w0 (fillF D 12 0 0) w')) := Lib.hid (fun W h => by
    have q := ha 11 (by decide) (by decide)
    exact (fillStmt_nil (h.1.nil 11 (by decide) (by decide) q)).mono fun e w' x => ⟨x.1, by rw [← x.2]; exact ⟨h.1, rows_skip q h.2⟩⟩)
  have Hg11 : Hid (∀ ws W, GS D w0 ws → GO K D w0 ws 11 0 W → Calls Tryz.prog 54 #[.pointer (some ⟨D.B, 0, none⟩)] W fun e w' => e = .returned (.tuple #[]) ∧ GO K D w0 ws 12 0 w') := Lib.hid (fun ws W hg h => by
    have q := ha 11 (by decide) (by decide)
    exact (growStmt_nil (h.bk.nil 11 (by decide) (by decide) q)).mono fun e w' x => ⟨x.1, by rw [← x.2]; exact go_skip q h⟩)
  have Hl11 : Hid (∀ ws W, GS D w0 ws → GO K D w0 ws 17 0 W → Calls Tryz.prog 70 #[.pointer (some ⟨D.B, 0, none⟩)] W fun e w' => e = .returned (.bool true) ∧ GO K D w0 ws 17 0 w') := Lib.hid (fun ws W hg h => by
    have q := ha 11 (by decide) (by decide)
    exact (lookStmt_nil (h.bk.nil 11 (by decide) (by decide) q)).mono fun e w' x => ⟨x.1, by rw [← x.2]; exact h⟩)
  have Hf12 : Hid (∀ W, (BkT D w0 W ∧ RowsF K D w0 (fillF D 12 0 0) W) → Calls Tryz.prog 39 #[.pointer (some ⟨D.B, 0, none⟩)] W fun e w' => e = .returned (.tuple #[]) ∧ (BkT D w0 w' ∧ RowsF K D w0 (fillF D 13 0 0) w')) := Lib.hid (fun W h => by
    have q := ha 12 (by decide) (by decide)
    exact (fillComponent_nil (h.1.nil 12 (by decide) (by decide) q)).mono fun e w' x => ⟨x.1, by rw [← x.2]; exact ⟨h.1, rows_skip q h.2⟩⟩)
  have Hg12 : Hid (∀ ws W, GS D w0 ws → GO K D w0 ws 12 0 W → Calls Tryz.prog 55 #[.pointer (some ⟨D.B, 0, none⟩)] W fun e w' => e = .returned (.tuple #[]) ∧ GO K D w0 ws 13 0 w') := Lib.hid (fun ws W hg h => by
    have q := ha 12 (by decide) (by decide)
    exact (growComponent_nil (h.bk.nil 12 (by decide) (by decide) q)).mono fun e w' x => ⟨x.1, by rw [← x.2]; exact go_skip q h⟩)
  have Hl12 : Hid (∀ ws W, GS D w0 ws → GO K D w0 ws 17 0 W → Calls Tryz.prog 71 #[.pointer (some ⟨D.B, 0, none⟩)] W fun e w' => e = .returned (.bool true) ∧ GO K D w0 ws 17 0 w') := Lib.hid (fun ws W hg h => by
    have q := ha 12 (by decide) (by decide)
    exact (lookComponent_nil (h.bk.nil 12 (by decide) (by decide) q)).mono fun e w' x => ⟨x.1, by rw [← x.2]; exact h⟩)
  have Hf13 : Hid (∀ W, (BkT D w0 W ∧ RowsF K D w0 (fillF D 13 0 0) W) → Calls Tryz.prog 40 #[.pointer (some ⟨D.B, 0, none⟩)] W fun e w' => e = .returned (.tuple #[]) ∧ (BkT D w0 w' ∧ RowsF K D w0 (fillF D 14 0 0) w')) := Lib.hid (fun W h => by
    have q := ha 13 (by decide) (by decide)
    exact (fillNode_nil (h.1.nil 13 (by decide) (by decide) q)).mono fun e w' x => ⟨x.1, by rw [← x.2]; exact ⟨h.1, rows_skip q h.2⟩⟩)
  have Hg13 : Hid (∀ ws W, GS D w0 ws → GO K D w0 ws 13 0 W → Calls Tryz.prog 56 #[.pointer (some ⟨D.B, 0, none⟩)] W fun e w' => e = .returned (.tuple #[]) ∧ GO K D w0 ws 14 0 w') := Lib.hid (fun ws W hg h => by
    have q := ha 13 (by decide) (by decide)
    exact (growNode_nil (h.bk.nil 13 (by decide) (by decide) q)).mono fun e w' x => ⟨x.1, by rw [← x.2]; exact go_skip q h⟩)
  have Hl13 : Hid (∀ ws W, GS D w0 ws → GO K D w0 ws 17 0 W → Calls Tryz.prog 72 #[.pointer (some ⟨D.B, 0, none⟩)] W fun e w' => e = .returned (.bool true) ∧ GO K D w0 ws 17 0 w') := Lib.hid (fun ws W hg h => by
    have q := ha 13 (by decide) (by decide)
    exact (lookNode_nil (h.bk.nil 13 (by decide) (by decide) q)).mono fun e w' x => ⟨x.1, by rw [← x.2]; exact h⟩)
  have Hf14 : Hid (∀ W, (BkT D w0 W ∧ RowsF K D w0 (fillF D 14 0 0) W) → Calls Tryz.prog 41 #[.pointer (some ⟨D.B, 0, none⟩)] W fun e w' => e = .returned (.tuple #[]) ∧ (BkT D w0 w' ∧ RowsF K D w0 (fillF D 15 0 0) w')) := Lib.hid (fun W h => by
    have q := ha 14 (by decide) (by decide)
    exact (fillOp_nil (h.1.nil 14 (by decide) (by decide) q)).mono fun e w' x => ⟨x.1, by rw [← x.2]; exact ⟨h.1, rows_skip q h.2⟩⟩)
  have Hg14 : Hid (∀ ws W, GS D w0 ws → GO K D w0 ws 14 0 W → Calls Tryz.prog 57 #[.pointer (some ⟨D.B, 0, none⟩)] W fun e w' => e = .returned (.tuple #[]) ∧ GO K D w0 ws 15 0 w') := Lib.hid (fun ws W hg h => by
    have q := ha 14 (by decide) (by decide)
    exact (growOp_nil (h.bk.nil 14 (by decide) (by decide) q)).mono fun e w' x => ⟨x.1, by rw [← x.2]; exact go_skip q h⟩)
  have Hl14 : Hid (∀ ws W, GS D w0 ws → GO K D w0 ws 17 0 W → Calls Tryz.prog 73 #[.pointer (some ⟨D.B, 0, none⟩)] W fun e w' => e = .returned (.bool true) ∧ GO K D w0 ws 17 0 w') := Lib.hid (fun ws W hg h => by
    have q := ha 14 (by decide) (by decide)
    exact (lookOp_nil (h.bk.nil 14 (by decide) (by decide) q)).mono fun e w' x => ⟨x.1, by rw [← x.2]; exact h⟩)
  have Hf15 : Hid (∀ W, (BkT D w0 W ∧ RowsF K D w0 (fillF D 15 0 0) W) → Calls Tryz.prog 42 #[.pointer (some ⟨D.B, 0, none⟩)] W fun e w' => e = .returned (.tuple #[]) ∧ (BkT D w0 w' ∧ RowsF K D w0 (fillF D 16 0 0) w')) := Lib.hid (fun W h => by
    have q := ha 15 (by decide) (by decide)
    exact (fillNote_nil (h.1.nil 15 (by decide) (by decide) q)).mono fun e w' x => ⟨x.1, by rw [← x.2]; exact ⟨h.1, rows_skip q h.2⟩⟩)
  have Hg15 : Hid (∀ ws W, GS D w0 ws → GO K D w0 ws 15 0 W → Calls Tryz.prog 58 #[.pointer (some ⟨D.B, 0, none⟩)] W fun e w' => e = .returned (.tuple #[]) ∧ GO K D w0 ws 16 0 w') := Lib.hid (fun ws W hg h => by
    have q := ha 15 (by decide) (by decide)
    exact (growNote_nil (h.bk.nil 15 (by decide) (by decide) q)).mono fun e w' x => ⟨x.1, by rw [← x.2]; exact go_skip q h⟩)
  have Hl15 : Hid (∀ ws W, GS D w0 ws → GO K D w0 ws 17 0 W → Calls Tryz.prog 74 #[.pointer (some ⟨D.B, 0, none⟩)] W fun e w' => e = .returned (.bool true) ∧ GO K D w0 ws 17 0 w') := Lib.hid (fun ws W hg h => by
    have q := ha 15 (by decide) (by decide)
    exact (lookNote_nil (h.bk.nil 15 (by decide) (by decide) q)).mono fun e w' x => ⟨x.1, by rw [← x.2]; exact h⟩)
  have Hf16 : Hid (∀ W, (BkT D w0 W ∧ RowsF K D w0 (fillF D 16 0 0) W) → Calls Tryz.prog 43 #[.pointer (some ⟨D.B, 0, none⟩)] W fun e w' => e = .returned (.tuple #[]) ∧ (BkT D w0 w' ∧ RowsF K D w0 (fillF D 17 0 0) w')) := Lib.hid (fun W h => by
    have q := ha 16 (by decide) (by decide)
    exact (fillResource_nil (h.1.nil 16 (by decide) (by decide) q)).mono fun e w' x => ⟨x.1, by rw [← x.2]; exact ⟨h.1, rows_skip q h.2⟩⟩)
  have Hg16 : Hid (∀ ws W, GS D w0 ws → GO K D w0 ws 16 0 W → Calls Tryz.prog 59 #[.pointer (some ⟨D.B, 0, none⟩)] W fun e w' => e = .returned (.tuple #[]) ∧ GO K D w0 ws 17 0 w') := Lib.hid (fun ws W hg h => by
    have q := ha 16 (by decide) (by decide)
    exact (growResource_nil (h.bk.nil 16 (by decide) (by decide) q)).mono fun e w' x => ⟨x.1, by rw [← x.2]; exact go_skip q h⟩)
  have Hl16 : Hid (∀ ws W, GS D w0 ws → GO K D w0 ws 17 0 W → Calls Tryz.prog 75 #[.pointer (some ⟨D.B, 0, none⟩)] W fun e w' => e = .returned (.bool true) ∧ GO K D w0 ws 17 0 w') := Lib.hid (fun ws W hg h => by
    have q := ha 16 (by decide) (by decide)
    exact (lookResource_nil (h.bk.nil 16 (by decide) (by decide) q)).mono fun e w' x => ⟨x.1, by rw [← x.2]; exact h⟩)
  have HGS : Hid (∀ W, (BkT D w0 W ∧ RowsF K D w0 (fillF D 17 0 0) W) → GS D w0 W.heap.size ∧ GO K D w0 W.heap.size 1 0 W) := Lib.hid (fun W h => ⟨gs_of hs hm h.1 (rows_end hm h.2), go_of hs hm h.1 (rows_end hm h.2)⟩)
  have OK := Lib.hid (And.intro h hr)
  clear h hr hs hm ha ht3 hz3 hk3 hM3 hI3 ht4 hz4 hk4 hM4 hI4
  go_enter Tryz.func13, Tryz.ntmps13
  go_wp2_with (first
    | (go_at_call 28; (with_reducible refine (Hf1.out _ OK.out).mono ?_); rintro x w1 ⟨rfl, hok⟩; replace OK := Lib.hid hok; clear hok)
    | (go_at_call 29; (with_reducible refine (Hf2.out _ OK.out).mono ?_); rintro x w2 ⟨rfl, hok⟩; replace OK := Lib.hid hok; clear hok)
    | (go_at_call 30; (with_reducible refine (Hf3.out _ OK.out).mono ?_); rintro x w3 ⟨rfl, hok⟩; replace OK := Lib.hid hok; clear hok)
    | (go_at_call 31; (with_reducible refine (Hf4.out _ OK.out).mono ?_); rintro x w4 ⟨rfl, hok⟩; replace OK := Lib.hid hok; clear hok)
    | (go_at_call 32; (with_reducible refine (Hf5.out _ OK.out).mono ?_); rintro x w5 ⟨rfl, hok⟩; replace OK := Lib.hid hok; clear hok)
    | (go_at_call 33; (with_reducible refine (Hf6.out _ OK.out).mono ?_); rintro x w6 ⟨rfl, hok⟩; replace OK := Lib.hid hok; clear hok)
    | (go_at_call 34; (with_reducible refine (Hf7.out _ OK.out).mono ?_); rintro x w7 ⟨rfl, hok⟩; replace OK := Lib.hid hok; clear hok)
    | (go_at_call 35; (with_reducible refine (Hf8.out _ OK.out).mono ?_); rintro x w8 ⟨rfl, hok⟩; replace OK := Lib.hid hok; clear hok)
    | (go_at_call 36; (with_reducible refine (Hf9.out _ OK.out).mono ?_); rintro x w9 ⟨rfl, hok⟩; replace OK := Lib.hid hok; clear hok)
    | (go_at_call 37; (with_reducible refine (Hf10.out _ OK.out).mono ?_); rintro x w10 ⟨rfl, hok⟩; replace OK := Lib.hid hok; clear hok)
    | (go_at_call 38; (with_reducible refine (Hf11.out _ OK.out).mono ?_); rintro x w11 ⟨rfl, hok⟩; replace OK := Lib.hid hok; clear hok)
    | (go_at_call 39; (with_reducible refine (Hf12.out _ OK.out).mono ?_); rintro x w12 ⟨rfl, hok⟩; replace OK := Lib.hid hok; clear hok)
    | (go_at_call 40; (with_reducible refine (Hf13.out _ OK.out).mono ?_); rintro x w13 ⟨rfl, hok⟩; replace OK := Lib.hid hok; clear hok)
    | (go_at_call 41; (with_reducible refine (Hf14.out _ OK.out).mono ?_); rintro x w14 ⟨rfl, hok⟩; replace OK := Lib.hid hok; clear hok)
    | (go_at_call 42; (with_reducible refine (Hf15.out _ OK.out).mono ?_); rintro x w15 ⟨rfl, hok⟩; replace OK := Lib.hid hok; clear hok)
    | (go_at_call 43; (with_reducible refine (Hf16.out _ OK.out).mono ?_); rintro x w16 ⟨rfl, hok⟩; replace OK := Lib.hid hok; clear hok)
    | (go_at_call 44; obtain ⟨hgs, hgo⟩ := HGS.out _ OK.out; have GSW := Lib.hid hgs; have GOW := Lib.hid hgo; clear hgs hgo; (with_reducible refine (Hg1.out _ _ GSW.out GOW.out).mono ?_); rintro x w17 ⟨rfl, hok⟩; replace GOW := Lib.hid hok; clear hok)
    | (go_at_call 45; (with_reducible refine (Hg2.out _ _ GSW.out GOW.out).mono ?_); rintro x w18 ⟨rfl, hok⟩; replace GOW := Lib.hid hok; clear hok)
    | (go_at_call 46; (with_reducible refine (Hg3.out _ _ GSW.out GOW.out).mono ?_); rintro x w19 ⟨rfl, hok⟩; replace GOW := Lib.hid hok; clear hok)
    | (go_at_call 47; (with_reducible refine (Hg4.out _ _ GSW.out GOW.out).mono ?_); rintro x w20 ⟨rfl, hok⟩; replace GOW := Lib.hid hok; clear hok)
    | (go_at_call 48; (with_reducible refine (Hg5.out _ _ GSW.out GOW.out).mono ?_); rintro x w21 ⟨rfl, hok⟩; replace GOW := Lib.hid hok; clear hok)
    | (go_at_call 49; (with_reducible refine (Hg6.out _ _ GSW.out GOW.out).mono ?_); rintro x w22 ⟨rfl, hok⟩; replace GOW := Lib.hid hok; clear hok)
    | (go_at_call 50; (with_reducible refine (Hg7.out _ _ GSW.out GOW.out).mono ?_); rintro x w23 ⟨rfl, hok⟩; replace GOW := Lib.hid hok; clear hok)
    | (go_at_call 51; (with_reducible refine (Hg8.out _ _ GSW.out GOW.out).mono ?_); rintro x w24 ⟨rfl, hok⟩; replace GOW := Lib.hid hok; clear hok)
    | (go_at_call 52; (with_reducible refine (Hg9.out _ _ GSW.out GOW.out).mono ?_); rintro x w25 ⟨rfl, hok⟩; replace GOW := Lib.hid hok; clear hok)
    | (go_at_call 53; (with_reducible refine (Hg10.out _ _ GSW.out GOW.out).mono ?_); rintro x w26 ⟨rfl, hok⟩; replace GOW := Lib.hid hok; clear hok)
    | (go_at_call 54; (with_reducible refine (Hg11.out _ _ GSW.out GOW.out).mono ?_); rintro x w27 ⟨rfl, hok⟩; replace GOW := Lib.hid hok; clear hok)
    | (go_at_call 55; (with_reducible refine (Hg12.out _ _ GSW.out GOW.out).mono ?_); rintro x w28 ⟨rfl, hok⟩; replace GOW := Lib.hid hok; clear hok)
    | (go_at_call 56; (with_reducible refine (Hg13.out _ _ GSW.out GOW.out).mono ?_); rintro x w29 ⟨rfl, hok⟩; replace GOW := Lib.hid hok; clear hok)
    | (go_at_call 57; (with_reducible refine (Hg14.out _ _ GSW.out GOW.out).mono ?_); rintro x w30 ⟨rfl, hok⟩; replace GOW := Lib.hid hok; clear hok)
    | (go_at_call 58; (with_reducible refine (Hg15.out _ _ GSW.out GOW.out).mono ?_); rintro x w31 ⟨rfl, hok⟩; replace GOW := Lib.hid hok; clear hok)
    | (go_at_call 59; (with_reducible refine (Hg16.out _ _ GSW.out GOW.out).mono ?_); rintro x w32 ⟨rfl, hok⟩; replace GOW := Lib.hid hok; clear hok)
    | (go_at_call 60; (with_reducible refine (Hl1.out _ _ GSW.out GOW.out).mono ?_); rintro x w33 ⟨rfl, hok⟩; replace GOW := Lib.hid hok; clear hok)
    | (go_at_call 61; (with_reducible refine (Hl2.out _ _ GSW.out GOW.out).mono ?_); rintro x w34 ⟨rfl, hok⟩; replace GOW := Lib.hid hok; clear hok)
    | (go_at_call 62; (with_reducible refine (Hl3.out _ _ GSW.out GOW.out).mono ?_); rintro x w35 ⟨rfl, hok⟩; replace GOW := Lib.hid hok; clear hok)
    | (go_at_call 63; (with_reducible refine (Hl4.out _ _ GSW.out GOW.out).mono ?_); rintro x w36 ⟨rfl, hok⟩; replace GOW := Lib.hid hok; clear hok)
    | (go_at_call 64; (with_reducible refine (Hl5.out _ _ GSW.out GOW.out).mono ?_); rintro x w37 ⟨rfl, hok⟩; replace GOW := Lib.hid hok; clear hok)
    | (go_at_call 65; (with_reducible refine (Hl6.out _ _ GSW.out GOW.out).mono ?_); rintro x w38 ⟨rfl, hok⟩; replace GOW := Lib.hid hok; clear hok)
    | (go_at_call 66; (with_reducible refine (Hl7.out _ _ GSW.out GOW.out).mono ?_); rintro x w39 ⟨rfl, hok⟩; replace GOW := Lib.hid hok; clear hok)
    | (go_at_call 67; (with_reducible refine (Hl8.out _ _ GSW.out GOW.out).mono ?_); rintro x w40 ⟨rfl, hok⟩; replace GOW := Lib.hid hok; clear hok)
    | (go_at_call 68; (with_reducible refine (Hl9.out _ _ GSW.out GOW.out).mono ?_); rintro x w41 ⟨rfl, hok⟩; replace GOW := Lib.hid hok; clear hok)
    | (go_at_call 69; (with_reducible refine (Hl10.out _ _ GSW.out GOW.out).mono ?_); rintro x w42 ⟨rfl, hok⟩; replace GOW := Lib.hid hok; clear hok)
    | (go_at_call 70; (with_reducible refine (Hl11.out _ _ GSW.out GOW.out).mono ?_); rintro x w43 ⟨rfl, hok⟩; replace GOW := Lib.hid hok; clear hok)
    | (go_at_call 71; (with_reducible refine (Hl12.out _ _ GSW.out GOW.out).mono ?_); rintro x w44 ⟨rfl, hok⟩; replace GOW := Lib.hid hok; clear hok)
    | (go_at_call 72; (with_reducible refine (Hl13.out _ _ GSW.out GOW.out).mono ?_); rintro x w45 ⟨rfl, hok⟩; replace GOW := Lib.hid hok; clear hok)
    | (go_at_call 73; (with_reducible refine (Hl14.out _ _ GSW.out GOW.out).mono ?_); rintro x w46 ⟨rfl, hok⟩; replace GOW := Lib.hid hok; clear hok)
    | (go_at_call 74; (with_reducible refine (Hl15.out _ _ GSW.out GOW.out).mono ?_); rintro x w47 ⟨rfl, hok⟩; replace GOW := Lib.hid hok; clear hok)
    | (go_at_call 75; (with_reducible refine (Hl16.out _ _ GSW.out GOW.out).mono ?_); rintro x w48 ⟨rfl, hok⟩; replace GOW := Lib.hid hok; clear hok))
  go_ret
  exact ⟨rfl, GOW.out.bk.low⟩
end Go.Proofs.YtmhemajcnfcdmaaGreatDoor.Bk
