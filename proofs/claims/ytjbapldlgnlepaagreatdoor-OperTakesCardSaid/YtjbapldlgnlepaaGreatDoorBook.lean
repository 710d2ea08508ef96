/-
  Walks: what the book does with lists of which it holds none: nothing.
  Conditions: the book lies in block B.
  The book's lists of texts: what the memory holds of them; walks: fillText writes each list's mark into each of its places.
  Conditions: the book, its lists, and what they hold lie in blocks behind a world; no two share a block; the three tables hold what the program's text lays in them.
  Appending to a row of one's own: in place, or into a new block, the old row as it was.
  Conditions: the row is one's own.
  Walks: growText puts forty marks behind each list; lookText finds each mark.
  Conditions: the book, its lists, and what they hold lie in blocks behind a world; no two share a block; the three tables hold what the program's text lays in them.
  Walks: lookText finds each mark.
  Conditions: the book, its lists, and what they hold lie in blocks behind a world; no two share a block; the three tables hold what the program's text lays in them.
  Walks: keepText puts a list of texts into the book.
  Conditions: the book holds lists of texts alone; all lies in blocks of the call's own.
  Walks: Apart answers yes for a book of lists of texts that share no block.
  Conditions: the book holds lists of texts alone, fewer than a hundred; the three tables hold what the program's text lays in them.
-/
import Derived.Test.YtjbapldlgnlepaaGreatDoorShelfI
import Derived.Test.YtjbapldlgnlepaaGreatDoorTakesA
import Derived.Test.YtjbapldlgnlepaaGreatDoorOpPush
import Derived.IntWalk
import Derived.Deep.RegionLaw
import Derived.Deep.AppendLies
namespace Go.Proofs.YtjbapldlgnlepaaGreatDoor
open Go.RowKit Go.Deep Go.WideShapes

theorem fillInt_nil {B : Nat} {w : World} (h : w.cell? ⟨B, 1, none⟩ = some (.slice none 0 0)) : Calls Tryz.prog 22 #[.pointer (some ⟨B, 0, none⟩)] w fun e w' => e = .returned (.tuple #[]) ∧ w = w' := by
  go_enter Tryz.func22, Tryz.ntmps22
  go_wp2_with fail
  go_loopw [2] (fun i wr => i = .int .i64 0 ∧ w = wr) (fun _ _ => 0)
  case atStart => exact ⟨rfl, rfl⟩
  case round =>
    obtain ⟨rfl, rfl⟩ := hrel
    go_wp2_with fail
    go_end0
    exact ⟨rfl, rfl⟩
theorem growInt_nil {B : Nat} {w : World} (h : w.cell? ⟨B, 1, none⟩ = some (.slice none 0 0)) : Calls Tryz.prog 38 #[.pointer (some ⟨B, 0, none⟩)] w fun e w' => e = .returned (.tuple #[]) ∧ w = w' := by
  go_enter Tryz.func38, Tryz.ntmps38
  go_wp2_with fail
  go_loopw [2] (fun i wr => i = .int .i64 0 ∧ w = wr) (fun _ _ => 0)
  case atStart => exact ⟨rfl, rfl⟩
  case round =>
    obtain ⟨rfl, rfl⟩ := hrel
    go_wp2_with fail
    go_end0
    exact ⟨rfl, rfl⟩
theorem lookInt_nil {B : Nat} {w : World} (h : w.cell? ⟨B, 1, none⟩ = some (.slice none 0 0)) : Calls Tryz.prog 54 #[.pointer (some ⟨B, 0, none⟩)] w fun e w' => e = .returned (.bool true) ∧ w = w' := by
  go_enter Tryz.func54, Tryz.ntmps54
  go_wp2_with fail
  go_loopw [3] (fun i wr => i = .int .i64 0 ∧ w = wr) (fun _ _ => 0)
  case atStart => exact ⟨rfl, rfl⟩
  case round =>
    obtain ⟨rfl, rfl⟩ := hrel
    go_wp2_with fail
    go_ret
    exact ⟨rfl, rfl⟩
theorem fillText_nil {B : Nat} {w : World} (h : w.cell? ⟨B, 2, none⟩ = some (.slice none 0 0)) : Calls Tryz.prog 23 #[.pointer (some ⟨B, 0, none⟩)] w fun e w' => e = .returned (.tuple #[]) ∧ w = w' := by
  go_enter Tryz.func23, Tryz.ntmps23
  go_wp2_with fail
  go_loopw [2] (fun i wr => i = .int .i64 0 ∧ w = wr) (fun _ _ => 0)
  case atStart => exact ⟨rfl, rfl⟩
  case round =>
    obtain ⟨rfl, rfl⟩ := hrel
    go_wp2_with fail
    go_end0
    exact ⟨rfl, rfl⟩
theorem growText_nil {B : Nat} {w : World} (h : w.cell? ⟨B, 2, none⟩ = some (.slice none 0 0)) : Calls Tryz.prog 39 #[.pointer (some ⟨B, 0, none⟩)] w fun e w' => e = .returned (.tuple #[]) ∧ w = w' := by
  go_enter Tryz.func39, Tryz.ntmps39
  go_wp2_with fail
  go_loopw [2] (fun i wr => i = .int .i64 0 ∧ w = wr) (fun _ _ => 0)
  case atStart => exact ⟨rfl, rfl⟩
  case round =>
    obtain ⟨rfl, rfl⟩ := hrel
    go_wp2_with fail
    go_end0
    exact ⟨rfl, rfl⟩
theorem lookText_nil {B : Nat} {w : World} (h : w.cell? ⟨B, 2, none⟩ = some (.slice none 0 0)) : Calls Tryz.prog 55 #[.pointer (some ⟨B, 0, none⟩)] w fun e w' => e = .returned (.bool true) ∧ w = w' := by
  go_enter Tryz.func55, Tryz.ntmps55
  go_wp2_with fail
  go_loopw [3] (fun i wr => i = .int .i64 0 ∧ w = wr) (fun _ _ => 0)
  case atStart => exact ⟨rfl, rfl⟩
  case round =>
    obtain ⟨rfl, rfl⟩ := hrel
    go_wp2_with fail
    go_ret
    exact ⟨rfl, rfl⟩
theorem fillValue_nil {B : Nat} {w : World} (h : w.cell? ⟨B, 3, none⟩ = some (.slice none 0 0)) : Calls Tryz.prog 24 #[.pointer (some ⟨B, 0, none⟩)] w fun e w' => e = .returned (.tuple #[]) ∧ w = w' := by
  go_enter Tryz.func24, Tryz.ntmps24
  go_wp2_with fail
  go_loopw [2] (fun i wr => i = .int .i64 0 ∧ w = wr) (fun _ _ => 0)
  case atStart => exact ⟨rfl, rfl⟩
  case round =>
    obtain ⟨rfl, rfl⟩ := hrel
    go_wp2_with fail
    go_end0
    exact ⟨rfl, rfl⟩
theorem growValue_nil {B : Nat} {w : World} (h : w.cell? ⟨B, 3, none⟩ = some (.slice none 0 0)) : Calls Tryz.prog 40 #[.pointer (some ⟨B, 0, none⟩)] w fun e w' => e = .returned (.tuple #[]) ∧ w = w' := by
  go_enter Tryz.func40, Tryz.ntmps40
  go_wp2_with fail
  go_loopw [2] (fun i wr => i = .int .i64 0 ∧ w = wr) (fun _ _ => 0)
  case atStart => exact ⟨rfl, rfl⟩
  case round =>
    obtain ⟨rfl, rfl⟩ := hrel
    go_wp2_with fail
    go_end0
    exact ⟨rfl, rfl⟩
theorem lookValue_nil {B : Nat} {w : World} (h : w.cell? ⟨B, 3, none⟩ = some (.slice none 0 0)) : Calls Tryz.prog 56 #[.pointer (some ⟨B, 0, none⟩)] w fun e w' => e = .returned (.bool true) ∧ w = w' := by
  go_enter Tryz.func56, Tryz.ntmps56
  go_wp2_with fail
  go_loopw [3] (fun i wr => i = .int .i64 0 ∧ w = wr) (fun _ _ => 0)
  case atStart => exact ⟨rfl, rfl⟩
  case round =>
    obtain ⟨rfl, rfl⟩ := hrel
    go_wp2_with fail
    go_ret
    exact ⟨rfl, rfl⟩
theorem fillField_nil {B : Nat} {w : World} (h : w.cell? ⟨B, 4, none⟩ = some (.slice none 0 0)) : Calls Tryz.prog 25 #[.pointer (some ⟨B, 0, none⟩)] w fun e w' => e = .returned (.tuple #[]) ∧ w = w' := by
  go_enter Tryz.func25, Tryz.ntmps25
  go_wp2_with fail
  go_loopw [2] (fun i wr => i = .int .i64 0 ∧ w = wr) (fun _ _ => 0)
  case atStart => exact ⟨rfl, rfl⟩
  case round =>
    obtain ⟨rfl, rfl⟩ := hrel
    go_wp2_with fail
    go_end0
    exact ⟨rfl, rfl⟩
theorem growField_nil {B : Nat} {w : World} (h : w.cell? ⟨B, 4, none⟩ = some (.slice none 0 0)) : Calls Tryz.prog 41 #[.pointer (some ⟨B, 0, none⟩)] w fun e w' => e = .returned (.tuple #[]) ∧ w = w' := by
  go_enter Tryz.func41, Tryz.ntmps41
  go_wp2_with fail
  go_loopw [2] (fun i wr => i = .int .i64 0 ∧ w = wr) (fun _ _ => 0)
  case atStart => exact ⟨rfl, rfl⟩
  case round =>
    obtain ⟨rfl, rfl⟩ := hrel
    go_wp2_with fail
    go_end0
    exact ⟨rfl, rfl⟩
theorem lookField_nil {B : Nat} {w : World} (h : w.cell? ⟨B, 4, none⟩ = some (.slice none 0 0)) : Calls Tryz.prog 57 #[.pointer (some ⟨B, 0, none⟩)] w fun e w' => e = .returned (.bool true) ∧ w = w' := by
  go_enter Tryz.func57, Tryz.ntmps57
  go_wp2_with fail
  go_loopw [3] (fun i wr => i = .int .i64 0 ∧ w = wr) (fun _ _ => 0)
  case atStart => exact ⟨rfl, rfl⟩
  case round =>
    obtain ⟨rfl, rfl⟩ := hrel
    go_wp2_with fail
    go_ret
    exact ⟨rfl, rfl⟩
theorem fillWord_nil {B : Nat} {w : World} (h : w.cell? ⟨B, 5, none⟩ = some (.slice none 0 0)) : Calls Tryz.prog 26 #[.pointer (some ⟨B, 0, none⟩)] w fun e w' => e = .returned (.tuple #[]) ∧ w = w' := by
  go_enter Tryz.func26, Tryz.ntmps26
  go_wp2_with fail
  go_loopw [2] (fun i wr => i = .int .i64 0 ∧ w = wr) (fun _ _ => 0)
  case atStart => exact ⟨rfl, rfl⟩
  case round =>
    obtain ⟨rfl, rfl⟩ := hrel
    go_wp2_with fail
    go_end0
    exact ⟨rfl, rfl⟩
theorem growWord_nil {B : Nat} {w : World} (h : w.cell? ⟨B, 5, none⟩ = some (.slice none 0 0)) : Calls Tryz.prog 42 #[.pointer (some ⟨B, 0, none⟩)] w fun e w' => e = .returned (.tuple #[]) ∧ w = w' := by
  go_enter Tryz.func42, Tryz.ntmps42
  go_wp2_with fail
  go_loopw [2] (fun i wr => i = .int .i64 0 ∧ w = wr) (fun _ _ => 0)
  case atStart => exact ⟨rfl, rfl⟩
  case round =>
    obtain ⟨rfl, rfl⟩ := hrel
    go_wp2_with fail
    go_end0
    exact ⟨rfl, rfl⟩
theorem lookWord_nil {B : Nat} {w : World} (h : w.cell? ⟨B, 5, none⟩ = some (.slice none 0 0)) : Calls Tryz.prog 58 #[.pointer (some ⟨B, 0, none⟩)] w fun e w' => e = .returned (.bool true) ∧ w = w' := by
  go_enter Tryz.func58, Tryz.ntmps58
  go_wp2_with fail
  go_loopw [3] (fun i wr => i = .int .i64 0 ∧ w = wr) (fun _ _ => 0)
  case atStart => exact ⟨rfl, rfl⟩
  case round =>
    obtain ⟨rfl, rfl⟩ := hrel
    go_wp2_with fail
    go_ret
    exact ⟨rfl, rfl⟩
theorem fillChild_nil {B : Nat} {w : World} (h : w.cell? ⟨B, 6, none⟩ = some (.slice none 0 0)) : Calls Tryz.prog 27 #[.pointer (some ⟨B, 0, none⟩)] w fun e w' => e = .returned (.tuple #[]) ∧ w = w' := by
  go_enter Tryz.func27, Tryz.ntmps27
  go_wp2_with fail
  go_loopw [2] (fun i wr => i = .int .i64 0 ∧ w = wr) (fun _ _ => 0)
  case atStart => exact ⟨rfl, rfl⟩
  case round =>
    obtain ⟨rfl, rfl⟩ := hrel
    go_wp2_with fail
    go_end0
    exact ⟨rfl, rfl⟩
theorem growChild_nil {B : Nat} {w : World} (h : w.cell? ⟨B, 6, none⟩ = some (.slice none 0 0)) : Calls Tryz.prog 43 #[.pointer (some ⟨B, 0, none⟩)] w fun e w' => e = .returned (.tuple #[]) ∧ w = w' := by
  go_enter Tryz.func43, Tryz.ntmps43
  go_wp2_with fail
  go_loopw [2] (fun i wr => i = .int .i64 0 ∧ w = wr) (fun _ _ => 0)
  case atStart => exact ⟨rfl, rfl⟩
  case round =>
    obtain ⟨rfl, rfl⟩ := hrel
    go_wp2_with fail
    go_end0
    exact ⟨rfl, rfl⟩
theorem lookChild_nil {B : Nat} {w : World} (h : w.cell? ⟨B, 6, none⟩ = some (.slice none 0 0)) : Calls Tryz.prog 59 #[.pointer (some ⟨B, 0, none⟩)] w fun e w' => e = .returned (.bool true) ∧ w = w' := by
  go_enter Tryz.func59, Tryz.ntmps59
  go_wp2_with fail
  go_loopw [3] (fun i wr => i = .int .i64 0 ∧ w = wr) (fun _ _ => 0)
  case atStart => exact ⟨rfl, rfl⟩
  case round =>
    obtain ⟨rfl, rfl⟩ := hrel
    go_wp2_with fail
    go_ret
    exact ⟨rfl, rfl⟩
theorem fillCell_nil {B : Nat} {w : World} (h : w.cell? ⟨B, 7, none⟩ = some (.slice none 0 0)) : Calls Tryz.prog 28 #[.pointer (some ⟨B, 0, none⟩)] w fun e w' => e = .returned (.tuple #[]) ∧ w = w' := by
  go_enter Tryz.func28, Tryz.ntmps28
  go_wp2_with fail
  go_loopw [2] (fun i wr => i = .int .i64 0 ∧ w = wr) (fun _ _ => 0)
  case atStart => exact ⟨rfl, rfl⟩
  case round =>
    obtain ⟨rfl, rfl⟩ := hrel
    go_wp2_with fail
    go_end0
    exact ⟨rfl, rfl⟩
theorem growCell_nil {B : Nat} {w : World} (h : w.cell? ⟨B, 7, none⟩ = some (.slice none 0 0)) : Calls Tryz.prog 44 #[.pointer (some ⟨B, 0, none⟩)] w fun e w' => e = .returned (.tuple #[]) ∧ w = w' := by
  go_enter Tryz.func44, Tryz.ntmps44
  go_wp2_with fail
  go_loopw [2] (fun i wr => i = .int .i64 0 ∧ w = wr) (fun _ _ => 0)
  case atStart => exact ⟨rfl, rfl⟩
  case round =>
    obtain ⟨rfl, rfl⟩ := hrel
    go_wp2_with fail
    go_end0
    exact ⟨rfl, rfl⟩
theorem lookCell_nil {B : Nat} {w : World} (h : w.cell? ⟨B, 7, none⟩ = some (.slice none 0 0)) : Calls Tryz.prog 60 #[.pointer (some ⟨B, 0, none⟩)] w fun e w' => e = .returned (.bool true) ∧ w = w' := by
  go_enter Tryz.func60, Tryz.ntmps60
  go_wp2_with fail
  go_loopw [3] (fun i wr => i = .int .i64 0 ∧ w = wr) (fun _ _ => 0)
  case atStart => exact ⟨rfl, rfl⟩
  case round =>
    obtain ⟨rfl, rfl⟩ := hrel
    go_wp2_with fail
    go_ret
    exact ⟨rfl, rfl⟩
theorem fillInst_nil {B : Nat} {w : World} (h : w.cell? ⟨B, 8, none⟩ = some (.slice none 0 0)) : Calls Tryz.prog 29 #[.pointer (some ⟨B, 0, none⟩)] w fun e w' => e = .returned (.tuple #[]) ∧ w = w' := by
  go_enter Tryz.func29, Tryz.ntmps29
  go_wp2_with fail
  go_loopw [2] (fun i wr => i = .int .i64 0 ∧ w = wr) (fun _ _ => 0)
  case atStart => exact ⟨rfl, rfl⟩
  case round =>
    obtain ⟨rfl, rfl⟩ := hrel
    go_wp2_with fail
    go_end0
    exact ⟨rfl, rfl⟩
theorem growInst_nil {B : Nat} {w : World} (h : w.cell? ⟨B, 8, none⟩ = some (.slice none 0 0)) : Calls Tryz.prog 45 #[.pointer (some ⟨B, 0, none⟩)] w fun e w' => e = .returned (.tuple #[]) ∧ w = w' := by
  go_enter Tryz.func45, Tryz.ntmps45
  go_wp2_with fail
  go_loopw [2] (fun i wr => i = .int .i64 0 ∧ w = wr) (fun _ _ => 0)
  case atStart => exact ⟨rfl, rfl⟩
  case round =>
    obtain ⟨rfl, rfl⟩ := hrel
    go_wp2_with fail
    go_end0
    exact ⟨rfl, rfl⟩
theorem lookInst_nil {B : Nat} {w : World} (h : w.cell? ⟨B, 8, none⟩ = some (.slice none 0 0)) : Calls Tryz.prog 61 #[.pointer (some ⟨B, 0, none⟩)] w fun e w' => e = .returned (.bool true) ∧ w = w' := by
  go_enter Tryz.func61, Tryz.ntmps61
  go_wp2_with fail
  go_loopw [3] (fun i wr => i = .int .i64 0 ∧ w = wr) (fun _ _ => 0)
  case atStart => exact ⟨rfl, rfl⟩
  case round =>
    obtain ⟨rfl, rfl⟩ := hrel
    go_wp2_with fail
    go_ret
    exact ⟨rfl, rfl⟩
theorem fillAct_nil {B : Nat} {w : World} (h : w.cell? ⟨B, 9, none⟩ = some (.slice none 0 0)) : Calls Tryz.prog 30 #[.pointer (some ⟨B, 0, none⟩)] w fun e w' => e = .returned (.tuple #[]) ∧ w = w' := by
  go_enter Tryz.func30, Tryz.ntmps30
  go_wp2_with fail
  go_loopw [2] (fun i wr => i = .int .i64 0 ∧ w = wr) (fun _ _ => 0)
  case atStart => exact ⟨rfl, rfl⟩
  case round =>
    obtain ⟨rfl, rfl⟩ := hrel
    go_wp2_with fail
    go_end0
    exact ⟨rfl, rfl⟩
theorem growAct_nil {B : Nat} {w : World} (h : w.cell? ⟨B, 9, none⟩ = some (.slice none 0 0)) : Calls Tryz.prog 46 #[.pointer (some ⟨B, 0, none⟩)] w fun e w' => e = .returned (.tuple #[]) ∧ w = w' := by
  go_enter Tryz.func46, Tryz.ntmps46
  go_wp2_with fail
  go_loopw [2] (fun i wr => i = .int .i64 0 ∧ w = wr) (fun _ _ => 0)
  case atStart => exact ⟨rfl, rfl⟩
  case round =>
    obtain ⟨rfl, rfl⟩ := hrel
    go_wp2_with fail
    go_end0
    exact ⟨rfl, rfl⟩
theorem lookAct_nil {B : Nat} {w : World} (h : w.cell? ⟨B, 9, none⟩ = some (.slice none 0 0)) : Calls Tryz.prog 62 #[.pointer (some ⟨B, 0, none⟩)] w fun e w' => e = .returned (.bool true) ∧ w = w' := by
  go_enter Tryz.func62, Tryz.ntmps62
  go_wp2_with fail
  go_loopw [3] (fun i wr => i = .int .i64 0 ∧ w = wr) (fun _ _ => 0)
  case atStart => exact ⟨rfl, rfl⟩
  case round =>
    obtain ⟨rfl, rfl⟩ := hrel
    go_wp2_with fail
    go_ret
    exact ⟨rfl, rfl⟩
theorem fillExpr_nil {B : Nat} {w : World} (h : w.cell? ⟨B, 10, none⟩ = some (.slice none 0 0)) : Calls Tryz.prog 31 #[.pointer (some ⟨B, 0, none⟩)] w fun e w' => e = .returned (.tuple #[]) ∧ w = w' := by
  go_enter Tryz.func31, Tryz.ntmps31
  go_wp2_with fail
  go_loopw [2] (fun i wr => i = .int .i64 0 ∧ w = wr) (fun _ _ => 0)
  case atStart => exact ⟨rfl, rfl⟩
  case round =>
    obtain ⟨rfl, rfl⟩ := hrel
    go_wp2_with fail
    go_end0
    exact ⟨rfl, rfl⟩
theorem growExpr_nil {B : Nat} {w : World} (h : w.cell? ⟨B, 10, none⟩ = some (.slice none 0 0)) : Calls Tryz.prog 47 #[.pointer (some ⟨B, 0, none⟩)] w fun e w' => e = .returned (.tuple #[]) ∧ w = w' := by
  go_enter Tryz.func47, Tryz.ntmps47
  go_wp2_with fail
  go_loopw [2] (fun i wr => i = .int .i64 0 ∧ w = wr) (fun _ _ => 0)
  case atStart => exact ⟨rfl, rfl⟩
  case round =>
    obtain ⟨rfl, rfl⟩ := hrel
    go_wp2_with fail
    go_end0
    exact ⟨rfl, rfl⟩
theorem lookExpr_nil {B : Nat} {w : World} (h : w.cell? ⟨B, 10, none⟩ = some (.slice none 0 0)) : Calls Tryz.prog 63 #[.pointer (some ⟨B, 0, none⟩)] w fun e w' => e = .returned (.bool true) ∧ w = w' := by
  go_enter Tryz.func63, Tryz.ntmps63
  go_wp2_with fail
  go_loopw [3] (fun i wr => i = .int .i64 0 ∧ w = wr) (fun _ _ => 0)
  case atStart => exact ⟨rfl, rfl⟩
  case round =>
    obtain ⟨rfl, rfl⟩ := hrel
    go_wp2_with fail
    go_ret
    exact ⟨rfl, rfl⟩
theorem fillStmt_nil {B : Nat} {w : World} (h : w.cell? ⟨B, 11, none⟩ = some (.slice none 0 0)) : Calls Tryz.prog 32 #[.pointer (some ⟨B, 0, none⟩)] w fun e w' => e = .returned (.tuple #[]) ∧ w = w' := by
  go_enter Tryz.func32, Tryz.ntmps32
  go_wp2_with fail
  go_loopw [2] (fun i wr => i = .int .i64 0 ∧ w = wr) (fun _ _ => 0)
  case atStart => exact ⟨rfl, rfl⟩
  case round =>
    obtain ⟨rfl, rfl⟩ := hrel
    go_wp2_with fail
    go_end0
    exact ⟨rfl, rfl⟩
theorem growStmt_nil {B : Nat} {w : World} (h : w.cell? ⟨B, 11, none⟩ = some (.slice none 0 0)) : Calls Tryz.prog 48 #[.pointer (some ⟨B, 0, none⟩)] w fun e w' => e = .returned (.tuple #[]) ∧ w = w' := by
  go_enter Tryz.func48, Tryz.ntmps48
  go_wp2_with fail
  go_loopw [2] (fun i wr => i = .int .i64 0 ∧ w = wr) (fun _ _ => 0)
  case atStart => exact ⟨rfl, rfl⟩
  case round =>
    obtain ⟨rfl, rfl⟩ := hrel
    go_wp2_with fail
    go_end0
    exact ⟨rfl, rfl⟩
theorem lookStmt_nil {B : Nat} {w : World} (h : w.cell? ⟨B, 11, none⟩ = some (.slice none 0 0)) : Calls Tryz.prog 64 #[.pointer (some ⟨B, 0, none⟩)] w fun e w' => e = .returned (.bool true) ∧ w = w' := by
  go_enter Tryz.func64, Tryz.ntmps64
  go_wp2_with fail
  go_loopw [3] (fun i wr => i = .int .i64 0 ∧ w = wr) (fun _ _ => 0)
  case atStart => exact ⟨rfl, rfl⟩
  case round =>
    obtain ⟨rfl, rfl⟩ := hrel
    go_wp2_with fail
    go_ret
    exact ⟨rfl, rfl⟩
theorem fillComponent_nil {B : Nat} {w : World} (h : w.cell? ⟨B, 12, none⟩ = some (.slice none 0 0)) : Calls Tryz.prog 33 #[.pointer (some ⟨B, 0, none⟩)] w fun e w' => e = .returned (.tuple #[]) ∧ w = w' := by
  go_enter Tryz.func33, Tryz.ntmps33
  go_wp2_with fail
  go_loopw [2] (fun i wr => i = .int .i64 0 ∧ w = wr) (fun _ _ => 0)
  case atStart => exact ⟨rfl, rfl⟩
  case round =>
    obtain ⟨rfl, rfl⟩ := hrel
    go_wp2_with fail
    go_end0
    exact ⟨rfl, rfl⟩
theorem growComponent_nil {B : Nat} {w : World} (h : w.cell? ⟨B, 12, none⟩ = some (.slice none 0 0)) : Calls Tryz.prog 49 #[.pointer (some ⟨B, 0, none⟩)] w fun e w' => e = .returned (.tuple #[]) ∧ w = w' := by
  go_enter Tryz.func49, Tryz.ntmps49
  go_wp2_with fail
  go_loopw [2] (fun i wr => i = .int .i64 0 ∧ w = wr) (fun _ _ => 0)
  case atStart => exact ⟨rfl, rfl⟩
  case round =>
    obtain ⟨rfl, rfl⟩ := hrel
    go_wp2_with fail
    go_end0
    exact ⟨rfl, rfl⟩
theorem lookComponent_nil {B : Nat} {w : World} (h : w.cell? ⟨B, 12, none⟩ = some (.slice none 0 0)) : Calls Tryz.prog 65 #[.pointer (some ⟨B, 0, none⟩)] w fun e w' => e = .returned (.bool true) ∧ w = w' := by
  go_enter Tryz.func65, Tryz.ntmps65
  go_wp2_with fail
  go_loopw [3] (fun i wr => i = .int .i64 0 ∧ w = wr) (fun _ _ => 0)
  case atStart => exact ⟨rfl, rfl⟩
  case round =>
    obtain ⟨rfl, rfl⟩ := hrel
    go_wp2_with fail
    go_ret
    exact ⟨rfl, rfl⟩
theorem fillNode_nil {B : Nat} {w : World} (h : w.cell? ⟨B, 13, none⟩ = some (.slice none 0 0)) : Calls Tryz.prog 34 #[.pointer (some ⟨B, 0, none⟩)] w fun e w' => e = .returned (.tuple #[]) ∧ w = w' := by
  go_enter Tryz.func34, Tryz.ntmps34
  go_wp2_with fail
  go_loopw [2] (fun i wr => i = .int .i64 0 ∧ w = wr) (fun _ _ => 0)
  case atStart => exact ⟨rfl, rfl⟩
  case round =>
    obtain ⟨rfl, rfl⟩ := hrel
    go_wp2_with fail
    go_end0
    exact ⟨rfl, rfl⟩
theorem growNode_nil {B : Nat} {w : World} (h : w.cell? ⟨B, 13, none⟩ = some (.slice none 0 0)) : Calls Tryz.prog 50 #[.pointer (some ⟨B, 0, none⟩)] w fun e w' => e = .returned (.tuple #[]) ∧ w = w' := by
  go_enter Tryz.func50, Tryz.ntmps50
  go_wp2_with fail
  go_loopw [2] (fun i wr => i = .int .i64 0 ∧ w = wr) (fun _ _ => 0)
  case atStart => exact ⟨rfl, rfl⟩
  case round =>
    obtain ⟨rfl, rfl⟩ := hrel
    go_wp2_with fail
    go_end0
    exact ⟨rfl, rfl⟩
theorem lookNode_nil {B : Nat} {w : World} (h : w.cell? ⟨B, 13, none⟩ = some (.slice none 0 0)) : Calls Tryz.prog 66 #[.pointer (some ⟨B, 0, none⟩)] w fun e w' => e = .returned (.bool true) ∧ w = w' := by
  go_enter Tryz.func66, Tryz.ntmps66
  go_wp2_with fail
  go_loopw [3] (fun i wr => i = .int .i64 0 ∧ w = wr) (fun _ _ => 0)
  case atStart => exact ⟨rfl, rfl⟩
  case round =>
    obtain ⟨rfl, rfl⟩ := hrel
    go_wp2_with fail
    go_ret
    exact ⟨rfl, rfl⟩
theorem fillOp_nil {B : Nat} {w : World} (h : w.cell? ⟨B, 14, none⟩ = some (.slice none 0 0)) : Calls Tryz.prog 35 #[.pointer (some ⟨B, 0, none⟩)] w fun e w' => e = .returned (.tuple #[]) ∧ w = w' := by
  go_enter Tryz.func35, Tryz.ntmps35
  go_wp2_with fail
  go_loopw [2] (fun i wr => i = .int .i64 0 ∧ w = wr) (fun _ _ => 0)
  case atStart => exact ⟨rfl, rfl⟩
  case round =>
    obtain ⟨rfl, rfl⟩ := hrel
    go_wp2_with fail
    go_end0
    exact ⟨rfl, rfl⟩
theorem growOp_nil {B : Nat} {w : World} (h : w.cell? ⟨B, 14, none⟩ = some (.slice none 0 0)) : Calls Tryz.prog 51 #[.pointer (some ⟨B, 0, none⟩)] w fun e w' => e = .returned (.tuple #[]) ∧ w = w' := by
  go_enter Tryz.func51, Tryz.ntmps51
  go_wp2_with fail
  go_loopw [2] (fun i wr => i = .int .i64 0 ∧ w = wr) (fun _ _ => 0)
  case atStart => exact ⟨rfl, rfl⟩
  case round =>
    obtain ⟨rfl, rfl⟩ := hrel
    go_wp2_with fail
    go_end0
    exact ⟨rfl, rfl⟩
theorem lookOp_nil {B : Nat} {w : World} (h : w.cell? ⟨B, 14, none⟩ = some (.slice none 0 0)) : Calls Tryz.prog 67 #[.pointer (some ⟨B, 0, none⟩)] w fun e w' => e = .returned (.bool true) ∧ w = w' := by
  go_enter Tryz.func67, Tryz.ntmps67
  go_wp2_with fail
  go_loopw [3] (fun i wr => i = .int .i64 0 ∧ w = wr) (fun _ _ => 0)
  case atStart => exact ⟨rfl, rfl⟩
  case round =>
    obtain ⟨rfl, rfl⟩ := hrel
    go_wp2_with fail
    go_ret
    exact ⟨rfl, rfl⟩
theorem fillNote_nil {B : Nat} {w : World} (h : w.cell? ⟨B, 15, none⟩ = some (.slice none 0 0)) : Calls Tryz.prog 36 #[.pointer (some ⟨B, 0, none⟩)] w fun e w' => e = .returned (.tuple #[]) ∧ w = w' := by
  go_enter Tryz.func36, Tryz.ntmps36
  go_wp2_with fail
  go_loopw [2] (fun i wr => i = .int .i64 0 ∧ w = wr) (fun _ _ => 0)
  case atStart => exact ⟨rfl, rfl⟩
  case round =>
    obtain ⟨rfl, rfl⟩ := hrel
    go_wp2_with fail
    go_end0
    exact ⟨rfl, rfl⟩
theorem growNote_nil {B : Nat} {w : World} (h : w.cell? ⟨B, 15, none⟩ = some (.slice none 0 0)) : Calls Tryz.prog 52 #[.pointer (some ⟨B, 0, none⟩)] w fun e w' => e = .returned (.tuple #[]) ∧ w = w' := by
  go_enter Tryz.func52, Tryz.ntmps52
  go_wp2_with fail
  go_loopw [2] (fun i wr => i = .int .i64 0 ∧ w = wr) (fun _ _ => 0)
  case atStart => exact ⟨rfl, rfl⟩
  case round =>
    obtain ⟨rfl, rfl⟩ := hrel
    go_wp2_with fail
    go_end0
    exact ⟨rfl, rfl⟩
theorem lookNote_nil {B : Nat} {w : World} (h : w.cell? ⟨B, 15, none⟩ = some (.slice none 0 0)) : Calls Tryz.prog 68 #[.pointer (some ⟨B, 0, none⟩)] w fun e w' => e = .returned (.bool true) ∧ w = w' := by
  go_enter Tryz.func68, Tryz.ntmps68
  go_wp2_with fail
  go_loopw [3] (fun i wr => i = .int .i64 0 ∧ w = wr) (fun _ _ => 0)
  case atStart => exact ⟨rfl, rfl⟩
  case round =>
    obtain ⟨rfl, rfl⟩ := hrel
    go_wp2_with fail
    go_ret
    exact ⟨rfl, rfl⟩
theorem fillResource_nil {B : Nat} {w : World} (h : w.cell? ⟨B, 16, none⟩ = some (.slice none 0 0)) : Calls Tryz.prog 37 #[.pointer (some ⟨B, 0, none⟩)] w fun e w' => e = .returned (.tuple #[]) ∧ w = w' := by
  go_enter Tryz.func37, Tryz.ntmps37
  go_wp2_with fail
  go_loopw [2] (fun i wr => i = .int .i64 0 ∧ w = wr) (fun _ _ => 0)
  case atStart => exact ⟨rfl, rfl⟩
  case round =>
    obtain ⟨rfl, rfl⟩ := hrel
    go_wp2_with fail
    go_end0
    exact ⟨rfl, rfl⟩
theorem growResource_nil {B : Nat} {w : World} (h : w.cell? ⟨B, 16, none⟩ = some (.slice none 0 0)) : Calls Tryz.prog 53 #[.pointer (some ⟨B, 0, none⟩)] w fun e w' => e = .returned (.tuple #[]) ∧ w = w' := by
  go_enter Tryz.func53, Tryz.ntmps53
  go_wp2_with fail
  go_loopw [2] (fun i wr => i = .int .i64 0 ∧ w = wr) (fun _ _ => 0)
  case atStart => exact ⟨rfl, rfl⟩
  case round =>
    obtain ⟨rfl, rfl⟩ := hrel
    go_wp2_with fail
    go_end0
    exact ⟨rfl, rfl⟩
theorem lookResource_nil {B : Nat} {w : World} (h : w.cell? ⟨B, 16, none⟩ = some (.slice none 0 0)) : Calls Tryz.prog 69 #[.pointer (some ⟨B, 0, none⟩)] w fun e w' => e = .returned (.bool true) ∧ w = w' := by
  go_enter Tryz.func69, Tryz.ntmps69
  go_wp2_with fail
  go_loopw [3] (fun i wr => i = .int .i64 0 ∧ w = wr) (fun _ _ => 0)
  case atStart => exact ⟨rfl, rfl⟩
  case round =>
    obtain ⟨rfl, rfl⟩ := hrel
    go_wp2_with fail
    go_ret
    exact ⟨rfl, rfl⟩
end Go.Proofs.YtjbapldlgnlepaaGreatDoor
namespace Go.Proofs.YtjbapldlgnlepaaGreatDoor
open Go.RowKit Go.Deep Go.WideShapes

def mkT (n : Int) : Value := .string (wordB n)

/-- What the book is told: m lists of texts (the i-th at sa i, as long as ln i, with room for sc i, its number N i), the book in block B, its list of them in block T. -/
structure BkS (w0 : World) (B T m c : Nat) (sa : Nat → Option Addr) (ln sc : Nat → Nat) (N : Nat → Int) : Prop where
  tabs : Tabs w0
  hB : w0.heap.size ≤ B
  hT : w0.heap.size ≤ T
  hBT : B ≠ T
  hmc : m ≤ c ∧ c ≤ maxLen
  nrg : ∀ i, i < m → -9223372036854775808 ≤ N i ∧ N i ≤ 9223372036854775807
  lnb : ∀ i, i < m → ln i ≤ 1099511627776
  nb : ∀ i, i < m → ∀ b, sa i = some ⟨b, 0, none⟩ → b ≠ B ∧ b ≠ T
  ap : ∀ i, i < m → ∀ j, j < m → i ≠ j → ∀ b, sa i = some ⟨b, 0, none⟩ → sa j ≠ some ⟨b, 0, none⟩

/-- .. as a later world holds it. -/
structure BkT (w0 : World) (B T m c : Nat) (sa : Nat → Option Addr) (ln sc : Nat → Nat) (N : Nat → Int) (W : World) : Prop where
  low : Below w0.heap.size w0 W
  fld : W.cell? ⟨B, 2, none⟩ = some (.slice (some ⟨T, 0, none⟩) m c)
  ent : ∀ i, i < m → W.cell? ⟨T, i * 3, none⟩ = some (.slice (sa i) (ln i) (sc i)) ∧ (∃ a l q, W.cell? ⟨T, i * 3 + 1, none⟩ = some (.slice a l q)) ∧ W.cell? ⟨T, i * 3 + 2, none⟩ = some (.int .i64 (N i))
  frz : ∀ j, j < m * 3 → W.frozen? ⟨T, j, none⟩ = false
  oth : ∀ j, j < 17 → j ≠ 0 → j ≠ 2 → W.cell? ⟨B, j, none⟩ = some (.slice none 0 0)
section
variable {w0 : World} {B T m c : Nat} {sa : Nat → Option Addr} {ln sc : Nat → Nat} {N : Nat → Int} {W W' : World}
theorem BkT.below (h : BkT w0 B T m c sa ln sc N W) (hb : Below W.heap.size W W') : BkT w0 B T m c sa ln sc N W' := by
  have hc : ∀ {a : Addr} {v : Value}, W.cell? a = some v → W'.cell? a = some v := fun e => by rw [hb.cell (World.block_lt_of_cell? _ _ e), e]
  refine ⟨h.low.trans (hb.mono h.low.size), hc h.fld, fun i hi => ?_, fun j hj => ?_, fun j h1 h2 h3 => hc (h.oth j h1 h2 h3)⟩
  · obtain ⟨h1, ⟨a, l, q, h2⟩, h3⟩ := h.ent i hi
    exact ⟨hc h1, ⟨a, l, q, hc h2⟩, hc h3⟩
  · have h1 := (h.ent 0 (by omega)).1
    have hlt := World.block_lt_of_cell? _ _ h1
    rw [hb.frozen (p := ⟨T, j, none⟩) hlt]
    exact h.frz j hj
theorem BkT.step {g : Nat} (h : BkT w0 B T m c sa ln sc N W) (hg : W.grownBy W' (some g)) (hge : w0.heap.size ≤ g) (h1 : g ≠ B) (h2 : g ≠ T) : BkT w0 B T m c sa ln sc N W' := by
  have hc : ∀ {a : Addr} {v : Value}, a.block ≠ g → W.cell? a = some v → W'.cell? a = some v := fun hne e => hg.cell e (by simpa using hne)
  refine ⟨h.low.grown hg h.low.size (fun k e => by cases e; exact hge), hc (Ne.symm h1) h.fld, fun i hi => ?_, fun j hj => ?_, fun j q1 q2 q3 => hc (Ne.symm h1) (h.oth j q1 q2 q3)⟩
  · obtain ⟨e1, ⟨a, l, q, e2⟩, e3⟩ := h.ent i hi
    exact ⟨hc (Ne.symm h2) e1, ⟨a, l, q, hc (Ne.symm h2) e2⟩, hc (Ne.symm h2) e3⟩
  · have e1 := (h.ent 0 (by omega)).1
    have hlt := World.block_lt_of_cell? _ _ e1
    rw [World.frozen?_of_block (hg.block T hlt (by simpa using Ne.symm h2))]
    exact h.frz j hj

/-- The lists' places, each filled with its mark from the first one on, as far as f says. -/
def RowsF (w0 : World) (m : Nat) (sa : Nat → Option Addr) (ln sc : Nat → Nat) (N : Nat → Int) (f : Nat → Nat) (W : World) : Prop :=
  ∀ j, j < m → ∃ X, W.ownsRow w0.heap.size 9 1 (.slice (sa j) (ln j) (sc j)) (ln j) X ∧ ∀ q, q < f j → X[q]? = some (mkT (N j))
variable {f f' : Nat → Nat}
theorem RowsF.below (h : RowsF w0 m sa ln sc N f W) (hb : Below W.heap.size W W') : RowsF w0 m sa ln sc N f W' := fun j hj => let ⟨X, h1, h2⟩ := h j hj; ⟨X, ownsRow_below h1 hb, h2⟩
theorem RowsF.mono (h : RowsF w0 m sa ln sc N f W) (hf : ∀ j, j < m → f' j ≤ f j) : RowsF w0 m sa ln sc N f' W := fun j hj => let ⟨X, h1, h2⟩ := h j hj; ⟨X, h1, fun q hq => h2 q (Nat.lt_of_lt_of_le hq (hf j hj))⟩
theorem RowsF.at (h : RowsF w0 m sa ln sc N f W) {i : Nat} (hi : i < m) (h0 : 0 < ln i) : ∃ g, sa i = some ⟨g, 0, none⟩ ∧ w0.heap.size ≤ g ∧ g < W.heap.size ∧ (∀ k, k < ln i → ∃ u, W.cell? ⟨g, k, none⟩ = some u) ∧ ∀ k, W.frozen? ⟨g, k, none⟩ = false := by
  obtain ⟨X, h1, -⟩ := h i hi
  have hl := h1.1
  rcases h1.2 with ⟨e, -⟩ | ⟨g, cap, cur, e, hbase, hb, rest⟩
  · simp only [Value.slice.injEq] at e
    omega
  · simp only [Value.slice.injEq] at e
    obtain ⟨e1, -, e3⟩ := e
    rw [e1] at h1
    refine ⟨g, e1, hbase, (Array.getElem?_eq_some_iff.1 hb).1, fun k hk => ?_, fun k => h1.frozenAt k⟩
    refine ⟨X[k]'(by omega), ?_⟩
    rw [h1.cellAt k (by omega), List.getElem?_eq_getElem]
theorem RowsF.store (hs : BkS w0 B T m c sa ln sc N) (h : RowsF w0 m sa ln sc N f W) {i g k : Nat} (hi : i < m) (he : sa i = some ⟨g, 0, none⟩) (hk : k < ln i) (hf : f i = k) :
    W.grownBy (W.setCell ⟨g, k, none⟩ (mkT (N i))) (some g) ∧ RowsF w0 m sa ln sc N (fun j => if j = i then k + 1 else f j) (W.setCell ⟨g, k, none⟩ (mkT (N i))) := by
  obtain ⟨X, h1, h2⟩ := h i hi
  rw [he] at h1
  obtain ⟨h3, h4⟩ := h1.stored k (mkT (N i))
  have hl := h1.1
  refine ⟨h4, fun j hj => ?_⟩
  dsimp only
  by_cases hji : j = i
  · subst hji
    rw [he, if_pos rfl]
    refine ⟨_, h3, fun q hq => ?_⟩
    by_cases hqk : q = k
    · subst hqk
      rw [List.getElem?_set, if_pos rfl, if_pos (by omega)]
    · rw [List.getElem?_set, if_neg (Ne.symm hqk)]
      exact h2 q (by omega)
  · obtain ⟨Y, h5, h6⟩ := h j hj
    rw [if_neg hji]
    refine ⟨Y, h5.kept h4 ?_, h6⟩
    have := hs.ap i hi j hj (Ne.symm hji) g he
    cases hsa : sa j with
    | none => exact .inl rfl
    | some a =>
      right
      intro e
      have e2 : a.block = g := by simpa [Value.ownBlock] using e
      rcases h5.2 with ⟨e3, -⟩ | ⟨g', cap, cur, e3, -⟩
      · rw [hsa] at e3; simp at e3
      · rw [hsa] at e3
        simp only [Value.slice.injEq, Option.some.injEq] at e3
        rw [hsa, e3.1] at this
        rw [e3.1] at e2
        exact this (by rw [← e2])
end

/-- How many places of the j-th list are filled: of those ahead of the i-th all, of the i-th k. -/
def fillF (ln : Nat → Nat) (i k : Nat) : Nat → Nat := fun j => if j < i then ln j else if j = i then k else 0
/-- Within a round: the list's own copy in block h. -/
structure FI (w0 : World) (B T m c : Nat) (sa : Nat → Option Addr) (ln sc : Nat → Nat) (N : Nat → Int) (i k hb : Nat) (v : Value) (W : World) : Prop where
  bk : BkT w0 B T m c sa ln sc N W
  rows : RowsF w0 m sa ln sc N (fillF ln i k) W
  hat : At W hb 0 [.slice (sa i) (ln i) (sc i), v, .int .i64 (N i)]
  hne : ∀ j, j < m → sa j ≠ some ⟨hb, 0, none⟩
section
variable {w0 : World} {B T m c : Nat} {sa : Nat → Option Addr} {ln sc : Nat → Nat} {N : Nat → Int} {W W' : World} {i k hb : Nat} {v : Value}
theorem FI.below (h : FI w0 B T m c sa ln sc N i k hb v W) (hl : Below W.heap.size W W') : FI w0 B T m c sa ln sc N i k hb v W' := ⟨h.bk.below hl, h.rows.below hl, h.hat.below hl, h.hne⟩
theorem FI.store (hs : BkS w0 B T m c sa ln sc N) (h : FI w0 B T m c sa ln sc N i k hb v W) {g : Nat} (hi : i < m) (he : sa i = some ⟨g, 0, none⟩) (hk : k < ln i) : FI w0 B T m c sa ln sc N i (k + 1) hb v (W.setCell ⟨g, k, none⟩ (mkT (N i))) := by
  obtain ⟨g2, e2, hge, hlt, -⟩ := h.rows.at hi (by omega)
  rw [he] at e2
  simp only [Option.some.injEq, Addr.mk.injEq, and_true] at e2
  subst e2
  have hn := hs.nb i hi g he
  obtain ⟨h1, h2⟩ := h.rows.store hs hi he hk (by simp [fillF])
  have hgh : g ≠ hb := fun e => h.hne i hi (by rw [he, e])
  refine ⟨h.bk.step h1 hge hn.1 hn.2, h2.mono fun j hj => ?_, fun q hq => ?_, h.hne⟩
  · unfold fillF
    by_cases h3 : j = i
    · subst h3; simp
    · simp [h3]
  · have := h.hat q hq
    rw [List.getElem?_eq_getElem hq] at this ⊢
    exact h1.cell this (by simpa using Ne.symm hgh)
theorem RowsF.lt {f : Nat → Nat} (h : RowsF w0 m sa ln sc N f W) {j b : Nat} (hj : j < m) (e : sa j = some ⟨b, 0, none⟩) : b < W.heap.size := by
  obtain ⟨X, h1, -⟩ := h j hj
  exact (h1.lt b (by rw [e]; rfl)).2
theorem FI.start {T' : TypeId} (h : BkT w0 B T m c sa ln sc N W) (hr : RowsF w0 m sa ln sc N (fillF ln i 0) W) : FI w0 B T m c sa ln sc N i 0 W.heap.size v (W.alloc (.cells #[.slice (sa i) (ln i) (sc i), v, .int .i64 (N i)] T')) :=
  ⟨h.below (below_alloc _ _), hr.below (below_alloc _ _), at_new rfl (Below.refl _ _), fun _ hj e => absurd (hr.lt hj e) (Nat.lt_irrefl _)⟩
/-- What the round reads. -/
theorem FI.cells (h : FI w0 B T m c sa ln sc N i k hb v W) {g : Nat} (hi : i < m) (hk : k < ln i) (he : sa i = some ⟨g, 0, none⟩) :
    W.cell? ⟨hb, 0, none⟩ = some (.slice (some ⟨g, 0, none⟩) (ln i) (sc i)) ∧ W.cell? ⟨hb, 1, none⟩ = some v ∧ W.cell? ⟨hb, 2, none⟩ = some (.int .i64 (N i)) ∧ W.cell? ⟨g, k, none⟩ = some (rs W g k) ∧ W.frozen? ⟨g, k, none⟩ = false := by
  obtain ⟨g2, e2, -, -, h3, h4⟩ := h.rows.at hi (by omega)
  rw [he] at e2
  simp only [Option.some.injEq, Addr.mk.injEq, and_true] at e2
  subst e2
  obtain ⟨u, hu⟩ := h3 k hk
  rw [← he]
  exact ⟨h.hat 0 (by decide : 0 < 3), h.hat 1 (by decide : 1 < 3), h.hat 2 (by decide : 2 < 3), rs_some hu, h4 k⟩
theorem FI.len (h : FI w0 B T m c sa ln sc N i k hb v W) : W.cell? ⟨hb, 0, none⟩ = some (.slice (sa i) (ln i) (sc i)) := h.hat 0 (by decide : 0 < 3)
end

set_option maxRecDepth 100000 in
set_option maxHeartbeats 4000000 in
theorem fillText_any {w0 : World} {B T m c : Nat} {sa : Nat → Option Addr} {ln sc : Nat → Nat} {N : Nat → Int} {w : World} (hs : BkS w0 B T m c sa ln sc N) (h : BkT w0 B T m c sa ln sc N w) (hr : RowsF w0 m sa ln sc N (fun _ => 0) w) :
    Calls Tryz.prog 23 #[.pointer (some ⟨B, 0, none⟩)] w fun e w' => e = .returned (.tuple #[]) ∧ BkT w0 B T m c sa ln sc N w' ∧ RowsF w0 m sa ln sc N ln w' := by
  have HS := Lib.hid hs
  have OK0 := Lib.hid (And.intro h (hr.mono (f' := fillF ln 0 0) (by intro j hj; simp [fillF])))
  have HM := Lib.hid (fun i (hi : i < m) W (hb : BkT w0 B T m c sa ln sc N W) => markText_any (N i) (hs.nrg i hi) W (hs.tabs.below hb.low))
  clear h hr hs
  go_enter Tryz.func23, Tryz.ntmps23
  go_wp2_with fail
  go_loopw [2] (fun i wr => ∃ k : Nat, k ≤ m ∧ i = .int .i64 k ∧ BkT w0 B T m c sa ln sc N wr ∧ RowsF w0 m sa ln sc N (fillF ln k 0) wr) (fun i _ => m - (intOf i).toNat)
  case atStart => exact ⟨0, Nat.zero_le _, rfl, OK0.out⟩
  case round =>
    clear OK0
    obtain ⟨i, hi, rfl, ok⟩ := hrel
    have OK := Lib.hid ok
    clear ok
    have b2 := OK.out.1.fld
    have hmc := HS.out.hmc
    unfold maxLen at hmc
    obtain ⟨hm1, hm2⟩ := hmc
    by_cases hlt : i < m
    · have hlt' : (i : Int) < (m : Int) := by omega
      have hi0 : (0 : Int) ≤ (i : Int) := by omega
      obtain ⟨e0, ⟨va, vl, vq, e1⟩, e2⟩ := OK.out.1.ent i hlt
      have hln := HS.out.lnb i hlt
      have HF := Lib.hid (FI.start (v := .slice va vl vq) (T' := 89) OK.out.1 OK.out.2)
      go_upto_region 4 with fail
      revert HF
      generalize wr.alloc (.cells #[.slice (sa i) (ln i) (sc i), .slice va vl vq, .int .i64 (N i)] 89) = W1
      generalize wr.heap.size = hb
      intro HF
      clear OK e0 e1 e2 b2
      go_wp2_with fail
      go_loopw [4] (fun kk wr => ∃ k : Nat, k ≤ ln i ∧ kk = .int .i64 k ∧ FI w0 B T m c sa ln sc N i k hb (.slice va vl vq) wr) (fun kk _ => ln i - (intOf kk).toNat)
      case atStart => exact ⟨0, Nat.zero_le _, rfl, HF.out⟩
      case round =>
        clear HF
        obtain ⟨k, hk, rfl, ok⟩ := hrel
        have OK := Lib.hid ok
        clear ok
        by_cases hkl : k < ln i
        · obtain ⟨g, he, -⟩ := OK.out.rows.at hlt (by omega)
          have hkl' : (k : Int) < (ln i : Int) := by omega
          have hk0 : (0 : Int) ≤ (k : Int) := by omega
          have KN := Lib.hid (fun W (h : FI w0 B T m c sa ln sc N i k hb (.slice va vl vq) W) => h.cells hlt hkl he)
          have ST := Lib.hid (fun W (h : FI w0 B T m c sa ln sc N i k hb (.slice va vl vq) W) => h.store HS.out hlt he hkl)
          have HMi := Lib.hid (fun W (h : FI w0 B T m c sa ln sc N i k hb (.slice va vl vq) W) => HM.out i hlt W h.bk)
          unfold mkT at ST
          obtain ⟨c0, c1, c2, c3, z3⟩ := KN.out _ OK.out
          clear he
          go_upto_region 7 with fail
          go_region_with (go_at_call 99; (with_reducible refine (HMi.out _ ?_).mono ?_); (first | exact OK.out | exact OK.out.below (Below.refl _ _).drew); rintro x w1 ⟨rfl, hb1⟩; (first | replace OK := Lib.hid (OK.out.below hb1) | replace OK := Lib.hid ((OK.out.below (Below.refl _ _).drew).below hb1)); clear hb1; clear c0 c1 c2 c3 z3; obtain ⟨c0, c1, c2, c3, z3⟩ := KN.out _ OK.out)
          all_goals go_wp2_with fail
          all_goals refine ⟨⟨k + 1, hkl, by go_num, ST.out _ OK.out⟩, by simp [intOf]; omega⟩
        · obtain rfl : k = ln i := by omega
          have c0 := OK.out.len
          have hkl' : ¬ (ln i : Int) < (ln i : Int) := by omega
          go_wp2_with fail
          refine ⟨⟨i + 1, hlt, by go_num, OK.out.bk, OK.out.rows.mono fun j hj => ?_⟩, by simp [intOf]; omega⟩
          unfold fillF
          split <;> split <;> (try split) <;> first | omega | (subst_vars; omega)
    · obtain rfl : i = m := by omega
      go_wp2_with fail
      go_end0
      exact ⟨rfl, OK.out.1, OK.out.2.mono (by intro j hj; simp [fillF, hj])⟩
end Go.Proofs.YtjbapldlgnlepaaGreatDoor
namespace Go.Proofs.YtjbapldlgnlepaaGreatDoor
open Go.RowKit Go.Deep Go.WideShapes

theorem own_base {W : World} {b b' n sz : Nat} {T : TypeId} {v : Value} {xs : List Value} (hb : b ≤ b') (h : W.ownsRow b' T sz v n xs) : W.ownsRow b T sz v n xs := by
  refine ⟨h.1, ?_⟩
  rcases h.2 with h0 | ⟨g, cap, cur, e, hbase, rest⟩
  · exact .inl h0
  · exact .inr ⟨g, cap, cur, e, Nat.le_trans hb hbase, rest⟩
/-- The row's beginning. -/
theorem own_take {W : World} {b n k g cp : Nat} {T : TypeId} {xs : List Value} (h : W.ownsRow b T 1 (.slice (some ⟨g, 0, none⟩) n cp) n xs) (hk : k ≤ n) : W.ownsRow b T 1 (.slice (some ⟨g, 0, none⟩) k cp) k (xs.take k) := by
  have hl := h.1
  rcases h.2 with ⟨e, -⟩ | ⟨g', cap', cur, e, hbase, hb, h1, h2, h3, h4⟩
  · cases e
  cases e
  refine ⟨by rw [List.length_take, hl]; omega, .inr ⟨g, cp, cur, rfl, hbase, hb, by omega, h2, h3, ?_⟩⟩
  rw [← h4, List.take_take]
  congr 1
  omega

theorem append_two {P : Program} (w : World) (base : Nat) (t ty e : TypeId) (i : TypeInfo) (z : Value) (size bytes : Nat) (ht : P.underlying t = some (.slice e)) (hi : P.info? e = some i) (hz : i.zero = some z)
    (hsize : i.size = size) (hby : i.bytes = bytes) (hzs : z.cells.size = size) (hsz : 0 < size)
    (v : Value) (n : Nat) (xs : List Value) (hown : w.ownsRow base e size v n xs)
    (a : Addr) (m c : Nat) (news : List Value) (hl : news.length = m * size) (hnews : ∀ j u, news[j]? = some u → w.cell? (a.add j) = some u) (h1 : ∀ u ∈ news, u.oneCell' = true) (hm : 0 < m)
    (h63 : n + m ≤ maxLen) (hbytes : (n + m) * bytes ≤ 140737488355328) (hbase : base ≤ w.heap.size) :
    ∃ v' w', (Builtin.append_ #[t, t] ty #[v, .slice (some a) m c]).run P w = .ok v' w' ∧ w'.ownsRow base e size v' (n + m) (xs ++ news) ∧
      ((∃ g cap, v = .slice (some ⟨g, 0, none⟩) n cap ∧ v' = .slice (some ⟨g, 0, none⟩) (n + m) cap ∧ w.grownBy w' (some g)) ∨ (w.grownBy w' none ∧ ∃ g cap, v' = .slice (some ⟨g, 0, none⟩) (n + m) cap ∧ w.heap.size ≤ g)) := by
  rcases hown.2 with ⟨hv, hn⟩ | ⟨g, cap, cur, hv, hbg, hg, hnc, hcm, hcs, htake⟩
  · have h0 : w.ownsRow w.heap.size e size v n xs := ⟨hown.1, .inl ⟨hv, hn⟩⟩
    obtain ⟨v', w', hr, h2, h3, -⟩ := run_append_own (P := P) w w.heap.size t ty e i z size bytes ht hi hz hsize hby hzs hsz v n xs h0 a m c news hl hnews h1 h63 hbytes (Nat.le_refl _)
    refine ⟨v', w', hr, own_base hbase h2, .inr ⟨by rw [hv] at h3; exact h3, ?_⟩⟩
    rcases h2.2 with ⟨-, e0⟩ | ⟨g, cap, cur, e0, e1, -⟩
    · omega
    · exact ⟨g, cap, e0, e1⟩
  · subst hv
    obtain ⟨v', w', hr, h2, h3, -⟩ := run_append_own (P := P) w base t ty e i z size bytes ht hi hz hsize hby hzs hsz _ n xs hown a m c news hl hnews h1 h63 hbytes hbase
    refine ⟨v', w', hr, h2, ?_⟩
    by_cases hroom : n + m ≤ cap
    · left
      have hfit : n * i.size + news.length ≤ cur.size := by rw [hl, hcs, hsize, ← Nat.add_mul]; exact Nat.mul_le_mul_right _ hroom
      have hr2 := run_append_room (P := P) w t ty e i ht hi g n cap cur hg a m c news (by rw [hsize]; exact hl) hnews h1 hroom hfit
      have he := hr.symm.trans hr2
      simp only [Result.ok.injEq] at he
      exact ⟨g, cap, rfl, he.1, by simpa [Value.ownBlock] using h3⟩
    · right
      have holds : ∀ j u, xs[j]? = some u → w.cell? ((⟨g, 0, none⟩ : Addr).add j) = some u := hown.cells (g := g) rfl
      have hr2 := run_append_grow (P := P) w t ty e i z ht hi hz ⟨g, 0, none⟩ n cap xs (by rw [hsize]; exact hown.1) holds a m c news (by rw [hsize]; exact hl) hnews (by omega) (by unfold maxLen at h63; omega) (by rw [hby]; exact growslice_fits (by omega) hbytes)
      have he := hr.symm.trans hr2
      simp only [Result.ok.injEq] at he
      obtain ⟨e1, e2⟩ := he
      subst e1 e2
      refine ⟨⟨rfl, rfl, rfl, by simp, fun k hk _ => ?_⟩, _, _, rfl, Nat.le_refl _⟩
      exact Below.heap_alloc w.drew _ k hk

section
variable {w0 : World} {B T m c : Nat} {sa : Nat → Option Addr} {ln sc : Nat → Nat} {N : Nat → Int} {W W' : World} {i hb ws : Nat}
/-- The i-th list as it is told, filled. -/
def RowI (w0 : World) (sa : Nat → Option Addr) (ln sc : Nat → Nat) (N : Nat → Int) (j : Nat) (W : World) : Prop :=
  ∃ X, W.ownsRow w0.heap.size 9 1 (.slice (sa j) (ln j) (sc j)) (ln j) X ∧ ∀ q, q < ln j → X[q]? = some (mkT (N j))
/-- A row of marks. -/
def MarkRow (w0 : World) (n : Int) (v : Value) (k : Nat) (W : World) : Prop := ∃ X, W.ownsRow w0.heap.size 9 1 v k X ∧ ∀ q, q < k → X[q]? = some (mkT n)
/-- The j-th list has got its forty more, in its own block or a new one. -/
def DoneG (w0 : World) (T : Nat) (sa : Nat → Option Addr) (ln : Nat → Nat) (N : Nat → Int) (ws bd j : Nat) (W : World) : Prop :=
  ∃ g cp, W.cell? ⟨T, j * 3 + 1, none⟩ = some (.slice (some ⟨g, 0, none⟩) (ln j + 40) cp) ∧ MarkRow w0 (N j) (.slice (some ⟨g, 0, none⟩) (ln j + 40) cp) (ln j + 40) W ∧ (sa j = some ⟨g, 0, none⟩ ∨ ws ≤ g) ∧ g < bd
theorem MarkRow.below {n : Int} {v : Value} {k : Nat} (h : MarkRow w0 n v k W) (hl : Below W.heap.size W W') : MarkRow w0 n v k W' := let ⟨X, h1, h2⟩ := h; ⟨X, ownsRow_below h1 hl, h2⟩
theorem MarkRow.kept {n : Int} {a : Option Addr} {l q : Nat} {k g : Nat} (h : MarkRow w0 n (.slice a l q) k W) (hg : W.grownBy W' (some g)) (hne : ∀ b, a = some ⟨b, 0, none⟩ → b ≠ g) : MarkRow w0 n (.slice a l q) k W' := by
  obtain ⟨X, h1, h2⟩ := h
  refine ⟨X, h1.kept hg ?_, h2⟩
  rcases h1.2 with ⟨e, -⟩ | ⟨b, cap, cur, e, -⟩
  · left
    simp only [Value.slice.injEq] at e
    rw [e.1]
    rfl
  · right
    simp only [Value.slice.injEq] at e
    have := hne b e.1
    rw [e.1]
    simpa [Value.ownBlock] using this
theorem rowI_eq (j : Nat) : RowI w0 sa ln sc N j W = MarkRow w0 (N j) (.slice (sa j) (ln j) (sc j)) (ln j) W := rfl
theorem DoneG.below {bd j : Nat} (h : DoneG w0 T sa ln N ws bd j W) (hl : Below W.heap.size W W') : DoneG w0 T sa ln N ws bd j W' := by
  obtain ⟨g, cp, h1, h2, h3, h4⟩ := h
  exact ⟨g, cp, by rw [hl.cell (World.block_lt_of_cell? _ _ h1), h1], h2.below hl, h3, h4⟩
theorem DoneG.kept {bd j g : Nat} (h : DoneG w0 T sa ln N ws bd j W) (hg : W.grownBy W' (some g)) (hT : g ≠ T) (hne : ∀ b, b < bd → (sa j = some ⟨b, 0, none⟩ ∨ ws ≤ b) → b ≠ g) : DoneG w0 T sa ln N ws bd j W' := by
  obtain ⟨g', cp, h1, h2, h3, h4⟩ := h
  refine ⟨g', cp, hg.cell h1 (by simpa using Ne.symm hT), h2.kept hg fun b e => ?_, h3, h4⟩
  simp only [Option.some.injEq, Addr.mk.injEq, and_true] at e
  subst e
  exact hne _ h4 h3
theorem DoneG.mono {bd bd' j : Nat} (h : DoneG w0 T sa ln N ws bd j W) (hb : bd ≤ bd') : DoneG w0 T sa ln N ws bd' j W := let ⟨g, cp, h1, h2, h3, h4⟩ := h; ⟨g, cp, h1, h2, h3, Nat.lt_of_lt_of_le h4 hb⟩

/-- What growText is told besides: all lies below ws. -/
structure GS (w0 : World) (B T m c : Nat) (sa : Nat → Option Addr) (ln sc : Nat → Nat) (N : Nat → Int) (ws : Nat) : Prop where
  s : BkS w0 B T m c sa ln sc N
  lB : B < ws
  lT : T < ws
  lr : ∀ j, j < m → ∀ b, sa j = some ⟨b, 0, none⟩ → b < ws
  ge : ∀ j, j < m → ∀ b, sa j = some ⟨b, 0, none⟩ → w0.heap.size ≤ b
  lw : w0.heap.size ≤ ws
/-- Within a round of growText. -/
structure GI (w0 : World) (B T m c : Nat) (sa : Nat → Option Addr) (ln sc : Nat → Nat) (N : Nat → Int) (ws i q hb : Nat) (v : Value) (a : Option Addr) (cp : Nat) (W : World) : Prop where
  bk : BkT w0 B T m c sa ln sc N W
  rows : ∀ j, j < m → RowI w0 sa ln sc N j W
  hat : At W hb 0 [.slice (sa i) (ln i) (sc i), v, .int .i64 (N i)]
  hlt : hb < W.heap.size
  hws : ws ≤ hb
  done : ∀ j, j < i → DoneG w0 T sa ln N ws hb j W
  long : MarkRow w0 (N i) (.slice a (ln i + q) cp) (ln i + q) W
  abl : (a = sa i ∧ cp = sc i) ∨ ∃ g, a = some ⟨g, 0, none⟩ ∧ hb < g
variable {q cp : Nat} {v : Value} {a : Option Addr}
theorem GI.below (h : GI w0 B T m c sa ln sc N ws i q hb v a cp W) (hl : Below W.heap.size W W') : GI w0 B T m c sa ln sc N ws i q hb v a cp W' :=
  ⟨h.bk.below hl, fun j hj => MarkRow.below (h.rows j hj) hl, h.hat.below hl, Nat.lt_of_lt_of_le h.hlt hl.size, h.hws, fun j hj => (h.done j hj).below hl, h.long.below hl, h.abl⟩
/-- One mark more. -/
theorem GI.step (hs : GS w0 B T m c sa ln sc N ws) (h : GI w0 B T m c sa ln sc N ws i q hb v a cp W) (hi : i < m) {g cp' : Nat} (hg : W.grownBy W' (some g)) (hl : MarkRow w0 (N i) (.slice (some ⟨g, 0, none⟩) (ln i + (q + 1)) cp') (ln i + (q + 1)) W')
    (hc : (a = some ⟨g, 0, none⟩ ∧ cp' = cp) ∨ W.heap.size ≤ g) : GI w0 B T m c sa ln sc N ws i (q + 1) hb v (some ⟨g, 0, none⟩) cp' W' := by
  have hab : (sa i = some ⟨g, 0, none⟩ ∧ cp' = sc i) ∨ hb < g := by
    rcases hc with ⟨e1, e2⟩ | e
    · rcases h.abl with ⟨e3, e4⟩ | ⟨g', e3, e4⟩
      · exact .inl ⟨by rw [← e3, e1], by rw [e2, e4]⟩
      · rw [e1] at e3
        simp only [Option.some.injEq, Addr.mk.injEq, and_true] at e3
        subst e3
        exact .inr e4
    · exact .inr (by have := h.hlt; omega)
  have hgw : w0.heap.size ≤ g := by
    rcases hab with ⟨e1, -⟩ | e
    · exact hs.ge i hi g e1
    · have := hs.lw; have := h.hws; omega
  have hgB : g ≠ B := by
    rcases hab with ⟨e1, -⟩ | e
    · exact (hs.s.nb i hi g e1).1
    · have := hs.lB; have := h.hws; omega
  have hgT : g ≠ T := by
    rcases hab with ⟨e1, -⟩ | e
    · exact (hs.s.nb i hi g e1).2
    · have := hs.lT; have := h.hws; omega
  have hgh : g ≠ hb := by
    rcases hab with ⟨e1, -⟩ | e
    · have := hs.lr i hi g e1; have := h.hws; omega
    · omega
  have hrow : ∀ j, j < m → j ≠ i → ∀ b, sa j = some ⟨b, 0, none⟩ → b ≠ g := by
    intro j hj hji b e hbg
    subst hbg
    rcases hab with ⟨e1, -⟩ | e2
    · exact hs.s.ap i hi j hj (Ne.symm hji) _ e1 e
    · have := hs.lr j hj _ e; have := h.hws; omega
  refine ⟨h.bk.step hg hgw hgB hgT, fun j hj => ?_, fun r hr => ?_, Nat.lt_of_lt_of_le h.hlt hg.size, h.hws, fun j hj => ?_, hl, ?_⟩
  · by_cases hji : j = i
    · subst hji
      rcases hab with ⟨e1, e2⟩ | e
      · obtain ⟨X, h1, h2⟩ := hl
        have h3 := own_take h1 (show ln j ≤ ln j + (q + 1) by omega)
        rw [rowI_eq, e1, ← e2]
        refine ⟨_, h3, fun r hr => ?_⟩
        rw [List.getElem?_take, if_pos hr]
        exact h2 r (by omega)
      · refine MarkRow.kept (h.rows j hj) hg fun b e' hbg => ?_
        subst hbg
        have := hs.lr j hj _ e'; have := h.hws; omega
    · exact MarkRow.kept (h.rows j hj) hg (hrow j hj hji)
  · have := h.hat r hr
    rw [List.getElem?_eq_getElem hr] at this ⊢
    exact hg.cell this (by simpa using Ne.symm hgh)
  · refine (h.done j hj).kept hg hgT fun b hb1 hb2 hbg => ?_
    subst hbg
    rcases hab with ⟨e1, -⟩ | e
    · have hgl := hs.lr i hi _ e1
      rcases hb2 with e2 | e2
      · exact hs.s.ap i hi j (by omega) (by omega) _ e1 e2
      · omega
    · omega
  · rcases hab with ⟨e1, e2⟩ | e
    · exact .inl ⟨e1.symm, e2⟩
    · exact .inr ⟨g, rfl, e⟩
end
end Go.Proofs.YtjbapldlgnlepaaGreatDoor
namespace Go.Proofs.YtjbapldlgnlepaaGreatDoor
open Go.RowKit Go.Deep Go.WideShapes

section
variable {w0 : World} {B T m c : Nat} {sa : Nat → Option Addr} {ln sc : Nat → Nat} {N : Nat → Int} {W W' : World} {i hb ws : Nat}
theorem grownBy_set (W : World) (b k : Nat) (u : Value) : W.grownBy (W.setCell ⟨b, k, none⟩ u) (some b) :=
  ⟨rfl, rfl, rfl, by simp, fun _ _ hne => Below.heap_setCell _ _ _ _ (fun e => hne (by rw [e]))⟩
/-- The long list is put into the book. -/
theorem GI.finish (hs : GS w0 B T m c sa ln sc N ws) {v : Value} {g cp : Nat} (h : GI w0 B T m c sa ln sc N ws i 40 hb v (some ⟨g, 0, none⟩) cp W) (hi : i < m) :
    BkT w0 B T m c sa ln sc N (W.setCell ⟨T, i * 3 + 1, none⟩ (.slice (some ⟨g, 0, none⟩) (ln i + 40) cp)) ∧ (∀ j, j < m → RowI w0 sa ln sc N j (W.setCell ⟨T, i * 3 + 1, none⟩ (.slice (some ⟨g, 0, none⟩) (ln i + 40) cp))) ∧
      (∀ j, j < i + 1 → DoneG w0 T sa ln N ws (W.setCell ⟨T, i * 3 + 1, none⟩ (.slice (some ⟨g, 0, none⟩) (ln i + 40) cp)).heap.size j (W.setCell ⟨T, i * 3 + 1, none⟩ (.slice (some ⟨g, 0, none⟩) (ln i + 40) cp))) ∧ ws ≤ (W.setCell ⟨T, i * 3 + 1, none⟩ (.slice (some ⟨g, 0, none⟩) (ln i + 40) cp)).heap.size := by
  have hg := grownBy_set W T (i * 3 + 1) (.slice (some ⟨g, 0, none⟩) (ln i + 40) cp)
  have hsz : (W.setCell ⟨T, i * 3 + 1, none⟩ (.slice (some ⟨g, 0, none⟩) (ln i + 40) cp)).heap.size = W.heap.size := by simp
  have hoth : ∀ k, k ≠ i * 3 + 1 → (W.setCell ⟨T, i * 3 + 1, none⟩ (.slice (some ⟨g, 0, none⟩) (ln i + 40) cp)).cell? ⟨T, k, none⟩ = W.cell? ⟨T, k, none⟩ := fun k hk => World.cell?_setCell_other _ _ _ _ (fun e => hk (congrArg (fun a : Addr => a.off) e).symm)
  have hgT : g ≠ T := by
    rcases h.abl with ⟨e, -⟩ | ⟨g', e, h2⟩
    · exact (hs.s.nb i hi g e.symm).2
    · simp only [Option.some.injEq, Addr.mk.injEq, and_true] at e
      subst e
      have := hs.lT; have := h.hws; omega
  obtain ⟨a1, l1, q1, hold⟩ := (h.bk.ent i hi).2.1
  have hsame := World.cell?_setCell_same W ⟨T, i * 3 + 1, none⟩ (.slice (some ⟨g, 0, none⟩) (ln i + 40) cp) hold
  refine ⟨⟨h.bk.low.setCell (p := ⟨T, i * 3 + 1, none⟩) hs.s.hT _, hg.cell h.bk.fld (by simpa using hs.s.hBT), fun j hj => ?_, fun j hj => ?_, fun j q1 q2 q3 => hg.cell (h.bk.oth j q1 q2 q3) (by simpa using hs.s.hBT)⟩, fun j hj => ?_, fun j hj => ?_, ?_⟩
  · obtain ⟨e0, ⟨a2, l2, q2, e1⟩, e2⟩ := h.bk.ent j hj
    refine ⟨by rw [hoth _ (by omega), e0], ?_, by rw [hoth _ (by omega), e2]⟩
    by_cases hji : j = i
    · subst hji
      exact ⟨_, _, _, hsame⟩
    · exact ⟨a2, l2, q2, by rw [hoth _ (by omega), e1]⟩
  · rw [World.frozen?_setCell]
    exact h.bk.frz j hj
  · exact MarkRow.kept (h.rows j hj) hg fun b e => (hs.s.nb j hj b e).2
  · rw [hsz]
    by_cases hji : j = i
    · subst hji
      have hl := h.long.kept hg fun b e => by
        simp only [Option.some.injEq, Addr.mk.injEq, and_true] at e
        subst e
        exact hgT
      obtain ⟨X, h1, -⟩ := h.long
      refine ⟨g, cp, hsame, hl, ?_, (h1.lt g rfl).2⟩
      rcases h.abl with ⟨e, -⟩ | ⟨g', e, h2⟩
      · exact .inl e.symm
      · simp only [Option.some.injEq, Addr.mk.injEq, and_true] at e
        subst e
        right
        have := h.hws; omega
    · obtain ⟨g', cp', e1, e2, e3, e4⟩ := h.done j (by omega)
      refine ⟨g', cp', by rw [hoth _ (by omega), e1], e2.kept hg fun b e => ?_, e3, by have := h.hlt; omega⟩
      simp only [Option.some.injEq, Addr.mk.injEq, and_true] at e
      subst e
      rcases e3 with e5 | e5
      · exact (hs.s.nb j (by omega) _ e5).2
      · have := hs.lT; omega
  · rw [hsz]
    have := h.hws; have := h.hlt; omega
theorem grown_fresh {g : Nat} (h : W.grownBy W' none) (_hg : W.heap.size ≤ g) : W.grownBy W' (some g) := ⟨h.os, h.tape, h.output, h.size, fun k hk _ => h.block k hk (by simp)⟩
theorem grown_al {O : Obj} {r : Option Nat} (h : (W.alloc O).grownBy W' r) : W.grownBy W' r := grownS_trans (World.grownBy_alloc W O r) h

/-- append, one mark more. -/
theorem append_T {q cp : Nat} {v : Value} {al : Option Addr} {ops : Array Oper} {rest : List Oper} {o : Oper} {act : Act} {Q : Exit → Act → World → Prop} (hs : GS w0 B T m c sa ln sc N ws) (hi : i < m) (h : GI w0 B T m c sa ln sc N ws i q hb v al cp W) (hq : q ≤ 1000)
    (hgd : o.guard = none) (s x : Operand) (ho : o.op = .call { callee := .builtin .append, args := #[s, x], argTypes := #[24, 24] }) (hse : act.eval s = .slice al (ln i + q) cp) (T' : TypeId) (hx : act.eval x = .slice (some ⟨W.heap.size, 0, none⟩) 1 1)
    (hr : ∀ g cap W', GI w0 B T m c sa ln sc N ws i (q + 1) hb v (some ⟨g, 0, none⟩) cap W' → wpList Tryz.prog ops Q rest (act.put o.dst (.slice (some ⟨g, 0, none⟩) (ln i + (q + 1)) cap)) W') : wpList Tryz.prog ops Q (o :: rest) act (W.alloc (.cells #[.string (wordB (N i))] T')) := by
  obtain ⟨i0, hi0, hz0, hz1, hz2⟩ := str_parts info_str
  have hln := hs.s.lnb i hi
  obtain ⟨X, hown, hX⟩ := h.long
  have hnew : ∀ j u, [Value.string (wordB (N i))][j]? = some u → (W.alloc (.cells #[.string (wordB (N i))] T')).cell? ((⟨W.heap.size, 0, none⟩ : Addr).add j) = some u := newS_cells (cs := [Value.string (wordB (N i))])
  obtain ⟨v', w', hrun, h1, h2⟩ := append_two (P := Tryz.prog) (W.alloc (.cells #[.string (wordB (N i))] T')) w0.heap.size 24 o.type 9 i0 (.string ⟨#[]⟩) 1 16 Tryz.underlying24 hi0 hz0 hz1 hz2 rfl (by decide) _ _ X (hown.alloc _) ⟨W.heap.size, 0, none⟩ 1 1 [.string (wordB (N i))] rfl hnew (fun u hu => by simp at hu; subst hu; rfl) (by decide) (by unfold maxLen; omega) (by omega) (by have := h.bk.low.size; simp; omega)
  have hl : X.length = ln i + q := by have := hown.1; omega
  have hmk : ∀ r, r < ln i + (q + 1) → (X ++ [Value.string (wordB (N i))])[r]? = some (mkT (N i)) := by
    intro r hr
    by_cases hlt : r < ln i + q
    · rw [List.getElem?_append_left (by omega)]
      exact hX r hlt
    · rw [List.getElem?_append_right (by omega), show r - X.length = 0 by omega]
      rfl
  have hgo : ∃ g cap, v' = .slice (some ⟨g, 0, none⟩) (ln i + (q + 1)) cap ∧ GI w0 B T m c sa ln sc N ws i (q + 1) hb v (some ⟨g, 0, none⟩) cap w' := by
    rcases h2 with ⟨g, cap, e1, e2, hgr⟩ | ⟨hgr, g, cap, e2, hgs⟩
    · simp only [Value.slice.injEq, true_and] at e1
      subst e2
      exact ⟨g, cap, rfl, h.step hs hi (grown_al hgr) ⟨_, h1, hmk⟩ (.inl ⟨e1.1, e1.2.symm⟩)⟩
    · subst e2
      have hgs2 : W.heap.size ≤ g := by
        have : (W.alloc (.cells #[.string (wordB (N i))] T')).heap.size = W.heap.size + 1 := by simp
        omega
      exact ⟨g, cap, rfl, h.step hs hi (grown_fresh (grown_al hgr) hgs2) ⟨_, h1, hmk⟩ (.inr hgs2)⟩
  obtain ⟨g, cap, rfl, hGI⟩ := hgo
  refine wpList_plain hgd fun K hK => ?_
  unfold Oper.wp execOp
  simp only [ho, resolve, invoke, builtin, Sem.run_bind, Sem.run_pure, Result.andThen_ok, List.map_toArray, List.map_cons, List.map_nil, hse, hx, hrun]
  exact hK _ _ (hr g cap w' hGI)
theorem MarkRow.some' {n : Int} {a : Option Addr} {l q k : Nat} (h : MarkRow w0 n (.slice a l q) k W) (hl : 0 < l) : ∃ g, a = some ⟨g, 0, none⟩ := by
  obtain ⟨X, h1, -⟩ := h
  rcases h1.2 with ⟨e, -⟩ | ⟨g, cap, cur, e, -⟩
  · simp only [Value.slice.injEq] at e
    omega
  · simp only [Value.slice.injEq] at e
    exact ⟨g, e.1⟩
/-- Between the rounds of growText. -/
structure GO (w0 : World) (B T m c : Nat) (sa : Nat → Option Addr) (ln sc : Nat → Nat) (N : Nat → Int) (ws i : Nat) (W : World) : Prop where
  bk : BkT w0 B T m c sa ln sc N W
  rows : ∀ j, j < m → RowI w0 sa ln sc N j W
  done : ∀ j, j < i → DoneG w0 T sa ln N ws W.heap.size j W
  hws : ws ≤ W.heap.size
theorem GI.start {v : Value} {T' : TypeId} (h : GO w0 B T m c sa ln sc N ws i W) (hi : i < m) : GI w0 B T m c sa ln sc N ws i 0 W.heap.size v (sa i) (sc i) (W.alloc (.cells #[.slice (sa i) (ln i) (sc i), v, .int .i64 (N i)] T')) :=
  ⟨h.bk.below (below_alloc _ _), fun j hj => MarkRow.below (h.rows j hj) (below_alloc _ _), at_new rfl (Below.refl _ _), by simp, h.hws, fun j hj => (h.done j hj).below (below_alloc _ _), MarkRow.below (h.rows i hi) (below_alloc _ _), .inl ⟨rfl, rfl⟩⟩
theorem GI.end' (hs : GS w0 B T m c sa ln sc N ws) {v : Value} {g cp : Nat} (h : GI w0 B T m c sa ln sc N ws i 40 hb v (some ⟨g, 0, none⟩) cp W) (hi : i < m) : GO w0 B T m c sa ln sc N ws (i + 1) (W.setCell ⟨T, i * 3 + 1, none⟩ (.slice (some ⟨g, 0, none⟩) (ln i + 40) cp)) :=
  let ⟨h1, h2, h3, h4⟩ := h.finish hs hi; ⟨h1, h2, h3, h4⟩
theorem GI.cells {q cp : Nat} {v : Value} {a : Option Addr} (h : GI w0 B T m c sa ln sc N ws i q hb v a cp W) (hi : i < m) : W.cell? ⟨hb, 0, none⟩ = some (.slice (sa i) (ln i) (sc i)) ∧ W.cell? ⟨hb, 2, none⟩ = some (.int .i64 (N i)) ∧ W.cell? ⟨B, 2, none⟩ = some (.slice (some ⟨T, 0, none⟩) m c) ∧ W.frozen? ⟨T, i * 3 + 1, none⟩ = false ∧ ∃ a l q, W.cell? ⟨T, i * 3 + 1, none⟩ = some (.slice a l q) :=
  ⟨h.hat 0 (by decide : 0 < 3), h.hat 2 (by decide : 2 < 3), h.bk.fld, h.bk.frz _ (by omega), (h.bk.ent i hi).2.1⟩
end

set_option maxRecDepth 100000 in
set_option maxHeartbeats 4000000 in
theorem growText_any {w0 : World} {B T m c ws : Nat} {sa : Nat → Option Addr} {ln sc : Nat → Nat} {N : Nat → Int} {w : World} (hs : GS w0 B T m c sa ln sc N ws) (h : BkT w0 B T m c sa ln sc N w) (hr : ∀ j, j < m → RowI w0 sa ln sc N j w) (hw : ws ≤ w.heap.size) :
    Calls Tryz.prog 39 #[.pointer (some ⟨B, 0, none⟩)] w fun e w' => e = .returned (.tuple #[]) ∧ GO w0 B T m c sa ln sc N ws m w' := by
  have HS := Lib.hid hs
  have OK0 := Lib.hid (show GO w0 B T m c sa ln sc N ws 0 w from ⟨h, hr, fun j hj => absurd hj (Nat.not_lt_zero _), hw⟩)
  have HM := Lib.hid (fun i (hi : i < m) W (hb : BkT w0 B T m c sa ln sc N W) => markText_any (N i) (hs.s.nrg i hi) W (hs.s.tabs.below hb.low))
  clear h hr hs hw
  go_enter Tryz.func39, Tryz.ntmps39
  go_wp2_with fail
  go_loopw [2] (fun i wr => ∃ k : Nat, k ≤ m ∧ i = .int .i64 k ∧ GO w0 B T m c sa ln sc N ws k wr) (fun i _ => m - (intOf i).toNat)
  case atStart => exact ⟨0, Nat.zero_le _, rfl, OK0.out⟩
  case round =>
    clear OK0
    obtain ⟨i, hi, rfl, ok⟩ := hrel
    have OK := Lib.hid ok
    clear ok
    have b2 := OK.out.bk.fld
    have hmc := HS.out.s.hmc
    unfold maxLen at hmc
    obtain ⟨hm1, hm2⟩ := hmc
    by_cases hlt : i < m
    · have hlt' : (i : Int) < (m : Int) := by omega
      have hi0 : (0 : Int) ≤ (i : Int) := by omega
      obtain ⟨e0, ⟨va, vl, vq, e1⟩, e2⟩ := OK.out.bk.ent i hlt
      have hln := HS.out.s.lnb i hlt
      have HF := Lib.hid (GI.start (v := .slice va vl vq) (T' := 89) OK.out hlt)
      go_upto_region 4 with fail
      revert HF
      generalize wr.alloc (.cells #[.slice (sa i) (ln i) (sc i), .slice va vl vq, .int .i64 (N i)] 89) = W1
      generalize wr.heap.size = hb
      intro HF
      clear OK e0 e1 e2 b2
      obtain ⟨c0, c2, -⟩ := HF.out.cells hlt
      go_wp2_with fail
      clear c0 c2
      go_loopw [4, 5] (fun lv kk wr => ∃ (q : Nat) (a : Option Addr) (cp : Nat), q ≤ 40 ∧ kk = .int .i64 q ∧ lv = .slice a (ln i + q) cp ∧ GI w0 B T m c sa ln sc N ws i q hb (.slice va vl vq) a cp wr) (fun _ kk _ => 40 - (intOf kk).toNat)
      case atStart => exact ⟨0, _, _, Nat.zero_le _, rfl, rfl, HF.out⟩
      case round =>
        clear HF
        obtain ⟨q, a, cp, hq, rfl, rfl, ok⟩ := hrel
        have OK := Lib.hid ok
        clear ok
        obtain ⟨c0, c2, b2, z1, ⟨a1, l1, q1, e1⟩⟩ := OK.out.cells hlt
        by_cases hq4 : q < 40
        · have hq4' : (q : Int) < 40 := by omega
          have HMi := Lib.hid (fun W (h : GI w0 B T m c sa ln sc N ws i q hb (.slice va vl vq) a cp W) => HM.out i hlt W h.bk)
          go_wp2_with (first
            | (go_at_call 99; (with_reducible refine (HMi.out _ OK.out).mono ?_); rintro x w1 ⟨rfl, hb1⟩; replace OK := Lib.hid (OK.out.below hb1); clear hb1)
            | (at_builtin; refine append_T HS.out hlt OK.out (by omega) rfl _ _ rfl rfl _ rfl ?_; intro g cap w2 h2; have OK2 := Lib.hid h2; clear h2))
          refine ⟨⟨q + 1, some ⟨g, 0, none⟩, cap, by omega, by go_num, rfl, OK2.out⟩, by simp [intOf]; omega⟩
        · obtain rfl : q = 40 := by omega
          obtain ⟨g, rfl⟩ := OK.out.long.some' (by omega)
          have HE := Lib.hid (OK.out.end' HS.out hlt)
          have hlt' : (i : Int) < (m : Int) := by omega
          go_wp2_with fail
          refine ⟨⟨i + 1, hlt, by go_num, HE.out⟩, by simp [intOf]; omega⟩
    · obtain rfl : i = m := by omega
      go_wp2_with fail
      go_end0
      exact ⟨rfl, OK.out⟩
end Go.Proofs.YtjbapldlgnlepaaGreatDoor
namespace Go.Proofs.YtjbapldlgnlepaaGreatDoor
open Go.RowKit Go.Deep Go.WideShapes

theorem itoa_nat (n : Nat) : Lib.itoa (n : Int) = Lib.decDigits n := by simp [Lib.itoa]
set_option maxHeartbeats 1000000 in
theorem itoa_small (n : Nat) (hn : n < 100) (w : World) : Calls Tryz.prog 180 #[.int .i64 n] w fun e w' => e = .returned (.string ⟨(Lib.itoa n).toArray⟩) ∧ w = w' := by
  have HI := Lib.hid (Tryz.internal_strconv_Itoa_small n hn w)
  rw [itoa_nat]
  go_enter Tryz.func180, Tryz.ntmps180
  go_wp2_with (go_at_call 188; (with_reducible refine HI.out.mono ?_); rintro x w1 ⟨rfl, rfl⟩)
  go_ret
  exact ⟨rfl, rfl⟩
set_option maxHeartbeats 1000000 in
theorem isText_small (n : Nat) (hn : n < 100) (w : World) : Calls Tryz.prog 115 #[.string (wordB n), .int .i64 n] w fun e w' => e = .returned (.bool true) ∧ w' = w := by
  have HI : Hid (Calls Tryz.prog 156 #[.int .i64 n] w fun e w' => e = .returned (.string (wordB n)) ∧ w = w') := by
    have HI := Lib.hid (itoa_small n hn w)
    have hl := Lib.itoa_length_le n (by omega) (by omega)
    have hl2 : ¬ 9223372036854775807 < 1 + (Lib.itoa n).length := by omega
    go_enter Tryz.func156, Tryz.ntmps156
    go_wp2_with (go_at_call 180; (with_reducible refine HI.out.mono ?_); rintro x w1 ⟨rfl, rfl⟩)
    go_ret
    exact ⟨rfl, rfl⟩
  generalize wordB n = x at HI ⊢
  go_enter Tryz.func115, Tryz.ntmps115
  go_wp2_with (go_at_call 156; (with_reducible refine HI.out.mono ?_); rintro x w1 ⟨rfl, rfl⟩)
  go_ret
  exact ⟨by simp, rfl⟩

section
variable {w0 : World} {B T m c : Nat} {sa : Nat → Option Addr} {ln sc : Nat → Nat} {N : Nat → Int} {W W' : World} {i hb ws : Nat}
theorem GO.below (h : GO w0 B T m c sa ln sc N ws i W) (hl : Below W.heap.size W W') : GO w0 B T m c sa ln sc N ws i W' :=
  ⟨h.bk.below hl, fun j hj => MarkRow.below (h.rows j hj) hl, fun j hj => ((h.done j hj).below hl).mono hl.size, Nat.le_trans h.hws hl.size⟩
/-- Within a round of lookText. -/
structure LI (w0 : World) (B T m c : Nat) (sa : Nat → Option Addr) (ln sc : Nat → Nat) (N : Nat → Int) (ws i hb g cp : Nat) (W : World) : Prop where
  go : GO w0 B T m c sa ln sc N ws m W
  hat : At W hb 0 [.slice (sa i) (ln i) (sc i), .slice (some ⟨g, 0, none⟩) (ln i + 40) cp, .int .i64 (N i)]
  long : MarkRow w0 (N i) (.slice (some ⟨g, 0, none⟩) (ln i + 40) cp) (ln i + 40) W
variable {g cp : Nat}
theorem LI.below (h : LI w0 B T m c sa ln sc N ws i hb g cp W) (hl : Below W.heap.size W W') : LI w0 B T m c sa ln sc N ws i hb g cp W' := ⟨h.go.below hl, h.hat.below hl, h.long.below hl⟩
theorem LI.start {T' : TypeId} (h : GO w0 B T m c sa ln sc N ws m W) (hm : MarkRow w0 (N i) (.slice (some ⟨g, 0, none⟩) (ln i + 40) cp) (ln i + 40) W) :
    LI w0 B T m c sa ln sc N ws i W.heap.size g cp (W.alloc (.cells #[.slice (sa i) (ln i) (sc i), .slice (some ⟨g, 0, none⟩) (ln i + 40) cp, .int .i64 (N i)] T')) :=
  ⟨h.below (below_alloc _ _), at_new rfl (Below.refl _ _), hm.below (below_alloc _ _)⟩
theorem MarkRow.cell {n : Int} {l q k j : Nat} (h : MarkRow w0 n (.slice (some ⟨g, 0, none⟩) l q) k W) (hj : j < k) : W.cell? ⟨g, j, none⟩ = some (.string (wordB n)) := by
  obtain ⟨X, h1, h2⟩ := h
  have e : (⟨g, 0, none⟩ : Addr).add j = ⟨g, j, none⟩ := by simpa using add_plain g 0 j
  have := h1.cells (g := g) rfl j _ (h2 j hj)
  rw [e] at this
  exact this
theorem LI.three (h : LI w0 B T m c sa ln sc N ws i hb g cp W) : W.cell? ⟨hb, 0, none⟩ = some (.slice (sa i) (ln i) (sc i)) ∧ W.cell? ⟨hb, 1, none⟩ = some (.slice (some ⟨g, 0, none⟩) (ln i + 40) cp) ∧ W.cell? ⟨hb, 2, none⟩ = some (.int .i64 (N i)) :=
  ⟨h.hat 0 (by decide : 0 < 3), h.hat 1 (by decide : 1 < 3), h.hat 2 (by decide : 2 < 3)⟩
theorem LI.row (h : LI w0 B T m c sa ln sc N ws i hb g cp W) (hi : i < m) {g0 k : Nat} (he : sa i = some ⟨g0, 0, none⟩) (hk : k < ln i) : W.cell? ⟨g0, k, none⟩ = some (.string (wordB (N i))) := by
  have := h.go.rows i hi
  rw [rowI_eq, he] at this
  exact this.cell hk
end

set_option maxRecDepth 100000 in
set_option maxHeartbeats 4000000 in
theorem lookText_any {w0 : World} {B T m c ws : Nat} {sa : Nat → Option Addr} {ln sc : Nat → Nat} {N : Nat → Int} {w : World} (hs : GS w0 B T m c sa ln sc N ws) (hsm : ∀ i, i < m → ∃ n : Nat, N i = n ∧ n < 100) (h : GO w0 B T m c sa ln sc N ws m w) :
    Calls Tryz.prog 55 #[.pointer (some ⟨B, 0, none⟩)] w fun e w' => e = .returned (.bool true) ∧ GO w0 B T m c sa ln sc N ws m w' := by
  have HS := Lib.hid hs
  have OK0 := Lib.hid h
  have HM : Hid (∀ i, i < m → ∀ W, Calls Tryz.prog 115 #[.string (wordB (N i)), .int .i64 (N i)] W fun e w' => e = .returned (.bool true) ∧ w' = W) := fun i hi W => by
    obtain ⟨n, e, hn⟩ := hsm i hi
    rw [e]
    exact isText_small n hn W
  clear h hs hsm
  go_enter Tryz.func55, Tryz.ntmps55
  go_wp2_with fail
  go_loopw [3] (fun i wr => ∃ k : Nat, k ≤ m ∧ i = .int .i64 k ∧ GO w0 B T m c sa ln sc N ws m wr) (fun i _ => m - (intOf i).toNat)
  case atStart => exact ⟨0, Nat.zero_le _, rfl, OK0.out⟩
  case round =>
    clear OK0
    obtain ⟨i, hi, rfl, ok⟩ := hrel
    have OK := Lib.hid ok
    clear ok
    have b2 := OK.out.bk.fld
    have hmc := HS.out.s.hmc
    unfold maxLen at hmc
    obtain ⟨hm1, hm2⟩ := hmc
    by_cases hlt : i < m
    · have hlt' : (i : Int) < (m : Int) := by omega
      have hi0 : (0 : Int) ≤ (i : Int) := by omega
      obtain ⟨e0, -, e2⟩ := OK.out.bk.ent i hlt
      obtain ⟨g, cp, e1, hmk, -⟩ := OK.out.done i hlt
      have hln := HS.out.s.lnb i hlt
      have hwr : IntKind.i64.wrap ((ln i : Int) + 40) = (ln i : Int) + 40 := IntWalk.i64_in _ (by omega)
      have HF := Lib.hid (LI.start (i := i) (T' := 89) OK.out hmk)
      clear hmk
      go_upto_region 5 with fail
      revert HF
      generalize wr.alloc (.cells #[.slice (sa i) (ln i) (sc i), .slice (some ⟨g, 0, none⟩) (ln i + 40) cp, .int .i64 (N i)] 89) = W1
      generalize wr.heap.size = hb
      intro HF
      clear OK e0 e1 e2 b2
      obtain ⟨c0, c1, c2⟩ := HF.out.three
      go_wp2_with fail
      clear c0 c1 c2
      go_loopw [5] (fun kk wr => ∃ q : Nat, q ≤ ln i + 40 ∧ kk = .int .i64 q ∧ LI w0 B T m c sa ln sc N ws i hb g cp wr) (fun kk _ => ln i + 40 - (intOf kk).toNat)
      case atStart => exact ⟨0, Nat.zero_le _, rfl, HF.out⟩
      case round =>
        clear HF
        obtain ⟨q, hq, rfl, ok⟩ := hrel
        have OK := Lib.hid ok
        clear ok
        obtain ⟨c0, c1, c2⟩ := OK.out.three
        have hq0 : (0 : Int) ≤ (q : Int) := by omega
        by_cases hql : q < ln i + 40
        · have hql' : (q : Int) < (ln i : Int) + 40 := by omega
          have HMi := Lib.hid (HM.out i hlt)
          have m1 := OK.out.long.cell (j := q) hql
          by_cases hqn : q < ln i
          · have hqn' : (q : Int) < (ln i : Int) := by omega
            obtain ⟨g0, he⟩ := MarkRow.some' (OK.out.go.rows i hlt) (by omega)
            have m2 := OK.out.row hlt he hqn
            rw [he] at c0
            clear he
            go_upto_region 10 with fail
            go_quiet ((go_at_call 115; exact Calls.quiet_of_same (HMi.out _)))
            have HS1 := Lib.hid (OK.out.below (below_drawn _ nq))
            clear OK
            go_wp2_with fail
            refine ⟨⟨q + 1, by omega, by go_num, HS1.out⟩, by simp [intOf]; omega⟩
          · have hqn' : ¬ (q : Int) < (ln i : Int) := by omega
            go_upto_region 10 with fail
            go_quiet ((go_at_call 115; exact Calls.quiet_of_same (HMi.out _)))
            have HS1 := Lib.hid (OK.out.below (below_drawn _ nq))
            clear OK
            go_wp2_with fail
            refine ⟨⟨q + 1, by omega, by go_num, HS1.out⟩, by simp [intOf]; omega⟩
        · obtain rfl : q = ln i + 40 := by omega
          go_wp2_with fail
          refine ⟨⟨i + 1, hlt, by go_num, OK.out.go⟩, by simp [intOf]; omega⟩
    · obtain rfl : i = m := by omega
      go_wp2_with fail
      go_ret
      exact ⟨rfl, OK.out⟩
end Go.Proofs.YtjbapldlgnlepaaGreatDoor
namespace Go.Proofs.YtjbapldlgnlepaaGreatDoor
open Go.RowKit Go.Deep Go.WideShapes

theorem info_held : (Tryz.prog.info? 89).map (fun i => (i.zero, i.size, i.bytes)) = some (some (.agg #[.slice none 0 0, .slice none 0 0, .int .i64 0]), 3, 56) := by kernel_rfl
theorem held_parts {o : Option TypeInfo} {z : Value} {a b : Nat} (h : o.map (fun i => (i.zero, i.size, i.bytes)) = some (some z, a, b)) : ∃ i, o = some i ∧ i.zero = some z ∧ i.size = a ∧ i.bytes = b := by
  cases o with
  | none => cases h
  | some i =>
    simp only [Option.map_some, Option.some.injEq, Prod.mk.injEq] at h
    exact ⟨i, rfl, h.1, h.2.1, h.2.2⟩
def flatH (S : Nat → Value) (N : Nat → Int) : Nat → List Value
  | 0 => []
  | k + 1 => flatH S N k ++ [S k, .slice none 0 0, .int .i64 (N k)]
theorem flatH_length (S : Nat → Value) (N : Nat → Int) : ∀ k, (flatH S N k).length = k * 3
  | 0 => rfl
  | k + 1 => by rw [flatH, List.length_append, flatH_length S N k]; simp; omega

/-- The book, in the making: m lists of texts. -/
structure BK (w0 : World) (B m : Nat) (S : Nat → Value) (N : Nat → Int) (n : Int) (v : Value) (W : World) : Prop where
  low : Below B w0 W
  num : W.cell? ⟨B, 0, none⟩ = some (.int .i64 n)
  fld : W.cell? ⟨B, 2, none⟩ = some v
  oth : ∀ j, j < 17 → j ≠ 0 → j ≠ 2 → W.cell? ⟨B, j, none⟩ = some (.slice none 0 0)
  frz : ∀ j, W.frozen? ⟨B, j, none⟩ = false
  own : W.ownsRow (B + 1) 89 3 v m (flatH S N m)
section
variable {w0 W W' : World} {B m : Nat} {S : Nat → Value} {N : Nat → Int} {n : Int} {v : Value}
theorem BK.lt (h : BK w0 B m S N n v W) : B < W.heap.size := World.block_lt_of_cell? _ _ h.num
theorem BK.below (h : BK w0 B m S N n v W) (hl : Below W.heap.size W W') : BK w0 B m S N n v W' := by
  have hc : ∀ {j : Nat} {u : Value}, W.cell? ⟨B, j, none⟩ = some u → W'.cell? ⟨B, j, none⟩ = some u := fun e => by rw [hl.cell (World.block_lt_of_cell? _ _ e), e]
  exact ⟨h.low.trans (hl.mono (Nat.le_of_lt h.lt)), hc h.num, hc h.fld, fun j a b c => hc (h.oth j a b c), fun j => by rw [hl.frozen (p := ⟨B, j, none⟩) h.lt]; exact h.frz j, ownsRow_below h.own hl⟩
/-- The book's number rises. -/
theorem BK.count (h : BK w0 B m S N n v W) (x : Int) : BK w0 B m S N x v (W.setCell ⟨B, 0, none⟩ (.int .i64 x)) := by
  have hg := grownBy_set W B 0 (.int .i64 x)
  refine ⟨h.low.setCell (p := ⟨B, 0, none⟩) (Nat.le_refl _) _, World.cell?_setCell_same _ _ _ h.num, ?_, fun j a b c => ?_, fun j => by rw [World.frozen?_setCell]; exact h.frz j, h.own.kept hg ?_⟩
  · rw [World.cell?_setCell_other _ _ _ _ (by simp)]; exact h.fld
  · rw [World.cell?_setCell_other _ _ _ _ (by simp <;> omega)]; exact h.oth j a b c
  · cases hv : v.ownBlock with
    | none => exact .inl rfl
    | some b =>
      right
      have := (h.own.lt b hv).1
      simp; omega
theorem BK.drew (h : BK w0 B m S N n v W) : BK w0 B m S N n v W.drew := h.below (Below.refl _ _).drew
/-- One list more. -/
theorem BK.more (h : BK w0 B m S N n v W) {v' : Value} (hg : W.grownBy W' v.ownBlock) (ho : W'.ownsRow (B + 1) 89 3 v' (m + 1) (flatH S N (m + 1))) : BK w0 B (m + 1) S N n v' (W'.setCell ⟨B, 2, none⟩ v') := by
  have hne : ∀ k, v.ownBlock = some k → B + 1 ≤ k := fun k e => (h.own.lt k e).1
  have hc : ∀ {j : Nat} {u : Value}, W.cell? ⟨B, j, none⟩ = some u → W'.cell? ⟨B, j, none⟩ = some u := fun e => hg.cell e (fun q => by have := hne B q.symm; omega)
  have hlow : Below B w0 W' := h.low.grown hg (Nat.le_trans (Nat.le_of_lt h.lt) (Nat.le_refl _)) (fun k e => by have := hne k e; omega)
  refine ⟨hlow.setCell (p := ⟨B, 2, none⟩) (Nat.le_refl _) _, ?_, World.cell?_setCell_same _ _ _ (hc h.fld), fun j a b c => ?_, fun j => ?_, ho.kept (grownBy_set W' B 2 v') ?_⟩
  · rw [World.cell?_setCell_other _ _ _ _ (by simp)]; exact hc h.num
  · rw [World.cell?_setCell_other _ _ _ _ (by simp <;> omega)]; exact hc (h.oth j a b c)
  · rw [World.frozen?_setCell, World.frozen?_of_block (hg.block B h.lt (fun q => by have := hne B q.symm; omega))]; exact h.frz j
  · cases hv : v'.ownBlock with
    | none => exact .inl rfl
    | some b =>
      right
      have := (ho.lt b hv).1
      simp; omega
theorem append_H {ops : Array Oper} {o : Oper} {act : Act} {K : Act → World → Prop} {Q : Exit → Act → World → Prop} {E : Prop} {x : Int} (h : BK w0 B m S N n v W) (hm : m ≤ 1000) (hgd : o.guard = none) (s z : Operand)
    (ho : o.op = .call { callee := .builtin .append, args := #[s, z], argTypes := #[28, 28] }) (hs : act.eval s = v) (T' : TypeId) {a : Option Addr} {l q : Nat} (hS : S m = .slice a l q) (hN : N m = x) (hx : act.eval z = .slice (some ⟨W.heap.size, 0, none⟩) 1 1)
    (hr : ∀ b c W', (∀ j u, W.cell? ⟨B, j, none⟩ = some u → W'.cell? ⟨B, j, none⟩ = some u) → (∀ j, W'.frozen? ⟨B, j, none⟩ = false) → BK w0 B (m + 1) S N n (.slice (some ⟨b, 0, none⟩) (m + 1) c) (W'.setCell ⟨B, 2, none⟩ (.slice (some ⟨b, 0, none⟩) (m + 1) c)) →
      K (act.put o.dst (.slice (some ⟨b, 0, none⟩) (m + 1) c)) W') : if Region.wanted o (yielded ops act.tmps) = true then Oper.wp Tryz.prog o act (W.alloc (.cells #[.slice a l q, .slice none 0 0, .int .i64 x] T')) K Q else E := by
  obtain ⟨i0, hi, hz0, hz1, hz2⟩ := held_parts info_held
  have hnew : ∀ j u, [Value.slice a l q, .slice none 0 0, .int .i64 x][j]? = some u → (W.alloc (.cells #[.slice a l q, .slice none 0 0, .int .i64 x] T')).cell? ((⟨W.heap.size, 0, none⟩ : Addr).add j) = some u := newS_cells (cs := [Value.slice a l q, .slice none 0 0, .int .i64 x])
  refine step_append_lies _ hgd s z _ ho (B + 1) 89 i0 (.agg #[.slice none 0 0, .slice none 0 0, .int .i64 0]) 3 56 Tryz.underlying28 hi hz0 hz1 hz2 rfl (by decide) v m _ hs (h.own.alloc _) ⟨W.heap.size, 0, none⟩ 1 1 [.slice a l q, .slice none 0 0, .int .i64 x] hx rfl hnew (fun u hu => by simp at hu; rcases hu with rfl | rfl | rfl <;> rfl) (by decide) (by unfold maxLen; omega) (by omega) (by have := h.lt; simp; omega) _ rfl ?_
  intro b c w' hown hgrow _ _
  have hg2 : W.grownBy w' v.ownBlock := grownS_trans (World.grownBy_alloc W _ _) hgrow
  have hfl : flatH S N m ++ [.slice a l q, .slice none 0 0, .int .i64 x] = flatH S N (m + 1) := by rw [flatH, hS, hN]
  rw [hfl] at hown
  have hne : ∀ k, v.ownBlock = some k → B + 1 ≤ k := fun k e => (h.own.lt k e).1
  exact hr b c w' (fun j u e => hg2.cell e (fun q => by have := hne B q.symm; omega)) (fun j => by rw [World.frozen?_of_block (hg2.block B h.lt (fun q => by have := hne B q.symm; omega))]; exact h.frz j) (h.more hg2 hown)
end

set_option maxRecDepth 100000 in
set_option maxHeartbeats 4000000 in
theorem keepText_any {w0 w : World} {B m : Nat} {S : Nat → Value} {N : Nat → Int} {n : Int} {v : Value} (h : BK w0 B m S N n v w) (hm : m ≤ 1000) (hn : 0 ≤ n ∧ n ≤ 1000) {a : Option Addr} {l q : Nat} (hS : S m = .slice a l q) (hN : N m = n + 1) :
    Calls Tryz.prog 21 #[.pointer (some ⟨B, 0, none⟩), .slice a l q] w fun e w' => e = .returned (.tuple #[]) ∧ ∃ b c, BK w0 B (m + 1) S N (n + 1) (.slice (some ⟨b, 0, none⟩) (m + 1) c) w' := by
  have hw : IntKind.i64.wrap (n + 1) = n + 1 := IntWalk.i64_in _ (by omega)
  obtain ⟨nn, hnn⟩ : ∃ k, n + 1 = k := ⟨_, rfl⟩
  have OK0 := Lib.hid (h.count nn)
  have c0 := h.num
  have z0 := h.frz 0
  have hw2 : IntKind.i64.wrap (n + 1) = nn := by rw [hw, hnn]
  rw [hnn] at hN ⊢
  clear h hn hnn hw
  go_enter Tryz.func21, Tryz.ntmps21
  go_upto_region 1 with fail
  clear c0 z0
  have OK := OK0.out
  revert OK
  generalize w.setCell ⟨B, 0, none⟩ (.int .i64 nn) = W1
  intro OK1
  clear OK0
  have OK := Lib.hid OK1
  clear OK1
  have c0 := OK.out.num
  have c2 := OK.out.fld
  have d0 := (OK.out.below (below_alloc _ (.cells #[.slice a l q, .slice none 0 0, .int .i64 nn] 89))).num
  have d2 := (OK.out.below (below_alloc _ (.cells #[.slice a l q, .slice none 0 0, .int .i64 nn] 89))).fld
  have HS := Lib.hid hS
  have HN := Lib.hid hN
  clear hS hN
  go_region_law ((first | (refine append_H OK.out hm (by rfl) _ _ (by rfl) (by rfl) _ HS.out HN.out (by rfl) ?_) | (refine append_H OK.out.drew hm (by rfl) _ _ (by rfl) (by rfl) _ HS.out HN.out (by rfl) ?_)); intro b c w2 hc hz hk; have HK := Lib.hid hk; have z2 := hz 2; have e2 := hc 2 _ OK.out.fld; clear hk hc hz)
  all_goals go_wp2_with fail
  all_goals go_end0
  all_goals exact ⟨rfl, b, c, HK.out⟩
set_option maxHeartbeats 1000000 in
theorem texts'_any {w0 w : World} {B m : Nat} {S : Nat → Value} {N : Nat → Int} {n : Int} {v : Value} (h : BK w0 B m S N n v w) (hm : m ≤ 1000) (hn : 0 ≤ n ∧ n ≤ 1000) {a : Option Addr} {l q : Nat} (hS : S m = .slice a l q) (hN : N m = n + 1) :
    Calls Tryz.prog 10 #[.pointer (some ⟨B, 0, none⟩), .slice a l q] w fun e w' => e = .returned (.tuple #[]) ∧ ∃ b c, BK w0 B (m + 1) S N (n + 1) (.slice (some ⟨b, 0, none⟩) (m + 1) c) w' := by
  have HK := Lib.hid (keepText_any h hm hn hS hN)
  clear h hS hN
  go_enter Tryz.func10, Tryz.ntmps10
  go_wp2_with (go_at_call 21; (with_reducible refine HK.out.mono ?_); rintro x w1 ⟨rfl, h1⟩; have H1 := Lib.hid h1; clear h1)
  go_end0
  exact ⟨rfl, H1.out⟩

theorem flatH_get (S : Nat → Value) (N : Nat → Int) : ∀ m i, i < m → ∀ k, k < 3 → (flatH S N m)[i * 3 + k]? = [S i, .slice none 0 0, .int .i64 (N i)][k]?
  | 0, _, h, _, _ => absurd h (Nat.not_lt_zero _)
  | m + 1, i, h, k, hk => by
    rw [flatH]
    by_cases hi : i < m
    · rw [List.getElem?_append_left (by rw [flatH_length]; omega)]
      exact flatH_get S N m i hi k hk
    · obtain rfl : i = m := by omega
      rw [List.getElem?_append_right (by rw [flatH_length]; omega), flatH_length, show i * 3 + k - i * 3 = k by omega]
/-- The book is made. -/
theorem BK.toT {wb w0 W : World} {B T m c : Nat} {S : Nat → Value} {N : Nat → Int} {n : Int} {sa : Nat → Option Addr} {ln sc : Nat → Nat} (h : BK w0 B m S N n (.slice (some ⟨T, 0, none⟩) m c) W) (hb : Below wb.heap.size wb w0) (hB : wb.heap.size ≤ B) (hS : ∀ i, i < m → S i = .slice (sa i) (ln i) (sc i)) :
    BkT wb B T m c sa ln sc N W ∧ B + 1 ≤ T ∧ T < W.heap.size ∧ m ≤ c ∧ c ≤ maxLen := by
  have hl := h.own.lt T rfl
  have hcell : ∀ i, i < m → ∀ k, k < 3 → W.cell? ⟨T, i * 3 + k, none⟩ = [S i, .slice none 0 0, .int .i64 (N i)][k]? := fun i hi k hk => by
    rw [h.own.cellAt _ (by omega), flatH_get S N m i hi k hk]
  refine ⟨⟨hb.trans (h.low.mono hB), h.fld, fun i hi => ⟨?_, ⟨none, 0, 0, hcell i hi 1 (by decide)⟩, hcell i hi 2 (by decide)⟩, fun j _ => h.own.frozenAt j, h.oth⟩, hl.1, hl.2, ?_⟩
  · rw [← hS i hi]
    exact hcell i hi 0 (by decide)
  · rcases h.own.2 with ⟨e, -⟩ | ⟨g, cap, cur, e, -, -, h1, h2, -⟩
    · cases e
    · cases e
      exact ⟨h1, h2⟩
theorem book_new {wb : World} {S : Nat → Value} {N : Nat → Int} {T' : TypeId} : BK wb wb.heap.size 0 S N 0 (.slice none 0 0) (wb.alloc (.cells #[.int .i64 0, .slice none 0 0, .slice none 0 0, .slice none 0 0, .slice none 0 0, .slice none 0 0, .slice none 0 0, .slice none 0 0, .slice none 0 0, .slice none 0 0, .slice none 0 0, .slice none 0 0, .slice none 0 0, .slice none 0 0, .slice none 0 0, .slice none 0 0, .slice none 0 0] T')) := by
  have h := at_new (w := wb) (cs := [.int .i64 0, .slice none 0 0, .slice none 0 0, .slice none 0 0, .slice none 0 0, .slice none 0 0, .slice none 0 0, .slice none 0 0, .slice none 0 0, .slice none 0 0, .slice none 0 0, .slice none 0 0, .slice none 0 0, .slice none 0 0, .slice none 0 0, .slice none 0 0, .slice none 0 0]) (T := T') rfl (Below.refl _ _)
  refine ⟨below_alloc _ _, h 0 (by decide), h 2 (by decide), fun j h1 h2 h3 => ?_, fun j => by simp, World.ownsRow_nil _ _ _ _⟩
  have hj := h j h1
  rw [Nat.zero_add] at hj
  rw [hj]
  match j, h1, h2, h3 with
  | 0, _, h2, _ => exact absurd rfl h2
  | 2, _, _, h3 => exact absurd rfl h3
  | 1, _, _, _ | 3, _, _, _ | 4, _, _, _ | 5, _, _, _ | 6, _, _, _ | 7, _, _, _ | 8, _, _, _ | 9, _, _, _ | 10, _, _, _ | 11, _, _, _ | 12, _, _, _ | 13, _, _, _ | 14, _, _, _ | 15, _, _, _ | 16, _, _, _ => rfl
  | j + 17, h1, _, _ => exact absurd h1 (by omega)
end Go.Proofs.YtjbapldlgnlepaaGreatDoor
namespace Go.Proofs.YtjbapldlgnlepaaGreatDoor
open Go.RowKit Go.Deep Go.WideShapes

theorem gs_of {w0 W : World} {B T m c : Nat} {sa : Nat → Option Addr} {ln sc : Nat → Nat} {N : Nat → Int} (hs : BkS w0 B T m c sa ln sc N) (hm : 0 < m) (h : BkT w0 B T m c sa ln sc N W) (hr : RowsF w0 m sa ln sc N ln W) : GS w0 B T m c sa ln sc N W.heap.size :=
  ⟨hs, World.block_lt_of_cell? _ _ h.fld, World.block_lt_of_cell? _ _ (h.ent 0 hm).1, fun j hj b e => hr.lt hj e, fun j hj b e => by
    obtain ⟨X, h1, -⟩ := hr j hj
    rw [e] at h1
    exact (h1.lt b rfl).1, h.low.size⟩

set_option maxRecDepth 100000 in
set_option maxHeartbeats 4000000 in
theorem apart_texts {w0 w : World} {B T m c : Nat} {sa : Nat → Option Addr} {ln sc : Nat → Nat} {N : Nat → Int} (hs : BkS w0 B T m c sa ln sc N) (hm : 0 < m) (hsm : ∀ i, i < m → ∃ n : Nat, N i = n ∧ n < 100) (h : BkT w0 B T m c sa ln sc N w) (hr : RowsF w0 m sa ln sc N (fun _ => 0) w) :
    Calls Tryz.prog 11 #[.pointer (some ⟨B, 0, none⟩)] w fun e w' => e = .returned (.bool true) ∧ Below w0.heap.size w0 w' := by
  have Hf0 := Lib.hid (fun W (h : BkT w0 B T m c sa ln sc N W) => fillInt_nil (h.oth 1 (by decide) (by decide) (by decide)))
  have Hg0 := Lib.hid (fun W (h : BkT w0 B T m c sa ln sc N W) => growInt_nil (h.oth 1 (by decide) (by decide) (by decide)))
  have Hl0 := Lib.hid (fun W (h : BkT w0 B T m c sa ln sc N W) => lookInt_nil (h.oth 1 (by decide) (by decide) (by decide)))
  have Hf2 := Lib.hid (fun W (h : BkT w0 B T m c sa ln sc N W) => fillValue_nil (h.oth 3 (by decide) (by decide) (by decide)))
  have Hg2 := Lib.hid (fun W (h : BkT w0 B T m c sa ln sc N W) => growValue_nil (h.oth 3 (by decide) (by decide) (by decide)))
  have Hl2 := Lib.hid (fun W (h : BkT w0 B T m c sa ln sc N W) => lookValue_nil (h.oth 3 (by decide) (by decide) (by decide)))
  have Hf3 := Lib.hid (fun W (h : BkT w0 B T m c sa ln sc N W) => fillField_nil (h.oth 4 (by decide) (by decide) (by decide)))
  have Hg3 := Lib.hid (fun W (h : BkT w0 B T m c sa ln sc N W) => growField_nil (h.oth 4 (by decide) (by decide) (by decide)))
  have Hl3 := Lib.hid (fun W (h : BkT w0 B T m c sa ln sc N W) => lookField_nil (h.oth 4 (by decide) (by decide) (by decide)))
  have Hf4 := Lib.hid (fun W (h : BkT w0 B T m c sa ln sc N W) => fillWord_nil (h.oth 5 (by decide) (by decide) (by decide)))
  have Hg4 := Lib.hid (fun W (h : BkT w0 B T m c sa ln sc N W) => growWord_nil (h.oth 5 (by decide) (by decide) (by decide)))
  have Hl4 := Lib.hid (fun W (h : BkT w0 B T m c sa ln sc N W) => lookWord_nil (h.oth 5 (by decide) (by decide) (by decide)))
  have Hf5 := Lib.hid (fun W (h : BkT w0 B T m c sa ln sc N W) => fillChild_nil (h.oth 6 (by decide) (by decide) (by decide)))
  have Hg5 := Lib.hid (fun W (h : BkT w0 B T m c sa ln sc N W) => growChild_nil (h.oth 6 (by decide) (by decide) (by decide)))
  have Hl5 := Lib.hid (fun W (h : BkT w0 B T m c sa ln sc N W) => lookChild_nil (h.oth 6 (by decide) (by decide) (by decide)))
  have Hf6 := Lib.hid (fun W (h : BkT w0 B T m c sa ln sc N W) => fillCell_nil (h.oth 7 (by decide) (by decide) (by decide)))
  have Hg6 := Lib.hid (fun W (h : BkT w0 B T m c sa ln sc N W) => growCell_nil (h.oth 7 (by decide) (by decide) (by decide)))
  have Hl6 := Lib.hid (fun W (h : BkT w0 B T m c sa ln sc N W) => lookCell_nil (h.oth 7 (by decide) (by decide) (by decide)))
  have Hf7 := Lib.hid (fun W (h : BkT w0 B T m c sa ln sc N W) => fillInst_nil (h.oth 8 (by decide) (by decide) (by decide)))
  have Hg7 := Lib.hid (fun W (h : BkT w0 B T m c sa ln sc N W) => growInst_nil (h.oth 8 (by decide) (by decide) (by decide)))
  have Hl7 := Lib.hid (fun W (h : BkT w0 B T m c sa ln sc N W) => lookInst_nil (h.oth 8 (by decide) (by decide) (by decide)))
  have Hf8 := Lib.hid (fun W (h : BkT w0 B T m c sa ln sc N W) => fillAct_nil (h.oth 9 (by decide) (by decide) (by decide)))
  have Hg8 := Lib.hid (fun W (h : BkT w0 B T m c sa ln sc N W) => growAct_nil (h.oth 9 (by decide) (by decide) (by decide)))
  have Hl8 := Lib.hid (fun W (h : BkT w0 B T m c sa ln sc N W) => lookAct_nil (h.oth 9 (by decide) (by decide) (by decide)))
  have Hf9 := Lib.hid (fun W (h : BkT w0 B T m c sa ln sc N W) => fillExpr_nil (h.oth 10 (by decide) (by decide) (by decide)))
  have Hg9 := Lib.hid (fun W (h : BkT w0 B T m c sa ln sc N W) => growExpr_nil (h.oth 10 (by decide) (by decide) (by decide)))
  have Hl9 := Lib.hid (fun W (h : BkT w0 B T m c sa ln sc N W) => lookExpr_nil (h.oth 10 (by decide) (by decide) (by decide)))
  have Hf10 := Lib.hid (fun W (h : BkT w0 B T m c sa ln sc N W) => fillStmt_nil (h.oth 11 (by decide) (by decide) (by decide)))
  have Hg10 := Lib.hid (fun W (h : BkT w0 B T m c sa ln sc N W) => growStmt_nil (h.oth 11 (by decide) (by decide) (by decide)))
  have Hl10 := Lib.hid (fun W (h : BkT w0 B T m c sa ln sc N W) => lookStmt_nil (h.oth 11 (by decide) (by decide) (by decide)))
  have Hf11 := Lib.hid (fun W (h : BkT w0 B T m c sa ln sc N W) => fillComponent_nil (h.oth 12 (by decide) (by decide) (by decide)))
  have Hg11 := Lib.hid (fun W (h : BkT w0 B T m c sa ln sc N W) => growComponent_nil (h.oth 12 (by decide) (by decide) (by decide)))
  have Hl11 := Lib.hid (fun W (h : BkT w0 B T m c sa ln sc N W) => lookComponent_nil (h.oth 12 (by decide) (by decide) (by decide)))
  have Hf12 := Lib.hid (fun W (h : BkT w0 B T m c sa ln sc N W) => fillNode_nil (h.oth 13 (by decide) (by decide) (by decide)))
  have Hg12 := Lib.hid (fun W (h : BkT w0 B T m c sa ln sc N W) => growNode_nil (h.oth 13 (by decide) (by decide) (by decide)))
  have Hl12 := Lib.hid (fun W (h : BkT w0 B T m c sa ln sc N W) => lookNode_nil (h.oth 13 (by decide) (by decide) (by decide)))
  have Hf13 := Lib.hid (fun W (h : BkT w0 B T m c sa ln sc N W) => fillOp_nil (h.oth 14 (by decide) (by decide) (by decide)))
  have Hg13 := Lib.hid (fun W (h : BkT w0 B T m c sa ln sc N W) => growOp_nil (h.oth 14 (by decide) (by decide) (by decide)))
  have Hl13 := Lib.hid (fun W (h : BkT w0 B T m c sa ln sc N W) => lookOp_nil (h.oth 14 (by decide) (by decide) (by decide)))
  have Hf14 := Lib.hid (fun W (h : BkT w0 B T m c sa ln sc N W) => fillNote_nil (h.oth 15 (by decide) (by decide) (by decide)))
  have Hg14 := Lib.hid (fun W (h : BkT w0 B T m c sa ln sc N W) => growNote_nil (h.oth 15 (by decide) (by decide) (by decide)))
  have Hl14 := Lib.hid (fun W (h : BkT w0 B T m c sa ln sc N W) => lookNote_nil (h.oth 15 (by decide) (by decide) (by decide)))
  have Hf15 := Lib.hid (fun W (h : BkT w0 B T m c sa ln sc N W) => fillResource_nil (h.oth 16 (by decide) (by decide) (by decide)))
  have Hg15 := Lib.hid (fun W (h : BkT w0 B T m c sa ln sc N W) => growResource_nil (h.oth 16 (by decide) (by decide) (by decide)))
  have Hl15 := Lib.hid (fun W (h : BkT w0 B T m c sa ln sc N W) => lookResource_nil (h.oth 16 (by decide) (by decide) (by decide)))
  have HF := Lib.hid (fillText_any hs h hr)
  have HG := Lib.hid (fun W (h : BkT w0 B T m c sa ln sc N W) (hr : RowsF w0 m sa ln sc N ln W) => (growText_any (gs_of hs hm h hr) h hr (Nat.le_refl _)).mono (R' := fun e w' => e = .returned (.tuple #[]) ∧ ∃ ws, GS w0 B T m c sa ln sc N ws ∧ GO w0 B T m c sa ln sc N ws m w') (fun e w' hh => ⟨hh.1, _, gs_of hs hm h hr, hh.2⟩))
  have HL := Lib.hid (fun W ws (h1 : GS w0 B T m c sa ln sc N ws) (h2 : GO w0 B T m c sa ln sc N ws m W) => lookText_any h1 hsm h2)
  have OK := Lib.hid h
  clear h hr hs hm hsm
  go_enter Tryz.func11, Tryz.ntmps11
  go_wp2_with (first
    | (go_at_call 22; (with_reducible refine (Hf0.out _ OK.out).mono ?_); rintro x w1 ⟨rfl, rfl⟩)
    | (go_at_call 38; (with_reducible refine (Hg0.out _ OK.out).mono ?_); rintro x w1 ⟨rfl, rfl⟩)
    | (go_at_call 54; (with_reducible refine (Hl0.out _ OK.out).mono ?_); rintro x w1 ⟨rfl, rfl⟩)
    | (go_at_call 24; (with_reducible refine (Hf2.out _ OK.out).mono ?_); rintro x w1 ⟨rfl, rfl⟩)
    | (go_at_call 40; (with_reducible refine (Hg2.out _ OK.out).mono ?_); rintro x w1 ⟨rfl, rfl⟩)
    | (go_at_call 56; (with_reducible refine (Hl2.out _ OK.out).mono ?_); rintro x w1 ⟨rfl, rfl⟩)
    | (go_at_call 25; (with_reducible refine (Hf3.out _ OK.out).mono ?_); rintro x w1 ⟨rfl, rfl⟩)
    | (go_at_call 41; (with_reducible refine (Hg3.out _ OK.out).mono ?_); rintro x w1 ⟨rfl, rfl⟩)
    | (go_at_call 57; (with_reducible refine (Hl3.out _ OK.out).mono ?_); rintro x w1 ⟨rfl, rfl⟩)
    | (go_at_call 26; (with_reducible refine (Hf4.out _ OK.out).mono ?_); rintro x w1 ⟨rfl, rfl⟩)
    | (go_at_call 42; (with_reducible refine (Hg4.out _ OK.out).mono ?_); rintro x w1 ⟨rfl, rfl⟩)
    | (go_at_call 58; (with_reducible refine (Hl4.out _ OK.out).mono ?_); rintro x w1 ⟨rfl, rfl⟩)
    | (go_at_call 27; (with_reducible refine (Hf5.out _ OK.out).mono ?_); rintro x w1 ⟨rfl, rfl⟩)
    | (go_at_call 43; (with_reducible refine (Hg5.out _ OK.out).mono ?_); rintro x w1 ⟨rfl, rfl⟩)
    | (go_at_call 59; (with_reducible refine (Hl5.out _ OK.out).mono ?_); rintro x w1 ⟨rfl, rfl⟩)
    | (go_at_call 28; (with_reducible refine (Hf6.out _ OK.out).mono ?_); rintro x w1 ⟨rfl, rfl⟩)
    | (go_at_call 44; (with_reducible refine (Hg6.out _ OK.out).mono ?_); rintro x w1 ⟨rfl, rfl⟩)
    | (go_at_call 60; (with_reducible refine (Hl6.out _ OK.out).mono ?_); rintro x w1 ⟨rfl, rfl⟩)
    | (go_at_call 29; (with_reducible refine (Hf7.out _ OK.out).mono ?_); rintro x w1 ⟨rfl, rfl⟩)
    | (go_at_call 45; (with_reducible refine (Hg7.out _ OK.out).mono ?_); rintro x w1 ⟨rfl, rfl⟩)
    | (go_at_call 61; (with_reducible refine (Hl7.out _ OK.out).mono ?_); rintro x w1 ⟨rfl, rfl⟩)
    | (go_at_call 30; (with_reducible refine (Hf8.out _ OK.out).mono ?_); rintro x w1 ⟨rfl, rfl⟩)
    | (go_at_call 46; (with_reducible refine (Hg8.out _ OK.out).mono ?_); rintro x w1 ⟨rfl, rfl⟩)
    | (go_at_call 62; (with_reducible refine (Hl8.out _ OK.out).mono ?_); rintro x w1 ⟨rfl, rfl⟩)
    | (go_at_call 31; (with_reducible refine (Hf9.out _ OK.out).mono ?_); rintro x w1 ⟨rfl, rfl⟩)
    | (go_at_call 47; (with_reducible refine (Hg9.out _ OK.out).mono ?_); rintro x w1 ⟨rfl, rfl⟩)
    | (go_at_call 63; (with_reducible refine (Hl9.out _ OK.out).mono ?_); rintro x w1 ⟨rfl, rfl⟩)
    | (go_at_call 32; (with_reducible refine (Hf10.out _ OK.out).mono ?_); rintro x w1 ⟨rfl, rfl⟩)
    | (go_at_call 48; (with_reducible refine (Hg10.out _ OK.out).mono ?_); rintro x w1 ⟨rfl, rfl⟩)
    | (go_at_call 64; (with_reducible refine (Hl10.out _ OK.out).mono ?_); rintro x w1 ⟨rfl, rfl⟩)
    | (go_at_call 33; (with_reducible refine (Hf11.out _ OK.out).mono ?_); rintro x w1 ⟨rfl, rfl⟩)
    | (go_at_call 49; (with_reducible refine (Hg11.out _ OK.out).mono ?_); rintro x w1 ⟨rfl, rfl⟩)
    | (go_at_call 65; (with_reducible refine (Hl11.out _ OK.out).mono ?_); rintro x w1 ⟨rfl, rfl⟩)
    | (go_at_call 34; (with_reducible refine (Hf12.out _ OK.out).mono ?_); rintro x w1 ⟨rfl, rfl⟩)
    | (go_at_call 50; (with_reducible refine (Hg12.out _ OK.out).mono ?_); rintro x w1 ⟨rfl, rfl⟩)
    | (go_at_call 66; (with_reducible refine (Hl12.out _ OK.out).mono ?_); rintro x w1 ⟨rfl, rfl⟩)
    | (go_at_call 35; (with_reducible refine (Hf13.out _ OK.out).mono ?_); rintro x w1 ⟨rfl, rfl⟩)
    | (go_at_call 51; (with_reducible refine (Hg13.out _ OK.out).mono ?_); rintro x w1 ⟨rfl, rfl⟩)
    | (go_at_call 67; (with_reducible refine (Hl13.out _ OK.out).mono ?_); rintro x w1 ⟨rfl, rfl⟩)
    | (go_at_call 36; (with_reducible refine (Hf14.out _ OK.out).mono ?_); rintro x w1 ⟨rfl, rfl⟩)
    | (go_at_call 52; (with_reducible refine (Hg14.out _ OK.out).mono ?_); rintro x w1 ⟨rfl, rfl⟩)
    | (go_at_call 68; (with_reducible refine (Hl14.out _ OK.out).mono ?_); rintro x w1 ⟨rfl, rfl⟩)
    | (go_at_call 37; (with_reducible refine (Hf15.out _ OK.out).mono ?_); rintro x w1 ⟨rfl, rfl⟩)
    | (go_at_call 53; (with_reducible refine (Hg15.out _ OK.out).mono ?_); rintro x w1 ⟨rfl, rfl⟩)
    | (go_at_call 69; (with_reducible refine (Hl15.out _ OK.out).mono ?_); rintro x w1 ⟨rfl, rfl⟩)
    | (go_at_call 23; (with_reducible refine (HF.out).mono ?_); rintro x w1 ⟨rfl, h1, h2⟩; have OK := Lib.hid h1; have HR := Lib.hid h2; clear h1 h2)
    | (go_at_call 39; (with_reducible refine (HG.out _ OK.out HR.out).mono ?_); rintro x w1 ⟨rfl, ws, h1, h2⟩; have OK := Lib.hid h2.bk; have HGO := Lib.hid h2; have HGS := Lib.hid h1; clear h1 h2)
    | (go_at_call 55; (with_reducible refine (HL.out _ _ HGS.out HGO.out).mono ?_); rintro x w1 ⟨rfl, h1⟩; have OK := Lib.hid h1.bk; have HE := Lib.hid h1.bk; clear h1))
  go_ret
  exact ⟨rfl, HE.out.low⟩
end Go.Proofs.YtjbapldlgnlepaaGreatDoor
