/-
  Walks: the reference's Takes, Names; SameTexts of two lists of the thirteen names; the book's words.
  Conditions: for words, the three tables hold what the program's text lays in them.
-/
import Derived.Test.YtjbapldlgnlepaaGreatDoorNames
import Derived.Test.YtjbapldlgnlepaaGreatDoorTabs
import Derived.Lib.ItoaLen
import Derived.IntWalk
namespace Go.Proofs.YtjbapldlgnlepaaGreatDoor
open Go.RowKit Go.Deep Go.WideShapes
open Go.Sort hiding Below

set_option maxHeartbeats 1000000 in
theorem rTakes_0 (w : World) : Calls Tryz.prog 6 #[.string ⟨#[97, 100, 100]⟩] w fun e w' => e = .returned (.tuple #[.int .i64 2, .int .i64 (2), .bool true]) ∧ Below w.heap.size w w' := by
  have h0 : (ByteArray.toList ⟨#[97, 100, 100]⟩ == ByteArray.toList ⟨#[97, 100, 100]⟩) = true := by decide +kernel
  have h1 : (ByteArray.toList ⟨#[97, 100, 100]⟩ == ByteArray.toList ⟨#[115, 117, 98]⟩) = false := by decide +kernel
  have h2 : (ByteArray.toList ⟨#[97, 100, 100]⟩ == ByteArray.toList ⟨#[109, 117, 108]⟩) = false := by decide +kernel
  have h3 : (ByteArray.toList ⟨#[97, 100, 100]⟩ == ByteArray.toList ⟨#[108, 116]⟩) = false := by decide +kernel
  have h4 : (ByteArray.toList ⟨#[97, 100, 100]⟩ == ByteArray.toList ⟨#[101, 113]⟩) = false := by decide +kernel
  have h5 : (ByteArray.toList ⟨#[97, 100, 100]⟩ == ByteArray.toList ⟨#[110, 111, 116]⟩) = false := by decide +kernel
  have h6 : (ByteArray.toList ⟨#[97, 100, 100]⟩ == ByteArray.toList ⟨#[99, 97, 116]⟩) = false := by decide +kernel
  have h7 : (ByteArray.toList ⟨#[97, 100, 100]⟩ == ByteArray.toList ⟨#[108, 101, 110]⟩) = false := by decide +kernel
  have h8 : (ByteArray.toList ⟨#[97, 100, 100]⟩ == ByteArray.toList ⟨#[97, 116]⟩) = false := by decide +kernel
  have h9 : (ByteArray.toList ⟨#[97, 100, 100]⟩ == ByteArray.toList ⟨#[103, 101, 116]⟩) = false := by decide +kernel
  have h10 : (ByteArray.toList ⟨#[97, 100, 100]⟩ == ByteArray.toList ⟨#[108, 105, 115, 116]⟩) = false := by decide +kernel
  have h11 : (ByteArray.toList ⟨#[97, 100, 100]⟩ == ByteArray.toList ⟨#[112, 117, 115, 104]⟩) = false := by decide +kernel
  have h12 : (ByteArray.toList ⟨#[97, 100, 100]⟩ == ByteArray.toList ⟨#[116, 101, 120, 116]⟩) = false := by decide +kernel
  go_enter Tryz.func6, Tryz.ntmps6
  go_wp2_with fail
  go_ret3
  exact ⟨rfl, Below.refl _ _⟩
set_option maxHeartbeats 1000000 in
theorem rTakes_1 (w : World) : Calls Tryz.prog 6 #[.string ⟨#[115, 117, 98]⟩] w fun e w' => e = .returned (.tuple #[.int .i64 2, .int .i64 (2), .bool true]) ∧ Below w.heap.size w w' := by
  have h0 : (ByteArray.toList ⟨#[115, 117, 98]⟩ == ByteArray.toList ⟨#[97, 100, 100]⟩) = false := by decide +kernel
  have h1 : (ByteArray.toList ⟨#[115, 117, 98]⟩ == ByteArray.toList ⟨#[115, 117, 98]⟩) = true := by decide +kernel
  have h2 : (ByteArray.toList ⟨#[115, 117, 98]⟩ == ByteArray.toList ⟨#[109, 117, 108]⟩) = false := by decide +kernel
  have h3 : (ByteArray.toList ⟨#[115, 117, 98]⟩ == ByteArray.toList ⟨#[108, 116]⟩) = false := by decide +kernel
  have h4 : (ByteArray.toList ⟨#[115, 117, 98]⟩ == ByteArray.toList ⟨#[101, 113]⟩) = false := by decide +kernel
  have h5 : (ByteArray.toList ⟨#[115, 117, 98]⟩ == ByteArray.toList ⟨#[110, 111, 116]⟩) = false := by decide +kernel
  have h6 : (ByteArray.toList ⟨#[115, 117, 98]⟩ == ByteArray.toList ⟨#[99, 97, 116]⟩) = false := by decide +kernel
  have h7 : (ByteArray.toList ⟨#[115, 117, 98]⟩ == ByteArray.toList ⟨#[108, 101, 110]⟩) = false := by decide +kernel
  have h8 : (ByteArray.toList ⟨#[115, 117, 98]⟩ == ByteArray.toList ⟨#[97, 116]⟩) = false := by decide +kernel
  have h9 : (ByteArray.toList ⟨#[115, 117, 98]⟩ == ByteArray.toList ⟨#[103, 101, 116]⟩) = false := by decide +kernel
  have h10 : (ByteArray.toList ⟨#[115, 117, 98]⟩ == ByteArray.toList ⟨#[108, 105, 115, 116]⟩) = false := by decide +kernel
  have h11 : (ByteArray.toList ⟨#[115, 117, 98]⟩ == ByteArray.toList ⟨#[112, 117, 115, 104]⟩) = false := by decide +kernel
  have h12 : (ByteArray.toList ⟨#[115, 117, 98]⟩ == ByteArray.toList ⟨#[116, 101, 120, 116]⟩) = false := by decide +kernel
  go_enter Tryz.func6, Tryz.ntmps6
  go_wp2_with fail
  go_ret3
  exact ⟨rfl, Below.refl _ _⟩
set_option maxHeartbeats 1000000 in
theorem rTakes_2 (w : World) : Calls Tryz.prog 6 #[.string ⟨#[109, 117, 108]⟩] w fun e w' => e = .returned (.tuple #[.int .i64 2, .int .i64 (2), .bool true]) ∧ Below w.heap.size w w' := by
  have h0 : (ByteArray.toList ⟨#[109, 117, 108]⟩ == ByteArray.toList ⟨#[97, 100, 100]⟩) = false := by decide +kernel
  have h1 : (ByteArray.toList ⟨#[109, 117, 108]⟩ == ByteArray.toList ⟨#[115, 117, 98]⟩) = false := by decide +kernel
  have h2 : (ByteArray.toList ⟨#[109, 117, 108]⟩ == ByteArray.toList ⟨#[109, 117, 108]⟩) = true := by decide +kernel
  have h3 : (ByteArray.toList ⟨#[109, 117, 108]⟩ == ByteArray.toList ⟨#[108, 116]⟩) = false := by decide +kernel
  have h4 : (ByteArray.toList ⟨#[109, 117, 108]⟩ == ByteArray.toList ⟨#[101, 113]⟩) = false := by decide +kernel
  have h5 : (ByteArray.toList ⟨#[109, 117, 108]⟩ == ByteArray.toList ⟨#[110, 111, 116]⟩) = false := by decide +kernel
  have h6 : (ByteArray.toList ⟨#[109, 117, 108]⟩ == ByteArray.toList ⟨#[99, 97, 116]⟩) = false := by decide +kernel
  have h7 : (ByteArray.toList ⟨#[109, 117, 108]⟩ == ByteArray.toList ⟨#[108, 101, 110]⟩) = false := by decide +kernel
  have h8 : (ByteArray.toList ⟨#[109, 117, 108]⟩ == ByteArray.toList ⟨#[97, 116]⟩) = false := by decide +kernel
  have h9 : (ByteArray.toList ⟨#[109, 117, 108]⟩ == ByteArray.toList ⟨#[103, 101, 116]⟩) = false := by decide +kernel
  have h10 : (ByteArray.toList ⟨#[109, 117, 108]⟩ == ByteArray.toList ⟨#[108, 105, 115, 116]⟩) = false := by decide +kernel
  have h11 : (ByteArray.toList ⟨#[109, 117, 108]⟩ == ByteArray.toList ⟨#[112, 117, 115, 104]⟩) = false := by decide +kernel
  have h12 : (ByteArray.toList ⟨#[109, 117, 108]⟩ == ByteArray.toList ⟨#[116, 101, 120, 116]⟩) = false := by decide +kernel
  go_enter Tryz.func6, Tryz.ntmps6
  go_wp2_with fail
  go_ret3
  exact ⟨rfl, Below.refl _ _⟩
set_option maxHeartbeats 1000000 in
theorem rTakes_3 (w : World) : Calls Tryz.prog 6 #[.string ⟨#[108, 116]⟩] w fun e w' => e = .returned (.tuple #[.int .i64 2, .int .i64 (2), .bool true]) ∧ Below w.heap.size w w' := by
  have h0 : (ByteArray.toList ⟨#[108, 116]⟩ == ByteArray.toList ⟨#[97, 100, 100]⟩) = false := by decide +kernel
  have h1 : (ByteArray.toList ⟨#[108, 116]⟩ == ByteArray.toList ⟨#[115, 117, 98]⟩) = false := by decide +kernel
  have h2 : (ByteArray.toList ⟨#[108, 116]⟩ == ByteArray.toList ⟨#[109, 117, 108]⟩) = false := by decide +kernel
  have h3 : (ByteArray.toList ⟨#[108, 116]⟩ == ByteArray.toList ⟨#[108, 116]⟩) = true := by decide +kernel
  have h4 : (ByteArray.toList ⟨#[108, 116]⟩ == ByteArray.toList ⟨#[101, 113]⟩) = false := by decide +kernel
  have h5 : (ByteArray.toList ⟨#[108, 116]⟩ == ByteArray.toList ⟨#[110, 111, 116]⟩) = false := by decide +kernel
  have h6 : (ByteArray.toList ⟨#[108, 116]⟩ == ByteArray.toList ⟨#[99, 97, 116]⟩) = false := by decide +kernel
  have h7 : (ByteArray.toList ⟨#[108, 116]⟩ == ByteArray.toList ⟨#[108, 101, 110]⟩) = false := by decide +kernel
  have h8 : (ByteArray.toList ⟨#[108, 116]⟩ == ByteArray.toList ⟨#[97, 116]⟩) = false := by decide +kernel
  have h9 : (ByteArray.toList ⟨#[108, 116]⟩ == ByteArray.toList ⟨#[103, 101, 116]⟩) = false := by decide +kernel
  have h10 : (ByteArray.toList ⟨#[108, 116]⟩ == ByteArray.toList ⟨#[108, 105, 115, 116]⟩) = false := by decide +kernel
  have h11 : (ByteArray.toList ⟨#[108, 116]⟩ == ByteArray.toList ⟨#[112, 117, 115, 104]⟩) = false := by decide +kernel
  have h12 : (ByteArray.toList ⟨#[108, 116]⟩ == ByteArray.toList ⟨#[116, 101, 120, 116]⟩) = false := by decide +kernel
  go_enter Tryz.func6, Tryz.ntmps6
  go_wp2_with fail
  go_ret3
  exact ⟨rfl, Below.refl _ _⟩
set_option maxHeartbeats 1000000 in
theorem rTakes_4 (w : World) : Calls Tryz.prog 6 #[.string ⟨#[101, 113]⟩] w fun e w' => e = .returned (.tuple #[.int .i64 2, .int .i64 (2), .bool true]) ∧ Below w.heap.size w w' := by
  have h0 : (ByteArray.toList ⟨#[101, 113]⟩ == ByteArray.toList ⟨#[97, 100, 100]⟩) = false := by decide +kernel
  have h1 : (ByteArray.toList ⟨#[101, 113]⟩ == ByteArray.toList ⟨#[115, 117, 98]⟩) = false := by decide +kernel
  have h2 : (ByteArray.toList ⟨#[101, 113]⟩ == ByteArray.toList ⟨#[109, 117, 108]⟩) = false := by decide +kernel
  have h3 : (ByteArray.toList ⟨#[101, 113]⟩ == ByteArray.toList ⟨#[108, 116]⟩) = false := by decide +kernel
  have h4 : (ByteArray.toList ⟨#[101, 113]⟩ == ByteArray.toList ⟨#[101, 113]⟩) = true := by decide +kernel
  have h5 : (ByteArray.toList ⟨#[101, 113]⟩ == ByteArray.toList ⟨#[110, 111, 116]⟩) = false := by decide +kernel
  have h6 : (ByteArray.toList ⟨#[101, 113]⟩ == ByteArray.toList ⟨#[99, 97, 116]⟩) = false := by decide +kernel
  have h7 : (ByteArray.toList ⟨#[101, 113]⟩ == ByteArray.toList ⟨#[108, 101, 110]⟩) = false := by decide +kernel
  have h8 : (ByteArray.toList ⟨#[101, 113]⟩ == ByteArray.toList ⟨#[97, 116]⟩) = false := by decide +kernel
  have h9 : (ByteArray.toList ⟨#[101, 113]⟩ == ByteArray.toList ⟨#[103, 101, 116]⟩) = false := by decide +kernel
  have h10 : (ByteArray.toList ⟨#[101, 113]⟩ == ByteArray.toList ⟨#[108, 105, 115, 116]⟩) = false := by decide +kernel
  have h11 : (ByteArray.toList ⟨#[101, 113]⟩ == ByteArray.toList ⟨#[112, 117, 115, 104]⟩) = false := by decide +kernel
  have h12 : (ByteArray.toList ⟨#[101, 113]⟩ == ByteArray.toList ⟨#[116, 101, 120, 116]⟩) = false := by decide +kernel
  go_enter Tryz.func6, Tryz.ntmps6
  go_wp2_with fail
  go_ret3
  exact ⟨rfl, Below.refl _ _⟩
set_option maxHeartbeats 1000000 in
theorem rTakes_5 (w : World) : Calls Tryz.prog 6 #[.string ⟨#[110, 111, 116]⟩] w fun e w' => e = .returned (.tuple #[.int .i64 1, .int .i64 (1), .bool true]) ∧ Below w.heap.size w w' := by
  have h0 : (ByteArray.toList ⟨#[110, 111, 116]⟩ == ByteArray.toList ⟨#[97, 100, 100]⟩) = false := by decide +kernel
  have h1 : (ByteArray.toList ⟨#[110, 111, 116]⟩ == ByteArray.toList ⟨#[115, 117, 98]⟩) = false := by decide +kernel
  have h2 : (ByteArray.toList ⟨#[110, 111, 116]⟩ == ByteArray.toList ⟨#[109, 117, 108]⟩) = false := by decide +kernel
  have h3 : (ByteArray.toList ⟨#[110, 111, 116]⟩ == ByteArray.toList ⟨#[108, 116]⟩) = false := by decide +kernel
  have h4 : (ByteArray.toList ⟨#[110, 111, 116]⟩ == ByteArray.toList ⟨#[101, 113]⟩) = false := by decide +kernel
  have h5 : (ByteArray.toList ⟨#[110, 111, 116]⟩ == ByteArray.toList ⟨#[110, 111, 116]⟩) = true := by decide +kernel
  have h6 : (ByteArray.toList ⟨#[110, 111, 116]⟩ == ByteArray.toList ⟨#[99, 97, 116]⟩) = false := by decide +kernel
  have h7 : (ByteArray.toList ⟨#[110, 111, 116]⟩ == ByteArray.toList ⟨#[108, 101, 110]⟩) = false := by decide +kernel
  have h8 : (ByteArray.toList ⟨#[110, 111, 116]⟩ == ByteArray.toList ⟨#[97, 116]⟩) = false := by decide +kernel
  have h9 : (ByteArray.toList ⟨#[110, 111, 116]⟩ == ByteArray.toList ⟨#[103, 101, 116]⟩) = false := by decide +kernel
  have h10 : (ByteArray.toList ⟨#[110, 111, 116]⟩ == ByteArray.toList ⟨#[108, 105, 115, 116]⟩) = false := by decide +kernel
  have h11 : (ByteArray.toList ⟨#[110, 111, 116]⟩ == ByteArray.toList ⟨#[112, 117, 115, 104]⟩) = false := by decide +kernel
  have h12 : (ByteArray.toList ⟨#[110, 111, 116]⟩ == ByteArray.toList ⟨#[116, 101, 120, 116]⟩) = false := by decide +kernel
  go_enter Tryz.func6, Tryz.ntmps6
  go_wp2_with fail
  go_ret3
  exact ⟨rfl, Below.refl _ _⟩
set_option maxHeartbeats 1000000 in
theorem rTakes_6 (w : World) : Calls Tryz.prog 6 #[.string ⟨#[99, 97, 116]⟩] w fun e w' => e = .returned (.tuple #[.int .i64 0, .int .i64 (-1), .bool true]) ∧ Below w.heap.size w w' := by
  have h0 : (ByteArray.toList ⟨#[99, 97, 116]⟩ == ByteArray.toList ⟨#[97, 100, 100]⟩) = false := by decide +kernel
  have h1 : (ByteArray.toList ⟨#[99, 97, 116]⟩ == ByteArray.toList ⟨#[115, 117, 98]⟩) = false := by decide +kernel
  have h2 : (ByteArray.toList ⟨#[99, 97, 116]⟩ == ByteArray.toList ⟨#[109, 117, 108]⟩) = false := by decide +kernel
  have h3 : (ByteArray.toList ⟨#[99, 97, 116]⟩ == ByteArray.toList ⟨#[108, 116]⟩) = false := by decide +kernel
  have h4 : (ByteArray.toList ⟨#[99, 97, 116]⟩ == ByteArray.toList ⟨#[101, 113]⟩) = false := by decide +kernel
  have h5 : (ByteArray.toList ⟨#[99, 97, 116]⟩ == ByteArray.toList ⟨#[110, 111, 116]⟩) = false := by decide +kernel
  have h6 : (ByteArray.toList ⟨#[99, 97, 116]⟩ == ByteArray.toList ⟨#[99, 97, 116]⟩) = true := by decide +kernel
  have h7 : (ByteArray.toList ⟨#[99, 97, 116]⟩ == ByteArray.toList ⟨#[108, 101, 110]⟩) = false := by decide +kernel
  have h8 : (ByteArray.toList ⟨#[99, 97, 116]⟩ == ByteArray.toList ⟨#[97, 116]⟩) = false := by decide +kernel
  have h9 : (ByteArray.toList ⟨#[99, 97, 116]⟩ == ByteArray.toList ⟨#[103, 101, 116]⟩) = false := by decide +kernel
  have h10 : (ByteArray.toList ⟨#[99, 97, 116]⟩ == ByteArray.toList ⟨#[108, 105, 115, 116]⟩) = false := by decide +kernel
  have h11 : (ByteArray.toList ⟨#[99, 97, 116]⟩ == ByteArray.toList ⟨#[112, 117, 115, 104]⟩) = false := by decide +kernel
  have h12 : (ByteArray.toList ⟨#[99, 97, 116]⟩ == ByteArray.toList ⟨#[116, 101, 120, 116]⟩) = false := by decide +kernel
  go_enter Tryz.func6, Tryz.ntmps6
  go_wp2_with fail
  go_ret3
  exact ⟨rfl, Below.refl _ _⟩
set_option maxHeartbeats 1000000 in
theorem rTakes_7 (w : World) : Calls Tryz.prog 6 #[.string ⟨#[108, 101, 110]⟩] w fun e w' => e = .returned (.tuple #[.int .i64 1, .int .i64 (1), .bool true]) ∧ Below w.heap.size w w' := by
  have h0 : (ByteArray.toList ⟨#[108, 101, 110]⟩ == ByteArray.toList ⟨#[97, 100, 100]⟩) = false := by decide +kernel
  have h1 : (ByteArray.toList ⟨#[108, 101, 110]⟩ == ByteArray.toList ⟨#[115, 117, 98]⟩) = false := by decide +kernel
  have h2 : (ByteArray.toList ⟨#[108, 101, 110]⟩ == ByteArray.toList ⟨#[109, 117, 108]⟩) = false := by decide +kernel
  have h3 : (ByteArray.toList ⟨#[108, 101, 110]⟩ == ByteArray.toList ⟨#[108, 116]⟩) = false := by decide +kernel
  have h4 : (ByteArray.toList ⟨#[108, 101, 110]⟩ == ByteArray.toList ⟨#[101, 113]⟩) = false := by decide +kernel
  have h5 : (ByteArray.toList ⟨#[108, 101, 110]⟩ == ByteArray.toList ⟨#[110, 111, 116]⟩) = false := by decide +kernel
  have h6 : (ByteArray.toList ⟨#[108, 101, 110]⟩ == ByteArray.toList ⟨#[99, 97, 116]⟩) = false := by decide +kernel
  have h7 : (ByteArray.toList ⟨#[108, 101, 110]⟩ == ByteArray.toList ⟨#[108, 101, 110]⟩) = true := by decide +kernel
  have h8 : (ByteArray.toList ⟨#[108, 101, 110]⟩ == ByteArray.toList ⟨#[97, 116]⟩) = false := by decide +kernel
  have h9 : (ByteArray.toList ⟨#[108, 101, 110]⟩ == ByteArray.toList ⟨#[103, 101, 116]⟩) = false := by decide +kernel
  have h10 : (ByteArray.toList ⟨#[108, 101, 110]⟩ == ByteArray.toList ⟨#[108, 105, 115, 116]⟩) = false := by decide +kernel
  have h11 : (ByteArray.toList ⟨#[108, 101, 110]⟩ == ByteArray.toList ⟨#[112, 117, 115, 104]⟩) = false := by decide +kernel
  have h12 : (ByteArray.toList ⟨#[108, 101, 110]⟩ == ByteArray.toList ⟨#[116, 101, 120, 116]⟩) = false := by decide +kernel
  go_enter Tryz.func6, Tryz.ntmps6
  go_wp2_with fail
  go_ret3
  exact ⟨rfl, Below.refl _ _⟩
set_option maxHeartbeats 1000000 in
theorem rTakes_8 (w : World) : Calls Tryz.prog 6 #[.string ⟨#[97, 116]⟩] w fun e w' => e = .returned (.tuple #[.int .i64 2, .int .i64 (2), .bool true]) ∧ Below w.heap.size w w' := by
  have h0 : (ByteArray.toList ⟨#[97, 116]⟩ == ByteArray.toList ⟨#[97, 100, 100]⟩) = false := by decide +kernel
  have h1 : (ByteArray.toList ⟨#[97, 116]⟩ == ByteArray.toList ⟨#[115, 117, 98]⟩) = false := by decide +kernel
  have h2 : (ByteArray.toList ⟨#[97, 116]⟩ == ByteArray.toList ⟨#[109, 117, 108]⟩) = false := by decide +kernel
  have h3 : (ByteArray.toList ⟨#[97, 116]⟩ == ByteArray.toList ⟨#[108, 116]⟩) = false := by decide +kernel
  have h4 : (ByteArray.toList ⟨#[97, 116]⟩ == ByteArray.toList ⟨#[101, 113]⟩) = false := by decide +kernel
  have h5 : (ByteArray.toList ⟨#[97, 116]⟩ == ByteArray.toList ⟨#[110, 111, 116]⟩) = false := by decide +kernel
  have h6 : (ByteArray.toList ⟨#[97, 116]⟩ == ByteArray.toList ⟨#[99, 97, 116]⟩) = false := by decide +kernel
  have h7 : (ByteArray.toList ⟨#[97, 116]⟩ == ByteArray.toList ⟨#[108, 101, 110]⟩) = false := by decide +kernel
  have h8 : (ByteArray.toList ⟨#[97, 116]⟩ == ByteArray.toList ⟨#[97, 116]⟩) = true := by decide +kernel
  have h9 : (ByteArray.toList ⟨#[97, 116]⟩ == ByteArray.toList ⟨#[103, 101, 116]⟩) = false := by decide +kernel
  have h10 : (ByteArray.toList ⟨#[97, 116]⟩ == ByteArray.toList ⟨#[108, 105, 115, 116]⟩) = false := by decide +kernel
  have h11 : (ByteArray.toList ⟨#[97, 116]⟩ == ByteArray.toList ⟨#[112, 117, 115, 104]⟩) = false := by decide +kernel
  have h12 : (ByteArray.toList ⟨#[97, 116]⟩ == ByteArray.toList ⟨#[116, 101, 120, 116]⟩) = false := by decide +kernel
  go_enter Tryz.func6, Tryz.ntmps6
  go_wp2_with fail
  go_ret3
  exact ⟨rfl, Below.refl _ _⟩
set_option maxHeartbeats 1000000 in
theorem rTakes_9 (w : World) : Calls Tryz.prog 6 #[.string ⟨#[103, 101, 116]⟩] w fun e w' => e = .returned (.tuple #[.int .i64 2, .int .i64 (2), .bool true]) ∧ Below w.heap.size w w' := by
  have h0 : (ByteArray.toList ⟨#[103, 101, 116]⟩ == ByteArray.toList ⟨#[97, 100, 100]⟩) = false := by decide +kernel
  have h1 : (ByteArray.toList ⟨#[103, 101, 116]⟩ == ByteArray.toList ⟨#[115, 117, 98]⟩) = false := by decide +kernel
  have h2 : (ByteArray.toList ⟨#[103, 101, 116]⟩ == ByteArray.toList ⟨#[109, 117, 108]⟩) = false := by decide +kernel
  have h3 : (ByteArray.toList ⟨#[103, 101, 116]⟩ == ByteArray.toList ⟨#[108, 116]⟩) = false := by decide +kernel
  have h4 : (ByteArray.toList ⟨#[103, 101, 116]⟩ == ByteArray.toList ⟨#[101, 113]⟩) = false := by decide +kernel
  have h5 : (ByteArray.toList ⟨#[103, 101, 116]⟩ == ByteArray.toList ⟨#[110, 111, 116]⟩) = false := by decide +kernel
  have h6 : (ByteArray.toList ⟨#[103, 101, 116]⟩ == ByteArray.toList ⟨#[99, 97, 116]⟩) = false := by decide +kernel
  have h7 : (ByteArray.toList ⟨#[103, 101, 116]⟩ == ByteArray.toList ⟨#[108, 101, 110]⟩) = false := by decide +kernel
  have h8 : (ByteArray.toList ⟨#[103, 101, 116]⟩ == ByteArray.toList ⟨#[97, 116]⟩) = false := by decide +kernel
  have h9 : (ByteArray.toList ⟨#[103, 101, 116]⟩ == ByteArray.toList ⟨#[103, 101, 116]⟩) = true := by decide +kernel
  have h10 : (ByteArray.toList ⟨#[103, 101, 116]⟩ == ByteArray.toList ⟨#[108, 105, 115, 116]⟩) = false := by decide +kernel
  have h11 : (ByteArray.toList ⟨#[103, 101, 116]⟩ == ByteArray.toList ⟨#[112, 117, 115, 104]⟩) = false := by decide +kernel
  have h12 : (ByteArray.toList ⟨#[103, 101, 116]⟩ == ByteArray.toList ⟨#[116, 101, 120, 116]⟩) = false := by decide +kernel
  go_enter Tryz.func6, Tryz.ntmps6
  go_wp2_with fail
  go_ret3
  exact ⟨rfl, Below.refl _ _⟩
set_option maxHeartbeats 1000000 in
theorem rTakes_10 (w : World) : Calls Tryz.prog 6 #[.string ⟨#[108, 105, 115, 116]⟩] w fun e w' => e = .returned (.tuple #[.int .i64 0, .int .i64 (-1), .bool true]) ∧ Below w.heap.size w w' := by
  have h0 : (ByteArray.toList ⟨#[108, 105, 115, 116]⟩ == ByteArray.toList ⟨#[97, 100, 100]⟩) = false := by decide +kernel
  have h1 : (ByteArray.toList ⟨#[108, 105, 115, 116]⟩ == ByteArray.toList ⟨#[115, 117, 98]⟩) = false := by decide +kernel
  have h2 : (ByteArray.toList ⟨#[108, 105, 115, 116]⟩ == ByteArray.toList ⟨#[109, 117, 108]⟩) = false := by decide +kernel
  have h3 : (ByteArray.toList ⟨#[108, 105, 115, 116]⟩ == ByteArray.toList ⟨#[108, 116]⟩) = false := by decide +kernel
  have h4 : (ByteArray.toList ⟨#[108, 105, 115, 116]⟩ == ByteArray.toList ⟨#[101, 113]⟩) = false := by decide +kernel
  have h5 : (ByteArray.toList ⟨#[108, 105, 115, 116]⟩ == ByteArray.toList ⟨#[110, 111, 116]⟩) = false := by decide +kernel
  have h6 : (ByteArray.toList ⟨#[108, 105, 115, 116]⟩ == ByteArray.toList ⟨#[99, 97, 116]⟩) = false := by decide +kernel
  have h7 : (ByteArray.toList ⟨#[108, 105, 115, 116]⟩ == ByteArray.toList ⟨#[108, 101, 110]⟩) = false := by decide +kernel
  have h8 : (ByteArray.toList ⟨#[108, 105, 115, 116]⟩ == ByteArray.toList ⟨#[97, 116]⟩) = false := by decide +kernel
  have h9 : (ByteArray.toList ⟨#[108, 105, 115, 116]⟩ == ByteArray.toList ⟨#[103, 101, 116]⟩) = false := by decide +kernel
  have h10 : (ByteArray.toList ⟨#[108, 105, 115, 116]⟩ == ByteArray.toList ⟨#[108, 105, 115, 116]⟩) = true := by decide +kernel
  have h11 : (ByteArray.toList ⟨#[108, 105, 115, 116]⟩ == ByteArray.toList ⟨#[112, 117, 115, 104]⟩) = false := by decide +kernel
  have h12 : (ByteArray.toList ⟨#[108, 105, 115, 116]⟩ == ByteArray.toList ⟨#[116, 101, 120, 116]⟩) = false := by decide +kernel
  go_enter Tryz.func6, Tryz.ntmps6
  go_wp2_with fail
  go_ret3
  exact ⟨rfl, Below.refl _ _⟩
set_option maxHeartbeats 1000000 in
theorem rTakes_11 (w : World) : Calls Tryz.prog 6 #[.string ⟨#[112, 117, 115, 104]⟩] w fun e w' => e = .returned (.tuple #[.int .i64 2, .int .i64 (2), .bool true]) ∧ Below w.heap.size w w' := by
  have h0 : (ByteArray.toList ⟨#[112, 117, 115, 104]⟩ == ByteArray.toList ⟨#[97, 100, 100]⟩) = false := by decide +kernel
  have h1 : (ByteArray.toList ⟨#[112, 117, 115, 104]⟩ == ByteArray.toList ⟨#[115, 117, 98]⟩) = false := by decide +kernel
  have h2 : (ByteArray.toList ⟨#[112, 117, 115, 104]⟩ == ByteArray.toList ⟨#[109, 117, 108]⟩) = false := by decide +kernel
  have h3 : (ByteArray.toList ⟨#[112, 117, 115, 104]⟩ == ByteArray.toList ⟨#[108, 116]⟩) = false := by decide +kernel
  have h4 : (ByteArray.toList ⟨#[112, 117, 115, 104]⟩ == ByteArray.toList ⟨#[101, 113]⟩) = false := by decide +kernel
  have h5 : (ByteArray.toList ⟨#[112, 117, 115, 104]⟩ == ByteArray.toList ⟨#[110, 111, 116]⟩) = false := by decide +kernel
  have h6 : (ByteArray.toList ⟨#[112, 117, 115, 104]⟩ == ByteArray.toList ⟨#[99, 97, 116]⟩) = false := by decide +kernel
  have h7 : (ByteArray.toList ⟨#[112, 117, 115, 104]⟩ == ByteArray.toList ⟨#[108, 101, 110]⟩) = false := by decide +kernel
  have h8 : (ByteArray.toList ⟨#[112, 117, 115, 104]⟩ == ByteArray.toList ⟨#[97, 116]⟩) = false := by decide +kernel
  have h9 : (ByteArray.toList ⟨#[112, 117, 115, 104]⟩ == ByteArray.toList ⟨#[103, 101, 116]⟩) = false := by decide +kernel
  have h10 : (ByteArray.toList ⟨#[112, 117, 115, 104]⟩ == ByteArray.toList ⟨#[108, 105, 115, 116]⟩) = false := by decide +kernel
  have h11 : (ByteArray.toList ⟨#[112, 117, 115, 104]⟩ == ByteArray.toList ⟨#[112, 117, 115, 104]⟩) = true := by decide +kernel
  have h12 : (ByteArray.toList ⟨#[112, 117, 115, 104]⟩ == ByteArray.toList ⟨#[116, 101, 120, 116]⟩) = false := by decide +kernel
  go_enter Tryz.func6, Tryz.ntmps6
  go_wp2_with fail
  go_ret3
  exact ⟨rfl, Below.refl _ _⟩
set_option maxHeartbeats 1000000 in
theorem rTakes_12 (w : World) : Calls Tryz.prog 6 #[.string ⟨#[116, 101, 120, 116]⟩] w fun e w' => e = .returned (.tuple #[.int .i64 1, .int .i64 (1), .bool true]) ∧ Below w.heap.size w w' := by
  have h0 : (ByteArray.toList ⟨#[116, 101, 120, 116]⟩ == ByteArray.toList ⟨#[97, 100, 100]⟩) = false := by decide +kernel
  have h1 : (ByteArray.toList ⟨#[116, 101, 120, 116]⟩ == ByteArray.toList ⟨#[115, 117, 98]⟩) = false := by decide +kernel
  have h2 : (ByteArray.toList ⟨#[116, 101, 120, 116]⟩ == ByteArray.toList ⟨#[109, 117, 108]⟩) = false := by decide +kernel
  have h3 : (ByteArray.toList ⟨#[116, 101, 120, 116]⟩ == ByteArray.toList ⟨#[108, 116]⟩) = false := by decide +kernel
  have h4 : (ByteArray.toList ⟨#[116, 101, 120, 116]⟩ == ByteArray.toList ⟨#[101, 113]⟩) = false := by decide +kernel
  have h5 : (ByteArray.toList ⟨#[116, 101, 120, 116]⟩ == ByteArray.toList ⟨#[110, 111, 116]⟩) = false := by decide +kernel
  have h6 : (ByteArray.toList ⟨#[116, 101, 120, 116]⟩ == ByteArray.toList ⟨#[99, 97, 116]⟩) = false := by decide +kernel
  have h7 : (ByteArray.toList ⟨#[116, 101, 120, 116]⟩ == ByteArray.toList ⟨#[108, 101, 110]⟩) = false := by decide +kernel
  have h8 : (ByteArray.toList ⟨#[116, 101, 120, 116]⟩ == ByteArray.toList ⟨#[97, 116]⟩) = false := by decide +kernel
  have h9 : (ByteArray.toList ⟨#[116, 101, 120, 116]⟩ == ByteArray.toList ⟨#[103, 101, 116]⟩) = false := by decide +kernel
  have h10 : (ByteArray.toList ⟨#[116, 101, 120, 116]⟩ == ByteArray.toList ⟨#[108, 105, 115, 116]⟩) = false := by decide +kernel
  have h11 : (ByteArray.toList ⟨#[116, 101, 120, 116]⟩ == ByteArray.toList ⟨#[112, 117, 115, 104]⟩) = false := by decide +kernel
  have h12 : (ByteArray.toList ⟨#[116, 101, 120, 116]⟩ == ByteArray.toList ⟨#[116, 101, 120, 116]⟩) = true := by decide +kernel
  go_enter Tryz.func6, Tryz.ntmps6
  go_wp2_with fail
  go_ret3
  exact ⟨rfl, Below.refl _ _⟩
theorem lit_ne {name : ByteArray} {l : List UInt8} (h : (⟨l.toArray⟩ : ByteArray) ≠ name) : (name.toList == l) = false := by
  have h1 := bytes_ne (fun e : name = ⟨l.toArray⟩ => h e.symm)
  rw [ByteArray.toList_eq ⟨l.toArray⟩] at h1
  simpa using h1
set_option maxHeartbeats 1000000 in
theorem rTakes_no (name : ByteArray) (h : ∀ j, j < 13 → opName j ≠ name) (w : World) : Calls Tryz.prog 6 #[.string name] w fun e w' => e = .returned (.tuple #[.int .i64 0, .int .i64 0, .bool false]) ∧ Below w.heap.size w w' := by
  have h0 : (name.toList == [97, 100, 100]) = false := lit_ne (l := [97, 100, 100]) (h 0 (by decide))
  have h1 : (name.toList == [115, 117, 98]) = false := lit_ne (l := [115, 117, 98]) (h 1 (by decide))
  have h2 : (name.toList == [109, 117, 108]) = false := lit_ne (l := [109, 117, 108]) (h 2 (by decide))
  have h3 : (name.toList == [108, 116]) = false := lit_ne (l := [108, 116]) (h 3 (by decide))
  have h4 : (name.toList == [101, 113]) = false := lit_ne (l := [101, 113]) (h 4 (by decide))
  have h5 : (name.toList == [110, 111, 116]) = false := lit_ne (l := [110, 111, 116]) (h 5 (by decide))
  have h6 : (name.toList == [99, 97, 116]) = false := lit_ne (l := [99, 97, 116]) (h 6 (by decide))
  have h7 : (name.toList == [108, 101, 110]) = false := lit_ne (l := [108, 101, 110]) (h 7 (by decide))
  have h8 : (name.toList == [97, 116]) = false := lit_ne (l := [97, 116]) (h 8 (by decide))
  have h9 : (name.toList == [103, 101, 116]) = false := lit_ne (l := [103, 101, 116]) (h 9 (by decide))
  have h10 : (name.toList == [108, 105, 115, 116]) = false := lit_ne (l := [108, 105, 115, 116]) (h 10 (by decide))
  have h11 : (name.toList == [112, 117, 115, 104]) = false := lit_ne (l := [112, 117, 115, 104]) (h 11 (by decide))
  have h12 : (name.toList == [116, 101, 120, 116]) = false := lit_ne (l := [116, 101, 120, 116]) (h 12 (by decide))
  clear h
  go_enter Tryz.func6, Tryz.ntmps6
  go_wp2_with fail
  go_ret3
  exact ⟨rfl, Below.refl _ _⟩
theorem rTakes_any (name : ByteArray) (w : World) : Calls Tryz.prog 6 #[.string name] w fun e w' => e = .returned (.tuple #[.int .i64 (takeL name), .int .i64 (takeM name), .bool (takeB name)]) ∧ Below w.heap.size w w' := by
  unfold takeL takeM takeB
  cases hk : opAt name with
  | none => exact rTakes_no name (findF_eq_none.1 hk) w
  | some k =>
    obtain ⟨h1, h2⟩ := findF_lt hk
    subst h2
    match k, h1 with
    | 0, _ => exact rTakes_0 w
    | 1, _ => exact rTakes_1 w
    | 2, _ => exact rTakes_2 w
    | 3, _ => exact rTakes_3 w
    | 4, _ => exact rTakes_4 w
    | 5, _ => exact rTakes_5 w
    | 6, _ => exact rTakes_6 w
    | 7, _ => exact rTakes_7 w
    | 8, _ => exact rTakes_8 w
    | 9, _ => exact rTakes_9 w
    | 10, _ => exact rTakes_10 w
    | 11, _ => exact rTakes_11 w
    | 12, _ => exact rTakes_12 w

def nmS' (i : Nat) : ByteArray := opName (srtN i)
/-- A list of the thirteen names. -/
def NmsAt (W : World) (g : Nat) : Prop := ∀ i, i < 13 → W.cell? ⟨g, i, none⟩ = some (.string (nmS' i))
theorem NmsAt.below {W W' : World} {g : Nat} (h : NmsAt W g) (hb : Below W.heap.size W W') : NmsAt W' g := fun i hi => by rw [hb.cell (World.block_lt_of_cell? _ _ (h i hi)), h i hi]
theorem nmsAt_own {w w' : World} {g cap : Nat} (hown : w'.ownsRow w.heap.size 9 1 (.slice (some ⟨g, 0, none⟩) 13 cap) 13 (srtL.map encStr)) : NmsAt w' g := fun i hi => by
  have e : (⟨g, 0, none⟩ : Addr).add i = ⟨g, i, none⟩ := by simpa using add_plain g 0 i
  have hg : (srtL.map encStr)[i]? = some (.string (nmS' i)) := by
    rw [List.getElem?_map, srtL, List.getElem?_map, List.getElem?_range hi]
    simp [nmB, encStr_data, nmS']
  have := hown.cells (g := g) rfl i _ hg
  rw [e] at this
  exact this

set_option maxHeartbeats 1000000 in
theorem rNames_any (w : World) : Calls Tryz.prog 9 #[] w fun e w' => e = .returned (.slice (some ⟨w.heap.size, 0, none⟩) 13 13) ∧ NmsAt w' w.heap.size ∧ Below w.heap.size w w' := by
  have HB := Lib.hid (fun O => below_alloc w O)
  have HN : Hid (NmsAt (w.alloc (.cells #[.string ⟨#[97, 100, 100]⟩, .string ⟨#[97, 116]⟩, .string ⟨#[99, 97, 116]⟩, .string ⟨#[101, 113]⟩, .string ⟨#[103, 101, 116]⟩, .string ⟨#[108, 101, 110]⟩, .string ⟨#[108, 105, 115, 116]⟩, .string ⟨#[108, 116]⟩, .string ⟨#[109, 117, 108]⟩, .string ⟨#[110, 111, 116]⟩, .string ⟨#[112, 117, 115, 104]⟩, .string ⟨#[115, 117, 98]⟩, .string ⟨#[116, 101, 120, 116]⟩] 9)) w.heap.size) := by
    intro i hi
    have h := at_new (w := w) (cs := [.string ⟨#[97, 100, 100]⟩, .string ⟨#[97, 116]⟩, .string ⟨#[99, 97, 116]⟩, .string ⟨#[101, 113]⟩, .string ⟨#[103, 101, 116]⟩, .string ⟨#[108, 101, 110]⟩, .string ⟨#[108, 105, 115, 116]⟩, .string ⟨#[108, 116]⟩, .string ⟨#[109, 117, 108]⟩, .string ⟨#[110, 111, 116]⟩, .string ⟨#[112, 117, 115, 104]⟩, .string ⟨#[115, 117, 98]⟩, .string ⟨#[116, 101, 120, 116]⟩]) (T := 9) rfl (Below.refl _ _)
    have h2 := h i hi
    rw [Nat.zero_add] at h2
    rw [h2]
    match i, hi with
    | 0, _ | 1, _ | 2, _ | 3, _ | 4, _ | 5, _ | 6, _ | 7, _ | 8, _ | 9, _ | 10, _ | 11, _ | 12, _ => rfl
  go_enter Tryz.func9, Tryz.ntmps9
  go_wp2_with fail
  go_ret
  exact ⟨rfl, HN.out, HB.out _⟩

set_option maxHeartbeats 2000000 in
theorem sameTexts_any (a b c d : Nat) (w : World) (ha : NmsAt w a) (hb : NmsAt w b) : Calls Tryz.prog 8 #[.slice (some ⟨a, 0, none⟩) 13 c, .slice (some ⟨b, 0, none⟩) 13 d] w fun e w' => e = .returned (.bool true) ∧ Below w.heap.size w w' := by
  have HA := Lib.hid (fun W (h : Below w.heap.size w W) => And.intro (ha.below h) (hb.below h))
  clear ha hb
  go_enter Tryz.func8, Tryz.ntmps8
  go_wp2_with fail
  go_loopw [5] (fun i wr => ∃ k : Nat, k ≤ 13 ∧ i = .int .i64 k ∧ Below w.heap.size w wr) (fun i _ => 13 - (intOf i).toNat)
  case atStart => exact ⟨0, Nat.zero_le _, rfl, Below.refl _ _⟩
  case round =>
    obtain ⟨k, hk, rfl, hlow⟩ := hrel
    have HL := Lib.hid hlow
    clear hlow
    by_cases hlt : k < 13
    · have k13 : (k : Int) < 13 := by omega
      have k0 : (0 : Int) ≤ (k : Int) := by omega
      have m1 := (HA.out _ HL.out).1 k hlt
      have m2 := (HA.out _ HL.out).2 k hlt
      obtain ⟨nk, hnk⟩ : ∃ n, nmS' k = n := ⟨_, rfl⟩
      rw [hnk] at m1 m2
      clear hnk
      go_upto_region 6 with fail
      go_quiet (fail)
      have HL2 := Lib.hid (HL.out.trans ((below_drawn _ nq).mono HL.out.size))
      go_wp2_with fail
      refine ⟨⟨k + 1, hlt, by go_num, HL2.out⟩, by simp [intOf]; omega⟩
    · obtain rfl : k = 13 := by omega
      go_wp2_with fail
      go_ret
      exact ⟨rfl, HL.out⟩

/-- The book's word. -/
def wordB (n : Int) : ByteArray := ⟨(35 :: Lib.itoa n).toArray⟩
set_option maxHeartbeats 1000000 in
theorem itoa_any (n : Int) (hn : -9223372036854775808 ≤ n ∧ n ≤ 9223372036854775807) (w : World) (ht : Tabs w) : Calls Tryz.prog 180 #[.int .i64 n] w fun e w' => e = .returned (.string ⟨(Lib.itoa n).toArray⟩) ∧ Below w.heap.size w w' := by
  have HI := Lib.hid (Tryz.internal_strconv_Itoa n hn.1 hn.2 w ht.2.2)
  go_enter Tryz.func180, Tryz.ntmps180
  go_wp2_with (go_at_call 188; (with_reducible refine HI.out.mono ?_); rintro x w1 ⟨rfl, k, os, rfl⟩)
  go_ret
  exact ⟨rfl, Lib.below_grow _ _ (Nat.le_refl _) _ _⟩
theorem wordB_cat (n : Int) : ByteArray.append ⟨#[35]⟩ ⟨(Lib.itoa n).toArray⟩ = wordB n := rfl
set_option maxHeartbeats 1000000 in
theorem word_any (n : Int) (hn : -9223372036854775808 ≤ n ∧ n ≤ 9223372036854775807) (w : World) (ht : Tabs w) : Calls Tryz.prog 156 #[.int .i64 n] w fun e w' => e = .returned (.string (wordB n)) ∧ Below w.heap.size w w' := by
  have HI := Lib.hid (itoa_any n hn w ht)
  have hl := Lib.itoa_length_le n hn.1 hn.2
  have hl2 : ¬ 9223372036854775807 < 1 + (Lib.itoa n).length := by omega
  go_enter Tryz.func156, Tryz.ntmps156
  go_wp2_with (go_at_call 180; (with_reducible refine HI.out.mono ?_); rintro x w1 ⟨rfl, hb⟩)
  go_ret
  exact ⟨rfl, hb⟩
set_option maxHeartbeats 1000000 in
theorem markText_any (n : Int) (hn : -9223372036854775808 ≤ n ∧ n ≤ 9223372036854775807) (w : World) (ht : Tabs w) : Calls Tryz.prog 99 #[.int .i64 n] w fun e w' => e = .returned (.string (wordB n)) ∧ Below w.heap.size w w' := by
  have HI := Lib.hid (word_any n hn w ht)
  go_enter Tryz.func99, Tryz.ntmps99
  go_wp2_with (go_at_call 156; (with_reducible refine HI.out.mono ?_); rintro x w1 ⟨rfl, hb⟩)
  go_ret
  exact ⟨rfl, hb⟩
set_option maxHeartbeats 1000000 in
theorem isText_any (n : Int) (hn : -9223372036854775808 ≤ n ∧ n ≤ 9223372036854775807) (w : World) (ht : Tabs w) : Calls Tryz.prog 115 #[.string (wordB n), .int .i64 n] w fun e w' => e = .returned (.bool true) ∧ Below w.heap.size w w' := by
  have HI := Lib.hid (word_any n hn w ht)
  generalize wordB n = x at HI ⊢
  go_enter Tryz.func115, Tryz.ntmps115
  go_wp2_with (go_at_call 156; (with_reducible refine HI.out.mono ?_); rintro x w1 ⟨rfl, hb⟩)
  go_ret
  exact ⟨by simp, hb⟩
end Go.Proofs.YtjbapldlgnlepaaGreatDoor
