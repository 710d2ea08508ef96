/-
  Walks: markField, isField, fillField, growField, lookField, keepField, over a book of lists of many kinds.
  Conditions: the book, its lists, and what they hold lie in blocks behind a world; no two share a block.
-/
import Derived.Test.YtmhemajcnfcdmaaGreatDoorOMa
import Derived.Test.YtmhemajcnfcdmaaGreatDoorBkW
namespace Go.Proofs.YtmhemajcnfcdmaaGreatDoor.Bk
set_option linter.unusedVariables false
set_option linter.unusedSimpArgs false
open Go.RowKit
def markFieldL (n : Int) : List Value := [.string (wordB n), .int .u8 0, .int .i64 0, .string ⟨#[]⟩, .slice none 0 0, .slice none 0 0, .int .u8 0, .string ⟨#[]⟩, .bool false]
set_option maxRecDepth 100000 in
set_option maxHeartbeats 8000000 in
theorem markField_any (n : Int) (hn : -9223372036854775808 ≤ n ∧ n ≤ 9223372036854775807) (w : World) (ht : PT w) : Calls Tryz.prog 94 #[.int .i64 n] w fun e w' => e = .returned (.agg #[.string (wordB n), .int .u8 0, .int .i64 0, .string ⟨#[]⟩, .slice none 0 0, .slice none 0 0, .int .u8 0, .string ⟨#[]⟩, .bool false]) ∧ Below w.heap.size w w' := by
  have HI := Lib.hid (fun W (hb : Below w.heap.size w W) => word_any n hn W (ht.below hb))
  have HC : Hid (∀ W, Below (w.alloc (.cells #[.string ⟨#[]⟩, .int .u8 0, .int .i64 0, .string ⟨#[]⟩, .slice none 0 0, .slice none 0 0, .int .u8 0, .string ⟨#[]⟩, .bool false] 78)).heap.size (w.alloc (.cells #[.string ⟨#[]⟩, .int .u8 0, .int .i64 0, .string ⟨#[]⟩, .slice none 0 0, .slice none 0 0, .int .u8 0, .string ⟨#[]⟩, .bool false] 78)) W → ((W.cell? ⟨w.heap.size, 0, none⟩ = some (.string ⟨#[]⟩) ∧ W.cell? ⟨w.heap.size, 1, none⟩ = some (.int .u8 0) ∧ W.cell? ⟨w.heap.size, 2, none⟩ = some (.int .i64 0) ∧ W.cell? ⟨w.heap.size, 3, none⟩ = some (.string ⟨#[]⟩) ∧ W.cell? ⟨w.heap.size, 4, none⟩ = some (.slice none 0 0) ∧ W.cell? ⟨w.heap.size, 5, none⟩ = some (.slice none 0 0) ∧ W.cell? ⟨w.heap.size, 6, none⟩ = some (.int .u8 0) ∧ W.cell? ⟨w.heap.size, 7, none⟩ = some (.string ⟨#[]⟩) ∧ W.cell? ⟨w.heap.size, 8, none⟩ = some (.bool false)) ∧ (W.frozen? ⟨w.heap.size, 0, none⟩ = false ∧ W.frozen? ⟨w.heap.size, 1, none⟩ = false ∧ W.frozen? ⟨w.heap.size, 2, none⟩ = false ∧ W.frozen? ⟨w.heap.size, 3, none⟩ = false ∧ W.frozen? ⟨w.heap.size, 4, none⟩ = false ∧ W.frozen? ⟨w.heap.size, 5, none⟩ = false ∧ W.frozen? ⟨w.heap.size, 6, none⟩ = false ∧ W.frozen? ⟨w.heap.size, 7, none⟩ = false ∧ W.frozen? ⟨w.heap.size, 8, none⟩ = false)) ∧ (((((((((((W.setCell ⟨w.heap.size, 0, none⟩ (.string (wordB n))).setCell ⟨w.heap.size, 1, none⟩ (.int .u8 0)).setCell ⟨w.heap.size, 2, none⟩ (.int .i64 0)).setCell ⟨w.heap.size, 3, none⟩ (.string ⟨#[]⟩)).setCell ⟨w.heap.size, 4, none⟩ (.slice none 0 0)).setCell ⟨w.heap.size, 5, none⟩ (.slice none 0 0)).setCell ⟨w.heap.size, 6, none⟩ (.int .u8 0)).setCell ⟨w.heap.size, 7, none⟩ (.string ⟨#[]⟩)).setCell ⟨w.heap.size, 8, none⟩ (.bool false)).cell? ⟨w.heap.size, 0, none⟩ = some (.string (wordB n)) ∧ (((((((((W.setCell ⟨w.heap.size, 0, none⟩ (.string (wordB n))).setCell ⟨w.heap.size, 1, none⟩ (.int .u8 0)).setCell ⟨w.heap.size, 2, none⟩ (.int .i64 0)).setCell ⟨w.heap.size, 3, none⟩ (.string ⟨#[]⟩)).setCell ⟨w.heap.size, 4, none⟩ (.slice none 0 0)).setCell ⟨w.heap.size, 5, none⟩ (.slice none 0 0)).setCell ⟨w.heap.size, 6, none⟩ (.int .u8 0)).setCell ⟨w.heap.size, 7, none⟩ (.string ⟨#[]⟩)).setCell ⟨w.heap.size, 8, none⟩ (.bool false)).cell? ⟨w.heap.size, 1, none⟩ = some (.int .u8 0) ∧ (((((((((W.setCell ⟨w.heap.size, 0, none⟩ (.string (wordB n))).setCell ⟨w.heap.size, 1, none⟩ (.int .u8 0)).setCell ⟨w.heap.size, 2, none⟩ (.int .i64 0)).setCell ⟨w.heap.size, 3, none⟩ (.string ⟨#[]⟩)).setCell ⟨w.heap.size, 4, none⟩ (.slice none 0 0)).setCell ⟨w.heap.size, 5, none⟩ (.slice none 0 0)).setCell ⟨w.heap.size, 6, none⟩ (.int .u8 0)).setCell ⟨w.heap.size, 7, none⟩ (.string ⟨#[]⟩)).setCell ⟨w.heap.size, 8, none⟩ (.bool false)).cell? ⟨w.heap.size, 2, none⟩ = some (.int .i64 0) ∧ (((((((((W.setCell ⟨w.heap.size, 0, none⟩ (.string (wordB n))).setCell ⟨w.heap.size, 1, none⟩ (.int .u8 0)).setCell ⟨w.heap.size, 2, none⟩ (.int .i64 0)).setCell ⟨w.heap.size, 3, none⟩ (.string ⟨#[]⟩)).setCell ⟨w.heap.size, 4, none⟩ (.slice none 0 0)).setCell ⟨w.heap.size, 5, none⟩ (.slice none 0 0)).setCell ⟨w.heap.size, 6, none⟩ (.int .u8 0)).setCell ⟨w.heap.size, 7, none⟩ (.string ⟨#[]⟩)).setCell ⟨w.heap.size, 8, none⟩ (.bool false)).cell? ⟨w.heap.size, 3, none⟩ = some (.string ⟨#[]⟩) ∧ (((((((((W.setCell ⟨w.heap.size, 0, none⟩ (.string (wordB n))).setCell ⟨w.heap.size, 1, none⟩ (.int .u8 0)).setCell ⟨w.heap.size, 2, none⟩ (.int .i64 0)).setCell ⟨w.heap.size, 3, none⟩ (.string ⟨#[]⟩)).setCell ⟨w.heap.size, 4, none⟩ (.slice none 0 0)).setCell ⟨w.heap.size, 5, none⟩ (.slice none 0 0)).setCell ⟨w.heap.size, 6, none⟩ (.int .u8 0)).setCell ⟨w.heap.size, 7, none⟩ (.string ⟨#[]⟩)).setCell ⟨w.heap.size, 8, none⟩ (.bool false)).cell? ⟨w.heap.size, 4, none⟩ = some (.slice none 0 0) ∧ (((((((((W.setCell ⟨w.heap.size, 0, none⟩ (.string (wordB n))).setCell ⟨w.heap.size, 1, none⟩ (.int .u8 0)).setCell ⟨w.heap.size, 2, none⟩ (.int .i64 0)).setCell ⟨w.heap.size, 3, none⟩ (.string ⟨#[]⟩)).setCell ⟨w.heap.size, 4, none⟩ (.slice none 0 0)).setCell ⟨w.heap.size, 5, none⟩ (.slice none 0 0)).setCell ⟨w.heap.size, 6, none⟩ (.int .u8 0)).setCell ⟨w.heap.size, 7, none⟩ (.string ⟨#[]⟩)).setCell ⟨w.heap.size, 8, none⟩ (.bool false)).cell? ⟨w.heap.size, 5, none⟩ = some (.slice none 0 0) ∧ (((((((((W.setCell ⟨w.heap.size, 0, none⟩ (.string (wordB n))).setCell ⟨w.heap.size, 1, none⟩ (.int .u8 0)).setCell ⟨w.heap.size, 2, none⟩ (.int .i64 0)).setCell ⟨w.heap.size, 3, none⟩ (.string ⟨#[]⟩)).setCell ⟨w.heap.size, 4, none⟩ (.slice none 0 0)).setCell ⟨w.heap.size, 5, none⟩ (.slice none 0 0)).setCell ⟨w.heap.size, 6, none⟩ (.int .u8 0)).setCell ⟨w.heap.size, 7, none⟩ (.string ⟨#[]⟩)).setCell ⟨w.heap.size, 8, none⟩ (.bool false)).cell? ⟨w.heap.size, 6, none⟩ = some (.int .u8 0) ∧ (((((((((W.setCell ⟨w.heap.size, 0, none⟩ (.string (wordB n))).setCell ⟨w.heap.size, 1, none⟩ (.int .u8 0)).setCell ⟨w.heap.size, 2, none⟩ (.int .i64 0)).setCell ⟨w.heap.size, 3, none⟩ (.string ⟨#[]⟩)).setCell ⟨w.heap.size, 4, none⟩ (.slice none 0 0)).setCell ⟨w.heap.size, 5, none⟩ (.slice none 0 0)).setCell ⟨w.heap.size, 6, none⟩ (.int .u8 0)).setCell ⟨w.heap.size, 7, none⟩ (.string ⟨#[]⟩)).setCell ⟨w.heap.size, 8, none⟩ (.bool false)).cell? ⟨w.heap.size, 7, none⟩ = some (.string ⟨#[]⟩) ∧ (((((((((W.setCell ⟨w.heap.size, 0, none⟩ (.string (wordB n))).setCell ⟨w.heap.size, 1, none⟩ (.int .u8 0)).setCell ⟨w.heap.size, 2, none⟩ (.int .i64 0)).setCell ⟨w.heap.size, 3, none⟩ (.string ⟨#[]⟩)).setCell ⟨w.heap.size, 4, none⟩ (.slice none 0 0)).setCell ⟨w.heap.size, 5, none⟩ (.slice none 0 0)).setCell ⟨w.heap.size, 6, none⟩ (.int .u8 0)).setCell ⟨w.heap.size, 7, none⟩ (.string ⟨#[]⟩)).setCell ⟨w.heap.size, 8, none⟩ (.bool false)).cell? ⟨w.heap.size, 8, none⟩ = some (.bool false)) ∧ Below w.heap.size w (((((((((W.setCell ⟨w.heap.size, 0, none⟩ (.string (wordB n))).setCell ⟨w.heap.size, 1, none⟩ (.int .u8 0)).setCell ⟨w.heap.size, 2, none⟩ (.int .i64 0)).setCell ⟨w.heap.size, 3, none⟩ (.string ⟨#[]⟩)).setCell ⟨w.heap.size, 4, none⟩ (.slice none 0 0)).setCell ⟨w.heap.size, 5, none⟩ (.slice none 0 0)).setCell ⟨w.heap.size, 6, none⟩ (.int .u8 0)).setCell ⟨w.heap.size, 7, none⟩ (.string ⟨#[]⟩)).setCell ⟨w.heap.size, 8, none⟩ (.bool false)))) := Lib.hid (fun W hb => by
    have hz := at_new (cs := [.string ⟨#[]⟩, .int .u8 0, .int .i64 0, .string ⟨#[]⟩, .slice none 0 0, .slice none 0 0, .int .u8 0, .string ⟨#[]⟩, .bool false]) (T := 78) rfl (by rw [World.size_alloc] at hb; exact hb)
    have hy : ∀ r, W.frozen? ⟨w.heap.size, r, none⟩ = false := fun r => by rw [hb.frozen (p := ⟨w.heap.size, r, none⟩) (by simp)]; simp
    have hp := putL_get (g := w.heap.size) [.string (wordB n), .int .u8 0, .int .i64 0, .string ⟨#[]⟩, .slice none 0 0, .slice none 0 0, .int .u8 0, .string ⟨#[]⟩, .bool false] W 0 (fun j hj => ⟨_, (hz j hj).trans (List.getElem?_eq_getElem (show j < ([.string ⟨#[]⟩, .int .u8 0, .int .i64 0, .string ⟨#[]⟩, .slice none 0 0, .slice none 0 0, .int .u8 0, .string ⟨#[]⟩, .bool false] : List Value).length from hj))⟩)
    refine ⟨⟨⟨by have := hz 0 (by simp); simpa using this, by have := hz 1 (by simp); simpa using this, by have := hz 2 (by simp); simpa using this, by have := hz 3 (by simp); simpa using this, by have := hz 4 (by simp); simpa using this, by have := hz 5 (by simp); simpa using this, by have := hz 6 (by simp); simpa using this, by have := hz 7 (by simp); simpa using this, by have := hz 8 (by simp); simpa using this⟩, hy 0, hy 1, hy 2, hy 3, hy 4, hy 5, hy 6, hy 7, hy 8⟩, ⟨hp 0 (by decide : 0 < 9), hp 1 (by decide : 1 < 9), hp 2 (by decide : 2 < 9), hp 3 (by decide : 3 < 9), hp 4 (by decide : 4 < 9), hp 5 (by decide : 5 < 9), hp 6 (by decide : 6 < 9), hp 7 (by decide : 7 < 9), hp 8 (by decide : 8 < 9)⟩, ?_⟩
    exact putL_low (g := w.heap.size) (Nat.le_refl _) [.string (wordB n), .int .u8 0, .int .i64 0, .string ⟨#[]⟩, .slice none 0 0, .slice none 0 0, .int .u8 0, .string ⟨#[]⟩, .bool false] W 0 ((below_alloc w _).trans (hb.mono (by simp))))
  generalize wordB n = x at HI HC ⊢
  go_enter Tryz.func94, Tryz.ntmps94
  go_wp2_with (go_at_call 155; (with_reducible refine (HI.out _ (by first | exact Below.refl _ _ | exact below_alloc _ _)).mono ?_); rintro x w1 ⟨rfl, hb⟩; obtain ⟨⟨⟨x0, x1, x2, x3, x4, x5, x6, x7, x8⟩, z0, z1, z2, z3, z4, z5, z6, z7, z8⟩, HE⟩ := HC.out _ hb; replace HE := Lib.hid HE; clear hb)
  clear x0 x1 x2 x3 x4 x5 x6 x7 x8 z0 z1 z2 z3 z4 z5 z6 z7 z8
  revert HE
  generalize (((((((((w1.setCell ⟨w.heap.size, 0, none⟩ (.string (x))).setCell ⟨w.heap.size, 1, none⟩ (.int .u8 0)).setCell ⟨w.heap.size, 2, none⟩ (.int .i64 0)).setCell ⟨w.heap.size, 3, none⟩ (.string ⟨#[]⟩)).setCell ⟨w.heap.size, 4, none⟩ (.slice none 0 0)).setCell ⟨w.heap.size, 5, none⟩ (.slice none 0 0)).setCell ⟨w.heap.size, 6, none⟩ (.int .u8 0)).setCell ⟨w.heap.size, 7, none⟩ (.string ⟨#[]⟩)).setCell ⟨w.heap.size, 8, none⟩ (.bool false)) = Wz
  intro HE
  obtain ⟨⟨x0, x1, x2, x3, x4, x5, x6, x7, x8⟩, hlow⟩ := HE.out
  refine bodyPost_ret (v := .agg #[.string (x), .int .u8 0, .int .i64 0, .string ⟨#[]⟩, .slice none 0 0, .slice none 0 0, .int .u8 0, .string ⟨#[]⟩, .bool false]) (by simp [results, Tryz.results94, go_sem, x0, x1, x2, x3, x4, x5, x6, x7, x8]) rfl ⟨rfl, hlow⟩
set_option maxHeartbeats 1000000 in
theorem isField_any (n : Int) (hn : -9223372036854775808 ≤ n ∧ n ≤ 9223372036854775807) (w : World) (ht : PT w) : Calls Tryz.prog 110 #[.agg #[.string (wordB n), .int .u8 0, .int .i64 0, .string ⟨#[]⟩, .slice none 0 0, .slice none 0 0, .int .u8 0, .string ⟨#[]⟩, .bool false], .int .i64 n] w fun e w' => e = .returned (.bool true) ∧ Below w.heap.size w w' := by
  have HI := Lib.hid (fun W (hb : Below w.heap.size w W) => word_any n hn W (ht.below hb))
  have HB0 := Lib.hid (below_alloc w (.cells #[.string (wordB n), .int .u8 0, .int .i64 0, .string ⟨#[]⟩, .slice none 0 0, .slice none 0 0, .int .u8 0, .string ⟨#[]⟩, .bool false] 78))
  have HC : Hid (∀ W, Below (w.alloc (.cells #[.string (wordB n), .int .u8 0, .int .i64 0, .string ⟨#[]⟩, .slice none 0 0, .slice none 0 0, .int .u8 0, .string ⟨#[]⟩, .bool false] 78)).heap.size (w.alloc (.cells #[.string (wordB n), .int .u8 0, .int .i64 0, .string ⟨#[]⟩, .slice none 0 0, .slice none 0 0, .int .u8 0, .string ⟨#[]⟩, .bool false] 78)) W → W.cell? ⟨w.heap.size, 0, none⟩ = some (.string (wordB n)) ∧ W.cell? ⟨w.heap.size, 1, none⟩ = some (.int .u8 0) ∧ W.cell? ⟨w.heap.size, 2, none⟩ = some (.int .i64 0) ∧ W.cell? ⟨w.heap.size, 3, none⟩ = some (.string ⟨#[]⟩) ∧ W.cell? ⟨w.heap.size, 4, none⟩ = some (.slice none 0 0) ∧ W.cell? ⟨w.heap.size, 5, none⟩ = some (.slice none 0 0) ∧ W.cell? ⟨w.heap.size, 6, none⟩ = some (.int .u8 0) ∧ W.cell? ⟨w.heap.size, 7, none⟩ = some (.string ⟨#[]⟩) ∧ W.cell? ⟨w.heap.size, 8, none⟩ = some (.bool false)) := Lib.hid (fun W hb => by
    have hz := at_new (cs := [.string (wordB n), .int .u8 0, .int .i64 0, .string ⟨#[]⟩, .slice none 0 0, .slice none 0 0, .int .u8 0, .string ⟨#[]⟩, .bool false]) (T := 78) rfl (by rw [World.size_alloc] at hb; exact hb)
    exact ⟨by have := hz 0 (by simp); simpa using this, by have := hz 1 (by simp); simpa using this, by have := hz 2 (by simp); simpa using this, by have := hz 3 (by simp); simpa using this, by have := hz 4 (by simp); simpa using this, by have := hz 5 (by simp); simpa using this, by have := hz 6 (by simp); simpa using this, by have := hz 7 (by simp); simpa using this, by have := hz 8 (by simp); simpa using this⟩)
  have HL : Hid (w.heap.size < (w.alloc (.cells #[.string (wordB n), .int .u8 0, .int .i64 0, .string ⟨#[]⟩, .slice none 0 0, .slice none 0 0, .int .u8 0, .string ⟨#[]⟩, .bool false] 78)).heap.size) := Lib.hid (by simp)
  generalize wordB n = x at HI HC HB0 HL ⊢
  go_enter Tryz.func110, Tryz.ntmps110
  go_upto_region 1 with fail
  revert HB0 HC HL
  generalize w.alloc (.cells #[.string (x), .int .u8 0, .int .i64 0, .string ⟨#[]⟩, .slice none 0 0, .slice none 0 0, .int .u8 0, .string ⟨#[]⟩, .bool false] 78) = W1
  intro HC HB0 HL
  have FIN := Lib.hid (fun W (hb : Below W1.heap.size W1 W) => HB0.out.trans (hb.mono (Nat.le_of_lt HL.out)))
  generalize w.heap.size = gb at HC HL ⊢
  have KS := Lib.hid (fun W (hb : Below W1.heap.size W1 W) => show Below W1.heap.size W1 W ∧ (W.cell? ⟨gb, 0, none⟩ = some (.string (x)) ∧ W.cell? ⟨gb, 1, none⟩ = some (.int .u8 0) ∧ W.cell? ⟨gb, 2, none⟩ = some (.int .i64 0) ∧ W.cell? ⟨gb, 3, none⟩ = some (.string ⟨#[]⟩) ∧ W.cell? ⟨gb, 4, none⟩ = some (.slice none 0 0) ∧ W.cell? ⟨gb, 5, none⟩ = some (.slice none 0 0) ∧ W.cell? ⟨gb, 6, none⟩ = some (.int .u8 0) ∧ W.cell? ⟨gb, 7, none⟩ = some (.string ⟨#[]⟩) ∧ W.cell? ⟨gb, 8, none⟩ = some (.bool false)) from ⟨hb, HC.out W hb⟩)
  have HW := Lib.hid (fun W (hb : Below W1.heap.size W1 W) => HI.out W (FIN.out W hb))
  obtain ⟨-, k0, k1, k2, k3, k4, k5, k6, k7, k8⟩ := KS.out _ (Below.refl _ _)
  clear HI HB0 HC HL
  go_region_held3 (fun W => Below W1.heap.size W1 W ∧ (W.cell? ⟨gb, 0, none⟩ = some (.string (x)) ∧ W.cell? ⟨gb, 1, none⟩ = some (.int .u8 0) ∧ W.cell? ⟨gb, 2, none⟩ = some (.int .i64 0) ∧ W.cell? ⟨gb, 3, none⟩ = some (.string ⟨#[]⟩) ∧ W.cell? ⟨gb, 4, none⟩ = some (.slice none 0 0) ∧ W.cell? ⟨gb, 5, none⟩ = some (.slice none 0 0) ∧ W.cell? ⟨gb, 6, none⟩ = some (.int .u8 0) ∧ W.cell? ⟨gb, 7, none⟩ = some (.string ⟨#[]⟩) ∧ W.cell? ⟨gb, 8, none⟩ = some (.bool false)))
    (first | (refine KS.out _ (below_step ?_ hb1); go_split_ands; assumption) | exact KS.out _ (Below.refl _ _).drew)
    (first | (go_at_call 155; (with_reducible refine (HW.out _ ?_).mono ?_); (go_split_ands; assumption); rintro x w1 ⟨rfl, hb1⟩))
  all_goals go_wp2_with fail
  all_goals go_ret
  all_goals (refine ⟨by simp [show IntKind.i64.wrap 0 = 0 from by decide], FIN.out _ ?_⟩; (go_split_ands; assumption))
set_option maxRecDepth 100000 in
set_option maxHeartbeats 4000000 in
theorem fillField_any {K : KTab} {D : BkD} {w0 w : World} (hsz : K.sz 4 = 9) (hmk : ∀ n, K.mark 4 n = markFieldL n) (hs : BkS D w0) (hm0 : 0 < D.m 4)
    (hM : ∀ i, i < D.m 4 → ∀ W, BkT D w0 W → Calls Tryz.prog 94 #[.int .i64 (D.N 4 i)] W fun e w' => e = .returned (.agg #[.string (wordB (D.N 4 i)), .int .u8 0, .int .i64 0, .string ⟨#[]⟩, .slice none 0 0, .slice none 0 0, .int .u8 0, .string ⟨#[]⟩, .bool false]) ∧ Below W.heap.size W w')
    (h : BkT D w0 w) (hr : RowsF K D w0 (fillF D 4 0 0) w) :
    Calls Tryz.prog 31 #[.pointer (some ⟨D.B, 0, none⟩)] w fun e w' => e = .returned (.tuple #[]) ∧ BkT D w0 w' ∧ RowsF K D w0 (fillF D 5 0 0) w' := by
  have HS := Lib.hid hs
  have OK0 := Lib.hid (And.intro h hr)
  have HM := Lib.hid hM
  have HZ := Lib.hid hsz
  have HK := Lib.hid hmk
  have HM0 := Lib.hid hm0
  clear h hr hs hM hsz hmk hm0
  go_enter Tryz.func31, Tryz.ntmps31
  go_wp2_with fail
  go_loopw [2] (fun i wr => ∃ k : Nat, k ≤ D.m 4 ∧ i = .int .i64 k ∧ BkT D w0 wr ∧ RowsF K D w0 (fillF D 4 k 0) wr) (fun i _ => D.m 4 - (intOf i).toNat)
  case atStart => exact ⟨0, Nat.zero_le _, rfl, OK0.out⟩
  case round =>
    clear OK0
    obtain ⟨i, hi, rfl, ok⟩ := hrel
    have OK := Lib.hid ok
    clear ok
    have b2 := OK.out.1.fld 4 (by decide) (by decide) HM0.out
    have hmc := HS.out.hmc 4
    unfold maxLen at hmc
    obtain ⟨hm1, hm2⟩ := hmc
    by_cases hlt : i < D.m 4
    · have hlt' : (i : Int) < (D.m 4 : Int) := by omega
      have hi0 : (0 : Int) ≤ (i : Int) := by omega
      obtain ⟨e0, ⟨va, vl, vq, e1⟩, e2⟩ := OK.out.1.ent 4 i hlt
      have hln := HS.out.lnb 4 i hlt
      have HF := Lib.hid (FI.start (κ := 4) (i := i) (v := .slice va vl vq) (T' := 95) OK.out.1 OK.out.2)
      go_upto_region 4 with fail
      revert HF
      generalize wr.alloc (.cells #[.slice (D.sa 4 i) (D.ln 4 i) (D.sc 4 i), .slice va vl vq, .int .i64 (D.N 4 i)] 95) = W1
      generalize wr.heap.size = hb
      intro HF
      clear OK e0 e1 e2 b2
      go_wp2_with fail
      go_loopw [4] (fun kk wr => ∃ k : Nat, k ≤ D.ln 4 i ∧ kk = .int .i64 k ∧ FI K D w0 4 i k hb (.slice va vl vq) wr) (fun kk _ => D.ln 4 i - (intOf kk).toNat)
      case atStart => exact ⟨0, Nat.zero_le _, rfl, HF.out⟩
      case round =>
        clear HF
        obtain ⟨k, hk, rfl, ok⟩ := hrel
        have OK := Lib.hid ok
        clear ok
        by_cases hkl : k < D.ln 4 i
        · obtain ⟨g, he, -⟩ := OK.out.rows.at hlt (by omega)
          have hkl' : (k : Int) < (D.ln 4 i : Int) := by omega
          have hk0 : (0 : Int) ≤ (k : Int) := by omega
          have KN : Hid (∀ W, FI K D w0 4 i k hb (.slice va vl vq) W → W.cell? ⟨hb, 0, none⟩ = some (.slice (some ⟨g, 0, none⟩) (D.ln 4 i) (D.sc 4 i)) ∧ W.cell? ⟨hb, 1, none⟩ = some (.slice va vl vq) ∧ W.cell? ⟨hb, 2, none⟩ = some (.int .i64 (D.N 4 i)) ∧ (W.cell? ⟨g, k * 9, none⟩ = some (rs W g (k * 9)) ∧ W.cell? ⟨g, k * 9 + 1, none⟩ = some (rs W g (k * 9 + 1)) ∧ W.cell? ⟨g, k * 9 + 2, none⟩ = some (rs W g (k * 9 + 2)) ∧ W.cell? ⟨g, k * 9 + 3, none⟩ = some (rs W g (k * 9 + 3)) ∧ W.cell? ⟨g, k * 9 + 4, none⟩ = some (rs W g (k * 9 + 4)) ∧ W.cell? ⟨g, k * 9 + 5, none⟩ = some (rs W g (k * 9 + 5)) ∧ W.cell? ⟨g, k * 9 + 6, none⟩ = some (rs W g (k * 9 + 6)) ∧ W.cell? ⟨g, k * 9 + 7, none⟩ = some (rs W g (k * 9 + 7)) ∧ W.cell? ⟨g, k * 9 + 8, none⟩ = some (rs W g (k * 9 + 8))) ∧ (W.frozen? ⟨g, k * 9, none⟩ = false ∧ W.frozen? ⟨g, k * 9 + 1, none⟩ = false ∧ W.frozen? ⟨g, k * 9 + 2, none⟩ = false ∧ W.frozen? ⟨g, k * 9 + 3, none⟩ = false ∧ W.frozen? ⟨g, k * 9 + 4, none⟩ = false ∧ W.frozen? ⟨g, k * 9 + 5, none⟩ = false ∧ W.frozen? ⟨g, k * 9 + 6, none⟩ = false ∧ W.frozen? ⟨g, k * 9 + 7, none⟩ = false ∧ W.frozen? ⟨g, k * 9 + 8, none⟩ = false)) := fun W h => by
            obtain ⟨q0, q1, q2, q3⟩ := h.cells hlt hkl he
            simp only [HZ.out] at q3
            exact ⟨q0, q1, q2, ⟨(q3 0 (by decide)).1, (q3 1 (by decide)).1, (q3 2 (by decide)).1, (q3 3 (by decide)).1, (q3 4 (by decide)).1, (q3 5 (by decide)).1, (q3 6 (by decide)).1, (q3 7 (by decide)).1, (q3 8 (by decide)).1⟩, (q3 0 (by decide)).2, (q3 1 (by decide)).2, (q3 2 (by decide)).2, (q3 3 (by decide)).2, (q3 4 (by decide)).2, (q3 5 (by decide)).2, (q3 6 (by decide)).2, (q3 7 (by decide)).2, (q3 8 (by decide)).2⟩
          have ST : Hid (∀ W, FI K D w0 4 i k hb (.slice va vl vq) W → FI K D w0 4 i (k + 1) hb (.slice va vl vq) (((((((((W.setCell ⟨g, k * 9, none⟩ (.string (wordB (D.N 4 i)))).setCell ⟨g, k * 9 + 1, none⟩ (.int .u8 0)).setCell ⟨g, k * 9 + 2, none⟩ (.int .i64 0)).setCell ⟨g, k * 9 + 3, none⟩ (.string ⟨#[]⟩)).setCell ⟨g, k * 9 + 4, none⟩ (.slice none 0 0)).setCell ⟨g, k * 9 + 5, none⟩ (.slice none 0 0)).setCell ⟨g, k * 9 + 6, none⟩ (.int .u8 0)).setCell ⟨g, k * 9 + 7, none⟩ (.string ⟨#[]⟩)).setCell ⟨g, k * 9 + 8, none⟩ (.bool false))) := fun W h => by
            have q := h.store HS.out hlt he hkl
            rw [HZ.out, HK.out] at q
            skip
            exact q
          have HMi := Lib.hid (fun W (h : FI K D w0 4 i k hb (.slice va vl vq) W) => HM.out i hlt W h.bk)
          obtain ⟨c0, c1, c2, ⟨x0, x1, x2, x3, x4, x5, x6, x7, x8⟩, z0, z1, z2, z3, z4, z5, z6, z7, z8⟩ := KN.out _ OK.out
          clear he
          go_upto_region 7 with fail
          go_region_with (go_at_call 94; (with_reducible refine (HMi.out _ ?_).mono ?_); (first | exact OK.out | exact OK.out.below (Below.refl _ _).drew); rintro x w1 ⟨rfl, hb1⟩; (first | replace OK := Lib.hid (OK.out.below hb1) | replace OK := Lib.hid ((OK.out.below (Below.refl _ _).drew).below hb1)); clear hb1; clear c0 c1 c2 x0 x1 x2 x3 x4 x5 x6 x7 x8 z0 z1 z2 z3 z4 z5 z6 z7 z8; obtain ⟨c0, c1, c2, ⟨x0, x1, x2, x3, x4, x5, x6, x7, x8⟩, z0, z1, z2, z3, z4, z5, z6, z7, z8⟩ := KN.out _ OK.out)
          all_goals go_wp2_with fail
          all_goals refine ⟨⟨k + 1, hkl, by go_num, ST.out _ OK.out⟩, by simp [intOf]; omega⟩
        · obtain rfl : k = D.ln 4 i := by omega
          have c0 := OK.out.len
          have hkl' : ¬ (D.ln 4 i : Int) < (D.ln 4 i : Int) := by omega
          go_wp2_with fail
          refine ⟨⟨i + 1, hlt, by go_num, OK.out.bk, OK.out.next⟩, by simp [intOf]; omega⟩
    · obtain rfl : i = D.m 4 := by omega
      go_wp2_with fail
      go_end0
      exact ⟨rfl, OK.out.1, fill_next OK.out.2⟩
theorem info_Field : (Tryz.prog.info? 78).map (fun i => (i.zero, i.size, i.bytes)) = some (some (.agg #[.string ⟨#[]⟩, .int .u8 0, .int .i64 0, .string ⟨#[]⟩, .slice none 0 0, .slice none 0 0, .int .u8 0, .string ⟨#[]⟩, .bool false]), 9, 128) := by kernel_rfl
set_option maxRecDepth 100000 in
set_option maxHeartbeats 4000000 in
theorem growField_any {K : KTab} {D : BkD} {w0 w : World} {ws : Nat} (hty : K.ty 4 = 78) (hsz : K.sz 4 = 9) (hmk : ∀ n, K.mark 4 n = markFieldL n) (hs : GS D w0 ws) (hm0 : 0 < D.m 4)
    (hM : ∀ i, i < D.m 4 → ∀ W, BkT D w0 W → Calls Tryz.prog 94 #[.int .i64 (D.N 4 i)] W fun e w' => e = .returned (.agg #[.string (wordB (D.N 4 i)), .int .u8 0, .int .i64 0, .string ⟨#[]⟩, .slice none 0 0, .slice none 0 0, .int .u8 0, .string ⟨#[]⟩, .bool false]) ∧ Below W.heap.size W w')
    (h : GO K D w0 ws 4 0 w) :
    Calls Tryz.prog 47 #[.pointer (some ⟨D.B, 0, none⟩)] w fun e w' => e = .returned (.tuple #[]) ∧ GO K D w0 ws 5 0 w' := by
  have HS := Lib.hid hs
  have OK0 := Lib.hid h
  have HM := Lib.hid hM
  have HM0 := Lib.hid hm0
  obtain ⟨i0, hi0, hz0, hz1, hz2⟩ := info_parts info_Field
  have AP : Hid (∀ i q hb v a cp W, GI K D w0 ws 4 i q hb v a cp W → i < D.m 4 → q ≤ 1000 → ∀ (ops : Array Oper) (rest : List Oper) (o : Oper) (act : Act) (Q : Exit → Act → World → Prop) (s x : Operand) (T' : TypeId), o.guard = none → o.op = .call { callee := .builtin .append, args := #[s, x], argTypes := #[27, 27] } → act.eval s = .slice a (D.ln 4 i + q) cp → act.eval x = .slice (some ⟨W.heap.size, 0, none⟩) 1 1 →
      (∀ g cap W', GI K D w0 ws 4 i (q + 1) hb v (some ⟨g, 0, none⟩) cap W' → wpList Tryz.prog ops Q rest (act.put o.dst (.slice (some ⟨g, 0, none⟩) (D.ln 4 i + (q + 1)) cap)) W') → wpList Tryz.prog ops Q (o :: rest) act (W.alloc (.cells #[.string (wordB (D.N 4 i)), .int .u8 0, .int .i64 0, .string ⟨#[]⟩, .slice none 0 0, .slice none 0 0, .int .u8 0, .string ⟨#[]⟩, .bool false] T'))) :=
    fun i q hb v a cp W h hi hq ops rest o act Q s x T' hgd ho hse hx hr => append_M hs hi h hq (TS := 27) (cs := markFieldL (D.N 4 i)) (by rw [hty]; exact Tryz.underlying27) (by rw [hty]; exact hi0) hz0 (by rw [hsz]; exact hz1) hz2 (by rw [hsz]; rfl) (by rw [hsz]; decide) (by decide) (hmk _) (fun u hu => by simp [markFieldL] at hu; rcases hu with rfl | rfl | rfl | rfl | rfl | rfl | rfl | rfl | rfl <;> rfl) hgd s x ho hse T' hx hr
  clear h hs hM hm0 hty hsz hmk hi0 hz0 hz1 hz2
  go_enter Tryz.func47, Tryz.ntmps47
  go_wp2_with fail
  go_loopw [2] (fun i wr => ∃ k : Nat, k ≤ D.m 4 ∧ i = .int .i64 k ∧ GO K D w0 ws 4 k wr) (fun i _ => D.m 4 - (intOf i).toNat)
  case atStart => exact ⟨0, Nat.zero_le _, rfl, OK0.out⟩
  case round =>
    clear OK0
    obtain ⟨i, hi, rfl, ok⟩ := hrel
    have OK := Lib.hid ok
    clear ok
    have b2 := OK.out.bk.fld 4 (by decide) (by decide) HM0.out
    have hmc := HS.out.s.hmc 4
    unfold maxLen at hmc
    obtain ⟨hm1, hm2⟩ := hmc
    by_cases hlt : i < D.m 4
    · have hlt' : (i : Int) < (D.m 4 : Int) := by omega
      have hi0 : (0 : Int) ≤ (i : Int) := by omega
      obtain ⟨e0, ⟨va, vl, vq, e1⟩, e2⟩ := OK.out.bk.ent 4 i hlt
      have hln := HS.out.s.lnb 4 i hlt
      have HF := Lib.hid (GI.start (v := .slice va vl vq) (T' := 95) OK.out hlt)
      go_upto_region 4 with fail
      revert HF
      generalize wr.alloc (.cells #[.slice (D.sa 4 i) (D.ln 4 i) (D.sc 4 i), .slice va vl vq, .int .i64 (D.N 4 i)] 95) = W1
      generalize wr.heap.size = hb
      intro HF
      clear OK e0 e1 e2 b2
      obtain ⟨c0, c2, -⟩ := HF.out.cells (by decide) (by decide) hlt
      go_wp2_with fail
      clear c0 c2
      go_loopw [4, 5] (fun lv kk wr => ∃ (q : Nat) (a : Option Addr) (cp : Nat), q ≤ 40 ∧ kk = .int .i64 q ∧ lv = .slice a (D.ln 4 i + q) cp ∧ GI K D w0 ws 4 i q hb (.slice va vl vq) a cp wr) (fun _ kk _ => 40 - (intOf kk).toNat)
      case atStart => exact ⟨0, _, _, Nat.zero_le _, rfl, rfl, HF.out⟩
      case round =>
        clear HF
        obtain ⟨q, a, cp, hq, rfl, rfl, ok⟩ := hrel
        have OK := Lib.hid ok
        clear ok
        obtain ⟨c0, c2, b2, z1, ⟨a1, l1, q1, e1⟩⟩ := OK.out.cells (by decide) (by decide) hlt
        by_cases hq4 : q < 40
        · have hq4' : (q : Int) < 40 := by omega
          have HMi := Lib.hid (fun W (h : GI K D w0 ws 4 i q hb (.slice va vl vq) a cp W) => HM.out i hlt W h.bk)
          go_wp2_with (first
            | (go_at_call 94; (with_reducible refine (HMi.out _ OK.out).mono ?_); rintro x w1 ⟨rfl, hb1⟩; replace OK := Lib.hid (OK.out.below hb1); clear hb1)
            | (at_builtin; refine AP.out i q hb _ a cp _ OK.out hlt (by omega) _ _ _ _ _ _ _ _ rfl rfl rfl rfl ?_; intro g cap w2 h2; have OK2 := Lib.hid h2; clear h2))
          refine ⟨⟨q + 1, some ⟨g, 0, none⟩, cap, by omega, by go_num, rfl, OK2.out⟩, by simp [intOf]; omega⟩
        · obtain rfl : q = 40 := by omega
          obtain ⟨g, rfl⟩ := OK.out.long.addr (by omega)
          have HE := Lib.hid (OK.out.finish HS.out hlt)
          have hlt' : (i : Int) < (D.m 4 : Int) := by omega
          go_wp2_with fail
          refine ⟨⟨i + 1, hlt, by go_num, HE.out⟩, by simp [intOf]; omega⟩
    · obtain rfl : i = D.m 4 := by omega
      go_wp2_with fail
      go_end0
      exact ⟨rfl, OK.out.next⟩
set_option maxRecDepth 100000 in
set_option maxHeartbeats 4000000 in
theorem lookField_any {K : KTab} {D : BkD} {w0 w : World} {ws : Nat} (hsz : K.sz 4 = 9) (hmk : ∀ n, K.mark 4 n = markFieldL n) (hs : GS D w0 ws) (hm0 : 0 < D.m 4)
    (hI : ∀ i, i < D.m 4 → ∀ W, BkT D w0 W → Calls Tryz.prog 110 #[.agg #[.string (wordB (D.N 4 i)), .int .u8 0, .int .i64 0, .string ⟨#[]⟩, .slice none 0 0, .slice none 0 0, .int .u8 0, .string ⟨#[]⟩, .bool false], .int .i64 (D.N 4 i)] W fun e w' => e = .returned (.bool true) ∧ Below W.heap.size W w')
    (h : GO K D w0 ws 17 0 w) :
    Calls Tryz.prog 63 #[.pointer (some ⟨D.B, 0, none⟩)] w fun e w' => e = .returned (.bool true) ∧ GO K D w0 ws 17 0 w' := by
  have HS := Lib.hid hs
  have OK0 := Lib.hid h
  have HI := Lib.hid hI
  have HM0 := Lib.hid hm0
  have HZ := Lib.hid hsz
  have HK := Lib.hid hmk
  clear h hs hI hm0 hsz hmk
  go_enter Tryz.func63, Tryz.ntmps63
  go_wp2_with fail
  go_loopw [3] (fun i wr => ∃ k : Nat, k ≤ D.m 4 ∧ i = .int .i64 k ∧ GO K D w0 ws 17 0 wr) (fun i _ => D.m 4 - (intOf i).toNat)
  case atStart => exact ⟨0, Nat.zero_le _, rfl, OK0.out⟩
  case round =>
    clear OK0
    obtain ⟨i, hi, rfl, ok⟩ := hrel
    have OK := Lib.hid ok
    clear ok
    have b2 := OK.out.bk.fld 4 (by decide) (by decide) HM0.out
    have hmc := HS.out.s.hmc 4
    unfold maxLen at hmc
    obtain ⟨hm1, hm2⟩ := hmc
    by_cases hlt : i < D.m 4
    · have hlt' : (i : Int) < (D.m 4 : Int) := by omega
      have hi0 : (0 : Int) ≤ (i : Int) := by omega
      obtain ⟨e0, -, e2⟩ := OK.out.bk.ent 4 i hlt
      have hln := HS.out.s.lnb 4 i hlt
      obtain ⟨g, cp, e1, hmr, -⟩ := OK.out.done 4 i ⟨hlt, .inl (by decide)⟩
      have HL := Lib.hid (LI.start (T' := 95) OK.out hmr)
      have l0 : (0 : Int) ≤ (D.ln 4 i : Int) := by omega
      have hc40 : ((D.ln 4 i : Int) + 40 != (D.ln 4 i : Int) + 40) = false := by simp
      clear hmr
      go_upto_region 5 with fail
      revert HL
      generalize wr.alloc (.cells #[.slice (D.sa 4 i) (D.ln 4 i) (D.sc 4 i), .slice (some ⟨g, 0, none⟩) (D.ln 4 i + 40) cp, .int .i64 (D.N 4 i)] 95) = W1
      generalize wr.heap.size = hb
      intro HL
      clear OK e0 e1 e2 b2
      obtain ⟨c0, c1, c2⟩ := HL.out.three
      go_wp2_with fail
      clear c0 c1 c2
      go_loopw [5] (fun kk wr => ∃ q : Nat, q ≤ D.ln 4 i + 40 ∧ kk = .int .i64 q ∧ LI K D w0 ws 17 0 4 i hb g cp wr) (fun kk _ => D.ln 4 i + 40 - (intOf kk).toNat)
      case atStart => exact ⟨0, Nat.zero_le _, rfl, HL.out⟩
      case round =>
        clear HL
        obtain ⟨q, hq, rfl, ok⟩ := hrel
        have OK := Lib.hid ok
        clear ok
        obtain ⟨c0, c1, c2⟩ := OK.out.three
        have hq0 : (0 : Int) ≤ (q : Int) := by omega
        by_cases hql : q < D.ln 4 i + 40
        · have hql' : (q : Int) < (D.ln 4 i : Int) + 40 := by omega
          have hql2 : q < D.ln 4 i + 40 := hql
          have HMi := Lib.hid (fun W (h : LI K D w0 ws 17 0 4 i hb g cp W) => HI.out i hlt W h.go.bk)
          have KL : Hid (∀ W, LI K D w0 ws 17 0 4 i hb g cp W → W.cell? ⟨g, q * 9, none⟩ = some (.string (wordB (D.N 4 i))) ∧ W.cell? ⟨g, q * 9 + 1, none⟩ = some (.int .u8 0) ∧ W.cell? ⟨g, q * 9 + 2, none⟩ = some (.int .i64 0) ∧ W.cell? ⟨g, q * 9 + 3, none⟩ = some (.string ⟨#[]⟩) ∧ W.cell? ⟨g, q * 9 + 4, none⟩ = some (.slice none 0 0) ∧ W.cell? ⟨g, q * 9 + 5, none⟩ = some (.slice none 0 0) ∧ W.cell? ⟨g, q * 9 + 6, none⟩ = some (.int .u8 0) ∧ W.cell? ⟨g, q * 9 + 7, none⟩ = some (.string ⟨#[]⟩) ∧ W.cell? ⟨g, q * 9 + 8, none⟩ = some (.bool false)) := fun W h => by
            have q3 := fun r (hr : r < K.sz 4) => h.long.cell (Nat.le_refl _) hql (r := r) hr
            simp only [HZ.out, HK.out] at q3
            exact ⟨(q3 0 (by decide)), (q3 1 (by decide)), (q3 2 (by decide)), (q3 3 (by decide)), (q3 4 (by decide)), (q3 5 (by decide)), (q3 6 (by decide)), (q3 7 (by decide)), (q3 8 (by decide))⟩
          by_cases hqn : q < D.ln 4 i
          · have hqn' : (q : Int) < (D.ln 4 i : Int) := by omega
            obtain ⟨g0, he, -⟩ := RowsF.at (f := D.ln) OK.out.go.rows hlt (by omega)
            have KR : Hid (∀ W, LI K D w0 ws 17 0 4 i hb g cp W → W.cell? ⟨g0, q * 9, none⟩ = some (.string (wordB (D.N 4 i))) ∧ W.cell? ⟨g0, q * 9 + 1, none⟩ = some (.int .u8 0) ∧ W.cell? ⟨g0, q * 9 + 2, none⟩ = some (.int .i64 0) ∧ W.cell? ⟨g0, q * 9 + 3, none⟩ = some (.string ⟨#[]⟩) ∧ W.cell? ⟨g0, q * 9 + 4, none⟩ = some (.slice none 0 0) ∧ W.cell? ⟨g0, q * 9 + 5, none⟩ = some (.slice none 0 0) ∧ W.cell? ⟨g0, q * 9 + 6, none⟩ = some (.int .u8 0) ∧ W.cell? ⟨g0, q * 9 + 7, none⟩ = some (.string ⟨#[]⟩) ∧ W.cell? ⟨g0, q * 9 + 8, none⟩ = some (.bool false)) := fun W h => by
              have q3 := fun r (hr : r < K.sz 4) => h.row hlt he hqn (r := r) hr
              simp only [HZ.out, HK.out] at q3
              exact ⟨(q3 0 (by decide)), (q3 1 (by decide)), (q3 2 (by decide)), (q3 3 (by decide)), (q3 4 (by decide)), (q3 5 (by decide)), (q3 6 (by decide)), (q3 7 (by decide)), (q3 8 (by decide))⟩
            have KS := Lib.hid (fun W (h : LI K D w0 ws 17 0 4 i hb g cp W) => show LI K D w0 ws 17 0 4 i hb g cp W ∧ (W.cell? ⟨hb, 0, none⟩ = some (.slice (some ⟨g0, 0, none⟩) (D.ln 4 i) (D.sc 4 i)) ∧ W.cell? ⟨hb, 1, none⟩ = some (.slice (some ⟨g, 0, none⟩) (D.ln 4 i + 40) cp) ∧ W.cell? ⟨hb, 2, none⟩ = some (.int .i64 (D.N 4 i))) ∧ (W.cell? ⟨g, q * 9, none⟩ = some (.string (wordB (D.N 4 i))) ∧ W.cell? ⟨g, q * 9 + 1, none⟩ = some (.int .u8 0) ∧ W.cell? ⟨g, q * 9 + 2, none⟩ = some (.int .i64 0) ∧ W.cell? ⟨g, q * 9 + 3, none⟩ = some (.string ⟨#[]⟩) ∧ W.cell? ⟨g, q * 9 + 4, none⟩ = some (.slice none 0 0) ∧ W.cell? ⟨g, q * 9 + 5, none⟩ = some (.slice none 0 0) ∧ W.cell? ⟨g, q * 9 + 6, none⟩ = some (.int .u8 0) ∧ W.cell? ⟨g, q * 9 + 7, none⟩ = some (.string ⟨#[]⟩) ∧ W.cell? ⟨g, q * 9 + 8, none⟩ = some (.bool false)) ∧ (W.cell? ⟨g0, q * 9, none⟩ = some (.string (wordB (D.N 4 i))) ∧ W.cell? ⟨g0, q * 9 + 1, none⟩ = some (.int .u8 0) ∧ W.cell? ⟨g0, q * 9 + 2, none⟩ = some (.int .i64 0) ∧ W.cell? ⟨g0, q * 9 + 3, none⟩ = some (.string ⟨#[]⟩) ∧ W.cell? ⟨g0, q * 9 + 4, none⟩ = some (.slice none 0 0) ∧ W.cell? ⟨g0, q * 9 + 5, none⟩ = some (.slice none 0 0) ∧ W.cell? ⟨g0, q * 9 + 6, none⟩ = some (.int .u8 0) ∧ W.cell? ⟨g0, q * 9 + 7, none⟩ = some (.string ⟨#[]⟩) ∧ W.cell? ⟨g0, q * 9 + 8, none⟩ = some (.bool false)) from ⟨h, by rw [← he]; exact h.three, KL.out W h, KR.out W h⟩)
            rw [he] at c0
            clear he
            obtain ⟨-, -, ⟨m0, m1, m2, m3, m4, m5, m6, m7, m8⟩, n0, n1, n2, n3, n4, n5, n6, n7, n8⟩ := KS.out _ OK.out
            go_upto_region 10 with fail
            go_region_held3 (fun W => LI K D w0 ws 17 0 4 i hb g cp W ∧ (W.cell? ⟨hb, 0, none⟩ = some (.slice (some ⟨g0, 0, none⟩) (D.ln 4 i) (D.sc 4 i)) ∧ W.cell? ⟨hb, 1, none⟩ = some (.slice (some ⟨g, 0, none⟩) (D.ln 4 i + 40) cp) ∧ W.cell? ⟨hb, 2, none⟩ = some (.int .i64 (D.N 4 i))) ∧ (W.cell? ⟨g, q * 9, none⟩ = some (.string (wordB (D.N 4 i))) ∧ W.cell? ⟨g, q * 9 + 1, none⟩ = some (.int .u8 0) ∧ W.cell? ⟨g, q * 9 + 2, none⟩ = some (.int .i64 0) ∧ W.cell? ⟨g, q * 9 + 3, none⟩ = some (.string ⟨#[]⟩) ∧ W.cell? ⟨g, q * 9 + 4, none⟩ = some (.slice none 0 0) ∧ W.cell? ⟨g, q * 9 + 5, none⟩ = some (.slice none 0 0) ∧ W.cell? ⟨g, q * 9 + 6, none⟩ = some (.int .u8 0) ∧ W.cell? ⟨g, q * 9 + 7, none⟩ = some (.string ⟨#[]⟩) ∧ W.cell? ⟨g, q * 9 + 8, none⟩ = some (.bool false)) ∧ (W.cell? ⟨g0, q * 9, none⟩ = some (.string (wordB (D.N 4 i))) ∧ W.cell? ⟨g0, q * 9 + 1, none⟩ = some (.int .u8 0) ∧ W.cell? ⟨g0, q * 9 + 2, none⟩ = some (.int .i64 0) ∧ W.cell? ⟨g0, q * 9 + 3, none⟩ = some (.string ⟨#[]⟩) ∧ W.cell? ⟨g0, q * 9 + 4, none⟩ = some (.slice none 0 0) ∧ W.cell? ⟨g0, q * 9 + 5, none⟩ = some (.slice none 0 0) ∧ W.cell? ⟨g0, q * 9 + 6, none⟩ = some (.int .u8 0) ∧ W.cell? ⟨g0, q * 9 + 7, none⟩ = some (.string ⟨#[]⟩) ∧ W.cell? ⟨g0, q * 9 + 8, none⟩ = some (.bool false)))
              (first | (refine KS.out _ (LI.below ?_ hb1); go_split_ands; assumption) | exact KS.out _ (OK.out.below (Below.refl _ _).drew))
              (first | (go_at_call 110; (with_reducible refine (HMi.out _ ?_).mono ?_); (go_split_ands; assumption); rintro x w1 ⟨rfl, hb1⟩))
            all_goals go_wp2_with fail
            all_goals refine ⟨⟨q + 1, by omega, by go_num, ?_⟩, by simp [intOf]; omega⟩
            all_goals (go_split_ands; assumption)
          · have hqn' : ¬ (q : Int) < (D.ln 4 i : Int) := by omega
            have KS := Lib.hid (fun W (h : LI K D w0 ws 17 0 4 i hb g cp W) => show LI K D w0 ws 17 0 4 i hb g cp W ∧ (W.cell? ⟨hb, 0, none⟩ = some (.slice (D.sa 4 i) (D.ln 4 i) (D.sc 4 i)) ∧ W.cell? ⟨hb, 1, none⟩ = some (.slice (some ⟨g, 0, none⟩) (D.ln 4 i + 40) cp) ∧ W.cell? ⟨hb, 2, none⟩ = some (.int .i64 (D.N 4 i))) ∧ (W.cell? ⟨g, q * 9, none⟩ = some (.string (wordB (D.N 4 i))) ∧ W.cell? ⟨g, q * 9 + 1, none⟩ = some (.int .u8 0) ∧ W.cell? ⟨g, q * 9 + 2, none⟩ = some (.int .i64 0) ∧ W.cell? ⟨g, q * 9 + 3, none⟩ = some (.string ⟨#[]⟩) ∧ W.cell? ⟨g, q * 9 + 4, none⟩ = some (.slice none 0 0) ∧ W.cell? ⟨g, q * 9 + 5, none⟩ = some (.slice none 0 0) ∧ W.cell? ⟨g, q * 9 + 6, none⟩ = some (.int .u8 0) ∧ W.cell? ⟨g, q * 9 + 7, none⟩ = some (.string ⟨#[]⟩) ∧ W.cell? ⟨g, q * 9 + 8, none⟩ = some (.bool false)) from ⟨h, h.three, KL.out W h⟩)
            go_upto_region 10 with fail
            refine wp_region_held_drew (S := fun W => LI K D w0 ws 17 0 4 i hb g cp W ∧ (W.cell? ⟨hb, 0, none⟩ = some (.slice (D.sa 4 i) (D.ln 4 i) (D.sc 4 i)) ∧ W.cell? ⟨hb, 1, none⟩ = some (.slice (some ⟨g, 0, none⟩) (D.ln 4 i + 40) cp) ∧ W.cell? ⟨hb, 2, none⟩ = some (.int .i64 (D.N 4 i))) ∧ (W.cell? ⟨g, q * 9, none⟩ = some (.string (wordB (D.N 4 i))) ∧ W.cell? ⟨g, q * 9 + 1, none⟩ = some (.int .u8 0) ∧ W.cell? ⟨g, q * 9 + 2, none⟩ = some (.int .i64 0) ∧ W.cell? ⟨g, q * 9 + 3, none⟩ = some (.string ⟨#[]⟩) ∧ W.cell? ⟨g, q * 9 + 4, none⟩ = some (.slice none 0 0) ∧ W.cell? ⟨g, q * 9 + 5, none⟩ = some (.slice none 0 0) ∧ W.cell? ⟨g, q * 9 + 6, none⟩ = some (.int .u8 0) ∧ W.cell? ⟨g, q * 9 + 7, none⟩ = some (.string ⟨#[]⟩) ∧ W.cell? ⟨g, q * 9 + 8, none⟩ = some (.bool false))) (by kernel_rfl) (KS.out _ (OK.out.below (Below.refl _ _).drew)) (fun hH => ?_)
            refine wpAnyH_take (i := 0) (oi := { dst := some 37, op := Go.Op.fieldAddr 95 (Go.Operand.tmp 4) 1, type := 0, pos := "book.go:226", after := #[], guard := none }) (v := ?_) rfl (by kernel_rfl) (by kernel_rfl) (by kernel_rfl) (fun _ _ _ h => h) (Or.inl ⟨by rfl, ?_⟩) hH ?_; rotate_left; (focus (intro wS hSw; (try dsimp only at hSw); go_simp; (try with_reducible rfl))); simp only [Act.put, List.setIfInBounds_toArray, List.set_cons_zero, List.set_cons_succ]
            refine wpAnyH_take (i := 1) (oi := { dst := some 38, op := Go.Op.load 27 (Go.Operand.tmp 37), type := 27, pos := "book.go:226", after := #[{ on := 0, ground := Go.Ground.data }], guard := none }) (v := ?_) rfl (by kernel_rfl) (by kernel_rfl) (by kernel_rfl) (fun _ _ _ h => h) (Or.inl ⟨by rfl, ?_⟩) hH ?_; rotate_left; (focus (intro wS hSw; (try dsimp only at hSw); go_simp; (try with_reducible rfl))); simp only [Act.put, List.setIfInBounds_toArray, List.set_cons_zero, List.set_cons_succ]
            refine wpAnyH_take (i := 2) (oi := { dst := some 39, op := Go.Op.move (Go.Operand.tmp 5), type := 3, pos := "book.go:226", after := #[], guard := none }) (v := ?_) rfl (by kernel_rfl) (by kernel_rfl) (by kernel_rfl) (fun _ _ _ h => h) (Or.inl ⟨by rfl, ?_⟩) hH ?_; rotate_left; (focus (intro wS hSw; (try dsimp only at hSw); go_simp; (try with_reducible rfl))); simp only [Act.put, List.setIfInBounds_toArray, List.set_cons_zero, List.set_cons_succ]
            refine wpAnyH_take (i := 3) (oi := { dst := some 40, op := Go.Op.indexAddr 27 (Go.Operand.tmp 38) (Go.Operand.tmp 39), type := 0, pos := "book.go:226", after := #[{ on := 1, ground := Go.Ground.data }, { on := 2, ground := Go.Ground.data }], guard := none }) (v := ?_) rfl (by kernel_rfl) (by kernel_rfl) (by kernel_rfl) (fun _ _ _ h => h) (Or.inl ⟨by rfl, ?_⟩) hH ?_; rotate_left; (focus (intro wS hSw; (try dsimp only at hSw); go_simp; (try with_reducible rfl))); simp only [Act.put, List.setIfInBounds_toArray, List.set_cons_zero, List.set_cons_succ]
            refine wpAnyH_take (i := 4) (oi := { dst := some 41, op := Go.Op.load 78 (Go.Operand.tmp 40), type := 78, pos := "book.go:226", after := #[{ on := 3, ground := Go.Ground.data }], guard := none }) (v := ?_) rfl (by kernel_rfl) (by kernel_rfl) (by kernel_rfl) (fun _ _ _ h => h) (Or.inl ⟨by rfl, ?_⟩) hH ?_; rotate_left; (focus (intro wS hSw; (try dsimp only at hSw); go_simp; (try with_reducible rfl))); simp only [Act.put, List.setIfInBounds_toArray, List.set_cons_zero, List.set_cons_succ]
            refine wpAnyH_take (i := 5) (oi := { dst := some 42, op := Go.Op.fieldAddr 95 (Go.Operand.tmp 4) 2, type := 0, pos := "book.go:226", after := #[], guard := none }) (v := ?_) rfl (by kernel_rfl) (by kernel_rfl) (by kernel_rfl) (fun _ _ _ h => h) (Or.inl ⟨by rfl, ?_⟩) hH ?_; rotate_left; (focus (intro wS hSw; (try dsimp only at hSw); go_simp; (try with_reducible rfl))); simp only [Act.put, List.setIfInBounds_toArray, List.set_cons_zero, List.set_cons_succ]
            refine wpAnyH_take (i := 6) (oi := { dst := some 43, op := Go.Op.load 3 (Go.Operand.tmp 42), type := 3, pos := "book.go:226", after := #[{ on := 5, ground := Go.Ground.data }], guard := none }) (v := ?_) rfl (by kernel_rfl) (by kernel_rfl) (by kernel_rfl) (fun _ _ _ h => h) (Or.inl ⟨by rfl, ?_⟩) hH ?_; rotate_left; (focus (intro wS hSw; (try dsimp only at hSw); go_simp; (try with_reducible rfl))); simp only [Act.put, List.setIfInBounds_toArray, List.set_cons_zero, List.set_cons_succ]
            refine wpAnyH_ready (rs := [7]) (by kernel_rfl) (by simp) ?_
            refine AllReadyH.cons (o := { dst := some 44, op := Go.Op.call { callee := Go.Callee.value (Go.Operand.func 110), args := #[Go.Operand.tmp 41, Go.Operand.tmp 43], argTypes := #[78, 3] }, type := 4, pos := "book.go:226", after := #[{ on := 4, ground := Go.Ground.data }, { on := 6, ground := Go.Ground.data }], guard := none }) rfl (fun K hK => ?_) AllReadyH.nil
            go_simp
            go_at_call 110
            with_reducible refine (HMi.out _ hH.1).mono ?_
            rintro x w1 ⟨rfl, hb1⟩
            (try go_wp2_with fail)
            refine hK.out _ _ (KS.out _ (LI.below hH.1 hb1)) (fun hH2 => ?_)
            clear hK K hH
            have hH := hH2
            (try simp only [Act.put, List.setIfInBounds_toArray, List.set_cons_zero, List.set_cons_succ])
            refine wpAnyH_take (i := 8) (oi := { dst := some 45, op := Go.Op.unOp Go.UnOp.not 4 (Go.Operand.tmp 44), type := 4, pos := "book.go:226", after := #[{ on := 7, ground := Go.Ground.data }], guard := none }) (v := ?_) rfl (by kernel_rfl) (by kernel_rfl) (by kernel_rfl) (fun _ _ _ h => h) (Or.inl ⟨by rfl, ?_⟩) hH ?_; rotate_left; (focus (intro wS hSw; (try dsimp only at hSw); go_simp; (try with_reducible rfl))); simp only [Act.put, List.setIfInBounds_toArray, List.set_cons_zero, List.set_cons_succ]
            refine wpAnyH_take (i := 9) (oi := { dst := some 46, op := Go.Op.move (Go.Operand.tmp 45), type := 4, pos := "book.go:226", after := #[{ on := 8, ground := Go.Ground.data }, { on := 7, ground := Go.Ground.chain }], guard := none }) (v := ?_) rfl (by kernel_rfl) (by kernel_rfl) (by kernel_rfl) (fun _ _ _ h => h) (Or.inl ⟨by rfl, ?_⟩) hH ?_; rotate_left; (focus (intro wS hSw; (try dsimp only at hSw); go_simp; (try with_reducible rfl))); simp only [Act.put, List.setIfInBounds_toArray, List.set_cons_zero, List.set_cons_succ]
            refine wpAnyH_take (i := 10) (oi := { dst := some 47, op := Go.Op.move (Go.Operand.tmp 5), type := 3, pos := "book.go:226", after := #[{ on := 9, ground := Go.Ground.guard }], guard := some (9, false) }) (v := ?_) rfl (by kernel_rfl) (by kernel_rfl) (by kernel_rfl) (fun _ _ _ h => h) (Or.inl ⟨by rfl, ?_⟩) hH ?_; rotate_left; (focus (intro wS hSw; (try dsimp only at hSw); go_simp; (try with_reducible rfl))); simp only [Act.put, List.setIfInBounds_toArray, List.set_cons_zero, List.set_cons_succ]
            refine wpAnyH_take (i := 11) (oi := { dst := some 48, op := Go.Op.fieldAddr 95 (Go.Operand.tmp 4) 0, type := 0, pos := "book.go:226", after := #[{ on := 9, ground := Go.Ground.guard }], guard := some (9, false) }) (v := ?_) rfl (by kernel_rfl) (by kernel_rfl) (by kernel_rfl) (fun _ _ _ h => h) (Or.inl ⟨by rfl, ?_⟩) hH ?_; rotate_left; (focus (intro wS hSw; (try dsimp only at hSw); go_simp; (try with_reducible rfl))); simp only [Act.put, List.setIfInBounds_toArray, List.set_cons_zero, List.set_cons_succ]
            refine wpAnyH_take (i := 12) (oi := { dst := some 49, op := Go.Op.load 27 (Go.Operand.tmp 48), type := 27, pos := "book.go:226", after := #[{ on := 11, ground := Go.Ground.data }, { on := 9, ground := Go.Ground.guard }], guard := some (9, false) }) (v := ?_) rfl (by kernel_rfl) (by kernel_rfl) (by kernel_rfl) (fun _ _ _ h => h) (Or.inl ⟨by rfl, ?_⟩) hH ?_; rotate_left; (focus (intro wS hSw; (try dsimp only at hSw); go_simp; (try with_reducible rfl))); simp only [Act.put, List.setIfInBounds_toArray, List.set_cons_zero, List.set_cons_succ]
            refine wpAnyH_take (i := 13) (oi := { dst := some 50, op := Go.Op.call { callee := Go.Callee.builtin Go.Builtin.len, args := #[Go.Operand.tmp 49], argTypes := #[27] }, type := 3, pos := "book.go:226", after := #[{ on := 12, ground := Go.Ground.data }, { on := 9, ground := Go.Ground.guard }], guard := some (9, false) }) (v := ?_) rfl (by kernel_rfl) (by kernel_rfl) (by kernel_rfl) (fun _ _ _ h => h) (Or.inl ⟨by rfl, ?_⟩) hH ?_; rotate_left; (focus (intro wS hSw; (try dsimp only at hSw); go_simp; (try with_reducible rfl))); simp only [Act.put, List.setIfInBounds_toArray, List.set_cons_zero, List.set_cons_succ]
            refine wpAnyH_take (i := 14) (oi := { dst := some 51, op := Go.Op.binOp Go.BinOp.lss 3 (Go.Operand.tmp 47) (Go.Operand.tmp 50) 3, type := 4, pos := "book.go:226", after := #[{ on := 10, ground := Go.Ground.data }, { on := 13, ground := Go.Ground.data }, { on := 9, ground := Go.Ground.guard }], guard := some (9, false) }) (v := .bool false) rfl (by kernel_rfl) (by kernel_rfl) (by kernel_rfl) (fun _ _ _ h => h) (Or.inl ⟨by rfl, ?_⟩) hH ?_; (focus (intro wS hSw; (try dsimp only at hSw); go_simp; (try simp [hqn']))); simp only [Act.put, List.setIfInBounds_toArray, List.set_cons_zero, List.set_cons_succ]
            refine wpAnyH_take (i := 15) (oi := { dst := some 52, op := Go.Op.move (Go.Operand.tmp 51), type := 4, pos := "book.go:226", after := #[{ on := 14, ground := Go.Ground.data }, { on := 9, ground := Go.Ground.chain }, { on := 9, ground := Go.Ground.guard }], guard := some (9, false) }) (v := ?_) rfl (by kernel_rfl) (by kernel_rfl) (by kernel_rfl) (fun _ _ _ h => h) (Or.inl ⟨by rfl, ?_⟩) hH ?_; rotate_left; (focus (intro wS hSw; (try dsimp only at hSw); go_simp; (try with_reducible rfl))); simp only [Act.put, List.setIfInBounds_toArray, List.set_cons_zero, List.set_cons_succ]
            refine wpAnyH_take (i := 16) (oi := { dst := some 53, op := Go.Op.fieldAddr 95 (Go.Operand.tmp 4) 0, type := 0, pos := "book.go:226", after := #[{ on := 15, ground := Go.Ground.guard }], guard := some (15, true) }) (v := undef) rfl (by kernel_rfl) (by kernel_rfl) (by kernel_rfl) (fun _ _ _ h => h) (Or.inr ⟨by rfl, rfl⟩) hH ?_; simp only [Act.put, List.setIfInBounds_toArray, List.set_cons_zero, List.set_cons_succ]
            refine wpAnyH_take (i := 17) (oi := { dst := some 54, op := Go.Op.load 27 (Go.Operand.tmp 53), type := 27, pos := "book.go:226", after := #[{ on := 16, ground := Go.Ground.data }, { on := 15, ground := Go.Ground.guard }], guard := some (15, true) }) (v := undef) rfl (by kernel_rfl) (by kernel_rfl) (by kernel_rfl) (fun _ _ _ h => h) (Or.inr ⟨by rfl, rfl⟩) hH ?_; simp only [Act.put, List.setIfInBounds_toArray, List.set_cons_zero, List.set_cons_succ]
            refine wpAnyH_take (i := 18) (oi := { dst := some 55, op := Go.Op.move (Go.Operand.tmp 5), type := 3, pos := "book.go:226", after := #[{ on := 15, ground := Go.Ground.guard }], guard := some (15, true) }) (v := undef) rfl (by kernel_rfl) (by kernel_rfl) (by kernel_rfl) (fun _ _ _ h => h) (Or.inr ⟨by rfl, rfl⟩) hH ?_; simp only [Act.put, List.setIfInBounds_toArray, List.set_cons_zero, List.set_cons_succ]
            refine wpAnyH_take (i := 19) (oi := { dst := some 56, op := Go.Op.indexAddr 27 (Go.Operand.tmp 54) (Go.Operand.tmp 55), type := 0, pos := "book.go:226", after := #[{ on := 17, ground := Go.Ground.data }, { on := 18, ground := Go.Ground.data }, { on := 15, ground := Go.Ground.guard }], guard := some (15, true) }) (v := undef) rfl (by kernel_rfl) (by kernel_rfl) (by kernel_rfl) (fun _ _ _ h => h) (Or.inr ⟨by rfl, rfl⟩) hH ?_; simp only [Act.put, List.setIfInBounds_toArray, List.set_cons_zero, List.set_cons_succ]
            refine wpAnyH_take (i := 20) (oi := { dst := some 57, op := Go.Op.load 78 (Go.Operand.tmp 56), type := 78, pos := "book.go:226", after := #[{ on := 19, ground := Go.Ground.data }, { on := 15, ground := Go.Ground.guard }], guard := some (15, true) }) (v := undef) rfl (by kernel_rfl) (by kernel_rfl) (by kernel_rfl) (fun _ _ _ h => h) (Or.inr ⟨by rfl, rfl⟩) hH ?_; simp only [Act.put, List.setIfInBounds_toArray, List.set_cons_zero, List.set_cons_succ]
            refine wpAnyH_take (i := 21) (oi := { dst := some 58, op := Go.Op.fieldAddr 95 (Go.Operand.tmp 4) 2, type := 0, pos := "book.go:226", after := #[{ on := 15, ground := Go.Ground.guard }], guard := some (15, true) }) (v := undef) rfl (by kernel_rfl) (by kernel_rfl) (by kernel_rfl) (fun _ _ _ h => h) (Or.inr ⟨by rfl, rfl⟩) hH ?_; simp only [Act.put, List.setIfInBounds_toArray, List.set_cons_zero, List.set_cons_succ]
            refine wpAnyH_take (i := 22) (oi := { dst := some 59, op := Go.Op.load 3 (Go.Operand.tmp 58), type := 3, pos := "book.go:226", after := #[{ on := 21, ground := Go.Ground.data }, { on := 15, ground := Go.Ground.guard }], guard := some (15, true) }) (v := undef) rfl (by kernel_rfl) (by kernel_rfl) (by kernel_rfl) (fun _ _ _ h => h) (Or.inr ⟨by rfl, rfl⟩) hH ?_; simp only [Act.put, List.setIfInBounds_toArray, List.set_cons_zero, List.set_cons_succ]
            refine wpAnyH_take (i := 23) (oi := { dst := some 60, op := Go.Op.call { callee := Go.Callee.value (Go.Operand.func 110), args := #[Go.Operand.tmp 57, Go.Operand.tmp 59], argTypes := #[78, 3] }, type := 4, pos := "book.go:226", after := #[{ on := 20, ground := Go.Ground.data }, { on := 22, ground := Go.Ground.data }, { on := 15, ground := Go.Ground.chain }, { on := 15, ground := Go.Ground.guard }], guard := some (15, true) }) (v := undef) rfl (by kernel_rfl) (by kernel_rfl) (by kernel_rfl) (fun _ _ _ h => h) (Or.inr ⟨by rfl, rfl⟩) hH ?_; simp only [Act.put, List.setIfInBounds_toArray, List.set_cons_zero, List.set_cons_succ]
            refine wpAnyH_take (i := 24) (oi := { dst := some 61, op := Go.Op.unOp Go.UnOp.not 4 (Go.Operand.tmp 60), type := 4, pos := "book.go:226", after := #[{ on := 23, ground := Go.Ground.data }, { on := 15, ground := Go.Ground.guard }], guard := some (15, true) }) (v := undef) rfl (by kernel_rfl) (by kernel_rfl) (by kernel_rfl) (fun _ _ _ h => h) (Or.inr ⟨by rfl, rfl⟩) hH ?_; simp only [Act.put, List.setIfInBounds_toArray, List.set_cons_zero, List.set_cons_succ]
            refine wpAnyH_take (i := 25) (oi := { dst := some 62, op := Go.Op.pick (Go.Operand.tmp 52) (Go.Operand.tmp 61) (Go.Operand.const (Go.Value.bool false)), type := 4, pos := "book.go:226", after := #[{ on := 15, ground := Go.Ground.data }, { on := 24, ground := Go.Ground.data }, { on := 9, ground := Go.Ground.guard }], guard := some (9, false) }) (v := ?_) rfl (by kernel_rfl) (by kernel_rfl) (by kernel_rfl) (fun _ _ _ h => h) (Or.inl ⟨by rfl, ?_⟩) hH ?_; rotate_left; (focus (intro wS hSw; (try dsimp only at hSw); go_simp; (try with_reducible rfl))); simp only [Act.put, List.setIfInBounds_toArray, List.set_cons_zero, List.set_cons_succ]
            refine wpAnyH_take (i := 26) (oi := { dst := some 63, op := Go.Op.pick (Go.Operand.tmp 46) (Go.Operand.const (Go.Value.bool true)) (Go.Operand.tmp 62), type := 4, pos := "book.go:226", after := #[{ on := 9, ground := Go.Ground.data }, { on := 25, ground := Go.Ground.data }], guard := none }) (v := ?_) rfl (by kernel_rfl) (by kernel_rfl) (by kernel_rfl) (fun _ _ _ h => h) (Or.inl ⟨by rfl, ?_⟩) hH ?_; rotate_left; (focus (intro wS hSw; (try dsimp only at hSw); go_simp; (try with_reducible rfl))); simp only [Act.put, List.setIfInBounds_toArray, List.set_cons_zero, List.set_cons_succ]
            refine wpAnyH_done (by kernel_rfl) ?_ _
            go_wp2_with fail
            exact ⟨⟨q + 1, by omega, by go_num, hH.1⟩, by simp [intOf]; omega⟩
        · obtain rfl : q = D.ln 4 i + 40 := by omega
          go_wp2_with fail
          refine ⟨⟨i + 1, hlt, by go_num, OK.out.go⟩, by simp [intOf]; omega⟩
    · obtain rfl : i = D.m 4 := by omega
      go_wp2_with fail
      go_ret
      exact ⟨rfl, OK.out⟩
theorem info_heldField : (Tryz.prog.info? 95).map (fun i => (i.zero, i.size, i.bytes)) = some (some (.agg #[.slice none 0 0, .slice none 0 0, .int .i64 0]), 3, 56) := by kernel_rfl
set_option maxRecDepth 100000 in
set_option maxHeartbeats 4000000 in
theorem keepField_fr {ht : Nat → TypeId} {w0 w : World} {B : Nat} {m : Nat → Nat} {S : Nat → Nat → Value} {N : Nat → Nat → Int} {n : Int} {v : Nat → Value} (hht : ht 4 = 95) (h : BM ht w0 B m S N n v w) (hm : m 4 ≤ 1099511627776) (hn : 0 ≤ n ∧ n ≤ 1099511627776) {a : Option Addr} {l q : Nat} (hS : S 4 (m 4) = .slice a l q) (hN : N 4 (m 4) = n + 1) :
    Calls Tryz.prog 90 #[.pointer (some ⟨B, 0, none⟩), .slice a l q] w fun e w' => e = .returned (.tuple #[]) ∧ ∃ b c, BM ht w0 B (at1 m 4 (m 4 + 1)) S N (n + 1) (at1 v 4 (.slice (some ⟨b, 0, none⟩) (m 4 + 1) c)) w' ∧ Fr w B (v 4) w' ∧ ((v 4).ownBlock = some b ∨ w.heap.size ≤ b) := by
  have HBL := Lib.hid h.lt
  have hw : IntKind.i64.wrap (n + 1) = n + 1 := IntWalk.i64_in _ (by omega)
  obtain ⟨nn, hnn⟩ : ∃ k, n + 1 = k := ⟨_, rfl⟩
  have OK0 := Lib.hid (h.count nn)
  have c0 := h.num
  have z0 := h.frz 0
  have hw2 : IntKind.i64.wrap (n + 1) = nn := by rw [hw, hnn]
  rw [hnn] at hN ⊢
  obtain ⟨i0, hi0, hz0, hz1, hz2⟩ := info_parts info_heldField
  rw [← hht] at hi0
  have HU : Hid (Tryz.prog.underlying 38 = some (.slice (ht 4))) := Lib.hid (by rw [hht]; exact Tryz.underlying38)
  have HI := Lib.hid (And.intro hi0 (And.intro hz0 (And.intro hz1 hz2)))
  clear h hn hnn hw hi0 hz0 hz1 hz2 hht
  go_enter Tryz.func90, Tryz.ntmps90
  go_upto_region 1 with fail
  clear c0 z0
  have OK := OK0.out
  revert OK
  generalize hW1 : w.setCell ⟨B, 0, none⟩ (.int .i64 nn) = W1
  have HW1 := Lib.hid (show W1.heap = (w.setCell ⟨B, 0, none⟩ (.int .i64 nn)).heap from by rw [hW1])
  clear hW1
  intro OK1
  clear OK0
  have OK := Lib.hid OK1
  clear OK1
  have c0 := OK.out.num
  have c2 := OK.out.fld 4 (by decide) (by decide)
  have d0 := (OK.out.below (below_alloc _ (.cells #[.slice a l q, .slice none 0 0, .int .i64 nn] 95))).num
  have d2 := (OK.out.below (below_alloc _ (.cells #[.slice a l q, .slice none 0 0, .int .i64 nn] 95))).fld 4 (by decide) (by decide)
  have HS := Lib.hid hS
  have HN := Lib.hid hN
  clear hS hN
  go_region_law ((first | (refine append_KF (κ := 4) (by decide) (by decide) OK.out hm HU.out HI.out.1 HI.out.2.1 HI.out.2.2.1 HI.out.2.2.2 (by rfl) _ _ (by rfl) (by rfl) _ HS.out HN.out (by rfl) ?_) | (refine append_KF (κ := 4) (by decide) (by decide) OK.out.drew hm HU.out HI.out.1 HI.out.2.1 HI.out.2.2.1 HI.out.2.2.2 (by rfl) _ _ (by rfl) (by rfl) _ HS.out HN.out (by rfl) ?_)); intro b c w2 hg hnb hc hz hk; have HG := Lib.hid hg; have HNB := Lib.hid hnb; clear hg hnb; have HK := Lib.hid hk; have z2 := hz 4; have e2 := hc 4 _ (OK.out.fld 4 (by decide) (by decide)); clear hk hc hz)
  all_goals go_wp2_with fail
  all_goals go_end0
  all_goals exact ⟨rfl, b, c, HK.out, by first | exact Fr.of HBL.out HW1.out HG.out | exact Fr.of (W1 := W1.drew) HBL.out HW1.out HG.out, by first | exact new_of HW1.out HNB.out | exact new_of (W1 := W1.drew) HW1.out HNB.out⟩
end Go.Proofs.YtmhemajcnfcdmaaGreatDoor.Bk
