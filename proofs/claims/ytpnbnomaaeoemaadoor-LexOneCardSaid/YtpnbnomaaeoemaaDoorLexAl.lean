/-
  Walks: alive(), the answers that the document fixes.
  Conditions: the package's variables hold what the program's text lays in them.
-/
import Derived.Test.YtpnbnomaaeoemaaDoorLexS
namespace Go.Proofs.YtpnbnomaaeoemaaDoor
open Go.RowKit

theorem num5 : LX.numOf [45, 53] = some (-5) := by
  rw [LX.numOf_iff]
  refine ⟨by omega, ?_⟩
  have : Lib.decDigits 5 = [53] := by rw [Lib.decDigits, dif_pos (by decide)]; rfl
  simp [Lib.itoa, this]
theorem alive1 : LX.lex 0 [40, 97, 32, 45, 53, 32, 34, 120, 92, 34, 121, 34, 41, 10, 59, 122, 10, 45, 45] = .ok [⟨4, [], 0, 0⟩, ⟨1, [97], 0, 0⟩, ⟨2, [], -5, 0⟩, ⟨3, [120, 34, 121], 0, 0⟩, ⟨5, [], 0, 0⟩, ⟨1, [45, 45], 0, 2⟩] := by
  have h5 := num5
  rw [LX.lex_word 0 40 _ ⟨4, [], 0, 0⟩ 1 (by decide) rfl]
  show (LX.lex 0 [97, 32, 45, 53, 32, 34, 120, 92, 34, 121, 34, 41, 10, 59, 122, 10, 45, 45]).cons _ = _
  rw [LX.lex_word 0 97 _ ⟨1, [97], 0, 0⟩ 1 (by decide) rfl]
  show ((LX.lex 0 [32, 45, 53, 32, 34, 120, 92, 34, 121, 34, 41, 10, 59, 122, 10, 45, 45]).cons _).cons _ = _
  rw [LX.lex_blank 0 32 _ (by decide), LX.lex_word 0 45 _ ⟨2, [], -5, 0⟩ 2 (by decide) (by
    have e : LX.word [45, 53, 32, 34, 120, 92, 34, 121, 34, 41, 10, 59, 122, 10, 45, 45] = (match LX.numOf [45, 53] with | some v => some (⟨2, [], v, 0⟩, 2) | none => none) := rfl
    rw [e, h5])]
  show (((LX.lex 0 [32, 34, 120, 92, 34, 121, 34, 41, 10, 59, 122, 10, 45, 45]).cons _).cons _).cons _ = _
  rw [LX.lex_blank 0 32 _ (by decide), LX.lex_word 0 34 _ ⟨3, [120, 34, 121], 0, 0⟩ 6 (by decide) rfl]
  show ((((LX.lex 0 [41, 10, 59, 122, 10, 45, 45]).cons _).cons _).cons _).cons _ = _
  rw [LX.lex_word 0 41 _ ⟨5, [], 0, 0⟩ 1 (by decide) rfl]
  show (((((LX.lex 0 [10, 59, 122, 10, 45, 45]).cons _).cons _).cons _).cons _).cons _ = _
  rw [LX.lex_nl 0 10 _ (by decide), LX.lex_rem 1 59 _ (by decide)]
  show (((((LX.lex 1 [10, 45, 45]).cons _).cons _).cons _).cons _).cons _ = _
  rw [LX.lex_nl 1 10 _ (by decide), LX.lex_word 2 45 _ ⟨1, [45, 45], 0, 0⟩ 2 (by decide) rfl]
  rfl
theorem alive2 : LX.lex 0 [97, 10, 10, 44] = .err 2 := by
  rw [LX.lex_word 0 97 _ ⟨1, [97], 0, 0⟩ 1 (by decide) rfl]
  show (LX.lex 0 [10, 10, 44]).cons _ = _
  rw [LX.lex_nl 0 10 _ (by decide), LX.lex_nl 1 10 _ (by decide), LX.lex_err 2 44 _ (by decide) rfl]
  rfl

/-- The words that stand in the law. -/
def wantA : List LX.LW := [⟨4, [], 0, 0⟩, ⟨1, [97], 0, 0⟩, ⟨2, [], -5, 0⟩, ⟨3, [120, 34, 121], 0, 0⟩, ⟨5, [], 0, 0⟩, ⟨1, [45, 45], 0, 2⟩]
theorem wds_new (w : World) (ws : List LX.LW) (h : ws.length ≤ maxLen) : Wds (w.alloc (.cells (flatW ws).toArray 30)) (.slice (some ⟨w.heap.size, 0, none⟩) ws.length ws.length) ws := by
  refine ⟨_, _, rfl, Nat.le_refl _, h, .inr ⟨w.heap.size, 0, rfl, by simp, fun j u hu => ?_⟩⟩
  have := heap_alloc_new w (.cells (flatW ws).toArray 30)
  rw [Lib.cell_of_heap this]
  simpa using hu

set_option maxRecDepth 100000 in
set_option maxHeartbeats 8000000 in
theorem alive_any (w : World) (ht : LTabs w) : Calls Tryd.prog 7 #[] w fun e w' => e = .returned (.bool true) ∧ Below w.heap.size w w' := by
  have h1 : ∀ W, LTabs W → Calls Tryd.prog 6 #[.string ⟨#[40, 97, 32, 45, 53, 32, 34, 120, 92, 34, 121, 34, 41, 10, 59, 122, 10, 45, 45]⟩] W fun e w' => ∃ v, e = .returned (.tuple #[v, .int .i64 0, .int .i64 0]) ∧ Wds w' v wantA ∧ Below W.heap.size W w' := by
    intro W hW
    refine (words_any ⟨#[40, 97, 32, 45, 53, 32, 34, 120, 92, 34, 121, 34, 41, 10, 59, 122, 10, 45, 45]⟩ W (by decide) hW).mono ?_
    intro e w' hp
    unfold PostWords at hp
    rw [show (⟨#[40, 97, 32, 45, 53, 32, 34, 120, 92, 34, 121, 34, 41, 10, 59, 122, 10, 45, 45]⟩ : ByteArray).data.toList = [40, 97, 32, 45, 53, 32, 34, 120, 92, 34, 121, 34, 41, 10, 59, 122, 10, 45, 45] from rfl, alive1] at hp
    obtain ⟨⟨v, he, ho⟩, hb⟩ := hp
    exact ⟨v, he, Wds.of_own ho, hb⟩
  have h2 : ∀ W, LTabs W → Calls Tryd.prog 6 #[.string ⟨#[97, 10, 10, 44]⟩] W fun e w' => e = .returned (.tuple #[.slice none 0 0, .int .i64 2, .int .i64 4]) ∧ Below W.heap.size W w' := by
    intro W hW
    refine (words_any ⟨#[97, 10, 10, 44]⟩ W (by decide) hW).mono ?_
    intro e w' hp
    unfold PostWords at hp
    rw [show (⟨#[97, 10, 10, 44]⟩ : ByteArray).data.toList = [97, 10, 10, 44] from rfl, alive2] at hp
    exact hp
  have H1 := Lib.hid (h1 w ht)
  have H2 := Lib.hid (fun W (h : Below w.heap.size w W) => h2 W (ht.below h ht.gb))
  have HWn := Lib.hid (fun W => wds_new W wantA (by decide))
  have HS := Lib.hid (fun v1 v2 W h1 h2 => same_words v1 v2 wantA W h1 h2)
  clear h1 h2 ht
  go_enter Tryd.func7, Tryd.ntmps7
  go_wp2_with fail
  refine H1.out.mono ?_
  rintro e w1 ⟨v, rfl, hw1, hb1⟩
  have HA := Lib.hid (And.intro hw1 hb1)
  clear hw1 hb1
  go_wp2_with fail
  refine (H2.out _ HA.out.2).mono ?_
  rintro e w2 ⟨rfl, hb2⟩
  have HB := Lib.hid (And.intro (HA.out.1.below hb2) (HA.out.2.trans (hb2.mono HA.out.2.size)))
  clear hb2
  go_wp2_with fail
  refine (HS.out _ _ _ (HB.out.1.below ((Below.refl _ _).alloc (Nat.le_refl _) _)) (HWn.out w2)).mono ?_
  rintro e w3 ⟨rfl, m, rfl⟩
  have HC := Lib.hid ((HB.out.2.alloc HB.out.2.size (.cells (flatW wantA).toArray 30)))
  go_wp2
  go_ret
  exact ⟨rfl, HC.out.os, HC.out.tape, HC.out.output, HC.out.size, HC.out.block⟩
end Go.Proofs.YtpnbnomaaeoemaaDoor
