/-
  What Parse answers, by the plain reading of its words ('parse_none', 'parse_some').
  Conditions: the package's variables hold what the program's text lays in them.
-/
import Derived.Test.YtedmmgfnplbkjaaGreatDoorParWf
namespace Go.Proofs.YtedmmgfnplbkjaaGreatDoor
set_option linter.unusedVariables false
set_option linter.unusedSimpArgs false
open Go.RowKit G
theorem parse_none (s : ByteArray) (W : World) (hs : s.size ≤ 65536) (ht : LTabs W) {n e : Int} (hr : match LX.lex 0 s.data.toList with | .err k => n = k ∧ e = 4 | .ok ws => match parseP ws with | .inl k => n = k ∧ e = 5 | .inr _ => False) :
    Calls Tryz.prog 9 #[.string s] W fun x w' => x = .returned (.tuple #[.slice none 0 0, .int .i64 n, .int .i64 e]) ∧ Below W.heap.size W w' := by
  refine (parse_any s W hs ht).mono fun x w' hp => ?_
  unfold PostParse at hp
  cases hl : LX.lex 0 s.data.toList with
  | err k =>
    rw [hl] at hp hr
    obtain ⟨rfl, rfl⟩ := hr
    exact hp
  | ok ws =>
    rw [hl] at hp hr
    dsimp only at hp hr
    cases hq : parseP ws with
    | inl k =>
      rw [hq] at hp hr
      obtain ⟨rfl, rfl⟩ := hr
      exact hp
    | inr l => rw [hq] at hr; exact hr.elim
theorem parse_some (s : ByteArray) (W : World) (hs : s.size ≤ 65536) (ht : LTabs W) {ws : List LX.LW} {l : List (List T)} (hl : LX.lex 0 s.data.toList = .ok ws) (hq : parseP ws = .inr l) :
    Calls Tryz.prog 9 #[.string s] W fun x w' => ∃ v, x = .returned (.tuple #[v, .int .i64 0, .int .i64 0]) ∧ FSl ShC 46 13 W.heap.size l v w' ∧ Below W.heap.size W w' := by
  refine (parse_any s W hs ht).mono fun x w' hp => ?_
  unfold PostParse at hp
  rw [hl] at hp
  dsimp only at hp
  rw [hq] at hp
  obtain ⟨⟨v, he, hf⟩, hb⟩ := hp
  exact ⟨v, he, hf, hb⟩
end Go.Proofs.YtedmmgfnplbkjaaGreatDoor
