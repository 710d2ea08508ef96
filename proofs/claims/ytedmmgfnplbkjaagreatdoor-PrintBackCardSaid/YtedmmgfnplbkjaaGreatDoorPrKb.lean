/-
  Walk: PrintBack, on a program that lies as a tree ('printback_any').
  Conditions: the package's variables hold what the program's text lays in them; the program is well made, its numbers in range.
-/
import Derived.Test.YtedmmgfnplbkjaaGreatDoorPrOP
import Derived.Test.YtedmmgfnplbkjaaGreatDoorParSm
import Derived.Test.YtedmmgfnplbkjaaGreatDoorPrA
import Derived.Test.YtedmmgfnplbkjaaGreatDoorPrWb
namespace Go.Proofs.YtedmmgfnplbkjaaGreatDoor.PR
set_option linter.unusedVariables false
set_option linter.unusedSimpArgs false
open Go.Proofs.YtedmmgfnplbkjaaGreatDoor Go.RowKit G
set_option maxRecDepth 100000 in
set_option maxHeartbeats 8000000 in
theorem printback_any (w : World) (ht : LTabs w) (n : Nat) (row : Nat → Nat → T) (hw : ∀ i, i < n → WC (row i)) (hg : ∀ i, i < n → ∀ j, j < 13 → Rg (row i j)) (v : Value) (hv : (T.ls n 13 row).Rep w yes v) :
    Calls Tryz.prog 4 #[v] w fun e w' => e = .returned (.bool true) ∧ Below w.heap.size w w' := by
  have HL := Lib.hid (fun W (hb : Below w.heap.size w W) => ht.below hb ht.gb)
  have HA := Lib.hid (fun W (hb : Below w.heap.size w W) => alive_any W (ht.below hb ht.gb))
  have H0 := Lib.hid (Below.refl w.heap.size w)
  have HX : Hid (∀ W W', Below w.heap.size w W → Below W.heap.size W W' → Below w.heap.size w W') := fun W W' h k => h.trans (k.mono h.size)
  have HV := Lib.hid (fun W (hb : Below w.heap.size w W) => rep_below hv hb)
  have HS : Hid (∀ W, Below w.heap.size w W → Calls Tryz.prog 14 #[v] W fun e W' => (∃ n : Int, R64 n ∧ e = .returned (.int .i64 n)) ∧ Below W.heap.size W W') := fun W hb => program_size w n row hw W v hb hv
  have HT : Hid (∀ W, Below w.heap.size w W → Calls Tryz.prog 11 #[v] W (PostText W (progW row n))) := fun W hb => text_any W (ht.below hb ht.gb) n row hw hg v (rep_below hv hb)
  have HB : Hid (∀ W b x c, W.cell? ⟨b, 0, none⟩ = some (.int .i64 x) → R64 x → Calls Tryz.prog 13 #[.slice (some ⟨b, 0, none⟩) 1 c] W fun e w' => (∃ q : Bool, e = .returned (.bool q)) ∧ W = w') := fun W b x c hx hr =>
    beyond_open W b 0 1 c (fun _ => x) (by decide) (fun j hj => by obtain rfl : j = 0 := by omega
                                                                   exact hx) (fun _ => hr)
  have HQ : (∃ k : Int, (k = 1 ∨ k = 3) ∧ ∀ W, Below w.heap.size w W → Calls Tryz.prog 11 #[v] W fun e w' => e = .returned (.tuple #[.string ⟨#[]⟩, .int .i64 k]) ∧ Below W.heap.size W w') ∨
      (∃ (s : ByteArray) (x : List (List T)), s.size ≤ 65536 ∧ Le (.ls n 13 row) (PT x) ∧ (∀ i, i < x.length → WC (rowOf x i)) ∧ (∀ W, Below w.heap.size w W → Calls Tryz.prog 11 #[v] W fun e w' => e = .returned (.tuple #[.string s, .int .i64 0]) ∧ Below W.heap.size W w') ∧
        ∀ W, Below w.heap.size w W → Calls Tryz.prog 9 #[.string s] W fun e w' => ∃ u, e = .returned (.tuple #[u, .int .i64 0, .int .i64 0]) ∧ (PT x).Rep w' yes u ∧ Below W.heap.size W w') := by
    cases hr : progW row n with
    | none => exact .inl ⟨1, .inl rfl, fun W hb => (HT.out W hb).mono fun e w' ⟨h1, h2⟩ => ⟨by rw [hr] at h2; exact h2, h1⟩⟩
    | some us =>
      by_cases hlong : 65536 < (lines us).length
      · exact .inl ⟨3, .inr rfl, fun W hb => (HT.out W hb).mono fun e w' ⟨h1, h2⟩ => ⟨by
          rw [hr] at h2
          replace h2 : (if 65536 < (lines us).length then e = .returned (.tuple #[.string ⟨#[]⟩, .int .i64 3]) else e = .returned (.tuple #[.string ⟨(lines us).toArray⟩, .int .i64 0])) := h2
          rw [if_pos hlong] at h2
          exact h2, h1⟩⟩
      · obtain ⟨vs, x, h3, h4, h5⟩ := text_comes hw hg hr (by omega)
        have hok : ∀ y ∈ vs, LX.OkW y := fun y hy => ((LX.lex_sound 0 _ vs h3).1 y hy).1
        have hsz : (⟨(lines us).toArray⟩ : ByteArray).size ≤ 65536 := by show (lines us).length ≤ _; omega
        refine .inr ⟨⟨(lines us).toArray⟩, x, hsz, h5, (well_made hok h4).1, fun W hb => (HT.out W hb).mono fun e w' ⟨h1, h2⟩ => ⟨by
          rw [hr] at h2
          replace h2 : (if 65536 < (lines us).length then e = .returned (.tuple #[.string ⟨#[]⟩, .int .i64 3]) else e = .returned (.tuple #[.string ⟨(lines us).toArray⟩, .int .i64 0])) := h2
          rw [if_neg hlong] at h2
          exact h2, h1⟩, fun W hb => (parse_some _ W hsz (ht.below hb ht.gb) (by rw [show (⟨(lines us).toArray⟩ : ByteArray).data.toList = lines us by simp]; exact h3) h4).mono fun e w' ⟨u, he, hf, hb⟩ => ⟨u, he, fsl_rep hf, hb⟩⟩
  clear ht HT
  have hb := H0.out
  have h64 : (0 : Int) < 1 := by decide
  rcases HQ with ⟨k, hk, hT⟩ | ⟨s, x, hs, hle, hwx, hT, hP⟩
  · have HT := Lib.hid hT
    clear hT
    rcases hk with rfl | rfl
    all_goals
      go_enter Tryz.func4, Tryz.ntmps4
      go_wp2_with (first
        | (go_at_call 10; (with_reducible refine (HA.out _ (by assumption)).mono ?_); rintro e1 w1 ⟨rfl, hb1⟩; have hb := HX.out _ _ (by assumption) hb1; clear hb1)
        | (go_at_call 14; (with_reducible refine (HS.out _ (by assumption)).mono ?_); rintro e2 w2 ⟨⟨z, hz, rfl⟩, hb2⟩; have hb := HX.out _ _ (by assumption) hb2; clear hb2))
      refine (HB.out _ _ _ _ (blk1 (heap_alloc_new _ _)).1 hz).mono ?_
      rintro e3 w3 ⟨⟨q, rfl⟩, rfl⟩
      have hb3 := hb.alloc hb.size (.cells #[.int .i64 z] 3)
      cases q
      · go_wp2_with (go_at_call 11; (with_reducible refine (HT.out _ hb3).mono ?_); rintro e4 w4 ⟨rfl, hb4⟩; have hb5 := HX.out _ _ hb3 hb4; clear hb4)
        go_ret
        exact ⟨rfl, hb5⟩
      · go_wp2_with (go_at_call 10; (with_reducible refine (HA.out _ hb3).mono ?_); rintro e4 w4 ⟨rfl, hb4⟩; have hb5 := HX.out _ _ hb3 hb4; clear hb4)
        go_ret
        exact ⟨rfl, hb5⟩
  · have HT := Lib.hid hT
    have HP := Lib.hid hP
    have HSP : Hid (∀ W a b, (PT x).Rep W yes a → (PT x).Rep W yes b → Calls Tryz.prog 12 #[a, b] W fun e W' => e = .returned (.bool true) ∧ Below W.heap.size W W') := fun W a b ha hb =>
      same_program W x.length (rowOf x) hwx W a b (Below.refl _ _) ha hb
    have HLE := Lib.hid (fun W (h : (T.ls n 13 row).Rep W yes v) => hle W yes v h)
    clear hT hP hle
    have hsi : (s.size : Int) ≤ 65536 := by omega
    go_enter Tryz.func4, Tryz.ntmps4
    go_wp2_with (first
      | (go_at_call 10; (with_reducible refine (HA.out _ (by assumption)).mono ?_); rintro e1 w1 ⟨rfl, hb1⟩; have hb := HX.out _ _ (by assumption) hb1; clear hb1)
      | (go_at_call 14; (with_reducible refine (HS.out _ (by assumption)).mono ?_); rintro e2 w2 ⟨⟨z, hz, rfl⟩, hb2⟩; have hb := HX.out _ _ (by assumption) hb2; clear hb2))
    refine (HB.out _ _ _ _ (blk1 (heap_alloc_new _ _)).1 hz).mono ?_
    rintro e3 w3 ⟨⟨q, rfl⟩, rfl⟩
    have hb3 := hb.alloc hb.size (.cells #[.int .i64 z] 3)
    cases q
    · go_wp2_with (first
        | (go_at_call 11; (with_reducible refine (HT.out _ hb3).mono ?_); rintro e4 w4 ⟨rfl, hb4⟩; have hb5 := HX.out _ _ hb3 hb4; clear hb4)
        | (go_at_call 9; (with_reducible refine (HP.out _ hb5).mono ?_); rintro e5 w5 ⟨u, rfl, hu, hb6⟩; have hb7 := HX.out _ _ hb5 hb6; clear hb6; have HS5 := Lib.hid (HSP.out _ _ _ hu (HLE.out _ (HV.out _ hb7)))))
      refine HS5.out.mono ?_
      rintro e6 w6 ⟨rfl, hb8⟩
      have hb9 := HX.out _ _ hb7 hb8
      clear hb8
      go_wp2
      go_ret
      exact ⟨rfl, hb9⟩
    · go_wp2_with (go_at_call 10; (with_reducible refine (HA.out _ hb3).mono ?_); rintro e4 w4 ⟨rfl, hb4⟩; have hb5 := HX.out _ _ hb3 hb4; clear hb4)
      go_ret
      exact ⟨rfl, hb5⟩
end Go.Proofs.YtedmmgfnplbkjaaGreatDoor.PR
