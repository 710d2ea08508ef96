/-
  Walks: nameOrNumber, word.
  Conditions: the reader lies in block R behind the package's variables; these hold what the program's text lays in them; the text is no longer than the reach.
-/
import Derived.Test.YtedmmgfnplbkjaaGreatDoorLexN
namespace Go.Proofs.YtedmmgfnplbkjaaGreatDoor
open Go.RowKit
set_option maxRecDepth 100000 in
set_option maxHeartbeats 4000000 in
theorem clone_any (s : ByteArray) (w : World) (hs : s.size ≤ 140737488355328) :
    Calls Tryz.prog 106 #[.string s] w fun e w' => e = .returned (.string s) ∧ Below w.heap.size w w' := by
  have H := Lib.hid (Tryz.stringslite_Clone s w (by omega))
  go_enter Tryz.func106, Tryz.ntmps106
  go_wp2_with (go_at_call 161; (with_reducible refine H.out.mono ?_); rintro e w1 ⟨rfl, hb⟩)
  go_ret
  exact ⟨rfl, hb⟩
def nbW (l : List UInt8) : Option (LX.LW × Nat) :=
  if LX.begNum (l.takeWhile LX.isNB) then
    match LX.numOf (l.takeWhile LX.isNB) with
    | some v => some (⟨2, [], v, 0⟩, (l.takeWhile LX.isNB).length)
    | none => none
  else if (l.takeWhile LX.isNB).length ≤ 4096 then some (⟨1, l.takeWhile LX.isNB, 0, 0⟩, (l.takeWhile LX.isNB).length) else none
set_option maxRecDepth 100000 in
set_option maxHeartbeats 4000000 in
theorem nameOrNumber_any (R : Nat) (s : ByteArray) (ln : Int) (w : World) (hs : s.size ≤ 140737488355327) (hne : s.data.toList.takeWhile LX.isNB ≠ []) (hr : RdAt R s ln w) (ht : LTabs w) (hg : GB R) :
    Calls Tryz.prog 60 #[.pointer (some ⟨R, 0, none⟩)] w (PostW (nbW s.data.toList) R s ln w) := by
  have hRlt := hr.lt
  have HRL := Lib.hid hRlt
  obtain ⟨W, hW⟩ : ∃ W, W = w.alloc (.cells #[.int .u8 0, .string ⟨#[]⟩, .int .i64 0, .int .i64 0] 90) := ⟨_, rfl⟩
  have hz : W.heap.size = w.heap.size + 1 := by rw [hW]; simp
  have hk0 : ∀ m, m ≤ w.heap.size → K2 R m w W := fun m hm => by rw [hW]; exact K2.alloc _ (by omega) hm
  have hr0 : RdAt R s ln W := by rw [hW]; unfold RdAt at hr ⊢; rw [Below.heap_alloc _ _ _ hRlt]; exact hr
  have hw0 : WAt w.heap.size 0 ⟨#[]⟩ 0 0 W := by rw [hW]; exact wat_alloc w
  have ht0 : LTabs W := ht.below (hk0 0 (by omega)).1 hg
  have heat := eatNB_any R s ln W (by omega) hr0
  have hxl : (s.data.toList.takeWhile LX.isNB).length ≤ s.size := by have := LX.takeWhile_le LX.isNB s.data.toList; simpa using this
  have hpost : PostW (nbW s.data.toList) R s ln w = PostW (if LX.begNum (s.data.toList.takeWhile LX.isNB) then
    match LX.numOf (s.data.toList.takeWhile LX.isNB) with
    | some v => some (⟨2, [], v, 0⟩, (s.data.toList.takeWhile LX.isNB).length)
    | none => none
  else if (s.data.toList.takeWhile LX.isNB).length ≤ 4096 then some (⟨1, s.data.toList.takeWhile LX.isNB, 0, 0⟩, (s.data.toList.takeWhile LX.isNB).length) else none) R s ln w := rfl
  rw [hpost]
  clear hpost
  generalize s.data.toList.takeWhile LX.isNB = x at heat hxl hne ⊢
  obtain ⟨xs, hxs⟩ : ∃ xs : ByteArray, (⟨x.toArray⟩ : ByteArray) = xs := ⟨_, rfl⟩
  have hxd : xs.data.toList = x := by rw [← hxs]
  have hxz : xs.size = x.length := by rw [← hxd]; simp
  have hx1 : 0 < xs.size := by
    rw [hxz]
    rcases Nat.eq_zero_or_pos x.length with h | h
    · exact absurd (List.eq_nil_of_length_eq_zero h) hne
    · exact h
  rw [hxs] at heat
  have hbeg := Lib.hid (fun W => beginsNumber_any xs W (by omega) hx1)
  rw [hxd] at hbeg
  have HBeg := hbeg
  have HNum := Lib.hid (fun W (h : LTabs W) => number_any xs W (by omega) h)
  rw [hxd] at HNum
  have HCl := Lib.hid (fun W => clone_any xs W (by omega))
  have HX : Hid (∀ w1, (∀ m, K2 R m W w1) → WAt w.heap.size 0 ⟨#[]⟩ 0 0 w1 ∧ K2 R w.heap.size w w1 ∧ LTabs w1 ∧ w.heap.size + 1 ≤ w1.heap.size) := fun w1 hk => ⟨by unfold WAt; rw [(hk (w.heap.size + 1)).2 _ hRlt (by omega)]; exact hw0, (hk0 _ (Nat.le_refl _)).trans (hk _), ht0.below (hk 0).1 hg, by have := (hk 0).1.size; omega⟩
  have HX2 : Hid (∀ w1 w2 ln, (RdAt R (s.extract x.length s.size) ln w1 ∧ WAt w.heap.size 0 ⟨#[]⟩ 0 0 w1 ∧ K2 R w.heap.size w w1 ∧ LTabs w1 ∧ w.heap.size + 1 ≤ w1.heap.size) → Below w1.heap.size w1 w2 → RdAt R (s.extract x.length s.size) ln w2 ∧ WAt w.heap.size 0 ⟨#[]⟩ 0 0 w2 ∧ K2 R w.heap.size w w2) := by
    rintro w1 w2 ln ⟨h1, h2, h3, -, h5⟩ hb
    exact ⟨h1.below hb h1.lt, h2.below hb (by omega), h3.trans (K2.below hb (by omega) (by omega))⟩
  rw [hW] at heat
  have HEat := Lib.hid heat
  have hlen : (xs.size : Int) = (x.length : Int) := by omega
  have HLEN := Lib.hid hlen
  clear heat hbeg hw0 hr0 hk0 hz ht0 hr ht hg hlen hxd
  rw [hW] at HX
  have g0 : 0 < xs.size := hx1
  have g1 : xs.size ≤ 140737488355327 := by omega
  clear hW hne hxl
  obtain ⟨b, hb⟩ : ∃ b, LX.begNum x = b := ⟨_, rfl⟩
  rw [hb] at HBeg ⊢
  clear hb hx1
  cases b
  · rw [if_neg (by simp)]
    by_cases hlen : x.length ≤ 4096
    · rw [if_pos hlen]
      have g2 : ¬ (4096 : Int) < (xs.size : Int) := by omega
      have HP : Hid (∀ w', RdAt R (s.extract x.length s.size) ln w' → Kp R w w' → PostW (some (⟨1, x, 0, 0⟩, x.length)) R s ln w (.returned (.tuple #[.agg #[.int .u8 1, .string xs, .int .i64 0, .int .i64 0], .bool true])) w') := fun w' h1 h2 => ⟨by rw [← hxs]; rfl, h1, h2⟩
      clear hlen hxz hxs
      generalize PostW (some (⟨1, x, 0, 0⟩, x.length)) R s ln w = post at HP ⊢
      go_enter Tryz.func60, Tryz.ntmps60
      go_wp2_with (first
        | (go_at_call 56; (with_reducible refine HEat.out.mono ?_); rintro e w1 ⟨rfl, hr1, hk1⟩; (have HA := Lib.hid (And.intro hr1 (HX.out _ hk1))); clear hr1 hk1)
        | (go_at_call 104; (with_reducible refine (HBeg.out _).mono ?_); rintro e w2 ⟨rfl, rfl⟩)
        | (go_at_call 106; (with_reducible refine (HCl.out _).mono ?_); rintro e w2 ⟨rfl, hb⟩; (have HB := Lib.hid (HX2.out _ _ _ HA.out hb)); (obtain ⟨⟨d0, d1, d2, d3⟩, z0, z1, z2, z3⟩ := HB.out.2.1.cells); clear hb))
      refine bodyPost_ret (v := .tuple #[.agg #[.int .u8 1, .string xs, .int .i64 0, .int .i64 0], .bool true]) (by simp [results, Tryz.results60, go_sem, d0, d1, d2, d3]) rfl (HP.out _ ?_ ?_)
      · have := HRL.out
        iterate 4 (with_reducible refine RdAt.setO ?_ (by omega) _ _)
        exact HB.out.1
      · have := HRL.out
        refine K2.kp ?_
        iterate 4 (with_reducible refine K2.trans ?_ (K2.set (R := R) (m := w.heap.size) (b := w.heap.size) _ _ (Nat.le_refl _) (by omega)))
        exact HB.out.2.2
    · rw [if_neg hlen]
      have g2 : (4096 : Int) < (xs.size : Int) := by omega
      have HP : Hid (∀ w', RdAt R (s.extract x.length s.size) ln w' → Kp R w w' → PostW none R s ln w (.returned (.tuple #[zAgg, .bool false])) w') := fun w' h1 h2 => ⟨rfl, ⟨_, h1⟩, h2⟩
      clear hlen hxz hxs
      generalize PostW none R s ln w = post at HP ⊢
      go_enter Tryz.func60, Tryz.ntmps60
      go_wp2_with (first
        | (go_at_call 56; (with_reducible refine HEat.out.mono ?_); rintro e w1 ⟨rfl, hr1, hk1⟩; (have HA := Lib.hid (And.intro hr1 (HX.out _ hk1))); (obtain ⟨⟨d0, d1, d2, d3⟩, z0, z1, z2, z3⟩ := HA.out.2.1.cells); clear hr1 hk1)
        | (go_at_call 104; (with_reducible refine (HBeg.out _).mono ?_); rintro e w2 ⟨rfl, rfl⟩))
      refine bodyPost_ret (v := .tuple #[zAgg, .bool false]) (by simp [results, Tryz.results60, go_sem, d0, d1, d2, d3, zAgg]) rfl (HP.out _ ?_ ?_)
      · have := HRL.out
        iterate 4 (with_reducible refine RdAt.setO ?_ (by omega) _ _)
        exact HA.out.1
      · have := HRL.out
        refine K2.kp ?_
        iterate 4 (with_reducible refine K2.trans ?_ (K2.set (R := R) (m := w.heap.size) (b := w.heap.size) _ _ (Nat.le_refl _) (by omega)))
        exact HA.out.2.2.1
  · rw [if_pos rfl]
    obtain ⟨r, hr⟩ : ∃ r, LX.numOf x = r := ⟨_, rfl⟩
    rw [hr] at HNum ⊢
    clear hr hxz hxs
    cases r with
    | some v =>
      have HP : Hid (∀ w', RdAt R (s.extract x.length s.size) ln w' → Kp R w w' → PostW (some (⟨2, [], v, 0⟩, x.length)) R s ln w (.returned (.tuple #[.agg #[.int .u8 2, .string ⟨#[]⟩, .int .i64 v, .int .i64 0], .bool true])) w') := fun w' h1 h2 => ⟨rfl, h1, h2⟩
      have HN2 : Hid (∀ W, LTabs W → Calls Tryz.prog 105 #[.string xs] W fun e w' => e = .returned (.tuple #[.agg #[.int .u8 2, .string ⟨#[]⟩, .int .i64 v, .int .i64 0], .bool true]) ∧ Below W.heap.size W w') := HNum.out
      clear HNum
      show Calls _ _ _ _ (PostW (some (⟨2, [], v, 0⟩, x.length)) R s ln w)
      generalize PostW (some (⟨2, [], v, 0⟩, x.length)) R s ln w = post at HP ⊢
      go_enter Tryz.func60, Tryz.ntmps60
      go_wp2_with (first
        | (go_at_call 56; (with_reducible refine HEat.out.mono ?_); rintro e w1 ⟨rfl, hr1, hk1⟩; (have HA := Lib.hid (And.intro hr1 (HX.out _ hk1))); clear hr1 hk1)
        | (go_at_call 104; (with_reducible refine (HBeg.out _).mono ?_); rintro e w2 ⟨rfl, rfl⟩)
        | (go_at_call 105; (with_reducible refine (HN2.out _ HA.out.2.2.2.1).mono ?_); rintro e w2 ⟨rfl, hb⟩; (have HB := Lib.hid (HX2.out _ _ _ HA.out hb)); (obtain ⟨⟨d0, d1, d2, d3⟩, z0, z1, z2, z3⟩ := HB.out.2.1.cells); clear hb))
      refine bodyPost_ret (v := .tuple #[.agg #[.int .u8 2, .string ⟨#[]⟩, .int .i64 v, .int .i64 0], .bool true]) (by simp [results, Tryz.results60, go_sem, d0, d1, d2, d3]) rfl (HP.out _ ?_ ?_)
      · have := HRL.out
        iterate 4 (with_reducible refine RdAt.setO ?_ (by omega) _ _)
        exact HB.out.1
      · have := HRL.out
        refine K2.kp ?_
        iterate 4 (with_reducible refine K2.trans ?_ (K2.set (R := R) (m := w.heap.size) (b := w.heap.size) _ _ (Nat.le_refl _) (by omega)))
        exact HB.out.2.2
    | none =>
      have HP : Hid (∀ w', RdAt R (s.extract x.length s.size) ln w' → Kp R w w' → PostW none R s ln w (.returned (.tuple #[zAgg, .bool false])) w') := fun w' h1 h2 => ⟨rfl, ⟨_, h1⟩, h2⟩
      have HN2 : Hid (∀ W, LTabs W → Calls Tryz.prog 105 #[.string xs] W fun e w' => e = .returned (.tuple #[.agg #[.int .u8 0, .string ⟨#[]⟩, .int .i64 0, .int .i64 0], .bool false]) ∧ Below W.heap.size W w') := HNum.out
      clear HNum
      show Calls _ _ _ _ (PostW none R s ln w)
      generalize PostW none R s ln w = post at HP ⊢
      go_enter Tryz.func60, Tryz.ntmps60
      go_wp2_with (first
        | (go_at_call 56; (with_reducible refine HEat.out.mono ?_); rintro e w1 ⟨rfl, hr1, hk1⟩; (have HA := Lib.hid (And.intro hr1 (HX.out _ hk1))); clear hr1 hk1)
        | (go_at_call 104; (with_reducible refine (HBeg.out _).mono ?_); rintro e w2 ⟨rfl, rfl⟩)
        | (go_at_call 105; (with_reducible refine (HN2.out _ HA.out.2.2.2.1).mono ?_); rintro e w2 ⟨rfl, hb⟩; (have HB := Lib.hid (HX2.out _ _ _ HA.out hb)); (obtain ⟨⟨d0, d1, d2, d3⟩, z0, z1, z2, z3⟩ := HB.out.2.1.cells); clear hb))
      refine bodyPost_ret (v := .tuple #[zAgg, .bool false]) (by simp [results, Tryz.results60, go_sem, d0, d1, d2, d3, zAgg]) rfl (HP.out _ ?_ ?_)
      · have := HRL.out
        iterate 4 (with_reducible refine RdAt.setO ?_ (by omega) _ _)
        exact HB.out.1
      · have := HRL.out
        refine K2.kp ?_
        iterate 4 (with_reducible refine K2.trans ?_ (K2.set (R := R) (m := w.heap.size) (b := w.heap.size) _ _ (Nat.le_refl _) (by omega)))
        exact HB.out.2.2
end Go.Proofs.YtedmmgfnplbkjaaGreatDoor
