/-
  Walks: the helpers of value.Check answer 'justB', 'isElemB', 'inRowB', 'inLimB', 'risingB'; old memory is as it was.
  Conditions: the values lie in memory; the table of the kinds' rows holds what the program's text lays in it.
-/
import Derived.Test.YtajmdhcknmmbbaaGreatDoorCheckP
import Derived.Test.YtajmdhcknmmbbaaGreatDoorSize
namespace Go.Proofs.YtajmdhcknmmbbaaGreatDoor
open Go.RowKit

/-- The table of the rows, in memory. -/
def RowsAt (w : World) : Prop := ∀ i, i < 40 → w.cell? ⟨1, i, none⟩ = some (.bool (rowsL.getD i false))

set_option maxHeartbeats 400000 in
theorem just_any (fa : Option Addr) (fl fc : Nat) (fn : Nat → ByteArray) (na : Option Addr) (m mc : Nat) (ns : Nat → ByteArray) (w : World) (hlc : fl ≤ fc ∧ fc ≤ maxLen) (hm : m ≤ 1000)
    (h : ∀ i, i < fl → ∃ b o, fa = some ⟨b, o, none⟩ ∧ w.cell? ⟨b, o + i * 9, none⟩ = some (.string (fn i)))
    (h' : ∀ i, i < m → ∃ b, na = some ⟨b, 0, none⟩ ∧ w.cell? ⟨b, i, none⟩ = some (.string (ns i))) :
    Calls Tryz.prog 234 #[.slice fa fl fc, .slice na m mc] w fun x w' => x = .returned (.bool (justB fl fn m ns)) ∧ w = w' := by
  unfold maxLen at hlc
  by_cases hne : fl = m
  · subst hne
    by_cases hz : fl = 0
    · subst hz
      have R := Lib.hid (show Ending.returned (.bool true) = .returned (.bool (justB 0 fn 0 ns)) by simp [justB, allB])
      clear h h'
      go_enter Tryz.func234, Tryz.ntmps234
      go_wp2_with fail
      go_loopw [14] (fun i wr => i = .int .i64 0 ∧ w = wr) (fun _ _ => 0)
      case atStart => exact ⟨rfl, rfl⟩
      case round =>
        obtain ⟨rfl, rfl⟩ := hrel
        go_wp2_with fail
        go_ret
        exact ⟨R.out, rfl⟩
    · obtain ⟨b, o, rfl, -⟩ := h 0 (by omega)
      obtain ⟨b', rfl, -⟩ := h' 0 (by omega)
      have H := Lib.hid h
      have H' := Lib.hid h'
      clear h h'
      go_enter Tryz.func234, Tryz.ntmps234
      go_wp2_with fail
      go_loopw [14] (fun i wr => ∃ k : Nat, k ≤ fl ∧ i = .int .i64 k ∧ HeldTo k (fun i => decide (fn i = ns i)) ∧ w = wr) (fun i _ => fl - (intOf i).toNat)
      case atStart => exact ⟨0, Nat.zero_le _, rfl, HeldTo.zero, rfl⟩
      case round =>
        obtain ⟨k, hk, rfl, hheld, rfl⟩ := hrel
        have HH := Lib.hid hheld
        clear hheld
        by_cases hlt : k < fl
        · obtain ⟨b1, o1, he, c0⟩ := H.out k hlt
          simp only [Option.some.injEq, Addr.mk.injEq, and_true] at he
          obtain ⟨rfl, rfl⟩ := he
          obtain ⟨b1, he, d0⟩ := H'.out k hlt
          simp only [Option.some.injEq, Addr.mk.injEq, and_true] at he
          subst he
          have R1 := Lib.hid (show decide (fn k = ns k) = false → Ending.returned (.bool false) = .returned (.bool (justB fl fn fl ns)) from fun h1 => by rw [justB, allB_false hlt h1, Bool.and_false])
          have R2 := Lib.hid (show decide (fn k = ns k) = true → HeldTo (k + 1) (fun i => decide (fn i = ns i)) from fun h1 => HH.out.succ h1)
          generalize fn k = x at c0 R1 R2
          generalize ns k = y at d0 R1 R2
          by_cases hnm : x = y
          · have R := Lib.hid (R2.out (by simp [hnm]))
            subst hnm
            clear R1 R2
            go_wp2_with fail
            go_roundw
            case rel => exact ⟨k + 1, by omega, by go_num, R.out, trivial⟩
            case measure => simp [intOf]; omega
          · have R := Lib.hid (R1.out (by simp [hnm]))
            have q := bytes_ne hnm
            clear hnm R1 R2
            go_wp2_with fail
            go_ret
            exact ⟨R.out, rfl⟩
        · obtain rfl : k = fl := by omega
          have R := Lib.hid (show Ending.returned (.bool true) = .returned (.bool (justB k fn k ns)) by rw [justB, HH.out.all]; simp)
          go_wp2_with fail
          go_ret
          exact ⟨R.out, rfl⟩
  · have R := Lib.hid (show Ending.returned (.bool false) = .returned (.bool (justB fl fn m ns)) by simp [justB, hne])
    have q : ((fl : Int) == (m : Int)) = false := by simp; omega
    have q2 : ((fl : Int) != (m : Int)) = true := by rw [bne_iff_ne]; omega
    clear h h' hne
    go_enter Tryz.func234, Tryz.ntmps234
    go_wp2_with fail
    go_ret
    exact ⟨R.out, rfl⟩

set_option maxHeartbeats 400000 in
theorem inLim_any (w : World) (b o : Nat) (k n : Int) (s : ByteArray) (la : Option Addr) (ll lc : Nat) (L : Nat → V) (fa : Option Addr) (fl fc : Nat) (fn : Nat → ByteArray) (F : Nat → V) (e : Int) (key : ByteArray) (hk : Bool)
    (h : At w b o (V.mk k n s la ll lc L fa fl fc fn F e key hk).cells) (hs : s.size ≤ maxLen) (hkey : key.size ≤ maxLen) :
    Calls Tryz.prog 205 #[.pointer (some ⟨b, o, none⟩)] w fun x w' => x = .returned (.bool (inLimB s key)) ∧ w = w' := by
  obtain ⟨c0, c1, c2, c3, c4, c5, c6, c7⟩ := at8 h
  unfold maxLen at hs hkey
  clear h c0 c1 c3 c4 c5 c7
  by_cases h1 : s.size ≤ 4096
  · have R := Lib.hid (show decide ((key.size : Int) ≤ 4096) = inLimB s key by simp [inLimB, h1]; omega)
    have h1' : (s.size : Int) ≤ 4096 := by omega
    go_enter Tryz.func205, Tryz.ntmps205
    go_wp2_with fail
    go_ret
    exact ⟨ret_b R.out, rfl⟩
  · have R := Lib.hid (show Ending.returned (.bool false) = .returned (.bool (inLimB s key)) by simp [inLimB, h1])
    have h1' : ¬ (s.size : Int) ≤ 4096 := by omega
    go_enter Tryz.func205, Tryz.ntmps205
    go_wp2_with fail
    go_ret
    exact ⟨R.out, rfl⟩

set_option maxHeartbeats 400000 in
theorem rising_any (fa : Option Addr) (fl fc : Nat) (fn : Nat → ByteArray) (w : World) (hlc : fl ≤ fc ∧ fc ≤ maxLen)
    (h : ∀ i, i < fl → (∃ b o, fa = some ⟨b, o, none⟩ ∧ w.cell? ⟨b, o + i * 9, none⟩ = some (.string (fn i))) ∧ (fn i).size ≤ maxLen) :
    Calls Tryz.prog 206 #[.slice fa fl fc] w fun x w' => x = .returned (.bool (risingB fl fn)) ∧ w = w' := by
  unfold maxLen at hlc
  by_cases hz : fl = 0
  · subst hz
    have R := Lib.hid (show Ending.returned (.bool true) = .returned (.bool (risingB 0 fn)) by simp [risingB, allB])
    clear h
    go_enter Tryz.func206, Tryz.ntmps206
    go_wp2_with fail
    go_loopw [3, 8] (fun l i wr => i = .int .i64 0 ∧ l = .string ⟨#[]⟩ ∧ w = wr) (fun _ _ _ => 0)
    case atStart => exact ⟨rfl, rfl, rfl⟩
    case round =>
      obtain ⟨rfl, rfl, rfl⟩ := hrel
      go_wp2_with fail
      go_ret
      exact ⟨R.out, rfl⟩
  · obtain ⟨⟨b, o, rfl, -⟩, -⟩ := h 0 (by omega)
    have H := Lib.hid h
    clear h
    go_enter Tryz.func206, Tryz.ntmps206
    go_wp2_with fail
    go_loopw [3, 8] (fun l i wr => ∃ k : Nat, k ≤ fl ∧ i = .int .i64 k ∧ l = .string (lastB fn k) ∧ HeldTo k (fun i => !(bLe (fn i) (lastB fn i)) && decide ((fn i).size ≤ 4096)) ∧ w = wr) (fun _ i _ => fl - (intOf i).toNat)
    case atStart => exact ⟨0, Nat.zero_le _, rfl, rfl, HeldTo.zero, rfl⟩
    case round =>
      obtain ⟨k, hk, rfl, rfl, hheld, rfl⟩ := hrel
      have HH := Lib.hid hheld
      clear hheld
      by_cases hlt : k < fl
      · obtain ⟨⟨b1, o1, he, c0⟩, hsz⟩ := H.out k hlt
        simp only [Option.some.injEq, Addr.mk.injEq, and_true] at he
        obtain ⟨rfl, rfl⟩ := he
        unfold maxLen at hsz
        have R1 := Lib.hid (show (!(bLe (fn k) (lastB fn k)) && decide ((fn k).size ≤ 4096)) = false → Ending.returned (.bool false) = .returned (.bool (risingB fl fn)) from fun h1 => by rw [risingB, allB_false hlt h1])
        have R2 := Lib.hid (show (!(bLe (fn k) (lastB fn k)) && decide ((fn k).size ≤ 4096)) = true → HeldTo (k + 1) (fun i => !(bLe (fn i) (lastB fn i)) && decide ((fn i).size ≤ 4096)) from fun h1 => HH.out.succ h1)
        have R3 := Lib.hid (show lastB fn (k + 1) = fn k from rfl)
        generalize fn k = x at c0 R1 R2 R3 hsz
        generalize lastB fn k = y at R1 R2
        cases q1 : Op.bytesLess x.toList y.toList
        · cases q2 : x.toList == y.toList
          · by_cases h4 : x.size ≤ 4096
            · have R := Lib.hid (R2.out (by simp [bLe, q1, q2, h4]))
              have h4' : ¬ 4096 < (x.size : Int) := by omega
              clear R1 R2
              go_wp2_with fail
              go_roundw
              case rel => exact ⟨k + 1, by omega, by go_num, by rw [R3.out], R.out, trivial⟩
              case measure => simp [intOf]; omega
            · have R := Lib.hid (R1.out (by simp [h4]))
              have h4' : 4096 < (x.size : Int) := by omega
              clear R1 R2
              go_wp2_with fail
              go_ret
              exact ⟨R.out, rfl⟩
          · have R := Lib.hid (R1.out (by simp [bLe, q2]))
            clear R1 R2
            go_wp2_with fail
            go_ret
            exact ⟨R.out, rfl⟩
        · have R := Lib.hid (R1.out (by simp [bLe, q1]))
          clear R1 R2
          go_wp2_with fail
          go_ret
          exact ⟨R.out, rfl⟩
      · obtain rfl : k = fl := by omega
        have R := Lib.hid (show Ending.returned (.bool true) = .returned (.bool (risingB k fn)) by rw [risingB, HH.out.all])
        go_wp2_with fail
        go_ret
        exact ⟨R.out, rfl⟩

theorem empty_is (s : ByteArray) : s.toList.isEmpty = emptyB s := by
  rw [ByteArray.toList_eq, emptyB, Bool.eq_iff_iff]
  simp only [List.isEmpty_iff, decide_eq_true_eq]
  constructor
  · intro h
    exact WideShapes.bytes_inj (by rw [h]; rfl)
  · rintro rfl
    rfl

/-- The fields' names, in memory. -/
def NamesAt (w : World) (fa : Option Addr) (fl fc : Nat) (fn : Nat → ByteArray) : Prop := (fl ≤ fc ∧ fc ≤ maxLen) ∧ ∀ i, i < fl → (∃ b o, fa = some ⟨b, o, none⟩ ∧ w.cell? ⟨b, o + i * 9, none⟩ = some (.string (fn i))) ∧ (fn i).size ≤ maxLen

theorem NamesAt.below {w w' : World} {fa : Option Addr} {fl fc : Nat} {fn : Nat → ByteArray} (h : NamesAt w fa fl fc fn) (hb : Below w.heap.size w w') : NamesAt w' fa fl fc fn :=
  ⟨h.1, fun i hi => ⟨let ⟨b, o, e1, c0⟩ := (h.2 i hi).1; ⟨b, o, e1, by rw [(bcell hb).1 _ _ (World.block_lt_of_cell? _ _ c0), c0]⟩, (h.2 i hi).2⟩⟩

theorem just_of (fa : Option Addr) (fl fc : Nat) (fn : Nat → ByteArray) (w w' : World) (h : NamesAt w fa fl fc fn) (hb : Below w.heap.size w w') (na : Option Addr) (m mc : Nat) (ns : Nat → ByteArray) (hm : m ≤ 1000)
    (h' : ∀ i, i < m → ∃ b, na = some ⟨b, 0, none⟩ ∧ w'.cell? ⟨b, i, none⟩ = some (.string (ns i))) :
    Calls Tryz.prog 234 #[.slice fa fl fc, .slice na m mc] w' fun x w'' => x = .returned (.bool (justB fl fn m ns)) ∧ w' = w'' :=
  just_any fa fl fc fn na m mc ns w' h.1 hm (fun i hi => ((h.below hb).2 i hi).1) h'

set_option maxHeartbeats 1000000 in
theorem isElem_any (w : World) (b o : Nat) (k n : Int) (s : ByteArray) (la : Option Addr) (ll lc : Nat) (L : Nat → V) (fa : Option Addr) (fl fc : Nat) (fn : Nat → ByteArray) (F : Nat → V) (e : Int) (key : ByteArray) (hk : Bool)
    (h : At w b o (V.mk k n s la ll lc L fa fl fc fn F e key hk).cells) (hn : NamesAt w fa fl fc fn) :
    Calls Tryz.prog 221 #[.pointer (some ⟨b, o, none⟩)] w fun x w' => x = .returned (.bool (isElemB s fl fn e)) ∧ Below w.heap.size w w' := by
  obtain ⟨c0, c1, c2, c3, c4, c5, c6, c7⟩ := at8 h
  have J := Lib.hid (fun W => just_of fa fl fc fn w W)
  have HN := Lib.hid hn
  clear h c0 c1 c3 c6 c7 hn
  by_cases h123 : e = 1 ∨ e = 2 ∨ e = 3
  · have R := Lib.hid (show (!s.toList.isEmpty) = isElemB s fl fn e by simp [isElemB, h123, empty_is])
    clear J HN
    rcases h123 with rfl | rfl | rfl
    all_goals
      go_enter Tryz.func221, Tryz.ntmps221
      go_wp2_with fail
      go_ret
      exact ⟨ret_b R.out, Below.refl _ _⟩
  by_cases e4 : e = 4
  · subst e4
    cases hs : s.toList.isEmpty
    · have R := Lib.hid (show false = isElemB s fl fn 4 by simp [isElemB, ← empty_is, hs])
      go_enter Tryz.func221, Tryz.ntmps221
      go_wp2_with fail
      go_ret
      exact ⟨ret_b R.out, Below.refl _ _⟩
    · have R := Lib.hid (show ∀ r, r = justB fl fn 0 nsNone → r = isElemB s fl fn 4 by rintro r rfl; simp [isElemB, ← empty_is, hs])
      go_enter Tryz.func221, Tryz.ntmps221
      go_wp2_with fail
      refine (J.out _ HN.out (Below.refl _ _) none 0 0 nsNone (by omega) (fun i hi => absurd hi (Nat.not_lt_zero _))).mono ?_
      rintro x w1 ⟨rfl, rfl⟩
      have HB := Lib.hid (Below.refl w.heap.size w)
      go_wp2_with fail
      go_ret
      exact ⟨ret_b (R.out _ rfl), HB.out⟩
  by_cases e5 : e = 5
  · subst e5
    cases hs : s.toList.isEmpty
    · have R := Lib.hid (show ∀ r, r = justB fl fn 0 nsNone → r = isElemB s fl fn 5 by rintro r rfl; simp [isElemB, ← empty_is, hs])
      go_enter Tryz.func221, Tryz.ntmps221
      go_wp2_with fail
      refine (J.out _ HN.out (Below.refl _ _) none 0 0 nsNone (by omega) (fun i hi => absurd hi (Nat.not_lt_zero _))).mono ?_
      rintro x w1 ⟨rfl, rfl⟩
      have HB := Lib.hid (Below.refl w.heap.size w)
      go_wp2_with fail
      go_ret
      exact ⟨ret_b (R.out _ rfl), HB.out⟩
    · have R := Lib.hid (show false = isElemB s fl fn 5 by simp [isElemB, ← empty_is, hs])
      go_enter Tryz.func221, Tryz.ntmps221
      go_wp2_with fail
      go_ret
      exact ⟨ret_b R.out, Below.refl _ _⟩
  by_cases e6 : e = 6
  · subst e6
    cases hs : s.toList.isEmpty
    · have R := Lib.hid (show ∀ r, r = justB fl fn 1 nsValue → r = isElemB s fl fn 6 by rintro r rfl; simp [isElemB, ← empty_is, hs])
      go_enter Tryz.func221, Tryz.ntmps221
      go_wp2_with fail
      refine (J.out _ HN.out (below_alloc _ _) _ 1 1 nsValue (by omega) (fun i hi => by
        match i, hi with
        | 0, _ => exact ⟨_, rfl, by simp; rfl⟩)).mono ?_
      rintro x w1 ⟨rfl, rfl⟩
      have HB := Lib.hid (below_alloc w)
      go_wp2_with fail
      go_ret
      exact ⟨ret_b (R.out _ rfl), HB.out _⟩
    · have R := Lib.hid (show false = isElemB s fl fn 6 by simp [isElemB, ← empty_is, hs])
      go_enter Tryz.func221, Tryz.ntmps221
      go_wp2_with fail
      go_ret
      exact ⟨ret_b R.out, Below.refl _ _⟩
  by_cases e7 : e = 7
  · subst e7
    cases hs : s.toList.isEmpty
    · have R := Lib.hid (show false = isElemB s fl fn 7 by simp [isElemB, ← empty_is, hs])
      go_enter Tryz.func221, Tryz.ntmps221
      go_wp2_with fail
      go_ret
      exact ⟨ret_b R.out, Below.refl _ _⟩
    · have R := Lib.hid (show ∀ r, r = justB fl fn 2 nsGuard → r = isElemB s fl fn 7 by rintro r rfl; simp [isElemB, ← empty_is, hs])
      go_enter Tryz.func221, Tryz.ntmps221
      go_wp2_with fail
      refine (J.out _ HN.out (below_alloc _ _) _ 2 2 nsGuard (by omega) (fun i hi => by
        match i, hi with
        | 0, _ => exact ⟨_, rfl, by simp; rfl⟩
        | 1, _ => exact ⟨_, rfl, by simp; rfl⟩)).mono ?_
      rintro x w1 ⟨rfl, rfl⟩
      have HB := Lib.hid (below_alloc w)
      go_wp2_with fail
      go_ret
      exact ⟨ret_b (R.out _ rfl), HB.out _⟩
  by_cases e8 : e = 8
  · subst e8
    cases hs : s.toList.isEmpty
    · have R := Lib.hid (show false = isElemB s fl fn 8 by simp [isElemB, ← empty_is, hs])
      go_enter Tryz.func221, Tryz.ntmps221
      go_wp2_with fail
      go_ret
      exact ⟨ret_b R.out, Below.refl _ _⟩
    · have R := Lib.hid (show ∀ r, r = justB fl fn 1 nsElse → r = isElemB s fl fn 8 by rintro r rfl; simp [isElemB, ← empty_is, hs])
      go_enter Tryz.func221, Tryz.ntmps221
      go_wp2_with fail
      refine (J.out _ HN.out (below_alloc _ _) _ 1 1 nsElse (by omega) (fun i hi => by
        match i, hi with
        | 0, _ => exact ⟨_, rfl, by simp; rfl⟩)).mono ?_
      rintro x w1 ⟨rfl, rfl⟩
      have HB := Lib.hid (below_alloc w)
      go_wp2_with fail
      go_ret
      exact ⟨ret_b (R.out _ rfl), HB.out _⟩
  have R := Lib.hid (show Ending.returned (.bool false) = .returned (.bool (isElemB s fl fn e)) by simp [isElemB, h123, e4, e5, e6, e7, e8])
  have e1 : ¬ e = 1 := fun h => h123 (.inl h)
  have e2 : ¬ e = 2 := fun h => h123 (.inr (.inl h))
  have e3 : ¬ e = 3 := fun h => h123 (.inr (.inr h))
  clear h123 J HN
  go_enter Tryz.func221, Tryz.ntmps221
  go_wp2_with fail
  go_ret
  exact ⟨R.out, Below.refl _ _⟩

theorem lit_empty (s : ByteArray) : (s.toList == ByteArray.toList ⟨#[]⟩) = emptyB s := by
  rw [← empty_is, ByteArray.toList_eq, ByteArray.toList_eq]
  cases s.data.toList <;> rfl

theorem alloc_keeps {w : World} {b o : Nat} {v : Value} (h : w.cell? ⟨b, o, none⟩ = some v) (O : Obj) : (w.alloc O).cell? ⟨b, o, none⟩ = some v := by
  rw [(bcell (below_alloc w O)).1 _ _ (World.block_lt_of_cell? _ _ h), h]
end Go.Proofs.YtajmdhcknmmbbaaGreatDoor
