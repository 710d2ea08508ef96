/-
  Walks: value.inRow answers 'inRowB'; old memory is as it was.
  Conditions: the value lies in memory; the table of the kinds' rows holds what the program's text lays in it.
-/
import Derived.Test.YtajmdhcknmmbbaaGreatDoorCheckW
namespace Go.Proofs.YtajmdhcknmmbbaaGreatDoor
open Go.RowKit

set_option maxHeartbeats 2000000 in
theorem inRow_4 (w : World) (b o : Nat) (n : Int) (s : ByteArray) (la : Option Addr) (ll lc : Nat) (L : Nat → V) (fa : Option Addr) (fl fc : Nat) (fn : Nat → ByteArray) (F : Nat → V) (e : Int) (key : ByteArray) (hk : Bool)
    (h : At w b o (V.mk 4 n s la ll lc L fa fl fc fn F e key hk).cells) (hr : RowsAt w) (_hl : ll ≤ maxLen) (hn : NamesAt w fa fl fc fn) :
    Calls Tryz.prog 204 #[.pointer (some ⟨b, o, none⟩)] w fun x w' => x = .returned (.bool (inRowB 4 n s ll fl fn e key hk)) ∧ Below w.heap.size w w' := by
  have hf : fl ≤ maxLen := Nat.le_trans hn.1.1 hn.1.2
  obtain ⟨c0, c1, c2, c3, c4, c5, c6, c7⟩ := at8 h
  have r0 : w.cell? ⟨1, 20, none⟩ = some (.bool false) := hr 20 (by omega)
  have r1 : w.cell? ⟨1, 21, none⟩ = some (.bool false) := hr 21 (by omega)
  have r2 : w.cell? ⟨1, 22, none⟩ = some (.bool true) := hr 22 (by omega)
  have r3 : w.cell? ⟨1, 23, none⟩ = some (.bool false) := hr 23 (by omega)
  have r4 : w.cell? ⟨1, 24, none⟩ = some (.bool false) := hr 24 (by omega)
  have a0 := alloc_keeps c0
  have a1 := alloc_keeps c1
  have a2 := alloc_keeps c2
  have a3 := alloc_keeps c3
  have a4 := alloc_keeps c4
  have a5 := alloc_keeps c5
  have a6 := alloc_keeps c6
  have a7 := alloc_keeps c7
  unfold maxLen at _hl hf
  clear h hr hn
  by_cases h0 : n = 0
  · subst h0
    cases hs : emptyB s
    · have q1 : s.toList.isEmpty = false := by rw [empty_is, hs]
      have q1' : (s.toList == ByteArray.toList ⟨#[]⟩) = false := by rw [lit_empty, hs]
      have R := Lib.hid (show Ending.returned (.bool false) = .returned (.bool (inRowB 4 0 s ll fl fn e key hk)) by simp [inRowB, hs])
      go_enter Tryz.func204, Tryz.ntmps204
      go_wp2_with fail
      go_ret
      exact ⟨R.out, below_alloc _ _⟩
    · have q1 : s.toList.isEmpty = true := by rw [empty_is, hs]
      have q1' : (s.toList == ByteArray.toList ⟨#[]⟩) = true := by rw [lit_empty, hs]
      by_cases hfl : fl = 0
      · subst hfl
        by_cases h5 : e = 0
        · subst h5
          cases hk
          · cases h6 : emptyB key
            · have q6 : key.toList.isEmpty = false := by rw [empty_is, h6]
              have q6' : (key.toList == ByteArray.toList ⟨#[]⟩) = false := by rw [lit_empty, h6]
              have R := Lib.hid (show Ending.returned (.bool false) = .returned (.bool (inRowB 4 0 s ll 0 fn 0 key false)) by simp [inRowB, hs, h6])
              go_enter Tryz.func204, Tryz.ntmps204
              go_wp2_with fail
              go_ret
              exact ⟨R.out, below_alloc _ _⟩
            · have q6 : key.toList.isEmpty = true := by rw [empty_is, h6]
              have q6' : (key.toList == ByteArray.toList ⟨#[]⟩) = true := by rw [lit_empty, h6]
              have R := Lib.hid (show Ending.returned (.bool true) = .returned (.bool (inRowB 4 0 s ll 0 fn 0 key false)) by simp [inRowB, hs, h6])
              go_enter Tryz.func204, Tryz.ntmps204
              go_wp2_with fail
              go_ret
              exact ⟨R.out, below_alloc _ _⟩
          · have R := Lib.hid (show Ending.returned (.bool false) = .returned (.bool (inRowB 4 0 s ll 0 fn 0 key true)) by simp [inRowB, hs])
            go_enter Tryz.func204, Tryz.ntmps204
            go_wp2_with fail
            go_ret
            exact ⟨R.out, below_alloc _ _⟩
        · have q5 : (e == 0) = false := by simp [h5]
          have R := Lib.hid (show Ending.returned (.bool false) = .returned (.bool (inRowB 4 0 s ll 0 fn e key hk)) by simp [inRowB, hs, h5])
          go_enter Tryz.func204, Tryz.ntmps204
          go_wp2_with fail
          go_ret
          exact ⟨R.out, below_alloc _ _⟩
      · have qfl : 0 < (fl : Int) := by omega
        have R := Lib.hid (show Ending.returned (.bool false) = .returned (.bool (inRowB 4 0 s ll fl fn e key hk)) by simp [inRowB, hs, hfl])
        go_enter Tryz.func204, Tryz.ntmps204
        go_wp2_with fail
        go_ret
        exact ⟨R.out, below_alloc _ _⟩
  · have q0 : (n == 0) = false := by simp [h0]
    have R := Lib.hid (show Ending.returned (.bool false) = .returned (.bool (inRowB 4 n s ll fl fn e key hk)) by simp [inRowB, h0])
    go_enter Tryz.func204, Tryz.ntmps204
    go_wp2_with fail
    go_ret
    exact ⟨R.out, below_alloc _ _⟩

set_option maxHeartbeats 2000000 in
theorem inRow_5 (w : World) (b o : Nat) (n : Int) (s : ByteArray) (la : Option Addr) (ll lc : Nat) (L : Nat → V) (fa : Option Addr) (fl fc : Nat) (fn : Nat → ByteArray) (F : Nat → V) (e : Int) (key : ByteArray) (hk : Bool)
    (h : At w b o (V.mk 5 n s la ll lc L fa fl fc fn F e key hk).cells) (hr : RowsAt w) (hl : ll ≤ maxLen) (hn : NamesAt w fa fl fc fn) :
    Calls Tryz.prog 204 #[.pointer (some ⟨b, o, none⟩)] w fun x w' => x = .returned (.bool (inRowB 5 n s ll fl fn e key hk)) ∧ Below w.heap.size w w' := by
  have hf : fl ≤ maxLen := Nat.le_trans hn.1.1 hn.1.2
  obtain ⟨c0, c1, c2, c3, c4, c5, c6, c7⟩ := at8 h
  have r0 : w.cell? ⟨1, 25, none⟩ = some (.bool false) := hr 25 (by omega)
  have r1 : w.cell? ⟨1, 26, none⟩ = some (.bool false) := hr 26 (by omega)
  have r2 : w.cell? ⟨1, 27, none⟩ = some (.bool false) := hr 27 (by omega)
  have r3 : w.cell? ⟨1, 28, none⟩ = some (.bool true) := hr 28 (by omega)
  have r4 : w.cell? ⟨1, 29, none⟩ = some (.bool false) := hr 29 (by omega)
  have a0 := alloc_keeps c0
  have a1 := alloc_keeps c1
  have a2 := alloc_keeps c2
  have a3 := alloc_keeps c3
  have a4 := alloc_keeps c4
  have a5 := alloc_keeps c5
  have a6 := alloc_keeps c6
  have a7 := alloc_keeps c7
  unfold maxLen at hl hf
  clear h hr hn
  by_cases h0 : n = 0
  · subst h0
    cases hs : emptyB s
    · have q1 : s.toList.isEmpty = false := by rw [empty_is, hs]
      have q1' : (s.toList == ByteArray.toList ⟨#[]⟩) = false := by rw [lit_empty, hs]
      have R := Lib.hid (show Ending.returned (.bool false) = .returned (.bool (inRowB 5 0 s ll fl fn e key hk)) by simp [inRowB, hs])
      go_enter Tryz.func204, Tryz.ntmps204
      go_wp2_with fail
      go_ret
      exact ⟨R.out, below_alloc _ _⟩
    · have q1 : s.toList.isEmpty = true := by rw [empty_is, hs]
      have q1' : (s.toList == ByteArray.toList ⟨#[]⟩) = true := by rw [lit_empty, hs]
      by_cases hll : ll = 0
      · subst hll
        by_cases h5 : e = 0
        · subst h5
          cases hk
          · cases h6 : emptyB key
            · have q6 : key.toList.isEmpty = false := by rw [empty_is, h6]
              have q6' : (key.toList == ByteArray.toList ⟨#[]⟩) = false := by rw [lit_empty, h6]
              have R := Lib.hid (show Ending.returned (.bool false) = .returned (.bool (inRowB 5 0 s 0 fl fn 0 key false)) by simp [inRowB, hs, h6])
              go_enter Tryz.func204, Tryz.ntmps204
              go_wp2_with fail
              go_ret
              exact ⟨R.out, below_alloc _ _⟩
            · have q6 : key.toList.isEmpty = true := by rw [empty_is, h6]
              have q6' : (key.toList == ByteArray.toList ⟨#[]⟩) = true := by rw [lit_empty, h6]
              have R := Lib.hid (show Ending.returned (.bool true) = .returned (.bool (inRowB 5 0 s 0 fl fn 0 key false)) by simp [inRowB, hs, h6])
              go_enter Tryz.func204, Tryz.ntmps204
              go_wp2_with fail
              go_ret
              exact ⟨R.out, below_alloc _ _⟩
          · have R := Lib.hid (show Ending.returned (.bool false) = .returned (.bool (inRowB 5 0 s 0 fl fn 0 key true)) by simp [inRowB, hs])
            go_enter Tryz.func204, Tryz.ntmps204
            go_wp2_with fail
            go_ret
            exact ⟨R.out, below_alloc _ _⟩
        · have q5 : (e == 0) = false := by simp [h5]
          have R := Lib.hid (show Ending.returned (.bool false) = .returned (.bool (inRowB 5 0 s 0 fl fn e key hk)) by simp [inRowB, hs, h5])
          go_enter Tryz.func204, Tryz.ntmps204
          go_wp2_with fail
          go_ret
          exact ⟨R.out, below_alloc _ _⟩
      · have qll : 0 < (ll : Int) := by omega
        have R := Lib.hid (show Ending.returned (.bool false) = .returned (.bool (inRowB 5 0 s ll fl fn e key hk)) by simp [inRowB, hs, hll])
        go_enter Tryz.func204, Tryz.ntmps204
        go_wp2_with fail
        go_ret
        exact ⟨R.out, below_alloc _ _⟩
  · have q0 : (n == 0) = false := by simp [h0]
    have R := Lib.hid (show Ending.returned (.bool false) = .returned (.bool (inRowB 5 n s ll fl fn e key hk)) by simp [inRowB, h0])
    go_enter Tryz.func204, Tryz.ntmps204
    go_wp2_with fail
    go_ret
    exact ⟨R.out, below_alloc _ _⟩

set_option maxHeartbeats 2000000 in
theorem inRow_6 (w : World) (b o : Nat) (n : Int) (s : ByteArray) (la : Option Addr) (ll lc : Nat) (L : Nat → V) (fa : Option Addr) (fl fc : Nat) (fn : Nat → ByteArray) (F : Nat → V) (e : Int) (key : ByteArray) (hk : Bool)
    (h : At w b o (V.mk 6 n s la ll lc L fa fl fc fn F e key hk).cells) (hr : RowsAt w) (_hl : ll ≤ maxLen) (hn : NamesAt w fa fl fc fn) :
    Calls Tryz.prog 204 #[.pointer (some ⟨b, o, none⟩)] w fun x w' => x = .returned (.bool (inRowB 6 n s ll fl fn e key hk)) ∧ Below w.heap.size w w' := by
  have hf : fl ≤ maxLen := Nat.le_trans hn.1.1 hn.1.2
  have HE := Lib.hid (fun W (hw : Below w.heap.size w W) => isElem_any W b o 6 n s la ll lc L fa fl fc fn F e key hk (h.below hw) (hn.below hw))
  obtain ⟨c0, c1, c2, c3, c4, c5, c6, c7⟩ := at8 h
  have r0 : w.cell? ⟨1, 30, none⟩ = some (.bool false) := hr 30 (by omega)
  have r1 : w.cell? ⟨1, 31, none⟩ = some (.bool true) := hr 31 (by omega)
  have r2 : w.cell? ⟨1, 32, none⟩ = some (.bool true) := hr 32 (by omega)
  have r3 : w.cell? ⟨1, 33, none⟩ = some (.bool true) := hr 33 (by omega)
  have r4 : w.cell? ⟨1, 34, none⟩ = some (.bool true) := hr 34 (by omega)
  have a0 := alloc_keeps c0
  have a1 := alloc_keeps c1
  have a2 := alloc_keeps c2
  have a3 := alloc_keeps c3
  have a4 := alloc_keeps c4
  have a5 := alloc_keeps c5
  have a6 := alloc_keeps c6
  have a7 := alloc_keeps c7
  unfold maxLen at _hl hf
  clear h hr hn
  by_cases h0 : n = 0
  · subst h0
    cases hk
    · cases h6 : emptyB key
      · have q6 : key.toList.isEmpty = false := by rw [empty_is, h6]
        have q6' : (key.toList == ByteArray.toList ⟨#[]⟩) = false := by rw [lit_empty, h6]
        have R := Lib.hid (show Ending.returned (.bool false) = .returned (.bool (inRowB 6 0 s ll fl fn e key false)) by simp [inRowB, h6])
        go_enter Tryz.func204, Tryz.ntmps204
        go_wp2_with fail
        go_ret
        exact ⟨R.out, below_alloc _ _⟩
      · have q6 : key.toList.isEmpty = true := by rw [empty_is, h6]
        have q6' : (key.toList == ByteArray.toList ⟨#[]⟩) = true := by rw [lit_empty, h6]
        have R := Lib.hid (show isElemB s fl fn e = inRowB 6 0 s ll fl fn e key false by simp [inRowB, h6])
        go_enter Tryz.func204, Tryz.ntmps204
        go_wp2_with fail
        refine (HE.out _ (below_alloc _ _)).mono ?_
        rintro x w1 ⟨rfl, hb⟩
        have HB := Lib.hid ((below_alloc _ _).trans (hb.mono (by simp)))
        clear hb
        go_wp2_with fail
        go_ret
        exact ⟨ret_b R.out, HB.out⟩
    · have R := Lib.hid (show isElemB s fl fn e = inRowB 6 0 s ll fl fn e key true by simp [inRowB])
      go_enter Tryz.func204, Tryz.ntmps204
      go_wp2_with fail
      refine (HE.out _ (below_alloc _ _)).mono ?_
      rintro x w1 ⟨rfl, hb⟩
      have HB := Lib.hid ((below_alloc _ _).trans (hb.mono (by simp)))
      clear hb
      go_wp2_with fail
      go_ret
      exact ⟨ret_b R.out, HB.out⟩
  · have q0 : (n == 0) = false := by simp [h0]
    have R := Lib.hid (show Ending.returned (.bool false) = .returned (.bool (inRowB 6 n s ll fl fn e key hk)) by simp [inRowB, h0])
    go_enter Tryz.func204, Tryz.ntmps204
    go_wp2_with fail
    go_ret
    exact ⟨R.out, below_alloc _ _⟩

set_option maxHeartbeats 2000000 in
theorem inRow_7 (w : World) (b o : Nat) (n : Int) (s : ByteArray) (la : Option Addr) (ll lc : Nat) (L : Nat → V) (fa : Option Addr) (fl fc : Nat) (fn : Nat → ByteArray) (F : Nat → V) (e : Int) (key : ByteArray) (hk : Bool)
    (h : At w b o (V.mk 7 n s la ll lc L fa fl fc fn F e key hk).cells) (hr : RowsAt w) (hl : ll ≤ maxLen) (hn : NamesAt w fa fl fc fn) :
    Calls Tryz.prog 204 #[.pointer (some ⟨b, o, none⟩)] w fun x w' => x = .returned (.bool (inRowB 7 n s ll fl fn e key hk)) ∧ Below w.heap.size w w' := by
  have hf : fl ≤ maxLen := Nat.le_trans hn.1.1 hn.1.2
  obtain ⟨c0, c1, c2, c3, c4, c5, c6, c7⟩ := at8 h
  have r0 : w.cell? ⟨1, 35, none⟩ = some (.bool true) := hr 35 (by omega)
  have r1 : w.cell? ⟨1, 36, none⟩ = some (.bool true) := hr 36 (by omega)
  have r2 : w.cell? ⟨1, 37, none⟩ = some (.bool false) := hr 37 (by omega)
  have r3 : w.cell? ⟨1, 38, none⟩ = some (.bool true) := hr 38 (by omega)
  have r4 : w.cell? ⟨1, 39, none⟩ = some (.bool false) := hr 39 (by omega)
  have a0 := alloc_keeps c0
  have a1 := alloc_keeps c1
  have a2 := alloc_keeps c2
  have a3 := alloc_keeps c3
  have a4 := alloc_keeps c4
  have a5 := alloc_keeps c5
  have a6 := alloc_keeps c6
  have a7 := alloc_keeps c7
  unfold maxLen at hl hf
  clear h hr hn
  by_cases hll : ll = 0
  · subst hll
    by_cases h5 : e = 0
    · subst h5
      cases hk
      · cases h6 : emptyB key
        · have q6 : key.toList.isEmpty = false := by rw [empty_is, h6]
          have q6' : (key.toList == ByteArray.toList ⟨#[]⟩) = false := by rw [lit_empty, h6]
          have R := Lib.hid (show Ending.returned (.bool false) = .returned (.bool (inRowB 7 n s 0 fl fn 0 key false)) by simp [inRowB, h6])
          go_enter Tryz.func204, Tryz.ntmps204
          go_wp2_with fail
          go_ret
          exact ⟨R.out, below_alloc _ _⟩
        · have q6 : key.toList.isEmpty = true := by rw [empty_is, h6]
          have q6' : (key.toList == ByteArray.toList ⟨#[]⟩) = true := by rw [lit_empty, h6]
          have R := Lib.hid (show Ending.returned (.bool true) = .returned (.bool (inRowB 7 n s 0 fl fn 0 key false)) by simp [inRowB, h6])
          go_enter Tryz.func204, Tryz.ntmps204
          go_wp2_with fail
          go_ret
          exact ⟨R.out, below_alloc _ _⟩
      · have R := Lib.hid (show Ending.returned (.bool false) = .returned (.bool (inRowB 7 n s 0 fl fn 0 key true)) by simp [inRowB])
        go_enter Tryz.func204, Tryz.ntmps204
        go_wp2_with fail
        go_ret
        exact ⟨R.out, below_alloc _ _⟩
    · have q5 : (e == 0) = false := by simp [h5]
      have R := Lib.hid (show Ending.returned (.bool false) = .returned (.bool (inRowB 7 n s 0 fl fn e key hk)) by simp [inRowB, h5])
      go_enter Tryz.func204, Tryz.ntmps204
      go_wp2_with fail
      go_ret
      exact ⟨R.out, below_alloc _ _⟩
  · have qll : 0 < (ll : Int) := by omega
    have R := Lib.hid (show Ending.returned (.bool false) = .returned (.bool (inRowB 7 n s ll fl fn e key hk)) by simp [inRowB, hll])
    go_enter Tryz.func204, Tryz.ntmps204
    go_wp2_with fail
    go_ret
    exact ⟨R.out, below_alloc _ _⟩

end Go.Proofs.YtajmdhcknmmbbaaGreatDoor
