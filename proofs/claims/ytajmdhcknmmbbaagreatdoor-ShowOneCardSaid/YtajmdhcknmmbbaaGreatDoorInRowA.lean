/-
  Walks: value.inRow answers 'inRowB'; old memory is as it was.
  Conditions: the value lies in memory; the table of the kinds' rows holds what the program's text lays in it.
-/
import Derived.Test.YtajmdhcknmmbbaaGreatDoorCheckW
namespace Go.Proofs.YtajmdhcknmmbbaaGreatDoor
open Go.RowKit

set_option maxHeartbeats 2000000 in
theorem inRow_0 (w : World) (b o : Nat) (n : Int) (s : ByteArray) (la : Option Addr) (ll lc : Nat) (L : Nat → V) (fa : Option Addr) (fl fc : Nat) (fn : Nat → ByteArray) (F : Nat → V) (e : Int) (key : ByteArray) (hk : Bool)
    (h : At w b o (V.mk 0 n s la ll lc L fa fl fc fn F e key hk).cells) (hr : RowsAt w) (hl : ll ≤ maxLen) (hn : NamesAt w fa fl fc fn) :
    Calls Tryz.prog 204 #[.pointer (some ⟨b, o, none⟩)] w fun x w' => x = .returned (.bool (inRowB 0 n s ll fl fn e key hk)) ∧ Below w.heap.size w w' := by
  have hf : fl ≤ maxLen := Nat.le_trans hn.1.1 hn.1.2
  obtain ⟨c0, c1, c2, c3, c4, c5, c6, c7⟩ := at8 h
  have r0 : w.cell? ⟨1, 0, none⟩ = some (.bool false) := hr 0 (by omega)
  have r1 : w.cell? ⟨1, 1, none⟩ = some (.bool false) := hr 1 (by omega)
  have r2 : w.cell? ⟨1, 2, none⟩ = some (.bool false) := hr 2 (by omega)
  have r3 : w.cell? ⟨1, 3, none⟩ = some (.bool false) := hr 3 (by omega)
  have r4 : w.cell? ⟨1, 4, none⟩ = some (.bool false) := hr 4 (by omega)
  have a0 := alloc_keeps c0
  have a1 := alloc_keeps c1
  have a2 := alloc_keeps c2
  have a3 := alloc_keeps c3
  have a4 := alloc_keeps c4
  have a5 := alloc_keeps c5
  have a6 := alloc_keeps c6
  have a7 := alloc_keeps c7
  unfold maxLen at hl hf
  clear h hr hn
  by_cases h0 : n = 0
  · subst h0
    cases hs : emptyB s
    · have q1 : s.toList.isEmpty = false := by rw [empty_is, hs]
      have q1' : (s.toList == ByteArray.toList ⟨#[]⟩) = false := by rw [lit_empty, hs]
      have R := Lib.hid (show Ending.returned (.bool false) = .returned (.bool (inRowB 0 0 s ll fl fn e key hk)) by simp [inRowB, hs])
      go_enter Tryz.func204, Tryz.ntmps204
      go_wp2_with fail
      go_ret
      exact ⟨R.out, below_alloc _ _⟩
    · have q1 : s.toList.isEmpty = true := by rw [empty_is, hs]
      have q1' : (s.toList == ByteArray.toList ⟨#[]⟩) = true := by rw [lit_empty, hs]
      by_cases hll : ll = 0
      · subst hll
        by_cases hfl : fl = 0
        · subst hfl
          by_cases h5 : e = 0
          · subst h5
            cases hk
            · cases h6 : emptyB key
              · have q6 : key.toList.isEmpty = false := by rw [empty_is, h6]
                have q6' : (key.toList == ByteArray.toList ⟨#[]⟩) = false := by rw [lit_empty, h6]
                have R := Lib.hid (show Ending.returned (.bool false) = .returned (.bool (inRowB 0 0 s 0 0 fn 0 key false)) by simp [inRowB, hs, h6])
                go_enter Tryz.func204, Tryz.ntmps204
                go_wp2_with fail
                go_ret
                exact ⟨R.out, below_alloc _ _⟩
              · have q6 : key.toList.isEmpty = true := by rw [empty_is, h6]
                have q6' : (key.toList == ByteArray.toList ⟨#[]⟩) = true := by rw [lit_empty, h6]
                have R := Lib.hid (show Ending.returned (.bool true) = .returned (.bool (inRowB 0 0 s 0 0 fn 0 key false)) by simp [inRowB, hs, h6])
                go_enter Tryz.func204, Tryz.ntmps204
                go_wp2_with fail
                go_ret
                exact ⟨R.out, below_alloc _ _⟩
            · have R := Lib.hid (show Ending.returned (.bool false) = .returned (.bool (inRowB 0 0 s 0 0 fn 0 key true)) by simp [inRowB, hs])
              go_enter Tryz.func204, Tryz.ntmps204
              go_wp2_with fail
              go_ret
              exact ⟨R.out, below_alloc _ _⟩
          · have q5 : (e == 0) = false := by simp [h5]
            have R := Lib.hid (show Ending.returned (.bool false) = .returned (.bool (inRowB 0 0 s 0 0 fn e key hk)) by simp [inRowB, hs, h5])
            go_enter Tryz.func204, Tryz.ntmps204
            go_wp2_with fail
            go_ret
            exact ⟨R.out, below_alloc _ _⟩
        · have qfl : 0 < (fl : Int) := by omega
          have R := Lib.hid (show Ending.returned (.bool false) = .returned (.bool (inRowB 0 0 s 0 fl fn e key hk)) by simp [inRowB, hs, hfl])
          go_enter Tryz.func204, Tryz.ntmps204
          go_wp2_with fail
          go_ret
          exact ⟨R.out, below_alloc _ _⟩
      · have qll : 0 < (ll : Int) := by omega
        have R := Lib.hid (show Ending.returned (.bool false) = .returned (.bool (inRowB 0 0 s ll fl fn e key hk)) by simp [inRowB, hs, hll])
        go_enter Tryz.func204, Tryz.ntmps204
        go_wp2_with fail
        go_ret
        exact ⟨R.out, below_alloc _ _⟩
  · have q0 : (n == 0) = false := by simp [h0]
    have R := Lib.hid (show Ending.returned (.bool false) = .returned (.bool (inRowB 0 n s ll fl fn e key hk)) by simp [inRowB, h0])
    go_enter Tryz.func204, Tryz.ntmps204
    go_wp2_with fail
    go_ret
    exact ⟨R.out, below_alloc _ _⟩

set_option maxHeartbeats 2000000 in
theorem inRow_1 (w : World) (b o : Nat) (n : Int) (s : ByteArray) (la : Option Addr) (ll lc : Nat) (L : Nat → V) (fa : Option Addr) (fl fc : Nat) (fn : Nat → ByteArray) (F : Nat → V) (e : Int) (key : ByteArray) (hk : Bool)
    (h : At w b o (V.mk 1 n s la ll lc L fa fl fc fn F e key hk).cells) (hr : RowsAt w) (hl : ll ≤ maxLen) (hn : NamesAt w fa fl fc fn) :
    Calls Tryz.prog 204 #[.pointer (some ⟨b, o, none⟩)] w fun x w' => x = .returned (.bool (inRowB 1 n s ll fl fn e key hk)) ∧ Below w.heap.size w w' := by
  have hf : fl ≤ maxLen := Nat.le_trans hn.1.1 hn.1.2
  obtain ⟨c0, c1, c2, c3, c4, c5, c6, c7⟩ := at8 h
  have r0 : w.cell? ⟨1, 5, none⟩ = some (.bool true) := hr 5 (by omega)
  have r1 : w.cell? ⟨1, 6, none⟩ = some (.bool false) := hr 6 (by omega)
  have r2 : w.cell? ⟨1, 7, none⟩ = some (.bool false) := hr 7 (by omega)
  have r3 : w.cell? ⟨1, 8, none⟩ = some (.bool false) := hr 8 (by omega)
  have r4 : w.cell? ⟨1, 9, none⟩ = some (.bool false) := hr 9 (by omega)
  have a0 := alloc_keeps c0
  have a1 := alloc_keeps c1
  have a2 := alloc_keeps c2
  have a3 := alloc_keeps c3
  have a4 := alloc_keeps c4
  have a5 := alloc_keeps c5
  have a6 := alloc_keeps c6
  have a7 := alloc_keeps c7
  unfold maxLen at hl hf
  clear h hr hn
  cases hs : emptyB s
  · have q1 : s.toList.isEmpty = false := by rw [empty_is, hs]
    have q1' : (s.toList == ByteArray.toList ⟨#[]⟩) = false := by rw [lit_empty, hs]
    have R := Lib.hid (show Ending.returned (.bool false) = .returned (.bool (inRowB 1 n s ll fl fn e key hk)) by simp [inRowB, hs])
    go_enter Tryz.func204, Tryz.ntmps204
    go_wp2_with fail
    go_ret
    exact ⟨R.out, below_alloc _ _⟩
  · have q1 : s.toList.isEmpty = true := by rw [empty_is, hs]
    have q1' : (s.toList == ByteArray.toList ⟨#[]⟩) = true := by rw [lit_empty, hs]
    by_cases hll : ll = 0
    · subst hll
      by_cases hfl : fl = 0
      · subst hfl
        by_cases h5 : e = 0
        · subst h5
          cases hk
          · cases h6 : emptyB key
            · have q6 : key.toList.isEmpty = false := by rw [empty_is, h6]
              have q6' : (key.toList == ByteArray.toList ⟨#[]⟩) = false := by rw [lit_empty, h6]
              have R := Lib.hid (show Ending.returned (.bool false) = .returned (.bool (inRowB 1 n s 0 0 fn 0 key false)) by simp [inRowB, hs, h6])
              go_enter Tryz.func204, Tryz.ntmps204
              go_wp2_with fail
              go_ret
              exact ⟨R.out, below_alloc _ _⟩
            · have q6 : key.toList.isEmpty = true := by rw [empty_is, h6]
              have q6' : (key.toList == ByteArray.toList ⟨#[]⟩) = true := by rw [lit_empty, h6]
              have R := Lib.hid (show Ending.returned (.bool true) = .returned (.bool (inRowB 1 n s 0 0 fn 0 key false)) by simp [inRowB, hs, h6])
              go_enter Tryz.func204, Tryz.ntmps204
              go_wp2_with fail
              go_ret
              exact ⟨R.out, below_alloc _ _⟩
          · have R := Lib.hid (show Ending.returned (.bool false) = .returned (.bool (inRowB 1 n s 0 0 fn 0 key true)) by simp [inRowB, hs])
            go_enter Tryz.func204, Tryz.ntmps204
            go_wp2_with fail
            go_ret
            exact ⟨R.out, below_alloc _ _⟩
        · have q5 : (e == 0) = false := by simp [h5]
          have R := Lib.hid (show Ending.returned (.bool false) = .returned (.bool (inRowB 1 n s 0 0 fn e key hk)) by simp [inRowB, hs, h5])
          go_enter Tryz.func204, Tryz.ntmps204
          go_wp2_with fail
          go_ret
          exact ⟨R.out, below_alloc _ _⟩
      · have qfl : 0 < (fl : Int) := by omega
        have R := Lib.hid (show Ending.returned (.bool false) = .returned (.bool (inRowB 1 n s 0 fl fn e key hk)) by simp [inRowB, hs, hfl])
        go_enter Tryz.func204, Tryz.ntmps204
        go_wp2_with fail
        go_ret
        exact ⟨R.out, below_alloc _ _⟩
    · have qll : 0 < (ll : Int) := by omega
      have R := Lib.hid (show Ending.returned (.bool false) = .returned (.bool (inRowB 1 n s ll fl fn e key hk)) by simp [inRowB, hs, hll])
      go_enter Tryz.func204, Tryz.ntmps204
      go_wp2_with fail
      go_ret
      exact ⟨R.out, below_alloc _ _⟩

set_option maxHeartbeats 2000000 in
theorem inRow_2 (w : World) (b o : Nat) (n : Int) (s : ByteArray) (la : Option Addr) (ll lc : Nat) (L : Nat → V) (fa : Option Addr) (fl fc : Nat) (fn : Nat → ByteArray) (F : Nat → V) (e : Int) (key : ByteArray) (hk : Bool)
    (h : At w b o (V.mk 2 n s la ll lc L fa fl fc fn F e key hk).cells) (hr : RowsAt w) (hl : ll ≤ maxLen) (hn : NamesAt w fa fl fc fn) :
    Calls Tryz.prog 204 #[.pointer (some ⟨b, o, none⟩)] w fun x w' => x = .returned (.bool (inRowB 2 n s ll fl fn e key hk)) ∧ Below w.heap.size w w' := by
  have hf : fl ≤ maxLen := Nat.le_trans hn.1.1 hn.1.2
  obtain ⟨c0, c1, c2, c3, c4, c5, c6, c7⟩ := at8 h
  have r0 : w.cell? ⟨1, 10, none⟩ = some (.bool true) := hr 10 (by omega)
  have r1 : w.cell? ⟨1, 11, none⟩ = some (.bool false) := hr 11 (by omega)
  have r2 : w.cell? ⟨1, 12, none⟩ = some (.bool false) := hr 12 (by omega)
  have r3 : w.cell? ⟨1, 13, none⟩ = some (.bool false) := hr 13 (by omega)
  have r4 : w.cell? ⟨1, 14, none⟩ = some (.bool false) := hr 14 (by omega)
  have a0 := alloc_keeps c0
  have a1 := alloc_keeps c1
  have a2 := alloc_keeps c2
  have a3 := alloc_keeps c3
  have a4 := alloc_keeps c4
  have a5 := alloc_keeps c5
  have a6 := alloc_keeps c6
  have a7 := alloc_keeps c7
  unfold maxLen at hl hf
  clear h hr hn
  cases hs : emptyB s
  · have q1 : s.toList.isEmpty = false := by rw [empty_is, hs]
    have q1' : (s.toList == ByteArray.toList ⟨#[]⟩) = false := by rw [lit_empty, hs]
    have R := Lib.hid (show Ending.returned (.bool false) = .returned (.bool (inRowB 2 n s ll fl fn e key hk)) by simp [inRowB, hs])
    go_enter Tryz.func204, Tryz.ntmps204
    go_wp2_with fail
    go_ret
    exact ⟨R.out, below_alloc _ _⟩
  · have q1 : s.toList.isEmpty = true := by rw [empty_is, hs]
    have q1' : (s.toList == ByteArray.toList ⟨#[]⟩) = true := by rw [lit_empty, hs]
    by_cases hll : ll = 0
    · subst hll
      by_cases hfl : fl = 0
      · subst hfl
        by_cases h5 : e = 0
        · subst h5
          cases hk
          · cases h6 : emptyB key
            · have q6 : key.toList.isEmpty = false := by rw [empty_is, h6]
              have q6' : (key.toList == ByteArray.toList ⟨#[]⟩) = false := by rw [lit_empty, h6]
              have R := Lib.hid (show Ending.returned (.bool false) = .returned (.bool (inRowB 2 n s 0 0 fn 0 key false)) by simp [inRowB, hs, h6])
              go_enter Tryz.func204, Tryz.ntmps204
              go_wp2_with fail
              go_ret
              exact ⟨R.out, below_alloc _ _⟩
            · have q6 : key.toList.isEmpty = true := by rw [empty_is, h6]
              have q6' : (key.toList == ByteArray.toList ⟨#[]⟩) = true := by rw [lit_empty, h6]
              by_cases g0 : n = 0
              · subst g0
                have R := Lib.hid (show Ending.returned (.bool true) = .returned (.bool (inRowB 2 0 s 0 0 fn 0 key false)) by simp [inRowB, hs, h6])
                go_enter Tryz.func204, Tryz.ntmps204
                go_wp2_with fail
                go_ret
                exact ⟨R.out, below_alloc _ _⟩
              · by_cases g1 : n = 1
                · subst g1
                  have R := Lib.hid (show Ending.returned (.bool true) = .returned (.bool (inRowB 2 1 s 0 0 fn 0 key false)) by simp [inRowB, hs, h6])
                  go_enter Tryz.func204, Tryz.ntmps204
                  go_wp2_with fail
                  go_ret
                  exact ⟨R.out, below_alloc _ _⟩
                · have p0 : (n == 0) = false := by simp [g0]
                  have p1 : (n == 1) = false := by simp [g1]
                  have R := Lib.hid (show Ending.returned (.bool false) = .returned (.bool (inRowB 2 n s 0 0 fn 0 key false)) by simp [inRowB, hs, h6, g0, g1])
                  go_enter Tryz.func204, Tryz.ntmps204
                  go_wp2_with fail
                  go_ret
                  exact ⟨R.out, below_alloc _ _⟩
          · have R := Lib.hid (show Ending.returned (.bool false) = .returned (.bool (inRowB 2 n s 0 0 fn 0 key true)) by simp [inRowB, hs])
            go_enter Tryz.func204, Tryz.ntmps204
            go_wp2_with fail
            go_ret
            exact ⟨R.out, below_alloc _ _⟩
        · have q5 : (e == 0) = false := by simp [h5]
          have R := Lib.hid (show Ending.returned (.bool false) = .returned (.bool (inRowB 2 n s 0 0 fn e key hk)) by simp [inRowB, hs, h5])
          go_enter Tryz.func204, Tryz.ntmps204
          go_wp2_with fail
          go_ret
          exact ⟨R.out, below_alloc _ _⟩
      · have qfl : 0 < (fl : Int) := by omega
        have R := Lib.hid (show Ending.returned (.bool false) = .returned (.bool (inRowB 2 n s 0 fl fn e key hk)) by simp [inRowB, hs, hfl])
        go_enter Tryz.func204, Tryz.ntmps204
        go_wp2_with fail
        go_ret
        exact ⟨R.out, below_alloc _ _⟩
    · have qll : 0 < (ll : Int) := by omega
      have R := Lib.hid (show Ending.returned (.bool false) = .returned (.bool (inRowB 2 n s ll fl fn e key hk)) by simp [inRowB, hs, hll])
      go_enter Tryz.func204, Tryz.ntmps204
      go_wp2_with fail
      go_ret
      exact ⟨R.out, below_alloc _ _⟩

set_option maxHeartbeats 2000000 in
theorem inRow_3 (w : World) (b o : Nat) (n : Int) (s : ByteArray) (la : Option Addr) (ll lc : Nat) (L : Nat → V) (fa : Option Addr) (fl fc : Nat) (fn : Nat → ByteArray) (F : Nat → V) (e : Int) (key : ByteArray) (hk : Bool)
    (h : At w b o (V.mk 3 n s la ll lc L fa fl fc fn F e key hk).cells) (hr : RowsAt w) (hl : ll ≤ maxLen) (hn : NamesAt w fa fl fc fn) :
    Calls Tryz.prog 204 #[.pointer (some ⟨b, o, none⟩)] w fun x w' => x = .returned (.bool (inRowB 3 n s ll fl fn e key hk)) ∧ Below w.heap.size w w' := by
  have hf : fl ≤ maxLen := Nat.le_trans hn.1.1 hn.1.2
  obtain ⟨c0, c1, c2, c3, c4, c5, c6, c7⟩ := at8 h
  have r0 : w.cell? ⟨1, 15, none⟩ = some (.bool false) := hr 15 (by omega)
  have r1 : w.cell? ⟨1, 16, none⟩ = some (.bool true) := hr 16 (by omega)
  have r2 : w.cell? ⟨1, 17, none⟩ = some (.bool false) := hr 17 (by omega)
  have r3 : w.cell? ⟨1, 18, none⟩ = some (.bool false) := hr 18 (by omega)
  have r4 : w.cell? ⟨1, 19, none⟩ = some (.bool false) := hr 19 (by omega)
  have a0 := alloc_keeps c0
  have a1 := alloc_keeps c1
  have a2 := alloc_keeps c2
  have a3 := alloc_keeps c3
  have a4 := alloc_keeps c4
  have a5 := alloc_keeps c5
  have a6 := alloc_keeps c6
  have a7 := alloc_keeps c7
  unfold maxLen at hl hf
  clear h hr hn
  by_cases h0 : n = 0
  · subst h0
    by_cases hll : ll = 0
    · subst hll
      by_cases hfl : fl = 0
      · subst hfl
        by_cases h5 : e = 0
        · subst h5
          cases hk
          · cases h6 : emptyB key
            · have q6 : key.toList.isEmpty = false := by rw [empty_is, h6]
              have q6' : (key.toList == ByteArray.toList ⟨#[]⟩) = false := by rw [lit_empty, h6]
              have R := Lib.hid (show Ending.returned (.bool false) = .returned (.bool (inRowB 3 0 s 0 0 fn 0 key false)) by simp [inRowB, h6])
              go_enter Tryz.func204, Tryz.ntmps204
              go_wp2_with fail
              go_ret
              exact ⟨R.out, below_alloc _ _⟩
            · have q6 : key.toList.isEmpty = true := by rw [empty_is, h6]
              have q6' : (key.toList == ByteArray.toList ⟨#[]⟩) = true := by rw [lit_empty, h6]
              have R := Lib.hid (show Ending.returned (.bool true) = .returned (.bool (inRowB 3 0 s 0 0 fn 0 key false)) by simp [inRowB, h6])
              go_enter Tryz.func204, Tryz.ntmps204
              go_wp2_with fail
              go_ret
              exact ⟨R.out, below_alloc _ _⟩
          · have R := Lib.hid (show Ending.returned (.bool false) = .returned (.bool (inRowB 3 0 s 0 0 fn 0 key true)) by simp [inRowB])
            go_enter Tryz.func204, Tryz.ntmps204
            go_wp2_with fail
            go_ret
            exact ⟨R.out, below_alloc _ _⟩
        · have q5 : (e == 0) = false := by simp [h5]
          have R := Lib.hid (show Ending.returned (.bool false) = .returned (.bool (inRowB 3 0 s 0 0 fn e key hk)) by simp [inRowB, h5])
          go_enter Tryz.func204, Tryz.ntmps204
          go_wp2_with fail
          go_ret
          exact ⟨R.out, below_alloc _ _⟩
      · have qfl : 0 < (fl : Int) := by omega
        have R := Lib.hid (show Ending.returned (.bool false) = .returned (.bool (inRowB 3 0 s 0 fl fn e key hk)) by simp [inRowB, hfl])
        go_enter Tryz.func204, Tryz.ntmps204
        go_wp2_with fail
        go_ret
        exact ⟨R.out, below_alloc _ _⟩
    · have qll : 0 < (ll : Int) := by omega
      have R := Lib.hid (show Ending.returned (.bool false) = .returned (.bool (inRowB 3 0 s ll fl fn e key hk)) by simp [inRowB, hll])
      go_enter Tryz.func204, Tryz.ntmps204
      go_wp2_with fail
      go_ret
      exact ⟨R.out, below_alloc _ _⟩
  · have q0 : (n == 0) = false := by simp [h0]
    have R := Lib.hid (show Ending.returned (.bool false) = .returned (.bool (inRowB 3 n s ll fl fn e key hk)) by simp [inRowB, h0])
    go_enter Tryz.func204, Tryz.ntmps204
    go_wp2_with fail
    go_ret
    exact ⟨R.out, below_alloc _ _⟩

end Go.Proofs.YtajmdhcknmmbbaaGreatDoor
