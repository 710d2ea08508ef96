/-
  Walks: what the teller's method 'quoted' writes; and 'String' of the builder.
  Conditions: the teller lies in block B.
-/
import Derived.Test.YtajmdhcknmmbbaaGreatDoorTell
namespace Go.Proofs.YtajmdhcknmmbbaaGreatDoor
open Go.RowKit

def escTo (s : List UInt8) (j : Nat) : List UInt8 := (s.take j).flatMap escB

theorem escTo_succ {s : List UInt8} {j : Nat} (h : j < s.length) : escTo s (j + 1) = escTo s j ++ escB s[j] := by
  rw [escTo, escTo, List.take_succ_eq_append_getElem h, List.flatMap_append]
  simp

theorem escTo_len {s : List UInt8} (j : Nat) : (escTo s j).length ≤ (s.flatMap escB).length := by
  have h := congrArg (fun l => (List.flatMap escB l).length) (List.take_append_drop j s)
  simp only [List.flatMap_append, List.length_append] at h
  rw [escTo]
  omega

theorem ne_byte {c : UInt8} {k : Nat} (h : ¬ c = UInt8.ofNat k) : ((c.toNat : Int) == (k : Int)) = false := by
  rw [beq_eq_false_iff_ne]
  intro e
  apply h
  have : c.toNat = k := by omega
  rw [← this, UInt8.ofNat_toNat]

set_option maxRecDepth 100000 in
set_option maxHeartbeats 2000000 in
theorem quoted_any (B : Nat) (l : List UInt8) (s : ByteArray) (w : World) (hs : s.size ≤ maxLen) (h : IsT B l w) (hlen : l.length + (quotedL s.data.toList).length ≤ 140737488355328) :
    Calls Tryz.prog 188 #[.pointer (some ⟨B, 0, none⟩), .string s] w fun e w' => e = .returned (.tuple #[]) ∧ Wrote B l (quotedL s.data.toList) w w' := by
  have hq : (quotedL s.data.toList).length = (s.data.toList.flatMap escB).length + 2 := by simp [quotedL]
  have HB := Lib.hid (fun (l' : List UInt8) (c : UInt8) (W : World) (h : IsT B l' W) (hl : l'.length + 1 ≤ 140737488355328) => writeB_any B l' c W h hl)
  have HN := Lib.hid (fun (l' : List UInt8) (W : World) (h : IsT B l' W) (hl : l'.length + 2 ≤ 140737488355328) => writeS_any B l' ⟨#[92, 110]⟩ W h hl)
  have H0 := Lib.hid (writeB_any B l 34 w h (by omega))
  have HQ := Lib.hid hq
  have HL := Lib.hid hlen
  unfold maxLen at hs
  clear h hq hlen
  go_enter Tryz.func188, Tryz.ntmps188
  go_wp2_with fail
  refine H0.out.mono ?_
  rintro x w1 ⟨rfl, hw⟩
  have HW := Lib.hid hw
  clear hw
  go_wp2_with fail
  go_loopw [12] (fun i wr => ∃ j : Nat, j ≤ s.size ∧ i = .int .i64 j ∧ Wrote B l (34 :: escTo s.data.toList j) w wr) (fun i _ => s.size - (intOf i).toNat)
  case atStart => exact ⟨0, Nat.zero_le _, rfl, HW.out⟩
  case round =>
    obtain ⟨j, hj, rfl, hw⟩ := hrel
    have HR := Lib.hid hw
    clear hw
    by_cases hlt : j < s.size
    · have hjl : j < s.data.toList.length := by simpa using hlt
      have HE : Hid (escTo s.data.toList (j + 1) = escTo s.data.toList j ++ escB s[j]) := escTo_succ hjl
      have bnd : Hid (∀ k, k < (escB s[j]).length → (l ++ 34 :: escTo s.data.toList j).length + k + 1 ≤ 140737488355328) := by
        intro k hk
        have hle := escTo_len (s := s.data.toList) (j + 1)
        have e1 := congrArg List.length HE.out
        have e2 := HQ.out
        have e3 := HL.out
        simp only [List.length_append] at e1
        simp only [List.length_append, List.length_cons]
        omega
      by_cases c34 : s[j] = 34
      · have E : Hid (escB s[j] = [92, 34]) := by simp [Hid, escB, c34]
        have B1 := Lib.hid (bnd.out 0 (by rw [E.out]; simp))
        have B2 := Lib.hid (bnd.out 1 (by rw [E.out]; simp))
        clear bnd
        go_wp2_with fail
        refine (HB.out _ 92 _ HR.out.1 (by have := B1.out; omega)).mono ?_
        rintro x w2 ⟨rfl, hw2⟩
        have HW2 := Lib.hid (HR.out.trans hw2)
        clear hw2
        go_wp2_with fail
        refine (HB.out _ 34 _ HW2.out.1 (by have := B2.out; simp at this ⊢; omega)).mono ?_
        rintro x w3 ⟨rfl, hw3⟩
        have HW3 : Hid (Wrote B l (34 :: escTo s.data.toList (j + 1)) w w3) := by
          have h3 := HW2.out.trans hw3
          have e3 : ((34 :: escTo s.data.toList j) ++ [92]) ++ [34] = 34 :: escTo s.data.toList (j + 1) := by
            rw [HE.out, E.out]
            simp
          rw [e3] at h3
          exact h3
        clear hw3
        go_wp2_with fail
        go_roundw
        case rel => exact ⟨j + 1, by omega, by go_num, HW3.out⟩
        case measure => simp [intOf]; omega
      by_cases c92 : s[j] = 92
      · have n34 : ((s[j].toNat : Int) == 34) = false := ne_byte c34
        clear c34
        have E : Hid (escB s[j] = [92, 92]) := by simp [Hid, escB, c92]
        have B1 := Lib.hid (bnd.out 0 (by rw [E.out]; simp))
        have B2 := Lib.hid (bnd.out 1 (by rw [E.out]; simp))
        clear bnd
        go_wp2_with fail
        refine (HB.out _ 92 _ HR.out.1 (by have := B1.out; omega)).mono ?_
        rintro x w2 ⟨rfl, hw2⟩
        have HW2 := Lib.hid (HR.out.trans hw2)
        clear hw2
        go_wp2_with fail
        refine (HB.out _ 92 _ HW2.out.1 (by have := B2.out; simp at this ⊢; omega)).mono ?_
        rintro x w3 ⟨rfl, hw3⟩
        have HW3 : Hid (Wrote B l (34 :: escTo s.data.toList (j + 1)) w w3) := by
          have h3 := HW2.out.trans hw3
          have e3 : ((34 :: escTo s.data.toList j) ++ [92]) ++ [92] = 34 :: escTo s.data.toList (j + 1) := by
            rw [HE.out, E.out]
            simp
          rw [e3] at h3
          exact h3
        clear hw3
        go_wp2_with fail
        go_roundw
        case rel => exact ⟨j + 1, by omega, by go_num, HW3.out⟩
        case measure => simp [intOf]; omega
      by_cases c10 : s[j] = 10
      · have n34 : ((s[j].toNat : Int) == 34) = false := ne_byte c34
        have n92 : ((s[j].toNat : Int) == 92) = false := ne_byte c92
        clear c34 c92
        have E : Hid (escB s[j] = [92, 110]) := by simp [Hid, escB, c10]
        have B2 := Lib.hid (bnd.out 1 (by rw [E.out]; simp))
        clear bnd
        go_wp2_with fail
        refine (HN.out _ _ HR.out.1 (by have := B2.out; omega)).mono ?_
        rintro x w3 ⟨rfl, hw3⟩
        have HW3 : Hid (Wrote B l (34 :: escTo s.data.toList (j + 1)) w w3) := by
          have h3 := HR.out.trans hw3
          have e3 : (34 :: escTo s.data.toList j) ++ [92, 110] = 34 :: escTo s.data.toList (j + 1) := by
            rw [HE.out, E.out]
            simp
          rw [e3] at h3
          exact h3
        clear hw3
        go_wp2_with fail
        go_roundw
        case rel => exact ⟨j + 1, by omega, by go_num, HW3.out⟩
        case measure => simp [intOf]; omega
      · have n34 : ((s[j].toNat : Int) == 34) = false := ne_byte c34
        have n92 : ((s[j].toNat : Int) == 92) = false := ne_byte c92
        have n10 : ((s[j].toNat : Int) == 10) = false := ne_byte c10
        have E : Hid (escB s[j] = [s[j]]) := by simp [Hid, escB, c34, c92, c10]
        have B2 := Lib.hid (bnd.out 0 (by rw [E.out]; simp))
        clear bnd
        go_wp2_with fail
        refine (HB.out _ s[j] _ HR.out.1 (by have := B2.out; omega)).mono ?_
        rintro x w3 ⟨rfl, hw3⟩
        have HW3 : Hid (Wrote B l (34 :: escTo s.data.toList (j + 1)) w w3) := by
          have h3 := HR.out.trans hw3
          have e3 : (34 :: escTo s.data.toList j) ++ [s[j]] = 34 :: escTo s.data.toList (j + 1) := by
            rw [HE.out, E.out]
            simp
          rw [e3] at h3
          exact h3
        clear hw3
        go_wp2_with fail
        go_roundw
        case rel => exact ⟨j + 1, by omega, by go_num, HW3.out⟩
        case measure => simp [intOf]; omega
    · obtain rfl : s.size = j := by omega
      have HA : Hid (escTo s.data.toList s.size = s.data.toList.flatMap escB) := by
        have e : s.data.toList.length ≤ s.size := by simp
        show (s.data.toList.take s.size).flatMap escB = _
        rw [List.take_of_length_le e]
      have B3 : Hid ((l ++ 34 :: escTo s.data.toList s.size).length + 1 ≤ 140737488355328) := by
        have e2 := HQ.out
        have e3 := HL.out
        rw [HA.out]
        simp only [Hid, List.length_append, List.length_cons]
        omega
      go_wp2_with fail
      refine (HB.out _ 34 _ HR.out.1 B3.out).mono ?_
      rintro x w3 ⟨rfl, hw3⟩
      have HW3 : Hid (Wrote B l (quotedL s.data.toList) w w3) := by
        have h3 := HR.out.trans hw3
        have e3 : (34 :: escTo s.data.toList s.size) ++ [34] = quotedL s.data.toList := by
          rw [HA.out]
          rfl
        rw [e3] at h3
        exact h3
      clear hw3
      go_wp2_with fail
      go_end0
      exact ⟨rfl, HW3.out⟩
end Go.Proofs.YtajmdhcknmmbbaaGreatDoor
