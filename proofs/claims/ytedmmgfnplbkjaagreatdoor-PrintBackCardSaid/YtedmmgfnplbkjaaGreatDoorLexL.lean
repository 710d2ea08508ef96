/-
  Walks: lines, the bytes 10 of any text (a range over a text, valid UTF-8 or not).
  Conditions: the text is no longer than the reach.
-/
import Derived.Test.YtedmmgfnplbkjaaGreatDoorLexE
import Derived.Laws.RangeAny
namespace Go.Proofs.YtedmmgfnplbkjaaGreatDoor
open Go.RowKit
theorem cnt_step (s : ByteArray) (k : Nat) (h : k < s.size) : LX.cnt (s.data.toList.take (k + 1)) = LX.cnt (s.data.toList.take k) + if (s.get! k).toNat = 10 then 1 else 0 := by
  have hl : k < s.data.toList.length := by simpa using h
  rw [List.take_succ_eq_append_getElem hl, LX.cnt_append]
  have e : s.data.toList[k] = s.get! k := by
    rw [Array.getElem_toList]
    show _ = s.data[k]!
    rw [getElem!_pos s.data k (by simpa using h)]
  rw [e, LX.cnt_cons, LX.cnt_nil, Nat.zero_add]
theorem cnt_high (s : ByteArray) (k : Nat) (h : k < s.size) (h1 : 128 ≤ (s.get! k).toNat) : LX.cnt (s.data.toList.take (k + 1)) = LX.cnt (s.data.toList.take k) := by
  rw [cnt_step s k h, if_neg (by omega)]; rfl
theorem hop (s : ByteArray) (pos : Nat) (h : pos < s.size) : pos + (Utf8.decode s pos).2 ≤ s.size ∧ 1 ≤ (Utf8.decode s pos).2 ∧
    LX.cnt (s.data.toList.take (pos + (Utf8.decode s pos).2)) = LX.cnt (s.data.toList.take pos) + if (Utf8.decode s pos).1 = 10 then 1 else 0 := by
  have hg : s.get! pos = s[pos]'h := by
    have := get_at s pos h
    rwa [Nat.add_zero] at this
  by_cases ha : (s[pos]'h).toNat < 128
  · rw [decode_ascii s pos h ha]
    refine ⟨by simp; omega, by simp, ?_⟩
    simp only
    rw [cnt_step s pos h, hg]
  · have hd := decode_high s pos h (by omega)
    have h0 : 128 ≤ (s.get! pos).toNat := by rw [hg]; omega
    have c1 := cnt_high s pos h h0
    rw [if_neg (by omega), Nat.add_zero, ← c1]
    clear hg
    have hn : ¬ (s.get! (pos + 0)).toNat < 128 := by rw [Nat.add_zero]; omega
    simp only [Utf8.decode, hn, if_false]
    have k1 : (decide (pos + 1 < s.size) && (s.get! (pos + 1)).toNat / 64 == 2) = true → pos + 1 < s.size ∧ LX.cnt (s.data.toList.take (pos + 1 + 1)) = LX.cnt (s.data.toList.take (pos + 1)) := by
      intro h
      simp only [Bool.and_eq_true, decide_eq_true_eq, beq_iff_eq] at h
      exact ⟨h.1, cnt_high s _ h.1 (by omega)⟩
    have k2 : (decide (pos + 2 < s.size) && (s.get! (pos + 2)).toNat / 64 == 2) = true → pos + 2 < s.size ∧ LX.cnt (s.data.toList.take (pos + 2 + 1)) = LX.cnt (s.data.toList.take (pos + 2)) := by
      intro h
      simp only [Bool.and_eq_true, decide_eq_true_eq, beq_iff_eq] at h
      exact ⟨h.1, cnt_high s _ h.1 (by omega)⟩
    have k3 : (decide (pos + 3 < s.size) && (s.get! (pos + 3)).toNat / 64 == 2) = true → pos + 3 < s.size ∧ LX.cnt (s.data.toList.take (pos + 3 + 1)) = LX.cnt (s.data.toList.take (pos + 3)) := by
      intro h
      simp only [Bool.and_eq_true, decide_eq_true_eq, beq_iff_eq] at h
      exact ⟨h.1, cnt_high s _ h.1 (by omega)⟩
    generalize (decide (pos + 1 < s.size) && (s.get! (pos + 1)).toNat / 64 == 2) = b1 at k1 ⊢
    generalize (decide (pos + 2 < s.size) && (s.get! (pos + 2)).toNat / 64 == 2) = b2 at k2 ⊢
    generalize (decide (pos + 3 < s.size) && (s.get! (pos + 3)).toNat / 64 == 2) = b3 at k3 ⊢
    have one : pos + 1 ≤ s.size ∧ 1 ≤ 1 ∧ LX.cnt (s.data.toList.take (pos + 1)) = LX.cnt (s.data.toList.take (pos + 1)) := ⟨by omega, by omega, rfl⟩
    split
    · rename_i h
      simp only [Bool.and_eq_true] at h
      have := k1 h.2
      split
      · exact ⟨by simp; omega, by simp, this.2⟩
      · exact one
    split
    · rename_i h
      simp only [Bool.and_eq_true] at h
      have a1 := k1 h.1.2
      have a2 := k2 h.2
      split
      · exact ⟨by simp; omega, by simp, a2.2.trans a1.2⟩
      · exact one
    split
    · rename_i h
      simp only [Bool.and_eq_true] at h
      have a1 := k1 h.1.1.2
      have a2 := k2 h.1.2
      have a3 := k3 h.2
      split
      · exact ⟨by simp; omega, by simp, a3.2.trans (a2.2.trans a1.2)⟩
      · exact one
    · exact one
set_option maxRecDepth 100000 in
set_option maxHeartbeats 4000000 in
theorem lines_any (s : ByteArray) (w : World) (hs : s.size ≤ 140737488355328) :
    Calls Tryz.prog 55 #[.string s] w fun e w' => e = .returned (.int .i64 (LX.cnt s.data.toList)) ∧ Below w.heap.size w w' := by
  have hle : ∀ pos, LX.cnt (s.data.toList.take pos) ≤ s.size := by
    intro pos
    have h1 := List.countP_le_length (p := fun c : UInt8 => c.toNat == 10) (l := s.data.toList.take pos)
    have h2 : (s.data.toList.take pos).length ≤ s.data.toList.length := by rw [List.length_take]; omega
    have h3 : s.data.toList.length = s.size := by simp
    unfold LX.cnt; omega
  have HL := Lib.hid hle
  clear hle
  go_enter Tryz.func55, Tryz.ntmps55
  go_wp2
  go_loopw [3] (fun n w' => ∃ pos : Nat, w' = w.iter s pos ∧ n = .int .i64 (LX.cnt (s.data.toList.take pos)) ∧ pos ≤ s.size) (fun _ w' => s.size - w'.iterPos w.heap.size)
  case atStart => exact ⟨0, rfl, rfl, by omega⟩
  case round =>
    obtain ⟨pos, rfl, rfl, hpos⟩ := hrel
    have hb := HL.out pos
    by_cases hp : pos < s.size
    · have hh := hop s pos hp
      have hb2 := HL.out (pos + (Utf8.decode s pos).2)
      have hr := decode_le s pos
      obtain ⟨r, hrr⟩ : ∃ r, (Utf8.decode s pos).1 = r := ⟨_, rfl⟩
      obtain ⟨d, hd⟩ : ∃ d, (Utf8.decode s pos).2 = d := ⟨_, rfl⟩
      have hnx : ∀ ty, (Instr.next (.pointer (some ⟨w.heap.size, 0, none⟩)) true ty).run Tryz.prog (w.iter s pos) = .ok (.tuple #[.bool true, .int .i64 pos, .int .i32 (r : Nat)]) (w.iter s (pos + d)) := fun ty => by rw [← hrr, ← hd]; exact run_next_any w s pos ty hp
      rw [hrr, hd] at hh
      rw [hd] at hb2
      rw [hrr] at hr
      obtain ⟨c2, hc2⟩ : ∃ c, LX.cnt (s.data.toList.take (pos + d)) = c := ⟨_, rfl⟩
      obtain ⟨c1, hc1⟩ : ∃ c, LX.cnt (s.data.toList.take pos) = c := ⟨_, rfl⟩
      rw [hc2, hc1] at hh
      rw [hc2] at hb2
      rw [hc1] at hb
      have HC2 := Lib.hid hc2
      have HC1 := Lib.hid hc1
      obtain ⟨h1, h2, h3⟩ := hh
      have H3 := Lib.hid h3
      rw [hc1]
      clear hrr hd hc2 hc1 h3
      by_cases h10 : r = 10
      · have t10 : ((r : Int) == 10) = true := by rw [beq_iff_eq]; omega
        have H10 := Lib.hid h10
        clear h10
        go_wp2
        go_roundw
        case rel => exact ⟨pos + d, rfl, by rw [HC2.out, H3.out, if_pos H10.out]; go_num, h1⟩
        case measure =>
          simp
          omega
      · have t10 : ((r : Int) == 10) = false := by rw [beq_eq_false_iff_ne]; omega
        have H10 := Lib.hid h10
        clear h10
        go_wp2
        go_roundw
        case rel => exact ⟨pos + d, rfl, by rw [HC2.out, H3.out, if_neg H10.out, Nat.add_zero], h1⟩
        case measure =>
          simp
          omega
    · have hnx : ∀ ty, (Instr.next (.pointer (some ⟨w.heap.size, 0, none⟩)) true ty).run Tryz.prog (w.iter s pos) = _ := fun ty => run_next_end w s pos ty hp
      go_wp2
      go_ret
      obtain rfl : pos = s.size := by omega
      refine ⟨ret_int ?_, (Below.refl _ _).alloc (Nat.le_refl _) _⟩
      rw [List.take_of_length_le (by simp)]
end Go.Proofs.YtedmmgfnplbkjaaGreatDoor
