/-
  Walks: what the teller's method 'record' writes, if the closure writes the text of each part.
  Conditions: the values lie in memory; the teller in block B, the closure's two variables in the blocks behind it.
-/
import Derived.Test.YtajmdhcknmmbbaaGreatDoorList
namespace Go.Proofs.YtajmdhcknmmbbaaGreatDoor
open Go.RowKit

def fieldL (fn : Nat → ByteArray) (F : Nat → V) (i : Nat) : List UInt8 := quotedL (fn i).data.toList ++ (32 :: (F i).told)

theorem At.tail1 {w : World} {b o : Nat} {x : Value} {cs : List Value} (h : At w b o (x :: cs)) : At w b (o + 1) cs := by
  intro i hi
  have := h (i + 1) (by simpa using hi)
  rw [show o + 1 + i = o + (i + 1) by omega, this]
  rfl

set_option maxRecDepth 100000 in
set_option maxHeartbeats 2000000 in
theorem record_any (w0 : World) (B : Nat) (l : List UInt8) (fa : Option Addr) (fl fc : Nat) (fn : Nat → ByteArray) (F : Nat → V) (hv : ∀ i, i < fl → TellOk (F i)) (w : World) (hlc : fl ≤ fc ∧ fc ≤ maxLen)
    (h : ∀ i, i < fl → (∃ b o, fa = some ⟨b, o, none⟩ ∧ At w0 b (o + i * 9) (.string (fn i) :: (F i).cells)) ∧ (fn i).size ≤ maxLen ∧ (F i).In w0) (hg : ∀ i, i < fl → (F i).good) (hwd : WordsAt w0) (htb : Lib.TabIs Tryz.prog w0 "internal/strconv.uint64pow10" .u64 Lib.pow10Tab)
    (he : TE B w0 w) (ht : IsT B l w) (hlen : l.length + (recL fl fn (fun i => (F i).told)).length ≤ 140737488355328) :
    Calls Tryz.prog 190 #[.pointer (some ⟨B, 0, none⟩), .slice fa fl fc, tellF B] w fun e w' => e = .returned (.tuple #[]) ∧ Wrote B l (recL fl fn (fun i => (F i).told)) w w' := by
  have hrl : recL fl fn (fun i => (F i).told) = 123 :: (sepTo fl (fieldL fn F) ++ [125]) := rfl
  rw [hrl] at hlen ⊢
  have hq : (123 :: (sepTo fl (fieldL fn F) ++ [125])).length = (sepTo fl (fieldL fn F)).length + 2 := by simp
  have H0 := Lib.hid (writeB_any B l 123 w ht (by omega))
  have HB := Lib.hid (fun (l' : List UInt8) (c : UInt8) (W : World) (h : IsT B l' W) (hl : l'.length + 1 ≤ 140737488355328) => writeB_any B l' c W h hl)
  have HW := Lib.hid (fun (l' : List UInt8) (i : Nat) (W : World) (h : IsT B l' W) (hl : l'.length + 1 ≤ 140737488355328) => between_any B l' i W h hl)
  have hlen2 := hlen
  rw [hq] at hlen2
  have HLn := Lib.hid hlen2
  have HV := Lib.hid (fun i hi W l' b o (hat : At w0 b o (F i).cells) (hfr : Fr B w W) hT hl => hv i hi w0 W B b o l' (h i hi).2.2 hat hwd htb (he.fr hfr) hT hl (hg i hi))
  have HNm := Lib.hid (fun i hi (l' : List UInt8) (W : World) (h' : IsT B l' W) hl => quoted_any B l' (fn i) W (h i hi).2.1 h' hl)
  have HC := Lib.hid (fun W (hfr : Fr B w W) b o v (hc : w0.cell? ⟨b, o, none⟩ = some v) => show W.cell? ⟨b, o, none⟩ = some v by
    have hbl : b < B := by rw [← he.sz]; exact World.block_lt_of_cell? _ _ hc
    rw [(he.fr hfr).below.cell (p := ⟨b, o, none⟩) hbl, hc])
  have H := Lib.hid h
  unfold maxLen at hlc
  have bnd : Hid (∀ j, j < fl → (sepTo j (fieldL fn F)).length + ((if 0 < j then [32] else [] : List UInt8).length + ((quotedL (fn j).data.toList).length + ((F j).told.length + 1))) + l.length + 2 ≤ 140737488355328) := by
    intro j hj
    have h1 := sepTo_mono (fieldL fn F) (show j + 1 ≤ fl from hj)
    have h2 : (fieldL fn F j).length = (quotedL (fn j).data.toList).length + ((F j).told.length + 1) := by simp [fieldL]
    simp only [sepTo, List.length_append] at h1
    omega
  unfold tellF
  by_cases hz : fl = 0
  · subst hz
    clear hv h hg hwd htb he ht hq hlen hlen2
    go_enter Tryz.func190, Tryz.ntmps190
    go_wp2_with fail
    refine H0.out.mono ?_
    rintro x w1 ⟨rfl, hw⟩
    have HW1 := Lib.hid hw
    clear hw
    go_wp2_with fail
    go_loopw [13] (fun i wr => i = .int .i64 0 ∧ Wrote B l [123] w wr) (fun _ _ => 0)
    case atStart => exact ⟨rfl, HW1.out⟩
    case round =>
      obtain ⟨rfl, hw⟩ := hrel
      have HR := Lib.hid hw
      clear hw
      go_wp2_with fail
      refine (HB.out _ 125 _ HR.out.1 (by have := HLn.out; simp [sepTo] at this ⊢; omega)).mono ?_
      rintro x w3 ⟨rfl, hw3⟩
      have HW3 := Lib.hid (HR.out.trans hw3)
      clear hw3
      go_wp2_with fail
      go_end0
      exact ⟨rfl, HW3.out⟩
  · obtain ⟨⟨fb, fo, rfl, -⟩, -⟩ := h 0 (by omega)
    clear hv h hg hwd htb he ht hq hlen hlen2
    go_enter Tryz.func190, Tryz.ntmps190
    go_wp2_with fail
    refine H0.out.mono ?_
    rintro x w1 ⟨rfl, hw⟩
    have HW1 := Lib.hid hw
    clear hw
    go_wp2_with fail
    go_loopw [13] (fun i wr => ∃ j : Nat, j ≤ fl ∧ i = .int .i64 j ∧ Wrote B l (123 :: sepTo j (fieldL fn F)) w wr) (fun i _ => fl - (intOf i).toNat)
    case atStart => exact ⟨0, Nat.zero_le _, rfl, HW1.out⟩
    case round =>
      obtain ⟨j, hj, rfl, hw⟩ := hrel
      have HR := Lib.hid hw
      clear hw
      by_cases hlt : j < fl
      · obtain ⟨⟨b1, o1, hee, hat⟩, -, -⟩ := H.out j hlt
        simp only [Option.some.injEq, Addr.mk.injEq, and_true] at hee
        obtain ⟨rfl, rfl⟩ := hee
        have HX := Lib.hid (fun W l' hfr hT hl => HV.out j hlt W l' _ _ hat.tail1 hfr hT hl)
        have HN2 := Lib.hid (fun l' W h' hl => HNm.out j hlt l' W h' hl)
        have hn0 : w0.cell? ⟨fb, fo + j * 9, none⟩ = some (.string (fn j)) := by simpa using hat 0 (by simp)
        have HN0 := Lib.hid hn0
        have B1 := Lib.hid (bnd.out j hlt)
        clear hat hn0
        go_wp2_with fail
        refine (HW.out _ j _ HR.out.1 (by have := B1.out; simp at this ⊢; omega)).mono ?_
        rintro x w2 ⟨rfl, hw2⟩
        have n0 := HC.out w2 (HR.out.trans hw2).2 _ _ _ HN0.out
        have HW2 := Lib.hid (HR.out.trans hw2)
        clear hw2
        go_wp2_with fail
        refine (HN2.out _ _ HW2.out.1 (by have := B1.out; simp only [List.length_append, List.length_cons] at this ⊢; omega)).mono ?_
        rintro x w4 ⟨rfl, hw4⟩
        have HW4 := Lib.hid (HW2.out.trans hw4)
        clear hw4 n0
        go_wp2_with fail
        refine (HB.out _ 32 _ HW4.out.1 (by have := B1.out; simp only [List.length_append, List.length_cons] at this ⊢; omega)).mono ?_
        rintro x w5 ⟨rfl, hw5⟩
        have HW5 := Lib.hid (HW4.out.trans hw5)
        clear hw5
        go_wp2_with fail
        refine (HX.out _ _ HW5.out.2 HW5.out.1 (by have := B1.out; simp only [List.length_append, List.length_cons, List.length_nil] at this ⊢; omega)).mono ?_
        rintro x w3 ⟨rfl, hw3⟩
        have HW3 : Hid (Wrote B l (123 :: sepTo (j + 1) (fieldL fn F)) w w3) := by
          have h3 := HW5.out.trans hw3
          have e3 : ((((123 :: sepTo j (fieldL fn F)) ++ (if 0 < j then [32] else [])) ++ quotedL (fn j).data.toList) ++ [32]) ++ (F j).told = 123 :: sepTo (j + 1) (fieldL fn F) := by simp [sepTo, fieldL]
          rw [e3] at h3
          exact h3
        clear hw3
        go_wp2_with fail
        go_roundw
        case rel => exact ⟨j + 1, by omega, by go_num, HW3.out⟩
        case measure => simp [intOf]; omega
      · obtain rfl : fl = j := by omega
        go_wp2_with fail
        refine (HB.out _ 125 _ HR.out.1 (by have := HLn.out; simp only [List.length_append, List.length_cons]; omega)).mono ?_
        rintro x w3 ⟨rfl, hw3⟩
        have HW3 := Lib.hid (HR.out.trans hw3)
        clear hw3
        go_wp2_with fail
        go_end0
        exact ⟨rfl, HW3.out⟩
end Go.Proofs.YtajmdhcknmmbbaaGreatDoor
