/-
  Walks: what the teller's methods 'elem' and 'deed' write, if the closure writes the text of each part.
  Conditions: the value lies in memory; the teller in block B, the closure's two variables in the blocks behind it.
-/
import Derived.Test.YtajmdhcknmmbbaaGreatDoorRec
namespace Go.Proofs.YtajmdhcknmmbbaaGreatDoor
open Go.RowKit

theorem tab_fr {B : Nat} {w0 w w' : World} (he : TE B w0 w) (hf : Fr B w w') (h : Lib.TabIs Tryz.prog w0 "internal/strconv.uint64pow10" .u64 Lib.pow10Tab) : Lib.TabIs Tryz.prog w' "internal/strconv.uint64pow10" .u64 Lib.pow10Tab := by
  have hg : Tryz.prog.globalNamed "internal/strconv.uint64pow10" = some 2 := by kernel_rfl
  have hlt : 2 < w0.heap.size := by
    rcases Nat.lt_or_ge 2 w0.heap.size with h' | h'
    · exact h'
    · simp [Lib.TabIs, World.var?, hg, Array.getElem?_eq_none h'] at h
  exact var?_below (by rw [he.sz]; exact (he.fr hf).below) hg hlt h

set_option maxRecDepth 100000 in
set_option maxHeartbeats 2000000 in
theorem elem_false (w0 : World) (B b o : Nat) (l : List UInt8) (n : Int) (s : ByteArray) (la : Option Addr) (ll lc : Nat) (L : Nat → V) (fa : Option Addr) (fl fc : Nat) (fn : Nat → ByteArray) (F : Nat → V) (e : Nat) (key : ByteArray)
    (hvL : ∀ i, i < ll → TellOk (L i)) (hvF : ∀ i, i < fl → TellOk (F i)) (w : World) (h : (V.mk 6 n s la ll lc L fa fl fc fn F e key false).In w0) (hg : (V.mk 6 n s la ll lc L fa fl fc fn F e key false).good) (ha : At w0 b o (V.mk 6 n s la ll lc L fa fl fc fn F e key false).cells)
    (hwd : WordsAt w0) (htb : Lib.TabIs Tryz.prog w0 "internal/strconv.uint64pow10" .u64 Lib.pow10Tab) (he : TE B w0 w) (ht : IsT B l w) (hlen : l.length + (60 :: (wordL e ++ (32 :: (quotedL s.data.toList ++ (([]) ++ (32 :: (recL fl fn (fun i => (F i).told) ++ (32 :: (listL ll (fun i => (L i).told) ++ [62]))))))))).length ≤ 140737488355328) :
    Calls Tryz.prog 191 #[.pointer (some ⟨B, 0, none⟩), .pointer (some ⟨b, o, none⟩), tellF B] w fun x w' => x = .returned (.tuple #[]) ∧ Wrote B l (60 :: (wordL e ++ (32 :: (quotedL s.data.toList ++ (([]) ++ (32 :: (recL fl fn (fun i => (F i).told) ++ (32 :: (listL ll (fun i => (L i).told) ++ [62]))))))))) w w' := by
  have HB := Lib.hid (fun (l' : List UInt8) (c : UInt8) (W : World) (h : IsT B l' W) (hl : l'.length + 1 ≤ 140737488355328) => writeB_any B l' c W h hl)
  have HS := Lib.hid (fun (l' : List UInt8) (c : ByteArray) (W : World) (h : IsT B l' W) (hl : l'.length + c.data.toList.length ≤ 140737488355328) => writeS_any B l' c W h hl)
  have HQ := Lib.hid (fun (l' : List UInt8) (c : ByteArray) (hc : c.size ≤ maxLen) (W : World) (h : IsT B l' W) (hl : l'.length + (quotedL c.data.toList).length ≤ 140737488355328) => quoted_any B l' c W hc h hl)
  have HRec := Lib.hid (fun (l' : List UInt8) (W : World) (hfr : Fr B w W) (h' : IsT B l' W) hl => record_any w0 B l' fa fl fc fn F hvF W h.2.2.2.2.2.2.1 h.2.2.2.2.2.2.2.2 hg.2.2 hwd htb (he.fr hfr) h' hl)
  have HLst := Lib.hid (fun (l' : List UInt8) (W : World) (hfr : Fr B w W) (h' : IsT B l' W) hl => list_any w0 B l' la ll lc L hvL W h.2.2.2.2.2.1 h.2.2.2.2.2.2.2.1 hg.2.1 hwd htb (he.fr hfr) h' hl)
  have HA := Lib.hid (fun W (hfr : Fr B w W) => at8 (ha.below (by rw [he.sz]; exact (he.fr hfr).below)))
  have hss : Hid (s.size ≤ maxLen) := h.2.2.1
  have hks : Hid (key.size ≤ maxLen) := h.2.2.2.2.1
  have HLn := Lib.hid hlen
  unfold tellF at HRec HLst ⊢
  have he8 := hg.1 rfl
  have H0 := Lib.hid (writeB_any B l 60 w ht (by simp only [List.length_cons] at hlen; omega))
  have HWd := Lib.hid (fun W (hfr : Fr B w W) => show W.cell? ⟨0, e, none⟩ = some (.string ⟨(wordL e).toArray⟩) by
    have hc := hwd e (by omega)
    have hbl : 0 < B := by rw [← he.sz]; exact World.block_lt_of_cell? _ _ hc
    rw [(he.fr hfr).below.cell (p := ⟨0, e, none⟩) hbl, hc])
  have hi0 : (0 : Int) ≤ (e : Int) := by omega
  have hi9 : (e : Int) < 9 := by omega
  clear hvL hvF h hg ha hwd htb he ht hlen he8
  go_enter Tryz.func191, Tryz.ntmps191
  go_wp2_with fail
  refine H0.out.mono ?_
  rintro x w1 ⟨rfl, hw⟩
  have Hw1 := Lib.hid hw
  clear hw
  obtain ⟨-, c1, c2, c3, c4, c5, c6, c7⟩ := HA.out _ Hw1.out.2
  have cw := HWd.out _ Hw1.out.2
  go_wp2_with fail
  go_still_tail 9, (by kernel_rfl)
  go_wp2_with fail
  clear c1 c2 c3 c4 c5 c6 c7 cw
  have Hd : Hid (Wrote B l [60] w w1.drew) := ⟨Hw1.out.1.below (Below.refl _ _).drew, Hw1.out.2.trans ⟨(Below.refl _ _).drew, rfl, rfl⟩⟩
  refine (HS.out _ ⟨(wordL e).toArray⟩ _ Hd.out.1 (by have := HLn.out; simp only [List.length_append, List.length_cons, List.length_nil] at this ⊢; omega)).mono ?_
  rintro x w2 ⟨rfl, hw⟩
  have Hw2 := Lib.hid (Hd.out.trans hw)
  clear hw
  go_wp2_with fail
  refine (HB.out _ 32 _ Hw2.out.1 (by have := HLn.out; simp only [List.length_append, List.length_cons, List.length_nil] at this ⊢; omega)).mono ?_
  rintro x w3 ⟨rfl, hw⟩
  have Hw3 := Lib.hid (Hw2.out.trans hw)
  clear hw
  obtain ⟨-, c1, c2, c3, c4, c5, c6, c7⟩ := HA.out _ Hw3.out.2
  go_wp2_with fail
  clear c1 c2 c3 c4 c5 c6 c7
  refine (HQ.out _ s hss.out _ Hw3.out.1 (by have := HLn.out; simp only [List.length_append, List.length_cons, List.length_nil] at this ⊢; omega)).mono ?_
  rintro x w4 ⟨rfl, hw⟩
  have Hw4 := Lib.hid (Hw3.out.trans hw)
  clear hw
  obtain ⟨-, c1, c2, c3, c4, c5, c6, c7⟩ := HA.out _ Hw4.out.2
  go_wp2_with fail
  clear c1 c2 c3 c4 c5 c6 c7
  refine (HB.out _ 32 _ Hw4.out.1 (by have := HLn.out; simp only [List.length_append, List.length_cons, List.length_nil] at this ⊢; omega)).mono ?_
  rintro x w7 ⟨rfl, hw⟩
  have Hw7 := Lib.hid (Hw4.out.trans hw)
  clear hw
  obtain ⟨-, c1, c2, c3, c4, c5, c6, c7⟩ := HA.out _ Hw7.out.2
  go_wp2_with fail
  clear c1 c2 c3 c4 c5 c6 c7
  refine (HRec.out _ _ Hw7.out.2 Hw7.out.1 (by have := HLn.out; simp only [List.length_append, List.length_cons, List.length_nil] at this ⊢; omega)).mono ?_
  rintro x w8 ⟨rfl, hw⟩
  have Hw8 := Lib.hid (Hw7.out.trans hw)
  clear hw
  obtain ⟨-, c1, c2, c3, c4, c5, c6, c7⟩ := HA.out _ Hw8.out.2
  go_wp2_with fail
  clear c1 c2 c3 c4 c5 c6 c7
  refine (HB.out _ 32 _ Hw8.out.1 (by have := HLn.out; simp only [List.length_append, List.length_cons, List.length_nil] at this ⊢; omega)).mono ?_
  rintro x w9 ⟨rfl, hw⟩
  have Hw9 := Lib.hid (Hw8.out.trans hw)
  clear hw
  obtain ⟨-, c1, c2, c3, c4, c5, c6, c7⟩ := HA.out _ Hw9.out.2
  go_wp2_with fail
  clear c1 c2 c3 c4 c5 c6 c7
  refine (HLst.out _ _ Hw9.out.2 Hw9.out.1 (by have := HLn.out; simp only [List.length_append, List.length_cons, List.length_nil] at this ⊢; omega)).mono ?_
  rintro x w10 ⟨rfl, hw⟩
  have Hw10 := Lib.hid (Hw9.out.trans hw)
  clear hw
  obtain ⟨-, c1, c2, c3, c4, c5, c6, c7⟩ := HA.out _ Hw10.out.2
  go_wp2_with fail
  clear c1 c2 c3 c4 c5 c6 c7
  refine (HB.out _ 62 _ Hw10.out.1 (by have := HLn.out; simp only [List.length_append, List.length_cons, List.length_nil] at this ⊢; omega)).mono ?_
  rintro x w11 ⟨rfl, hw⟩
  have Hw11 := Lib.hid (Hw10.out.trans hw)
  clear hw
  go_wp2_with fail
  go_end0
  exact ⟨rfl, by simpa using Hw11.out⟩

set_option maxRecDepth 100000 in
set_option maxHeartbeats 2000000 in
theorem elem_true (w0 : World) (B b o : Nat) (l : List UInt8) (n : Int) (s : ByteArray) (la : Option Addr) (ll lc : Nat) (L : Nat → V) (fa : Option Addr) (fl fc : Nat) (fn : Nat → ByteArray) (F : Nat → V) (e : Nat) (key : ByteArray)
    (hvL : ∀ i, i < ll → TellOk (L i)) (hvF : ∀ i, i < fl → TellOk (F i)) (w : World) (h : (V.mk 6 n s la ll lc L fa fl fc fn F e key true).In w0) (hg : (V.mk 6 n s la ll lc L fa fl fc fn F e key true).good) (ha : At w0 b o (V.mk 6 n s la ll lc L fa fl fc fn F e key true).cells)
    (hwd : WordsAt w0) (htb : Lib.TabIs Tryz.prog w0 "internal/strconv.uint64pow10" .u64 Lib.pow10Tab) (he : TE B w0 w) (ht : IsT B l w) (hlen : l.length + (60 :: (wordL e ++ (32 :: (quotedL s.data.toList ++ (([32, 107, 101, 121, 32] ++ quotedL key.data.toList) ++ (32 :: (recL fl fn (fun i => (F i).told) ++ (32 :: (listL ll (fun i => (L i).told) ++ [62]))))))))).length ≤ 140737488355328) :
    Calls Tryz.prog 191 #[.pointer (some ⟨B, 0, none⟩), .pointer (some ⟨b, o, none⟩), tellF B] w fun x w' => x = .returned (.tuple #[]) ∧ Wrote B l (60 :: (wordL e ++ (32 :: (quotedL s.data.toList ++ (([32, 107, 101, 121, 32] ++ quotedL key.data.toList) ++ (32 :: (recL fl fn (fun i => (F i).told) ++ (32 :: (listL ll (fun i => (L i).told) ++ [62]))))))))) w w' := by
  have HB := Lib.hid (fun (l' : List UInt8) (c : UInt8) (W : World) (h : IsT B l' W) (hl : l'.length + 1 ≤ 140737488355328) => writeB_any B l' c W h hl)
  have HS := Lib.hid (fun (l' : List UInt8) (c : ByteArray) (W : World) (h : IsT B l' W) (hl : l'.length + c.data.toList.length ≤ 140737488355328) => writeS_any B l' c W h hl)
  have HQ := Lib.hid (fun (l' : List UInt8) (c : ByteArray) (hc : c.size ≤ maxLen) (W : World) (h : IsT B l' W) (hl : l'.length + (quotedL c.data.toList).length ≤ 140737488355328) => quoted_any B l' c W hc h hl)
  have HRec := Lib.hid (fun (l' : List UInt8) (W : World) (hfr : Fr B w W) (h' : IsT B l' W) hl => record_any w0 B l' fa fl fc fn F hvF W h.2.2.2.2.2.2.1 h.2.2.2.2.2.2.2.2 hg.2.2 hwd htb (he.fr hfr) h' hl)
  have HLst := Lib.hid (fun (l' : List UInt8) (W : World) (hfr : Fr B w W) (h' : IsT B l' W) hl => list_any w0 B l' la ll lc L hvL W h.2.2.2.2.2.1 h.2.2.2.2.2.2.2.1 hg.2.1 hwd htb (he.fr hfr) h' hl)
  have HA := Lib.hid (fun W (hfr : Fr B w W) => at8 (ha.below (by rw [he.sz]; exact (he.fr hfr).below)))
  have hss : Hid (s.size ≤ maxLen) := h.2.2.1
  have hks : Hid (key.size ≤ maxLen) := h.2.2.2.2.1
  have HLn := Lib.hid hlen
  unfold tellF at HRec HLst ⊢
  have he8 := hg.1 rfl
  have H0 := Lib.hid (writeB_any B l 60 w ht (by simp only [List.length_cons] at hlen; omega))
  have HWd := Lib.hid (fun W (hfr : Fr B w W) => show W.cell? ⟨0, e, none⟩ = some (.string ⟨(wordL e).toArray⟩) by
    have hc := hwd e (by omega)
    have hbl : 0 < B := by rw [← he.sz]; exact World.block_lt_of_cell? _ _ hc
    rw [(he.fr hfr).below.cell (p := ⟨0, e, none⟩) hbl, hc])
  have hi0 : (0 : Int) ≤ (e : Int) := by omega
  have hi9 : (e : Int) < 9 := by omega
  clear hvL hvF h hg ha hwd htb he ht hlen he8
  go_enter Tryz.func191, Tryz.ntmps191
  go_wp2_with fail
  refine H0.out.mono ?_
  rintro x w1 ⟨rfl, hw⟩
  have Hw1 := Lib.hid hw
  clear hw
  obtain ⟨-, c1, c2, c3, c4, c5, c6, c7⟩ := HA.out _ Hw1.out.2
  have cw := HWd.out _ Hw1.out.2
  go_wp2_with fail
  go_still_tail 9, (by kernel_rfl)
  go_wp2_with fail
  clear c1 c2 c3 c4 c5 c6 c7 cw
  have Hd : Hid (Wrote B l [60] w w1.drew) := ⟨Hw1.out.1.below (Below.refl _ _).drew, Hw1.out.2.trans ⟨(Below.refl _ _).drew, rfl, rfl⟩⟩
  refine (HS.out _ ⟨(wordL e).toArray⟩ _ Hd.out.1 (by have := HLn.out; simp only [List.length_append, List.length_cons, List.length_nil] at this ⊢; omega)).mono ?_
  rintro x w2 ⟨rfl, hw⟩
  have Hw2 := Lib.hid (Hd.out.trans hw)
  clear hw
  go_wp2_with fail
  refine (HB.out _ 32 _ Hw2.out.1 (by have := HLn.out; simp only [List.length_append, List.length_cons, List.length_nil] at this ⊢; omega)).mono ?_
  rintro x w3 ⟨rfl, hw⟩
  have Hw3 := Lib.hid (Hw2.out.trans hw)
  clear hw
  obtain ⟨-, c1, c2, c3, c4, c5, c6, c7⟩ := HA.out _ Hw3.out.2
  go_wp2_with fail
  clear c1 c2 c3 c4 c5 c6 c7
  refine (HQ.out _ s hss.out _ Hw3.out.1 (by have := HLn.out; simp only [List.length_append, List.length_cons, List.length_nil] at this ⊢; omega)).mono ?_
  rintro x w4 ⟨rfl, hw⟩
  have Hw4 := Lib.hid (Hw3.out.trans hw)
  clear hw
  obtain ⟨-, c1, c2, c3, c4, c5, c6, c7⟩ := HA.out _ Hw4.out.2
  go_wp2_with fail
  clear c1 c2 c3 c4 c5 c6 c7
  refine (HS.out _ ⟨#[32, 107, 101, 121, 32]⟩ _ Hw4.out.1 (by have := HLn.out; simp only [List.length_append, List.length_cons, List.length_nil] at this ⊢; omega)).mono ?_
  rintro x w5 ⟨rfl, hw⟩
  have Hw5 := Lib.hid (Hw4.out.trans hw)
  clear hw
  obtain ⟨-, c1, c2, c3, c4, c5, c6, c7⟩ := HA.out _ Hw5.out.2
  go_wp2_with fail
  clear c1 c2 c3 c4 c5 c6 c7
  refine (HQ.out _ key hks.out _ Hw5.out.1 (by have := HLn.out; simp only [List.length_append, List.length_cons, List.length_nil] at this ⊢; omega)).mono ?_
  rintro x w6 ⟨rfl, hw⟩
  have Hw6 := Lib.hid (Hw5.out.trans hw)
  clear hw
  obtain ⟨-, c1, c2, c3, c4, c5, c6, c7⟩ := HA.out _ Hw6.out.2
  go_wp2_with fail
  clear c1 c2 c3 c4 c5 c6 c7
  refine (HB.out _ 32 _ Hw6.out.1 (by have := HLn.out; simp only [List.length_append, List.length_cons, List.length_nil] at this ⊢; omega)).mono ?_
  rintro x w7 ⟨rfl, hw⟩
  have Hw7 := Lib.hid (Hw6.out.trans hw)
  clear hw
  obtain ⟨-, c1, c2, c3, c4, c5, c6, c7⟩ := HA.out _ Hw7.out.2
  go_wp2_with fail
  clear c1 c2 c3 c4 c5 c6 c7
  refine (HRec.out _ _ Hw7.out.2 Hw7.out.1 (by have := HLn.out; simp only [List.length_append, List.length_cons, List.length_nil] at this ⊢; omega)).mono ?_
  rintro x w8 ⟨rfl, hw⟩
  have Hw8 := Lib.hid (Hw7.out.trans hw)
  clear hw
  obtain ⟨-, c1, c2, c3, c4, c5, c6, c7⟩ := HA.out _ Hw8.out.2
  go_wp2_with fail
  clear c1 c2 c3 c4 c5 c6 c7
  refine (HB.out _ 32 _ Hw8.out.1 (by have := HLn.out; simp only [List.length_append, List.length_cons, List.length_nil] at this ⊢; omega)).mono ?_
  rintro x w9 ⟨rfl, hw⟩
  have Hw9 := Lib.hid (Hw8.out.trans hw)
  clear hw
  obtain ⟨-, c1, c2, c3, c4, c5, c6, c7⟩ := HA.out _ Hw9.out.2
  go_wp2_with fail
  clear c1 c2 c3 c4 c5 c6 c7
  refine (HLst.out _ _ Hw9.out.2 Hw9.out.1 (by have := HLn.out; simp only [List.length_append, List.length_cons, List.length_nil] at this ⊢; omega)).mono ?_
  rintro x w10 ⟨rfl, hw⟩
  have Hw10 := Lib.hid (Hw9.out.trans hw)
  clear hw
  obtain ⟨-, c1, c2, c3, c4, c5, c6, c7⟩ := HA.out _ Hw10.out.2
  go_wp2_with fail
  clear c1 c2 c3 c4 c5 c6 c7
  refine (HB.out _ 62 _ Hw10.out.1 (by have := HLn.out; simp only [List.length_append, List.length_cons, List.length_nil] at this ⊢; omega)).mono ?_
  rintro x w11 ⟨rfl, hw⟩
  have Hw11 := Lib.hid (Hw10.out.trans hw)
  clear hw
  go_wp2_with fail
  go_end0
  exact ⟨rfl, by simpa using Hw11.out⟩

set_option maxRecDepth 100000 in
set_option maxHeartbeats 2000000 in
theorem deed_any (w0 : World) (B b o : Nat) (l : List UInt8) (n : Int) (s : ByteArray) (la : Option Addr) (ll lc : Nat) (L : Nat → V) (fa : Option Addr) (fl fc : Nat) (fn : Nat → ByteArray) (F : Nat → V) (e : Int) (key : ByteArray) (hk : Bool)
    (hvL : ∀ i, i < ll → TellOk (L i)) (hvF : ∀ i, i < fl → TellOk (F i)) (w : World) (h : (V.mk 7 n s la ll lc L fa fl fc fn F e key hk).In w0) (hg : (V.mk 7 n s la ll lc L fa fl fc fn F e key hk).good) (ha : At w0 b o (V.mk 7 n s la ll lc L fa fl fc fn F e key hk).cells)
    (hwd : WordsAt w0) (htb : Lib.TabIs Tryz.prog w0 "internal/strconv.uint64pow10" .u64 Lib.pow10Tab) (he : TE B w0 w) (ht : IsT B l w) (hlen : l.length + ([60, 100, 101, 101, 100, 32] ++ (Lib.itoa n ++ (32 :: (quotedL s.data.toList ++ (32 :: (recL fl fn (fun i => (F i).told) ++ [62])))))).length ≤ 140737488355328) :
    Calls Tryz.prog 192 #[.pointer (some ⟨B, 0, none⟩), .pointer (some ⟨b, o, none⟩), tellF B] w fun x w' => x = .returned (.tuple #[]) ∧ Wrote B l ([60, 100, 101, 101, 100, 32] ++ (Lib.itoa n ++ (32 :: (quotedL s.data.toList ++ (32 :: (recL fl fn (fun i => (F i).told) ++ [62])))))) w w' := by
  have HB := Lib.hid (fun (l' : List UInt8) (c : UInt8) (W : World) (h : IsT B l' W) (hl : l'.length + 1 ≤ 140737488355328) => writeB_any B l' c W h hl)
  have HS := Lib.hid (fun (l' : List UInt8) (c : ByteArray) (W : World) (h : IsT B l' W) (hl : l'.length + c.data.toList.length ≤ 140737488355328) => writeS_any B l' c W h hl)
  have HQ := Lib.hid (fun (l' : List UInt8) (c : ByteArray) (hc : c.size ≤ maxLen) (W : World) (h : IsT B l' W) (hl : l'.length + (quotedL c.data.toList).length ≤ 140737488355328) => quoted_any B l' c W hc h hl)
  have HRec := Lib.hid (fun (l' : List UInt8) (W : World) (hfr : Fr B w W) (h' : IsT B l' W) hl => record_any w0 B l' fa fl fc fn F hvF W h.2.2.2.2.2.2.1 h.2.2.2.2.2.2.2.2 hg.2.2 hwd htb (he.fr hfr) h' hl)
  have HLst := Lib.hid (fun (l' : List UInt8) (W : World) (hfr : Fr B w W) (h' : IsT B l' W) hl => list_any w0 B l' la ll lc L hvL W h.2.2.2.2.2.1 h.2.2.2.2.2.2.2.1 hg.2.1 hwd htb (he.fr hfr) h' hl)
  have HA := Lib.hid (fun W (hfr : Fr B w W) => at8 (ha.below (by rw [he.sz]; exact (he.fr hfr).below)))
  have hss : Hid (s.size ≤ maxLen) := h.2.2.1
  have hks : Hid (key.size ≤ maxLen) := h.2.2.2.2.1
  have HLn := Lib.hid hlen
  unfold tellF at HRec HLst ⊢
  have H0 := Lib.hid (writeS_any B l ⟨#[60, 100, 101, 101, 100, 32]⟩ w ht (by simp only [List.length_append, List.length_cons, List.length_nil] at hlen ⊢; omega))
  have hnn : Hid (-9223372036854775808 ≤ n ∧ n ≤ 9223372036854775807) := h.2.1
  have HNu := Lib.hid (fun (l' : List UInt8) (W : World) (hfr : Fr B w W) (h' : IsT B l' W) hl => number_any B l' n hnn.out W h' hl (tab_fr he hfr htb))
  clear hvL hvF h hg ha hwd htb he ht hlen hks HLst
  go_enter Tryz.func192, Tryz.ntmps192
  go_wp2_with fail
  refine (H0.out).mono ?_
  rintro x w1 ⟨rfl, hw⟩
  have Hw1 := Lib.hid (hw)
  clear hw
  obtain ⟨-, c1, c2, c3, c4, c5, c6, c7⟩ := HA.out _ Hw1.out.2
  go_wp2_with fail
  clear c1 c2 c3 c4 c5 c6 c7
  refine (HNu.out _ _ Hw1.out.2 Hw1.out.1 (by have := HLn.out; simp only [List.length_append, List.length_cons, List.length_nil] at this ⊢; omega)).mono ?_
  rintro x w2 ⟨rfl, hw⟩
  have Hw2 := Lib.hid (Hw1.out.trans hw)
  clear hw
  obtain ⟨-, c1, c2, c3, c4, c5, c6, c7⟩ := HA.out _ Hw2.out.2
  go_wp2_with fail
  clear c1 c2 c3 c4 c5 c6 c7
  refine (HB.out _ 32 _ Hw2.out.1 (by have := HLn.out; simp only [List.length_append, List.length_cons, List.length_nil] at this ⊢; omega)).mono ?_
  rintro x w3 ⟨rfl, hw⟩
  have Hw3 := Lib.hid (Hw2.out.trans hw)
  clear hw
  obtain ⟨-, c1, c2, c3, c4, c5, c6, c7⟩ := HA.out _ Hw3.out.2
  go_wp2_with fail
  clear c1 c2 c3 c4 c5 c6 c7
  refine (HQ.out _ s hss.out _ Hw3.out.1 (by have := HLn.out; simp only [List.length_append, List.length_cons, List.length_nil] at this ⊢; omega)).mono ?_
  rintro x w4 ⟨rfl, hw⟩
  have Hw4 := Lib.hid (Hw3.out.trans hw)
  clear hw
  obtain ⟨-, c1, c2, c3, c4, c5, c6, c7⟩ := HA.out _ Hw4.out.2
  go_wp2_with fail
  clear c1 c2 c3 c4 c5 c6 c7
  refine (HB.out _ 32 _ Hw4.out.1 (by have := HLn.out; simp only [List.length_append, List.length_cons, List.length_nil] at this ⊢; omega)).mono ?_
  rintro x w5 ⟨rfl, hw⟩
  have Hw5 := Lib.hid (Hw4.out.trans hw)
  clear hw
  obtain ⟨-, c1, c2, c3, c4, c5, c6, c7⟩ := HA.out _ Hw5.out.2
  go_wp2_with fail
  clear c1 c2 c3 c4 c5 c6 c7
  refine (HRec.out _ _ Hw5.out.2 Hw5.out.1 (by have := HLn.out; simp only [List.length_append, List.length_cons, List.length_nil] at this ⊢; omega)).mono ?_
  rintro x w6 ⟨rfl, hw⟩
  have Hw6 := Lib.hid (Hw5.out.trans hw)
  clear hw
  obtain ⟨-, c1, c2, c3, c4, c5, c6, c7⟩ := HA.out _ Hw6.out.2
  go_wp2_with fail
  clear c1 c2 c3 c4 c5 c6 c7
  refine (HB.out _ 62 _ Hw6.out.1 (by have := HLn.out; simp only [List.length_append, List.length_cons, List.length_nil] at this ⊢; omega)).mono ?_
  rintro x w7 ⟨rfl, hw⟩
  have Hw7 := Lib.hid (Hw6.out.trans hw)
  clear hw
  go_wp2_with fail
  go_end0
  exact ⟨rfl, by simpa using Hw7.out⟩

end Go.Proofs.YtajmdhcknmmbbaaGreatDoor
