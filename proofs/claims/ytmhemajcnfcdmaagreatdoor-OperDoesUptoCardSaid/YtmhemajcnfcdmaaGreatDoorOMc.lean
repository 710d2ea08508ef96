/-
  Walks: what the teller's methods write: 'truth', 'between', 'quoted', 'number'.
  Conditions: the teller lies in block B; the table of powers of ten holds what the library's text lays in it.
  Walks: what the teller's method 'quoted' writes; and 'String' of the builder.
  Conditions: the teller lies in block B.
  Walks: what the teller's methods 'list' and 'record' write, if the closure writes the text of each part.
  Conditions: the values lie in memory; the teller in block B, the closure's two variables in the blocks behind it.
  Walks: what the teller's method 'record' writes, if the closure writes the text of each part.
  Conditions: the values lie in memory; the teller in block B, the closure's two variables in the blocks behind it.
-/
import Derived.Test.YtmhemajcnfcdmaaGreatDoorBuild
import Derived.Test.YtmhemajcnfcdmaaGreatDoorOMb
import Derived.Test.YtmhemajcnfcdmaaGreatDoorShelf
import Derived.StillTailTactics
import Derived.Lib.AppendIntMem
namespace Go.Proofs.YtmhemajcnfcdmaaGreatDoor
open Go.RowKit
theorem Wrote.trans {B : Nat} {l a b : List UInt8} {w w1 w2 : World} (h : Wrote B l a w w1) (k : Wrote B (l ++ a) b w1 w2) : Wrote B l (a ++ b) w w2 :=
  ⟨by rw [← List.append_assoc]; exact k.1, h.2.trans k.2⟩
theorem Wrote.nil {B : Nat} {l : List UInt8} {w : World} (h : IsT B l w) : Wrote B l [] w w := ⟨by rw [List.append_nil]; exact h, Fr.refl _ _⟩
theorem Fr.of_below {B : Nat} {w w' : World} (hb : Below w.heap.size w w') (h : B + 2 < w.heap.size) : Fr B w w' :=
  ⟨hb.mono (by omega), hb.block _ (by omega), hb.block _ h⟩
theorem BAt.below {B : Nat} {p : Value} {bs : List Value} {w w' : World} (h : BAt B p bs w) (hb : Below w.heap.size w w') : BAt B p bs w' := by
  have hlt := h.lt
  obtain ⟨v, hbk, ho⟩ := h
  refine ⟨v, by rw [hb.block B hlt]; exact hbk, ho.1, ?_⟩
  rcases ho.2 with h0 | ⟨g, cap, cur, hv, hbg, hg, r⟩
  · exact .inl h0
  · refine .inr ⟨g, cap, cur, hv, hbg, ?_, r⟩
    have hgl : g < w.heap.size := by
      rcases Nat.lt_or_ge g w.heap.size with h' | h'
      · exact h'
      · simp [Array.getElem?_eq_none h'] at hg
    rw [hb.block g hgl]
    exact hg
theorem IsT.below {B : Nat} {l : List UInt8} {w w' : World} (h : IsT B l w) (hb : Below w.heap.size w w') : IsT B l w' :=
  ⟨h.1.imp (·.below hb) (·.below hb), Nat.lt_of_lt_of_le h.2 hb.size⟩
set_option maxHeartbeats 400000 in
theorem truth_any (B : Nat) (l : List UInt8) (r : Bool) (w : World) (h : IsT B l w) (hlen : l.length + (if r then 3 else 2) ≤ 140737488355328) :
    Calls Tryz.prog 179 #[.pointer (some ⟨B, 0, none⟩), .bool r] w fun e w' => e = .returned (.tuple #[]) ∧ Wrote B l (if r then [121, 101, 115] else [110, 111]) w w' := by
  cases r
  · have HN := Lib.hid (writeS_any B l ⟨#[110, 111]⟩ w h hlen)
    clear h
    go_enter Tryz.func179, Tryz.ntmps179
    go_wp2_with fail
    refine HN.out.mono ?_
    rintro x w1 ⟨rfl, hw⟩
    have HW := Lib.hid hw
    clear hw
    go_wp2_with fail
    go_end0
    exact ⟨rfl, HW.out⟩
  · have HY := Lib.hid (writeS_any B l ⟨#[121, 101, 115]⟩ w h hlen)
    clear h
    go_enter Tryz.func179, Tryz.ntmps179
    go_wp2_with fail
    refine HY.out.mono ?_
    rintro x w1 ⟨rfl, hw⟩
    have HW := Lib.hid hw
    clear hw
    go_wp2_with fail
    go_end0
    exact ⟨rfl, HW.out⟩
set_option maxHeartbeats 400000 in
theorem between_any (B : Nat) (l : List UInt8) (i : Nat) (w : World) (h : IsT B l w) (hlen : l.length + 1 ≤ 140737488355328) :
    Calls Tryz.prog 198 #[.pointer (some ⟨B, 0, none⟩), .int .i64 i] w fun e w' => e = .returned (.tuple #[]) ∧ Wrote B l (if 0 < i then [32] else []) w w' := by
  have HY := Lib.hid (writeB_any B l 32 w h hlen)
  have H0 := Lib.hid (Wrote.nil h)
  clear h
  by_cases hi : 0 < i
  · have hi' : (0 : Int) < (i : Int) := by omega
    have R := Lib.hid (show (if 0 < i then [32] else []) = ([32] : List UInt8) by simp [hi])
    go_enter Tryz.func198, Tryz.ntmps198
    go_wp2_with fail
    refine HY.out.mono ?_
    rintro x w1 ⟨rfl, hw⟩
    have HW := Lib.hid hw
    clear hw
    go_wp2_with fail
    go_end0
    exact ⟨rfl, by first | exact HW.out | (rw [R.out]; exact HW.out)⟩
  · obtain rfl : i = 0 := by omega
    go_enter Tryz.func198, Tryz.ntmps198
    go_wp2_with fail
    go_end0
    exact ⟨rfl, H0.out⟩
set_option maxRecDepth 100000 in
set_option maxHeartbeats 400000 in
theorem number_any (B : Nat) (l : List UInt8) (n : Int) (hn : -9223372036854775808 ≤ n ∧ n ≤ 9223372036854775807) (w : World) (h : IsT B l w) (hlen : l.length + (Lib.itoa n).length ≤ 140737488355328) (htab : Lib.TabIs Tryz.prog w "internal/strconv.uint64pow10" .u64 Lib.pow10Tab) :
    Calls Tryz.prog 178 #[.pointer (some ⟨B, 0, none⟩), .int .i64 n] w fun e w' => e = .returned (.tuple #[]) ∧ Wrote B l (Lib.itoa n) w w' := by
  have HF := Lib.hid (Tryz.strconv_FormatInt_10 n hn.1 hn.2 w.drew htab)
  have HT := Lib.hid h
  have HS := Lib.hid (fun W (hW : Below w.heap.size w W) => writeS_any B l ⟨(Lib.itoa n).toArray⟩ W (h.below hW) (by simpa using hlen))
  clear h htab
  go_enter Tryz.func178, Tryz.ntmps178
  go_wp2_with fail
  go_region_with ((first | (go_at_call 196; refine HF.out.mono ?_; rintro x w1 ⟨rfl, kk, os, rfl⟩) | (go_at_call 160; refine (HS.out _ ?_).mono ?_; (exact Lib.below_grow _ _ (Nat.le_refl _) _ _); rintro x w2 ⟨rfl, hw2⟩)))
  have HW := Lib.hid hw2
  clear hw2
  go_wp2_with fail
  go_end0
  refine ⟨rfl, HW.out.1, ?_⟩
  exact (Fr.of_below (Lib.below_grow _ _ (Nat.le_refl _) _ _) HT.out.2).trans HW.out.2
end Go.Proofs.YtmhemajcnfcdmaaGreatDoor
namespace Go.Proofs.YtmhemajcnfcdmaaGreatDoor
open Go.RowKit
def escTo (s : List UInt8) (j : Nat) : List UInt8 := (s.take j).flatMap escB
theorem escTo_succ {s : List UInt8} {j : Nat} (h : j < s.length) : escTo s (j + 1) = escTo s j ++ escB s[j] := by
  rw [escTo, escTo, List.take_succ_eq_append_getElem h, List.flatMap_append]
  simp
theorem escTo_len {s : List UInt8} (j : Nat) : (escTo s j).length ≤ (s.flatMap escB).length := by
  have h := congrArg (fun l => (List.flatMap escB l).length) (List.take_append_drop j s)
  simp only [List.flatMap_append, List.length_append] at h
  rw [escTo]
  omega
theorem ne_byte {c : UInt8} {k : Nat} (h : ¬ c = UInt8.ofNat k) : ((c.toNat : Int) == (k : Int)) = false := by
  rw [beq_eq_false_iff_ne]
  intro e
  apply h
  have : c.toNat = k := by omega
  rw [← this, UInt8.ofNat_toNat]
set_option maxRecDepth 100000 in
set_option maxHeartbeats 2000000 in
theorem quoted_any (B : Nat) (l : List UInt8) (s : ByteArray) (w : World) (hs : s.size ≤ maxLen) (h : IsT B l w) (hlen : l.length + (quotedL s.data.toList).length ≤ 140737488355328) :
    Calls Tryz.prog 180 #[.pointer (some ⟨B, 0, none⟩), .string s] w fun e w' => e = .returned (.tuple #[]) ∧ Wrote B l (quotedL s.data.toList) w w' := by
  have hq : (quotedL s.data.toList).length = (s.data.toList.flatMap escB).length + 2 := by simp [quotedL]
  have HB := Lib.hid (fun (l' : List UInt8) (c : UInt8) (W : World) (h : IsT B l' W) (hl : l'.length + 1 ≤ 140737488355328) => writeB_any B l' c W h hl)
  have HN := Lib.hid (fun (l' : List UInt8) (W : World) (h : IsT B l' W) (hl : l'.length + 2 ≤ 140737488355328) => writeS_any B l' ⟨#[92, 110]⟩ W h hl)
  have H0 := Lib.hid (writeB_any B l 34 w h (by omega))
  have HQ := Lib.hid hq
  have HL := Lib.hid hlen
  unfold maxLen at hs
  clear h hq hlen
  go_enter Tryz.func180, Tryz.ntmps180
  go_wp2_with fail
  refine H0.out.mono ?_
  rintro x w1 ⟨rfl, hw⟩
  have HW := Lib.hid hw
  clear hw
  go_wp2_with fail
  go_loopw [12] (fun i wr => ∃ j : Nat, j ≤ s.size ∧ i = .int .i64 j ∧ Wrote B l (34 :: escTo s.data.toList j) w wr) (fun i _ => s.size - (intOf i).toNat)
  case atStart => exact ⟨0, Nat.zero_le _, rfl, HW.out⟩
  case round =>
    obtain ⟨j, hj, rfl, hw⟩ := hrel
    have HR := Lib.hid hw
    clear hw
    by_cases hlt : j < s.size
    · have hjl : j < s.data.toList.length := by simpa using hlt
      have HE : Hid (escTo s.data.toList (j + 1) = escTo s.data.toList j ++ escB s[j]) := escTo_succ hjl
      have bnd : Hid (∀ k, k < (escB s[j]).length → (l ++ 34 :: escTo s.data.toList j).length + k + 1 ≤ 140737488355328) := by
        intro k hk
        have hle := escTo_len (s := s.data.toList) (j + 1)
        have e1 := congrArg List.length HE.out
        have e2 := HQ.out
        have e3 := HL.out
        simp only [List.length_append] at e1
        simp only [List.length_append, List.length_cons]
        omega
      by_cases c34 : s[j] = 34
      · have E : Hid (escB s[j] = [92, 34]) := by simp [Hid, escB, c34]
        have B1 := Lib.hid (bnd.out 0 (by rw [E.out]; simp))
        have B2 := Lib.hid (bnd.out 1 (by rw [E.out]; simp))
        clear bnd
        go_wp2_with fail
        refine (HB.out _ 92 _ HR.out.1 (by have := B1.out; omega)).mono ?_
        rintro x w2 ⟨rfl, hw2⟩
        have HW2 := Lib.hid (HR.out.trans hw2)
        clear hw2
        go_wp2_with fail
        refine (HB.out _ 34 _ HW2.out.1 (by have := B2.out; simp at this ⊢; omega)).mono ?_
        rintro x w3 ⟨rfl, hw3⟩
        have HW3 : Hid (Wrote B l (34 :: escTo s.data.toList (j + 1)) w w3) := by
          have h3 := HW2.out.trans hw3
          have e3 : ((34 :: escTo s.data.toList j) ++ [92]) ++ [34] = 34 :: escTo s.data.toList (j + 1) := by
            rw [HE.out, E.out]
            simp
          rw [e3] at h3
          exact h3
        clear hw3
        go_wp2_with fail
        go_roundw
        case rel => exact ⟨j + 1, by omega, by go_num, HW3.out⟩
        case measure => simp [intOf]; omega
      by_cases c92 : s[j] = 92
      · have n34 : ((s[j].toNat : Int) == 34) = false := ne_byte c34
        clear c34
        have E : Hid (escB s[j] = [92, 92]) := by simp [Hid, escB, c92]
        have B1 := Lib.hid (bnd.out 0 (by rw [E.out]; simp))
        have B2 := Lib.hid (bnd.out 1 (by rw [E.out]; simp))
        clear bnd
        go_wp2_with fail
        refine (HB.out _ 92 _ HR.out.1 (by have := B1.out; omega)).mono ?_
        rintro x w2 ⟨rfl, hw2⟩
        have HW2 := Lib.hid (HR.out.trans hw2)
        clear hw2
        go_wp2_with fail
        refine (HB.out _ 92 _ HW2.out.1 (by have := B2.out; simp at this ⊢; omega)).mono ?_
        rintro x w3 ⟨rfl, hw3⟩
        have HW3 : Hid (Wrote B l (34 :: escTo s.data.toList (j + 1)) w w3) := by
          have h3 := HW2.out.trans hw3
          have e3 : ((34 :: escTo s.data.toList j) ++ [92]) ++ [92] = 34 :: escTo s.data.toList (j + 1) := by
            rw [HE.out, E.out]
            simp
          rw [e3] at h3
          exact h3
        clear hw3
        go_wp2_with fail
        go_roundw
        case rel => exact ⟨j + 1, by omega, by go_num, HW3.out⟩
        case measure => simp [intOf]; omega
      by_cases c10 : s[j] = 10
      · have n34 : ((s[j].toNat : Int) == 34) = false := ne_byte c34
        have n92 : ((s[j].toNat : Int) == 92) = false := ne_byte c92
        clear c34 c92
        have E : Hid (escB s[j] = [92, 110]) := by simp [Hid, escB, c10]
        have B2 := Lib.hid (bnd.out 1 (by rw [E.out]; simp))
        clear bnd
        go_wp2_with fail
        refine (HN.out _ _ HR.out.1 (by have := B2.out; omega)).mono ?_
        rintro x w3 ⟨rfl, hw3⟩
        have HW3 : Hid (Wrote B l (34 :: escTo s.data.toList (j + 1)) w w3) := by
          have h3 := HR.out.trans hw3
          have e3 : (34 :: escTo s.data.toList j) ++ [92, 110] = 34 :: escTo s.data.toList (j + 1) := by
            rw [HE.out, E.out]
            simp
          rw [e3] at h3
          exact h3
        clear hw3
        go_wp2_with fail
        go_roundw
        case rel => exact ⟨j + 1, by omega, by go_num, HW3.out⟩
        case measure => simp [intOf]; omega
      · have n34 : ((s[j].toNat : Int) == 34) = false := ne_byte c34
        have n92 : ((s[j].toNat : Int) == 92) = false := ne_byte c92
        have n10 : ((s[j].toNat : Int) == 10) = false := ne_byte c10
        have E : Hid (escB s[j] = [s[j]]) := by simp [Hid, escB, c34, c92, c10]
        have B2 := Lib.hid (bnd.out 0 (by rw [E.out]; simp))
        clear bnd
        go_wp2_with fail
        refine (HB.out _ s[j] _ HR.out.1 (by have := B2.out; omega)).mono ?_
        rintro x w3 ⟨rfl, hw3⟩
        have HW3 : Hid (Wrote B l (34 :: escTo s.data.toList (j + 1)) w w3) := by
          have h3 := HR.out.trans hw3
          have e3 : (34 :: escTo s.data.toList j) ++ [s[j]] = 34 :: escTo s.data.toList (j + 1) := by
            rw [HE.out, E.out]
            simp
          rw [e3] at h3
          exact h3
        clear hw3
        go_wp2_with fail
        go_roundw
        case rel => exact ⟨j + 1, by omega, by go_num, HW3.out⟩
        case measure => simp [intOf]; omega
    · obtain rfl : s.size = j := by omega
      have HA : Hid (escTo s.data.toList s.size = s.data.toList.flatMap escB) := by
        have e : s.data.toList.length ≤ s.size := by simp
        show (s.data.toList.take s.size).flatMap escB = _
        rw [List.take_of_length_le e]
      have B3 : Hid ((l ++ 34 :: escTo s.data.toList s.size).length + 1 ≤ 140737488355328) := by
        have e2 := HQ.out
        have e3 := HL.out
        rw [HA.out]
        simp only [Hid, List.length_append, List.length_cons]
        omega
      go_wp2_with fail
      refine (HB.out _ 34 _ HR.out.1 B3.out).mono ?_
      rintro x w3 ⟨rfl, hw3⟩
      have HW3 : Hid (Wrote B l (quotedL s.data.toList) w w3) := by
        have h3 := HR.out.trans hw3
        have e3 : (34 :: escTo s.data.toList s.size) ++ [34] = quotedL s.data.toList := by
          rw [HA.out]
          rfl
        rw [e3] at h3
        exact h3
      clear hw3
      go_wp2_with fail
      go_end0
      exact ⟨rfl, HW3.out⟩
end Go.Proofs.YtmhemajcnfcdmaaGreatDoor
namespace Go.Proofs.YtmhemajcnfcdmaaGreatDoor
open Go.RowKit
def WordsAt (w : World) : Prop := ∀ e : Nat, e < 9 → w.cell? ⟨1, e, none⟩ = some (.string ⟨(wordL e).toArray⟩)
def tellF (B : Nat) : Value := .func (Fn.func 177) #[] #[.pointer (some ⟨B + 1, 0, none⟩), .pointer (some ⟨B + 2, 0, none⟩)]
structure TE (B : Nat) (w0 w : World) : Prop where
  sz : w0.heap.size = B
  below : Below B w0 w
  t : w.heap[B + 1]? = some (.cells #[.pointer (some ⟨B, 0, none⟩)] 226 (0, 0))
  f : w.heap[B + 2]? = some (.cells #[tellF B] 229 (0, 0))
theorem TE.fr {B : Nat} {w0 w w' : World} (h : TE B w0 w) (hf : Fr B w w') : TE B w0 w' :=
  ⟨h.sz, h.below.trans hf.1, by rw [hf.2.1]; exact h.t, by rw [hf.2.2]; exact h.f⟩
def V.good : V → Prop
  | .leaf => True
  | .mk k _ _ _ ll _ L _ fl _ _ F e _ _ => (k = 6 → 1 ≤ e ∧ e ≤ 8) ∧ (∀ i, i < ll → (L i).good) ∧ (∀ i, i < fl → (F i).good)
def TellOk (v : V) : Prop := ∀ (w0 w : World) (B b o : Nat) (l : List UInt8), v.In w0 → At w0 b o v.cells → WordsAt w0 → Lib.TabIs Tryz.prog w0 "internal/strconv.uint64pow10" .u64 Lib.pow10Tab → TE B w0 w → IsT B l w → l.length + v.told.length ≤ 140737488355328 → v.good →
  Calls Tryz.prog 177 #[.pointer (some ⟨b, o, none⟩), .pointer (some ⟨B + 1, 0, none⟩), .pointer (some ⟨B + 2, 0, none⟩)] w fun e w' => e = .returned (.tuple #[]) ∧ Wrote B l v.told w w'
theorem sepTo_mono (f : Nat → List UInt8) {j n : Nat} (h : j ≤ n) : (sepTo j f).length ≤ (sepTo n f).length := by
  induction n with
  | zero =>
    obtain rfl : j = 0 := by omega
    exact Nat.le_refl _
  | succ n ih =>
    rcases Nat.lt_or_ge n j with h1 | h1
    · obtain rfl : j = n + 1 := by omega
      exact Nat.le_refl _
    · have := ih h1
      simp only [sepTo, List.length_append]
      omega
set_option maxRecDepth 100000 in
set_option maxHeartbeats 2000000 in
theorem list_any (w0 : World) (B : Nat) (l : List UInt8) (la : Option Addr) (ll lc : Nat) (L : Nat → V) (hv : ∀ i, i < ll → TellOk (L i)) (w : World) (hlc : ll ≤ lc ∧ lc ≤ maxLen)
    (h : ∀ i, i < ll → (∃ b o, la = some ⟨b, o, none⟩ ∧ At w0 b (o + i * 8) (L i).cells) ∧ (L i).In w0) (hg : ∀ i, i < ll → (L i).good) (hwd : WordsAt w0) (htb : Lib.TabIs Tryz.prog w0 "internal/strconv.uint64pow10" .u64 Lib.pow10Tab)
    (he : TE B w0 w) (ht : IsT B l w) (hlen : l.length + (listL ll (fun i => (L i).told)).length ≤ 140737488355328) :
    Calls Tryz.prog 181 #[.pointer (some ⟨B, 0, none⟩), .slice la ll lc, tellF B] w fun e w' => e = .returned (.tuple #[]) ∧ Wrote B l (listL ll (fun i => (L i).told)) w w' := by
  have hq : (listL ll (fun i => (L i).told)).length = (sepTo ll (fun i => (L i).told)).length + 2 := by simp [listL]
  have H0 := Lib.hid (writeB_any B l 91 w ht (by omega))
  have HB := Lib.hid (fun (l' : List UInt8) (c : UInt8) (W : World) (h : IsT B l' W) (hl : l'.length + 1 ≤ 140737488355328) => writeB_any B l' c W h hl)
  have HW := Lib.hid (fun (l' : List UInt8) (i : Nat) (W : World) (h : IsT B l' W) (hl : l'.length + 1 ≤ 140737488355328) => between_any B l' i W h hl)
  have HQ := Lib.hid hq
  have HLn := Lib.hid hlen
  have HV := Lib.hid (fun i hi W l' b o (hat : At w0 b o (L i).cells) (hfr : Fr B w W) hT hl => hv i hi w0 W B b o l' (h i hi).2 hat hwd htb (he.fr hfr) hT hl (hg i hi))
  have H := Lib.hid h
  unfold maxLen at hlc
  have bnd : Hid (∀ j, j < ll → (sepTo j (fun i => (L i).told)).length + ((if 0 < j then [32] else [] : List UInt8).length + (L j).told.length) + l.length + 2 ≤ 140737488355328) := by
    intro j hj
    have h1 := sepTo_mono (fun i => (L i).told) (show j + 1 ≤ ll from hj)
    simp only [sepTo, List.length_append] at h1
    omega
  unfold tellF
  by_cases hz : ll = 0
  · subst hz
    clear hv h hg hwd htb he ht hq hlen
    go_enter Tryz.func181, Tryz.ntmps181
    go_wp2_with fail
    refine H0.out.mono ?_
    rintro x w1 ⟨rfl, hw⟩
    have HW1 := Lib.hid hw
    clear hw
    go_wp2_with fail
    go_loopw [13] (fun i wr => i = .int .i64 0 ∧ Wrote B l [91] w wr) (fun _ _ => 0)
    case atStart => exact ⟨rfl, HW1.out⟩
    case round =>
      obtain ⟨rfl, hw⟩ := hrel
      have HR := Lib.hid hw
      clear hw
      go_wp2_with fail
      refine (HB.out _ 93 _ HR.out.1 (by have := HLn.out; have := HQ.out; simp [sepTo] at this ⊢; omega)).mono ?_
      rintro x w3 ⟨rfl, hw3⟩
      have HW3 := Lib.hid (HR.out.trans hw3)
      clear hw3
      go_wp2_with fail
      go_end0
      exact ⟨rfl, HW3.out⟩
  · obtain ⟨⟨lb, lo, rfl, -⟩, -⟩ := h 0 (by omega)
    clear hv h hg hwd htb he ht hq hlen
    go_enter Tryz.func181, Tryz.ntmps181
    go_wp2_with fail
    refine H0.out.mono ?_
    rintro x w1 ⟨rfl, hw⟩
    have HW1 := Lib.hid hw
    clear hw
    go_wp2_with fail
    go_loopw [13] (fun i wr => ∃ j : Nat, j ≤ ll ∧ i = .int .i64 j ∧ Wrote B l (91 :: sepTo j (fun i => (L i).told)) w wr) (fun i _ => ll - (intOf i).toNat)
    case atStart => exact ⟨0, Nat.zero_le _, rfl, HW1.out⟩
    case round =>
      obtain ⟨j, hj, rfl, hw⟩ := hrel
      have HR := Lib.hid hw
      clear hw
      by_cases hlt : j < ll
      · obtain ⟨⟨b1, o1, hee, hat⟩, -⟩ := H.out j hlt
        simp only [Option.some.injEq, Addr.mk.injEq, and_true] at hee
        obtain ⟨rfl, rfl⟩ := hee
        have HX := Lib.hid (fun W l' hfr hT hl => HV.out j hlt W l' _ _ hat hfr hT hl)
        have B1 := Lib.hid (bnd.out j hlt)
        clear hat
        go_wp2_with fail
        refine (HW.out _ j _ HR.out.1 (by have := B1.out; simp at this ⊢; omega)).mono ?_
        rintro x w2 ⟨rfl, hw2⟩
        have HW2 := Lib.hid (HR.out.trans hw2)
        clear hw2
        go_wp2_with fail
        refine (HX.out _ _ HW2.out.2 HW2.out.1 (by have := B1.out; simp only [List.length_append, List.length_cons] at this ⊢; omega)).mono ?_
        rintro x w3 ⟨rfl, hw3⟩
        have HW3 : Hid (Wrote B l (91 :: sepTo (j + 1) (fun i => (L i).told)) w w3) := by
          have h3 := HW2.out.trans hw3
          have e3 : ((91 :: sepTo j (fun i => (L i).told)) ++ (if 0 < j then [32] else [])) ++ (L j).told = 91 :: sepTo (j + 1) (fun i => (L i).told) := by simp [sepTo]
          rw [e3] at h3
          exact h3
        clear hw3
        go_wp2_with fail
        go_roundw
        case rel => exact ⟨j + 1, by omega, by go_num, HW3.out⟩
        case measure => simp [intOf]; omega
      · obtain rfl : ll = j := by omega
        go_wp2_with fail
        refine (HB.out _ 93 _ HR.out.1 (by have := HLn.out; have := HQ.out; simp only [List.length_append, List.length_cons] at this ⊢; omega)).mono ?_
        rintro x w3 ⟨rfl, hw3⟩
        have HW3 := Lib.hid (HR.out.trans hw3)
        clear hw3
        go_wp2_with fail
        go_end0
        exact ⟨rfl, HW3.out⟩
end Go.Proofs.YtmhemajcnfcdmaaGreatDoor
namespace Go.Proofs.YtmhemajcnfcdmaaGreatDoor
open Go.RowKit
def fieldL (fn : Nat → ByteArray) (F : Nat → V) (i : Nat) : List UInt8 := quotedL (fn i).data.toList ++ (32 :: (F i).told)
theorem At.tail1 {w : World} {b o : Nat} {x : Value} {cs : List Value} (h : At w b o (x :: cs)) : At w b (o + 1) cs := by
  intro i hi
  have := h (i + 1) (by simpa using hi)
  rw [show o + 1 + i = o + (i + 1) by omega, this]
  rfl
set_option maxRecDepth 100000 in
set_option maxHeartbeats 2000000 in
theorem record_any (w0 : World) (B : Nat) (l : List UInt8) (fa : Option Addr) (fl fc : Nat) (fn : Nat → ByteArray) (F : Nat → V) (hv : ∀ i, i < fl → TellOk (F i)) (w : World) (hlc : fl ≤ fc ∧ fc ≤ maxLen)
    (h : ∀ i, i < fl → (∃ b o, fa = some ⟨b, o, none⟩ ∧ At w0 b (o + i * 9) (.string (fn i) :: (F i).cells)) ∧ (fn i).size ≤ maxLen ∧ (F i).In w0) (hg : ∀ i, i < fl → (F i).good) (hwd : WordsAt w0) (htb : Lib.TabIs Tryz.prog w0 "internal/strconv.uint64pow10" .u64 Lib.pow10Tab)
    (he : TE B w0 w) (ht : IsT B l w) (hlen : l.length + (recL fl fn (fun i => (F i).told)).length ≤ 140737488355328) :
    Calls Tryz.prog 182 #[.pointer (some ⟨B, 0, none⟩), .slice fa fl fc, tellF B] w fun e w' => e = .returned (.tuple #[]) ∧ Wrote B l (recL fl fn (fun i => (F i).told)) w w' := by
  have hrl : recL fl fn (fun i => (F i).told) = 123 :: (sepTo fl (fieldL fn F) ++ [125]) := rfl
  rw [hrl] at hlen ⊢
  have hq : (123 :: (sepTo fl (fieldL fn F) ++ [125])).length = (sepTo fl (fieldL fn F)).length + 2 := by simp
  have H0 := Lib.hid (writeB_any B l 123 w ht (by omega))
  have HB := Lib.hid (fun (l' : List UInt8) (c : UInt8) (W : World) (h : IsT B l' W) (hl : l'.length + 1 ≤ 140737488355328) => writeB_any B l' c W h hl)
  have HW := Lib.hid (fun (l' : List UInt8) (i : Nat) (W : World) (h : IsT B l' W) (hl : l'.length + 1 ≤ 140737488355328) => between_any B l' i W h hl)
  have hlen2 := hlen
  rw [hq] at hlen2
  have HLn := Lib.hid hlen2
  have HV := Lib.hid (fun i hi W l' b o (hat : At w0 b o (F i).cells) (hfr : Fr B w W) hT hl => hv i hi w0 W B b o l' (h i hi).2.2 hat hwd htb (he.fr hfr) hT hl (hg i hi))
  have HNm := Lib.hid (fun i hi (l' : List UInt8) (W : World) (h' : IsT B l' W) hl => quoted_any B l' (fn i) W (h i hi).2.1 h' hl)
  have HC := Lib.hid (fun W (hfr : Fr B w W) b o v (hc : w0.cell? ⟨b, o, none⟩ = some v) => show W.cell? ⟨b, o, none⟩ = some v by
    have hbl : b < B := by rw [← he.sz]; exact World.block_lt_of_cell? _ _ hc
    rw [(he.fr hfr).below.cell (p := ⟨b, o, none⟩) hbl, hc])
  have H := Lib.hid h
  unfold maxLen at hlc
  have bnd : Hid (∀ j, j < fl → (sepTo j (fieldL fn F)).length + ((if 0 < j then [32] else [] : List UInt8).length + ((quotedL (fn j).data.toList).length + ((F j).told.length + 1))) + l.length + 2 ≤ 140737488355328) := by
    intro j hj
    have h1 := sepTo_mono (fieldL fn F) (show j + 1 ≤ fl from hj)
    have h2 : (fieldL fn F j).length = (quotedL (fn j).data.toList).length + ((F j).told.length + 1) := by simp [fieldL]
    simp only [sepTo, List.length_append] at h1
    omega
  unfold tellF
  by_cases hz : fl = 0
  · subst hz
    clear hv h hg hwd htb he ht hq hlen hlen2
    go_enter Tryz.func182, Tryz.ntmps182
    go_wp2_with fail
    refine H0.out.mono ?_
    rintro x w1 ⟨rfl, hw⟩
    have HW1 := Lib.hid hw
    clear hw
    go_wp2_with fail
    go_loopw [13] (fun i wr => i = .int .i64 0 ∧ Wrote B l [123] w wr) (fun _ _ => 0)
    case atStart => exact ⟨rfl, HW1.out⟩
    case round =>
      obtain ⟨rfl, hw⟩ := hrel
      have HR := Lib.hid hw
      clear hw
      go_wp2_with fail
      refine (HB.out _ 125 _ HR.out.1 (by have := HLn.out; simp [sepTo] at this ⊢; omega)).mono ?_
      rintro x w3 ⟨rfl, hw3⟩
      have HW3 := Lib.hid (HR.out.trans hw3)
      clear hw3
      go_wp2_with fail
      go_end0
      exact ⟨rfl, HW3.out⟩
  · obtain ⟨⟨fb, fo, rfl, -⟩, -⟩ := h 0 (by omega)
    clear hv h hg hwd htb he ht hq hlen hlen2
    go_enter Tryz.func182, Tryz.ntmps182
    go_wp2_with fail
    refine H0.out.mono ?_
    rintro x w1 ⟨rfl, hw⟩
    have HW1 := Lib.hid hw
    clear hw
    go_wp2_with fail
    go_loopw [13] (fun i wr => ∃ j : Nat, j ≤ fl ∧ i = .int .i64 j ∧ Wrote B l (123 :: sepTo j (fieldL fn F)) w wr) (fun i _ => fl - (intOf i).toNat)
    case atStart => exact ⟨0, Nat.zero_le _, rfl, HW1.out⟩
    case round =>
      obtain ⟨j, hj, rfl, hw⟩ := hrel
      have HR := Lib.hid hw
      clear hw
      by_cases hlt : j < fl
      · obtain ⟨⟨b1, o1, hee, hat⟩, -, -⟩ := H.out j hlt
        simp only [Option.some.injEq, Addr.mk.injEq, and_true] at hee
        obtain ⟨rfl, rfl⟩ := hee
        have HX := Lib.hid (fun W l' hfr hT hl => HV.out j hlt W l' _ _ hat.tail1 hfr hT hl)
        have HN2 := Lib.hid (fun l' W h' hl => HNm.out j hlt l' W h' hl)
        have hn0 : w0.cell? ⟨fb, fo + j * 9, none⟩ = some (.string (fn j)) := by simpa using hat 0 (by simp)
        have HN0 := Lib.hid hn0
        have B1 := Lib.hid (bnd.out j hlt)
        clear hat hn0
        go_wp2_with fail
        refine (HW.out _ j _ HR.out.1 (by have := B1.out; simp at this ⊢; omega)).mono ?_
        rintro x w2 ⟨rfl, hw2⟩
        have n0 := HC.out w2 (HR.out.trans hw2).2 _ _ _ HN0.out
        have HW2 := Lib.hid (HR.out.trans hw2)
        clear hw2
        go_wp2_with fail
        refine (HN2.out _ _ HW2.out.1 (by have := B1.out; simp only [List.length_append, List.length_cons] at this ⊢; omega)).mono ?_
        rintro x w4 ⟨rfl, hw4⟩
        have HW4 := Lib.hid (HW2.out.trans hw4)
        clear hw4 n0
        go_wp2_with fail
        refine (HB.out _ 32 _ HW4.out.1 (by have := B1.out; simp only [List.length_append, List.length_cons] at this ⊢; omega)).mono ?_
        rintro x w5 ⟨rfl, hw5⟩
        have HW5 := Lib.hid (HW4.out.trans hw5)
        clear hw5
        go_wp2_with fail
        refine (HX.out _ _ HW5.out.2 HW5.out.1 (by have := B1.out; simp only [List.length_append, List.length_cons, List.length_nil] at this ⊢; omega)).mono ?_
        rintro x w3 ⟨rfl, hw3⟩
        have HW3 : Hid (Wrote B l (123 :: sepTo (j + 1) (fieldL fn F)) w w3) := by
          have h3 := HW5.out.trans hw3
          have e3 : ((((123 :: sepTo j (fieldL fn F)) ++ (if 0 < j then [32] else [])) ++ quotedL (fn j).data.toList) ++ [32]) ++ (F j).told = 123 :: sepTo (j + 1) (fieldL fn F) := by simp [sepTo, fieldL]
          rw [e3] at h3
          exact h3
        clear hw3
        go_wp2_with fail
        go_roundw
        case rel => exact ⟨j + 1, by omega, by go_num, HW3.out⟩
        case measure => simp [intOf]; omega
      · obtain rfl : fl = j := by omega
        go_wp2_with fail
        refine (HB.out _ 125 _ HR.out.1 (by have := HLn.out; simp only [List.length_append, List.length_cons]; omega)).mono ?_
        rintro x w3 ⟨rfl, hw3⟩
        have HW3 := Lib.hid (HR.out.trans hw3)
        clear hw3
        go_wp2_with fail
        go_end0
        exact ⟨rfl, HW3.out⟩
end Go.Proofs.YtmhemajcnfcdmaaGreatDoor
