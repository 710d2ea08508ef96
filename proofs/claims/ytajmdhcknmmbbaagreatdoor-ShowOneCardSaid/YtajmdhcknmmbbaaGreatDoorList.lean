/-
  Walks: what the teller's methods 'list' and 'record' write, if the closure writes the text of each part.
  Conditions: the values lie in memory; the teller in block B, the closure's two variables in the blocks behind it.
-/
import Derived.Test.YtajmdhcknmmbbaaGreatDoorQuote
namespace Go.Proofs.YtajmdhcknmmbbaaGreatDoor
open Go.RowKit

/-- The array of words, in memory. -/
def WordsAt (w : World) : Prop := ∀ e : Nat, e < 9 → w.cell? ⟨0, e, none⟩ = some (.string ⟨(wordL e).toArray⟩)

/-- The closure as a value. -/
def tellF (B : Nat) : Value := .func (Fn.func 185) #[] #[.pointer (some ⟨B + 1, 0, none⟩), .pointer (some ⟨B + 2, 0, none⟩)]

/-- WHAT STANDS AROUND: the value's world below B; the closure's two variables. -/
structure TE (B : Nat) (w0 w : World) : Prop where
  sz : w0.heap.size = B
  below : Below B w0 w
  t : w.heap[B + 1]? = some (.cells #[.pointer (some ⟨B, 0, none⟩)] 241 (0, 0))
  f : w.heap[B + 2]? = some (.cells #[tellF B] 243 (0, 0))

theorem TE.fr {B : Nat} {w0 w w' : World} (h : TE B w0 w) (hf : Fr B w w') : TE B w0 w' :=
  ⟨h.sz, h.below.trans hf.1, by rw [hf.2.1]; exact h.t, by rw [hf.2.2]; exact h.f⟩

/-- Each element is of a kind that has a word. -/
def V.good : V → Prop
  | .leaf => True
  | .mk k _ _ _ ll _ L _ fl _ _ F e _ _ => (k = 6 → 1 ≤ e ∧ e ≤ 8) ∧ (∀ i, i < ll → (L i).good) ∧ (∀ i, i < fl → (F i).good)

def TellOk (v : V) : Prop := ∀ (w0 w : World) (B b o : Nat) (l : List UInt8), v.In w0 → At w0 b o v.cells → WordsAt w0 → Lib.TabIs Tryz.prog w0 "internal/strconv.uint64pow10" .u64 Lib.pow10Tab → TE B w0 w → IsT B l w → l.length + v.told.length ≤ 140737488355328 → v.good →
  Calls Tryz.prog 185 #[.pointer (some ⟨b, o, none⟩), .pointer (some ⟨B + 1, 0, none⟩), .pointer (some ⟨B + 2, 0, none⟩)] w fun e w' => e = .returned (.tuple #[]) ∧ Wrote B l v.told w w'

theorem sepTo_mono (f : Nat → List UInt8) {j n : Nat} (h : j ≤ n) : (sepTo j f).length ≤ (sepTo n f).length := by
  induction n with
  | zero =>
    obtain rfl : j = 0 := by omega
    exact Nat.le_refl _
  | succ n ih =>
    rcases Nat.lt_or_ge n j with h1 | h1
    · obtain rfl : j = n + 1 := by omega
      exact Nat.le_refl _
    · have := ih h1
      simp only [sepTo, List.length_append]
      omega

set_option maxRecDepth 100000 in
set_option maxHeartbeats 2000000 in
theorem list_any (w0 : World) (B : Nat) (l : List UInt8) (la : Option Addr) (ll lc : Nat) (L : Nat → V) (hv : ∀ i, i < ll → TellOk (L i)) (w : World) (hlc : ll ≤ lc ∧ lc ≤ maxLen)
    (h : ∀ i, i < ll → (∃ b o, la = some ⟨b, o, none⟩ ∧ At w0 b (o + i * 8) (L i).cells) ∧ (L i).In w0) (hg : ∀ i, i < ll → (L i).good) (hwd : WordsAt w0) (htb : Lib.TabIs Tryz.prog w0 "internal/strconv.uint64pow10" .u64 Lib.pow10Tab)
    (he : TE B w0 w) (ht : IsT B l w) (hlen : l.length + (listL ll (fun i => (L i).told)).length ≤ 140737488355328) :
    Calls Tryz.prog 189 #[.pointer (some ⟨B, 0, none⟩), .slice la ll lc, tellF B] w fun e w' => e = .returned (.tuple #[]) ∧ Wrote B l (listL ll (fun i => (L i).told)) w w' := by
  have hq : (listL ll (fun i => (L i).told)).length = (sepTo ll (fun i => (L i).told)).length + 2 := by simp [listL]
  have H0 := Lib.hid (writeB_any B l 91 w ht (by omega))
  have HB := Lib.hid (fun (l' : List UInt8) (c : UInt8) (W : World) (h : IsT B l' W) (hl : l'.length + 1 ≤ 140737488355328) => writeB_any B l' c W h hl)
  have HW := Lib.hid (fun (l' : List UInt8) (i : Nat) (W : World) (h : IsT B l' W) (hl : l'.length + 1 ≤ 140737488355328) => between_any B l' i W h hl)
  have HQ := Lib.hid hq
  have HLn := Lib.hid hlen
  have HV := Lib.hid (fun i hi W l' b o (hat : At w0 b o (L i).cells) (hfr : Fr B w W) hT hl => hv i hi w0 W B b o l' (h i hi).2 hat hwd htb (he.fr hfr) hT hl (hg i hi))
  have H := Lib.hid h
  unfold maxLen at hlc
  have bnd : Hid (∀ j, j < ll → (sepTo j (fun i => (L i).told)).length + ((if 0 < j then [32] else [] : List UInt8).length + (L j).told.length) + l.length + 2 ≤ 140737488355328) := by
    intro j hj
    have h1 := sepTo_mono (fun i => (L i).told) (show j + 1 ≤ ll from hj)
    simp only [sepTo, List.length_append] at h1
    omega
  unfold tellF
  by_cases hz : ll = 0
  · subst hz
    clear hv h hg hwd htb he ht hq hlen
    go_enter Tryz.func189, Tryz.ntmps189
    go_wp2_with fail
    refine H0.out.mono ?_
    rintro x w1 ⟨rfl, hw⟩
    have HW1 := Lib.hid hw
    clear hw
    go_wp2_with fail
    go_loopw [13] (fun i wr => i = .int .i64 0 ∧ Wrote B l [91] w wr) (fun _ _ => 0)
    case atStart => exact ⟨rfl, HW1.out⟩
    case round =>
      obtain ⟨rfl, hw⟩ := hrel
      have HR := Lib.hid hw
      clear hw
      go_wp2_with fail
      refine (HB.out _ 93 _ HR.out.1 (by have := HLn.out; have := HQ.out; simp [sepTo] at this ⊢; omega)).mono ?_
      rintro x w3 ⟨rfl, hw3⟩
      have HW3 := Lib.hid (HR.out.trans hw3)
      clear hw3
      go_wp2_with fail
      go_end0
      exact ⟨rfl, HW3.out⟩
  · obtain ⟨⟨lb, lo, rfl, -⟩, -⟩ := h 0 (by omega)
    clear hv h hg hwd htb he ht hq hlen
    go_enter Tryz.func189, Tryz.ntmps189
    go_wp2_with fail
    refine H0.out.mono ?_
    rintro x w1 ⟨rfl, hw⟩
    have HW1 := Lib.hid hw
    clear hw
    go_wp2_with fail
    go_loopw [13] (fun i wr => ∃ j : Nat, j ≤ ll ∧ i = .int .i64 j ∧ Wrote B l (91 :: sepTo j (fun i => (L i).told)) w wr) (fun i _ => ll - (intOf i).toNat)
    case atStart => exact ⟨0, Nat.zero_le _, rfl, HW1.out⟩
    case round =>
      obtain ⟨j, hj, rfl, hw⟩ := hrel
      have HR := Lib.hid hw
      clear hw
      by_cases hlt : j < ll
      · obtain ⟨⟨b1, o1, hee, hat⟩, -⟩ := H.out j hlt
        simp only [Option.some.injEq, Addr.mk.injEq, and_true] at hee
        obtain ⟨rfl, rfl⟩ := hee
        have HX := Lib.hid (fun W l' hfr hT hl => HV.out j hlt W l' _ _ hat hfr hT hl)
        have B1 := Lib.hid (bnd.out j hlt)
        clear hat
        go_wp2_with fail
        refine (HW.out _ j _ HR.out.1 (by have := B1.out; simp at this ⊢; omega)).mono ?_
        rintro x w2 ⟨rfl, hw2⟩
        have HW2 := Lib.hid (HR.out.trans hw2)
        clear hw2
        go_wp2_with fail
        refine (HX.out _ _ HW2.out.2 HW2.out.1 (by have := B1.out; simp only [List.length_append, List.length_cons] at this ⊢; omega)).mono ?_
        rintro x w3 ⟨rfl, hw3⟩
        have HW3 : Hid (Wrote B l (91 :: sepTo (j + 1) (fun i => (L i).told)) w w3) := by
          have h3 := HW2.out.trans hw3
          have e3 : ((91 :: sepTo j (fun i => (L i).told)) ++ (if 0 < j then [32] else [])) ++ (L j).told = 91 :: sepTo (j + 1) (fun i => (L i).told) := by simp [sepTo]
          rw [e3] at h3
          exact h3
        clear hw3
        go_wp2_with fail
        go_roundw
        case rel => exact ⟨j + 1, by omega, by go_num, HW3.out⟩
        case measure => simp [intOf]; omega
      · obtain rfl : ll = j := by omega
        go_wp2_with fail
        refine (HB.out _ 93 _ HR.out.1 (by have := HLn.out; have := HQ.out; simp only [List.length_append, List.length_cons] at this ⊢; omega)).mono ?_
        rintro x w3 ⟨rfl, hw3⟩
        have HW3 := Lib.hid (HR.out.trans hw3)
        clear hw3
        go_wp2_with fail
        go_end0
        exact ⟨rfl, HW3.out⟩
end Go.Proofs.YtajmdhcknmmbbaaGreatDoor
