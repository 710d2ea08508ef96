/-
  Walks: what the teller's methods write: 'truth', 'between', 'quoted', 'number'.
  Conditions: the teller lies in block B; the table of powers of ten holds what the library's text lays in it.
-/
import Derived.Test.YtajmdhcknmmbbaaGreatDoorBuild
import Derived.Test.YtajmdhcknmmbbaaGreatDoorTellP
import Derived.Test.YtajmdhcknmmbbaaGreatDoorShelf
import Derived.StillTailTactics
import Derived.Lib.AppendIntMem
namespace Go.Proofs.YtajmdhcknmmbbaaGreatDoor
open Go.RowKit

theorem Wrote.trans {B : Nat} {l a b : List UInt8} {w w1 w2 : World} (h : Wrote B l a w w1) (k : Wrote B (l ++ a) b w1 w2) : Wrote B l (a ++ b) w w2 :=
  ⟨by rw [← List.append_assoc]; exact k.1, h.2.trans k.2⟩

theorem Wrote.nil {B : Nat} {l : List UInt8} {w : World} (h : IsT B l w) : Wrote B l [] w w := ⟨by rw [List.append_nil]; exact h, Fr.refl _ _⟩

theorem Fr.of_below {B : Nat} {w w' : World} (hb : Below w.heap.size w w') (h : B + 2 < w.heap.size) : Fr B w w' :=
  ⟨hb.mono (by omega), hb.block _ (by omega), hb.block _ h⟩

theorem BAt.below {B : Nat} {p : Value} {bs : List Value} {w w' : World} (h : BAt B p bs w) (hb : Below w.heap.size w w') : BAt B p bs w' := by
  have hlt := h.lt
  obtain ⟨v, hbk, ho⟩ := h
  refine ⟨v, by rw [hb.block B hlt]; exact hbk, ho.1, ?_⟩
  rcases ho.2 with h0 | ⟨g, cap, cur, hv, hbg, hg, r⟩
  · exact .inl h0
  · refine .inr ⟨g, cap, cur, hv, hbg, ?_, r⟩
    have hgl : g < w.heap.size := by
      rcases Nat.lt_or_ge g w.heap.size with h' | h'
      · exact h'
      · simp [Array.getElem?_eq_none h'] at hg
    rw [hb.block g hgl]
    exact hg

theorem IsT.below {B : Nat} {l : List UInt8} {w w' : World} (h : IsT B l w) (hb : Below w.heap.size w w') : IsT B l w' :=
  ⟨h.1.imp (·.below hb) (·.below hb), Nat.lt_of_lt_of_le h.2 hb.size⟩

set_option maxHeartbeats 400000 in
theorem truth_any (B : Nat) (l : List UInt8) (r : Bool) (w : World) (h : IsT B l w) (hlen : l.length + (if r then 3 else 2) ≤ 140737488355328) :
    Calls Tryz.prog 187 #[.pointer (some ⟨B, 0, none⟩), .bool r] w fun e w' => e = .returned (.tuple #[]) ∧ Wrote B l (if r then [121, 101, 115] else [110, 111]) w w' := by
  cases r
  · have HN := Lib.hid (writeS_any B l ⟨#[110, 111]⟩ w h hlen)
    clear h
    go_enter Tryz.func187, Tryz.ntmps187
    go_wp2_with fail
    refine HN.out.mono ?_
    rintro x w1 ⟨rfl, hw⟩
    have HW := Lib.hid hw
    clear hw
    go_wp2_with fail
    go_end0
    exact ⟨rfl, HW.out⟩
  · have HY := Lib.hid (writeS_any B l ⟨#[121, 101, 115]⟩ w h hlen)
    clear h
    go_enter Tryz.func187, Tryz.ntmps187
    go_wp2_with fail
    refine HY.out.mono ?_
    rintro x w1 ⟨rfl, hw⟩
    have HW := Lib.hid hw
    clear hw
    go_wp2_with fail
    go_end0
    exact ⟨rfl, HW.out⟩

set_option maxHeartbeats 400000 in
theorem between_any (B : Nat) (l : List UInt8) (i : Nat) (w : World) (h : IsT B l w) (hlen : l.length + 1 ≤ 140737488355328) :
    Calls Tryz.prog 208 #[.pointer (some ⟨B, 0, none⟩), .int .i64 i] w fun e w' => e = .returned (.tuple #[]) ∧ Wrote B l (if 0 < i then [32] else []) w w' := by
  have HY := Lib.hid (writeB_any B l 32 w h hlen)
  have H0 := Lib.hid (Wrote.nil h)
  clear h
  by_cases hi : 0 < i
  · have hi' : (0 : Int) < (i : Int) := by omega
    have R := Lib.hid (show (if 0 < i then [32] else []) = ([32] : List UInt8) by simp [hi])
    go_enter Tryz.func208, Tryz.ntmps208
    go_wp2_with fail
    refine HY.out.mono ?_
    rintro x w1 ⟨rfl, hw⟩
    have HW := Lib.hid hw
    clear hw
    go_wp2_with fail
    go_end0
    exact ⟨rfl, by first | exact HW.out | (rw [R.out]; exact HW.out)⟩
  · obtain rfl : i = 0 := by omega
    go_enter Tryz.func208, Tryz.ntmps208
    go_wp2_with fail
    go_end0
    exact ⟨rfl, H0.out⟩

set_option maxRecDepth 100000 in
set_option maxHeartbeats 400000 in
theorem number_any (B : Nat) (l : List UInt8) (n : Int) (hn : -9223372036854775808 ≤ n ∧ n ≤ 9223372036854775807) (w : World) (h : IsT B l w) (hlen : l.length + (Lib.itoa n).length ≤ 140737488355328) (htab : Lib.TabIs Tryz.prog w "internal/strconv.uint64pow10" .u64 Lib.pow10Tab) :
    Calls Tryz.prog 186 #[.pointer (some ⟨B, 0, none⟩), .int .i64 n] w fun e w' => e = .returned (.tuple #[]) ∧ Wrote B l (Lib.itoa n) w w' := by
  have HF := Lib.hid (Tryz.strconv_FormatInt_10 n hn.1 hn.2 w.drew htab)
  have HT := Lib.hid h
  have HS := Lib.hid (fun W (hW : Below w.heap.size w W) => writeS_any B l ⟨(Lib.itoa n).toArray⟩ W (h.below hW) (by simpa using hlen))
  clear h htab
  go_enter Tryz.func186, Tryz.ntmps186
  go_wp2_with fail
  go_region_with ((first | (go_at_call 207; refine HF.out.mono ?_; rintro x w1 ⟨rfl, kk, os, rfl⟩) | (go_at_call 147; refine (HS.out _ ?_).mono ?_; (exact Lib.below_grow _ _ (Nat.le_refl _) _ _); rintro x w2 ⟨rfl, hw2⟩)))
  have HW := Lib.hid hw2
  clear hw2
  go_wp2_with fail
  go_end0
  refine ⟨rfl, HW.out.1, ?_⟩
  exact (Fr.of_below (Lib.below_grow _ _ (Nat.le_refl _) _ _) HT.out.2).trans HW.out.2
end Go.Proofs.YtajmdhcknmmbbaaGreatDoor
