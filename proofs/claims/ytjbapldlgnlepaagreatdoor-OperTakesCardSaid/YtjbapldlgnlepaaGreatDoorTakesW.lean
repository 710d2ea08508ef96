/-
  Walks: OperTakes returns true; old memory is as it was.
  Conditions: the three tables hold what the program's text lays in them.
-/
import Derived.Test.YtjbapldlgnlepaaGreatDoorBook
namespace Go.Proofs.YtjbapldlgnlepaaGreatDoor
open Go.RowKit Go.Deep Go.WideShapes
open Go.Sort hiding Below

def tkS (g1 c1 g2 c2 : Nat) : Nat → Value := fun i => if i = 0 then .slice (some ⟨g1, 0, none⟩) 13 c1 else .slice (some ⟨g2, 0, none⟩) 13 c2
def tkN : Nat → Int := fun i => (i : Int) + 1
def tkA (g1 g2 : Nat) : Nat → Option Addr := fun i => if i = 0 then some ⟨g1, 0, none⟩ else some ⟨g2, 0, none⟩
def tkC (c1 c2 : Nat) : Nat → Nat := fun i => if i = 0 then c1 else c2
/-- The two lists of names, in a later world. -/
structure TW (w : World) (g1 c1 g2 c2 : Nat) (W : World) : Prop where
  low : Below w.heap.size w W
  o1 : W.ownsRow w.heap.size 9 1 (.slice (some ⟨g1, 0, none⟩) 13 c1) 13 (srtL.map encStr)
  o2 : W.ownsRow w.heap.size 9 1 (.slice (some ⟨g2, 0, none⟩) 13 c2) 13 (srtL.map encStr)
  ne : g1 ≠ g2
  n1 : NmsAt W g1
theorem TW.below {w W W' : World} {g1 c1 g2 c2 : Nat} (h : TW w g1 c1 g2 c2 W) (hl : Below W.heap.size W W') : TW w g1 c1 g2 c2 W' :=
  ⟨h.low.trans (hl.mono h.low.size), ownsRow_below h.o1 hl, ownsRow_below h.o2 hl, h.ne, h.n1.below hl⟩
theorem tw_new {w w1 w2 : World} {g1 c1 g2 c2 : Nat} (h1 : w1.ownsRow w.heap.size 9 1 (.slice (some ⟨g1, 0, none⟩) 13 c1) 13 (srtL.map encStr)) (hb1 : Below w.heap.size w w1) (h2 : w2.ownsRow w1.heap.size 9 1 (.slice (some ⟨g2, 0, none⟩) 13 c2) 13 (srtL.map encStr)) (hb2 : Below w1.heap.size w1 w2) : TW w g1 c1 g2 c2 w2 := by
  refine ⟨hb1.trans (hb2.mono hb1.size), ownsRow_below h1 hb2, own_mono hb1.size h2, ?_, (nmsAt_own h1).below hb2⟩
  have a := (h1.lt g1 rfl).2
  have b := (h2.lt g2 rfl).1
  omega
/-- The book is made of the two. -/
theorem tw_book {w W0 W : World} {g1 c1 g2 c2 T c : Nat} (ht : Tabs w) (h : TW w g1 c1 g2 c2 W0) (hk : BK W0 W0.heap.size 2 (tkS g1 c1 g2 c2) tkN 2 (.slice (some ⟨T, 0, none⟩) 2 c) W) :
    BkS w W0.heap.size T 2 c (tkA g1 g2) (fun _ => 13) (tkC c1 c2) tkN ∧ BkT w W0.heap.size T 2 c (tkA g1 g2) (fun _ => 13) (tkC c1 c2) tkN W ∧ RowsF w 2 (tkA g1 g2) (fun _ => 13) (tkC c1 c2) tkN (fun _ => 0) W := by
  obtain ⟨h1, h2, h3, h4, h5⟩ := hk.toT (sa := tkA g1 g2) (ln := fun _ => 13) (sc := tkC c1 c2) h.low h.low.size (fun i _ => by unfold tkS tkA tkC; split <;> rfl)
  have l1 := h.o1.lt g1 rfl
  have l2 := h.o2.lt g2 rfl
  have hlow : Below W0.heap.size W0 W := hk.low
  refine ⟨⟨ht, h.low.size, by have := h.low.size; omega, by omega, ⟨h4, h5⟩, fun i hi => by unfold tkN; omega, fun i _ => by omega, fun i hi b e => ?_, fun i hi j hj hij b e e' => ?_⟩, h1, fun j hj => ?_⟩
  · unfold tkA at e
    split at e <;> (simp only [Option.some.injEq, Addr.mk.injEq, and_true] at e; omega)
  · have := h.ne
    unfold tkA at e e'
    split at e <;> split at e' <;> (simp only [Option.some.injEq, Addr.mk.injEq, and_true] at e e'; omega)
  · by_cases h0 : j = 0
    · subst h0
      exact ⟨_, ownsRow_below h.o1 hlow, fun q hq => absurd hq (Nat.not_lt_zero _)⟩
    · obtain rfl : j = 1 := by omega
      exact ⟨_, ownsRow_below h.o2 hlow, fun q hq => absurd hq (Nat.not_lt_zero _)⟩

set_option maxRecDepth 100000 in
set_option maxHeartbeats 4000000 in
theorem takes_law (name : ByteArray) (w : World) (ht : Tabs w) : Calls Tryz.prog 3 #[.string name] w fun e w' => e = .returned (.bool true) ∧ Below w.heap.size w w' := by
  have CT := Lib.hid (fun W => oTakes_any name W)
  have CR := Lib.hid (fun W => rTakes_any name W)
  have CN := Lib.hid (fun W => names_any W)
  have CM := Lib.hid (fun W => rNames_any W)
  have HT := Lib.hid ht
  clear ht
  generalize takeL name = x at CT CR
  generalize takeM name = y at CT CR
  generalize takeB name = z at CT CR
  go_enter Tryz.func3, Tryz.ntmps3
  go_upto_region 3 with (first
    | (go_at_call 5; (with_reducible refine (CT.out _).mono ?_); rintro q w1 ⟨rfl, hb1⟩; have OK := Lib.hid hb1; clear hb1)
    | (go_at_call 6; (with_reducible refine (CR.out _).mono ?_); rintro q w2 ⟨rfl, hb2⟩; replace OK := Lib.hid (OK.out.trans (hb2.mono OK.out.size)); clear hb2))
  have HT2 := Lib.hid (HT.out.below OK.out)
  clear HT CT CR
  go_upto_region 4 with (first
    | (go_at_call 7; (with_reducible refine (CN.out _).mono ?_); rintro q w4 ⟨g2, c2, rfl, ho2, hb2⟩; have TW0 := Lib.hid (tw_new HA.out.1 HA.out.2 ho2 hb2); clear ho2 hb2)
    | (go_at_call 7; (with_reducible refine (CN.out _).mono ?_); rintro q w3 ⟨g1, c1, rfl, ho1, hb1⟩; have HA := Lib.hid (And.intro ho1 hb1); clear ho1 hb1))
  clear HA CN
  go_upto_region 6 with (first
    | (go_at_call 9; (with_reducible refine (CM.out _).mono ?_); rintro q w5 ⟨rfl, hm, hb⟩; replace TW0 := Lib.hid (TW0.out.below hb); have HM := Lib.hid (sameTexts_any g1 _ c1 13 _ TW0.out.n1 hm); clear hm hb)
    | (go_at_call 8; (with_reducible refine (HM.out).mono ?_); rintro q w6 ⟨rfl, hb⟩; replace TW0 := Lib.hid (TW0.out.below hb); clear hb))
  clear HM CM
  have HB := Lib.hid (book_new (wb := w6) (S := tkS g1 c1 g2 c2) (N := tkN) (T' := 44))
  go_upto_region 7 with fail
  revert HB
  generalize w6.alloc (.cells #[.int .i64 0, .slice none 0 0, .slice none 0 0, .slice none 0 0, .slice none 0 0, .slice none 0 0, .slice none 0 0, .slice none 0 0, .slice none 0 0, .slice none 0 0, .slice none 0 0, .slice none 0 0, .slice none 0 0, .slice none 0 0, .slice none 0 0, .slice none 0 0, .slice none 0 0] 44) = W7
  intro HB
  have D1 := Lib.hid (texts'_any HB.out (by decide) (by decide) (a := some ⟨g1, 0, none⟩) (l := 13) (q := c1) rfl (by simp [tkN]))
  clear HB
  have D2 := Lib.hid (fun W v (h : BK w6 w6.heap.size (0 + 1) (tkS g1 c1 g2 c2) tkN (0 + 1) v W) => texts'_any h (by decide) (by decide) (a := some ⟨g2, 0, none⟩) (l := 13) (q := c2) rfl (by simp [tkN]))
  have D3 := Lib.hid (fun W T c (h : BK w6 w6.heap.size 2 (tkS g1 c1 g2 c2) tkN 2 (.slice (some ⟨T, 0, none⟩) 2 c) W) => let hh := tw_book HT2.out TW0.out h; apart_texts hh.1 (by decide) (fun i hi => ⟨i + 1, by simp [tkN], by omega⟩) hh.2.1 hh.2.2)
  clear HT2 TW0
  go_wp2_with (first
    | (go_at_call 10; (with_reducible refine (D1.out).mono ?_); rintro q w8 ⟨rfl, b, c, hk⟩; have HK := Lib.hid hk; clear hk D1)
    | (go_at_call 10; (with_reducible refine (D2.out _ _ HK.out).mono ?_); rintro q w9 ⟨rfl, b', c', hk⟩; have HK2 := Lib.hid (show BK w6 w6.heap.size 2 (tkS g1 c1 g2 c2) tkN 2 (.slice (some ⟨b', 0, none⟩) 2 c') w9 from hk); clear hk)
    | (go_at_call 11; (with_reducible refine (D3.out _ _ _ HK2.out).mono ?_); rintro q w10 ⟨rfl, hb⟩; have HE := Lib.hid hb; clear hb))
  go_ret
  exact ⟨rfl, OK.out.trans (HE.out.mono OK.out.size)⟩
end Go.Proofs.YtjbapldlgnlepaaGreatDoor
