/-
  Walks: LexWords returns true; old memory is as it was.
  Conditions: the package's variables hold what the program's text lays in them; the text is no longer than the reach.
-/
import Derived.Test.YtpnbnomaaeoemaaGreatDoorLexKF
namespace Go.Proofs.YtpnbnomaaeoemaaGreatDoor
open Go.RowKit

theorem own_slice {W : World} {b n : Nat} {T : TypeId} {v : Value} {xs : List Value} (h : W.ownsRow b T 4 v n xs) : ∃ a c, v = .slice a n c := by
  rcases h.2 with ⟨e, e2⟩ | ⟨g, cap, cur, e, -⟩
  · subst e2
    exact ⟨_, _, e⟩
  · exact ⟨_, _, e⟩
theorem own_addr {W : World} {b n c : Nat} {T : TypeId} {a : Option Addr} {xs : List Value} (h : W.ownsRow b T 4 (.slice a n c) n xs) {g : Addr} (e : a = some g) : ∃ k, g = ⟨k, 0, none⟩ ∧ b ≤ k ∧ k < W.heap.size := by
  subst e
  rcases h.2 with ⟨e, -⟩ | ⟨k, cap, cur, e, hb, hg, -⟩
  · cases e
  · cases e
    exact ⟨k, rfl, hb, (Array.getElem?_eq_some_iff.1 hg).1⟩
/-- What lex.Words and the reference's Words answer. -/
theorem both (s : ByteArray) (hr : s.size ≤ 140737488355328) : ∃ (ws : List LX.LW) (n er : Int), ws.length ≤ 65536 ∧
    (∀ w, LTabs w → Calls Tryz.prog 15 #[.string s] w fun e w' => ∃ a c, e = .returned (.tuple #[.slice a ws.length c, .int .i64 n, .int .i64 er]) ∧ w'.ownsRow w.heap.size 84 4 (.slice a ws.length c) ws.length (flatW ws) ∧ Below w.heap.size w w') ∧
    (∀ w, Calls Tryz.prog 16 #[.string s] w fun e w' => ∃ a c, e = .returned (.tuple #[.slice a ws.length c, .int .i64 n, .int .i64 er]) ∧ w'.ownsRow w.heap.size 84 4 (.slice a ws.length c) ws.length (flatW ws) ∧ Below w.heap.size w w') := by
  by_cases hs : s.size ≤ 65536
  · cases hx : LX.lex 0 s.data.toList with
    | err n =>
      refine ⟨[], n, 4, by simp, fun w ht => ?_, fun w => ?_⟩
      · have h := words_any s w hs ht
        rw [hx] at h
        exact h.mono fun e w' h => ⟨none, 0, h.1, World.ownsRow_nil _ _ _ _, h.2⟩
      · have h := rwords_any s w hs
        rw [hx] at h
        exact h.mono fun e w' h => ⟨none, 0, h.1, World.ownsRow_nil _ _ _ _, h.2⟩
    | ok ws =>
      have hl := (LX.lex_sound 0 _ ws hx).2.2
      refine ⟨ws, 0, 0, by simp at hl; omega, fun w ht => ?_, fun w => ?_⟩
      · have h := words_any s w hs ht
        rw [hx] at h
        refine h.mono fun e w' h => ?_
        obtain ⟨⟨v, he, ho⟩, hb⟩ := h
        obtain ⟨a, c, rfl⟩ := own_slice ho
        exact ⟨a, c, he, own_base (Nat.le_succ _) ho, hb⟩
      · have h := rwords_any s w hs
        rw [hx] at h
        refine h.mono fun e w' h => ?_
        obtain ⟨⟨v, he, ho⟩, hb⟩ := h
        obtain ⟨a, c, rfl⟩ := own_slice ho
        exact ⟨a, c, he, ho, hb⟩
  · refine ⟨[], 0, 3, by simp, fun w _ => ?_, fun w => ?_⟩
    · exact (words_big s w (by omega) hr).mono fun e w' h => ⟨none, 0, h.1, World.ownsRow_nil _ _ _ _, h.2 ▸ Below.refl _ _⟩
    · exact (rwords_big s w (by omega) hr).mono fun e w' h => ⟨none, 0, h.1, World.ownsRow_nil _ _ _ _, h.2 ▸ Below.refl _ _⟩

theorem same_b (v1 v2 : Value) (ws : List LX.LW) (w : World) (h1 : Wds w v1 ws) (h2 : Wds w v2 ws) : Calls Tryz.prog 17 #[v1, v2] w fun e w' => e = .returned (.bool true) ∧ Below w.heap.size w w' :=
  (same_words v1 v2 ws w h1 h2).mono fun _ _ h => let ⟨h1, _, h2⟩ := h; ⟨h1, h2 ▸ below_drawn _ _⟩

def lwS (n : Nat) (a1 a2 : Option Addr) (c1 c2 : Nat) : Nat → Value := fun i => if i = 0 then .slice a1 n c1 else .slice a2 n c2
def lwN : Nat → Int := fun i => (i : Int) + 1
def lwA (a1 a2 : Option Addr) : Nat → Option Addr := fun i => if i = 0 then a1 else a2
def lwC (c1 c2 : Nat) : Nat → Nat := fun i => if i = 0 then c1 else c2
/-- The two lists of words, in a later world. -/
structure TW (w : World) (ws : List LX.LW) (a1 : Option Addr) (c1 : Nat) (a2 : Option Addr) (c2 : Nat) (W : World) : Prop where
  low : Below w.heap.size w W
  o1 : W.ownsRow w.heap.size 84 4 (.slice a1 ws.length c1) ws.length (flatW ws)
  o2 : W.ownsRow w.heap.size 84 4 (.slice a2 ws.length c2) ws.length (flatW ws)
  ne : ∀ b, a1 = some ⟨b, 0, none⟩ → a2 ≠ some ⟨b, 0, none⟩
theorem TW.below {w W W' : World} {ws : List LX.LW} {a1 a2 : Option Addr} {c1 c2 : Nat} (h : TW w ws a1 c1 a2 c2 W) (hl : Below W.heap.size W W') : TW w ws a1 c1 a2 c2 W' :=
  ⟨h.low.trans (hl.mono h.low.size), ownsRow_below h.o1 hl, ownsRow_below h.o2 hl, h.ne⟩
theorem tw_new {w w1 w2 : World} {ws : List LX.LW} {a1 a2 : Option Addr} {c1 c2 : Nat} (h1 : w1.ownsRow w.heap.size 84 4 (.slice a1 ws.length c1) ws.length (flatW ws)) (hb1 : Below w.heap.size w w1)
    (h2 : w2.ownsRow w1.heap.size 84 4 (.slice a2 ws.length c2) ws.length (flatW ws)) (hb2 : Below w1.heap.size w1 w2) : TW w ws a1 c1 a2 c2 w2 := by
  refine ⟨hb1.trans (hb2.mono hb1.size), ownsRow_below h1 hb2, own_base hb1.size h2, fun b e1 e2 => ?_⟩
  obtain ⟨k, e3, -, h3⟩ := own_addr h1 e1
  obtain ⟨k', e4, h4, -⟩ := own_addr h2 e2
  simp only [Addr.mk.injEq, and_true] at e3 e4
  omega
/-- The book is made of the two. -/
theorem tw_book {w W0 W : World} {ws : List LX.LW} {a1 a2 : Option Addr} {c1 c2 T c : Nat} (hlen : ws.length ≤ 65536) (h : TW w ws a1 c1 a2 c2 W0) (hk : BK W0 W0.heap.size 2 (lwS ws.length a1 a2 c1 c2) lwN 2 (.slice (some ⟨T, 0, none⟩) 2 c) W) :
    BkS w W0.heap.size T 2 c (lwA a1 a2) (fun _ => ws.length) (lwC c1 c2) lwN ∧ BkT w W0.heap.size T 2 c (lwA a1 a2) (fun _ => ws.length) (lwC c1 c2) lwN W ∧ RowsF w 2 (lwA a1 a2) (fun _ => ws.length) (lwC c1 c2) lwN (fun _ => 0) W := by
  obtain ⟨h1, h2, h3, h4, h5⟩ := hk.toT (sa := lwA a1 a2) (ln := fun _ => ws.length) (sc := lwC c1 c2) h.low h.low.size (fun i _ => by unfold lwS lwA lwC; split <;> rfl)
  have hlow : Below W0.heap.size W0 W := hk.low
  have key : ∀ i b, lwA a1 a2 i = some ⟨b, 0, none⟩ → b < W0.heap.size := by
    intro i b e
    unfold lwA at e
    split at e
    · obtain ⟨k, e2, -, hlt⟩ := own_addr h.o1 e
      simp only [Addr.mk.injEq, and_true] at e2
      omega
    · obtain ⟨k, e2, -, hlt⟩ := own_addr h.o2 e
      simp only [Addr.mk.injEq, and_true] at e2
      omega
  refine ⟨⟨h.low.size, by have := h.low.size; omega, by omega, ⟨h4, h5⟩, fun i hi => ⟨i + 1, by simp [lwN], by omega⟩, fun i _ => by show ws.length ≤ _; omega, fun i hi b e => ?_, fun i hi j hj hij b e e' => ?_⟩, h1, fun j hj => ?_⟩
  · have := key i b e
    omega
  · have h01 : (i = 0 ∧ j = 1) ∨ (i = 1 ∧ j = 0) := by omega
    rcases h01 with ⟨rfl, rfl⟩ | ⟨rfl, rfl⟩
    · exact h.ne b e e'
    · exact h.ne b e' e
  · by_cases h0 : j = 0
    · subst h0
      exact ⟨_, ownsRow_below h.o1 hlow, fun q hq => absurd hq (Nat.not_lt_zero _)⟩
    · obtain rfl : j = 1 := by omega
      exact ⟨_, ownsRow_below h.o2 hlow, fun q hq => absurd hq (Nat.not_lt_zero _)⟩

set_option maxRecDepth 100000 in
set_option maxHeartbeats 4000000 in
theorem words_law (s : ByteArray) (w : World) (ht : LTabs w) (hr : s.size ≤ 140737488355328) : Calls Tryz.prog 4 #[.string s] w fun e w' => e = .returned (.bool true) ∧ Below w.heap.size w w' := by
  obtain ⟨ws, n, er, hlen, h1, h2⟩ := both s hr
  have CW := Lib.hid (fun W (h : Below w.heap.size w W) => h1 W (ht.below h ht.gb))
  have CR := Lib.hid (fun W => h2 W)
  have HL := Lib.hid hlen
  have t1 : (n != n) = false := by simp
  have t2 : (er != er) = false := by simp
  have HZ : Hid (ws.length = ws.length) := Lib.hid rfl
  clear h1 h2 ht hlen
  go_enter Tryz.func4, Tryz.ntmps4
  go_upto_region 3 with (first
    | (go_at_call 15; (with_reducible refine (CW.out _ HA.out.2).mono ?_); rintro q w2 ⟨a2, c2, rfl, ho2, hb2⟩; have TW0 := Lib.hid (tw_new HA.out.1 HA.out.2 ho2 hb2); clear ho2 hb2)
    | (go_at_call 15; (with_reducible refine (CW.out _ (Below.refl _ _)).mono ?_); rintro q w1 ⟨a1, c1, rfl, ho1, hb1⟩; have HA := Lib.hid (And.intro ho1 hb1); clear ho1 hb1))
  clear HA CW
  go_upto_region 6 with (first
    | (go_at_call 16; (with_reducible refine (CR.out _).mono ?_); rintro q w3 ⟨a3, c3, rfl, ho3, hb3⟩; replace TW0 := Lib.hid (TW0.out.below hb3); have O3 := Lib.hid ho3; clear ho3 hb3)
    | (go_at_call 17; (first
        | (with_reducible refine (same_b (.slice a1 ws.length c1) (.slice a3 ws.length c3) ws _ (Wds.of_own TW0.out.o1) (Wds.of_own O3.out)).mono ?_)
        | (with_reducible refine (same_b (.slice a2 ws.length c2) (.slice a3 ws.length c3) ws _ (Wds.of_own TW0.out.o2) (Wds.of_own O3.out)).mono ?_)); rintro q w4 ⟨rfl, hb4⟩; replace TW0 := Lib.hid (TW0.out.below hb4); replace O3 := Lib.hid (ownsRow_below O3.out hb4); clear hb4))
  clear CR O3 t1 t2 HZ
  have HB := Lib.hid (book_new (wb := w4) (S := lwS ws.length a1 a2 c1 c2) (N := lwN) (T' := 52))
  have OK := Lib.hid TW0.out.low
  go_upto_region 7 with fail
  revert HB
  generalize w4.alloc (.cells #[.int .i64 0, .slice none 0 0, .slice none 0 0, .slice none 0 0, .slice none 0 0, .slice none 0 0, .slice none 0 0, .slice none 0 0, .slice none 0 0, .slice none 0 0, .slice none 0 0, .slice none 0 0, .slice none 0 0, .slice none 0 0, .slice none 0 0, .slice none 0 0, .slice none 0 0] 52) = W7
  intro HB
  have D1 := Lib.hid (words'_any HB.out (by decide) (by decide) (a := a1) (l := ws.length) (q := c1) rfl (by simp [lwN]))
  clear HB
  have D2 := Lib.hid (fun W v (h : BK w4 w4.heap.size (0 + 1) (lwS ws.length a1 a2 c1 c2) lwN (0 + 1) v W) => words'_any h (by decide) (by decide) (a := a2) (l := ws.length) (q := c2) rfl (by simp [lwN]))
  have D3 := Lib.hid (fun W T c (h : BK w4 w4.heap.size 2 (lwS ws.length a1 a2 c1 c2) lwN 2 (.slice (some ⟨T, 0, none⟩) 2 c) W) => let hh := tw_book HL.out TW0.out h; apart_words hh.1 (by decide) hh.2.1 hh.2.2)
  clear TW0 HL
  go_wp2_with (first
    | (go_at_call 18; (with_reducible refine (D1.out).mono ?_); rintro q w8 ⟨rfl, b, c, hk⟩; have HK := Lib.hid hk; clear hk D1)
    | (go_at_call 18; (with_reducible refine (D2.out _ _ HK.out).mono ?_); rintro q w9 ⟨rfl, b', c', hk⟩; have HK2 := Lib.hid (show BK w4 w4.heap.size 2 (lwS ws.length a1 a2 c1 c2) lwN 2 (.slice (some ⟨b', 0, none⟩) 2 c') w9 from hk); clear hk)
    | (go_at_call 14; (with_reducible refine (D3.out _ _ _ HK2.out).mono ?_); rintro q w10 ⟨rfl, hb⟩; have HE := Lib.hid hb; clear hb))
  go_ret
  exact ⟨rfl, HE.out⟩
end Go.Proofs.YtpnbnomaaeoemaaGreatDoor
