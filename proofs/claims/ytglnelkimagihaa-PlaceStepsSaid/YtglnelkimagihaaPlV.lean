/-
  Walks: slices.Reverse of a row of steps turns it round ('reverse_any').
  Conditions: the row is one's own.
-/
import Derived.Test.YtglnelkimagihaaPlC
import Derived.Deep.RegionWith
import Derived.Deep.RegionLaw
import Derived.Stop.RegionWithIn
namespace Go.Proofs.Ytglnelkimagihaa
set_option linter.unusedVariables false
set_option linter.unusedSimpArgs false
open Go.RowKit Go.Deep Go.WideShapes
open Go.Maps hiding size

/-- The step at a place. -/
def sth (l : List (Int × Int)) (j : Nat) : Int × Int := l.getD j (0, 0)
theorem sth_get {l : List (Int × Int)} {j : Nat} (h : j < l.length) : l[j]? = some (sth l j) := by simp [sth, h]
/-- The k outermost on either side are turned round. -/
def rv (l : List (Int × Int)) (k : Nat) : List (Int × Int) := (List.range l.length).map (fun i => if i < k ∨ l.length - 1 - k < i then sth l (l.length - 1 - i) else sth l i)
theorem rv_len (l : List (Int × Int)) (k : Nat) : (rv l k).length = l.length := by simp [rv]
theorem rv_at {l : List (Int × Int)} {k i : Nat} (h : i < l.length) : sth (rv l k) i = if i < k ∨ l.length - 1 - k < i then sth l (l.length - 1 - i) else sth l i := by
  have e : (rv l k)[i]? = some (if i < k ∨ l.length - 1 - k < i then sth l (l.length - 1 - i) else sth l i) := by unfold rv; simp [h]
  show (rv l k).getD i (0, 0) = _
  rw [List.getD_eq_getElem?_getD, e]; rfl
theorem ext_sth {l m : List (Int × Int)} (hl : l.length = m.length) (h : ∀ i, i < l.length → sth l i = sth m i) : l = m := by
  apply List.ext_getElem?
  intro i
  by_cases hi : i < l.length
  · rw [sth_get hi, sth_get (by omega), h i hi]
  · rw [List.getElem?_eq_none (by omega), List.getElem?_eq_none (by omega)]
theorem rv_zero (l : List (Int × Int)) : rv l 0 = l := ext_sth (rv_len _ _) (fun i hi => by
  rw [rv_len] at hi
  rw [rv_at hi, if_neg (by omega)])
theorem rv_done {l : List (Int × Int)} {k : Nat} (h : ¬ ((k : Int) < (l.length : Int) - 1 - k)) : rv l k = l.reverse := ext_sth (by rw [rv_len, List.length_reverse]) (fun i hi => by
  rw [rv_len] at hi
  have e : sth l.reverse i = sth l (l.length - 1 - i) := by
    unfold sth
    rw [List.getD_eq_getElem?_getD, List.getD_eq_getElem?_getD, List.getElem?_reverse hi]
  rw [rv_at hi, e]
  by_cases q : i < k ∨ l.length - 1 - k < i
  · rw [if_pos q]
  · rw [if_neg q, show l.length - 1 - i = i by omega])
theorem sth_set {l : List (Int × Int)} {j i : Nat} {s : Int × Int} (h : j < l.length) : sth (l.set j s) i = if i = j then s else sth l i := by
  unfold sth
  rw [List.getD_eq_getElem?_getD, List.getD_eq_getElem?_getD, List.getElem?_set]
  by_cases e : j = i
  · subst e; simp [h]
  · rw [if_neg e, if_neg (Ne.symm e)]
theorem rv_step {l : List (Int × Int)} {k : Nat} (h : (k : Int) < (l.length : Int) - 1 - k) : ((rv l k).set k (sth (rv l k) (l.length - 1 - k))).set (l.length - 1 - k) (sth (rv l k) k) = rv l (k + 1) := by
  refine ext_sth (by simp [rv_len]) (fun i hi => ?_)
  have hi' : i < l.length := by simpa [rv_len] using hi
  rw [sth_set (by simp [rv_len]; omega), sth_set (by rw [rv_len]; omega), rv_at (k := k + 1) hi', rv_at (k := k) (i := k) (by omega), rv_at (k := k) (i := l.length - 1 - k) (by omega), rv_at (k := k) hi']
  by_cases e1 : i = l.length - 1 - k
  · subst e1
    rw [if_pos rfl, if_neg (by omega), if_pos (by omega), show l.length - 1 - (l.length - 1 - k) = k by omega]
  · rw [if_neg e1]
    by_cases e2 : i = k
    · subst e2
      rw [if_pos rfl, if_neg (by omega), if_pos (by omega)]
    · rw [if_neg e2]
      by_cases q : i < k ∨ l.length - 1 - k < i
      · rw [if_pos q, if_pos (by omega)]
      · rw [if_neg q, if_neg (by omega)]

theorem cellsS_set {l : List (Int × Int)} : ∀ {j : Nat} {p q : Int}, ((cellsS l).set (j * 2) (.int .i64 p)).set (j * 2 + 1) (.int .i64 q) = cellsS (l.set j (p, q)) := by
  induction l with
  | nil => intro j p q; rfl
  | cons a r ih =>
    intro j p q
    cases j with
    | zero => rfl
    | succ j =>
      have := ih (j := j) (p := p) (q := q)
      unfold cellsS at this ⊢
      rw [List.set_cons_succ, List.flatMap_cons, List.flatMap_cons, ← this]
      rw [show (j + 1) * 2 = j * 2 + 1 + 1 by omega, show j * 2 + 1 + 1 + 1 = (j * 2 + 1) + 1 + 1 from rfl]
      rfl
theorem SR.cells {w : World} {base g n cap : Nat} {l : List (Int × Int)} (h : SR w base (.slice (some ⟨g, 0, none⟩) n cap) l) {j : Nat} (hj : j < l.length) : w.cell? ⟨g, j * 2, none⟩ = some (.int .i64 (sth l j).1) ∧ w.cell? ⟨g, j * 2 + 1, none⟩ = some (.int .i64 (sth l j).2) := by
  obtain ⟨h1, h2⟩ := cellsS_get (sth_get hj)
  have a := World.ownsRow.cells h (g := g) rfl _ _ h1
  have b := World.ownsRow.cells h (g := g) rfl _ _ h2
  rw [add_plain, Nat.zero_add] at a b
  exact ⟨a, b⟩
theorem SR.frozen {w : World} {base g n cap : Nat} {l : List (Int × Int)} (h : SR w base (.slice (some ⟨g, 0, none⟩) n cap) l) (hn : l.length = n) (j : Nat) : w.frozen? ⟨g, j, none⟩ = false := by
  unfold SR at h
  rw [hn] at h
  exact World.ownsRow.frozenAt h j
/-- A step is written into a row. -/
theorem SR.set {w : World} {base g n cap : Nat} {l : List (Int × Int)} (h : SR w base (.slice (some ⟨g, 0, none⟩) n cap) l) (hn : l.length = n) (j : Nat) (p q : Int) : SR ((w.setCell ⟨g, j * 2, none⟩ (.int .i64 p)).setCell ⟨g, j * 2 + 1, none⟩ (.int .i64 q)) base (.slice (some ⟨g, 0, none⟩) n cap) (l.set j (p, q)) ∧ w.grownBy ((w.setCell ⟨g, j * 2, none⟩ (.int .i64 p)).setCell ⟨g, j * 2 + 1, none⟩ (.int .i64 q)) (some g) := by
  unfold SR at h
  rw [hn] at h
  have a := World.ownsRow.stored h (j * 2) (.int .i64 p)
  have b := World.ownsRow.stored a.1 (j * 2 + 1) (.int .i64 q)
  rw [cellsS_set] at b
  refine ⟨?_, grownBy_trans a.2 b.2⟩
  unfold SR
  rw [List.length_set, hn]
  exact b.1

theorem own_below2 {w w' : World} {base e n sz : Nat} {v : Value} {xs : List Value} (ho : w.ownsRow base e sz v n xs) (hb : Below w.heap.size w w') : w'.ownsRow base e sz v n xs := World.ownsRow.kept ho (grownBy_of_below hb (some w.heap.size)) (.inr (fun e => absurd (ho.lt _ e).2 (Nat.lt_irrefl _)))
theorem grown_drew {w w' : World} {r : Option Nat} (h : w.grownBy w' r) : w.grownBy w'.drew r := ⟨h.os, h.tape, h.output, h.size, h.block⟩
theorem own_drew {w : World} {base : Nat} {v : Value} {l : List (Int × Int)} (h : SR w base v l) : SR w.drew base v l := own_below2 h (below_drawM w 1)
set_option maxRecDepth 100000 in
set_option maxHeartbeats 2000000 in
theorem reverse_some (base g n cap : Nat) (l : List (Int × Int)) (w : World) (hn : l.length = n) (h : SR w base (.slice (some ⟨g, 0, none⟩) n cap) l) (hb : n ≤ 1048576) :
    Calls Try.prog 25 #[.slice (some ⟨g, 0, none⟩) n cap] w fun e w' => (∃ u, e = .returned u) ∧ SR w' base (.slice (some ⟨g, 0, none⟩) n cap) l.reverse ∧ w.grownBy w' (some g) := by
  have HN := Lib.hid hn
  have H := Lib.hid h
  clear h hn
  have hn0 : (0 : Int) ≤ (n : Int) := by omega
  have hn1 : (n : Int) ≤ 1048576 := by omega
  go_enter Try.func25, Try.ntmps25
  go_wp2_with fail
  go_loopw [2, 3] (fun i j wr => ∃ k : Nat, k ≤ n ∧ i = .int .i64 k ∧ j = .int .i64 ((n : Int) - 1 - k) ∧ SR wr base (.slice (some ⟨g, 0, none⟩) n cap) (rv l k) ∧ w.grownBy wr (some g)) (fun i _ _ => n - (intOf i).toNat)
  case atStart => exact ⟨0, Nat.zero_le _, rfl, by simp, by rw [rv_zero]; exact H.out, (grownBy_of_below (Below.refl _ _) _)⟩
  case round =>
    obtain ⟨k, hk, rfl, rfl, hr, hg⟩ := hrel
    have HR := Lib.hid hr
    have HG := Lib.hid hg
    clear hr hg
    by_cases hlt : (k : Int) < (n : Int) - 1 - k
    · have hk0 : (0 : Int) ≤ (k : Int) := by omega
      have hk1 : (k : Int) < (n : Int) := by omega
      obtain ⟨j, hj⟩ : ∃ j : Nat, n - 1 - k = j := ⟨_, rfl⟩
      have hje : (n : Int) - 1 - k = j := by omega
      have hj0 : (0 : Int) ≤ (j : Int) := by omega
      have hj1 : (j : Int) < (n : Int) := by omega
      have hrl : (rv l k).length = n := by rw [rv_len]; exact HN.out
      have hst : ((rv l k).set k (sth (rv l k) j)).set j (sth (rv l k) k) = rv l (k + 1) := by
        have := rv_step (l := l) (k := k) (by rw [HN.out]; exact hlt)
        rw [HN.out, hj] at this
        exact this
      obtain ⟨c1, c2⟩ := HR.out.cells (j := k) (by omega)
      obtain ⟨c3, c4⟩ := HR.out.cells (j := j) (by omega)
      have hz := HR.out.frozen hrl
      have f1 := hz (k * 2)
      have f2 := hz (k * 2 + 1)
      have f3 := hz (j * 2)
      have f4 := hz (j * 2 + 1)
      have HK := Lib.hid (And.intro hrl hst)
      have HJ := Lib.hid hje
      rw [hje] at hlt ⊢
      clear hz hrl hst hj hje
      obtain ⟨p1, hp1⟩ : ∃ p, (sth (rv l k) k).1 = p := ⟨_, rfl⟩
      obtain ⟨p2, hp2⟩ : ∃ p, (sth (rv l k) k).2 = p := ⟨_, rfl⟩
      obtain ⟨q1, hq1⟩ : ∃ p, (sth (rv l k) j).1 = p := ⟨_, rfl⟩
      obtain ⟨q2, hq2⟩ : ∃ p, (sth (rv l k) j).2 = p := ⟨_, rfl⟩
      rw [hp1] at c1
      rw [hp2] at c2
      rw [hq1] at c3
      rw [hq2] at c4
      have HPQ := Lib.hid (And.intro (And.intro hp1 hp2) (And.intro hq1 hq2))
      clear hp1 hp2 hq1 hq2
      go_wp2_with fail
      go_region
      go_wp2_with fail
      obtain ⟨⟨hp1, hp2⟩, hq1, hq2⟩ := HPQ.out
      obtain ⟨hrl, hst⟩ := HK.out
      have s1 := HR.out.set hrl k q1 q2
      have s2 := s1.1.set (by rw [List.length_set]; exact hrl) j p1 p2
      have e1 : ((q1, q2) : Int × Int) = sth (rv l k) j := by rw [← hq1, ← hq2]
      have e2 : ((p1, p2) : Int × Int) = sth (rv l k) k := by rw [← hp1, ← hp2]
      rw [e1, e2, hst] at s2
      have hje := HJ.out
      refine ⟨⟨k + 1, by omega, by go_num, int_is (by omega), own_drew s2.1, grown_drew (grownBy_trans HG.out (grownBy_trans s1.2 s2.2))⟩, by simp [intOf]; omega⟩
    · have hd := rv_done (l := l) (k := k) (by rw [HN.out]; exact hlt)
      rw [hd] at HR
      have HR2 := Lib.hid HR.out
      obtain ⟨z, hz⟩ : ∃ z : Int, (n : Int) - 1 - k = z := ⟨_, rfl⟩
      rw [hz] at hlt ⊢
      clear hd hz
      go_wp2_with fail
      go_end0
      exact ⟨⟨_, rfl⟩, HR2.out, HG.out⟩

/-- slices.Reverse, of whatever row of steps that is one's own. -/
theorem reverse_any (base : Nat) (v : Value) (l : List (Int × Int)) (w : World) (h : SR w base v l) (hb : l.length ≤ 1048576) :
    Calls Try.prog 25 #[v] w fun e w' => (∃ u, e = .returned u) ∧ SR w' base v l.reverse ∧ w.grownBy w' v.ownBlock := by
  have hh := h
  rcases h.2 with ⟨rfl, h0⟩ | ⟨g, cap, cur, rfl, _⟩
  · have hl : l = [] := List.length_eq_zero_iff.1 h0
    subst hl
    have H := Lib.hid hh
    clear hh h
    go_enter Try.func25, Try.ntmps25
    go_wp2_with fail
    go_loopw [2, 3] (fun i j wr => i = .int .i64 0 ∧ j = .int .i64 (-1) ∧ wr = w) (fun i _ _ => 0)
    case atStart => exact ⟨rfl, by simp, rfl⟩
    case round =>
      obtain ⟨rfl, rfl, rfl⟩ := hrel
      go_wp2_with fail
      go_end0
      exact ⟨⟨_, rfl⟩, H.out, grownBy_of_below (Below.refl _ _) _⟩
  · exact reverse_some base g l.length cap l w rfl hh hb
end Go.Proofs.Ytglnelkimagihaa
