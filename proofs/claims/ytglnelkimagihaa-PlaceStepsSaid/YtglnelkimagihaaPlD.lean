/-
  Arguments of type []int and []uint8 open into rows of numbers that lie in memory.
  Conditions: none.
-/
import Derived.Test.YtglnelkimagihaaPlW
import Derived.ChangeSame
import Derived.JoinedOf
import Derived.JoinedAt
import Derived.RowKit
import Derived.RowKit2
import Derived.ReadAgain
import Derived.ChangeAlike
import Derived.ProofKit
import Derived.Deep.Heap
namespace Go.Proofs.Ytglnelkimagihaa
set_option linter.unusedVariables false
set_option linter.unusedSimpArgs false
open Go.ChangeShapes Go.WideShapes Go.ChangeAt Go.RowKit Go.Deep

/-- Cells that are read together stand one behind the other. -/
theorem at_of_cells? {w : World} {base : Nat} {a : Addr} {n : Nat} {cs : List Value} (hn : 0 < n) (h : w.cells? base a n = some cs) : ∃ b o, a = ⟨b, o, none⟩ ∧ (∀ i, i < cs.length → w.cell? ⟨b, o + i, none⟩ = cs[i]?) ∧ cs.length = n := by
  obtain ⟨_, hlen, hcell⟩ := World.cells?_some h
  obtain ⟨b, o, spot⟩ := a
  have h0 := hcell 0 hn
  rw [List.getElem?_eq_getElem (by omega)] at h0
  have hspot : spot = none := by simpa [Addr.add] using World.cell?_spot h0
  subst hspot
  refine ⟨b, o, rfl, fun i hi => ?_, hlen⟩
  have := hcell i (by omega)
  rwa [add_plain] at this

set_option maxRecDepth 100000 in
theorem open_nums {H : Type} {enc : TypeId × Value → H} {W : World} {base : Nat} {v : Value} {d : DataW H} {p : List MemPlace} {TS TE : TypeId} {q : IntKind} (hsl : Try.prog.underlying TS = some (.slice TE)) (hte : Try.prog.underlying TE = some (.int q)) (hce : Try.prog.cellsOf TE = 1) (hv : Value.okWide Try.prog W .any base TS v)
    (h : DataW.Trod enc Try.prog W 0 (fun _ => true) true TS v d p) : ∃ la ll lc, ∃ K : Nat → Int, v = .slice la ll lc ∧ (ll ≤ lc ∧ lc ≤ maxLen) ∧ ∀ i, i < ll → (∃ b o, la = some ⟨b, o, none⟩ ∧ W.cell? ⟨b, o + i, none⟩ = some (.int q (K i))) ∧ (Lit.int q (K i)).wf = true := by
  obtain ⟨aa, len2, cap2, rfl⟩ := okWide_slice hsl hv
  obtain ⟨fuel, hf⟩ := h
  simp only [Value.cells] at hf
  rcases DataW.trod_slice hsl hf with ⟨h0, -⟩ | ⟨a, len, cap, elems, rest, n', hn', hcs, hyd, hb, hlc, hm, hle, hel, -, -⟩
  · simp at h0
    obtain ⟨rfl, rfl, rfl⟩ := h0
    exact ⟨none, 0, 0, fun _ => 0, rfl, ⟨Nat.le_refl _, Nat.zero_le _⟩, fun i hi => absurd hi (Nat.not_lt_zero _)⟩
  · simp at hcs
    obtain ⟨rfl, rfl, rfl⟩ := hcs
    have ha0 : 0 < len2 → ∃ b o, a = ⟨b, o, none⟩ := fun h0 => by
      have h1 := hel 0 h0
      rw [List.getElem?_eq_getElem (by omega)] at h1
      obtain ⟨cs', hc1, -⟩ := Option.bind_eq_some_iff.1 h1
      obtain ⟨b, o, ha, -, -⟩ := at_of_cells? (by rw [hce]; decide) hc1
      exact ⟨b, o, by simpa [Addr.add] using ha⟩
    obtain ⟨K, hK⟩ := choose_lt (n := len2) (p := fun i (k : Int) => (∃ b o, some a = some ⟨b, o, none⟩ ∧ W.cell? ⟨b, o + i, none⟩ = some (.int q k)) ∧ (Lit.int q k).wf = true) fun i hi => by
      have h1 := hel i hi
      rw [List.getElem?_eq_getElem (by omega)] at h1
      obtain ⟨cs', hc1, hc2⟩ := Option.bind_eq_some_iff.1 h1
      rw [hce] at hc1
      obtain ⟨k, rfl, -, wk⟩ := DataW.trod_int hte hc2
      obtain ⟨b, o, rfl⟩ := ha0 (by omega)
      rw [add_plain] at hc1
      obtain ⟨b', o', ha, hat, -⟩ := at_of_cells? (by decide) hc1
      simp only [Addr.mk.injEq, and_true, Nat.mul_one] at ha
      obtain ⟨h1, h2⟩ := ha
      subst h1 h2
      exact ⟨k, ⟨b, o, rfl, hat 0 (by simp)⟩, wk⟩
    exact ⟨some a, len2, cap2, K, rfl, ⟨hlc, hm⟩, hK⟩

/-- An argument of type []uint8. -/
theorem open_bytes {H : Type} {enc : TypeId × Value → H} {W : World} {base : Nat} {v : Value} {d : DataW H} {p : List MemPlace} (hv : Value.okWide Try.prog W .any base 36 v)
    (h : DataW.Trod enc Try.prog W 0 (fun _ => true) true 36 v d p) : ∃ la ll lc, ∃ K : Nat → Int, v = .slice la ll lc ∧ (ll ≤ lc ∧ lc ≤ maxLen) ∧ BLs W la ll K ∧ ∀ j, 0 ≤ K j ∧ K j ≤ 255 := by
  obtain ⟨la, ll, lc, K, rfl, hl, hK⟩ := open_nums Try.underlying36 Try.underlying5 (by kernel_rfl) hv h
  refine ⟨la, ll, lc, fun j => if j < ll then K j else 0, rfl, hl, fun j hj => ?_, fun j => ?_⟩
  · simp only [if_pos hj]; exact (hK j hj).1
  · simp only
    split
    · rename_i hj
      have := (hK j hj).2
      simp [Lit.wf, IntKind.min, IntKind.max, IntKind.signed, IntKind.bits] at this
      omega
    · omega
/-- An argument of type []int. -/
theorem open_ints {H : Type} {enc : TypeId × Value → H} {W : World} {base : Nat} {v : Value} {d : DataW H} {p : List MemPlace} (hv : Value.okWide Try.prog W .any base 22 v)
    (h : DataW.Trod enc Try.prog W 0 (fun _ => true) true 22 v d p) : ∃ la lc, ∃ L : List Int, v = .slice la L.length lc ∧ (L.length ≤ lc ∧ lc ≤ maxLen) ∧ RL W la L ∧ RB L := by
  obtain ⟨la, ll, lc, K, rfl, hl, hK⟩ := open_nums Try.underlying22 Try.underlying3 (by kernel_rfl) hv h
  have hlen : ((List.range ll).map K).length = ll := by simp
  have hnth : ∀ j, j < ll → Pl.nth ((List.range ll).map K) j = K j := fun j hj => by rw [Pl.nth_get (by rw [hlen]; exact hj)]; simp
  refine ⟨la, lc, (List.range ll).map K, by rw [hlen], by rw [hlen]; exact hl, fun j hj => ?_, fun x hx => ?_⟩
  · rw [hlen] at hj
    rw [hnth j hj]
    exact (hK j hj).1
  · obtain ⟨j, hj, rfl⟩ := Pl.mem_nth hx
    rw [hlen] at hj
    rw [hnth j hj]
    exact wf_i64 (hK j hj).2
theorem Try.own : ownKnob Try.prog.godebug = none := by kernel_rfl
theorem Try.laidOut : laidOutB Try.prog = true := by kernel_rfl
end Go.Proofs.Ytglnelkimagihaa
