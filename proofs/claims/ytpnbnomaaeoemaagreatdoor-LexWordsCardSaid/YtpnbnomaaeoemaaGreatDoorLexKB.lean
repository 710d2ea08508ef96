/-
  The book's lists of words: what the memory holds of them; walks: fillWord writes each list's mark into each of its places.
  Conditions: the book, its lists, and what they hold lie in blocks behind a world; no two share a block.
-/
import Derived.Test.YtpnbnomaaeoemaaGreatDoorLexKN
namespace Go.Proofs.YtpnbnomaaeoemaaGreatDoor
open Go.RowKit

/-- What the book is told: m lists of words (the i-th at sa i, as long as ln i, with room for sc i, its number N i), the book in block B, its list of them in block T. -/
structure BkS (w0 : World) (B T m c : Nat) (sa : Nat → Option Addr) (ln sc : Nat → Nat) (N : Nat → Int) : Prop where
  hB : w0.heap.size ≤ B
  hT : w0.heap.size ≤ T
  hBT : B ≠ T
  hmc : m ≤ c ∧ c ≤ maxLen
  sm : ∀ i, i < m → ∃ n : Nat, N i = n ∧ n < 100
  lnb : ∀ i, i < m → ln i ≤ 1099511627776
  nb : ∀ i, i < m → ∀ b, sa i = some ⟨b, 0, none⟩ → b ≠ B ∧ b ≠ T
  ap : ∀ i, i < m → ∀ j, j < m → i ≠ j → ∀ b, sa i = some ⟨b, 0, none⟩ → sa j ≠ some ⟨b, 0, none⟩

/-- .. as a later world holds it. -/
structure BkT (w0 : World) (B T m c : Nat) (sa : Nat → Option Addr) (ln sc : Nat → Nat) (N : Nat → Int) (W : World) : Prop where
  low : Below w0.heap.size w0 W
  fld : W.cell? ⟨B, 5, none⟩ = some (.slice (some ⟨T, 0, none⟩) m c)
  ent : ∀ i, i < m → W.cell? ⟨T, i * 3, none⟩ = some (.slice (sa i) (ln i) (sc i)) ∧ (∃ a l q, W.cell? ⟨T, i * 3 + 1, none⟩ = some (.slice a l q)) ∧ W.cell? ⟨T, i * 3 + 2, none⟩ = some (.int .i64 (N i))
  frz : ∀ j, j < m * 3 → W.frozen? ⟨T, j, none⟩ = false
  oth : ∀ j, j < 17 → j ≠ 0 → j ≠ 5 → W.cell? ⟨B, j, none⟩ = some (.slice none 0 0)
section
variable {w0 : World} {B T m c : Nat} {sa : Nat → Option Addr} {ln sc : Nat → Nat} {N : Nat → Int} {W W' : World}
theorem BkT.below (h : BkT w0 B T m c sa ln sc N W) (hb : Below W.heap.size W W') : BkT w0 B T m c sa ln sc N W' := by
  have hc : ∀ {a : Addr} {v : Value}, W.cell? a = some v → W'.cell? a = some v := fun e => by rw [hb.cell (World.block_lt_of_cell? _ _ e), e]
  refine ⟨h.low.trans (hb.mono h.low.size), hc h.fld, fun i hi => ?_, fun j hj => ?_, fun j h1 h2 h3 => hc (h.oth j h1 h2 h3)⟩
  · obtain ⟨h1, ⟨a, l, q, h2⟩, h3⟩ := h.ent i hi
    exact ⟨hc h1, ⟨a, l, q, hc h2⟩, hc h3⟩
  · have h1 := (h.ent 0 (by omega)).1
    have hlt := World.block_lt_of_cell? _ _ h1
    rw [hb.frozen (p := ⟨T, j, none⟩) hlt]
    exact h.frz j hj
theorem BkT.step {g : Nat} (h : BkT w0 B T m c sa ln sc N W) (hg : W.grownBy W' (some g)) (hge : w0.heap.size ≤ g) (h1 : g ≠ B) (h2 : g ≠ T) : BkT w0 B T m c sa ln sc N W' := by
  have hc : ∀ {a : Addr} {v : Value}, a.block ≠ g → W.cell? a = some v → W'.cell? a = some v := fun hne e => hg.cell e (by simpa using hne)
  refine ⟨h.low.grown hg h.low.size (fun k e => by cases e; exact hge), hc (Ne.symm h1) h.fld, fun i hi => ?_, fun j hj => ?_, fun j q1 q2 q3 => hc (Ne.symm h1) (h.oth j q1 q2 q3)⟩
  · obtain ⟨e1, ⟨a, l, q, e2⟩, e3⟩ := h.ent i hi
    exact ⟨hc (Ne.symm h2) e1, ⟨a, l, q, hc (Ne.symm h2) e2⟩, hc (Ne.symm h2) e3⟩
  · have e1 := (h.ent 0 (by omega)).1
    have hlt := World.block_lt_of_cell? _ _ e1
    rw [World.frozen?_of_block (hg.block T hlt (by simpa using Ne.symm h2))]
    exact h.frz j hj

/-- The lists' places, each filled with its mark from the first one on, as far as f says. -/
def RowsF (w0 : World) (m : Nat) (sa : Nat → Option Addr) (ln sc : Nat → Nat) (N : Nat → Int) (f : Nat → Nat) (W : World) : Prop :=
  ∀ j, j < m → ∃ X, W.ownsRow w0.heap.size 84 4 (.slice (sa j) (ln j) (sc j)) (ln j) X ∧ ∀ q, q < f j → ∀ r, r < 4 → X[q * 4 + r]? = (mkL (N j))[r]?
variable {f f' : Nat → Nat}
theorem RowsF.below (h : RowsF w0 m sa ln sc N f W) (hb : Below W.heap.size W W') : RowsF w0 m sa ln sc N f W' := fun j hj => let ⟨X, h1, h2⟩ := h j hj; ⟨X, ownsRow_below h1 hb, h2⟩
theorem RowsF.mono (h : RowsF w0 m sa ln sc N f W) (hf : ∀ j, j < m → f' j ≤ f j) : RowsF w0 m sa ln sc N f' W := fun j hj => let ⟨X, h1, h2⟩ := h j hj; ⟨X, h1, fun q hq => h2 q (Nat.lt_of_lt_of_le hq (hf j hj))⟩
theorem RowsF.at (h : RowsF w0 m sa ln sc N f W) {i : Nat} (hi : i < m) (h0 : 0 < ln i) : ∃ g, sa i = some ⟨g, 0, none⟩ ∧ w0.heap.size ≤ g ∧ g < W.heap.size ∧ (∀ k, k < ln i * 4 → ∃ u, W.cell? ⟨g, k, none⟩ = some u) ∧ ∀ k, W.frozen? ⟨g, k, none⟩ = false := by
  obtain ⟨X, h1, -⟩ := h i hi
  have hl := h1.1
  rcases h1.2 with ⟨e, -⟩ | ⟨g, cap, cur, e, hbase, hb, rest⟩
  · simp only [Value.slice.injEq] at e
    omega
  · simp only [Value.slice.injEq] at e
    obtain ⟨e1, -, e3⟩ := e
    rw [e1] at h1
    refine ⟨g, e1, hbase, (Array.getElem?_eq_some_iff.1 hb).1, fun k hk => ?_, fun k => h1.frozenAt k⟩
    refine ⟨X[k]'(by omega), ?_⟩
    rw [h1.cellAt k (by omega), List.getElem?_eq_getElem]
theorem RowsF.store (hs : BkS w0 B T m c sa ln sc N) (h : RowsF w0 m sa ln sc N f W) {i g k : Nat} (hi : i < m) (he : sa i = some ⟨g, 0, none⟩) (hk : k < ln i) (hf : f i = k) :
    W.grownBy (put4 W g k (N i)) (some g) ∧ RowsF w0 m sa ln sc N (fun j => if j = i then k + 1 else f j) (put4 W g k (N i)) := by
  obtain ⟨X, h1, h2⟩ := h i hi
  rw [he] at h1
  obtain ⟨h3, h4⟩ := put4_own h1 k (N i)
  have hl := h1.1
  refine ⟨h4, fun j hj => ?_⟩
  dsimp only
  by_cases hji : j = i
  · subst hji
    rw [he, if_pos rfl]
    refine ⟨_, h3, fun q hq => ?_⟩
    exact put4_get (show X.length = ln j * 4 by omega) hk (fun q hq => h2 q (by omega)) q hq
  · obtain ⟨Y, h5, h6⟩ := h j hj
    rw [if_neg hji]
    refine ⟨Y, h5.kept h4 ?_, h6⟩
    have := hs.ap i hi j hj (Ne.symm hji) g he
    cases hsa : sa j with
    | none => exact .inl rfl
    | some a =>
      right
      intro e
      have e2 : a.block = g := by simpa [Value.ownBlock] using e
      rcases h5.2 with ⟨e3, -⟩ | ⟨g', cap, cur, e3, -⟩
      · rw [hsa] at e3; simp at e3
      · rw [hsa] at e3
        simp only [Value.slice.injEq, Option.some.injEq] at e3
        rw [hsa, e3.1] at this
        rw [e3.1] at e2
        exact this (by rw [← e2])
end

/-- How many places of the j-th list are filled: of those ahead of the i-th all, of the i-th k. -/
def fillF (ln : Nat → Nat) (i k : Nat) : Nat → Nat := fun j => if j < i then ln j else if j = i then k else 0
/-- Within a round: the list's own copy in block h. -/
structure FI (w0 : World) (B T m c : Nat) (sa : Nat → Option Addr) (ln sc : Nat → Nat) (N : Nat → Int) (i k hb : Nat) (v : Value) (W : World) : Prop where
  bk : BkT w0 B T m c sa ln sc N W
  rows : RowsF w0 m sa ln sc N (fillF ln i k) W
  hat : At W hb 0 [.slice (sa i) (ln i) (sc i), v, .int .i64 (N i)]
  hne : ∀ j, j < m → sa j ≠ some ⟨hb, 0, none⟩
section
variable {w0 : World} {B T m c : Nat} {sa : Nat → Option Addr} {ln sc : Nat → Nat} {N : Nat → Int} {W W' : World} {i k hb : Nat} {v : Value}
theorem FI.below (h : FI w0 B T m c sa ln sc N i k hb v W) (hl : Below W.heap.size W W') : FI w0 B T m c sa ln sc N i k hb v W' := ⟨h.bk.below hl, h.rows.below hl, h.hat.below hl, h.hne⟩
theorem FI.store (hs : BkS w0 B T m c sa ln sc N) (h : FI w0 B T m c sa ln sc N i k hb v W) {g : Nat} (hi : i < m) (he : sa i = some ⟨g, 0, none⟩) (hk : k < ln i) : FI w0 B T m c sa ln sc N i (k + 1) hb v (put4 W g k (N i)) := by
  obtain ⟨g2, e2, hge, hlt, -⟩ := h.rows.at hi (by omega)
  rw [he] at e2
  simp only [Option.some.injEq, Addr.mk.injEq, and_true] at e2
  subst e2
  have hn := hs.nb i hi g he
  obtain ⟨h1, h2⟩ := h.rows.store hs hi he hk (by simp [fillF])
  have hgh : g ≠ hb := fun e => h.hne i hi (by rw [he, e])
  refine ⟨h.bk.step h1 hge hn.1 hn.2, h2.mono fun j hj => ?_, fun q hq => ?_, h.hne⟩
  · unfold fillF
    by_cases h3 : j = i
    · subst h3; simp
    · simp [h3]
  · have := h.hat q hq
    rw [List.getElem?_eq_getElem hq] at this ⊢
    exact h1.cell this (by simpa using Ne.symm hgh)
theorem RowsF.lt {f : Nat → Nat} (h : RowsF w0 m sa ln sc N f W) {j b : Nat} (hj : j < m) (e : sa j = some ⟨b, 0, none⟩) : b < W.heap.size := by
  obtain ⟨X, h1, -⟩ := h j hj
  exact (h1.lt b (by rw [e]; rfl)).2
theorem FI.start {T' : TypeId} (h : BkT w0 B T m c sa ln sc N W) (hr : RowsF w0 m sa ln sc N (fillF ln i 0) W) : FI w0 B T m c sa ln sc N i 0 W.heap.size v (W.alloc (.cells #[.slice (sa i) (ln i) (sc i), v, .int .i64 (N i)] T')) :=
  ⟨h.below (below_alloc _ _), hr.below (below_alloc _ _), at_new rfl (Below.refl _ _), fun _ hj e => absurd (hr.lt hj e) (Nat.lt_irrefl _)⟩
/-- What the round reads. -/
theorem FI.cells (h : FI w0 B T m c sa ln sc N i k hb v W) {g : Nat} (hi : i < m) (hk : k < ln i) (he : sa i = some ⟨g, 0, none⟩) :
    W.cell? ⟨hb, 0, none⟩ = some (.slice (some ⟨g, 0, none⟩) (ln i) (sc i)) ∧ W.cell? ⟨hb, 1, none⟩ = some v ∧ W.cell? ⟨hb, 2, none⟩ = some (.int .i64 (N i)) ∧ (W.cell? ⟨g, k * 4, none⟩ = some (rs W g (k * 4)) ∧ W.cell? ⟨g, k * 4 + 1, none⟩ = some (rs W g (k * 4 + 1)) ∧ W.cell? ⟨g, k * 4 + 2, none⟩ = some (rs W g (k * 4 + 2)) ∧ W.cell? ⟨g, k * 4 + 3, none⟩ = some (rs W g (k * 4 + 3))) ∧ W.frozen? ⟨g, k * 4, none⟩ = false ∧ W.frozen? ⟨g, k * 4 + 1, none⟩ = false ∧ W.frozen? ⟨g, k * 4 + 2, none⟩ = false ∧ W.frozen? ⟨g, k * 4 + 3, none⟩ = false := by
  obtain ⟨g2, e2, -, -, h3, h4⟩ := h.rows.at hi (by omega)
  rw [he] at e2
  simp only [Option.some.injEq, Addr.mk.injEq, and_true] at e2
  subst e2
  have hc : ∀ r, r < 4 → W.cell? ⟨g, k * 4 + r, none⟩ = some (rs W g (k * 4 + r)) := fun r hr => let ⟨_, hu⟩ := h3 (k * 4 + r) (by omega); rs_some hu
  rw [← he]
  exact ⟨h.hat 0 (by decide : 0 < 3), h.hat 1 (by decide : 1 < 3), h.hat 2 (by decide : 2 < 3), ⟨hc 0 (by decide), hc 1 (by decide), hc 2 (by decide), hc 3 (by decide)⟩, h4 _, h4 _, h4 _, h4 _⟩
theorem FI.len (h : FI w0 B T m c sa ln sc N i k hb v W) : W.cell? ⟨hb, 0, none⟩ = some (.slice (sa i) (ln i) (sc i)) := h.hat 0 (by decide : 0 < 3)
end

set_option maxRecDepth 100000 in
set_option maxHeartbeats 4000000 in
theorem fillWord_any {w0 : World} {B T m c : Nat} {sa : Nat → Option Addr} {ln sc : Nat → Nat} {N : Nat → Int} {w : World} (hs : BkS w0 B T m c sa ln sc N) (h : BkT w0 B T m c sa ln sc N w) (hr : RowsF w0 m sa ln sc N (fun _ => 0) w) :
    Calls Tryz.prog 37 #[.pointer (some ⟨B, 0, none⟩)] w fun e w' => e = .returned (.tuple #[]) ∧ BkT w0 B T m c sa ln sc N w' ∧ RowsF w0 m sa ln sc N ln w' := by
  have HS := Lib.hid hs
  have OK0 := Lib.hid (And.intro h (hr.mono (f' := fillF ln 0 0) (by intro j hj; simp [fillF])))
  have HM := Lib.hid (fun i (hi : i < m) W (_hb : BkT w0 B T m c sa ln sc N W) => markWord_is (hs.sm i hi) W)
  clear h hr hs
  go_enter Tryz.func37, Tryz.ntmps37
  go_wp2_with fail
  go_loopw [2] (fun i wr => ∃ k : Nat, k ≤ m ∧ i = .int .i64 k ∧ BkT w0 B T m c sa ln sc N wr ∧ RowsF w0 m sa ln sc N (fillF ln k 0) wr) (fun i _ => m - (intOf i).toNat)
  case atStart => exact ⟨0, Nat.zero_le _, rfl, OK0.out⟩
  case round =>
    clear OK0
    obtain ⟨i, hi, rfl, ok⟩ := hrel
    have OK := Lib.hid ok
    clear ok
    have b2 := OK.out.1.fld
    have hmc := HS.out.hmc
    unfold maxLen at hmc
    obtain ⟨hm1, hm2⟩ := hmc
    by_cases hlt : i < m
    · have hlt' : (i : Int) < (m : Int) := by omega
      have hi0 : (0 : Int) ≤ (i : Int) := by omega
      obtain ⟨e0, ⟨va, vl, vq, e1⟩, e2⟩ := OK.out.1.ent i hlt
      have hln := HS.out.lnb i hlt
      have HF := Lib.hid (FI.start (v := .slice va vl vq) (T' := 114) OK.out.1 OK.out.2)
      go_upto_region 4 with fail
      revert HF
      generalize wr.alloc (.cells #[.slice (sa i) (ln i) (sc i), .slice va vl vq, .int .i64 (N i)] 114) = W1
      generalize wr.heap.size = hb
      intro HF
      clear OK e0 e1 e2 b2
      go_wp2_with fail
      go_loopw [4] (fun kk wr => ∃ k : Nat, k ≤ ln i ∧ kk = .int .i64 k ∧ FI w0 B T m c sa ln sc N i k hb (.slice va vl vq) wr) (fun kk _ => ln i - (intOf kk).toNat)
      case atStart => exact ⟨0, Nat.zero_le _, rfl, HF.out⟩
      case round =>
        clear HF
        obtain ⟨k, hk, rfl, ok⟩ := hrel
        have OK := Lib.hid ok
        clear ok
        by_cases hkl : k < ln i
        · obtain ⟨g, he, -⟩ := OK.out.rows.at hlt (by omega)
          have hkl' : (k : Int) < (ln i : Int) := by omega
          have hk0 : (0 : Int) ≤ (k : Int) := by omega
          have KN := Lib.hid (fun W (h : FI w0 B T m c sa ln sc N i k hb (.slice va vl vq) W) => h.cells hlt hkl he)
          have ST := Lib.hid (fun W (h : FI w0 B T m c sa ln sc N i k hb (.slice va vl vq) W) => h.store HS.out hlt he hkl)
          have HMi := Lib.hid (fun W (h : FI w0 B T m c sa ln sc N i k hb (.slice va vl vq) W) => HM.out i hlt W h.bk)
          unfold put4 at ST
          obtain ⟨c0, c1, c2, ⟨c3, c4, c5, c6⟩, z3, z4, z5, z6⟩ := KN.out _ OK.out
          clear he
          go_upto_region 7 with fail
          go_region_with (go_at_call 104; (with_reducible refine (HMi.out _ ?_).mono ?_); (first | exact OK.out | exact OK.out.below (Below.refl _ _).drew); rintro x w1 ⟨rfl, hb1⟩; (first | replace OK := Lib.hid (OK.out.below hb1) | replace OK := Lib.hid ((OK.out.below (Below.refl _ _).drew).below hb1)); clear hb1; clear c0 c1 c2 c3 c4 c5 c6 z3 z4 z5 z6; obtain ⟨c0, c1, c2, ⟨c3, c4, c5, c6⟩, z3, z4, z5, z6⟩ := KN.out _ OK.out)
          all_goals go_wp2_with fail
          all_goals refine ⟨⟨k + 1, hkl, by go_num, ST.out _ OK.out⟩, by simp [intOf]; omega⟩
        · obtain rfl : k = ln i := by omega
          have c0 := OK.out.len
          have hkl' : ¬ (ln i : Int) < (ln i : Int) := by omega
          go_wp2_with fail
          refine ⟨⟨i + 1, hlt, by go_num, OK.out.bk, OK.out.rows.mono fun j hj => ?_⟩, by simp [intOf]; omega⟩
          unfold fillF
          split <;> split <;> (try split) <;> first | omega | (subst_vars; omega)
    · obtain rfl : i = m := by omega
      go_wp2_with fail
      go_end0
      exact ⟨rfl, OK.out.1, OK.out.2.mono (by intro j hj; simp [fillF, hj])⟩
end Go.Proofs.YtpnbnomaaeoemaaGreatDoor
