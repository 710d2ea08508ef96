/-
  Appending to a row of one's own: in place, or into a new block, the old row as it was.
  Conditions: the row is one's own.
  Walks: growWord puts forty marks behind each list.
  Conditions: the book, its lists, and what they hold lie in blocks behind a world; no two share a block.
-/
import Derived.Test.YtpnbnomaaeoemaaGreatDoorLexKB
namespace Go.Proofs.YtpnbnomaaeoemaaGreatDoor
open Go.RowKit

theorem own_base {W : World} {b b' n sz : Nat} {T : TypeId} {v : Value} {xs : List Value} (hb : b ≤ b') (h : W.ownsRow b' T sz v n xs) : W.ownsRow b T sz v n xs := by
  refine ⟨h.1, ?_⟩
  rcases h.2 with h0 | ⟨g, cap, cur, e, hbase, rest⟩
  · exact .inl h0
  · exact .inr ⟨g, cap, cur, e, Nat.le_trans hb hbase, rest⟩
/-- The row's beginning. -/
theorem own_take {W : World} {b n k g cp : Nat} {T : TypeId} {xs : List Value} (h : W.ownsRow b T 4 (.slice (some ⟨g, 0, none⟩) n cp) n xs) (hk : k ≤ n) : W.ownsRow b T 4 (.slice (some ⟨g, 0, none⟩) k cp) k (xs.take (k * 4)) := by
  have hl := h.1
  rcases h.2 with ⟨e, -⟩ | ⟨g', cap', cur, e, hbase, hb, h1, h2, h3, h4⟩
  · cases e
  cases e
  refine ⟨by rw [List.length_take, hl]; omega, .inr ⟨g, cp, cur, rfl, hbase, hb, by omega, h2, h3, ?_⟩⟩
  rw [← h4, List.take_take]
  congr 1
  omega

theorem append_two {P : Program} (w : World) (base : Nat) (t ty e : TypeId) (i : TypeInfo) (z : Value) (size bytes : Nat) (ht : P.underlying t = some (.slice e)) (hi : P.info? e = some i) (hz : i.zero = some z)
    (hsize : i.size = size) (hby : i.bytes = bytes) (hzs : z.cells.size = size) (hsz : 0 < size)
    (v : Value) (n : Nat) (xs : List Value) (hown : w.ownsRow base e size v n xs)
    (a : Addr) (m c : Nat) (news : List Value) (hl : news.length = m * size) (hnews : ∀ j u, news[j]? = some u → w.cell? (a.add j) = some u) (h1 : ∀ u ∈ news, u.oneCell' = true) (hm : 0 < m)
    (h63 : n + m ≤ maxLen) (hbytes : (n + m) * bytes ≤ 140737488355328) (hbase : base ≤ w.heap.size) :
    ∃ v' w', (Builtin.append_ #[t, t] ty #[v, .slice (some a) m c]).run P w = .ok v' w' ∧ w'.ownsRow base e size v' (n + m) (xs ++ news) ∧
      ((∃ g cap, v = .slice (some ⟨g, 0, none⟩) n cap ∧ v' = .slice (some ⟨g, 0, none⟩) (n + m) cap ∧ w.grownBy w' (some g)) ∨ (w.grownBy w' none ∧ ∃ g cap, v' = .slice (some ⟨g, 0, none⟩) (n + m) cap ∧ w.heap.size ≤ g)) := by
  rcases hown.2 with ⟨hv, hn⟩ | ⟨g, cap, cur, hv, hbg, hg, hnc, hcm, hcs, htake⟩
  · have h0 : w.ownsRow w.heap.size e size v n xs := ⟨hown.1, .inl ⟨hv, hn⟩⟩
    obtain ⟨v', w', hr, h2, h3, -⟩ := run_append_own (P := P) w w.heap.size t ty e i z size bytes ht hi hz hsize hby hzs hsz v n xs h0 a m c news hl hnews h1 h63 hbytes (Nat.le_refl _)
    refine ⟨v', w', hr, own_base hbase h2, .inr ⟨by rw [hv] at h3; exact h3, ?_⟩⟩
    rcases h2.2 with ⟨-, e0⟩ | ⟨g, cap, cur, e0, e1, -⟩
    · omega
    · exact ⟨g, cap, e0, e1⟩
  · subst hv
    obtain ⟨v', w', hr, h2, h3, -⟩ := run_append_own (P := P) w base t ty e i z size bytes ht hi hz hsize hby hzs hsz _ n xs hown a m c news hl hnews h1 h63 hbytes hbase
    refine ⟨v', w', hr, h2, ?_⟩
    by_cases hroom : n + m ≤ cap
    · left
      have hfit : n * i.size + news.length ≤ cur.size := by rw [hl, hcs, hsize, ← Nat.add_mul]; exact Nat.mul_le_mul_right _ hroom
      have hr2 := run_append_room (P := P) w t ty e i ht hi g n cap cur hg a m c news (by rw [hsize]; exact hl) hnews h1 hroom hfit
      have he := hr.symm.trans hr2
      simp only [Result.ok.injEq] at he
      exact ⟨g, cap, rfl, he.1, by simpa [Value.ownBlock] using h3⟩
    · right
      have holds : ∀ j u, xs[j]? = some u → w.cell? ((⟨g, 0, none⟩ : Addr).add j) = some u := hown.cells (g := g) rfl
      have hr2 := run_append_grow (P := P) w t ty e i z ht hi hz ⟨g, 0, none⟩ n cap xs (by rw [hsize]; exact hown.1) holds a m c news (by rw [hsize]; exact hl) hnews (by omega) (by unfold maxLen at h63; omega) (by rw [hby]; exact growslice_fits (by omega) hbytes)
      have he := hr.symm.trans hr2
      simp only [Result.ok.injEq] at he
      obtain ⟨e1, e2⟩ := he
      subst e1 e2
      refine ⟨⟨rfl, rfl, rfl, by simp, fun k hk _ => ?_⟩, _, _, rfl, Nat.le_refl _⟩
      exact Below.heap_alloc w.drew _ k hk

section
variable {w0 : World} {B T m c : Nat} {sa : Nat → Option Addr} {ln sc : Nat → Nat} {N : Nat → Int} {W W' : World} {i hb ws : Nat}
/-- The i-th list as it is told, filled. -/
def RowI (w0 : World) (sa : Nat → Option Addr) (ln sc : Nat → Nat) (N : Nat → Int) (j : Nat) (W : World) : Prop :=
  ∃ X, W.ownsRow w0.heap.size 84 4 (.slice (sa j) (ln j) (sc j)) (ln j) X ∧ ∀ q, q < ln j → ∀ r, r < 4 → X[q * 4 + r]? = (mkL (N j))[r]?
/-- A row of marks. -/
def MarkRow (w0 : World) (n : Int) (v : Value) (k : Nat) (W : World) : Prop := ∃ X, W.ownsRow w0.heap.size 84 4 v k X ∧ ∀ q, q < k → ∀ r, r < 4 → X[q * 4 + r]? = (mkL n)[r]?
/-- The j-th list has got its forty more, in its own block or a new one. -/
def DoneG (w0 : World) (T : Nat) (sa : Nat → Option Addr) (ln : Nat → Nat) (N : Nat → Int) (ws bd j : Nat) (W : World) : Prop :=
  ∃ g cp, W.cell? ⟨T, j * 3 + 1, none⟩ = some (.slice (some ⟨g, 0, none⟩) (ln j + 40) cp) ∧ MarkRow w0 (N j) (.slice (some ⟨g, 0, none⟩) (ln j + 40) cp) (ln j + 40) W ∧ (sa j = some ⟨g, 0, none⟩ ∨ ws ≤ g) ∧ g < bd
theorem MarkRow.below {n : Int} {v : Value} {k : Nat} (h : MarkRow w0 n v k W) (hl : Below W.heap.size W W') : MarkRow w0 n v k W' := let ⟨X, h1, h2⟩ := h; ⟨X, ownsRow_below h1 hl, h2⟩
theorem MarkRow.kept {n : Int} {a : Option Addr} {l q : Nat} {k g : Nat} (h : MarkRow w0 n (.slice a l q) k W) (hg : W.grownBy W' (some g)) (hne : ∀ b, a = some ⟨b, 0, none⟩ → b ≠ g) : MarkRow w0 n (.slice a l q) k W' := by
  obtain ⟨X, h1, h2⟩ := h
  refine ⟨X, h1.kept hg ?_, h2⟩
  rcases h1.2 with ⟨e, -⟩ | ⟨b, cap, cur, e, -⟩
  · left
    simp only [Value.slice.injEq] at e
    rw [e.1]
    rfl
  · right
    simp only [Value.slice.injEq] at e
    have := hne b e.1
    rw [e.1]
    simpa [Value.ownBlock] using this
theorem rowI_eq (j : Nat) : RowI w0 sa ln sc N j W = MarkRow w0 (N j) (.slice (sa j) (ln j) (sc j)) (ln j) W := rfl
theorem DoneG.below {bd j : Nat} (h : DoneG w0 T sa ln N ws bd j W) (hl : Below W.heap.size W W') : DoneG w0 T sa ln N ws bd j W' := by
  obtain ⟨g, cp, h1, h2, h3, h4⟩ := h
  exact ⟨g, cp, by rw [hl.cell (World.block_lt_of_cell? _ _ h1), h1], h2.below hl, h3, h4⟩
theorem DoneG.kept {bd j g : Nat} (h : DoneG w0 T sa ln N ws bd j W) (hg : W.grownBy W' (some g)) (hT : g ≠ T) (hne : ∀ b, b < bd → (sa j = some ⟨b, 0, none⟩ ∨ ws ≤ b) → b ≠ g) : DoneG w0 T sa ln N ws bd j W' := by
  obtain ⟨g', cp, h1, h2, h3, h4⟩ := h
  refine ⟨g', cp, hg.cell h1 (by simpa using Ne.symm hT), h2.kept hg fun b e => ?_, h3, h4⟩
  simp only [Option.some.injEq, Addr.mk.injEq, and_true] at e
  subst e
  exact hne _ h4 h3
theorem DoneG.mono {bd bd' j : Nat} (h : DoneG w0 T sa ln N ws bd j W) (hb : bd ≤ bd') : DoneG w0 T sa ln N ws bd' j W := let ⟨g, cp, h1, h2, h3, h4⟩ := h; ⟨g, cp, h1, h2, h3, Nat.lt_of_lt_of_le h4 hb⟩

/-- What growWord is told besides: all lies below ws. -/
structure GS (w0 : World) (B T m c : Nat) (sa : Nat → Option Addr) (ln sc : Nat → Nat) (N : Nat → Int) (ws : Nat) : Prop where
  s : BkS w0 B T m c sa ln sc N
  lB : B < ws
  lT : T < ws
  lr : ∀ j, j < m → ∀ b, sa j = some ⟨b, 0, none⟩ → b < ws
  ge : ∀ j, j < m → ∀ b, sa j = some ⟨b, 0, none⟩ → w0.heap.size ≤ b
  lw : w0.heap.size ≤ ws
/-- Within a round of growWord. -/
structure GI (w0 : World) (B T m c : Nat) (sa : Nat → Option Addr) (ln sc : Nat → Nat) (N : Nat → Int) (ws i q hb : Nat) (v : Value) (a : Option Addr) (cp : Nat) (W : World) : Prop where
  bk : BkT w0 B T m c sa ln sc N W
  rows : ∀ j, j < m → RowI w0 sa ln sc N j W
  hat : At W hb 0 [.slice (sa i) (ln i) (sc i), v, .int .i64 (N i)]
  hlt : hb < W.heap.size
  hws : ws ≤ hb
  done : ∀ j, j < i → DoneG w0 T sa ln N ws hb j W
  long : MarkRow w0 (N i) (.slice a (ln i + q) cp) (ln i + q) W
  abl : (a = sa i ∧ cp = sc i) ∨ ∃ g, a = some ⟨g, 0, none⟩ ∧ hb < g
variable {q cp : Nat} {v : Value} {a : Option Addr}
theorem GI.below (h : GI w0 B T m c sa ln sc N ws i q hb v a cp W) (hl : Below W.heap.size W W') : GI w0 B T m c sa ln sc N ws i q hb v a cp W' :=
  ⟨h.bk.below hl, fun j hj => MarkRow.below (h.rows j hj) hl, h.hat.below hl, Nat.lt_of_lt_of_le h.hlt hl.size, h.hws, fun j hj => (h.done j hj).below hl, h.long.below hl, h.abl⟩
/-- One mark more. -/
theorem GI.step (hs : GS w0 B T m c sa ln sc N ws) (h : GI w0 B T m c sa ln sc N ws i q hb v a cp W) (hi : i < m) {g cp' : Nat} (hg : W.grownBy W' (some g)) (hl : MarkRow w0 (N i) (.slice (some ⟨g, 0, none⟩) (ln i + (q + 1)) cp') (ln i + (q + 1)) W')
    (hc : (a = some ⟨g, 0, none⟩ ∧ cp' = cp) ∨ W.heap.size ≤ g) : GI w0 B T m c sa ln sc N ws i (q + 1) hb v (some ⟨g, 0, none⟩) cp' W' := by
  have hab : (sa i = some ⟨g, 0, none⟩ ∧ cp' = sc i) ∨ hb < g := by
    rcases hc with ⟨e1, e2⟩ | e
    · rcases h.abl with ⟨e3, e4⟩ | ⟨g', e3, e4⟩
      · exact .inl ⟨by rw [← e3, e1], by rw [e2, e4]⟩
      · rw [e1] at e3
        simp only [Option.some.injEq, Addr.mk.injEq, and_true] at e3
        subst e3
        exact .inr e4
    · exact .inr (by have := h.hlt; omega)
  have hgw : w0.heap.size ≤ g := by
    rcases hab with ⟨e1, -⟩ | e
    · exact hs.ge i hi g e1
    · have := hs.lw; have := h.hws; omega
  have hgB : g ≠ B := by
    rcases hab with ⟨e1, -⟩ | e
    · exact (hs.s.nb i hi g e1).1
    · have := hs.lB; have := h.hws; omega
  have hgT : g ≠ T := by
    rcases hab with ⟨e1, -⟩ | e
    · exact (hs.s.nb i hi g e1).2
    · have := hs.lT; have := h.hws; omega
  have hgh : g ≠ hb := by
    rcases hab with ⟨e1, -⟩ | e
    · have := hs.lr i hi g e1; have := h.hws; omega
    · omega
  have hrow : ∀ j, j < m → j ≠ i → ∀ b, sa j = some ⟨b, 0, none⟩ → b ≠ g := by
    intro j hj hji b e hbg
    subst hbg
    rcases hab with ⟨e1, -⟩ | e2
    · exact hs.s.ap i hi j hj (Ne.symm hji) _ e1 e
    · have := hs.lr j hj _ e; have := h.hws; omega
  refine ⟨h.bk.step hg hgw hgB hgT, fun j hj => ?_, fun r hr => ?_, Nat.lt_of_lt_of_le h.hlt hg.size, h.hws, fun j hj => ?_, hl, ?_⟩
  · by_cases hji : j = i
    · subst hji
      rcases hab with ⟨e1, e2⟩ | e
      · obtain ⟨X, h1, h2⟩ := hl
        have h3 := own_take h1 (show ln j ≤ ln j + (q + 1) by omega)
        rw [rowI_eq, e1, ← e2]
        refine ⟨_, h3, fun r hr t ht => ?_⟩
        rw [List.getElem?_take, if_pos (by omega)]
        exact h2 r (by omega) t ht
      · refine MarkRow.kept (h.rows j hj) hg fun b e' hbg => ?_
        subst hbg
        have := hs.lr j hj _ e'; have := h.hws; omega
    · exact MarkRow.kept (h.rows j hj) hg (hrow j hj hji)
  · have := h.hat r hr
    rw [List.getElem?_eq_getElem hr] at this ⊢
    exact hg.cell this (by simpa using Ne.symm hgh)
  · refine (h.done j hj).kept hg hgT fun b hb1 hb2 hbg => ?_
    subst hbg
    rcases hab with ⟨e1, -⟩ | e
    · have hgl := hs.lr i hi _ e1
      rcases hb2 with e2 | e2
      · exact hs.s.ap i hi j (by omega) (by omega) _ e1 e2
      · omega
    · omega
  · rcases hab with ⟨e1, e2⟩ | e
    · exact .inl ⟨e1.symm, e2⟩
    · exact .inr ⟨g, rfl, e⟩
end
section
variable {w0 : World} {B T m c : Nat} {sa : Nat → Option Addr} {ln sc : Nat → Nat} {N : Nat → Int} {W W' : World} {i hb ws : Nat}
theorem grownBy_set (W : World) (b k : Nat) (u : Value) : W.grownBy (W.setCell ⟨b, k, none⟩ u) (some b) :=
  ⟨rfl, rfl, rfl, by simp, fun _ _ hne => Below.heap_setCell _ _ _ _ (fun e => hne (by rw [e]))⟩
/-- The long list is put into the book. -/
theorem GI.finish (hs : GS w0 B T m c sa ln sc N ws) {v : Value} {g cp : Nat} (h : GI w0 B T m c sa ln sc N ws i 40 hb v (some ⟨g, 0, none⟩) cp W) (hi : i < m) :
    BkT w0 B T m c sa ln sc N (W.setCell ⟨T, i * 3 + 1, none⟩ (.slice (some ⟨g, 0, none⟩) (ln i + 40) cp)) ∧ (∀ j, j < m → RowI w0 sa ln sc N j (W.setCell ⟨T, i * 3 + 1, none⟩ (.slice (some ⟨g, 0, none⟩) (ln i + 40) cp))) ∧
      (∀ j, j < i + 1 → DoneG w0 T sa ln N ws (W.setCell ⟨T, i * 3 + 1, none⟩ (.slice (some ⟨g, 0, none⟩) (ln i + 40) cp)).heap.size j (W.setCell ⟨T, i * 3 + 1, none⟩ (.slice (some ⟨g, 0, none⟩) (ln i + 40) cp))) ∧ ws ≤ (W.setCell ⟨T, i * 3 + 1, none⟩ (.slice (some ⟨g, 0, none⟩) (ln i + 40) cp)).heap.size := by
  have hg := grownBy_set W T (i * 3 + 1) (.slice (some ⟨g, 0, none⟩) (ln i + 40) cp)
  have hsz : (W.setCell ⟨T, i * 3 + 1, none⟩ (.slice (some ⟨g, 0, none⟩) (ln i + 40) cp)).heap.size = W.heap.size := by simp
  have hoth : ∀ k, k ≠ i * 3 + 1 → (W.setCell ⟨T, i * 3 + 1, none⟩ (.slice (some ⟨g, 0, none⟩) (ln i + 40) cp)).cell? ⟨T, k, none⟩ = W.cell? ⟨T, k, none⟩ := fun k hk => World.cell?_setCell_other _ _ _ _ (fun e => hk (congrArg (fun a : Addr => a.off) e).symm)
  have hgT : g ≠ T := by
    rcases h.abl with ⟨e, -⟩ | ⟨g', e, h2⟩
    · exact (hs.s.nb i hi g e.symm).2
    · simp only [Option.some.injEq, Addr.mk.injEq, and_true] at e
      subst e
      have := hs.lT; have := h.hws; omega
  obtain ⟨a1, l1, q1, hold⟩ := (h.bk.ent i hi).2.1
  have hsame := World.cell?_setCell_same W ⟨T, i * 3 + 1, none⟩ (.slice (some ⟨g, 0, none⟩) (ln i + 40) cp) hold
  refine ⟨⟨h.bk.low.setCell (p := ⟨T, i * 3 + 1, none⟩) hs.s.hT _, hg.cell h.bk.fld (by simpa using hs.s.hBT), fun j hj => ?_, fun j hj => ?_, fun j q1 q2 q3 => hg.cell (h.bk.oth j q1 q2 q3) (by simpa using hs.s.hBT)⟩, fun j hj => ?_, fun j hj => ?_, ?_⟩
  · obtain ⟨e0, ⟨a2, l2, q2, e1⟩, e2⟩ := h.bk.ent j hj
    refine ⟨by rw [hoth _ (by omega), e0], ?_, by rw [hoth _ (by omega), e2]⟩
    by_cases hji : j = i
    · subst hji
      exact ⟨_, _, _, hsame⟩
    · exact ⟨a2, l2, q2, by rw [hoth _ (by omega), e1]⟩
  · rw [World.frozen?_setCell]
    exact h.bk.frz j hj
  · exact MarkRow.kept (h.rows j hj) hg fun b e => (hs.s.nb j hj b e).2
  · rw [hsz]
    by_cases hji : j = i
    · subst hji
      have hl := h.long.kept hg fun b e => by
        simp only [Option.some.injEq, Addr.mk.injEq, and_true] at e
        subst e
        exact hgT
      obtain ⟨X, h1, -⟩ := h.long
      refine ⟨g, cp, hsame, hl, ?_, (h1.lt g rfl).2⟩
      rcases h.abl with ⟨e, -⟩ | ⟨g', e, h2⟩
      · exact .inl e.symm
      · simp only [Option.some.injEq, Addr.mk.injEq, and_true] at e
        subst e
        right
        have := h.hws; omega
    · obtain ⟨g', cp', e1, e2, e3, e4⟩ := h.done j (by omega)
      refine ⟨g', cp', by rw [hoth _ (by omega), e1], e2.kept hg fun b e => ?_, e3, by have := h.hlt; omega⟩
      simp only [Option.some.injEq, Addr.mk.injEq, and_true] at e
      subst e
      rcases e3 with e5 | e5
      · exact (hs.s.nb j (by omega) _ e5).2
      · have := hs.lT; omega
  · rw [hsz]
    have := h.hws; have := h.hlt; omega
theorem grown_fresh {g : Nat} (h : W.grownBy W' none) (_hg : W.heap.size ≤ g) : W.grownBy W' (some g) := ⟨h.os, h.tape, h.output, h.size, fun k hk _ => h.block k hk (by simp)⟩
theorem grown_al {O : Obj} {r : Option Nat} (h : (W.alloc O).grownBy W' r) : W.grownBy W' r := grown_trans (World.grownBy_alloc W O r) h

/-- append, one mark more. -/
theorem append_T {q cp : Nat} {v : Value} {al : Option Addr} {ops : Array Oper} {rest : List Oper} {o : Oper} {act : Act} {Q : Exit → Act → World → Prop} (hs : GS w0 B T m c sa ln sc N ws) (hi : i < m) (h : GI w0 B T m c sa ln sc N ws i q hb v al cp W) (hq : q ≤ 1000)
    (hgd : o.guard = none) (s x : Operand) (ho : o.op = .call { callee := .builtin .append, args := #[s, x], argTypes := #[57, 57] }) (hse : act.eval s = .slice al (ln i + q) cp) (T' : TypeId) (hx : act.eval x = .slice (some ⟨W.heap.size, 0, none⟩) 1 1)
    (hr : ∀ g cap W', GI w0 B T m c sa ln sc N ws i (q + 1) hb v (some ⟨g, 0, none⟩) cap W' → wpList Tryz.prog ops Q rest (act.put o.dst (.slice (some ⟨g, 0, none⟩) (ln i + (q + 1)) cap)) W') : wpList Tryz.prog ops Q (o :: rest) act (W.alloc (.cells #[.int .u8 0, .string (wordB (N i)), .int .i64 0, .int .i64 0] T')) := by
  obtain ⟨i0, hi0, hz0, hz1, hz2⟩ := info_parts info_word
  have hln := hs.s.lnb i hi
  obtain ⟨X, hown, hX⟩ := h.long
  have hnew : ∀ j u, (mkL (N i))[j]? = some u → (W.alloc (.cells #[.int .u8 0, .string (wordB (N i)), .int .i64 0, .int .i64 0] T')).cell? ((⟨W.heap.size, 0, none⟩ : Addr).add j) = some u := new_cells (cs := mkL (N i))
  obtain ⟨v', w', hrun, h1, h2⟩ := append_two (P := Tryz.prog) (W.alloc (.cells #[.int .u8 0, .string (wordB (N i)), .int .i64 0, .int .i64 0] T')) w0.heap.size 57 o.type 84 i0 (.agg #[.int .u8 0, .string ⟨#[]⟩, .int .i64 0, .int .i64 0]) 4 40 Tryz.underlying57 hi0 hz0 hz1 hz2 rfl (by decide) _ _ X (hown.alloc _) ⟨W.heap.size, 0, none⟩ 1 1 (mkL (N i)) rfl hnew (fun u hu => by simp [mkL] at hu; rcases hu with rfl | rfl | rfl <;> rfl) (by decide) (by unfold maxLen; omega) (by omega) (by have := h.bk.low.size; simp; omega)
  have hl : X.length = (ln i + q) * 4 := by have := hown.1; omega
  have hmk : ∀ r, r < ln i + (q + 1) → ∀ t, t < 4 → (X ++ mkL (N i))[r * 4 + t]? = (mkL (N i))[t]? := by
    intro r hr t ht
    by_cases hlt : r < ln i + q
    · rw [List.getElem?_append_left (by omega)]
      exact hX r hlt t ht
    · rw [List.getElem?_append_right (by omega), show r * 4 + t - X.length = t by omega]
  have hgo : ∃ g cap, v' = .slice (some ⟨g, 0, none⟩) (ln i + (q + 1)) cap ∧ GI w0 B T m c sa ln sc N ws i (q + 1) hb v (some ⟨g, 0, none⟩) cap w' := by
    rcases h2 with ⟨g, cap, e1, e2, hgr⟩ | ⟨hgr, g, cap, e2, hgs⟩
    · simp only [Value.slice.injEq, true_and] at e1
      subst e2
      exact ⟨g, cap, rfl, h.step hs hi (grown_al hgr) ⟨_, h1, hmk⟩ (.inl ⟨e1.1, e1.2.symm⟩)⟩
    · subst e2
      have hgs2 : W.heap.size ≤ g := by
        have : (W.alloc (.cells #[.int .u8 0, .string (wordB (N i)), .int .i64 0, .int .i64 0] T')).heap.size = W.heap.size + 1 := by simp
        omega
      exact ⟨g, cap, rfl, h.step hs hi (grown_fresh (grown_al hgr) hgs2) ⟨_, h1, hmk⟩ (.inr hgs2)⟩
  obtain ⟨g, cap, rfl, hGI⟩ := hgo
  refine wpList_plain hgd fun K hK => ?_
  unfold Oper.wp execOp
  simp only [ho, resolve, invoke, builtin, Sem.run_bind, Sem.run_pure, Result.andThen_ok, List.map_toArray, List.map_cons, List.map_nil, hse, hx, hrun]
  exact hK _ _ (hr g cap w' hGI)
theorem MarkRow.some' {n : Int} {a : Option Addr} {l q k : Nat} (h : MarkRow w0 n (.slice a l q) k W) (hl : 0 < l) : ∃ g, a = some ⟨g, 0, none⟩ := by
  obtain ⟨X, h1, -⟩ := h
  rcases h1.2 with ⟨e, -⟩ | ⟨g, cap, cur, e, -⟩
  · simp only [Value.slice.injEq] at e
    omega
  · simp only [Value.slice.injEq] at e
    exact ⟨g, e.1⟩
/-- Between the rounds of growWord. -/
structure GO (w0 : World) (B T m c : Nat) (sa : Nat → Option Addr) (ln sc : Nat → Nat) (N : Nat → Int) (ws i : Nat) (W : World) : Prop where
  bk : BkT w0 B T m c sa ln sc N W
  rows : ∀ j, j < m → RowI w0 sa ln sc N j W
  done : ∀ j, j < i → DoneG w0 T sa ln N ws W.heap.size j W
  hws : ws ≤ W.heap.size
theorem GI.start {v : Value} {T' : TypeId} (h : GO w0 B T m c sa ln sc N ws i W) (hi : i < m) : GI w0 B T m c sa ln sc N ws i 0 W.heap.size v (sa i) (sc i) (W.alloc (.cells #[.slice (sa i) (ln i) (sc i), v, .int .i64 (N i)] T')) :=
  ⟨h.bk.below (below_alloc _ _), fun j hj => MarkRow.below (h.rows j hj) (below_alloc _ _), at_new rfl (Below.refl _ _), by simp, h.hws, fun j hj => (h.done j hj).below (below_alloc _ _), MarkRow.below (h.rows i hi) (below_alloc _ _), .inl ⟨rfl, rfl⟩⟩
theorem GI.end' (hs : GS w0 B T m c sa ln sc N ws) {v : Value} {g cp : Nat} (h : GI w0 B T m c sa ln sc N ws i 40 hb v (some ⟨g, 0, none⟩) cp W) (hi : i < m) : GO w0 B T m c sa ln sc N ws (i + 1) (W.setCell ⟨T, i * 3 + 1, none⟩ (.slice (some ⟨g, 0, none⟩) (ln i + 40) cp)) :=
  let ⟨h1, h2, h3, h4⟩ := h.finish hs hi; ⟨h1, h2, h3, h4⟩
theorem GI.cells {q cp : Nat} {v : Value} {a : Option Addr} (h : GI w0 B T m c sa ln sc N ws i q hb v a cp W) (hi : i < m) : W.cell? ⟨hb, 0, none⟩ = some (.slice (sa i) (ln i) (sc i)) ∧ W.cell? ⟨hb, 2, none⟩ = some (.int .i64 (N i)) ∧ W.cell? ⟨B, 5, none⟩ = some (.slice (some ⟨T, 0, none⟩) m c) ∧ W.frozen? ⟨T, i * 3 + 1, none⟩ = false ∧ ∃ a l q, W.cell? ⟨T, i * 3 + 1, none⟩ = some (.slice a l q) :=
  ⟨h.hat 0 (by decide : 0 < 3), h.hat 2 (by decide : 2 < 3), h.bk.fld, h.bk.frz _ (by omega), (h.bk.ent i hi).2.1⟩
end

set_option maxRecDepth 100000 in
set_option maxHeartbeats 4000000 in
theorem growWord_any {w0 : World} {B T m c ws : Nat} {sa : Nat → Option Addr} {ln sc : Nat → Nat} {N : Nat → Int} {w : World} (hs : GS w0 B T m c sa ln sc N ws) (h : BkT w0 B T m c sa ln sc N w) (hr : ∀ j, j < m → RowI w0 sa ln sc N j w) (hw : ws ≤ w.heap.size) :
    Calls Tryz.prog 53 #[.pointer (some ⟨B, 0, none⟩)] w fun e w' => e = .returned (.tuple #[]) ∧ GO w0 B T m c sa ln sc N ws m w' := by
  have HS := Lib.hid hs
  have OK0 := Lib.hid (show GO w0 B T m c sa ln sc N ws 0 w from ⟨h, hr, fun j hj => absurd hj (Nat.not_lt_zero _), hw⟩)
  have HM := Lib.hid (fun i (hi : i < m) W (_hb : BkT w0 B T m c sa ln sc N W) => markWord_is (hs.s.sm i hi) W)
  clear h hr hs hw
  go_enter Tryz.func53, Tryz.ntmps53
  go_wp2_with fail
  go_loopw [2] (fun i wr => ∃ k : Nat, k ≤ m ∧ i = .int .i64 k ∧ GO w0 B T m c sa ln sc N ws k wr) (fun i _ => m - (intOf i).toNat)
  case atStart => exact ⟨0, Nat.zero_le _, rfl, OK0.out⟩
  case round =>
    clear OK0
    obtain ⟨i, hi, rfl, ok⟩ := hrel
    have OK := Lib.hid ok
    clear ok
    have b2 := OK.out.bk.fld
    have hmc := HS.out.s.hmc
    unfold maxLen at hmc
    obtain ⟨hm1, hm2⟩ := hmc
    by_cases hlt : i < m
    · have hlt' : (i : Int) < (m : Int) := by omega
      have hi0 : (0 : Int) ≤ (i : Int) := by omega
      obtain ⟨e0, ⟨va, vl, vq, e1⟩, e2⟩ := OK.out.bk.ent i hlt
      have hln := HS.out.s.lnb i hlt
      have HF := Lib.hid (GI.start (v := .slice va vl vq) (T' := 114) OK.out hlt)
      go_upto_region 4 with fail
      revert HF
      generalize wr.alloc (.cells #[.slice (sa i) (ln i) (sc i), .slice va vl vq, .int .i64 (N i)] 114) = W1
      generalize wr.heap.size = hb
      intro HF
      clear OK e0 e1 e2 b2
      obtain ⟨c0, c2, -⟩ := HF.out.cells hlt
      go_wp2_with fail
      clear c0 c2
      go_loopw [4, 5] (fun lv kk wr => ∃ (q : Nat) (a : Option Addr) (cp : Nat), q ≤ 40 ∧ kk = .int .i64 q ∧ lv = .slice a (ln i + q) cp ∧ GI w0 B T m c sa ln sc N ws i q hb (.slice va vl vq) a cp wr) (fun _ kk _ => 40 - (intOf kk).toNat)
      case atStart => exact ⟨0, _, _, Nat.zero_le _, rfl, rfl, HF.out⟩
      case round =>
        clear HF
        obtain ⟨q, a, cp, hq, rfl, rfl, ok⟩ := hrel
        have OK := Lib.hid ok
        clear ok
        obtain ⟨c0, c2, b2, z1, ⟨a1, l1, q1, e1⟩⟩ := OK.out.cells hlt
        by_cases hq4 : q < 40
        · have hq4' : (q : Int) < 40 := by omega
          have HMi := Lib.hid (fun W (h : GI w0 B T m c sa ln sc N ws i q hb (.slice va vl vq) a cp W) => HM.out i hlt W h.bk)
          go_wp2_with (first
            | (go_at_call 104; (with_reducible refine (HMi.out _ OK.out).mono ?_); rintro x w1 ⟨rfl, hb1⟩; replace OK := Lib.hid (OK.out.below hb1); clear hb1)
            | (at_builtin; refine append_T HS.out hlt OK.out (by omega) rfl _ _ rfl rfl _ rfl ?_; intro g cap w2 h2; have OK2 := Lib.hid h2; clear h2))
          refine ⟨⟨q + 1, some ⟨g, 0, none⟩, cap, by omega, by go_num, rfl, OK2.out⟩, by simp [intOf]; omega⟩
        · obtain rfl : q = 40 := by omega
          obtain ⟨g, rfl⟩ := OK.out.long.some' (by omega)
          have HE := Lib.hid (OK.out.end' HS.out hlt)
          have hlt' : (i : Int) < (m : Int) := by omega
          go_wp2_with fail
          refine ⟨⟨i + 1, hlt, by go_num, HE.out⟩, by simp [intOf]; omega⟩
    · obtain rfl : i = m := by omega
      go_wp2_with fail
      go_end0
      exact ⟨rfl, OK.out⟩
end Go.Proofs.YtpnbnomaaeoemaaGreatDoor
