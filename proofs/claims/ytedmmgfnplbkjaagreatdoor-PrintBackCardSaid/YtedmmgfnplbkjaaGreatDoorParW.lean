/-
  Walks: the reader of words (package parse) as it lies in memory ('RD'), and what a call of one of its methods comes to ('PostR').
  Conditions: none.
-/
import Derived.Test.YtedmmgfnplbkjaaGreatDoorLexWd
import Derived.Test.YtedmmgfnplbkjaaGreatDoorParA
import Derived.Test.YtedmmgfnplbkjaaGreatDoorLexN
namespace Go.Proofs.YtedmmgfnplbkjaaGreatDoor
set_option linter.unusedVariables false
set_option linter.unusedSimpArgs false
open Go.RowKit G
def pz : PanicEntry := { v := .iface 121 (.agg #[]), recovered := false }
structure RD (W1 : World) (wv : Value) (ws : List LX.LW) (c : Str) (t d : Nat) (W : World) : Prop where
  at_ : W.heap[W1.heap.size]? = some (.cells #[wv, .int .i64 t, .string ⟨c.toArray⟩, .int .i64 d] 62 (0, 0))
  wds : Wds W1 wv ws
  low : Below W1.heap.size W1 W
section
variable {W1 : World} {wv : Value} {ws : List LX.LW} {c : Str} {t d : Nat} {W W' : World}
theorem RD.lt (h : RD W1 wv ws c t d W) : W1.heap.size < W.heap.size := tr_lt_of_block h.at_
theorem RD.cells (h : RD W1 wv ws c t d W) : (W.cell? ⟨W1.heap.size, 0, none⟩ = some wv ∧ W.cell? ⟨W1.heap.size, 1, none⟩ = some (.int .i64 t) ∧ W.cell? ⟨W1.heap.size, 2, none⟩ = some (.string ⟨c.toArray⟩) ∧ W.cell? ⟨W1.heap.size, 3, none⟩ = some (.int .i64 d))
    ∧ W.frozen? ⟨W1.heap.size, 0, none⟩ = false ∧ W.frozen? ⟨W1.heap.size, 1, none⟩ = false ∧ W.frozen? ⟨W1.heap.size, 2, none⟩ = false ∧ W.frozen? ⟨W1.heap.size, 3, none⟩ = false := by
  have h := h.at_
  refine ⟨⟨?_, ?_, ?_, ?_⟩, Lib.frozen_of_heap h 0, Lib.frozen_of_heap h 1, Lib.frozen_of_heap h 2, Lib.frozen_of_heap h 3⟩ <;> (rw [Lib.cell_of_heap h]; rfl)
theorem RD.keep (h : RD W1 wv ws c t d W) (hb : Below W.heap.size W W') : RD W1 wv ws c t d W' :=
  ⟨(hb.block _ h.lt).trans h.at_, h.wds, h.low.trans (hb.mono h.low.size)⟩
theorem RD.setT (h : RD W1 wv ws c t d W) (t' : Nat) : RD W1 wv ws c t' d (W.setCell ⟨W1.heap.size, 1, none⟩ (.int .i64 t')) := by
  refine ⟨?_, h.wds, h.low.setCell (p := ⟨W1.heap.size, 1, none⟩) (Nat.le_refl _) _⟩
  simp [World.setCell, Array.getElem?_modify, h.at_]
theorem RD.setD (h : RD W1 wv ws c t d W) (d' : Nat) : RD W1 wv ws c t d' (W.setCell ⟨W1.heap.size, 3, none⟩ (.int .i64 d')) := by
  refine ⟨?_, h.wds, h.low.setCell (p := ⟨W1.heap.size, 3, none⟩) (Nat.le_refl _) _⟩
  simp [World.setCell, Array.getElem?_modify, h.at_]
theorem RD.setC (h : RD W1 wv ws c t d W) (c' : Str) : RD W1 wv ws c' t d (W.setCell ⟨W1.heap.size, 2, none⟩ (.string ⟨c'.toArray⟩)) := by
  refine ⟨?_, h.wds, h.low.setCell (p := ⟨W1.heap.size, 2, none⟩) (Nat.le_refl _) _⟩
  simp [World.setCell, Array.getElem?_modify, h.at_]
theorem RD.slice (h : RD W1 wv ws c t d W) : ∃ ao cap, wv = .slice ao ws.length cap ∧ ws.length ≤ cap ∧ cap ≤ maxLen := by
  obtain ⟨ao, cap, e, h1, h2, -⟩ := h.wds
  exact ⟨ao, cap, e, h1, h2⟩
theorem RD.word {ao : Option Addr} {n cap : Nat} (h : RD W1 (.slice ao n cap) ws c t d W) (i : Nat) (hi : i < ws.length) :
    ∃ b o, ao = some ⟨b, o, none⟩ ∧ W.cell? ⟨b, o + i * 4, none⟩ = some (.int .u8 ws[i].k) ∧ W.cell? ⟨b, o + i * 4 + 1, none⟩ = some (.string ⟨ws[i].s.toArray⟩) ∧ W.cell? ⟨b, o + i * 4 + 2, none⟩ = some (.int .i64 ws[i].n) ∧ W.cell? ⟨b, o + i * 4 + 3, none⟩ = some (.int .i64 ws[i].line) := by
  obtain ⟨b, o, e, c0, c1, c2, c3⟩ := h.wds.at i hi
  have hb : b < W1.heap.size := World.block_lt_of_cell? _ _ c0
  refine ⟨b, o, e, ?_, ?_, ?_, ?_⟩
  · rw [h.low.cell (p := ⟨b, o + i * 4, none⟩) hb]; exact c0
  · rw [h.low.cell (p := ⟨b, o + i * 4 + 1, none⟩) hb]; exact c1
  · rw [h.low.cell (p := ⟨b, o + i * 4 + 2, none⟩) hb]; exact c2
  · rw [h.low.cell (p := ⟨b, o + i * 4 + 3, none⟩) hb]; exact c3
end
abbrev Gr (W1 W W' : World) : Prop := W.grownBy W' (some W1.heap.size)
theorem gr_refl (W1 W : World) : Gr W1 W W := ⟨rfl, rfl, rfl, Nat.le_refl _, fun _ _ _ => rfl⟩
theorem Gr.trans {W1 a b c : World} (h : Gr W1 a b) (k : Gr W1 b c) : Gr W1 a c :=
  ⟨k.os.trans h.os, k.tape.trans h.tape, k.output.trans h.output, Nat.le_trans h.size k.size, fun i hi hne => (k.block i (Nat.lt_of_lt_of_le hi h.size) hne).trans (h.block i hi hne)⟩
theorem Gr.set {W1 a b : World} (h : Gr W1 a b) (q : Nat) (v : Value) : Gr W1 a (b.setCell ⟨W1.heap.size, q, none⟩ v) :=
  ⟨h.os, h.tape, h.output, by simpa [World.setCell] using h.size, fun k hk hne => by rw [← h.block k hk hne]; exact Below.heap_setCell _ _ _ _ (by intro e; exact hne (by rw [e]))⟩
theorem Gr.below {W1 a b c : World} (h : Gr W1 a b) (k : Below b.heap.size b c) : Gr W1 a c :=
  ⟨k.os.trans h.os, k.tape.trans h.tape, k.output.trans h.output, Nat.le_trans h.size k.size, fun i hi hne => (k.block i (Nat.lt_of_lt_of_le hi h.size)).trans (h.block i hi hne)⟩
theorem Gr.drew {W1 a b : World} (h : Gr W1 a b) : Gr W1 a b.drew := ⟨h.os, h.tape, h.output, h.size, h.block⟩
theorem Gr.alloc {W1 a b : World} (h : Gr W1 a b) (o : Obj) : Gr W1 a (b.alloc o) := h.below ((Below.refl _ _).alloc (Nat.le_refl _) _)
theorem below_drewNP (w : World) (n : Nat) : Below w.heap.size w (w.drewN n) := ⟨rfl, rfl, rfl, Nat.le_refl _, fun _ _ => rfl⟩
theorem Gr.drewN {W1 a b : World} (h : Gr W1 a b) (n : Nat) : Gr W1 a (b.drewN n) := h.below (below_drewNP _ _)
theorem RD.drewN {W1 : World} {wv : Value} {ws : List LX.LW} {c : Str} {t d : Nat} {W : World} (h : RD W1 wv ws c t d W) (n : Nat) : RD W1 wv ws c t d (W.drewN n) := h.keep (below_drewNP _ _)
theorem RD.setN {W1 : World} {wv : Value} {ws : List LX.LW} {c : Str} {t d : Nat} {W : World} {g : Nat} (h : RD W1 wv ws c t d W) (hg : W1.heap.size < g) (q : Nat) (v : Value) : RD W1 wv ws c t d (W.setCell ⟨g, q, none⟩ v) :=
  ⟨(Below.heap_setCell _ _ _ _ (by show W1.heap.size ≠ g; omega)).trans h.at_, h.wds, h.low.setCell (p := ⟨g, q, none⟩) (Nat.le_of_lt hg) v⟩
theorem Gr.setN {W1 a b : World} {g : Nat} (h : Gr W1 a b) (hg : a.heap.size ≤ g) (q : Nat) (v : Value) : Gr W1 a (b.setCell ⟨g, q, none⟩ v) :=
  ⟨h.os, h.tape, h.output, by simpa [World.setCell] using h.size, fun k hk hne => by rw [← h.block k hk hne]; exact Below.heap_setCell _ _ _ _ (by show k ≠ g; omega)⟩
theorem Gr.grown {W1 a b c : World} {g : Nat} (h : Gr W1 a b) (k : b.grownBy c (some g)) (hg : a.heap.size ≤ g) : Gr W1 a c :=
  ⟨k.os.trans h.os, k.tape.trans h.tape, k.output.trans h.output, Nat.le_trans h.size k.size, fun i hi hne => (k.block i (Nat.lt_of_lt_of_le hi h.size) (by intro e; cases e; omega)).trans (h.block i hi hne)⟩
def RD' (W1 : World) (wv : Value) (ws : List LX.LW) (c : Str) (t d : Nat) (W : World) : Prop := RD W1 wv ws c t d W ∧ t ≤ ws.length ∧ d ≤ t
theorem RD'.keep {W1 : World} {wv : Value} {ws : List LX.LW} {c : Str} {t d : Nat} {W W' : World} (h : RD' W1 wv ws c t d W) (hb : Below W.heap.size W W') : RD' W1 wv ws c t d W' := ⟨h.1.keep hb, h.2⟩
theorem RD'.drewN {W1 : World} {wv : Value} {ws : List LX.LW} {c : Str} {t d : Nat} {W : World} (h : RD' W1 wv ws c t d W) (n : Nat) : RD' W1 wv ws c t d (W.drewN n) := ⟨h.1.drewN n, h.2⟩
theorem RD'.alloc {W1 : World} {wv : Value} {ws : List LX.LW} {c : Str} {t d : Nat} {W : World} (h : RD' W1 wv ws c t d W) (o : Obj) : RD' W1 wv ws c t d (W.alloc o) := h.keep ((Below.refl _ _).alloc (Nat.le_refl _) _)
theorem RD'.setN {W1 : World} {wv : Value} {ws : List LX.LW} {c : Str} {t d : Nat} {W : World} {g : Nat} (h : RD' W1 wv ws c t d W) (hg : W1.heap.size < g) (q : Nat) (v : Value) : RD' W1 wv ws c t d (W.setCell ⟨g, q, none⟩ v) := ⟨h.1.setN hg q v, h.2⟩
def PostR {α : Type} (W1 : World) (wv : Value) (ws : List LX.LW) (c : Str) (t0 : Nat) (W : World) (F : α → Value → World → Prop) (r : Rs α) (e : Ending) (W' : World) : Prop :=
  (∃ t, r = .bad t ∧ e = .panicked [pz] ∧ (∃ d, RD W1 wv ws c t d W') ∧ Gr W1 W W') ∨
  (∃ x t d v, r = .ok x t d ∧ e = .returned v ∧ F x v W' ∧ t0 ≤ t ∧ RD' W1 wv ws c t d W' ∧ Gr W1 W W')
def FT (Sh : List Value → Prop) (B : Nat) (x : List T) (v : Value) (W : World) : Prop := ∃ vs, v = .agg vs.toArray ∧ Sh vs ∧ Row W (B ≤ ·) x vs
def FStr (x : Str) (v : Value) (_ : World) : Prop := v = .string ⟨x.toArray⟩
def FNil (_ : Unit) (v : Value) (_ : World) : Prop := v = .tuple #[]
def FRows (Sh : List Value → Prop) (ty : TypeId) (k B : Nat) (l : List (List T)) (v : Value) (W : World) : Prop := ∃ vss, W.ownsRow B ty k v l.length vss.flatten ∧ Rows2 W (fun b => B ≤ b ∧ some b ≠ v.ownBlock) k l vss ∧ ∀ vs ∈ vss, Sh vs
theorem FRows.rep {Sh : List Value → Prop} {ty : TypeId} {k B : Nat} {l : List (List T)} {v : Value} {W : World} (h : FRows Sh ty k B l v W) : (ofRows k l).Rep W (B ≤ ·) v := by
  obtain ⟨vss, h1, h2, -⟩ := h
  exact rep_of_own h1 h2 (fun _ _ h => h.1) (fun _ h => h)
theorem FRows.shape {Sh : List Value → Prop} {ty : TypeId} {k B : Nat} {l : List (List T)} {v : Value} {W : World} (h : FRows Sh ty k B l v W) : ∃ a cap, v = .slice a l.length cap ∧ l.length ≤ cap ∧ cap ≤ maxLen := by
  obtain ⟨vss, h1, -⟩ := h
  rcases h1.2 with ⟨hv, h0⟩ | ⟨g, cap, cur, hv, -, -, h2, h3, -⟩
  · exact ⟨none, 0, by rw [hv, h0], by omega, by unfold maxLen; omega⟩
  · exact ⟨_, cap, hv, h2, h3⟩
theorem FT.gr {Sh : List Value → Prop} {W1 : World} {B : Nat} {x : List T} {v : Value} {W W' : World} (h : FT Sh B x v W) (hg : Gr W1 W W') (hB : W1.heap.size < B) : FT Sh B x v W' := by
  obtain ⟨vs, h1, h2, h3⟩ := h
  exact ⟨vs, h1, h2, h3.keep hg.size (fun _ _ h => h) (fun b h4 h5 => hg.block b h5 (by intro e; cases e; omega))⟩
theorem FT.low {Sh : List Value → Prop} {B C : Nat} {x : List T} {v : Value} {W : World} (h : FT Sh B x v W) (hB : C ≤ B) : FT Sh C x v W := by
  obtain ⟨vs, h1, h2, h3⟩ := h
  exact ⟨vs, h1, h2, h3.keep (Nat.le_refl _) (fun _ _ h => Nat.le_trans hB h) (fun _ _ _ => rfl)⟩
theorem FRows.own {Sh : List Value → Prop} {ty : TypeId} {k B : Nat} {l : List (List T)} {v : Value} {W : World} (h : FRows Sh ty k B l v W) {g : Nat} (e : v.ownBlock = some g) : B ≤ g ∧ g < W.heap.size := by
  obtain ⟨vss, h1, -⟩ := h
  exact h1.lt g e
theorem FRows.gr {Sh : List Value → Prop} {ty : TypeId} {k B : Nat} {W1 : World} {l : List (List T)} {v : Value} {W W' : World} (h : FRows Sh ty k B l v W) (hg : Gr W1 W W') (hB : W1.heap.size < B) : FRows Sh ty k B l v W' := by
  obtain ⟨vss, h1, h2, h3⟩ := h
  have hk : ∀ b, B ≤ b → b < W.heap.size → W'.heap[b]? = W.heap[b]? := fun b h4 h5 => hg.block b h5 (by intro e; cases e; omega)
  refine ⟨vss, ⟨h1.1, ?_⟩, h2.keep hg.size (fun _ _ h => h) (fun b h4 h5 => hk b h4.1 h5), h3⟩
  rcases h1.2 with h | ⟨g, cap, cur, hv, hb, hw, r⟩
  · exact .inl h
  · exact .inr ⟨g, cap, cur, hv, hb, by rw [hk g hb (tr_lt_of_block hw)]; exact hw, r⟩
theorem FRows.nil (Sh : List Value → Prop) (ty : TypeId) (k B : Nat) (W : World) : FRows Sh ty k B [] (.slice none 0 0) W := ⟨[], World.ownsRow_nil _ _ _ _, .nil, fun _ h => by cases h⟩
theorem FRows.low {Sh : List Value → Prop} {ty : TypeId} {k B C : Nat} {l : List (List T)} {v : Value} {W : World} (h : FRows Sh ty k B l v W) (hC : C ≤ B) : FRows Sh ty k C l v W := by
  obtain ⟨vss, ⟨e, h0⟩, h2, h3⟩ := h
  refine ⟨vss, ⟨e, ?_⟩, h2.keep (Nat.le_refl _) (fun _ _ h => ⟨Nat.le_trans hC h.1, h.2⟩) (fun _ _ _ => rfl), h3⟩
  rcases h0 with h | ⟨g, cap, cur, hv, hb, r⟩
  · exact .inl h
  · exact .inr ⟨g, cap, cur, hv, Nat.le_trans hC hb, r⟩
theorem Gr.row {W1 a b c : World} {row : Option Nat} (h : Gr W1 a b) (k : b.grownBy c row) (hr : ∀ g, row = some g → a.heap.size ≤ g) : Gr W1 a c :=
  ⟨k.os.trans h.os, k.tape.trans h.tape, k.output.trans h.output, Nat.le_trans h.size k.size, fun i hi hne => (k.block i (Nat.lt_of_lt_of_le hi h.size) (by intro e; have := hr i e.symm; omega)).trans (h.block i hi hne)⟩
theorem RD'.row {W1 : World} {wv : Value} {ws : List LX.LW} {c : Str} {t d : Nat} {W W' : World} {row : Option Nat} (h : RD' W1 wv ws c t d W) (k : W.grownBy W' row) (hr : ∀ g, row = some g → W1.heap.size < g) : RD' W1 wv ws c t d W' :=
  ⟨⟨(k.block _ h.1.lt (by intro e; have := hr _ e.symm; omega)).trans h.1.at_, h.1.wds, h.1.low.grown k h.1.low.size (fun g e => Nat.le_of_lt (hr g e))⟩, h.2⟩
theorem grow_al {a b : World} {O : Obj} {row : Option Nat} (h : (a.alloc O).grownBy b row) : a.grownBy b row :=
  have k := World.grownBy_alloc a O row
  ⟨h.os.trans k.os, h.tape.trans k.tape, h.output.trans k.output, Nat.le_trans k.size h.size, fun i hi hne => (h.block i (Nat.lt_of_lt_of_le hi k.size) hne).trans (k.block i hi hne)⟩
theorem cells_at_new {w : World} {cs : List Value} {T : TypeId} : ∀ (j : Nat) (u : Value), cs[j]? = some u → (w.alloc (.cells cs.toArray T)).cell? ((⟨w.heap.size, 0, none⟩ : Addr).add j) = some u := by
  intro j u hu
  have e : ((⟨w.heap.size, 0, none⟩ : Addr).add j) = ⟨w.heap.size, j, none⟩ := by
    simp only [Addr.add]
    split <;> simp_all
  rw [e, Lib.cell_of_heap (heap_alloc_new w _)]
  simpa using hu
theorem own_baseP {W : World} {b b' n sz : Nat} {T : TypeId} {v : Value} {xs : List Value} (hb : b ≤ b') (h : W.ownsRow b' T sz v n xs) : W.ownsRow b T sz v n xs := by
  refine ⟨h.1, ?_⟩
  rcases h.2 with h0 | ⟨g, cap, cur, e, hbase, rest⟩
  · exact .inl h0
  · exact .inr ⟨g, cap, cur, e, Nat.le_trans hb hbase, rest⟩
theorem append_twoP {P : Program} (w : World) (base : Nat) (t ty e : TypeId) (i : TypeInfo) (z : Value) (size bytes : Nat) (ht : P.underlying t = some (.slice e)) (hi : P.info? e = some i) (hz : i.zero = some z)
    (hsize : i.size = size) (hby : i.bytes = bytes) (hzs : z.cells.size = size) (hsz : 0 < size)
    (v : Value) (n : Nat) (xs : List Value) (hown : w.ownsRow base e size v n xs)
    (a : Addr) (m c : Nat) (news : List Value) (hl : news.length = m * size) (hnews : ∀ j u, news[j]? = some u → w.cell? (a.add j) = some u) (h1 : ∀ u ∈ news, u.oneCell' = true) (hm : 0 < m)
    (h63 : n + m ≤ maxLen) (hbytes : (n + m) * bytes ≤ 140737488355328) (hbase : base ≤ w.heap.size) :
    ∃ v' w', (Builtin.append_ #[t, t] ty #[v, .slice (some a) m c]).run P w = .ok v' w' ∧ w'.ownsRow base e size v' (n + m) (xs ++ news) ∧
      ((∃ g cap, v = .slice (some ⟨g, 0, none⟩) n cap ∧ v' = .slice (some ⟨g, 0, none⟩) (n + m) cap ∧ w.grownBy w' (some g)) ∨ (w.grownBy w' none ∧ ∃ g cap, v' = .slice (some ⟨g, 0, none⟩) (n + m) cap ∧ w.heap.size ≤ g)) := by
  rcases hown.2 with ⟨hv, hn⟩ | ⟨g, cap, cur, hv, hbg, hg, hnc, hcm, hcs, htake⟩
  · have h0 : w.ownsRow w.heap.size e size v n xs := ⟨hown.1, .inl ⟨hv, hn⟩⟩
    obtain ⟨v', w', hr, h2, h3, -⟩ := run_append_own (P := P) w w.heap.size t ty e i z size bytes ht hi hz hsize hby hzs hsz v n xs h0 a m c news hl hnews h1 h63 hbytes (Nat.le_refl _)
    refine ⟨v', w', hr, own_baseP hbase h2, .inr ⟨by rw [hv] at h3; exact h3, ?_⟩⟩
    rcases h2.2 with ⟨-, e0⟩ | ⟨g, cap, cur, e0, e1, -⟩
    · omega
    · exact ⟨g, cap, e0, e1⟩
  · subst hv
    obtain ⟨v', w', hr, h2, h3, -⟩ := run_append_own (P := P) w base t ty e i z size bytes ht hi hz hsize hby hzs hsz _ n xs hown a m c news hl hnews h1 h63 hbytes hbase
    refine ⟨v', w', hr, h2, ?_⟩
    by_cases hroom : n + m ≤ cap
    · left
      have hfit : n * i.size + news.length ≤ cur.size := by rw [hl, hcs, hsize, ← Nat.add_mul]; exact Nat.mul_le_mul_right _ hroom
      have hr2 := run_append_room (P := P) w t ty e i ht hi g n cap cur hg a m c news (by rw [hsize]; exact hl) hnews h1 hroom hfit
      have he := hr.symm.trans hr2
      simp only [Result.ok.injEq] at he
      exact ⟨g, cap, rfl, he.1, by simpa [Value.ownBlock] using h3⟩
    · right
      have holds : ∀ j u, xs[j]? = some u → w.cell? ((⟨g, 0, none⟩ : Addr).add j) = some u := hown.cells (g := g) rfl
      have hr2 := run_append_grow (P := P) w t ty e i z ht hi hz ⟨g, 0, none⟩ n cap xs (by rw [hsize]; exact hown.1) holds a m c news (by rw [hsize]; exact hl) hnews (by omega) (by unfold maxLen at h63; omega) (by rw [hby]; exact growslice_fits (by omega) hbytes)
      have he := hr.symm.trans hr2
      simp only [Result.ok.injEq] at he
      obtain ⟨e1, e2⟩ := he
      subst e1 e2
      refine ⟨⟨rfl, rfl, rfl, by simp, fun k hk _ => ?_⟩, _, _, rfl, Nat.le_refl _⟩
      exact Below.heap_alloc w.drew _ k hk
theorem append_R {Sh : List Value → Prop} {ty tsl tb : TypeId} {k by_ : Nat} {z : Value} (hsl : Tryz.prog.underlying tsl = some (.slice ty)) (hinf : (Tryz.prog.info? ty).map (fun i => (i.zero, i.size, i.bytes)) = some (some z, k, by_)) (hz : z.cells.size = k) (hk : 0 < k) (hby : by_ ≤ 1000)
    {B : Nat} {l : List (List T)} {v : Value} {W : World} {ts : List T} {vs : List Value} (h : FRows Sh ty k B l v W) (hB : B ≤ W.heap.size) (hl : l.length ≤ 65537) (hts : ts.length = k) (hr : Row W (fun b => B ≤ b ∧ some b ≠ v.ownBlock) ts vs) (hsh : Sh vs) (hone : ∀ u ∈ vs, u.oneCell' = true)
    {ops : Array Oper} {rest : List Oper} {o : Oper} {a : Act} {Q : Exit → Act → World → Prop} (hgd : o.guard = none) (s x : Operand) (ho : o.op = .call { callee := .builtin .append, args := #[s, x], argTypes := #[tsl, tsl] }) (hs : a.eval s = v)
    (hx : a.eval x = .slice (some ⟨W.heap.size, 0, none⟩) 1 1)
    (hK : ∀ v' W', FRows Sh ty k B (l ++ [ts]) v' W' → W.grownBy W' v.ownBlock → (∀ g, v'.ownBlock = some g → v.ownBlock = some g ∨ W.heap.size ≤ g) → wpList Tryz.prog ops Q rest (a.put o.dst v') W') : wpList Tryz.prog ops Q (o :: rest) a (W.alloc (.cells vs.toArray tb)) := by
  obtain ⟨i0, hi, hz0, hz1, hz2⟩ := info_parts hinf
  obtain ⟨vss, h1, h2, hss⟩ := h
  have hvl : vs.length = k := by rw [hr.length, hts]
  have hbyt : (l.length + 1) * by_ ≤ 65538 * 1000 := Nat.mul_le_mul (by omega) hby
  obtain ⟨v', w', hrun, hown, h3⟩ := append_twoP (P := Tryz.prog) (W.alloc (.cells vs.toArray tb)) B tsl o.type ty i0 z k by_ hsl hi hz0 hz1 hz2 hz hk v l.length _ (h1.alloc _) ⟨W.heap.size, 0, none⟩ 1 1 vs (by rw [hvl, Nat.one_mul]) cells_at_new hone (by decide) (by unfold maxLen; omega) (by omega) (by simp; omega)
  have hss' : ∀ xs ∈ vss ++ [vs], Sh xs := fun xs hx => (List.mem_append.1 hx).elim (hss xs) (fun hx => by rw [List.mem_singleton.1 hx]; exact hsh)
  have hfin : FRows Sh ty k B (l ++ [ts]) v' w' ∧ W.grownBy w' v.ownBlock ∧ (∀ g, v'.ownBlock = some g → v.ownBlock = some g ∨ W.heap.size ≤ g) := by
    have h4 := h2.snoc hts hr
    have hown' : w'.ownsRow B ty k v' (l ++ [ts]).length (vss ++ [vs]).flatten := by
      rw [List.flatten_append, List.flatten_singleton, List.length_append]
      exact hown
    rcases h3 with ⟨g, cap, e1, e2, hg⟩ | ⟨hg, g, cap, e2, hgs⟩
    · subst e1 e2
      have hg2 := grow_al hg
      refine ⟨⟨_, hown', h4.keep hg2.size (fun _ _ h => h) (fun b h5 h6 => hg2.block b h6 (fun e => h5.2 (by rw [e]; rfl))), hss'⟩, hg2, fun g h => .inl h⟩
    · have hg2 := grow_al hg
      have hfr : ∀ g', v'.ownBlock = some g' → W.heap.size ≤ g' := fun g' h => by
        subst e2
        simp only [Value.ownBlock, Option.some.injEq] at h
        have : (W.alloc (.cells vs.toArray tb)).heap.size = W.heap.size + 1 := by simp
        omega
      exact ⟨⟨_, hown', h4.keep hg2.size (fun b h5 h6 => ⟨h6.1, fun e => by have := hfr b e.symm; omega⟩) (fun b h5 h6 => hg2.block b h6 (by simp)), hss'⟩, ⟨hg2.os, hg2.tape, hg2.output, hg2.size, fun b hb _ => hg2.block b hb (by simp)⟩, fun g' h => .inr (hfr g' h)⟩
  refine wpList_plain hgd fun K hK' => ?_
  unfold Oper.wp execOp
  simp only [ho, resolve, invoke, builtin, Sem.run_bind, Sem.run_pure, Result.andThen_ok, List.map_toArray, List.map_cons, List.map_nil, hs, hx, hrun]
  exact hK' _ _ (hK v' w' hfin.1 hfin.2.1 hfin.2.2)
theorem nol_get {ws : List LX.LW} (t : Nat) : (ws.map nol)[t]? = ws[t]?.map nol := List.getElem?_map ..
abbrev rp (W1 : World) : Value := .pointer (some ⟨W1.heap.size, 0, none⟩)
end Go.Proofs.YtedmmgfnplbkjaaGreatDoor
