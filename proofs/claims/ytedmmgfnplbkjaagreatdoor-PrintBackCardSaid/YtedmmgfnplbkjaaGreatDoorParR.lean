/-
  Walks: paired: names and values of pairs.
  Conditions: the reader lies as 'RD' says; its words are at most 65536.
-/
import Derived.Test.YtedmmgfnplbkjaaGreatDoorParK
import Derived.Deep.MidRow
namespace Go.Proofs.YtedmmgfnplbkjaaGreatDoor
set_option linter.unusedVariables false
set_option linter.unusedSimpArgs false
open Go.RowKit G
def GRows (Sh : List Value → Prop) (ty : TypeId) (k B : Nat) (ok : Nat → Prop) (l : List (List T)) (v : Value) (W : World) : Prop := ∃ vss, W.ownsRow B ty k v l.length vss.flatten ∧ Rows2 W ok k l vss ∧ ∀ vs ∈ vss, Sh vs
theorem GRows.nil (Sh : List Value → Prop) (ty : TypeId) (k B : Nat) (ok : Nat → Prop) (W : World) : GRows Sh ty k B ok [] (.slice none 0 0) W := ⟨[], World.ownsRow_nil _ _ _ _, .nil, fun _ h => by cases h⟩
theorem GRows.shape {Sh : List Value → Prop} {ty : TypeId} {k B : Nat} {ok : Nat → Prop} {l : List (List T)} {v : Value} {W : World} (h : GRows Sh ty k B ok l v W) : ∃ a cap, v = .slice a l.length cap ∧ l.length ≤ cap ∧ cap ≤ maxLen := by
  obtain ⟨vss, h1, -⟩ := h
  rcases h1.2 with ⟨hv, h0⟩ | ⟨g, cap, cur, hv, -, -, h2, h3, -⟩
  · exact ⟨none, 0, by rw [hv, h0], by omega, by unfold maxLen; omega⟩
  · exact ⟨_, cap, hv, h2, h3⟩
theorem GRows.shape2 {Sh : List Value → Prop} {ty : TypeId} {k B : Nat} {ok : Nat → Prop} {l : List (List T)} {v : Value} {W : World} (h : GRows Sh ty k B ok l v W) : ∃ a n cap, v = .slice a n cap ∧ Hid (n = l.length) := by
  obtain ⟨a, cap, e, -⟩ := h.shape
  exact ⟨a, _, cap, e, Lib.hid rfl⟩
theorem GRows.own {Sh : List Value → Prop} {ty : TypeId} {k B : Nat} {ok : Nat → Prop} {l : List (List T)} {v : Value} {W : World} (h : GRows Sh ty k B ok l v W) {g : Nat} (e : v.ownBlock = some g) : B ≤ g ∧ g < W.heap.size := by
  obtain ⟨vss, h1, -⟩ := h
  exact h1.lt g e
theorem GRows.keep {Sh : List Value → Prop} {ty : TypeId} {k B : Nat} {ok : Nat → Prop} {l : List (List T)} {v : Value} {W W' : World} (h : GRows Sh ty k B ok l v W) (hs : W.heap.size ≤ W'.heap.size) (ho : ∀ b, ok b → b < W.heap.size → W'.heap[b]? = W.heap[b]?) (hw : ∀ g, v.ownBlock = some g → W'.heap[g]? = W.heap[g]?) : GRows Sh ty k B ok l v W' := by
  obtain ⟨vss, h1, h2, h3⟩ := h
  refine ⟨vss, ⟨h1.1, ?_⟩, h2.keep hs (fun _ _ h => h) ho, h3⟩
  rcases h1.2 with h | ⟨g, cap, cur, hv, hb, hg, r⟩
  · exact .inl h
  · exact .inr ⟨g, cap, cur, hv, hb, by rw [hw g (by rw [hv]; rfl)]; exact hg, r⟩
theorem GRows.rep {Sh : List Value → Prop} {ty : TypeId} {k B : Nat} {ok ok' : Nat → Prop} {l : List (List T)} {v : Value} {W : World} (h : GRows Sh ty k B ok l v W) (h1 : ∀ b, ok b → ok' b) (h2 : ∀ b, B ≤ b → ok' b) : (ofRows k l).Rep W ok' v := by
  obtain ⟨vss, h3, h4, -⟩ := h
  exact rep_of_own h3 h4 (fun b _ h => h1 b h) h2
theorem append_G {Sh : List Value → Prop} {ty tsl tb : TypeId} {k by_ : Nat} {z : Value} (hsl : Tryz.prog.underlying tsl = some (.slice ty)) (hinf : (Tryz.prog.info? ty).map (fun i => (i.zero, i.size, i.bytes)) = some (some z, k, by_)) (hz : z.cells.size = k) (hk : 0 < k) (hby : by_ ≤ 1000)
    {B : Nat} {ok : Nat → Prop} {l : List (List T)} {v : Value} {W : World} {ts : List T} {vs : List Value} (h : GRows Sh ty k B ok l v W) (hok : ∀ b, ok b → b < B) (hB : B ≤ W.heap.size) (hl : l.length ≤ 65537) (hts : ts.length = k) (hr : Row W ok ts vs) (hsh : Sh vs) (hone : ∀ u ∈ vs, u.oneCell' = true)
    {ops : Array Oper} {rest : List Oper} {o : Oper} {a : Act} {Q : Exit → Act → World → Prop} (hgd : o.guard = none) (s x : Operand) (ho : o.op = .call { callee := .builtin .append, args := #[s, x], argTypes := #[tsl, tsl] }) (hs : a.eval s = v)
    (hx : a.eval x = .slice (some ⟨W.heap.size, 0, none⟩) 1 1)
    (hK : ∀ v' W', GRows Sh ty k B ok (l ++ [ts]) v' W' → W.grownBy W' v.ownBlock → (∀ g, v'.ownBlock = some g → v.ownBlock = some g ∨ W.heap.size ≤ g) → wpList Tryz.prog ops Q rest (a.put o.dst v') W') : wpList Tryz.prog ops Q (o :: rest) a (W.alloc (.cells vs.toArray tb)) := by
  obtain ⟨i0, hi, hz0, hz1, hz2⟩ := info_parts hinf
  obtain ⟨vss, h1, h2, hss⟩ := h
  have hvl : vs.length = k := by rw [hr.length, hts]
  have hbyt : (l.length + 1) * by_ ≤ 65538 * 1000 := Nat.mul_le_mul (by omega) hby
  obtain ⟨v', w', hrun, hown, h3⟩ := append_twoP (P := Tryz.prog) (W.alloc (.cells vs.toArray tb)) B tsl o.type ty i0 z k by_ hsl hi hz0 hz1 hz2 hz hk v l.length _ (h1.alloc _) ⟨W.heap.size, 0, none⟩ 1 1 vs (by rw [hvl, Nat.one_mul]) cells_at_new hone (by decide) (by unfold maxLen; omega) (by omega) (by simp; omega)
  have hss' : ∀ xs ∈ vss ++ [vs], Sh xs := fun xs hx => (List.mem_append.1 hx).elim (hss xs) (fun hx => by rw [List.mem_singleton.1 hx]; exact hsh)
  have hfin : GRows Sh ty k B ok (l ++ [ts]) v' w' ∧ W.grownBy w' v.ownBlock ∧ (∀ g, v'.ownBlock = some g → v.ownBlock = some g ∨ W.heap.size ≤ g) := by
    have h4 := h2.snoc hts hr
    have hown' : w'.ownsRow B ty k v' (l ++ [ts]).length (vss ++ [vs]).flatten := by
      rw [List.flatten_append, List.flatten_singleton, List.length_append]
      exact hown
    rcases h3 with ⟨g, cap, e1, e2, hg⟩ | ⟨hg, g, cap, e2, hgs⟩
    · subst e1 e2
      have hg2 := grow_al hg
      have hgB := (h1.lt g rfl).1
      refine ⟨⟨_, hown', h4.keep hg2.size (fun _ _ h => h) (fun b h5 h6 => hg2.block b h6 (fun e => by have := hok b h5; injection e with e; omega)), hss'⟩, hg2, fun g h => .inl h⟩
    · have hg2 := grow_al hg
      have hfr : ∀ g', v'.ownBlock = some g' → W.heap.size ≤ g' := fun g' h => by
        subst e2
        simp only [Value.ownBlock, Option.some.injEq] at h
        have : (W.alloc (.cells vs.toArray tb)).heap.size = W.heap.size + 1 := by simp
        omega
      exact ⟨⟨_, hown', h4.keep hg2.size (fun b h5 h6 => h6) (fun b h5 h6 => hg2.block b h6 (by simp)), hss'⟩, ⟨hg2.os, hg2.tape, hg2.output, hg2.size, fun b hb _ => hg2.block b hb (by simp)⟩, fun g' h => .inr (hfr g' h)⟩
  refine wpList_plain hgd fun K hK' => ?_
  unfold Oper.wp execOp
  simp only [ho, resolve, invoke, builtin, Sem.run_bind, Sem.run_pure, Result.andThen_ok, List.map_toArray, List.map_cons, List.map_nil, hs, hx, hrun]
  exact hK' _ _ (hK v' w' hfin.1 hfin.2.1 hfin.2.2)
theorem All2.nth {α β : Type} {R : α → β → Prop} {l : List α} {m : List β} (h : All2 R l m) (d : α) : ∀ i, i < l.length → ∃ b, m[i]? = some b ∧ R (l.getD i d) b := by
  induction h with
  | nil => intro i hi; simp at hi
  | cons h _ ih =>
    intro i hi
    cases i with
    | zero => exact ⟨_, rfl, h⟩
    | succ i => simpa using ih i (by simpa using hi)
theorem flat_nth {k : Nat} : ∀ (vss : List (List Value)), (∀ vs ∈ vss, vs.length = k) → ∀ i vs, vss[i]? = some vs → ∀ j, j < k → vss.flatten[i * k + j]? = vs[j]?
  | [], _, i, vs, h, j, _ => by simp at h
  | a :: t, hl, 0, vs, h, j, hj => by
    have ha := hl a (by simp)
    simp at h
    subst h
    rw [List.flatten_cons, List.getElem?_append_left (by omega)]
    simp
  | a :: t, hl, i + 1, vs, h, j, hj => by
    have ha := hl a (by simp)
    have ih := flat_nth t (fun x hx => hl x (by simp [hx])) i vs (by simpa using h) j hj
    rw [List.flatten_cons, List.getElem?_append_right (by rw [ha, Nat.add_mul]; omega), ← ih]
    congr 1
    rw [ha, Nat.add_mul]; omega
theorem FRows.nth {Sh : List Value → Prop} {ty : TypeId} {k B n cap : Nat} {al : Option Addr} {l : List (List T)} {W : World} (h : FRows Sh ty k B l (.slice al n cap) W) (i : Nat) (hi : i < l.length) :
    ∃ g vs, al = some ⟨g, 0, none⟩ ∧ g < W.heap.size ∧ Sh vs ∧ (l.getD i []).length = k ∧ Row W (B ≤ ·) (l.getD i []) vs ∧ W.rangeAt g (i * k) vs := by
  obtain ⟨vss, h1, h2, h3⟩ := h
  obtain ⟨vs, hv, hk, hr⟩ := All2.nth h2 [] i hi
  have hlen : ∀ vs ∈ vss, vs.length = k := by
    intro x hx
    obtain ⟨q, hq, rfl⟩ := List.mem_iff_getElem.1 hx
    obtain ⟨y, hy, hk', hr'⟩ := All2.nth h2 [] q (by rw [All2.length_eq h2]; exact hq)
    rw [List.getElem?_eq_getElem hq] at hy
    injection hy with hy
    rw [hy, hr'.length, hk']
  rcases h1.2 with ⟨e, h0⟩ | ⟨g, cap', cur, e, hb, hg, r⟩
  · omega
  · injection e with e1 e2 e3
    subst e1
    refine ⟨g, vs, rfl, tr_lt_of_block hg, h3 vs (List.mem_of_getElem? hv), hk, hr.keep (Nat.le_refl _) (fun _ _ h => h.1) (fun _ _ _ => rfl), fun j u hu => ?_⟩
    have hj : j < k := by have := (List.getElem?_eq_some_iff.1 hu).1; rw [hr.length, hk] at this; exact this
    have := h1.cells (g := g) rfl (i * k + j) u (by rw [flat_nth vss hlen i vs hv j hj, hu])
    rwa [Addr.add_mid, Nat.zero_add] at this
theorem take_next {α : Type} (l : List (List α)) (j : Nat) (h : j < l.length) : l.take (j + 1) = l.take j ++ [l.getD j []] := by
  rw [List.take_add_one, List.getElem?_eq_getElem h]
  simp [List.getD, List.getElem?_eq_getElem h]
theorem set_row {w : World} {b : Nat} {cs : Array Value} {ty : TypeId} (h : w.heap[b]? = some (.cells cs ty (0, 0))) (i : Nat) (v : Value) : (w.setCell ⟨b, i, none⟩ v).heap[b]? = some (.cells (cs.setIfInBounds i v) ty (0, 0)) := by
  simp [World.setCell, Array.getElem?_modify, h]
theorem row_take {w : World} {ok : Nat → Prop} : ∀ {ts : List T} {vs : List Value}, Row w ok ts vs → ∀ k, Row w ok (ts.take k) (vs.take k)
  | _, _, .nil, k => by simp; exact .nil
  | _, _, .cons h g, 0 => .nil
  | _, _, .cons h g, k + 1 => .cons h (row_take g k)
theorem row_drop1 {w : World} {ok : Nat → Prop} {ts : List T} {v : Value} {vs : List Value} (h : Row w ok ts (v :: vs)) : Row w ok (ts.drop 1) vs := by
  cases h with
  | cons _ g => exact g
theorem one_str (s : ByteArray) : ∀ u ∈ [Value.string s], u.oneCell' = true := by
  intro u hu
  rw [List.mem_singleton.1 hu]
  rfl
def ShT (vs : List Value) : Prop := ∃ s : ByteArray, vs = [.string s]
theorem infT : (Tryz.prog.info? 9).map (fun i => (i.zero, i.size, i.bytes)) = some (some (.string ⟨#[]⟩), 1, 16) := by kernel_rfl
set_option maxRecDepth 100000 in
set_option maxHeartbeats 16000000 in
theorem paired_any (za0 : Int) (za1 : Int) (zs2 : ByteArray) (zp3 : Option Addr) (zl3 zq3 : Nat) (za6 : Int) (zp7 : Option Addr) (zl7 zq7 : Nat) (zp8 : Option Addr) (zl8 zq8 : Nat) (zs9 : ByteArray) (l : List (List T)) (al : Option Addr) (cap B : Nat) (W : World) (hf : FRows ShP 231 11 B l (.slice al l.length cap) W) (hB : B ≤ W.heap.size) (hl : l.length ≤ 65537) :
    Calls Tryz.prog 195 #[.agg #[.int .u8 za0, .int .i64 za1, .string zs2, .slice zp3 zl3 zq3, .slice none 0 0, .slice none 0 0, .int .u8 za6, .slice zp7 zl7 zq7, .slice zp8 zl8 zq8, .string zs9], .slice al l.length cap] W fun e w' => ∃ aN nN cN aV nV cV, e = .returned (.agg #[.int .u8 za0, .int .i64 za1, .string zs2, .slice zp3 zl3 zq3, .slice aN nN cN, .slice aV nV cV, .int .u8 za6, .slice zp7 zl7 zq7, .slice zp8 zl8 zq8, .string zs9]) ∧
      (ofRows 1 (l.map (·.take 1))).Rep w' (B ≤ ·) (.slice aN nN cN) ∧ (ofRows 10 (l.map (·.drop 1))).Rep w' (B ≤ ·) (.slice aV nV cV) ∧ Below W.heap.size W w' := by
  obtain ⟨ec, hec⟩ : ∃ ec : Value → Value → Array Value, ec = fun vN vV => #[.int .u8 za0, .int .i64 za1, .string zs2, .slice zp3 zl3 zq3, vN, vV, .int .u8 za6, .slice zp7 zl7 zq7, .slice zp8 zl8 zq8, .string zs9] := ⟨_, rfl⟩
  obtain ⟨W0, hW0⟩ : ∃ W0, (W.alloc (.cells #[.int .u8 za0, .int .i64 za1, .string zs2, .slice zp3 zl3 zq3, .slice none 0 0, .slice none 0 0, .int .u8 za6, .slice zp7 zl7 zq7, .slice zp8 zl8 zq8, .string zs9] 42)).alloc (.cells #[.int .u8 0, .int .i64 0, .string ⟨#[]⟩, .slice none 0 0, .slice none 0 0, .slice none 0 0, .int .u8 0, .slice none 0 0, .slice none 0 0, .string ⟨#[]⟩] 42) = W0 := ⟨_, rfl⟩
  have hz0 : W0.heap.size = W.heap.size + 2 := by rw [← hW0]; simp
  have hb0 : W0.heap[W.heap.size]? = some (.cells #[.int .u8 za0, .int .i64 za1, .string zs2, .slice zp3 zl3 zq3, .slice none 0 0, .slice none 0 0, .int .u8 za6, .slice zp7 zl7 zq7, .slice zp8 zl8 zq8, .string zs9] 42 (0, 0)) := by rw [← hW0]; exact new2a _ _ _ _ _
  have hb1 : W0.heap[W.heap.size + 1]? = some (.cells #[.int .u8 0, .int .i64 0, .string ⟨#[]⟩, .slice none 0 0, .slice none 0 0, .slice none 0 0, .int .u8 0, .slice none 0 0, .slice none 0 0, .string ⟨#[]⟩] 42 (0, 0)) := by rw [← hW0]; exact new2b _ _ _ _
  have hlow0 : Below W.heap.size W W0 := by rw [← hW0]; exact ((Below.refl _ _).alloc (Nat.le_refl _) _).alloc (by simp) _
  obtain ⟨n, hnn⟩ : ∃ n, l.length = n := ⟨_, rfl⟩
  have hcap : n ≤ cap ∧ cap ≤ 9223372036854775807 := by
    obtain ⟨a, c, e, h1, h2⟩ := hf.shape
    injection e with e1 e2 e3
    unfold maxLen at h2
    omega
  have HF := Lib.hid hf
  have HN := Lib.hid hnn
  have H0 := Lib.hid hb0
  have H1 := Lib.hid hb1
  have HL0 := Lib.hid hlow0
  obtain ⟨post, hpost⟩ : ∃ post : Ending → World → Prop, post = fun e w' => ∃ aN nN cN aV nV cV, e = .returned (.agg #[.int .u8 za0, .int .i64 za1, .string zs2, .slice zp3 zl3 zq3, .slice aN nN cN, .slice aV nV cV, .int .u8 za6, .slice zp7 zl7 zq7, .slice zp8 zl8 zq8, .string zs9]) ∧
      (ofRows 1 (l.map (·.take 1))).Rep w' (B ≤ ·) (.slice aN nN cN) ∧ (ofRows 10 (l.map (·.drop 1))).Rep w' (B ≤ ·) (.slice aV nV cV) ∧ Below W.heap.size W w' := ⟨_, rfl⟩
  have HP : Hid (∀ aN nN cN aV nV cV w', (ofRows 1 (l.map (·.take 1))).Rep w' (B ≤ ·) (.slice aN nN cN) → (ofRows 10 (l.map (·.drop 1))).Rep w' (B ≤ ·) (.slice aV nV cV) → Below W.heap.size W w' → post (.returned (.agg #[.int .u8 za0, .int .i64 za1, .string zs2, .slice zp3 zl3 zq3, .slice aN nN cN, .slice aV nV cV, .int .u8 za6, .slice zp7 zl7 zq7, .slice zp8 zl8 zq8, .string zs9])) w') := fun aN nN cN aV nV cV w' h1 h2 h3 => by rw [hpost]; exact ⟨aN, nN, cN, aV, nV, cV, rfl, h1, h2, h3⟩
  have hn2 : n ≤ 65537 := by rw [← hnn]; exact hl
  rw [← hpost, hnn]
  clear hpost hf hb0 hb1 hlow0 hec ec hnn hl
  go_enter Tryz.func195, Tryz.ntmps195
  go_wp2
  go_loopw [9] (fun i wr => ∃ (j : Nat) (aN : Option Addr) (nN cN : Nat) (aV : Option Addr) (nV cV : Nat), i = .int .i64 j ∧ j ≤ n ∧ wr.heap[W.heap.size]? = some (.cells #[.int .u8 za0, .int .i64 za1, .string zs2, .slice zp3 zl3 zq3, .slice aN nN cN, .slice aV nV cV, .int .u8 za6, .slice zp7 zl7 zq7, .slice zp8 zl8 zq8, .string zs9] 42 (0, 0)) ∧ wr.heap[W.heap.size + 1]? = some (.cells #[.int .u8 0, .int .i64 0, .string ⟨#[]⟩, .slice none 0 0, .slice none 0 0, .slice none 0 0, .int .u8 0, .slice none 0 0, .slice none 0 0, .string ⟨#[]⟩] 42 (0, 0)) ∧
      GRows ShT 9 1 (W.heap.size + 2) (fun b => B ≤ b ∧ b < W.heap.size) ((l.take j).map (·.take 1)) (.slice aN nN cN) wr ∧ GRows ShE 42 10 (W.heap.size + 2) (fun b => B ≤ b ∧ b < W.heap.size) ((l.take j).map (·.drop 1)) (.slice aV nV cV) wr ∧
      (∀ g, (Value.slice aN nN cN).ownBlock = some g → (Value.slice aV nV cV).ownBlock ≠ some g) ∧ Below W.heap.size W wr ∧ W.heap.size + 2 ≤ wr.heap.size) (fun i _ => n - (intOf i).toNat)
  case atStart =>
    refine ⟨0, none, 0, 0, none, 0, 0, rfl, Nat.zero_le _, H0.out, H1.out, GRows.nil _ _ _ _ _ _, GRows.nil _ _ _ _ _ _, fun g e => (by cases e), HL0.out, Nat.le_of_eq hz0.symm⟩
  case round =>
    obtain ⟨j, aN, nN, cN, aV, nV, cV, rfl, hj, hbe, hbr, hgN, hgV, hdis, hlow, hsz⟩ := hrel
    by_cases hlt : j < n
    · have g1 : (j : Int) < (n : Int) := by omega
      have g0 : (0 : Int) ≤ (j : Int) := by omega
      have g2 : j < cap := by omega
      obtain ⟨gl, vs, rfl, hgl, hsh, hk11, hrow, hrange⟩ := HF.out.nth j (by rw [HN.out]; exact hlt)
      obtain ⟨x, hx⟩ : ∃ x, l.getD j [] = x := ⟨_, rfl⟩
      rw [hx] at hk11 hrow
      have htake : l.take (j + 1) = l.take j ++ [x] := by rw [← hx]; exact take_next l j (by rw [HN.out]; exact hlt)
      have hrange2 : wr.rangeAt gl (j * 11) vs := fun q u hu => by rw [hlow.cell (p := ⟨gl, j * 11 + q, none⟩) hgl]; exact hrange q u hu
      obtain ⟨us0, ua1, ua2, us3, up4, ul4, uq4, up5, ul5, uq5, up6, ul6, uq6, ua7, up8, ul8, uq8, up9, ul9, uq9, us10, rfl⟩ := hsh
      have hs2 : wr.heap.size < (wr.alloc (.cells #[.string us0, .int .u8 ua1, .int .i64 ua2, .string us3, .slice up4 ul4 uq4, .slice up5 ul5 uq5, .slice up6 ul6 uq6, .int .u8 ua7, .slice up8 ul8 uq8, .slice up9 ul9 uq9, .string us10] 231)).heap.size := by simp
      obtain ⟨W2, hW2⟩ : ∃ W2, wr.alloc (.cells #[.string us0, .int .u8 ua1, .int .i64 ua2, .string us3, .slice up4 ul4 uq4, .slice up5 ul5 uq5, .slice up6 ul6 uq6, .int .u8 ua7, .slice up8 ul8 uq8, .slice up9 ul9 uq9, .string us10] 231) = W2 := ⟨_, rfl⟩
      rw [hW2] at hs2
      have hold : ∀ b, b < wr.heap.size → W2.heap[b]? = wr.heap[b]? := fun b hb => by rw [← hW2]; exact Below.heap_alloc _ _ _ hb
      have hlow2 : Below W.heap.size W W2 := by rw [← hW2]; exact hlow.alloc (by omega) _
      have hbe2 : W2.heap[W.heap.size]? = some (.cells #[.int .u8 za0, .int .i64 za1, .string zs2, .slice zp3 zl3 zq3, .slice aN nN cN, .slice aV nV cV, .int .u8 za6, .slice zp7 zl7 zq7, .slice zp8 zl8 zq8, .string zs9] 42 (0, 0)) := by rw [hold _ (by omega)]; exact hbe
      have hbr2 : W2.heap[W.heap.size + 1]? = some (.cells #[.int .u8 0, .int .i64 0, .string ⟨#[]⟩, .slice none 0 0, .slice none 0 0, .slice none 0 0, .int .u8 0, .slice none 0 0, .slice none 0 0, .string ⟨#[]⟩] 42 (0, 0)) := by rw [hold _ (by omega)]; exact hbr
      have hbp2 : W2.heap[wr.heap.size]? = some (.cells #[.string us0, .int .u8 ua1, .int .i64 ua2, .string us3, .slice up4 ul4 uq4, .slice up5 ul5 uq5, .slice up6 ul6 uq6, .int .u8 ua7, .slice up8 ul8 uq8, .slice up9 ul9 uq9, .string us10] 231 (0, 0)) := by rw [← hW2]; exact heap_alloc_new _ _
      have hgN2 := Lib.hid (hgN.keep (W' := W2) (by omega) (fun b _ hb => hold b hb) (fun g e => hold g (hgN.own e).2))
      have hgV2 := Lib.hid (hgV.keep (W' := W2) (by omega) (fun b _ hb => hold b hb) (fun g e => hold g (hgV.own e).2))
      have HOW := Lib.hid (fun g (e : (Value.slice aN nN cN).ownBlock = some g) => hgN.own e)
      have HOV := Lib.hid (fun g (e : (Value.slice aV nV cV).ownBlock = some g) => hgV.own e)
      have HX2 : Hid (∀ w4, W2.grownBy w4 (Value.slice aN nN cN).ownBlock → w4.heap[W.heap.size]? = some (.cells #[.int .u8 za0, .int .i64 za1, .string zs2, .slice zp3 zl3 zq3, .slice aN nN cN, .slice aV nV cV, .int .u8 za6, .slice zp7 zl7 zq7, .slice zp8 zl8 zq8, .string zs9] 42 (0, 0)) ∧ w4.heap[W.heap.size + 1]? = some (.cells #[.int .u8 0, .int .i64 0, .string ⟨#[]⟩, .slice none 0 0, .slice none 0 0, .slice none 0 0, .int .u8 0, .slice none 0 0, .slice none 0 0, .string ⟨#[]⟩] 42 (0, 0)) ∧ w4.heap[wr.heap.size]? = some (.cells #[.string us0, .int .u8 ua1, .int .i64 ua2, .string us3, .slice up4 ul4 uq4, .slice up5 ul5 uq5, .slice up6 ul6 uq6, .int .u8 ua7, .slice up8 ul8 uq8, .slice up9 ul9 uq9, .string us10] 231 (0, 0)) ∧ Below W.heap.size W w4 ∧ W2.heap.size ≤ w4.heap.size) := fun w4 h4 =>
        ⟨by rw [h4.block _ (by omega) (fun e => by have := HOW.out _ e.symm; omega)]; exact hbe2, by rw [h4.block _ (by omega) (fun e => by have := HOW.out _ e.symm; omega)]; exact hbr2, by rw [h4.block _ hs2 (fun e => by have := HOW.out _ e.symm; omega)]; exact hbp2,
          hlow2.grown h4 (by omega) (fun k e => by have := HOW.out _ e; omega), h4.size⟩
      obtain ⟨⟨e0, e1, e2, e3, e4, e5, e6, e7, e8, e9⟩, -⟩ := blk10 hbe2
      obtain ⟨⟨p0, p1, p2, p3, p4, p5, p6, p7, p8, p9, p10⟩, -⟩ := blk11 hbp2
      have hlen1 : ((l.take j).map (·.take 1)).length ≤ 65537 := by rw [List.length_map, List.length_take]; omega
      have hlen2 : ((l.take j).map (·.drop 1)).length ≤ 65537 := by rw [List.length_map, List.length_take]; omega
      have HT1 := Lib.hid (show (l.take (j + 1)).map (·.take 1) = (l.take j).map (·.take 1) ++ [x.take 1] by rw [htake, List.map_append]; rfl)
      have HT2 := Lib.hid (show (l.take (j + 1)).map (·.drop 1) = (l.take j).map (·.drop 1) ++ [x.drop 1] by rw [htake, List.map_append]; rfl)
      have HDIS := Lib.hid hdis
      have HROW := Lib.hid (hrow.keep (w' := W2) (ok' := fun b => B ≤ b ∧ b < W.heap.size) hlow2.size (fun b h1 h2 => ⟨h2, h1⟩) (fun b _ h2 => hlow2.block b h2))
      have HRG := Lib.hid hrange2
      clear hbe hbr hgN hgV hdis hrange hrange2 hx htake hold hbe2 hbr2 hbp2
      go_upto_region 4 with (refine wpList_load_mid rfl 231 _ rfl gl (j * 11) (by simp [Act.eval]) [.string us0, .int .u8 ua1, .int .i64 ua2, .string us3, .slice up4 ul4 uq4, .slice up5 ul5 uq5, .slice up6 ul6 uq6, .int .u8 ua7, .slice up8 ul8 uq8, .slice up9 ul9 uq9, .string us10] _ HRG.out Tryz.underlying231 rfl (by kernel_rfl) ?_)
      clear e5 p1 p2 p3 p4 p5 p6 p7 p8 p9 p10
      go_upto_region 5 with (refine append_G Tryz.underlying38 infT rfl (by decide) (by decide) hgN2.out (fun b hb => by omega) (by omega) hlen1 (by rw [List.length_take, hk11]; rfl) (row_take HROW.out 1) ⟨_, rfl⟩ (one_str _) rfl _ _ rfl rfl rfl ?_; intro v4 w4 hN4 hg4 ho4; obtain ⟨a4, n4, c4, rfl, hn4⟩ := hN4.shape2; obtain ⟨hx4, hy4, hz4, hl4, hs4⟩ := HX2.out _ hg4; obtain ⟨⟨f0, f1, f2, f3, f4, f5, f6, f7, f8, f9⟩, ⟨k0, k1, k2, k3, k4, k5, k6, k7, k8, k9⟩⟩ := blk10 hx4)
      clear e0 e1 e2 e3 e4 e6 e7 e8 e9 p0
      have hN4' : GRows ShT 9 1 (W.heap.size + 2) (fun b => B ≤ b ∧ b < W.heap.size) ((l.take (j + 1)).map (·.take 1)) (.slice a4 n4 c4) w4 := by rw [HT1.out]; exact hN4
      obtain ⟨W5, hW5⟩ : ∃ W5, w4.setCell ⟨W.heap.size, 4, none⟩ (.slice a4 n4 c4) = W5 := ⟨_, rfl⟩
      have hz5 : W5.heap.size = w4.heap.size := by rw [← hW5]; simp [World.setCell]
      have hold5 : ∀ b, b ≠ W.heap.size → W5.heap[b]? = w4.heap[b]? := fun b hb => by rw [← hW5]; exact Below.heap_setCell _ _ _ _ hb
      have hlow5 : Below W.heap.size W W5 := by rw [← hW5]; exact hl4.setCell (p := ⟨W.heap.size, 4, none⟩) (Nat.le_refl _) _
      have hbe5 : W5.heap[W.heap.size]? = some (.cells #[.int .u8 za0, .int .i64 za1, .string zs2, .slice zp3 zl3 zq3, .slice a4 n4 c4, .slice aV nV cV, .int .u8 za6, .slice zp7 zl7 zq7, .slice zp8 zl8 zq8, .string zs9] 42 (0, 0)) := by rw [← hW5]; exact set_row hx4 4 _
      have hbr5 := hold5 (W.heap.size + 1) (by omega) |>.trans hy4
      have hbp5 := hold5 wr.heap.size (by omega) |>.trans hz4
      have hgN5 := Lib.hid (hN4'.keep (W' := W5) (by omega) (fun b h1 _ => hold5 b (by omega)) (fun g e => hold5 g (by have := (hN4'.own e).1; omega)))
      have hgV5 := Lib.hid (hgV2.out.keep (W' := W5) (by omega) (fun b h1 hb => (hold5 b (by omega)).trans (hg4.block b hb (fun e => by have := HOW.out _ e.symm; omega))) (fun g e => (hold5 g (by have := HOV.out g e; omega)).trans (hg4.block g (by have := HOV.out g e; omega) (fun e2 => HDIS.out g e2.symm e))))
      have HD5 := Lib.hid (fun g (e : (Value.slice a4 n4 c4).ownBlock = some g) => (show (Value.slice aV nV cV).ownBlock ≠ some g by
        intro e2
        rcases ho4 g e with h | h
        · exact HDIS.out g h e2
        · have := HOV.out g e2; omega))
      have HX5 : Hid (∀ w6, W5.grownBy w6 (Value.slice aV nV cV).ownBlock → w6.heap[W.heap.size]? = some (.cells #[.int .u8 za0, .int .i64 za1, .string zs2, .slice zp3 zl3 zq3, .slice a4 n4 c4, .slice aV nV cV, .int .u8 za6, .slice zp7 zl7 zq7, .slice zp8 zl8 zq8, .string zs9] 42 (0, 0)) ∧ w6.heap[W.heap.size + 1]? = some (.cells #[.int .u8 0, .int .i64 0, .string ⟨#[]⟩, .slice none 0 0, .slice none 0 0, .slice none 0 0, .int .u8 0, .slice none 0 0, .slice none 0 0, .string ⟨#[]⟩] 42 (0, 0)) ∧ Below W.heap.size W w6 ∧ W5.heap.size ≤ w6.heap.size) := fun w6 h6 =>
        ⟨by rw [h6.block _ (by omega) (fun e => by have := HOV.out _ e.symm; omega)]; exact hbe5, by rw [h6.block _ (by omega) (fun e => by have := HOV.out _ e.symm; omega)]; exact hbr5,
          hlow5.grown h6 (by omega) (fun k e => by have := HOV.out _ e; omega), h6.size⟩
      obtain ⟨⟨e0, e1, e2, e3, e4, e5, e6, e7, e8, e9⟩, -⟩ := blk10 hbe5
      have HRP : Hid (W5.rangeAt wr.heap.size 1 [.int .u8 ua1, .int .i64 ua2, .string us3, .slice up4 ul4 uq4, .slice up5 ul5 uq5, .slice up6 ul6 uq6, .int .u8 ua7, .slice up8 ul8 uq8, .slice up9 ul9 uq9, .string us10]) := fun q u hu => by
        obtain ⟨⟨p0, p1, p2, p3, p4, p5, p6, p7, p8, p9, p10⟩, -⟩ := blk11 hbp5
        match q, hu with
        | 0, hu => simp at hu; subst hu; exact p1
        | 1, hu => simp at hu; subst hu; exact p2
        | 2, hu => simp at hu; subst hu; exact p3
        | 3, hu => simp at hu; subst hu; exact p4
        | 4, hu => simp at hu; subst hu; exact p5
        | 5, hu => simp at hu; subst hu; exact p6
        | 6, hu => simp at hu; subst hu; exact p7
        | 7, hu => simp at hu; subst hu; exact p8
        | 8, hu => simp at hu; subst hu; exact p9
        | 9, hu => simp at hu; subst hu; exact p10
        | q + 10, hu => simp at hu
      have HROW5 := Lib.hid (HROW.out.keep (w' := W5) (ok' := fun b => B ≤ b ∧ b < W.heap.size) (by omega) (fun b _ h => h) (fun b h1 h2 => (hold5 b (by omega)).trans (hg4.block b h2 (fun e => by have := HOW.out _ e.symm; omega))))
      clear f0 f1 f2 f3 f4 f5 f6 f7 f8 f9 k0 k1 k2 k3 k4 k5 k6 k7 k8 k9 hx4 hy4 hz4 hbe5 hbr5 hbp5 hold5 hN4 hN4' ho4
      have HZ5 := Lib.hid hz5
      have hsz5 : W.heap.size + 2 ≤ W5.heap.size := by omega
      clear hz5
      try rw [hW5]
      clear hW5
      go_upto_region 6 with (first
        | (refine wpList_load_mid rfl 42 _ rfl wr.heap.size 1 (by simp [Act.eval]) [.int .u8 ua1, .int .i64 ua2, .string us3, .slice up4 ul4 uq4, .slice up5 ul5 uq5, .slice up6 ul6 uq6, .int .u8 ua7, .slice up8 ul8 uq8, .slice up9 ul9 uq9, .string us10] _ HRP.out Tryz.underlying42 rfl (by kernel_rfl) ?_)
        | (refine append_G Tryz.underlying37 infE rfl (by decide) (by decide) hgV5.out (fun b hb => by omega) hsz5 hlen2 (by rw [List.length_drop, hk11]) (row_drop1 HROW5.out) ⟨_, _, _, _, _, _, _, _, _, _, _, _, _, _, _, _, _, _, _, _, rfl⟩ (shE_one ⟨_, _, _, _, _, _, _, _, _, _, _, _, _, _, _, _, _, _, _, _, rfl⟩).1 rfl _ _ rfl rfl rfl ?_; intro v6 w6 hV6 hg6 ho6; obtain ⟨a6, n6, c6, rfl, hn6⟩ := hV6.shape2; obtain ⟨hx6, hy6, hl6, hs6⟩ := HX5.out _ hg6; obtain ⟨⟨f0, f1, f2, f3, f4, f5, f6, f7, f8, f9⟩, ⟨k0, k1, k2, k3, k4, k5, k6, k7, k8, k9⟩⟩ := blk10 hx6))
      have hS : ∀ b, b ≠ W.heap.size → (w6.setCell ⟨W.heap.size, 5, none⟩ (.slice a6 n6 c6)).heap[b]? = w6.heap[b]? := fun b hb => Below.heap_setCell _ _ _ _ hb
      have hSz : (w6.setCell ⟨W.heap.size, 5, none⟩ (.slice a6 n6 c6)).heap.size = w6.heap.size := by simp [World.setCell]
      have R1 := Lib.hid (set_row hx6 5 (.slice a6 n6 c6))
      have R2 := Lib.hid ((hS (W.heap.size + 1) (by omega)).trans hy6)
      have R3 := Lib.hid (hgN5.out.keep (W' := w6.setCell ⟨W.heap.size, 5, none⟩ (.slice a6 n6 c6)) (by omega) (fun b h1 hb => (hS b (by omega)).trans (hg6.block b hb (fun e => by have := HOV.out _ e.symm; omega))) (fun g e => (hS g (by have := (hgN5.out.own e).1; omega)).trans (hg6.block g (hgN5.out.own e).2 (fun e2 => HD5.out g e e2.symm))))
      have hV6' : GRows ShE 42 10 (W.heap.size + 2) (fun b => B ≤ b ∧ b < W.heap.size) ((l.take (j + 1)).map (·.drop 1)) (.slice a6 n6 c6) w6 := by rw [HT2.out]; exact hV6
      have R4 := Lib.hid (hV6'.keep (W' := w6.setCell ⟨W.heap.size, 5, none⟩ (.slice a6 n6 c6)) (by omega) (fun b h1 hb => hS b (by omega)) (fun g e => hS g (by have := (hV6'.own e).1; omega)))
      have R5 := Lib.hid (fun g (e : (Value.slice a4 n4 c4).ownBlock = some g) => (show (Value.slice a6 n6 c6).ownBlock ≠ some g by
        intro e2
        rcases ho6 g e2 with h | h
        · exact HD5.out g e h
        · have := (hgN5.out.own e).2; omega))
      have R6 := Lib.hid (hl6.setCell (p := ⟨W.heap.size, 5, none⟩) (Nat.le_refl _) (.slice a6 n6 c6))
      have R7 : W.heap.size + 2 ≤ w6.heap.size := by omega
      clear hS hSz hx6 hy6 hV6 hV6' ho6
      go_wp2
      go_roundw
      case rel => exact ⟨j + 1, a4, n4, c4, a6, n6, c6, by go_num, by omega, R1.out, R2.out, R3.out, R4.out, R5.out, R6.out, by simpa [World.setCell] using R7⟩
      case measure => simp [intOf]; omega
    · have g1 : ¬ (j : Int) < (n : Int) := by omega
      have hjn : j = n := by omega
      have htk : l.take j = l := List.take_of_length_le (by rw [HN.out]; omega)
      rw [htk] at hgN hgV
      clear htk hjn
      go_wp2_with (first
        | (refine wpList_load_row rfl 42 _ rfl W.heap.size rfl 42 _ (0, 0) _ hbe Tryz.underlying42 rfl iszE ?_)
        | (refine wpList_store_row rfl 42 _ _ rfl (W.heap.size + 1) _ rfl rfl 42 #[.int .u8 0, .int .i64 0, .string ⟨#[]⟩, .slice none 0 0, .slice none 0 0, .slice none 0 0, .int .u8 0, .slice none 0 0, .slice none 0 0, .string ⟨#[]⟩] hbr iszE rfl (all_one (shE_one (by exact ⟨_, _, _, _, _, _, _, _, _, _, _, _, _, _, _, _, _, _, _, _, rfl⟩)).1) ?_))
      refine bodyPost_ret (results_cell_row Tryz.results195 _ _ (W.heap.size + 1) 42 _ (0, 0) _ rfl (setRow_heap _ _ _ _ _ _ hbr) Tryz.underlying42 rfl iszE) rfl ?_
      have hP := put_row (W.heap.size + 1) wr
      refine HP.out aN nN cN aV nV cV _ ((hgN.keep (W' := wr.setRow (W.heap.size + 1) _) (Nat.le_of_eq (hP _).size.symm) (fun b h1 _ => (hP _).block b (by omega)) (fun g e => (hP _).block g (by have := (hgN.own e).1; omega))).rep (fun b h => h.1) (fun b h => by omega))
        ((hgV.keep (W' := wr.setRow (W.heap.size + 1) _) (Nat.le_of_eq (hP _).size.symm) (fun b h1 _ => (hP _).block b (by omega)) (fun g e => (hP _).block g (by have := (hgV.own e).1; omega))).rep (fun b h => h.1) (fun b h => by omega)) ?_
      exact hlow.trans ⟨(hP _).os, (hP _).tape, (hP _).output, Nat.le_of_eq (hP _).size.symm, fun b hb => (hP _).block b (by omega)⟩
end Go.Proofs.YtedmmgfnplbkjaaGreatDoor
