/-
  Walks: the document's two of layer 2 (an operation on two values) answers 'opV', 'opOk'.
  Conditions: the values lie in memory.
-/
import Derived.Test.YtmhemajcnfcdmaaGreatDoorRefSame
import Derived.Test.YtmhemajcnfcdmaaGreatDoorOMh
import Derived.Test.YtmhemajcnfcdmaaGreatDoorOpPush
import Derived.Test.YtmhemajcnfcdmaaGreatDoorOpTwo
import Derived.BigQuiet
import Derived.Deep.AppendLies
import Derived.Deep.RegionLaw
namespace Go.Proofs.YtmhemajcnfcdmaaGreatDoor.Od
set_option linter.unusedVariables false
set_option linter.unusedSimpArgs false
open Go.RowKit Go.Deep Go.WideShapes
structure T2 (w : World) (la : Option Addr) (lc : Nat) (L : Nat → V) (pa pb : Nat) (W : World) : Prop where
  ow : OW w la 2 lc L W
  a : At W pa 0 (L 0).cells
  b : At W pb 0 (L 1).cells
  ga : w.heap.size < pa
  gb : w.heap.size < pb
section
variable {w W W' : World} {la : Option Addr} {lc : Nat} {L : Nat → V} {pa pb : Nat}
theorem T2.below (h : T2 w la lc L pa pb W) (hb : Below W.heap.size W W') : T2 w la lc L pa pb W' := ⟨h.ow.below hb, h.a.below hb, h.b.below hb, h.ga, h.gb⟩
theorem T2.alloc (h : T2 w la lc L pa pb W) (O : Obj) : T2 w la lc L pa pb (W.alloc O) := h.below (below_alloc _ _)
theorem T2.drew (h : T2 w la lc L pa pb W) : T2 w la lc L pa pb W.drew := h.below (Below.refl _ _).drew
theorem at_set {W : World} {b p i : Nat} {cs : List Value} {u : Value} (h : At W p 0 cs) (hne : p ≠ b) : At (W.setCell ⟨b, i, none⟩ u) p 0 cs := fun j hj => by
  rw [World.cell?_setCell_other _ _ _ _ (fun e => hne (congrArg (fun a : Addr => a.block) e).symm)]
  exact h j hj
theorem T2.set (h : T2 w la lc L pa pb W) (i : Nat) (u : Value) : T2 w la lc L pa pb (W.setCell ⟨w.heap.size, i, none⟩ u) :=
  ⟨h.ow.set i u, at_set h.a (Nat.ne_of_gt h.ga), at_set h.b (Nat.ne_of_gt h.gb), h.ga, h.gb⟩
end
theorem T2.ab {w W0 : World} {la : Option Addr} {lc : Nat} {L : Nat → V} (h : OW w la 2 lc L W0) (T : TypeId) : T2 w la lc L W0.heap.size (W0.heap.size + 1) ((W0.alloc (.cells (L 0).cells.toArray T)).alloc (.cells (L 1).cells.toArray T)).drew := by
  have hs : (W0.alloc (.cells (L 0).cells.toArray T)).heap.size = W0.heap.size + 1 := by simp
  have hd : ∀ W : World, Below W.heap.size W W.drew := fun W => (Below.refl _ _).drew
  refine ⟨((h.alloc _).alloc _).drew, ((at_new (w := W0) (cs := (L 0).cells) (T := T) rfl (Below.refl _ _)).below (below_alloc _ _)).below (hd _), ?_, h.big, by have := h.big; omega⟩
  have := at_new (w := W0.alloc (.cells (L 0).cells.toArray T)) (cs := (L 1).cells) (T := T) rfl (Below.refl _ _)
  rw [hs] at this
  exact this.below (hd _)
theorem T2.ba {w W0 : World} {la : Option Addr} {lc : Nat} {L : Nat → V} (h : OW w la 2 lc L W0) (T : TypeId) : T2 w la lc L (W0.heap.size + 1) W0.heap.size ((W0.alloc (.cells (L 1).cells.toArray T)).alloc (.cells (L 0).cells.toArray T)).drew := by
  have hs : (W0.alloc (.cells (L 1).cells.toArray T)).heap.size = W0.heap.size + 1 := by simp
  have hd : ∀ W : World, Below W.heap.size W W.drew := fun W => (Below.refl _ _).drew
  refine ⟨((h.alloc _).alloc _).drew, ?_, ((at_new (w := W0) (cs := (L 1).cells) (T := T) rfl (Below.refl _ _)).below (below_alloc _ _)).below (hd _), by have := h.big; omega, h.big⟩
  have := at_new (w := W0.alloc (.cells (L 1).cells.toArray T)) (cs := (L 0).cells) (T := T) rfl (Below.refl _ _)
  rw [hs] at this
  exact this.below (hd _)
theorem T2.all {w W : World} {la : Option Addr} {lc : Nat} {L : Nat → V} {pa pb : Nat} (h : T2 w la lc L pa pb W) {k1 n1 k2 n2 e1 e2 : Int} {s1 s2 key1 key2 : ByteArray} {la1 la2 fa1 fa2 : Option Addr} {ll1 lc1 fl1 fc1 ll2 lc2 fl2 fc2 : Nat} {L1 L2 F1 F2 : Nat → V} {fn1 fn2 : Nat → ByteArray} {hk1 hk2 : Bool} (h0 : L 0 = V.mk k1 n1 s1 la1 ll1 lc1 L1 fa1 fl1 fc1 fn1 F1 e1 key1 hk1) (h1 : L 1 = V.mk k2 n2 s2 la2 ll2 lc2 L2 fa2 fl2 fc2 fn2 F2 e2 key2 hk2) :
    (W.cell? ⟨pa, 0, none⟩ = some (.int .u8 k1) ∧ W.cell? ⟨pa, 1, none⟩ = some (.int .i64 n1) ∧ W.cell? ⟨pa, 2, none⟩ = some (.string s1) ∧ W.cell? ⟨pa, 3, none⟩ = some (.slice la1 ll1 lc1) ∧ W.cell? ⟨pa, 4, none⟩ = some (.slice fa1 fl1 fc1) ∧ W.cell? ⟨pa, 5, none⟩ = some (.int .u8 e1) ∧ W.cell? ⟨pa, 6, none⟩ = some (.string key1) ∧ W.cell? ⟨pa, 7, none⟩ = some (.bool hk1)) ∧
    (W.cell? ⟨pb, 0, none⟩ = some (.int .u8 k2) ∧ W.cell? ⟨pb, 1, none⟩ = some (.int .i64 n2) ∧ W.cell? ⟨pb, 2, none⟩ = some (.string s2) ∧ W.cell? ⟨pb, 3, none⟩ = some (.slice la2 ll2 lc2) ∧ W.cell? ⟨pb, 4, none⟩ = some (.slice fa2 fl2 fc2) ∧ W.cell? ⟨pb, 5, none⟩ = some (.int .u8 e2) ∧ W.cell? ⟨pb, 6, none⟩ = some (.string key2) ∧ W.cell? ⟨pb, 7, none⟩ = some (.bool hk2)) ∧
    (W.cell? ⟨w.heap.size, 0, none⟩ = some (rs W w.heap.size 0) ∧ W.cell? ⟨w.heap.size, 1, none⟩ = some (rs W w.heap.size 1) ∧ W.cell? ⟨w.heap.size, 2, none⟩ = some (rs W w.heap.size 2) ∧ W.cell? ⟨w.heap.size, 3, none⟩ = some (rs W w.heap.size 3) ∧ W.cell? ⟨w.heap.size, 4, none⟩ = some (rs W w.heap.size 4) ∧ W.cell? ⟨w.heap.size, 5, none⟩ = some (rs W w.heap.size 5) ∧ W.cell? ⟨w.heap.size, 6, none⟩ = some (rs W w.heap.size 6) ∧ W.cell? ⟨w.heap.size, 7, none⟩ = some (rs W w.heap.size 7)) ∧
    (W.frozen? ⟨w.heap.size, 0, none⟩ = false ∧ W.frozen? ⟨w.heap.size, 1, none⟩ = false ∧ W.frozen? ⟨w.heap.size, 2, none⟩ = false ∧ W.frozen? ⟨w.heap.size, 3, none⟩ = false ∧ W.frozen? ⟨w.heap.size, 4, none⟩ = false ∧ W.frozen? ⟨w.heap.size, 5, none⟩ = false ∧ W.frozen? ⟨w.heap.size, 6, none⟩ = false ∧ W.frozen? ⟨w.heap.size, 7, none⟩ = false) := by
  have ha := h.a
  have hb := h.b
  rw [h0] at ha
  rw [h1] at hb
  exact ⟨at80 ha, at80 hb, h.ow.rcells⟩
theorem vals_flat {W : World} {la : Option Addr} {ll lc : Nat} {L : Nat → V} (h : Vals W la ll lc L) (h0 : 0 < ll) : ∃ b o, la = some ⟨b, o, none⟩ ∧ (∀ i, i < ll → (L i).cells.length = 8) ∧ ∀ i, i < ll → At W b (o + i * 8) (L i).cells := by
  obtain ⟨⟨b, o, rfl, -⟩, -⟩ := h.el 0 h0
  refine ⟨b, o, rfl, fun i hi => in_cells (h.el i hi).2, fun i hi => ?_⟩
  obtain ⟨⟨b2, o2, he, ha⟩, -⟩ := h.el i hi
  simp only [Option.some.injEq, Addr.mk.injEq, and_true] at he
  obtain ⟨rfl, rfl⟩ := he
  exact ha
theorem row_sl {W : World} {base : Nat} {T : TypeId} {size n : Nat} {u : Value} {xs : List Value} (h : W.ownsRow base T size u n xs) : ∃ a cap, u = .slice a n cap ∧ n ≤ cap ∧ cap ≤ maxLen := by
  rcases h.2 with ⟨e, h0⟩ | ⟨g, cap, cur, e, _, _, h1, h2, _⟩
  · exact ⟨none, 0, by rw [h0]; exact e, by omega, by decide⟩
  · exact ⟨_, cap, e, h1, h2⟩
theorem append_nil {W : World} {ops : Array Oper} {rest : List Oper} {o : Oper} {a : Act} {Q : Exit → Act → World → Prop} (hgd : o.guard = none) (s x : Operand)
    (ho : o.op = .call { callee := .builtin .append, args := #[s, x], argTypes := #[22, 22] }) (hs : a.eval s = .slice none 0 0) (la : Option Addr) (ll lc : Nat) (hx : a.eval x = .slice la ll lc)
    (L : Nat → V) (hV : Vals W la ll lc L) (hb : ll ≤ 100000)
    (hr : ∀ v' W', W'.ownsRow W.heap.size 30 8 v' ll (flatV ll L) → Below W.heap.size W W' → wpList Tryz.prog ops Q rest (a.put o.dst v') W') : wpList Tryz.prog ops Q (o :: rest) a W := by
  obtain ⟨i0, hi, hz0, hz1, hz2⟩ := info_parts info_val
  by_cases hz : ll = 0
  · subst hz
    refine wpList_append_nothing hgd s x _ ho 30 i0 Tryz.underlying22 hi none 0 0 (Nat.le_refl _) hs la lc hx ?_
    exact hr _ W (World.ownsRow_nil _ _ _ _) (Below.refl _ _)
  · obtain ⟨b, o', rfl, h8, hat⟩ := vals_flat hV (by omega)
    refine wpList_append_own W hgd s x _ ho W.heap.size 30 i0 _ 8 112 Tryz.underlying22 hi hz0 hz1 hz2 rfl (by decide) _ 0 [] hs (World.ownsRow_nil _ _ _ _) ⟨b, o', none⟩ ll lc (flatV ll L) hx (flatV_length h8) (flat_cells h8 hat) flat_one (by unfold maxLen; omega) (by omega) (Nat.le_refl _) ?_
    intro v' w' hown' hgrow _
    rw [Nat.zero_add, List.nil_append] at hown'
    exact hr v' w' hown' (Below.grown (Below.refl _ _) hgrow (Nat.le_refl _) (fun k e => by cases e))
theorem flat_snoc {n : Nat} {L : Nat → V} {y : V} : flatV n L ++ y.cells = flatV (n + 1) (snocV n L y) := by
  rw [flatV, flatV_ext (L := L) (L' := snocV n L y) (fun i hi => by unfold snocV; rw [if_pos hi])]
  unfold snocV
  rw [if_neg (Nat.lt_irrefl _)]
theorem jv_row {w w1 W : World} {n g cap : Nat} {P : Nat → V} (hw : w.heap.size < w1.heap.size) (hin : ∀ i, i < n → (P i).In W) (h : W.ownsRow w1.heap.size 30 8 (.slice (some ⟨g, 0, none⟩) n cap) n (flatV n P)) : (n ≤ cap ∧ cap ≤ maxLen) ∧ JV w g n P W := by
  have hc : n ≤ cap ∧ cap ≤ maxLen := own_cap h
  exact ⟨hc, jv_of hw (h.lt g rfl).1 (own_vals hc.1 hc.2 hin h)⟩
theorem append_one {W : World} {base n : Nat} {xs : List Value} {v : Value} {ops : Array Oper} {o : Oper} {act : Act} {K : Act → World → Prop} {Q : Exit → Act → World → Prop} {E : Prop} (y : V) (hy : y.cells.length = 8)
    (hown : W.ownsRow base 30 8 v n xs) (hbase : base ≤ W.heap.size) (hn : n ≤ 100000) (hgd : o.guard = none) (s z : Operand)
    (ho : o.op = .call { callee := .builtin .append, args := #[s, z], argTypes := #[22, 22] }) (hs : act.eval s = v) (T' : TypeId) (hx : act.eval z = .slice (some ⟨W.heap.size, 0, none⟩) 1 1)
    (hr : ∀ b c W', W'.ownsRow base 30 8 (.slice (some ⟨b, 0, none⟩) (n + 1) c) (n + 1) (xs ++ y.cells) → Below base W W' → K (act.put o.dst (.slice (some ⟨b, 0, none⟩) (n + 1) c)) W') : if Region.wanted o (yielded ops act.tmps) = true then Oper.wp Tryz.prog o act (W.alloc (.cells y.cells.toArray T')) K Q else E := by
  obtain ⟨i0, hi, hz0, hz1, hz2⟩ := info_parts info_val
  refine step_append_lies _ hgd s z _ ho base 30 i0 _ 8 112 Tryz.underlying22 hi hz0 hz1 hz2 rfl (by decide) v n xs hs (hown.alloc _) ⟨W.heap.size, 0, none⟩ 1 1 y.cells hx (by rw [hy]) new_cells (v_one y) (by decide) (by unfold maxLen; omega) (by omega) (by simp; omega) _ rfl ?_
  intro b c w' hown' hgrow _ _
  exact hr b c w' hown' (Below.grown ((below_alloc W _).mono hbase) hgrow (by simp; omega) (fun k e => (hown.lt k e).1))
set_option maxRecDepth 100000 in
set_option maxHeartbeats 8000000 in
theorem rtwo_any (S : Nat → Prop) (k : Nat) (hk : k = 0 ∨ k = 1 ∨ k = 2 ∨ k = 3 ∨ k = 4 ∨ k = 8 ∨ k = 9 ∨ k = 11) (la : Option Addr) (lc : Nat) (L : Nat → V) (w : World) (h : Vals w la 2 lc L) (hck : (L 0).check = true) (hS : ∀ b, S b → b < w.heap.size) (hX : InS S (L 0) w ∧ InS S (L 1) w) :
    Calls Tryz.prog 86 #[.string (opName k), .slice la 2 lc] w (OpX S k 2 L w) := by
  have OK0 := OW.start h 30
  have hlc := h.hlc
  unfold maxLen at hlc
  obtain ⟨b, o, rfl, ⟨ha0, hi0⟩, ha1, hi1⟩ := OK0.two
  have HK := Lib.hid hk
  clear hk
  obtain ⟨v0, hv0⟩ : ∃ v, L 0 = v := ⟨_, rfl⟩
  obtain ⟨v1, hv1⟩ : ∃ v, L 1 = v := ⟨_, rfl⟩
  have hi0' := hi0
  have hi1' := hi1
  rw [hv0] at hi0'
  rw [hv1] at hi1'
  cases v0 with
  | leaf => exact hi0'.elim
  | mk k1 n1 s1 la1 ll1 lc1 L1 fa1 fl1 fc1 fn1 F1 e1 key1 hk1 =>
  cases v1 with
  | leaf => exact hi1'.elim
  | mk k2 n2 s2 la2 ll2 lc2 L2 fa2 fl2 fc2 fn2 F2 e2 key2 hk2 =>
  clear hi0' hi1' ha0 ha1
  have KA := Lib.hid (fun W (h : OW w (some ⟨b, o, none⟩) 2 lc L W) => show OW w (some ⟨b, o, none⟩) 2 lc L W ∧ At W b o (V.mk k1 n1 s1 la1 ll1 lc1 L1 fa1 fl1 fc1 fn1 F1 e1 key1 hk1).cells ∧ At W b (o + 8) (V.mk k2 n2 s2 la2 ll2 lc2 L2 fa2 fl2 fc2 fn2 F2 e2 key2 hk2).cells from by
    obtain ⟨b', o', e, h0, h1⟩ := h.two
    cases e
    rw [hv0] at h0
    rw [hv1] at h1
    exact ⟨h, h0.1, h1.1⟩)
  have KS := Lib.hid (fun pa pb W (h : T2 w (some ⟨b, o, none⟩) lc L pa pb W) => And.intro h (h.all hv0 hv1))
  have HV0 := Lib.hid hv0
  have HV1 := Lib.hid hv1
  have HCK := Lib.hid hck
  have HSB := Lib.hid hS
  have HXX := Lib.hid hX
  clear hS hX
  have HKI := Lib.hid (fun x y W (h : OW w (some ⟨b, o, none⟩) 2 lc L W) => rkinds_any _ lc L x y W h.vals)
  simp only [hv0, hv1, V.kind] at HKI
  obtain ⟨nm, hnm⟩ : ∃ nm, opName k = nm := ⟨_, rfl⟩
  have HNM := Lib.hid hnm
  rw [hnm]
  clear hv0 hv1 hck hnm hi0 hi1
  simp only [nv, vz, V.cells] at OK0
  have OKH := Lib.hid OK0
  clear OK0 h
  go_enter Tryz.func86, Tryz.ntmps86
  go_upto_region 1 with fail
  have OKu := OKH.out
  generalize w.alloc (.cells #[.int .u8 0, .int .i64 0, .string ⟨#[]⟩, .slice none 0 0, .slice none 0 0, .int .u8 0, .string ⟨#[]⟩, .bool false] 30) = W0 at OKu ⊢
  have OK : Hid (OW w (some ⟨b, o, none⟩) 2 lc L W0) := Lib.hid OKu
  clear OKu OKH
  go_cut [6, 7] (fun s6 s7 wx => ∃ pa pb, s6 = .pointer (some ⟨pa, 0, none⟩) ∧ s7 = .pointer (some ⟨pb, 0, none⟩) ∧ T2 w (some ⟨b, o, none⟩) lc L pa pb wx)
  case first =>
    have HAB := Lib.hid (T2.ab OK.out 30)
    have HBA := Lib.hid (T2.ba OK.out 30)
    rw [HV0.out, HV1.out] at HAB HBA
    have KR := Lib.hid (fun W (hb : Below W0.heap.size W0 W) => show Below W0.heap.size W0 W ∧ (W.cell? ⟨b, o, none⟩ = some (.int .u8 k1) ∧ W.cell? ⟨b, o + 1, none⟩ = some (.int .i64 n1) ∧ W.cell? ⟨b, o + 2, none⟩ = some (.string s1) ∧ W.cell? ⟨b, o + 3, none⟩ = some (.slice la1 ll1 lc1) ∧ W.cell? ⟨b, o + 4, none⟩ = some (.slice fa1 fl1 fc1) ∧ W.cell? ⟨b, o + 5, none⟩ = some (.int .u8 e1) ∧ W.cell? ⟨b, o + 6, none⟩ = some (.string key1) ∧ W.cell? ⟨b, o + 7, none⟩ = some (.bool hk1)) ∧ (W.cell? ⟨b, o + 8, none⟩ = some (.int .u8 k2) ∧ W.cell? ⟨b, o + 8 + 1, none⟩ = some (.int .i64 n2) ∧ W.cell? ⟨b, o + 8 + 2, none⟩ = some (.string s2) ∧ W.cell? ⟨b, o + 8 + 3, none⟩ = some (.slice la2 ll2 lc2) ∧ W.cell? ⟨b, o + 8 + 4, none⟩ = some (.slice fa2 fl2 fc2) ∧ W.cell? ⟨b, o + 8 + 5, none⟩ = some (.int .u8 e2) ∧ W.cell? ⟨b, o + 8 + 6, none⟩ = some (.string key2) ∧ W.cell? ⟨b, o + 8 + 7, none⟩ = some (.bool hk2)) from
      let q := KA.out _ (OK.out.below hb)
      ⟨hb, at8 q.2.1, at8 q.2.2⟩)
    have HAL : Hid (∀ W O, Below W0.heap.size W0 W → Below W0.heap.size W0 (W.alloc O)) := Lib.hid (fun W O h => h.alloc h.size O)
    have HSE : Hid (∀ W i v0 v1 v2 v3 v4 v5 v6 v7, Below W0.heap.size W0 W → W0.heap.size ≤ i → Below W0.heap.size W0 ((((((((W.setCell ⟨i, 0, none⟩ v0).setCell ⟨i, 1, none⟩ v1).setCell ⟨i, 2, none⟩ v2).setCell ⟨i, 3, none⟩ v3).setCell ⟨i, 4, none⟩ v4).setCell ⟨i, 5, none⟩ v5).setCell ⟨i, 6, none⟩ v6).setCell ⟨i, 7, none⟩ v7)) := Lib.hid (fun W i v0 v1 v2 v3 v4 v5 v6 v7 h hi => (((((((h.setCell hi _).setCell hi _).setCell hi _).setCell hi _).setCell hi _).setCell hi _).setCell hi _).setCell hi _)
    have HDR : Hid (∀ W, Below W0.heap.size W0 W → Below W0.heap.size W0 W.drew) := Lib.hid (fun W h => h.drew)
    have HB0 := Lib.hid (Below.refl W0.heap.size W0)
    have q0 := KR.out _ (Below.refl _ _)
    go_region_held3 (fun W => Below W0.heap.size W0 W ∧ (W.cell? ⟨b, o, none⟩ = some (.int .u8 k1) ∧ W.cell? ⟨b, o + 1, none⟩ = some (.int .i64 n1) ∧ W.cell? ⟨b, o + 2, none⟩ = some (.string s1) ∧ W.cell? ⟨b, o + 3, none⟩ = some (.slice la1 ll1 lc1) ∧ W.cell? ⟨b, o + 4, none⟩ = some (.slice fa1 fl1 fc1) ∧ W.cell? ⟨b, o + 5, none⟩ = some (.int .u8 e1) ∧ W.cell? ⟨b, o + 6, none⟩ = some (.string key1) ∧ W.cell? ⟨b, o + 7, none⟩ = some (.bool hk1)) ∧ (W.cell? ⟨b, o + 8, none⟩ = some (.int .u8 k2) ∧ W.cell? ⟨b, o + 8 + 1, none⟩ = some (.int .i64 n2) ∧ W.cell? ⟨b, o + 8 + 2, none⟩ = some (.string s2) ∧ W.cell? ⟨b, o + 8 + 3, none⟩ = some (.slice la2 ll2 lc2) ∧ W.cell? ⟨b, o + 8 + 4, none⟩ = some (.slice fa2 fl2 fc2) ∧ W.cell? ⟨b, o + 8 + 5, none⟩ = some (.int .u8 e2) ∧ W.cell? ⟨b, o + 8 + 6, none⟩ = some (.string key2) ∧ W.cell? ⟨b, o + 8 + 7, none⟩ = some (.bool hk2)))
      (first
        | (refine KR.out _ ?_; with_reducible assumption)
        | (refine KR.out _ (HAL.out _ _ ?_); with_reducible assumption)
        | (refine KR.out _ (HDR.out _ ?_); with_reducible assumption)
        | (refine KR.out _ (HDR.out _ (HAL.out _ _ (Below.refl _ _))))
        | (refine KR.out _ (HDR.out _ (HAL.out _ _ (HAL.out _ _ (Below.refl _ _)))))
        | (refine KR.out _ (HDR.out _ (Below.refl _ _)))
        | (refine KR.out _ (HSE.out _ _ _ _ _ _ _ _ _ _ (by with_reducible assumption) (Nat.le_refl _)))
        | (refine KR.out _ (HSE.out _ _ _ _ _ _ _ _ _ _ (by with_reducible assumption) (by simp)))
        | (trace_state; with_reducible assumption))
      (fail)
    all_goals go_wp2_with fail
    all_goals go_meet
    all_goals first
      | exact ⟨_, _, rfl, rfl, HAB.out⟩
      | exact ⟨_, _, rfl, rfl, HBA.out⟩
  case rest =>
    obtain ⟨pa, pb, rfl, rfl, ht⟩ := hcut
    have HT := Lib.hid ht
    clear ht OK
    have HIN := Lib.hid (fun W (h : T2 w (some ⟨b, o, none⟩) lc L pa pb W) => show (V.mk k1 n1 s1 la1 ll1 lc1 L1 fa1 fl1 fc1 fn1 F1 e1 key1 hk1).In W ∧ (V.mk k2 n2 s2 la2 ll2 lc2 L2 fa2 fl2 fc2 fn2 F2 e2 key2 hk2).In W from by
      obtain ⟨b', o', e, h0, h1⟩ := h.ow.two
      cases e
      rw [HV0.out] at h0
      rw [HV1.out] at h1
      exact ⟨h0.2, h1.2⟩)
    have KST := Lib.hid (fun W h => KS.out pa pb W h)
    clear KS KA
    rcases HK.out with rfl | rfl | rfl | rfl | rfl | rfl | rfl | rfl
    all_goals clear HK
    all_goals (have hnm := HNM.out; simp only [opName] at hnm; subst hnm; clear HNM)
    · obtain ⟨r, hr⟩ : ∃ r, (decide (k1 = 1) && decide (k2 = 1)) = r := ⟨_, rfl⟩
      have HP : Hid (∀ e w', e = .returned (.tuple #[(iv (wrap64 (n1 + n2))).agg, .bool r]) → Below w.heap.size w w' → OpX S 0 2 L w e w') := Lib.hid (fun e w' he hb => by
        refine ⟨iv (wrap64 (n1 + n2)), ?_, hb, fun W' _ => iv_in _ W' (wrap64_range _), fun _ => ?_⟩
        · rw [show opOk 0 2 L = r from (by show (decide ((L 0).kind = 1) && decide ((L 1).kind = 1)) = r; rw [HV0.out, HV1.out]; exact hr)]; exact he
        · rw [show opV 0 2 L = iv (wrap64 (n1 + n2)) from (by show iv (wrap64 ((L 0).num + (L 1).num)) = _; rw [HV0.out, HV1.out]; rfl)]
          exact iv_same _)
      have HK1 := Lib.hid (fun W h => HKI.out 1 1 W h)
      rw [hr] at HK1
      have HRI := Lib.hid (fun x W => rInt_any x W)
      simp only [iv, vz, V.agg, V.cells] at HRI
      clear hr
      obtain ⟨-, ⟨a0, a1, a2, a3, a4, a5, a6, a7⟩, ⟨b0, b1, b2, b3, b4, b5, b6, b7⟩, ⟨d0, d1, d2, d3, d4, d5, d6, d7⟩, z0, z1, z2, z3, z4, z5, z6, z7⟩ := KST.out _ HT.out
      go_wp2_with (first
        | (go_at_call 152; (with_reducible refine (HK1.out _ HT.out.ow).mono ?_); rintro x w1 ⟨rfl, hb1⟩; have HT1 := Lib.hid (HT.out.below hb1); clear hb1 a0 a1 a2 a3 a4 a5 a6 a7 b0 b1 b2 b3 b4 b5 b6 b7 d0 d1 d2 d3 d4 d5 d6 d7 z0 z1 z2 z3 z4 z5 z6 z7; obtain ⟨-, ⟨a0, a1, a2, a3, a4, a5, a6, a7⟩, ⟨b0, b1, b2, b3, b4, b5, b6, b7⟩, ⟨d0, d1, d2, d3, d4, d5, d6, d7⟩, z0, z1, z2, z3, z4, z5, z6, z7⟩ := KST.out _ HT1.out)
        | (go_at_call 149; (with_reducible refine (HRI.out _ _).mono ?_); rintro x w2 ⟨rfl, hb2⟩; have HT2 := Lib.hid (HT1.out.below hb2); clear hb2 a0 a1 a2 a3 a4 a5 a6 a7 b0 b1 b2 b3 b4 b5 b6 b7 d0 d1 d2 d3 d4 d5 d6 d7 z0 z1 z2 z3 z4 z5 z6 z7; obtain ⟨-, ⟨a0, a1, a2, a3, a4, a5, a6, a7⟩, ⟨b0, b1, b2, b3, b4, b5, b6, b7⟩, ⟨d0, d1, d2, d3, d4, d5, d6, d7⟩, z0, z1, z2, z3, z4, z5, z6, z7⟩ := KST.out _ HT2.out))
      refine bodyPost_ret (v := .tuple #[(iv (wrap64 (n1 + n2))).agg, .bool r]) (by simp [results, Tryz.results86, go_sem, d0, d1, d2, d3, d4, d5, d6, d7, iv, vz, IntWalk.i64_left, V.agg, V.cells]) rfl (HP.out _ _ rfl ?_)
      iterate 8 (with_reducible refine low_set ?_ _ _)
      exact HT2.out.ow.low
    · obtain ⟨r, hr⟩ : ∃ r, (decide (k1 = 1) && decide (k2 = 1)) = r := ⟨_, rfl⟩
      have HP : Hid (∀ e w', e = .returned (.tuple #[(iv (wrap64 (n1 - n2))).agg, .bool r]) → Below w.heap.size w w' → OpX S 1 2 L w e w') := Lib.hid (fun e w' he hb => by
        refine ⟨iv (wrap64 (n1 - n2)), ?_, hb, fun W' _ => iv_in _ W' (wrap64_range _), fun _ => ?_⟩
        · rw [show opOk 1 2 L = r from (by show (decide ((L 0).kind = 1) && decide ((L 1).kind = 1)) = r; rw [HV0.out, HV1.out]; exact hr)]; exact he
        · rw [show opV 1 2 L = iv (wrap64 (n1 - n2)) from (by show iv (wrap64 ((L 0).num - (L 1).num)) = _; rw [HV0.out, HV1.out]; rfl)]
          exact iv_same _)
      have HK1 := Lib.hid (fun W h => HKI.out 1 1 W h)
      rw [hr] at HK1
      have HRI := Lib.hid (fun x W => rInt_any x W)
      simp only [iv, vz, V.agg, V.cells] at HRI
      clear hr
      obtain ⟨-, ⟨a0, a1, a2, a3, a4, a5, a6, a7⟩, ⟨b0, b1, b2, b3, b4, b5, b6, b7⟩, ⟨d0, d1, d2, d3, d4, d5, d6, d7⟩, z0, z1, z2, z3, z4, z5, z6, z7⟩ := KST.out _ HT.out
      go_wp2_with (first
        | (go_at_call 152; (with_reducible refine (HK1.out _ HT.out.ow).mono ?_); rintro x w1 ⟨rfl, hb1⟩; have HT1 := Lib.hid (HT.out.below hb1); clear hb1 a0 a1 a2 a3 a4 a5 a6 a7 b0 b1 b2 b3 b4 b5 b6 b7 d0 d1 d2 d3 d4 d5 d6 d7 z0 z1 z2 z3 z4 z5 z6 z7; obtain ⟨-, ⟨a0, a1, a2, a3, a4, a5, a6, a7⟩, ⟨b0, b1, b2, b3, b4, b5, b6, b7⟩, ⟨d0, d1, d2, d3, d4, d5, d6, d7⟩, z0, z1, z2, z3, z4, z5, z6, z7⟩ := KST.out _ HT1.out)
        | (go_at_call 149; (with_reducible refine (HRI.out _ _).mono ?_); rintro x w2 ⟨rfl, hb2⟩; have HT2 := Lib.hid (HT1.out.below hb2); clear hb2 a0 a1 a2 a3 a4 a5 a6 a7 b0 b1 b2 b3 b4 b5 b6 b7 d0 d1 d2 d3 d4 d5 d6 d7 z0 z1 z2 z3 z4 z5 z6 z7; obtain ⟨-, ⟨a0, a1, a2, a3, a4, a5, a6, a7⟩, ⟨b0, b1, b2, b3, b4, b5, b6, b7⟩, ⟨d0, d1, d2, d3, d4, d5, d6, d7⟩, z0, z1, z2, z3, z4, z5, z6, z7⟩ := KST.out _ HT2.out))
      refine bodyPost_ret (v := .tuple #[(iv (wrap64 (n1 - n2))).agg, .bool r]) (by simp [results, Tryz.results86, go_sem, d0, d1, d2, d3, d4, d5, d6, d7, iv, vz, IntWalk.i64_left, V.agg, V.cells]) rfl (HP.out _ _ rfl ?_)
      iterate 8 (with_reducible refine low_set ?_ _ _)
      exact HT2.out.ow.low
    · obtain ⟨r, hr⟩ : ∃ r, (decide (k1 = 1) && decide (k2 = 1)) = r := ⟨_, rfl⟩
      have HP : Hid (∀ e w', e = .returned (.tuple #[(iv (wrap64 (n1 * n2))).agg, .bool r]) → Below w.heap.size w w' → OpX S 2 2 L w e w') := Lib.hid (fun e w' he hb => by
        refine ⟨iv (wrap64 (n1 * n2)), ?_, hb, fun W' _ => iv_in _ W' (wrap64_range _), fun _ => ?_⟩
        · rw [show opOk 2 2 L = r from (by show (decide ((L 0).kind = 1) && decide ((L 1).kind = 1)) = r; rw [HV0.out, HV1.out]; exact hr)]; exact he
        · rw [show opV 2 2 L = iv (wrap64 (n1 * n2)) from (by show iv (wrap64 ((L 0).num * (L 1).num)) = _; rw [HV0.out, HV1.out]; rfl)]
          exact iv_same _)
      have HK1 := Lib.hid (fun W h => HKI.out 1 1 W h)
      rw [hr] at HK1
      have HRI := Lib.hid (fun x W => rInt_any x W)
      simp only [iv, vz, V.agg, V.cells] at HRI
      clear hr
      obtain ⟨-, ⟨a0, a1, a2, a3, a4, a5, a6, a7⟩, ⟨b0, b1, b2, b3, b4, b5, b6, b7⟩, ⟨d0, d1, d2, d3, d4, d5, d6, d7⟩, z0, z1, z2, z3, z4, z5, z6, z7⟩ := KST.out _ HT.out
      go_wp2_with (first
        | (go_at_call 152; (with_reducible refine (HK1.out _ HT.out.ow).mono ?_); rintro x w1 ⟨rfl, hb1⟩; have HT1 := Lib.hid (HT.out.below hb1); clear hb1 a0 a1 a2 a3 a4 a5 a6 a7 b0 b1 b2 b3 b4 b5 b6 b7 d0 d1 d2 d3 d4 d5 d6 d7 z0 z1 z2 z3 z4 z5 z6 z7; obtain ⟨-, ⟨a0, a1, a2, a3, a4, a5, a6, a7⟩, ⟨b0, b1, b2, b3, b4, b5, b6, b7⟩, ⟨d0, d1, d2, d3, d4, d5, d6, d7⟩, z0, z1, z2, z3, z4, z5, z6, z7⟩ := KST.out _ HT1.out)
        | (go_at_call 149; (with_reducible refine (HRI.out _ _).mono ?_); rintro x w2 ⟨rfl, hb2⟩; have HT2 := Lib.hid (HT1.out.below hb2); clear hb2 a0 a1 a2 a3 a4 a5 a6 a7 b0 b1 b2 b3 b4 b5 b6 b7 d0 d1 d2 d3 d4 d5 d6 d7 z0 z1 z2 z3 z4 z5 z6 z7; obtain ⟨-, ⟨a0, a1, a2, a3, a4, a5, a6, a7⟩, ⟨b0, b1, b2, b3, b4, b5, b6, b7⟩, ⟨d0, d1, d2, d3, d4, d5, d6, d7⟩, z0, z1, z2, z3, z4, z5, z6, z7⟩ := KST.out _ HT2.out))
      refine bodyPost_ret (v := .tuple #[(iv (wrap64 (n1 * n2))).agg, .bool r]) (by simp [results, Tryz.results86, go_sem, d0, d1, d2, d3, d4, d5, d6, d7, iv, vz, IntWalk.i64_left, V.agg, V.cells]) rfl (HP.out _ _ rfl ?_)
      iterate 8 (with_reducible refine low_set ?_ _ _)
      exact HT2.out.ow.low
    · obtain ⟨r, hr⟩ : ∃ r, (decide (k1 = 1) && decide (k2 = 1)) = r := ⟨_, rfl⟩
      obtain ⟨r3, hr3⟩ : ∃ r, (decide (k1 = 3) && decide (k2 = 3)) = r := ⟨_, rfl⟩
      have hopk : opOk 3 2 L = (r3 || r) := by show ((decide ((L 0).kind = 3) && decide ((L 1).kind = 3)) || (decide ((L 0).kind = 1) && decide ((L 1).kind = 1))) = _; rw [HV0.out, HV1.out, ← hr, ← hr3]; rfl
      have hopv : opV 3 2 L = bv (if r3 then Op.bytesLess s1.toList s2.toList else decide (n1 < n2)) := by
        show (if (L 0).kind = 3 ∧ (L 1).kind = 3 then bv (Op.bytesLess (L 0).str.toList (L 1).str.toList) else bv (decide ((L 0).num < (L 1).num))) = _
        rw [HV0.out, HV1.out]
        have e3 : ((V.mk k1 n1 s1 la1 ll1 lc1 L1 fa1 fl1 fc1 fn1 F1 e1 key1 hk1).kind = 3 ∧ (V.mk k2 n2 s2 la2 ll2 lc2 L2 fa2 fl2 fc2 fn2 F2 e2 key2 hk2).kind = 3) ↔ r3 = true := by rw [← hr3]; simp [V.kind]
        simp only [e3, V.str, V.num]
        split <;> rfl
      have HP : Hid (∀ x e w', e = .returned (.tuple #[(vz 2 (bq x) ⟨#[]⟩).agg, .bool (r3 || r)]) → (r3 || r = true → x = (if r3 then Op.bytesLess s1.toList s2.toList else decide (n1 < n2))) → Below w.heap.size w w' → OpX S 3 2 L w e w') := Lib.hid (fun x e w' he hx hb => by
        refine ⟨bv x, by rw [hopk]; exact he, hb, fun W' _ => bv_in _ W', fun q => ?_⟩
        rw [hopk] at q
        rw [hopv, hx (by simpa using q)]
        exact bv_same _)
      have hr31 : r = true → r3 = false := by rw [← hr, ← hr3]; simp; rintro rfl -; simp
      have HK1 := Lib.hid (fun W h => HKI.out 1 1 W h)
      have HK3 := Lib.hid (fun W h => HKI.out 3 3 W h)
      rw [hr] at HK1
      rw [hr3] at HK3
      have HR31 := Lib.hid hr31
      have HRB := Lib.hid (fun x q hq W => rBool_q x q hq W)
      clear hr hr3 hopk hopv hr31
      obtain ⟨-, ⟨a0, a1, a2, a3, a4, a5, a6, a7⟩, ⟨b0, b1, b2, b3, b4, b5, b6, b7⟩, ⟨d0, d1, d2, d3, d4, d5, d6, d7⟩, z0, z1, z2, z3, z4, z5, z6, z7⟩ := KST.out _ HT.out
      cases r with
      | true =>
        obtain rfl := HR31.out rfl
        obtain ⟨z, hz⟩ : ∃ z, decide (n1 < n2) = z := ⟨_, rfl⟩
        have HB := Lib.hid (fun W => HRB.out z _ rfl W)
        have HPZ := Lib.hid (fun e w' he hb => HP.out z e w' he (fun _ => by rw [← hz]; rfl) hb)
        obtain ⟨q, hq⟩ : ∃ q, bq z = q := ⟨_, rfl⟩
        rw [hq] at HB HPZ
        clear hq HP
        go_wp2_with (first
          | (go_at_call 152; (with_reducible refine (HK1.out _ HT.out.ow).mono ?_); rintro x w1 ⟨rfl, hb1⟩; have HT1 := Lib.hid (HT.out.below hb1); clear hb1 a0 a1 a2 a3 a4 a5 a6 a7 b0 b1 b2 b3 b4 b5 b6 b7 d0 d1 d2 d3 d4 d5 d6 d7 z0 z1 z2 z3 z4 z5 z6 z7; obtain ⟨-, ⟨a0, a1, a2, a3, a4, a5, a6, a7⟩, ⟨b0, b1, b2, b3, b4, b5, b6, b7⟩, ⟨d0, d1, d2, d3, d4, d5, d6, d7⟩, z0, z1, z2, z3, z4, z5, z6, z7⟩ := KST.out _ HT1.out)
          | (go_at_call 148; (with_reducible refine (HB.out _).mono ?_); rintro x w2 ⟨rfl, hb2⟩; have HT2 := Lib.hid (HT1.out.below hb2); clear hb2 a0 a1 a2 a3 a4 a5 a6 a7 b0 b1 b2 b3 b4 b5 b6 b7 d0 d1 d2 d3 d4 d5 d6 d7 z0 z1 z2 z3 z4 z5 z6 z7; obtain ⟨-, ⟨a0, a1, a2, a3, a4, a5, a6, a7⟩, ⟨b0, b1, b2, b3, b4, b5, b6, b7⟩, ⟨d0, d1, d2, d3, d4, d5, d6, d7⟩, z0, z1, z2, z3, z4, z5, z6, z7⟩ := KST.out _ HT2.out))
        refine bodyPost_ret (v := .tuple #[(vz 2 q ⟨#[]⟩).agg, .bool true]) (by simp [results, Tryz.results86, go_sem, d0, d1, d2, d3, d4, d5, d6, d7, vz, V.agg, V.cells]) rfl (HPZ.out _ _ rfl ?_)
        iterate 8 (with_reducible refine low_set ?_ _ _)
        exact HT2.out.ow.low
      | false =>
        obtain ⟨z, hz⟩ : ∃ z, Op.bytesLess s1.toList s2.toList = z := ⟨_, rfl⟩
        have HB := Lib.hid (fun W => HRB.out z _ rfl W)
        have HPZ := Lib.hid (fun e w' he hb => HP.out z e w' he (fun h => by
          have h : r3 = true := by simpa using h
          rw [h, ← hz]; rfl) hb)
        rw [Bool.or_false] at HPZ
        obtain ⟨q, hq⟩ : ∃ q, bq z = q := ⟨_, rfl⟩
        rw [hq] at HB HPZ
        clear hq HP
        go_wp2_with (first
          | (go_at_call 152; (with_reducible refine (HK1.out _ HT.out.ow).mono ?_); rintro x w1 ⟨rfl, hb1⟩; have HT1 := Lib.hid (HT.out.below hb1); clear hb1 a0 a1 a2 a3 a4 a5 a6 a7 b0 b1 b2 b3 b4 b5 b6 b7 d0 d1 d2 d3 d4 d5 d6 d7 z0 z1 z2 z3 z4 z5 z6 z7; obtain ⟨-, ⟨a0, a1, a2, a3, a4, a5, a6, a7⟩, ⟨b0, b1, b2, b3, b4, b5, b6, b7⟩, ⟨d0, d1, d2, d3, d4, d5, d6, d7⟩, z0, z1, z2, z3, z4, z5, z6, z7⟩ := KST.out _ HT1.out)
          | (go_at_call 148; (with_reducible refine (HB.out _).mono ?_); rintro x w2 ⟨rfl, hb2⟩; have HT2 := Lib.hid (HT1.out.below hb2); clear hb2 a0 a1 a2 a3 a4 a5 a6 a7 b0 b1 b2 b3 b4 b5 b6 b7 d0 d1 d2 d3 d4 d5 d6 d7 z0 z1 z2 z3 z4 z5 z6 z7; obtain ⟨-, ⟨a0, a1, a2, a3, a4, a5, a6, a7⟩, ⟨b0, b1, b2, b3, b4, b5, b6, b7⟩, ⟨d0, d1, d2, d3, d4, d5, d6, d7⟩, z0, z1, z2, z3, z4, z5, z6, z7⟩ := KST.out _ HT2.out)
          | (go_at_call 152; (with_reducible refine (HK3.out _ HT2.out.ow).mono ?_); rintro x w3 ⟨rfl, hb3⟩; have HT3 := Lib.hid (HT2.out.below hb3); clear hb3 a0 a1 a2 a3 a4 a5 a6 a7 b0 b1 b2 b3 b4 b5 b6 b7 d0 d1 d2 d3 d4 d5 d6 d7 z0 z1 z2 z3 z4 z5 z6 z7; obtain ⟨-, ⟨a0, a1, a2, a3, a4, a5, a6, a7⟩, ⟨b0, b1, b2, b3, b4, b5, b6, b7⟩, ⟨d0, d1, d2, d3, d4, d5, d6, d7⟩, z0, z1, z2, z3, z4, z5, z6, z7⟩ := KST.out _ HT3.out))
        refine bodyPost_ret (v := .tuple #[(vz 2 q ⟨#[]⟩).agg, .bool r3]) (by simp [results, Tryz.results86, go_sem, d0, d1, d2, d3, d4, d5, d6, d7, vz, V.agg, V.cells]) rfl (HPZ.out _ _ rfl ?_)
        iterate 8 (with_reducible refine low_set ?_ _ _)
        exact HT3.out.ow.low
    · obtain ⟨z, hz⟩ : ∃ z, (V.mk k1 n1 s1 la1 ll1 lc1 L1 fa1 fl1 fc1 fn1 F1 e1 key1 hk1).same (V.mk k2 n2 s2 la2 ll2 lc2 L2 fa2 fl2 fc2 fn2 F2 e2 key2 hk2) = z := ⟨_, rfl⟩
      have HP : Hid (∀ e w', e = .returned (.tuple #[(vz 2 (bq z) ⟨#[]⟩).agg, .bool true]) → Below w.heap.size w w' → OpX S 4 2 L w e w') := Lib.hid (fun e w' he hb => by
        refine ⟨bv z, he, hb, fun W' _ => bv_in _ W', fun _ => ?_⟩
        rw [show opV 4 2 L = bv z from (by show bv ((L 0).same (L 1)) = _; rw [HV0.out, HV1.out, hz])]
        exact bv_same _)
      have HSA := Lib.hid (fun W (h : T2 w (some ⟨b, o, none⟩) lc L pa pb W) => refSame_any (V.mk k1 n1 s1 la1 ll1 lc1 L1 fa1 fl1 fc1 fn1 F1 e1 key1 hk1) (V.mk k2 n2 s2 la2 ll2 lc2 L2 fa2 fl2 fc2 fn2 F2 e2 key2 hk2) W (HIN.out W h).1 (HIN.out W h).2)
      rw [hz] at HSA
      have HK1 := Lib.hid (fun W h => HKI.out 1 1 W h)
      generalize (decide (k1 = 1) && decide (k2 = 1)) = r at HK1
      have HB := Lib.hid (fun W => rBool_q z _ rfl W)
      obtain ⟨q, hq⟩ : ∃ q, bq z = q := ⟨_, rfl⟩
      rw [hq] at HB HP
      simp only [V.agg, V.cells] at HSA
      clear hq hz
      obtain ⟨-, ⟨a0, a1, a2, a3, a4, a5, a6, a7⟩, ⟨b0, b1, b2, b3, b4, b5, b6, b7⟩, ⟨d0, d1, d2, d3, d4, d5, d6, d7⟩, z0, z1, z2, z3, z4, z5, z6, z7⟩ := KST.out _ HT.out
      go_wp2_with (first
        | (go_at_call 152; (with_reducible refine (HK1.out _ HT.out.ow).mono ?_); rintro x w1 ⟨rfl, hb1⟩; have HT1 := Lib.hid (HT.out.below hb1); clear hb1 a0 a1 a2 a3 a4 a5 a6 a7 b0 b1 b2 b3 b4 b5 b6 b7 d0 d1 d2 d3 d4 d5 d6 d7 z0 z1 z2 z3 z4 z5 z6 z7; obtain ⟨-, ⟨a0, a1, a2, a3, a4, a5, a6, a7⟩, ⟨b0, b1, b2, b3, b4, b5, b6, b7⟩, ⟨d0, d1, d2, d3, d4, d5, d6, d7⟩, z0, z1, z2, z3, z4, z5, z6, z7⟩ := KST.out _ HT1.out)
        | (go_at_call 153; (with_reducible refine (HSA.out _ HT1.out).mono ?_); rintro x w2 ⟨rfl, hb2⟩; have HT2 := Lib.hid (HT1.out.below hb2); clear hb2 a0 a1 a2 a3 a4 a5 a6 a7 b0 b1 b2 b3 b4 b5 b6 b7 d0 d1 d2 d3 d4 d5 d6 d7 z0 z1 z2 z3 z4 z5 z6 z7; obtain ⟨-, ⟨a0, a1, a2, a3, a4, a5, a6, a7⟩, ⟨b0, b1, b2, b3, b4, b5, b6, b7⟩, ⟨d0, d1, d2, d3, d4, d5, d6, d7⟩, z0, z1, z2, z3, z4, z5, z6, z7⟩ := KST.out _ HT2.out)
        | (go_at_call 148; (with_reducible refine (HB.out _).mono ?_); rintro x w3 ⟨rfl, hb3⟩; have HT3 := Lib.hid (HT2.out.below hb3); clear hb3 a0 a1 a2 a3 a4 a5 a6 a7 b0 b1 b2 b3 b4 b5 b6 b7 d0 d1 d2 d3 d4 d5 d6 d7 z0 z1 z2 z3 z4 z5 z6 z7; obtain ⟨-, ⟨a0, a1, a2, a3, a4, a5, a6, a7⟩, ⟨b0, b1, b2, b3, b4, b5, b6, b7⟩, ⟨d0, d1, d2, d3, d4, d5, d6, d7⟩, z0, z1, z2, z3, z4, z5, z6, z7⟩ := KST.out _ HT3.out))
      refine bodyPost_ret (v := .tuple #[(vz 2 q ⟨#[]⟩).agg, .bool true]) (by simp [results, Tryz.results86, go_sem, d0, d1, d2, d3, d4, d5, d6, d7, vz, V.agg, V.cells]) rfl (HP.out _ _ rfl ?_)
      iterate 8 (with_reducible refine low_set ?_ _ _)
      exact HT3.out.ow.low
    · obtain ⟨r, hr⟩ : ∃ r, (decide (k1 = 4) && decide (k2 = 1)) = r := ⟨_, rfl⟩
      have hopk : opOk 8 2 L = r := by show (decide ((L 0).kind = 4) && decide ((L 1).kind = 1)) = r; rw [HV0.out, HV1.out]; exact hr
      have hopv : opV 8 2 L = (if 0 ≤ n2 ∧ n2 < ll1 then L1 n2.toNat else nv) := by
        show (if 0 ≤ (L 1).num ∧ (L 1).num < (L 0).len then (L 0).el (L 1).num.toNat else nv) = _
        rw [HV0.out, HV1.out]; rfl
      have HP : Hid (∀ (u : V) (e : Ending) (w' : World), e = .returned (.tuple #[u.agg, .bool r]) → InS S u w' → (r = true → u.same (if 0 ≤ n2 ∧ n2 < ll1 then L1 n2.toNat else nv) = true) → Below w.heap.size w w' → OpX S 8 2 L w e w') := Lib.hid (fun u e w' he hi hx hb => by
        refine ⟨u, by rw [hopk]; exact he, hb, hi, fun q => ?_⟩
        rw [hopk] at q
        rw [hopv]; exact hx q)
      have HK1 := Lib.hid (fun W h => HKI.out 1 1 W h)
      generalize (decide (k1 = 1) && decide (k2 = 1)) = r1 at HK1
      have HK4 := Lib.hid (fun W h => HKI.out 4 1 W h)
      rw [hr] at HK4
      clear hr hopk hopv
      obtain ⟨-, ⟨a0, a1, a2, a3, a4, a5, a6, a7⟩, ⟨b0, b1, b2, b3, b4, b5, b6, b7⟩, ⟨d0, d1, d2, d3, d4, d5, d6, d7⟩, z0, z1, z2, z3, z4, z5, z6, z7⟩ := KST.out _ HT.out
      cases r with
      | false =>
        go_wp2_with (first
          | (go_at_call 152; (with_reducible refine (HK1.out _ HT.out.ow).mono ?_); rintro x w1 ⟨rfl, hb1⟩; have HT1 := Lib.hid (HT.out.below hb1); clear hb1 a0 a1 a2 a3 a4 a5 a6 a7 b0 b1 b2 b3 b4 b5 b6 b7 d0 d1 d2 d3 d4 d5 d6 d7 z0 z1 z2 z3 z4 z5 z6 z7; obtain ⟨-, ⟨a0, a1, a2, a3, a4, a5, a6, a7⟩, ⟨b0, b1, b2, b3, b4, b5, b6, b7⟩, ⟨d0, d1, d2, d3, d4, d5, d6, d7⟩, z0, z1, z2, z3, z4, z5, z6, z7⟩ := KST.out _ HT1.out)
          | (go_at_call 152; (with_reducible refine (HK4.out _ HT1.out.ow).mono ?_); rintro x w2 ⟨rfl, hb2⟩; have HT2 := Lib.hid (HT1.out.below hb2); clear hb2 a0 a1 a2 a3 a4 a5 a6 a7 b0 b1 b2 b3 b4 b5 b6 b7 d0 d1 d2 d3 d4 d5 d6 d7 z0 z1 z2 z3 z4 z5 z6 z7; obtain ⟨-, ⟨a0, a1, a2, a3, a4, a5, a6, a7⟩, ⟨b0, b1, b2, b3, b4, b5, b6, b7⟩, ⟨d0, d1, d2, d3, d4, d5, d6, d7⟩, z0, z1, z2, z3, z4, z5, z6, z7⟩ := KST.out _ HT2.out))
        refine bodyPost_ret (v := .tuple #[(nv).agg, .bool false]) (by simp [results, Tryz.results86, go_sem, d0, d1, d2, d3, d4, d5, d6, d7, nv, vz, V.agg, V.cells]) rfl (HP.out nv _ _ rfl (fun Wz _ => nv_in Wz) (fun h => by cases h) ?_)
        iterate 8 (with_reducible refine low_set ?_ _ _)
        exact HT2.out.ow.low
      | true =>
        rcases Int.lt_or_le n2 0 with hn | hn
        · have HPN := Lib.hid (fun e w' he hb => HP.out nv e w' he (fun Wz _ => nv_in Wz) (fun _ => by rw [if_neg (by omega)]; exact vz_same _ _ _) hb)
          clear HP
          go_wp2_with (first
            | (go_at_call 152; (with_reducible refine (HK1.out _ HT.out.ow).mono ?_); rintro x w1 ⟨rfl, hb1⟩; have HT1 := Lib.hid (HT.out.below hb1); clear hb1 a0 a1 a2 a3 a4 a5 a6 a7 b0 b1 b2 b3 b4 b5 b6 b7 d0 d1 d2 d3 d4 d5 d6 d7 z0 z1 z2 z3 z4 z5 z6 z7; obtain ⟨-, ⟨a0, a1, a2, a3, a4, a5, a6, a7⟩, ⟨b0, b1, b2, b3, b4, b5, b6, b7⟩, ⟨d0, d1, d2, d3, d4, d5, d6, d7⟩, z0, z1, z2, z3, z4, z5, z6, z7⟩ := KST.out _ HT1.out)
            | (go_at_call 152; (with_reducible refine (HK4.out _ HT1.out.ow).mono ?_); rintro x w2 ⟨rfl, hb2⟩; have HT2 := Lib.hid (HT1.out.below hb2); clear hb2 a0 a1 a2 a3 a4 a5 a6 a7 b0 b1 b2 b3 b4 b5 b6 b7 d0 d1 d2 d3 d4 d5 d6 d7 z0 z1 z2 z3 z4 z5 z6 z7; obtain ⟨-, ⟨a0, a1, a2, a3, a4, a5, a6, a7⟩, ⟨b0, b1, b2, b3, b4, b5, b6, b7⟩, ⟨d0, d1, d2, d3, d4, d5, d6, d7⟩, z0, z1, z2, z3, z4, z5, z6, z7⟩ := KST.out _ HT2.out))
          refine bodyPost_ret (v := .tuple #[(nv).agg, .bool true]) (by simp [results, Tryz.results86, go_sem, d0, d1, d2, d3, d4, d5, d6, d7, nv, vz, V.agg, V.cells]) rfl (HPN.out _ _ rfl ?_)
          iterate 8 (with_reducible refine low_set ?_ _ _)
          exact HT2.out.ow.low
        obtain ⟨j, rfl⟩ : ∃ j : Nat, n2 = (j : Int) := ⟨n2.toNat, by omega⟩
        clear hn
        have hj0 : (0 : Int) ≤ (j : Int) := by omega
        by_cases hlt : j < ll1
        · have hli : (j : Int) < (ll1 : Int) := by omega
          obtain ⟨⟨lb, lo, rfl, -⟩, -⟩ := (HIN.out _ HT.out).1.2.2.2.2.2.2.2.1 j hlt
          have HEL := Lib.hid (fun W (h : T2 w (some ⟨b, o, none⟩) lc L pa pb W) => show At W lb (lo + j * 8) (L1 j).cells ∧ (L1 j).In W from by
            obtain ⟨⟨lb', lo', e, ha⟩, hi⟩ := (HIN.out W h).1.2.2.2.2.2.2.2.1 j hlt
            cases e
            exact ⟨ha, hi⟩)
          have HXJ : Hid (InS S (L1 j) w) := Lib.hid (fun W' q => by
            have := HXX.out.1 W' q
            rw [HV0.out] at this
            exact (this.2.2.2.2.2.2.2.1 j hlt).2)
          have HPJ := Lib.hid (fun u e w' he hi hs hb => HP.out u e w' he hi (fun _ => by rw [if_pos ⟨hj0, hli⟩]; exact hs) hb)
          rw [Int.toNat_natCast] at HPJ
          clear HP
          obtain ⟨v, hv⟩ : ∃ v, L1 j = v := ⟨_, rfl⟩
          rw [hv] at HEL HPJ HXJ
          have hin := (HEL.out _ HT.out).2
          clear hv
          cases v with
          | leaf => exact hin.elim
          | mk k3 n3 s3 la3 ll3 lc3 L3 fa3 fl3 fc3 fn3 F3 e3 key3 hk3 =>
          clear hin
          go_wp2_with (first
            | (go_at_call 152; (with_reducible refine (HK1.out _ HT.out.ow).mono ?_); rintro x w1 ⟨rfl, hb1⟩; have HT1 := Lib.hid (HT.out.below hb1); clear hb1 a0 a1 a2 a3 a4 a5 a6 a7 b0 b1 b2 b3 b4 b5 b6 b7 d0 d1 d2 d3 d4 d5 d6 d7 z0 z1 z2 z3 z4 z5 z6 z7; obtain ⟨-, ⟨a0, a1, a2, a3, a4, a5, a6, a7⟩, ⟨b0, b1, b2, b3, b4, b5, b6, b7⟩, ⟨d0, d1, d2, d3, d4, d5, d6, d7⟩, z0, z1, z2, z3, z4, z5, z6, z7⟩ := KST.out _ HT1.out)
            | (go_at_call 152; (with_reducible refine (HK4.out _ HT1.out.ow).mono ?_); rintro x w2 ⟨rfl, hb2⟩; have HT2 := Lib.hid (HT1.out.below hb2); clear hb2 a0 a1 a2 a3 a4 a5 a6 a7 b0 b1 b2 b3 b4 b5 b6 b7 d0 d1 d2 d3 d4 d5 d6 d7 z0 z1 z2 z3 z4 z5 z6 z7; obtain ⟨-, ⟨a0, a1, a2, a3, a4, a5, a6, a7⟩, ⟨b0, b1, b2, b3, b4, b5, b6, b7⟩, ⟨d0, d1, d2, d3, d4, d5, d6, d7⟩, z0, z1, z2, z3, z4, z5, z6, z7⟩ := KST.out _ HT2.out; obtain ⟨g0, g1, g2, g3, g4, g5, g6, g7⟩ := at8 (HEL.out _ HT2.out).1))
          refine bodyPost_ret (v := .tuple #[(V.mk k3 n3 s3 la3 ll3 lc3 L3 fa3 fl3 fc3 fn3 F3 e3 key3 hk3).agg, .bool true]) (by simp [results, Tryz.results86, go_sem, d0, d1, d2, d3, d4, d5, d6, d7, vz, V.agg, V.cells]) rfl (HPJ.out _ _ _ rfl ?_ (In_same (HEL.out _ HT2.out).2) ?_)
          · refine HXJ.out.below ?_
            iterate 8 (with_reducible refine low_set ?_ _ _)
            exact HT2.out.ow.low
          · iterate 8 (with_reducible refine low_set ?_ _ _)
            exact HT2.out.ow.low
        · have hli : (ll1 : Int) ≤ (j : Int) := by omega
          have HPN := Lib.hid (fun e w' he hb => HP.out nv e w' he (fun Wz _ => nv_in Wz) (fun _ => by rw [if_neg (by omega)]; exact vz_same _ _ _) hb)
          clear HP
          go_wp2_with (first
            | (go_at_call 152; (with_reducible refine (HK1.out _ HT.out.ow).mono ?_); rintro x w1 ⟨rfl, hb1⟩; have HT1 := Lib.hid (HT.out.below hb1); clear hb1 a0 a1 a2 a3 a4 a5 a6 a7 b0 b1 b2 b3 b4 b5 b6 b7 d0 d1 d2 d3 d4 d5 d6 d7 z0 z1 z2 z3 z4 z5 z6 z7; obtain ⟨-, ⟨a0, a1, a2, a3, a4, a5, a6, a7⟩, ⟨b0, b1, b2, b3, b4, b5, b6, b7⟩, ⟨d0, d1, d2, d3, d4, d5, d6, d7⟩, z0, z1, z2, z3, z4, z5, z6, z7⟩ := KST.out _ HT1.out)
            | (go_at_call 152; (with_reducible refine (HK4.out _ HT1.out.ow).mono ?_); rintro x w2 ⟨rfl, hb2⟩; have HT2 := Lib.hid (HT1.out.below hb2); clear hb2 a0 a1 a2 a3 a4 a5 a6 a7 b0 b1 b2 b3 b4 b5 b6 b7 d0 d1 d2 d3 d4 d5 d6 d7 z0 z1 z2 z3 z4 z5 z6 z7; obtain ⟨-, ⟨a0, a1, a2, a3, a4, a5, a6, a7⟩, ⟨b0, b1, b2, b3, b4, b5, b6, b7⟩, ⟨d0, d1, d2, d3, d4, d5, d6, d7⟩, z0, z1, z2, z3, z4, z5, z6, z7⟩ := KST.out _ HT2.out))
          refine bodyPost_ret (v := .tuple #[(nv).agg, .bool true]) (by simp [results, Tryz.results86, go_sem, d0, d1, d2, d3, d4, d5, d6, d7, nv, vz, V.agg, V.cells]) rfl (HPN.out _ _ rfl ?_)
          iterate 8 (with_reducible refine low_set ?_ _ _)
          exact HT2.out.ow.low
    · obtain ⟨r, hr⟩ : ∃ r, (decide (k1 = 5) && decide (k2 = 3)) = r := ⟨_, rfl⟩
      have hopk : opOk 9 2 L = r := by show (decide ((L 0).kind = 5) && decide ((L 1).kind = 3)) = r; rw [HV0.out, HV1.out]; exact hr
      have hopv : opV 9 2 L = (match findF fl1 fn1 s2 with | none => nv | some i => F1 i) := by
        show (L 0).get (L 1).str = _
        rw [HV0.out, HV1.out]
        unfold V.get
        simp only [V.flen, V.fnm, V.fel, V.str]
        cases findF fl1 fn1 s2 <;> rfl
      have HP : Hid (∀ (u : V) (e : Ending) (w' : World), e = .returned (.tuple #[u.agg, .bool r]) → InS S u w' → (r = true → u.same (match findF fl1 fn1 s2 with | none => nv | some i => F1 i) = true) → Below w.heap.size w w' → OpX S 9 2 L w e w') := Lib.hid (fun u e w' he hi hx hb => by
        refine ⟨u, by rw [hopk]; exact he, hb, hi, fun q => ?_⟩
        rw [hopk] at q
        rw [hopv]; exact hx q)
      have HK1 := Lib.hid (fun W h => HKI.out 1 1 W h)
      generalize (decide (k1 = 1) && decide (k2 = 1)) = r1 at HK1
      have HK4 := Lib.hid (fun W h => HKI.out 5 3 W h)
      rw [hr] at HK4
      clear hr hopk hopv
      have hfl := (HIN.out _ HT.out).1.2.2.2.2.2.2.1
      unfold maxLen at hfl
      obtain ⟨-, ⟨a0, a1, a2, a3, a4, a5, a6, a7⟩, ⟨b0, b1, b2, b3, b4, b5, b6, b7⟩, ⟨d0, d1, d2, d3, d4, d5, d6, d7⟩, z0, z1, z2, z3, z4, z5, z6, z7⟩ := KST.out _ HT.out
      cases r with
      | false =>
        go_wp2_with (first
          | (go_at_call 152; (with_reducible refine (HK1.out _ HT.out.ow).mono ?_); rintro x w1 ⟨rfl, hb1⟩; have HT1 := Lib.hid (HT.out.below hb1); clear hb1 a0 a1 a2 a3 a4 a5 a6 a7 b0 b1 b2 b3 b4 b5 b6 b7 d0 d1 d2 d3 d4 d5 d6 d7 z0 z1 z2 z3 z4 z5 z6 z7; obtain ⟨-, ⟨a0, a1, a2, a3, a4, a5, a6, a7⟩, ⟨b0, b1, b2, b3, b4, b5, b6, b7⟩, ⟨d0, d1, d2, d3, d4, d5, d6, d7⟩, z0, z1, z2, z3, z4, z5, z6, z7⟩ := KST.out _ HT1.out)
          | (go_at_call 152; (with_reducible refine (HK4.out _ HT1.out.ow).mono ?_); rintro x w2 ⟨rfl, hb2⟩; have HT2 := Lib.hid (HT1.out.below hb2); clear hb2 a0 a1 a2 a3 a4 a5 a6 a7 b0 b1 b2 b3 b4 b5 b6 b7 d0 d1 d2 d3 d4 d5 d6 d7 z0 z1 z2 z3 z4 z5 z6 z7; obtain ⟨-, ⟨a0, a1, a2, a3, a4, a5, a6, a7⟩, ⟨b0, b1, b2, b3, b4, b5, b6, b7⟩, ⟨d0, d1, d2, d3, d4, d5, d6, d7⟩, z0, z1, z2, z3, z4, z5, z6, z7⟩ := KST.out _ HT2.out))
        refine bodyPost_ret (v := .tuple #[(nv).agg, .bool false]) (by simp [results, Tryz.results86, go_sem, d0, d1, d2, d3, d4, d5, d6, d7, nv, vz, V.agg, V.cells]) rfl (HP.out nv _ _ rfl (fun Wz _ => nv_in Wz) (fun h => by cases h) ?_)
        iterate 8 (with_reducible refine low_set ?_ _ _)
        exact HT2.out.ow.low
      | true =>
        go_wp2_with (first
          | (go_at_call 152; (with_reducible refine (HK1.out _ HT.out.ow).mono ?_); rintro x w1 ⟨rfl, hb1⟩; have HT1 := Lib.hid (HT.out.below hb1); clear hb1 a0 a1 a2 a3 a4 a5 a6 a7 b0 b1 b2 b3 b4 b5 b6 b7 d0 d1 d2 d3 d4 d5 d6 d7 z0 z1 z2 z3 z4 z5 z6 z7; obtain ⟨-, ⟨a0, a1, a2, a3, a4, a5, a6, a7⟩, ⟨b0, b1, b2, b3, b4, b5, b6, b7⟩, ⟨d0, d1, d2, d3, d4, d5, d6, d7⟩, z0, z1, z2, z3, z4, z5, z6, z7⟩ := KST.out _ HT1.out)
          | (go_at_call 152; (with_reducible refine (HK4.out _ HT1.out.ow).mono ?_); rintro x w2 ⟨rfl, hb2⟩; have HT2 := Lib.hid (HT1.out.below hb2); clear hb2 a0 a1 a2 a3 a4 a5 a6 a7 b0 b1 b2 b3 b4 b5 b6 b7 d0 d1 d2 d3 d4 d5 d6 d7 z0 z1 z2 z3 z4 z5 z6 z7; obtain ⟨-, ⟨a0, a1, a2, a3, a4, a5, a6, a7⟩, ⟨b0, b1, b2, b3, b4, b5, b6, b7⟩, ⟨d0, d1, d2, d3, d4, d5, d6, d7⟩, z0, z1, z2, z3, z4, z5, z6, z7⟩ := KST.out _ HT2.out))
        clear a0 a1 a2 a3 a4 a5 a6 a7 b0 b1 b2 b3 b4 b5 b6 b7 d0 d1 d2 d3 d4 d5 d6 d7 z0 z1 z2 z3 z4 z5 z6 z7
        have HNF : Hid ((∀ i, i < fl1 → fn1 i ≠ s2) → findF fl1 fn1 s2 = none) := Lib.hid (fun q => findF_none q)
        have HSF : Hid (∀ j, j < fl1 → fn1 j = s2 → (∀ i, i < j → fn1 i ≠ s2) → findF fl1 fn1 s2 = some j) := Lib.hid (fun j hj he hn => findF_some hj he hn)
        go_loopw [9] (fun i wr => ∃ j : Nat, j ≤ fl1 ∧ i = .int .i64 j ∧ (∀ i, i < j → fn1 i ≠ s2) ∧ T2 w (some ⟨b, o, none⟩) lc L pa pb wr) (fun i _ => fl1 - (intOf i).toNat)
        case atStart => exact ⟨0, Nat.zero_le _, rfl, fun i hi => absurd hi (Nat.not_lt_zero _), HT2.out⟩
        case round =>
          obtain ⟨j, hj, rfl, hno, ht⟩ := hrel
          have HT3 := Lib.hid ht
          have HNO := Lib.hid hno
          clear ht hno HT HT1 HT2
          obtain ⟨-, ⟨a0, a1, a2, a3, a4, a5, a6, a7⟩, ⟨b0, b1, b2, b3, b4, b5, b6, b7⟩, ⟨d0, d1, d2, d3, d4, d5, d6, d7⟩, z0, z1, z2, z3, z4, z5, z6, z7⟩ := KST.out _ HT3.out
          by_cases hlt : j < fl1
          · have hj0 : (0 : Int) ≤ (j : Int) := by omega
            have hli : (j : Int) < (fl1 : Int) := by omega
            obtain ⟨⟨fb, fo, rfl, -⟩, -⟩ := (HIN.out _ HT3.out).1.2.2.2.2.2.2.2.2 j hlt
            have HEL := Lib.hid (fun W (h : T2 w (some ⟨b, o, none⟩) lc L pa pb W) => show At W fb (fo + j * 9) (.string (fn1 j) :: (F1 j).cells) ∧ (F1 j).In W from by
              obtain ⟨⟨lb', lo', e, ha⟩, -, hi⟩ := (HIN.out W h).1.2.2.2.2.2.2.2.2 j hlt
              cases e
              exact ⟨ha, hi⟩)
            have HSJ := Lib.hid (HSF.out j hlt)
            have HNJ : Hid (fn1 j ≠ s2 → ∀ i, i < j + 1 → fn1 i ≠ s2) := Lib.hid (fun q i hi => by
              rcases Nat.lt_succ_iff_lt_or_eq.1 hi with h | rfl
              · exact HNO.out i h
              · exact q)
            have HXJ : Hid (InS S (F1 j) w) := Lib.hid (fun W' q => by
              have := HXX.out.1 W' q
              rw [HV0.out] at this
              exact (this.2.2.2.2.2.2.2.2 j hlt).2.2)
            have HPJ := Lib.hid (fun (u : V) e w' he hi (hf : findF fl1 fn1 s2 = some j) (hs : u.same (F1 j) = true) hb => HP.out u e w' he hi (fun _ => by rw [hf]; exact hs) hb)
            obtain ⟨v, hv⟩ : ∃ v, F1 j = v := ⟨_, rfl⟩
            obtain ⟨nm, hnm⟩ : ∃ nm, fn1 j = nm := ⟨_, rfl⟩
            rw [hv] at HEL HPJ HXJ
            rw [hnm] at HEL HSJ HNJ
            have hin := (HEL.out _ HT3.out).2
            clear hv hnm
            cases v with
            | leaf => exact hin.elim
            | mk k3 n3 s3 la3 ll3 lc3 L3 fa3 fl3 fc3 fn3 F3 e3 key3 hk3 =>
            clear hin
            obtain ⟨g0, g1, g2, g3, g4, g5, g6, g7, g8⟩ := at9 (HEL.out _ HT3.out).1
            have HT4 := Lib.hid (fun nq => HT3.out.below (W' := wr.drewN nq) ⟨rfl, rfl, rfl, Nat.le_refl _, fun _ _ => rfl⟩)
            by_cases hq : nm = s2
            · subst hq
              go_wp2_with fail
              go_quiet (fail)
              go_wp2_with fail
              refine bodyPost_ret (v := .tuple #[(V.mk k3 n3 s3 la3 ll3 lc3 L3 fa3 fl3 fc3 fn3 F3 e3 key3 hk3).agg, .bool true]) (by simp [results, Tryz.results86, go_sem, d0, d1, d2, d3, d4, d5, d6, d7, vz, V.agg, V.cells]) rfl (HPJ.out _ _ _ rfl ?_ (HSJ.out (by trivial) HNO.out) (In_same (HEL.out _ HT3.out).2) ?_)
              · refine HXJ.out.below ?_
                iterate 8 (with_reducible refine low_set ?_ _ _)
                exact (HT4.out _).ow.low
              · iterate 8 (with_reducible refine low_set ?_ _ _)
                exact (HT4.out _).ow.low
            · have hq' : (nm.toList == s2.toList) = false := bytes_ne hq
              have HQ := Lib.hid hq
              clear hq
              go_wp2_with fail
              go_quiet (fail)
              go_wp2_with fail
              go_roundw
              case rel => exact ⟨j + 1, by omega, by go_num, HNJ.out HQ.out, HT4.out _⟩
              case measure => simp [intOf]; omega
          · obtain rfl : j = fl1 := by omega
            have HPN := Lib.hid (fun e w' he hb => HP.out nv e w' he (fun Wz _ => nv_in Wz) (fun _ => by rw [HNF.out HNO.out]; exact vz_same _ _ _) hb)
            go_wp2_with fail
            refine bodyPost_ret (v := .tuple #[(nv).agg, .bool true]) (by simp [results, Tryz.results86, go_sem, d0, d1, d2, d3, d4, d5, d6, d7, nv, vz, V.agg, V.cells]) rfl (HPN.out _ _ rfl ?_)
            iterate 8 (with_reducible refine low_set ?_ _ _)
            exact HT3.out.ow.low
    · obtain ⟨r, hr⟩ : ∃ r, decide (k1 = 4) = r := ⟨_, rfl⟩
      have hr' : (k1 == 4) = r := hr
      have hopk : opOk 11 2 L = r := by show decide ((L 0).kind = 4) = r; rw [HV0.out]; exact hr
      have hln : ll1 ≤ 4096 := by have := check_len HCK.out (by rw [HV0.out]; exact (HIN.out _ HT.out).1); rw [HV0.out] at this; exact this
      have hopv : opV 11 2 L = lv none (ll1 + 1) (ll1 + 1) (snocV ll1 L1 (V.mk k2 n2 s2 la2 ll2 lc2 L2 fa2 fl2 fc2 fn2 F2 e2 key2 hk2)) := by
        show lv none ((L 0).len + 1) ((L 0).len + 1) (snocV (L 0).len (L 0).el (L 1)) = _
        rw [HV0.out, HV1.out]; rfl
      have HP : Hid (∀ (g cp : Nat) (e : Ending) (w' : World), e = .returned (.tuple #[(lv (some ⟨g, 0, none⟩) (ll1 + 1) cp (snocV ll1 L1 (V.mk k2 n2 s2 la2 ll2 lc2 L2 fa2 fl2 fc2 fn2 F2 e2 key2 hk2))).agg, .bool r]) → (ll1 + 1 ≤ cp ∧ cp ≤ maxLen) → JV w g (ll1 + 1) (snocV ll1 L1 (V.mk k2 n2 s2 la2 ll2 lc2 L2 fa2 fl2 fc2 fn2 F2 e2 key2 hk2)) w' → T2 w (some ⟨b, o, none⟩) lc L pa pb w' → OpX S 11 2 L w e w') := Lib.hid (fun g cp e w' he hc hj ht => by
        have hin : ∀ i, i < ll1 + 1 → (snocV ll1 L1 (V.mk k2 n2 s2 la2 ll2 lc2 L2 fa2 fl2 fc2 fn2 F2 e2 key2 hk2) i).In w' := fun i hi => by
          unfold snocV
          split
          · exact ((HIN.out _ ht).1.2.2.2.2.2.2.2.1 i (by assumption)).2
          · exact (HIN.out _ ht).2
        have hx : ∀ i, i < ll1 + 1 → InS S (snocV ll1 L1 (V.mk k2 n2 s2 la2 ll2 lc2 L2 fa2 fl2 fc2 fn2 F2 e2 key2 hk2) i) w' := fun i hi => by
          unfold snocV
          split
          · have hi' : i < ll1 := by assumption
            refine InS.below (w := w) (fun W' q => ?_) ht.ow.low
            have := HXX.out.1 W' q
            rw [HV0.out] at this
            exact (this.2.2.2.2.2.2.2.1 i hi').2
          · have := HXX.out.2
            rw [HV1.out] at this
            exact this.below ht.ow.low
        refine ⟨_, by rw [hopk]; exact he, ht.ow.low, ?_, fun _ => ?_⟩
        · exact InS.lv (fun hs => by have := HSB.out _ hs; have := hj.hg; omega) hc (fun i hi => ⟨hj.at' i hi, hx i hi⟩)
        · rw [hopv]
          exact lv_same fun i hi => In_same (hin i hi))
      have HK1 := Lib.hid (fun W h => HKI.out 1 1 W h)
      generalize (decide (k1 = 1) && decide (k2 = 1)) = r1 at HK1
      have HRL := Lib.hid (fun la ll lc W => rList_any la ll lc (snocV ll1 L1 (V.mk k2 n2 s2 la2 ll2 lc2 L2 fa2 fl2 fc2 fn2 F2 e2 key2 hk2)) W)
      simp only [lv, V.agg, V.cells] at HRL
      have HVA := Lib.hid (fun W (h : T2 w (some ⟨b, o, none⟩) lc L pa pb W) => show Vals W la1 ll1 lc1 L1 from ⟨(HIN.out W h).1.2.2.2.2.2.1, (HIN.out W h).1.2.2.2.2.2.2.2.1⟩)
      have HLN := Lib.hid hln
      clear hr hopk hopv
      obtain ⟨-, ⟨a0, a1, a2, a3, a4, a5, a6, a7⟩, ⟨b0, b1, b2, b3, b4, b5, b6, b7⟩, ⟨d0, d1, d2, d3, d4, d5, d6, d7⟩, z0, z1, z2, z3, z4, z5, z6, z7⟩ := KST.out _ HT.out
      go_upto_region 33 with (first
        | (go_at_call 152; (with_reducible refine (HK1.out _ HT.out.ow).mono ?_); rintro x w1 ⟨rfl, hb1⟩; have HT1 := Lib.hid (HT.out.below hb1); clear hb1 a0 a1 a2 a3 a4 a5 a6 a7 b0 b1 b2 b3 b4 b5 b6 b7 d0 d1 d2 d3 d4 d5 d6 d7 z0 z1 z2 z3 z4 z5 z6 z7; obtain ⟨-, ⟨a0, a1, a2, a3, a4, a5, a6, a7⟩, ⟨b0, b1, b2, b3, b4, b5, b6, b7⟩, ⟨d0, d1, d2, d3, d4, d5, d6, d7⟩, z0, z1, z2, z3, z4, z5, z6, z7⟩ := KST.out _ HT1.out)
        | (at_builtin; refine append_nil rfl _ _ rfl rfl la1 ll1 lc1 rfl L1 (HVA.out _ HT1.out) (by have := HLN.out; omega) ?_; intro u2 w2 hown2 hb2; have HO2 := Lib.hid hown2; have HBB := Lib.hid hb2; have hb2' := hb2; have HT2 := Lib.hid (HT1.out.below hb2); clear hb2 a0 a1 a2 a3 a4 a5 a6 a7 b0 b1 b2 b3 b4 b5 b6 b7 d0 d1 d2 d3 d4 d5 d6 d7 z0 z1 z2 z3 z4 z5 z6 z7; obtain ⟨-, ⟨a0, a1, a2, a3, a4, a5, a6, a7⟩, ⟨b0, b1, b2, b3, b4, b5, b6, b7⟩, ⟨d0, d1, d2, d3, d4, d5, d6, d7⟩, z0, z1, z2, z3, z4, z5, z6, z7⟩ := KST.out _ HT2.out; obtain ⟨sa, cap, rfl, hcap, -⟩ := row_sl HO2.out; clear hown2 hb2'))
      have hbw := HBB.out.size
      have HBS := Lib.hid hbw
      have HY8 : Hid ((V.mk k2 n2 s2 la2 ll2 lc2 L2 fa2 fl2 fc2 fn2 F2 e2 key2 hk2).cells.length = 8) := Lib.hid rfl
      have hpa1 : ¬ pa = w.heap.size := Nat.ne_of_gt HT2.out.ga
      have hpa2 : ¬ w.heap.size = pa := Nat.ne_of_lt HT2.out.ga
      clear hbw a0 a1 a2 a3 a4 a5 a6 a7 b0 b1 b2 b3 b4 b5 b6 b7 d0 d1 d2 d3 d4 d5 d6 d7 z0 z1 z2 z3 z4 z5 z6 z7
      have HJ5 := Lib.hid (fun (g c : Nat) (W : World) (ho : W.ownsRow w1.heap.size 30 8 (.slice (some ⟨g, 0, none⟩) (ll1 + 1) c) (ll1 + 1) (flatV ll1 L1 ++ (V.mk k2 n2 s2 la2 ll2 lc2 L2 fa2 fl2 fc2 fn2 F2 e2 key2 hk2).cells)) (ht : T2 w (some ⟨b, o, none⟩) lc L pa pb W) => jv_row (w := w) (P := snocV ll1 L1 (V.mk k2 n2 s2 la2 ll2 lc2 L2 fa2 fl2 fc2 fn2 F2 e2 key2 hk2)) HT1.out.ow.big (fun i hi => by
        unfold snocV
        split
        · exact ((HIN.out _ ht).1.2.2.2.2.2.2.2.1 i (by assumption)).2
        · exact (HIN.out _ ht).2) (by rw [← flat_snoc]; exact ho))
      go_region_held3 (fun W => T2 w (some ⟨b, o, none⟩) lc L pa pb W ∧
          (W.cell? ⟨pa, 0, none⟩ = some (.int .u8 k1) ∧ W.cell? ⟨pa, 1, none⟩ = some (.int .i64 n1) ∧ W.cell? ⟨pa, 2, none⟩ = some (.string s1) ∧ W.cell? ⟨pa, 3, none⟩ = some (.slice la1 ll1 lc1) ∧ W.cell? ⟨pa, 4, none⟩ = some (.slice fa1 fl1 fc1) ∧ W.cell? ⟨pa, 5, none⟩ = some (.int .u8 e1) ∧ W.cell? ⟨pa, 6, none⟩ = some (.string key1) ∧ W.cell? ⟨pa, 7, none⟩ = some (.bool hk1)) ∧
          (W.cell? ⟨pb, 0, none⟩ = some (.int .u8 k2) ∧ W.cell? ⟨pb, 1, none⟩ = some (.int .i64 n2) ∧ W.cell? ⟨pb, 2, none⟩ = some (.string s2) ∧ W.cell? ⟨pb, 3, none⟩ = some (.slice la2 ll2 lc2) ∧ W.cell? ⟨pb, 4, none⟩ = some (.slice fa2 fl2 fc2) ∧ W.cell? ⟨pb, 5, none⟩ = some (.int .u8 e2) ∧ W.cell? ⟨pb, 6, none⟩ = some (.string key2) ∧ W.cell? ⟨pb, 7, none⟩ = some (.bool hk2)) ∧
          (W.cell? ⟨w.heap.size, 0, none⟩ = some (rs W w.heap.size 0) ∧ W.cell? ⟨w.heap.size, 1, none⟩ = some (rs W w.heap.size 1) ∧ W.cell? ⟨w.heap.size, 2, none⟩ = some (rs W w.heap.size 2) ∧ W.cell? ⟨w.heap.size, 3, none⟩ = some (rs W w.heap.size 3) ∧ W.cell? ⟨w.heap.size, 4, none⟩ = some (rs W w.heap.size 4) ∧ W.cell? ⟨w.heap.size, 5, none⟩ = some (rs W w.heap.size 5) ∧ W.cell? ⟨w.heap.size, 6, none⟩ = some (rs W w.heap.size 6) ∧ W.cell? ⟨w.heap.size, 7, none⟩ = some (rs W w.heap.size 7)) ∧
          (W.frozen? ⟨w.heap.size, 0, none⟩ = false ∧ W.frozen? ⟨w.heap.size, 1, none⟩ = false ∧ W.frozen? ⟨w.heap.size, 2, none⟩ = false ∧ W.frozen? ⟨w.heap.size, 3, none⟩ = false ∧ W.frozen? ⟨w.heap.size, 4, none⟩ = false ∧ W.frozen? ⟨w.heap.size, 5, none⟩ = false ∧ W.frozen? ⟨w.heap.size, 6, none⟩ = false ∧ W.frozen? ⟨w.heap.size, 7, none⟩ = false))
        (first
          | (refine KST.out _ ?_; with_reducible assumption)
          | (refine KST.out _ ?_; ((with_reducible refine T2.set ?_ _ _); (repeat' (with_reducible refine T2.set ?_ _ _)); go_split_ands; with_reducible assumption))
          | (with_reducible exact KST.out _ HT2.out)
          | (with_reducible exact KST.out _ (T2.drew HT2.out))
          | (with_reducible exact KST.out _ (T2.alloc (T2.drew HT2.out) _))
          | (with_reducible exact KST.out _ (T2.drew (T2.alloc HT2.out _)))
          | (refine KST.out _ (T2.below ?_ (by with_reducible assumption)); go_split_ands; with_reducible assumption)
          | (with_reducible refine KST.out _ (T2.alloc ?_ _); go_split_ands; with_reducible assumption))
        (first
          | ((first
              | (refine append_one (V.mk k2 n2 s2 la2 ll2 lc2 L2 fa2 fl2 fc2 fn2 F2 e2 key2 hk2) HY8.out HO2.out HBS.out (by have := HLN.out; omega) (by rfl) _ _ (by rfl) (by rfl) _ (by rfl) ?_)
              | (refine append_one (W := w2.drew) (V.mk k2 n2 s2 la2 ll2 lc2 L2 fa2 fl2 fc2 fn2 F2 e2 key2 hk2) HY8.out (ownsRow_below HO2.out (Below.refl _ _).drew) HBS.out (by have := HLN.out; omega) (by rfl) _ _ (by rfl) (by rfl) _ (by rfl) ?_)); intro g5 c5 w5 hown5 hb5; have ht5 := HT1.out.below (by first | exact HBB.out.trans hb5 | exact HBB.out.drew.trans hb5); have HR5 := Lib.hid (HJ5.out _ _ _ hown5 ht5))
          | (go_at_call 84; (with_reducible refine (HRL.out _ _ _ _).mono ?_); rintro x w6 ⟨rfl, hb6⟩; have HR6 := Lib.hid (And.intro HR5.out.1 (HR5.out.2.below hb6)); have ht6 := T2.below ht5 hb6))
      all_goals
        go_wp2_with fail
        rename_i hS
        have HS := Lib.hid hS.1
        obtain ⟨-, -, -, ⟨d0, d1, d2, d3, d4, d5, d6, d7⟩, -⟩ := KST.out _ ht6
        clear hS KST HRL HO2 HBB HT2 HT1 HT ht5 ht6 HR5 hb5 hb6 hown5
        refine bodyPost_ret (v := .tuple #[(lv (some ⟨g5, 0, none⟩) (ll1 + 1) c5 (snocV ll1 L1 (V.mk k2 n2 s2 la2 ll2 lc2 L2 fa2 fl2 fc2 fn2 F2 e2 key2 hk2))).agg, .bool r]) (by simp [results, Tryz.results86, go_sem, d0, d1, d2, d3, d4, d5, d6, d7, lv, V.agg, V.cells]) rfl (HP.out g5 c5 _ _ rfl HR6.out.1 ?_ HS.out)
        iterate 8 (with_reducible refine JV.set ?_ _ _)
        exact HR6.out.2
end Go.Proofs.YtmhemajcnfcdmaaGreatDoor.Od
