/-
  Walks: TwinValue, TwinValues: the copies' lists are rows of their own, no two in one block.
  Conditions: the value lies in memory ('V.In'), its lists fit ('V.Fits').
-/
import Derived.Test.YtnmindcofdcncaaGreatDoorTw
import Derived.Test.YtnmindcofdcncaaGreatDoorNkAn
namespace Go.Proofs.YtnmindcofdcncaaGreatDoor.Two
set_option linter.unusedVariables false
set_option linter.unusedSimpArgs false
open Go.RowKit Bk
open Tw hiding TL TF TwinIs TwinFIs twinValues_any twinFields_any twinField_any twinValue_any tok_mk TL.succ TL.done TF.succ TF.done
structure NOk (base : Nat) (W : World) (v t : V) : Prop where
  tok : TOk base W v t
  own : t.Own W
  nod : t.blocks.Nodup
section
variable {base base' : Nat} {W W' : World} {v t : V}
theorem NOk.inn (h : NOk base W v t) : t.In W := h.tok.inn
theorem NOk.frm (h : NOk base W v t) : t.From base := h.tok.frm
theorem NOk.from (hh : ∀ g, base ≤ g → g < W.heap.size → W'.heap[g]? = W.heap[g]?) (h : NOk base W v t) : NOk base W' v t := ⟨h.tok.from (fun a h1 h2 => World.cell?_of_block (hh _ h1 h2)), V.Own.from hh h.frm h.own, h.nod⟩
theorem NOk.below (hb : Below W.heap.size W W') (h : NOk base W v t) : NOk base W' v t := h.from fun g _ hlt => hb.block g hlt
theorem NOk.mono (hb : base' ≤ base) (h : NOk base W v t) : NOk base' W v t := ⟨h.tok.mono hb, h.own, h.nod⟩
theorem NOk.lt (h : NOk base W v t) : ∀ x ∈ t.blocks, base ≤ x ∧ x < W.heap.size := blocks_range h.frm h.own
end
structure NL (base : Nat) (W : World) (g ll : Nat) (L L' : Nat → V) : Prop where
  lok : LOk base W g ll L L'
  row : OwnRow W 58 8 (some ⟨g, 0, none⟩) ll (ll + 1)
  own : ∀ i, i < ll → (L' i).Own W
  up : ∀ i, i < ll → (L' i).From (g + 1)
  nod : (joinTo ll (fun i => (L' i).blocks)).Nodup
structure NF (base : Nat) (W : World) (g fl : Nat) (fn fn' : Nat → ByteArray) (F F' : Nat → V) : Prop where
  lok : FOk base W g fl fn fn' F F'
  row : OwnRow W 108 9 (some ⟨g, 0, none⟩) fl (fl + 1)
  own : ∀ i, i < fl → (F' i).Own W
  up : ∀ i, i < fl → (F' i).From (g + 1)
  nod : (joinTo fl (fun i => (F' i).blocks)).Nodup
section
variable {base base' : Nat} {W W' : World} {g ll : Nat} {L L' : Nat → V} {fn fn' : Nat → ByteArray}
theorem NL.from (hh : ∀ b, base ≤ b → b < W.heap.size → W'.heap[b]? = W.heap[b]?) (h : NL base W g ll L L') : NL base W' g ll L L' :=
  ⟨h.lok.from (fun a h1 h2 => World.cell?_of_block (hh _ h1 h2)), h.row.from hh (fun x e => by cases e; exact h.lok.hg), fun i hi => V.Own.from hh (h.lok.ok i hi).frm (h.own i hi), h.up, h.nod⟩
theorem NL.below (hb : Below W.heap.size W W') (h : NL base W g ll L L') : NL base W' g ll L L' := h.from fun b _ hlt => hb.block b hlt
theorem NL.mono (hb : base' ≤ base) (h : NL base W g ll L L') : NL base' W g ll L L' := ⟨h.lok.mono hb, h.row, h.own, h.up, h.nod⟩
theorem NF.from (hh : ∀ b, base ≤ b → b < W.heap.size → W'.heap[b]? = W.heap[b]?) (h : NF base W g ll fn fn' L L') : NF base W' g ll fn fn' L L' :=
  ⟨h.lok.from (fun a h1 h2 => World.cell?_of_block (hh _ h1 h2)), h.row.from hh (fun x e => by cases e; exact h.lok.hg), fun i hi => V.Own.from hh (h.lok.ok i hi).frm (h.own i hi), h.up, h.nod⟩
theorem NF.below (hb : Below W.heap.size W W') (h : NF base W g ll fn fn' L L') : NF base W' g ll fn fn' L L' := h.from fun b _ hlt => hb.block b hlt
theorem NF.mono (hb : base' ≤ base) (h : NF base W g ll fn fn' L L') : NF base' W g ll fn fn' L L' := ⟨h.lok.mono hb, h.row, h.own, h.up, h.nod⟩
end
def KO (base : Nat) (W : World) (k : Nat) (L L' : Nat → V) : Prop := (∀ i, i < k → NOk base W (L i) (L' i)) ∧ (joinTo k (fun i => (L' i).blocks)).Nodup
theorem KO.zero {base : Nat} {W : World} {L L' : Nat → V} : KO base W 0 L L' := ⟨fun i hi => absurd hi (Nat.not_lt_zero _), List.nodup_nil⟩
theorem KO.succ {w W W1 W2 : World} {L : Nat → V} {k : Nat} {t : V} {L' : Nat → V} (hk : KO (w.heap.size + 1) W k L L') (hW : w.heap.size < W.heap.size) (ht : NOk W.heap.size W1 (L k) t) (hb1 : Below W.heap.size W W1) (hg : W1.grownBy W2 (some w.heap.size)) :
    KO (w.heap.size + 1) W2 (k + 1) L (fun i => if i = k then t else L' i) := by
  have hh : ∀ b, w.heap.size + 1 ≤ b → b < W1.heap.size → W2.heap[b]? = W1.heap[b]? := fun b hb hlt => hg.block _ hlt (by intro e; have := Option.some.inj e; omega)
  refine ⟨fun i hi => ?_, ?_⟩
  · by_cases h : i = k
    · subst h
      simp only [if_true]
      exact (ht.mono (by omega)).from hh
    · simp only [if_neg h]
      exact ((hk.1 i (by omega)).below hb1).from hh
  · rw [joinTo, joinTo_ext (g := fun i => (L' i).blocks) (fun i hi => by simp only [if_neg (show ¬ i = k by omega)])]
    simp only [if_true]
    refine List.nodup_append.2 ⟨hk.2, ht.nod, fun x hx y hy e => ?_⟩
    subst e
    obtain ⟨i, hi, hx⟩ := joinTo_mem.1 hx
    have h1 := ((hk.1 i hi).lt x hx).2
    have h2 := (ht.lt x hy).1
    omega
def TL (w : World) (L : Nat → V) (ll : Nat) (k : Nat) (W : World) : Prop := ∃ L' : Nat → V, W.ownsRow w.heap.size 58 8 (.slice (some ⟨w.heap.size, 0, none⟩) k (ll + 1)) k (flatV k L') ∧ KO (w.heap.size + 1) W k L L' ∧ Below w.heap.size w W
theorem TL.succ {w W W1 W2 : World} {L : Nat → V} {ll k : Nat} {t : V} {L' : Nat → V}
    (hown : W2.ownsRow w.heap.size 58 8 (.slice (some ⟨w.heap.size, 0, none⟩) (k + 1) (ll + 1)) (k + 1) (flatV k L' ++ t.cells)) (hk : KO (w.heap.size + 1) W k L L') (hb : Below w.heap.size w W) (hW : w.heap.size < W.heap.size)
    (ht : NOk W.heap.size W1 (L k) t) (hb1 : Below W.heap.size W W1) (hg : W1.grownBy W2 (some w.heap.size)) : TL w L ll (k + 1) W2 := by
  refine ⟨fun i => if i = k then t else L' i, ?_, hk.succ hW ht hb1 hg, (hb.trans (hb1.mono hb.size)).grown hg (Nat.le_trans hb.size hb1.size) (fun j e => by cases e; omega)⟩
  rw [flatV, if_pos rfl, flatV_ext (L' := L') (fun i hi => if_neg (by omega))]
  exact hown
theorem row_of {w W2 : World} {T : TypeId} {sz ll : Nat} {X : List Value} (hown : W2.ownsRow w.heap.size T sz (.slice (some ⟨w.heap.size, 0, none⟩) (ll + 1) (ll + 1)) (ll + 1) X) : OwnRow W2 T sz (some ⟨w.heap.size, 0, none⟩) ll (ll + 1) := by
  rcases hown.2 with ⟨e, -⟩ | ⟨g, cap, cur, e, -, h1, -, -, h2, -⟩
  · cases e
  · cases e
    exact .inr ⟨_, cur, rfl, h1, h2⟩
theorem TL.done {w W W2 : World} {L : Nat → V} {ll : Nat} {L' : Nat → V}
    (hown : W2.ownsRow w.heap.size 58 8 (.slice (some ⟨w.heap.size, 0, none⟩) (ll + 1) (ll + 1)) (ll + 1) (flatV ll L' ++ spareV.cells)) (hk : KO (w.heap.size + 1) W ll L L') (hb : Below w.heap.size w W) (_hW : w.heap.size < W.heap.size)
    (hg : W.grownBy W2 (some w.heap.size)) : NL w.heap.size W2 w.heap.size ll L L' ∧ Below w.heap.size w W2 := by
  have hh : ∀ b, w.heap.size + 1 ≤ b → b < W.heap.size → W2.heap[b]? = W.heap[b]? := fun b hb hlt => hg.block _ hlt (by intro e; have := Option.some.inj e; omega)
  obtain ⟨h1, h2⟩ := Tw.TL.done hown (fun i hi => (hk.1 i hi).tok) hb _hW hg
  exact ⟨⟨h1, row_of hown, fun i hi => V.Own.from hh (hk.1 i hi).frm (hk.1 i hi).own, fun i hi => (hk.1 i hi).frm, hk.2⟩, h2⟩
def TF (w : World) (fn : Nat → ByteArray) (F : Nat → V) (fl : Nat) (k : Nat) (W : World) : Prop := ∃ F' : Nat → V, W.ownsRow w.heap.size 108 9 (.slice (some ⟨w.heap.size, 0, none⟩) k (fl + 1)) k (flatF k fn F') ∧ KO (w.heap.size + 1) W k F F' ∧ Below w.heap.size w W
theorem TF.succ {w W W1 W2 : World} {fn : Nat → ByteArray} {F : Nat → V} {fl k : Nat} {t : V} {F' : Nat → V}
    (hown : W2.ownsRow w.heap.size 108 9 (.slice (some ⟨w.heap.size, 0, none⟩) (k + 1) (fl + 1)) (k + 1) (flatF k fn F' ++ (.string (fn k) :: t.cells))) (hk : KO (w.heap.size + 1) W k F F') (hb : Below w.heap.size w W) (hW : w.heap.size < W.heap.size)
    (ht : NOk W.heap.size W1 (F k) t) (hb1 : Below W.heap.size W W1) (hg : W1.grownBy W2 (some w.heap.size)) : TF w fn F fl (k + 1) W2 := by
  refine ⟨fun i => if i = k then t else F' i, ?_, hk.succ hW ht hb1 hg, (hb.trans (hb1.mono hb.size)).grown hg (Nat.le_trans hb.size hb1.size) (fun j e => by cases e; omega)⟩
  rw [flatF, if_pos rfl, flatF_ext (fn' := fn) (F' := F') (fun i hi => ⟨rfl, if_neg (by omega)⟩)]
  exact hown
theorem TF.done {w W W2 : World} {fn : Nat → ByteArray} {F : Nat → V} {fl : Nat} {F' : Nat → V}
    (hown : W2.ownsRow w.heap.size 108 9 (.slice (some ⟨w.heap.size, 0, none⟩) (fl + 1) (fl + 1)) (fl + 1) (flatF fl fn F' ++ spareF)) (hk : KO (w.heap.size + 1) W fl F F') (hb : Below w.heap.size w W) (_hW : w.heap.size < W.heap.size)
    (hg : W.grownBy W2 (some w.heap.size)) : NF w.heap.size W2 w.heap.size fl fn fn F F' ∧ Below w.heap.size w W2 := by
  have hh : ∀ b, w.heap.size + 1 ≤ b → b < W.heap.size → W2.heap[b]? = W.heap[b]? := fun b hb hlt => hg.block _ hlt (by intro e; have := Option.some.inj e; omega)
  obtain ⟨h1, h2⟩ := Tw.TF.done hown (fun i hi => (hk.1 i hi).tok) hb _hW hg
  exact ⟨⟨h1, row_of hown, fun i hi => V.Own.from hh (hk.1 i hi).frm (hk.1 i hi).own, fun i hi => (hk.1 i hi).frm, hk.2⟩, h2⟩
theorem set_near (w W : World) (i : Nat) (u : Value) : ∀ b, w.heap.size + 2 ≤ b → b < W.heap.size → (W.setCell ⟨w.heap.size + 1, i, none⟩ u).heap[b]? = W.heap[b]? :=
  fun b hb _ => Below.heap_setCell _ _ _ _ (by simp; omega)
theorem NOk.set {w W : World} {v t : V} (h : NOk (w.heap.size + 2) W v t) (i : Nat) (u : Value) : NOk (w.heap.size + 2) (W.setCell ⟨w.heap.size + 1, i, none⟩ u) v t := h.from (set_near w W i u)
theorem tok_mk {base : Nat} {Wf W : World} {k n : Int} {s : ByteArray} {la : Option Addr} {ll lc : Nat} {L L' : Nat → V} {fa : Option Addr} {fl fc : Nat} {fn fn' : Nat → ByteArray} {F F' : Nat → V} {e : Int} {key : ByteArray} {hk : Bool} {g : Nat}
    (hr : (0 ≤ k ∧ k ≤ 255) ∧ (-9223372036854775808 ≤ n ∧ n ≤ 9223372036854775807) ∧ s.size ≤ maxLen ∧ (0 ≤ e ∧ e ≤ 255) ∧ key.size ≤ maxLen) (hz : ll * 112 ≤ 140737488351232 ∧ fl * 128 ≤ 140737488351232) (hnm : ∀ i, i < fl → (fn i).size ≤ maxLen)
    (hL0 : NL base Wf g ll L L') (hb : Below Wf.heap.size Wf W) (hF : NF base W Wf.heap.size fl fn fn' F F') :
    NOk base W (.mk k n s la ll lc L fa fl fc fn F e key hk) (.mk k n s (some ⟨g, 0, none⟩) ll (ll + 1) L' (some ⟨Wf.heap.size, 0, none⟩) fl (fl + 1) fn' F' e key hk) := by
  have hL := hL0.below hb
  refine ⟨Tw.tok_mk hr hz hnm hL.lok hF.lok, ⟨hL.row, hF.row, hL.own, hF.own⟩, ?_⟩
  have hg : g < Wf.heap.size := by
    rcases hL0.row with ⟨e, -⟩ | ⟨g', cur, e, h2, -⟩
    · cases e
    · cases e; exact (Array.getElem?_eq_some_iff.1 h2).1
  have hA : ∀ x ∈ joinTo ll (fun i => (L' i).blocks), g < x ∧ x < Wf.heap.size := fun x hx => by
    obtain ⟨i, hi, hx⟩ := joinTo_mem.1 hx
    have := blocks_range (hL0.up i hi) (hL0.own i hi) x hx
    omega
  have hB : ∀ x ∈ joinTo fl (fun i => (F' i).blocks), Wf.heap.size < x := fun x hx => by
    obtain ⟨i, hi, hx⟩ := joinTo_mem.1 hx
    have := blocks_range (hF.up i hi) (hF.own i hi) x hx
    omega
  show ([g] ++ (joinTo ll (fun i => (L' i).blocks) ++ ([Wf.heap.size] ++ joinTo fl (fun i => (F' i).blocks)))).Nodup
  refine List.nodup_append.2 ⟨by simp, List.nodup_append.2 ⟨hL0.nod, List.nodup_append.2 ⟨by simp, hF.nod, fun x hx y hy e => ?_⟩, fun x hx y hy e => ?_⟩, fun x hx y hy e => ?_⟩
  · have h1 := hB y hy
    simp at hx
    omega
  · have h1 := hA x hx
    rcases List.mem_append.1 hy with h | h
    · simp at h; omega
    · have := hB y h; omega
  · simp at hx
    rcases List.mem_append.1 hy with h | h
    · have := hA y h; omega
    · rcases List.mem_append.1 h with h | h
      · simp at h; omega
      · have := hB y h; omega
def TwinIs (v : V) : Prop := ∀ w : World, v.In w → v.Fits → Calls Tryz.prog 15 #[v.agg] w fun e w' => ∃ t : V, e = .returned t.agg ∧ NOk w.heap.size w' v t ∧ Below w.heap.size w w'
set_option maxRecDepth 100000 in
set_option maxHeartbeats 2000000 in
theorem twinValues_any (la : Option Addr) (ll lc : Nat) (L : Nat → V) (hv : ∀ i, i < ll → TwinIs (L i)) (w : World) (_hlc : ll ≤ lc ∧ lc ≤ maxLen) (hf : ll * 112 ≤ 140737488351232) (hfs : ∀ i, i < ll → (L i).Fits)
    (h : ∀ i, i < ll → (∃ b o, la = some ⟨b, o, none⟩ ∧ At w b (o + i * 8) (L i).cells) ∧ (L i).In w) :
    Calls Tryz.prog 6 #[.slice la ll lc] w fun e w' => ∃ L' : Nat → V, e = .returned (.slice (some ⟨w.heap.size, 0, none⟩) ll (ll + 1)) ∧ NL w.heap.size w' w.heap.size ll L L' ∧ Below w.heap.size w w' := by
  unfold maxLen at _hlc
  obtain ⟨i0, hi, hz0, hz1, hz2⟩ := info_parts Tw.info_val
  have HI := Lib.hid (And.intro hi (And.intro hz0 (And.intro hz1 hz2)))
  clear hi hz0 hz1 hz2
  have H := Lib.hid h
  have H2 := Lib.hid hv
  have HF := Lib.hid hfs
  clear h hv hfs
  go_enter Tryz.func6, Tryz.ntmps6
  obtain ⟨hi, hz0, hz1, hz2⟩ := HI.out
  go_wp2_with (refine wpList_make_own _ rfl _ _ 22 rfl w.heap.size 58 i0 _ 8 Tryz.underlying22 hi hz0 hz1 _ _ _ (ll + 1) rfl rfl (by push_cast; rfl) (by rw [hz2]; omega) (by unfold maxLen; omega) (Nat.le_refl _) ?_)
  intro w0 hown0 hg0
  have hT0 : TL w L ll 0 w0 := ⟨L, hown0, KO.zero, (Below.refl _ _).grown hg0 (Nat.le_refl _) (fun k e => by cases e)⟩
  have HT0 := Lib.hid hT0
  clear hown0 hg0 hT0 hi hz0 hz1 hz2
  go_wp2_with fail
  go_loopw [3, 4] (fun t i wr => ∃ k : Nat, k ≤ ll ∧ i = .int .i64 k ∧ t = .slice (some ⟨w.heap.size, 0, none⟩) k (ll + 1) ∧ TL w L ll k wr) (fun _ i _ => ll - (intOf i).toNat)
  case atStart => exact ⟨0, Nat.zero_le _, rfl, rfl, HT0.out⟩
  case round =>
    obtain ⟨k, hk, rfl, rfl, L', hown, hok, hb⟩ := hrel
    have hBlt : w.heap.size < wr.heap.size := (hown.lt _ rfl).2
    obtain ⟨hi, hz0, hz1, hz2⟩ := HI.out
    by_cases hlt : k < ll
    · obtain ⟨⟨b, o, rfl, hat⟩, hin⟩ := H.out k hlt
      have HX := Lib.hid (H2.out k hlt wr (hin.below hb) (HF.out k hlt))
      have hat := hat.below hb
      have HP := Lib.hid (And.intro hown (And.intro hok (And.intro hb hBlt)))
      clear hown hok hb hBlt
      have hin2 := hin
      generalize hLk : L k = v at HX hat hin2
      have HLk := Lib.hid hLk
      clear hLk
      cases v with
      | leaf => exact hin2.elim
      | mk k2 n2 s2 la2 ll2 lc2 L2 fa2 fl2 fc2 fn2 F2 e2 key2 hk2 =>
      obtain ⟨c0, c1, c2, c3, c4, c5, c6, c7⟩ := at8 hat
      clear hat hin hin2
      have HX2 : Hid (Calls Tryz.prog 15 #[.agg #[.int .u8 k2, .int .i64 n2, .string s2, .slice la2 ll2 lc2, .slice fa2 fl2 fc2, .int .u8 e2, .string key2, .bool hk2]] wr _) := HX.out
      clear HX
      go_wp2_with fail
      refine HX2.out.mono ?_
      rintro e w1 ⟨t, rfl, htk, hb1⟩
      have ht8 := htk.inn
      cases t with
      | leaf => exact ht8.elim
      | mk k3 n3 s3 la3 ll3 lc3 L3 fa3 fl3 fc3 fn3 F3 e3 key3 hk3 =>
      have HK := Lib.hid (And.intro htk hb1)
      have hown1 : w1.ownsRow w.heap.size 58 8 (.slice (some ⟨w.heap.size, 0, none⟩) k (ll + 1)) k (flatV k L') := ownsRow_below HP.out.1 hb1
      clear htk hb1 ht8 HX2 c0 c1 c2 c3 c4 c5 c6 c7
      simp only [V.agg, V.cells]
      go_wp2_with (at_builtin; refine wpList_append_fits _ rfl _ _ 22 rfl w.heap.size 58 i0 8 Tryz.underlying22 hi hz1 w.heap.size k (ll + 1) _ rfl (hown1.alloc _) ⟨w1.heap.size, 0, none⟩ 1 1 (V.mk k3 n3 s3 la3 ll3 lc3 L3 fa3 fl3 fc3 fn3 F3 e3 key3 hk3).cells rfl rfl new_cells (Tw.v_one _) (by omega) ?_)
      intro w2 hown2 hg2
      have HN := Lib.hid (TL.succ (ll := ll) hown2 HP.out.2.1 HP.out.2.2.1 HP.out.2.2.2 (by rw [HLk.out]; exact HK.out.1) HK.out.2 (grown_trans (World.grownBy_alloc _ _ _) hg2))
      clear hown2 hg2 hown1 hi hz0 hz1 hz2
      go_wp2_with fail
      go_roundw
      case rel => exact ⟨k + 1, by omega, by go_num, rfl, HN.out⟩
      case measure => simp [intOf]; omega
    · obtain rfl : ll = k := by omega
      have HP := Lib.hid (And.intro hok (And.intro hb hBlt))
      clear hok hb hBlt
      go_wp2_with (at_builtin; refine wpList_append_fits _ rfl _ _ 22 rfl w.heap.size 58 i0 8 Tryz.underlying22 hi hz1 w.heap.size ll (ll + 1) _ rfl (hown.alloc _) ⟨wr.heap.size, 0, none⟩ 1 1 spareV.cells rfl rfl new_cells (Tw.v_one _) (by omega) ?_)
      intro w2 hown2 hg2
      have HN := Lib.hid (TL.done hown2 HP.out.1 HP.out.2.1 HP.out.2.2 (grown_trans (World.grownBy_alloc _ _ _) hg2))
      clear hown2 hg2 hown hi hz0 hz1 hz2
      go_wp2_with fail
      go_ret
      exact ⟨L', rfl, HN.out.1, HN.out.2⟩
def TwinFIs (nm : ByteArray) (v : V) : Prop := ∀ w : World, v.In w → v.Fits → nm.size ≤ maxLen → Calls Tryz.prog 120 #[.agg (Value.string nm :: v.cells).toArray] w fun e w' => ∃ t : V, e = .returned (.agg (Value.string nm :: t.cells).toArray) ∧ NOk w.heap.size w' v t ∧ Below w.heap.size w w'
set_option maxRecDepth 100000 in
set_option maxHeartbeats 2000000 in
theorem twinFields_any (fa : Option Addr) (fl fc : Nat) (fn : Nat → ByteArray) (F : Nat → V) (hv : ∀ i, i < fl → TwinFIs (fn i) (F i)) (w : World) (_hlc : fl ≤ fc ∧ fc ≤ maxLen) (hf : fl * 128 ≤ 140737488351232) (hfs : ∀ i, i < fl → (F i).Fits)
    (h : ∀ i, i < fl → (∃ b o, fa = some ⟨b, o, none⟩ ∧ At w b (o + i * 9) (.string (fn i) :: (F i).cells)) ∧ (fn i).size ≤ maxLen ∧ (F i).In w) :
    Calls Tryz.prog 78 #[.slice fa fl fc] w fun e w' => ∃ F' : Nat → V, e = .returned (.slice (some ⟨w.heap.size, 0, none⟩) fl (fl + 1)) ∧ NF w.heap.size w' w.heap.size fl fn fn F F' ∧ Below w.heap.size w w' := by
  unfold maxLen at _hlc
  obtain ⟨i0, hi, hz0, hz1, hz2⟩ := info_parts Tw.info_fld
  have HI := Lib.hid (And.intro hi (And.intro hz0 (And.intro hz1 hz2)))
  clear hi hz0 hz1 hz2
  have H := Lib.hid h
  have H2 := Lib.hid hv
  have HF := Lib.hid hfs
  clear h hv hfs
  go_enter Tryz.func78, Tryz.ntmps78
  obtain ⟨hi, hz0, hz1, hz2⟩ := HI.out
  go_wp2_with (refine wpList_make_own _ rfl _ _ 55 rfl w.heap.size 108 i0 _ 9 Tryz.underlying55 hi hz0 hz1 _ _ _ (fl + 1) rfl rfl (by push_cast; rfl) (by rw [hz2]; omega) (by unfold maxLen; omega) (Nat.le_refl _) ?_)
  intro w0 hown0 hg0
  have hT0 : TF w fn F fl 0 w0 := ⟨F, hown0, KO.zero, (Below.refl _ _).grown hg0 (Nat.le_refl _) (fun k e => by cases e)⟩
  have HT0 := Lib.hid hT0
  clear hown0 hg0 hT0 hi hz0 hz1 hz2
  go_wp2_with fail
  go_loopw [3, 4] (fun t i wr => ∃ k : Nat, k ≤ fl ∧ i = .int .i64 k ∧ t = .slice (some ⟨w.heap.size, 0, none⟩) k (fl + 1) ∧ TF w fn F fl k wr) (fun _ i _ => fl - (intOf i).toNat)
  case atStart => exact ⟨0, Nat.zero_le _, rfl, rfl, HT0.out⟩
  case round =>
    obtain ⟨k, hk, rfl, rfl, F', hown, hok, hb⟩ := hrel
    have hBlt : w.heap.size < wr.heap.size := (hown.lt _ rfl).2
    obtain ⟨hi, hz0, hz1, hz2⟩ := HI.out
    by_cases hlt : k < fl
    · obtain ⟨⟨b, o, rfl, hat⟩, hsz, hin⟩ := H.out k hlt
      have HX := Lib.hid (H2.out k hlt wr (hin.below hb) (HF.out k hlt) hsz)
      have hat := hat.below hb
      have HP := Lib.hid (And.intro hown (And.intro hok (And.intro hb hBlt)))
      clear hown hok hb hBlt hsz
      have hin2 := hin
      generalize hLk : F k = v at HX hat hin2
      generalize hnk : fn k = nm at HX hat
      have HLk := Lib.hid (And.intro hLk hnk)
      clear hLk hnk
      cases v with
      | leaf => exact hin2.elim
      | mk k2 n2 s2 la2 ll2 lc2 L2 fa2 fl2 fc2 fn2 F2 e2 key2 hk2 =>
      obtain ⟨c0, c1, c2, c3, c4, c5, c6, c7, c8⟩ := at9 hat
      clear hat hin hin2
      have HX2 : Hid (Calls Tryz.prog 120 #[.agg #[.string nm, .int .u8 k2, .int .i64 n2, .string s2, .slice la2 ll2 lc2, .slice fa2 fl2 fc2, .int .u8 e2, .string key2, .bool hk2]] wr _) := HX.out
      clear HX
      go_wp2_with fail
      refine HX2.out.mono ?_
      rintro e w1 ⟨t, rfl, htk, hb1⟩
      have ht8 := htk.inn
      cases t with
      | leaf => exact ht8.elim
      | mk k3 n3 s3 la3 ll3 lc3 L3 fa3 fl3 fc3 fn3 F3 e3 key3 hk3 =>
      have HK := Lib.hid (And.intro htk hb1)
      have hown1 : w1.ownsRow w.heap.size 108 9 (.slice (some ⟨w.heap.size, 0, none⟩) k (fl + 1)) k (flatF k fn F') := ownsRow_below HP.out.1 hb1
      clear htk hb1 ht8 HX2 c0 c1 c2 c3 c4 c5 c6 c7 c8
      simp only [V.cells]
      go_wp2_with (at_builtin; refine wpList_append_fits _ rfl _ _ 55 rfl w.heap.size 108 i0 9 Tryz.underlying55 hi hz1 w.heap.size k (fl + 1) _ rfl (hown1.alloc _) ⟨w1.heap.size, 0, none⟩ 1 1 (Value.string nm :: (V.mk k3 n3 s3 la3 ll3 lc3 L3 fa3 fl3 fc3 fn3 F3 e3 key3 hk3).cells) rfl rfl new_cells (Tw.f_one _ _) (by omega) ?_)
      intro w2 hown2 hg2
      have HN := Lib.hid (TF.succ (fn := fn) (F := F) (k := k) (fl := fl) (t := V.mk k3 n3 s3 la3 ll3 lc3 L3 fa3 fl3 fc3 fn3 F3 e3 key3 hk3) (by rw [HLk.out.2]; exact hown2) HP.out.2.1 HP.out.2.2.1 HP.out.2.2.2 (by rw [HLk.out.1]; exact HK.out.1) HK.out.2 (grown_trans (World.grownBy_alloc _ _ _) hg2))
      clear hown2 hg2 hown1 hi hz0 hz1 hz2
      go_wp2_with fail
      go_roundw
      case rel => exact ⟨k + 1, by omega, by go_num, rfl, HN.out⟩
      case measure => simp [intOf]; omega
    · obtain rfl : fl = k := by omega
      have HP := Lib.hid (And.intro hok (And.intro hb hBlt))
      clear hok hb hBlt
      go_wp2_with (at_builtin; refine wpList_append_fits _ rfl _ _ 55 rfl w.heap.size 108 i0 9 Tryz.underlying55 hi hz1 w.heap.size fl (fl + 1) _ rfl (hown.alloc _) ⟨wr.heap.size, 0, none⟩ 1 1 spareF rfl rfl new_cells (Tw.f_one _ _) (by omega) ?_)
      intro w2 hown2 hg2
      have HN := Lib.hid (TF.done hown2 HP.out.1 HP.out.2.1 HP.out.2.2 (grown_trans (World.grownBy_alloc _ _ _) hg2))
      clear hown2 hg2 hown hi hz0 hz1 hz2
      go_wp2_with fail
      go_ret
      exact ⟨F', rfl, HN.out.1, HN.out.2⟩
set_option maxRecDepth 100000 in
set_option maxHeartbeats 4000000 in
theorem twinField_any (nm : ByteArray) (v : V) (hv : TwinIs v) : TwinFIs nm v := by
  intro w h hf _hn
  have OK0 := boxR w (.string nm :: v.cells) (.string ⟨#[]⟩ :: (vz 0 0 ⟨#[]⟩).cells) 108 108
  have CT := Lib.hid (fun W (hb : BoxR w (.string nm :: v.cells) 9 W) => (hv W (h.below hb.low) hf).mono (R' := fun e w' => ∃ t : V, e = .returned t.agg ∧ NOk (w.heap.size + 2) w' v t ∧ Below W.heap.size W w') (fun e w' ⟨t, h1, h2, h3⟩ => ⟨t, h1, h2.mono hb.big, h3⟩))
  cases v with
  | leaf => exact h.elim
  | mk k n s la ll lc L fa fl fc fn F e key hk =>
  clear hv h hf
  have KS := Lib.hid (fun W (h : BoxR w (.string nm :: (V.mk k n s la ll lc L fa fl fc fn F e key hk).cells) 9 W) => And.intro h (And.intro (at90 h.box) (And.intro (And.intro (rs_some (h.res 0 (by decide)).1.choose_spec) (And.intro (rs_some (h.res 1 (by decide)).1.choose_spec) (And.intro (rs_some (h.res 2 (by decide)).1.choose_spec) (And.intro (rs_some (h.res 3 (by decide)).1.choose_spec) (And.intro (rs_some (h.res 4 (by decide)).1.choose_spec) (And.intro (rs_some (h.res 5 (by decide)).1.choose_spec) (And.intro (rs_some (h.res 6 (by decide)).1.choose_spec) (And.intro (rs_some (h.res 7 (by decide)).1.choose_spec) (rs_some (h.res 8 (by decide)).1.choose_spec))))))))) (And.intro ((h.res 0 (by decide)).2) (And.intro ((h.res 1 (by decide)).2) (And.intro ((h.res 2 (by decide)).2) (And.intro ((h.res 3 (by decide)).2) (And.intro ((h.res 4 (by decide)).2) (And.intro ((h.res 5 (by decide)).2) (And.intro ((h.res 6 (by decide)).2) (And.intro ((h.res 7 (by decide)).2) ((h.res 8 (by decide)).2))))))))))))
  simp only [vz, V.cells] at OK0 ⊢
  have CT2 : Hid (∀ W, BoxR w (.string nm :: (V.mk k n s la ll lc L fa fl fc fn F e key hk).cells) 9 W → Calls Tryz.prog 15 #[.agg #[.int .u8 k, .int .i64 n, .string s, .slice la ll lc, .slice fa fl fc, .int .u8 e, .string key, .bool hk]] W _) := CT.out
  clear CT
  have OKH := Lib.hid OK0
  clear OK0
  go_enter Tryz.func120, Tryz.ntmps120
  go_wp2_with fail
  have OKu := OKH.out
  generalize (w.alloc (.cells #[.string nm, .int .u8 k, .int .i64 n, .string s, .slice la ll lc, .slice fa fl fc, .int .u8 e, .string key, .bool hk] 108)).alloc (.cells #[.string ⟨#[]⟩, .int .u8 0, .int .i64 0, .string ⟨#[]⟩, .slice none 0 0, .slice none 0 0, .int .u8 0, .string ⟨#[]⟩, .bool false] 108) = W0 at OKu ⊢
  have OK : BoxR w (.string nm :: (V.mk k n s la ll lc L fa fl fc fn F e key hk).cells) 9 W0 := OKu
  clear OKu
  go_region_held3 (fun W => BoxR w (.string nm :: (V.mk k n s la ll lc L fa fl fc fn F e key hk).cells) 9 W ∧
      (W.cell? ⟨w.heap.size, 0, none⟩ = some (.string nm) ∧ W.cell? ⟨w.heap.size, 1, none⟩ = some (.int .u8 k) ∧ W.cell? ⟨w.heap.size, 2, none⟩ = some (.int .i64 n) ∧ W.cell? ⟨w.heap.size, 3, none⟩ = some (.string s) ∧ W.cell? ⟨w.heap.size, 4, none⟩ = some (.slice la ll lc) ∧ W.cell? ⟨w.heap.size, 5, none⟩ = some (.slice fa fl fc) ∧ W.cell? ⟨w.heap.size, 6, none⟩ = some (.int .u8 e) ∧ W.cell? ⟨w.heap.size, 7, none⟩ = some (.string key) ∧ W.cell? ⟨w.heap.size, 8, none⟩ = some (.bool hk)) ∧
      (W.cell? ⟨w.heap.size + 1, 0, none⟩ = some (rs W (w.heap.size + 1) 0) ∧ W.cell? ⟨w.heap.size + 1, 1, none⟩ = some (rs W (w.heap.size + 1) 1) ∧ W.cell? ⟨w.heap.size + 1, 2, none⟩ = some (rs W (w.heap.size + 1) 2) ∧ W.cell? ⟨w.heap.size + 1, 3, none⟩ = some (rs W (w.heap.size + 1) 3) ∧ W.cell? ⟨w.heap.size + 1, 4, none⟩ = some (rs W (w.heap.size + 1) 4) ∧ W.cell? ⟨w.heap.size + 1, 5, none⟩ = some (rs W (w.heap.size + 1) 5) ∧ W.cell? ⟨w.heap.size + 1, 6, none⟩ = some (rs W (w.heap.size + 1) 6) ∧ W.cell? ⟨w.heap.size + 1, 7, none⟩ = some (rs W (w.heap.size + 1) 7) ∧ W.cell? ⟨w.heap.size + 1, 8, none⟩ = some (rs W (w.heap.size + 1) 8)) ∧
      (W.frozen? ⟨w.heap.size + 1, 0, none⟩ = false ∧ W.frozen? ⟨w.heap.size + 1, 1, none⟩ = false ∧ W.frozen? ⟨w.heap.size + 1, 2, none⟩ = false ∧ W.frozen? ⟨w.heap.size + 1, 3, none⟩ = false ∧ W.frozen? ⟨w.heap.size + 1, 4, none⟩ = false ∧ W.frozen? ⟨w.heap.size + 1, 5, none⟩ = false ∧ W.frozen? ⟨w.heap.size + 1, 6, none⟩ = false ∧ W.frozen? ⟨w.heap.size + 1, 7, none⟩ = false ∧ W.frozen? ⟨w.heap.size + 1, 8, none⟩ = false))
    (first | (refine KS.out _ ?_; ((with_reducible refine BoxR.set ?_ _ _); (repeat' (with_reducible refine BoxR.set ?_ _ _)); go_split_ands; with_reducible assumption)) | (refine KS.out _ (BoxR.below (W := W0) OK ?_); with_reducible exact (Below.refl _ _).drew) | (refine KS.out _ (BoxR.below ?_ (by with_reducible assumption)); go_split_ands; with_reducible assumption))
    ((go_at_call 15; refine (CT2.out _ ?_).mono ?_; (go_split_ands; assumption); rintro x w1 ⟨t, rfl, htk, hb1⟩; have ht8 := htk.inn; rcases t with _ | ⟨k3, n3, s3, la3, ll3, lc3, L3, fa3, fl3, fc3, fn3, F3, e3, key3, hk3⟩; (exact ht8.elim); simp only [V.agg, V.cells]))
  go_wp2_with fail
  rename_i hS
  have HS := Lib.hid hS.1
  clear hS
  have OK1 := (OK.below (Below.refl _ _).drew).below hb1
  obtain ⟨-, -, ⟨d0, d1, d2, d3, d4, d5, d6, d7, d8⟩, -⟩ := KS.out _ OK1
  have HK := Lib.hid (And.intro htk OK1)
  clear OK1 htk hb1 ht8 OK KS CT2
  refine bodyPost_ret (v := .agg #[.string nm, .int .u8 k3, .int .i64 n3, .string s3, .slice la3 ll3 lc3, .slice fa3 fl3 fc3, .int .u8 e3, .string key3, .bool hk3]) (by simp [results, Tryz.results120, go_sem, d0, d1, d2, d3, d4, d5, d6, d7, d8]) rfl ⟨.mk k3 n3 s3 la3 ll3 lc3 L3 fa3 fl3 fc3 fn3 F3 e3 key3 hk3, rfl, ?_, HS.out.low⟩
  refine NOk.mono (base := w.heap.size + 2) (by omega) ?_
  iterate 9 (with_reducible refine NOk.set ?_ _ _)
  exact HK.out.1
set_option maxRecDepth 100000 in
set_option maxHeartbeats 4000000 in
theorem twinValue_any : ∀ v : V, TwinIs v := by
  intro v
  induction v with
  | leaf => exact fun w h => h.elim
  | mk k n s la ll lc L fa fl fc fn F e key hk ihL ihF =>
  intro w h hf
  obtain ⟨hk1, hn1, hs1, he1, hkey1, hl1, hf1, hL, hF⟩ := h
  obtain ⟨z1, z2, fL, fF⟩ := hf
  have OK0 := boxR w (V.mk k n s la ll lc L fa fl fc fn F e key hk).cells (vz 0 0 ⟨#[]⟩).cells 58 58
  have CL := Lib.hid (fun W (hb : BoxR w (V.mk k n s la ll lc L fa fl fc fn F e key hk).cells 8 W) => (twinValues_any la ll lc L (fun i _ => ihL i) W hl1 z1 fL (fun i hi => ⟨let ⟨b, o, e1, ha⟩ := (hL i hi).1; ⟨b, o, e1, ha.below hb.low⟩, (hL i hi).2.below hb.low⟩)).mono
    (R' := fun e w' => ∃ L' : Nat → V, e = .returned (.slice (some ⟨W.heap.size, 0, none⟩) ll (ll + 1)) ∧ NL (w.heap.size + 2) w' W.heap.size ll L L' ∧ Below W.heap.size W w') (fun e w' ⟨t, h1, h2, h3⟩ => ⟨t, h1, h2.mono hb.big, h3⟩))
  have CF := Lib.hid (fun W (hb : BoxR w (V.mk k n s la ll lc L fa fl fc fn F e key hk).cells 8 W) => (twinFields_any fa fl fc fn F (fun i _ => twinField_any _ _ (ihF i)) W hf1 z2 fF (fun i hi => ⟨let ⟨b, o, e1, ha⟩ := (hF i hi).1; ⟨b, o, e1, ha.below hb.low⟩, (hF i hi).2.1, (hF i hi).2.2.below hb.low⟩)).mono
    (R' := fun e w' => ∃ F' : Nat → V, e = .returned (.slice (some ⟨W.heap.size, 0, none⟩) fl (fl + 1)) ∧ NF (w.heap.size + 2) w' W.heap.size fl fn fn F F' ∧ Below W.heap.size W w') (fun e w' ⟨t, h1, h2, h3⟩ => ⟨t, h1, h2.mono hb.big, h3⟩))
  have HT := Lib.hid (fun Wf W g L' F' (h1 : NL (w.heap.size + 2) Wf g ll L L') (hb : Below Wf.heap.size Wf W) (h2 : NF (w.heap.size + 2) W Wf.heap.size fl fn fn F F') => tok_mk (la := la) (lc := lc) (fa := fa) (fc := fc) (hk := hk) ⟨hk1, hn1, hs1, he1, hkey1⟩ ⟨z1, z2⟩ (fun i hi => (hF i hi).2.1) h1 hb h2)
  clear hk1 hn1 hs1 he1 hkey1 hl1 hf1 hL hF z1 z2 fL fF ihL ihF
  have KS := Lib.hid (fun W (h : BoxR w (V.mk k n s la ll lc L fa fl fc fn F e key hk).cells 8 W) => And.intro h (And.intro (at80 h.box) (And.intro (And.intro (rs_some (h.res 0 (by decide)).1.choose_spec) (And.intro (rs_some (h.res 1 (by decide)).1.choose_spec) (And.intro (rs_some (h.res 2 (by decide)).1.choose_spec) (And.intro (rs_some (h.res 3 (by decide)).1.choose_spec) (And.intro (rs_some (h.res 4 (by decide)).1.choose_spec) (And.intro (rs_some (h.res 5 (by decide)).1.choose_spec) (And.intro (rs_some (h.res 6 (by decide)).1.choose_spec) (rs_some (h.res 7 (by decide)).1.choose_spec)))))))) (And.intro ((h.res 0 (by decide)).2) (And.intro ((h.res 1 (by decide)).2) (And.intro ((h.res 2 (by decide)).2) (And.intro ((h.res 3 (by decide)).2) (And.intro ((h.res 4 (by decide)).2) (And.intro ((h.res 5 (by decide)).2) (And.intro ((h.res 6 (by decide)).2) ((h.res 7 (by decide)).2)))))))))))
  simp only [V.agg, vz, V.cells] at OK0 ⊢
  have OKH := Lib.hid OK0
  clear OK0
  go_enter Tryz.func15, Tryz.ntmps15
  go_wp2_with fail
  have OKu := OKH.out
  generalize (w.alloc (.cells #[.int .u8 k, .int .i64 n, .string s, .slice la ll lc, .slice fa fl fc, .int .u8 e, .string key, .bool hk] 58)).alloc (.cells #[.int .u8 0, .int .i64 0, .string ⟨#[]⟩, .slice none 0 0, .slice none 0 0, .int .u8 0, .string ⟨#[]⟩, .bool false] 58) = W0 at OKu ⊢
  have OK : BoxR w (V.mk k n s la ll lc L fa fl fc fn F e key hk).cells 8 W0 := OKu
  clear OKu
  go_region_held3 (fun W => BoxR w (V.mk k n s la ll lc L fa fl fc fn F e key hk).cells 8 W ∧
      (W.cell? ⟨w.heap.size, 0, none⟩ = some (.int .u8 k) ∧ W.cell? ⟨w.heap.size, 1, none⟩ = some (.int .i64 n) ∧ W.cell? ⟨w.heap.size, 2, none⟩ = some (.string s) ∧ W.cell? ⟨w.heap.size, 3, none⟩ = some (.slice la ll lc) ∧ W.cell? ⟨w.heap.size, 4, none⟩ = some (.slice fa fl fc) ∧ W.cell? ⟨w.heap.size, 5, none⟩ = some (.int .u8 e) ∧ W.cell? ⟨w.heap.size, 6, none⟩ = some (.string key) ∧ W.cell? ⟨w.heap.size, 7, none⟩ = some (.bool hk)) ∧
      (W.cell? ⟨w.heap.size + 1, 0, none⟩ = some (rs W (w.heap.size + 1) 0) ∧ W.cell? ⟨w.heap.size + 1, 1, none⟩ = some (rs W (w.heap.size + 1) 1) ∧ W.cell? ⟨w.heap.size + 1, 2, none⟩ = some (rs W (w.heap.size + 1) 2) ∧ W.cell? ⟨w.heap.size + 1, 3, none⟩ = some (rs W (w.heap.size + 1) 3) ∧ W.cell? ⟨w.heap.size + 1, 4, none⟩ = some (rs W (w.heap.size + 1) 4) ∧ W.cell? ⟨w.heap.size + 1, 5, none⟩ = some (rs W (w.heap.size + 1) 5) ∧ W.cell? ⟨w.heap.size + 1, 6, none⟩ = some (rs W (w.heap.size + 1) 6) ∧ W.cell? ⟨w.heap.size + 1, 7, none⟩ = some (rs W (w.heap.size + 1) 7)) ∧
      (W.frozen? ⟨w.heap.size + 1, 0, none⟩ = false ∧ W.frozen? ⟨w.heap.size + 1, 1, none⟩ = false ∧ W.frozen? ⟨w.heap.size + 1, 2, none⟩ = false ∧ W.frozen? ⟨w.heap.size + 1, 3, none⟩ = false ∧ W.frozen? ⟨w.heap.size + 1, 4, none⟩ = false ∧ W.frozen? ⟨w.heap.size + 1, 5, none⟩ = false ∧ W.frozen? ⟨w.heap.size + 1, 6, none⟩ = false ∧ W.frozen? ⟨w.heap.size + 1, 7, none⟩ = false))
    (first | (refine KS.out _ ?_; ((with_reducible refine BoxR.set ?_ _ _); (repeat' (with_reducible refine BoxR.set ?_ _ _)); go_split_ands; with_reducible assumption)) | (refine KS.out _ (BoxR.below (W := W0) OK ?_); with_reducible exact (Below.refl _ _).drew) | (refine KS.out _ (BoxR.below ?_ (by with_reducible assumption)); go_split_ands; with_reducible assumption))
    (first
      | (go_at_call 6; refine (CL.out _ ?_).mono ?_; (go_split_ands; assumption); rintro x w1 ⟨L', rfl, hl1, hbl⟩)
      | (go_at_call 78; refine (CF.out _ ?_).mono ?_; (go_split_ands; assumption); rintro x w1 ⟨F', rfl, hf1, hbf⟩))
  go_wp2_with fail
  rename_i hS
  have HS := Lib.hid hS.1
  clear hS
  have OK1 := ((OK.below (Below.refl _ _).drew).below hbl).below hbf
  obtain ⟨-, -, ⟨d0, d1, d2, d3, d4, d5, d6, d7⟩, -⟩ := KS.out _ OK1
  have HK := Lib.hid (HT.out _ _ _ _ _ hl1 hbf hf1)
  clear OK1 hl1 hf1 hbl hbf OK KS CL CF HT
  refine bodyPost_ret (v := .agg #[.int .u8 k, .int .i64 n, .string s, .slice (some ⟨_, 0, none⟩) ll (ll + 1), .slice (some ⟨_, 0, none⟩) fl (fl + 1), .int .u8 e, .string key, .bool hk]) (by simp [results, Tryz.results15, go_sem, d0, d1, d2, d3, d4, d5, d6, d7]; exact ⟨rfl, rfl⟩) rfl ⟨.mk k n s (some ⟨_, 0, none⟩) ll (ll + 1) L' (some ⟨_, 0, none⟩) fl (fl + 1) fn F' e key hk, rfl, ?_, HS.out.low⟩
  refine NOk.mono (base := w.heap.size + 2) (by omega) ?_
  iterate 8 (with_reducible refine NOk.set ?_ _ _)
  exact HK.out
end Go.Proofs.YtnmindcofdcncaaGreatDoor.Two
