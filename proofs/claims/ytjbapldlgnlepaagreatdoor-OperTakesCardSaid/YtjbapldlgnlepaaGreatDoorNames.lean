/-
  Walks: Names of package oper: the thirteen names, sorted, in a row of the call's own.
  Conditions: none.
-/
import Derived.Test.YtjbapldlgnlepaaGreatDoorOpFind
import Derived.Test.YtjbapldlgnlepaaGreatDoorShelf
import Derived.Sort.OwnSorted
namespace Go.Proofs.YtjbapldlgnlepaaGreatDoor
open Go.RowKit Go.Deep Go.WideShapes
open Go.Sort hiding Below

theorem info_str : (Tryz.prog.info? 9).map (fun i => (i.zero, i.size, i.bytes)) = some (some (.string ⟨#[]⟩), 1, 16) := by kernel_rfl
theorem str_parts {o : Option TypeInfo} (h : o.map (fun i => (i.zero, i.size, i.bytes)) = some (some (.string ⟨#[]⟩), 1, 16)) : ∃ i, o = some i ∧ i.zero = some (.string ⟨#[]⟩) ∧ i.size = 1 ∧ i.bytes = 16 := by
  cases o with
  | none => cases h
  | some i =>
    simp only [Option.map_some, Option.some.injEq, Prod.mk.injEq] at h
    exact ⟨i, rfl, h.1, h.2.1, h.2.2⟩

def nmB (k : Nat) : List UInt8 := (opName k).data.toList
def nmsTo : Nat → List (List UInt8)
  | 0 => []
  | k + 1 => nmsTo k ++ [nmB k]
/-- The names, rising. -/
def srtN : Nat → Nat
  | 0 => 0 | 1 => 8 | 2 => 6 | 3 => 4 | 4 => 9 | 5 => 7 | 6 => 10 | 7 => 3 | 8 => 2 | 9 => 5 | 10 => 11 | 11 => 1 | _ => 12
def srtL : List (List UInt8) := (List.range 13).map fun i => nmB (srtN i)
theorem sorted_names : ((nmsTo 13).mergeSort fun x y => decide (x ≤ y)) = srtL := by
  simp [nmsTo, nmB, opName, srtL, srtN, List.mergeSort, List.MergeSort.Internal.splitInTwo, List.range, List.range.loop, List.cons_le_cons_iff]

theorem encStr_data (b : ByteArray) : encStr b.data.toList = .string b := by
  cases b
  simp [encStr]

theorem newS_cells {w : World} {cs : List Value} {T : TypeId} : ∀ j u, cs[j]? = some u → (w.alloc (.cells cs.toArray T)).cell? ((⟨w.heap.size, 0, none⟩ : Addr).add j) = some u := by
  intro j u hu
  have : ((⟨w.heap.size, 0, none⟩ : Addr).add j) = ⟨w.heap.size, j, none⟩ := by simpa using add_plain w.heap.size 0 j
  rw [this]
  have h0 := at_new (w := w) (w' := w.alloc (.cells cs.toArray T)) (cs := cs) (T := T) rfl (Below.refl _ _)
  have hj : j < cs.length := (List.getElem?_eq_some_iff.1 hu).1
  have := h0 j hj
  rw [Nat.zero_add] at this
  rw [this, List.getElem?_eq_getElem hj, ← hu, List.getElem?_eq_getElem hj]
theorem grownS_trans {a b c : World} {row : Option Nat} (h : a.grownBy b row) (k : b.grownBy c row) : a.grownBy c row :=
  ⟨k.os.trans h.os, k.tape.trans h.tape, k.output.trans h.output, Nat.le_trans h.size k.size, fun i hi hne => (k.block i (Nat.lt_of_lt_of_le hi h.size) hne).trans (h.block i hi hne)⟩

/-- Texts in a row of the call's own. -/
structure SL (w0 : World) (ss : List (List UInt8)) (v : Value) (n : Nat) (W : World) : Prop where
  len : n = ss.length
  own : W.ownsRow w0.heap.size 9 1 v n (ss.map encStr)
  low : Below w0.heap.size w0 W
theorem SL.start (w : World) : SL w [] (.slice none 0 0) 0 w := ⟨rfl, World.ownsRow_nil _ _ _ _, Below.refl _ _⟩
theorem SL.alloc {w0 W : World} {ss : List (List UInt8)} {v : Value} {n : Nat} (h : SL w0 ss v n W) (O : Obj) : SL w0 ss v n (W.alloc O) := ⟨h.len, h.own.alloc _, h.low.alloc h.low.size O⟩
theorem strs_one {l : List (List UInt8)} : ∀ u ∈ l.map encStr, u.oneCell' = true := by
  intro u hu
  obtain ⟨_, _, rfl⟩ := List.mem_map.1 hu
  rfl
theorem append_S {w0 : World} {ss : List (List UInt8)} {v : Value} {n : Nat} {W : World} {ops : Array Oper} {rest : List Oper} {o : Oper} {a : Act} {Q : Exit → Act → World → Prop} (h : SL w0 ss v n W) (hgd : o.guard = none) (s x : Operand)
    (ho : o.op = .call { callee := .builtin .append, args := #[s, x], argTypes := #[24, 24] }) (hs : a.eval s = v) (b : ByteArray) (T : TypeId) (hx : a.eval x = .slice (some ⟨W.heap.size, 0, none⟩) 1 1) (hb : n ≤ 1000)
    (hr : ∀ g cap W', SL w0 (ss ++ [b.data.toList]) (.slice (some ⟨g, 0, none⟩) (n + 1) cap) (n + 1) W' → wpList Tryz.prog ops Q rest (a.put o.dst (.slice (some ⟨g, 0, none⟩) (n + 1) cap)) W') : wpList Tryz.prog ops Q (o :: rest) a (W.alloc (.cells #[.string b] T)) := by
  obtain ⟨i0, hi, hz0, hz1, hz2⟩ := str_parts info_str
  have hnew : ∀ j u, ([b.data.toList].map encStr)[j]? = some u → (W.alloc (.cells #[.string b] T)).cell? ((⟨W.heap.size, 0, none⟩ : Addr).add j) = some u := by
    intro j u hu
    have : ([b.data.toList].map encStr).toArray = #[.string b] := by simp [encStr_data]
    rw [← this]
    exact newS_cells j u hu
  refine wpList_append_own _ hgd s x _ ho w0.heap.size 9 i0 (.string ⟨#[]⟩) 1 16 Tryz.underlying24 hi hz0 hz1 hz2 rfl (by decide) v n _ hs (h.own.alloc _) ⟨W.heap.size, 0, none⟩ 1 1 ([b.data.toList].map encStr) hx rfl hnew strs_one (by unfold maxLen; omega) (by omega) (by have := h.low.size; simp; omega) ?_
  intro v' w' hown hgrow _
  have hg2 : W.grownBy w' v.ownBlock := grownS_trans (World.grownBy_alloc W _ _) hgrow
  have hlow := h.low.grown hg2 h.low.size (fun k e => by have := (h.own.lt _ e).1; omega)
  rcases hown.2 with ⟨_, h0⟩ | ⟨g, cap, cur, e, _⟩
  · omega
  · subst e
    refine hr g cap w' ⟨by rw [h.len, List.length_append]; rfl, ?_, hlow⟩
    rw [List.map_append]
    exact hown

theorem sort_names {w1 wr : World} {g cap : Nat} (h : SL w1 (nmsTo 13) (.slice (some ⟨g, 0, none⟩) 13 cap) 13 wr) :
    Calls Tryz.prog 20 #[.slice (some ⟨g, 0, none⟩) 13 cap] wr fun e w' => e = .returned (.tuple #[]) ∧ w'.ownsRow w1.heap.size 9 1 (.slice (some ⟨g, 0, none⟩) 13 cap) 13 (srtL.map encStr) ∧ Below w1.heap.size wr w' := by
  rcases h.own.2 with ⟨h0, -⟩ | ⟨g', cap', cur, hv, hbase, hb, h1, h2, h3, h4⟩
  · cases h0
  cases hv
  have hl : (nmsTo 13).length = 13 := h.len.symm
  have key := Tryz.slices_Sort_string g 0 cap (nmsTo 13) wr (holds_of_block hb (by rw [hl]; simpa using h4)) (Array.getElem?_eq_some_iff.1 hb).1 (by rw [hl]; decide)
  rw [hl, sorted_names] at key
  refine key.mono fun e w' ⟨he, n, os, hw⟩ => ⟨he, ?_, ?_⟩
  · rw [hw]
    exact ownsRow_sorted (n := n) (os := os) (ss := nmsTo 13) (ts := srtL) rfl hbase hb (by rw [hl]; exact h1) h2 h3
  · rw [hw]
    exact (Below.refl w1.heap.size wr).grown (grownBy_sorted _) h.low.size (fun j hj => by cases hj; exact hbase)

theorem own_mono {W : World} {b b' n sz : Nat} {T : TypeId} {v : Value} {xs : List Value} (hb : b ≤ b') (h : W.ownsRow b' T sz v n xs) : W.ownsRow b T sz v n xs := by
  refine ⟨h.1, ?_⟩
  rcases h.2 with h0 | ⟨g, cap, cur, e, hbase, rest⟩
  · exact .inl h0
  · exact .inr ⟨g, cap, cur, e, Nat.le_trans hb hbase, rest⟩

/-- What Names answers. -/
def NamesPost (w : World) (e : Ending) (w' : World) : Prop := ∃ g cap, e = .returned (.slice (some ⟨g, 0, none⟩) 13 cap) ∧ w'.ownsRow w.heap.size 9 1 (.slice (some ⟨g, 0, none⟩) 13 cap) 13 (srtL.map encStr) ∧ Below w.heap.size w w'

set_option maxRecDepth 100000 in
set_option maxHeartbeats 2000000 in
theorem names_any (w : World) : Calls Tryz.prog 7 #[] w (NamesPost w) := by
  have HRW := Lib.hid (rows_any w)
  go_enter Tryz.func7, Tryz.ntmps7
  go_wp2_with (go_at_call 19; (with_reducible refine (HRW.out).mono ?_); rintro x w1 ⟨rfl, h1, h2⟩)
  have HW := Lib.hid (And.intro h1 h2)
  clear h1 h2 HRW
  go_loopw [1, 6] (fun v i wr => ∃ k : Nat, i = .int .i64 k ∧ k ≤ 13 ∧ SL w1 (nmsTo k) v k wr) (fun _ i _ => 13 - (intOf i).toNat)
  case atStart => exact ⟨0, rfl, by omega, SL.start _⟩
  case round =>
    obtain ⟨k, rfl, hk, hsl⟩ := hrel
    have HS := Lib.hid hsl
    clear hsl
    by_cases hlt : k < 13
    · have hlt' : (k : Int) < 13 := by omega
      have hk0 : (0 : Int) ≤ (k : Int) := by omega
      have hat := (HW.out.1.below HS.out.low) k hlt
      obtain ⟨nm, hnm⟩ : ∃ nm, opName k = nm := ⟨_, rfl⟩
      obtain ⟨x, hx⟩ : ∃ x, opLeast k = x := ⟨_, rfl⟩
      obtain ⟨y, hy⟩ : ∃ y, opMost k = y := ⟨_, rfl⟩
      obtain ⟨f, hf⟩ : ∃ f, opFn k = f := ⟨_, rfl⟩
      have hro : rowOf k = rowCells nm x y f := by rw [rowOf, hnm, hx, hy, hf]
      rw [hro] at hat
      have HNM : Hid (nmsTo (k + 1) = nmsTo k ++ [nm.data.toList]) := by rw [← hnm]; rfl
      clear hnm hx hy hf hro
      obtain ⟨c0, c1, c2, c3⟩ := at4 hat
      clear hat
      have HBX := Lib.hid (And.intro (HS.out.alloc (.cells #[.string nm, .int .i64 x, .int .i64 y, .func (Fn.func f) #[] #[]] 63)) (at_new (w := wr) (cs := rowCells nm x y f) (T := 63) rfl (Below.refl _ _)))
      go_upto_region 5 with fail
      simp only [rowCells] at HBX
      revert HBX
      generalize wr.alloc (.cells #[.string nm, .int .i64 x, .int .i64 y, .func (Fn.func f) #[] #[]] 63) = W1
      generalize wr.heap.size = bb
      intro HBX
      clear c0 c1 c2 c3 HS
      have HSL := Lib.hid HBX.out.1
      obtain ⟨c0, c1, c2, c3⟩ := at4' HBX.out.2
      clear HBX
      go_wp2_with (at_builtin; refine append_S HSL.out rfl _ _ rfl rfl nm _ rfl (by omega) ?_; intro g cap w2 hsl2; have HSL2 := Lib.hid hsl2; clear hsl2)
      go_roundw
      case rel => exact ⟨k + 1, by go_num, by omega, by rw [HNM.out]; exact HSL2.out⟩
      case measure => simp [intOf]; omega
    · obtain rfl : k = 13 := by omega
      have hv : ∃ g cap, u1 = .slice (some ⟨g, 0, none⟩) 13 cap := by
        rcases HS.out.own.2 with ⟨-, h0⟩ | ⟨g, cap, cur, h0, -⟩
        · cases h0
        · exact ⟨g, cap, h0⟩
      obtain ⟨g, cap, rfl⟩ := hv
      have HX := Lib.hid (sort_names HS.out)
      go_wp2_with (go_at_call 20; (with_reducible refine (HX.out).mono ?_); rintro x w2 ⟨rfl, h1, h2⟩)
      have hlow := HW.out.2.trans ((HS.out.low.trans h2).mono HW.out.2.size)
      go_ret
      exact ⟨g, cap, rfl, own_mono HW.out.2.size h1, hlow⟩
end Go.Proofs.YtjbapldlgnlepaaGreatDoor
