/-
  Bytes of the call's own, appended to; as a text.
  Conditions: at most 2^46 bytes.
-/
import Derived.Test.YtpnbnomaaeoemaaGreatDoorLexS
import Derived.Lib.Slices
import Derived.Lib.Strings
import Derived.Lib.BufferRead
namespace Go.Proofs.YtpnbnomaaeoemaaGreatDoor
open Go.RowKit

theorem new_cells {w : World} {cs : List Value} {T : TypeId} : ∀ j u, cs[j]? = some u → (w.alloc (.cells cs.toArray T)).cell? ((⟨w.heap.size, 0, none⟩ : Addr).add j) = some u := by
  intro j u hu
  have e : ((⟨w.heap.size, 0, none⟩ : Addr).add j) = ⟨w.heap.size, j, none⟩ := by
    simp only [Addr.add]
    split <;> simp_all
  rw [e, Lib.cell_of_heap (heap_alloc_new w _)]
  simpa using hu
theorem grown_trans {a b c : World} {row : Option Nat} (h : a.grownBy b row) (k : b.grownBy c row) : a.grownBy c row :=
  ⟨k.os.trans h.os, k.tape.trans h.tape, k.output.trans h.output, Nat.le_trans h.size k.size, fun i hi hne => (k.block i (Nat.lt_of_lt_of_le hi h.size) hne).trans (h.block i hi hne)⟩
theorem info_u8 : (Tryz.prog.info? 5).map (fun i => (i.zero, i.size, i.bytes)) = some (some (.int .u8 0), 1, 1) := by kernel_rfl

/-- Bytes of the call's own, so far. -/
structure BL (w0 : World) (l : List UInt8) (v : Value) (n : Nat) (W : World) : Prop where
  len : n = l.length
  own : W.ownsRow w0.heap.size 5 1 v n (Lib.byteCells l)
  low : Below w0.heap.size w0 W

theorem BL.start (w : World) : BL w [] (.slice none 0 0) 0 w := ⟨rfl, World.ownsRow_nil _ _ _ _, Below.refl _ _⟩

theorem bytes_one {l : List UInt8} : ∀ u ∈ Lib.byteCells l, u.oneCell' = true := by
  intro u hu
  obtain ⟨_, _, rfl⟩ := List.mem_map.1 hu
  rfl

theorem append_B {w0 : World} {l : List UInt8} {v : Value} {n : Nat} {W : World} {ops : Array Oper} {rest : List Oper} {o : Oper} {a : Act} {Q : Exit → Act → World → Prop} (h : BL w0 l v n W) (hgd : o.guard = none) (s x : Operand)
    (ho : o.op = .call { callee := .builtin .append, args := #[s, x], argTypes := #[230, 230] }) (hs : a.eval s = v) (r : List UInt8) (m : Nat) (cs : List Value) (T : TypeId) (hx : a.eval x = .slice (some ⟨W.heap.size, 0, none⟩) m m)
    (hm : m = r.length) (hm0 : 0 < m) (hcs : cs = Lib.byteCells r) (hb : n + m ≤ 70368744177664)
    (hr : ∀ g cap W', BL w0 (l ++ r) (.slice (some ⟨g, 0, none⟩) (n + m) cap) (n + m) W' → wpList Tryz.prog ops Q rest (a.put o.dst (.slice (some ⟨g, 0, none⟩) (n + m) cap)) W') : wpList Tryz.prog ops Q (o :: rest) a (W.alloc (.cells cs.toArray T)) := by
  subst hcs hm
  obtain ⟨i0, hi, hz0, hz1, hz2⟩ := info_parts info_u8
  have hnew : ∀ j u, (Lib.byteCells r)[j]? = some u → (W.alloc (.cells (Lib.byteCells r).toArray T)).cell? ((⟨W.heap.size, 0, none⟩ : Addr).add j) = some u := new_cells
  refine wpList_append_own _ hgd s x _ ho w0.heap.size 5 i0 (.int .u8 0) 1 1 Tryz.underlying230 hi hz0 hz1 hz2 rfl (by decide) v n _ hs (h.own.alloc _) ⟨W.heap.size, 0, none⟩ r.length r.length (Lib.byteCells r) hx (by rw [Lib.byteCells_length, Nat.mul_one]) hnew bytes_one (by unfold maxLen; omega) (by omega) (by have := h.low.size; simp; omega) ?_
  intro v' w' hown hgrow _
  have hg2 : W.grownBy w' v.ownBlock := grown_trans (World.grownBy_alloc W _ _) hgrow
  have hlow := h.low.grown hg2 h.low.size (fun k e => by have := (h.own.lt _ e).1; omega)
  rcases hown.2 with ⟨_, h0⟩ | ⟨g, cap, cur, e, _⟩
  · omega
  · subst e
    refine hr g cap w' ⟨by rw [h.len, List.length_append], ?_, hlow⟩
    rw [Lib.byteCells_append]
    exact hown

theorem conv_B {w0 : World} {l : List UInt8} {g n cap : Nat} {W : World} (h : BL w0 l (.slice (some ⟨g, 0, none⟩) n cap) n W) :
    (convert 230 9 (.slice (some ⟨g, 0, none⟩) n cap)).run Tryz.prog W = .ok (.string ⟨l.toArray⟩) W := by
  have hl := h.len
  subst hl
  refine run_convert_bytes_back W 230 9 5 ⟨g, 0, none⟩ cap l Tryz.underlying230 Tryz.underlying5 Tryz.underlying9 (fun j hj => ?_)
  have := h.own.cells (g := g) rfl j (.int .u8 (l[j].toNat : Int)) (by simp [Lib.byteCells, hj])
  exact this

theorem conv_any {w0 : World} {l : List UInt8} {v : Value} {n : Nat} {W : World} (h : BL w0 l v n W) :
    (convert 230 9 v).run Tryz.prog W = .ok (.string ⟨l.toArray⟩) W := by
  rcases h.own.2 with ⟨hv, h0⟩ | ⟨g, cap, cur, hv, -⟩
  · subst hv
    have : l = [] := List.eq_nil_of_length_eq_zero (by rw [← h.len]; exact h0)
    subst this
    exact Lib.run_convert_nil_bytes W _ _ _ 0 Tryz.underlying230 Tryz.underlying5 Tryz.underlying9
  · subst hv
    exact conv_B h
end Go.Proofs.YtpnbnomaaeoemaaGreatDoor
