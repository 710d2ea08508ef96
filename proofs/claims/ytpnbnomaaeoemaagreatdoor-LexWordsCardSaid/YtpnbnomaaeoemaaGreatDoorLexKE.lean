/-
  Walks: keepWord puts a list of words into the book.
  Conditions: the book holds lists of words alone; all lies in blocks of the call's own.
-/
import Derived.Test.YtpnbnomaaeoemaaGreatDoorLexKC
namespace Go.Proofs.YtpnbnomaaeoemaaGreatDoor
open Go.RowKit

theorem info_held : (Tryz.prog.info? 114).map (fun i => (i.zero, i.size, i.bytes)) = some (some (.agg #[.slice none 0 0, .slice none 0 0, .int .i64 0]), 3, 56) := by kernel_rfl
def flatH (S : Nat → Value) (N : Nat → Int) : Nat → List Value
  | 0 => []
  | k + 1 => flatH S N k ++ [S k, .slice none 0 0, .int .i64 (N k)]
theorem flatH_length (S : Nat → Value) (N : Nat → Int) : ∀ k, (flatH S N k).length = k * 3
  | 0 => rfl
  | k + 1 => by rw [flatH, List.length_append, flatH_length S N k]; simp; omega

/-- The book, in the making: m lists of words. -/
structure BK (w0 : World) (B m : Nat) (S : Nat → Value) (N : Nat → Int) (n : Int) (v : Value) (W : World) : Prop where
  low : Below B w0 W
  num : W.cell? ⟨B, 0, none⟩ = some (.int .i64 n)
  fld : W.cell? ⟨B, 5, none⟩ = some v
  oth : ∀ j, j < 17 → j ≠ 0 → j ≠ 5 → W.cell? ⟨B, j, none⟩ = some (.slice none 0 0)
  frz : ∀ j, W.frozen? ⟨B, j, none⟩ = false
  own : W.ownsRow (B + 1) 114 3 v m (flatH S N m)
section
variable {w0 W W' : World} {B m : Nat} {S : Nat → Value} {N : Nat → Int} {n : Int} {v : Value}
theorem BK.lt (h : BK w0 B m S N n v W) : B < W.heap.size := World.block_lt_of_cell? _ _ h.num
theorem BK.below (h : BK w0 B m S N n v W) (hl : Below W.heap.size W W') : BK w0 B m S N n v W' := by
  have hc : ∀ {j : Nat} {u : Value}, W.cell? ⟨B, j, none⟩ = some u → W'.cell? ⟨B, j, none⟩ = some u := fun e => by rw [hl.cell (World.block_lt_of_cell? _ _ e), e]
  exact ⟨h.low.trans (hl.mono (Nat.le_of_lt h.lt)), hc h.num, hc h.fld, fun j a b c => hc (h.oth j a b c), fun j => by rw [hl.frozen (p := ⟨B, j, none⟩) h.lt]; exact h.frz j, ownsRow_below h.own hl⟩
/-- The book's number rises. -/
theorem BK.count (h : BK w0 B m S N n v W) (x : Int) : BK w0 B m S N x v (W.setCell ⟨B, 0, none⟩ (.int .i64 x)) := by
  have hg := grownBy_set W B 0 (.int .i64 x)
  refine ⟨h.low.setCell (p := ⟨B, 0, none⟩) (Nat.le_refl _) _, World.cell?_setCell_same _ _ _ h.num, ?_, fun j a b c => ?_, fun j => by rw [World.frozen?_setCell]; exact h.frz j, h.own.kept hg ?_⟩
  · rw [World.cell?_setCell_other _ _ _ _ (by simp)]; exact h.fld
  · rw [World.cell?_setCell_other _ _ _ _ (by simp <;> omega)]; exact h.oth j a b c
  · cases hv : v.ownBlock with
    | none => exact .inl rfl
    | some b =>
      right
      have := (h.own.lt b hv).1
      simp; omega
theorem BK.drew (h : BK w0 B m S N n v W) : BK w0 B m S N n v W.drew := h.below (Below.refl _ _).drew
/-- One list more. -/
theorem BK.more (h : BK w0 B m S N n v W) {v' : Value} (hg : W.grownBy W' v.ownBlock) (ho : W'.ownsRow (B + 1) 114 3 v' (m + 1) (flatH S N (m + 1))) : BK w0 B (m + 1) S N n v' (W'.setCell ⟨B, 5, none⟩ v') := by
  have hne : ∀ k, v.ownBlock = some k → B + 1 ≤ k := fun k e => (h.own.lt k e).1
  have hc : ∀ {j : Nat} {u : Value}, W.cell? ⟨B, j, none⟩ = some u → W'.cell? ⟨B, j, none⟩ = some u := fun e => hg.cell e (fun q => by have := hne B q.symm; omega)
  have hlow : Below B w0 W' := h.low.grown hg (Nat.le_trans (Nat.le_of_lt h.lt) (Nat.le_refl _)) (fun k e => by have := hne k e; omega)
  refine ⟨hlow.setCell (p := ⟨B, 5, none⟩) (Nat.le_refl _) _, ?_, World.cell?_setCell_same _ _ _ (hc h.fld), fun j a b c => ?_, fun j => ?_, ho.kept (grownBy_set W' B 5 v') ?_⟩
  · rw [World.cell?_setCell_other _ _ _ _ (by simp)]; exact hc h.num
  · rw [World.cell?_setCell_other _ _ _ _ (by simp <;> omega)]; exact hc (h.oth j a b c)
  · rw [World.frozen?_setCell, World.frozen?_of_block (hg.block B h.lt (fun q => by have := hne B q.symm; omega))]; exact h.frz j
  · cases hv : v'.ownBlock with
    | none => exact .inl rfl
    | some b =>
      right
      have := (ho.lt b hv).1
      simp; omega
theorem append_H {ops : Array Oper} {o : Oper} {act : Act} {K : Act → World → Prop} {Q : Exit → Act → World → Prop} {E : Prop} {x : Int} (h : BK w0 B m S N n v W) (hm : m ≤ 1000) (hgd : o.guard = none) (s z : Operand)
    (ho : o.op = .call { callee := .builtin .append, args := #[s, z], argTypes := #[39, 39] }) (hs : act.eval s = v) (T' : TypeId) {a : Option Addr} {l q : Nat} (hS : S m = .slice a l q) (hN : N m = x) (hx : act.eval z = .slice (some ⟨W.heap.size, 0, none⟩) 1 1)
    (hr : ∀ b c W', (∀ j u, W.cell? ⟨B, j, none⟩ = some u → W'.cell? ⟨B, j, none⟩ = some u) → (∀ j, W'.frozen? ⟨B, j, none⟩ = false) → BK w0 B (m + 1) S N n (.slice (some ⟨b, 0, none⟩) (m + 1) c) (W'.setCell ⟨B, 5, none⟩ (.slice (some ⟨b, 0, none⟩) (m + 1) c)) →
      K (act.put o.dst (.slice (some ⟨b, 0, none⟩) (m + 1) c)) W') : if Region.wanted o (yielded ops act.tmps) = true then Oper.wp Tryz.prog o act (W.alloc (.cells #[.slice a l q, .slice none 0 0, .int .i64 x] T')) K Q else E := by
  obtain ⟨i0, hi, hz0, hz1, hz2⟩ := info_parts info_held
  have hnew : ∀ j u, [Value.slice a l q, .slice none 0 0, .int .i64 x][j]? = some u → (W.alloc (.cells #[.slice a l q, .slice none 0 0, .int .i64 x] T')).cell? ((⟨W.heap.size, 0, none⟩ : Addr).add j) = some u := new_cells (cs := [Value.slice a l q, .slice none 0 0, .int .i64 x])
  refine step_append_lies _ hgd s z _ ho (B + 1) 114 i0 (.agg #[.slice none 0 0, .slice none 0 0, .int .i64 0]) 3 56 Tryz.underlying39 hi hz0 hz1 hz2 rfl (by decide) v m _ hs (h.own.alloc _) ⟨W.heap.size, 0, none⟩ 1 1 [.slice a l q, .slice none 0 0, .int .i64 x] hx rfl hnew (fun u hu => by simp at hu; rcases hu with rfl | rfl | rfl <;> rfl) (by decide) (by unfold maxLen; omega) (by omega) (by have := h.lt; simp; omega) _ rfl ?_
  intro b c w' hown hgrow _ _
  have hg2 : W.grownBy w' v.ownBlock := grown_trans (World.grownBy_alloc W _ _) hgrow
  have hfl : flatH S N m ++ [.slice a l q, .slice none 0 0, .int .i64 x] = flatH S N (m + 1) := by rw [flatH, hS, hN]
  rw [hfl] at hown
  have hne : ∀ k, v.ownBlock = some k → B + 1 ≤ k := fun k e => (h.own.lt k e).1
  exact hr b c w' (fun j u e => hg2.cell e (fun q => by have := hne B q.symm; omega)) (fun j => by rw [World.frozen?_of_block (hg2.block B h.lt (fun q => by have := hne B q.symm; omega))]; exact h.frz j) (h.more hg2 hown)
end

set_option maxRecDepth 100000 in
set_option maxHeartbeats 4000000 in
theorem keepWord_any {w0 w : World} {B m : Nat} {S : Nat → Value} {N : Nat → Int} {n : Int} {v : Value} (h : BK w0 B m S N n v w) (hm : m ≤ 1000) (hn : 0 ≤ n ∧ n ≤ 1000) {a : Option Addr} {l q : Nat} (hS : S m = .slice a l q) (hN : N m = n + 1) :
    Calls Tryz.prog 84 #[.pointer (some ⟨B, 0, none⟩), .slice a l q] w fun e w' => e = .returned (.tuple #[]) ∧ ∃ b c, BK w0 B (m + 1) S N (n + 1) (.slice (some ⟨b, 0, none⟩) (m + 1) c) w' := by
  have hw : IntKind.i64.wrap (n + 1) = n + 1 := IntWalk.i64_in _ (by omega)
  obtain ⟨nn, hnn⟩ : ∃ k, n + 1 = k := ⟨_, rfl⟩
  have OK0 := Lib.hid (h.count nn)
  have c0 := h.num
  have z0 := h.frz 0
  have hw2 : IntKind.i64.wrap (n + 1) = nn := by rw [hw, hnn]
  rw [hnn] at hN ⊢
  clear h hn hnn hw
  go_enter Tryz.func84, Tryz.ntmps84
  go_upto_region 1 with fail
  clear c0 z0
  have OK := OK0.out
  revert OK
  generalize w.setCell ⟨B, 0, none⟩ (.int .i64 nn) = W1
  intro OK1
  clear OK0
  have OK := Lib.hid OK1
  clear OK1
  have c0 := OK.out.num
  have c2 := OK.out.fld
  have d0 := (OK.out.below (below_alloc _ (.cells #[.slice a l q, .slice none 0 0, .int .i64 nn] 114))).num
  have d2 := (OK.out.below (below_alloc _ (.cells #[.slice a l q, .slice none 0 0, .int .i64 nn] 114))).fld
  have HS := Lib.hid hS
  have HN := Lib.hid hN
  clear hS hN
  go_region_law ((first | (refine append_H OK.out hm (by rfl) _ _ (by rfl) (by rfl) _ HS.out HN.out (by rfl) ?_) | (refine append_H OK.out.drew hm (by rfl) _ _ (by rfl) (by rfl) _ HS.out HN.out (by rfl) ?_)); intro b c w2 hc hz hk; have HK := Lib.hid hk; have z2 := hz 5; have e2 := hc 5 _ OK.out.fld; clear hk hc hz)
  all_goals go_wp2_with fail
  all_goals go_end0
  all_goals exact ⟨rfl, b, c, HK.out⟩
set_option maxHeartbeats 1000000 in
theorem words'_any {w0 w : World} {B m : Nat} {S : Nat → Value} {N : Nat → Int} {n : Int} {v : Value} (h : BK w0 B m S N n v w) (hm : m ≤ 1000) (hn : 0 ≤ n ∧ n ≤ 1000) {a : Option Addr} {l q : Nat} (hS : S m = .slice a l q) (hN : N m = n + 1) :
    Calls Tryz.prog 18 #[.pointer (some ⟨B, 0, none⟩), .slice a l q] w fun e w' => e = .returned (.tuple #[]) ∧ ∃ b c, BK w0 B (m + 1) S N (n + 1) (.slice (some ⟨b, 0, none⟩) (m + 1) c) w' := by
  have HK := Lib.hid (keepWord_any h hm hn hS hN)
  clear h hS hN
  go_enter Tryz.func18, Tryz.ntmps18
  go_wp2_with (go_at_call 84; (with_reducible refine HK.out.mono ?_); rintro x w1 ⟨rfl, h1⟩; have H1 := Lib.hid h1; clear h1)
  go_end0
  exact ⟨rfl, H1.out⟩

theorem flatH_get (S : Nat → Value) (N : Nat → Int) : ∀ m i, i < m → ∀ k, k < 3 → (flatH S N m)[i * 3 + k]? = [S i, .slice none 0 0, .int .i64 (N i)][k]?
  | 0, _, h, _, _ => absurd h (Nat.not_lt_zero _)
  | m + 1, i, h, k, hk => by
    rw [flatH]
    by_cases hi : i < m
    · rw [List.getElem?_append_left (by rw [flatH_length]; omega)]
      exact flatH_get S N m i hi k hk
    · obtain rfl : i = m := by omega
      rw [List.getElem?_append_right (by rw [flatH_length]; omega), flatH_length, show i * 3 + k - i * 3 = k by omega]
/-- The book is made. -/
theorem BK.toT {wb w0 W : World} {B T m c : Nat} {S : Nat → Value} {N : Nat → Int} {n : Int} {sa : Nat → Option Addr} {ln sc : Nat → Nat} (h : BK w0 B m S N n (.slice (some ⟨T, 0, none⟩) m c) W) (hb : Below wb.heap.size wb w0) (hB : wb.heap.size ≤ B) (hS : ∀ i, i < m → S i = .slice (sa i) (ln i) (sc i)) :
    BkT wb B T m c sa ln sc N W ∧ B + 1 ≤ T ∧ T < W.heap.size ∧ m ≤ c ∧ c ≤ maxLen := by
  have hl := h.own.lt T rfl
  have hcell : ∀ i, i < m → ∀ k, k < 3 → W.cell? ⟨T, i * 3 + k, none⟩ = [S i, .slice none 0 0, .int .i64 (N i)][k]? := fun i hi k hk => by
    rw [h.own.cellAt _ (by omega), flatH_get S N m i hi k hk]
  refine ⟨⟨hb.trans (h.low.mono hB), h.fld, fun i hi => ⟨?_, ⟨none, 0, 0, hcell i hi 1 (by decide)⟩, hcell i hi 2 (by decide)⟩, fun j _ => h.own.frozenAt j, h.oth⟩, hl.1, hl.2, ?_⟩
  · rw [← hS i hi]
    exact hcell i hi 0 (by decide)
  · rcases h.own.2 with ⟨e, -⟩ | ⟨g, cap, cur, e, -, -, h1, h2, -⟩
    · cases e
    · cases e
      exact ⟨h1, h2⟩
theorem book_new {wb : World} {S : Nat → Value} {N : Nat → Int} {T' : TypeId} : BK wb wb.heap.size 0 S N 0 (.slice none 0 0) (wb.alloc (.cells #[.int .i64 0, .slice none 0 0, .slice none 0 0, .slice none 0 0, .slice none 0 0, .slice none 0 0, .slice none 0 0, .slice none 0 0, .slice none 0 0, .slice none 0 0, .slice none 0 0, .slice none 0 0, .slice none 0 0, .slice none 0 0, .slice none 0 0, .slice none 0 0, .slice none 0 0] T')) := by
  have h := at_new (w := wb) (cs := [.int .i64 0, .slice none 0 0, .slice none 0 0, .slice none 0 0, .slice none 0 0, .slice none 0 0, .slice none 0 0, .slice none 0 0, .slice none 0 0, .slice none 0 0, .slice none 0 0, .slice none 0 0, .slice none 0 0, .slice none 0 0, .slice none 0 0, .slice none 0 0, .slice none 0 0]) (T := T') rfl (Below.refl _ _)
  refine ⟨below_alloc _ _, h 0 (by decide), h 5 (by decide), fun j h1 h2 h3 => ?_, fun j => by simp, World.ownsRow_nil _ _ _ _⟩
  have hj := h j h1
  rw [Nat.zero_add] at hj
  rw [hj]
  match j, h1, h2, h3 with
  | 0, _, h2, _ => exact absurd rfl h2
  | 5, _, _, h3 => exact absurd rfl h3
  | 1, _, _, _ | 2, _, _, _ | 3, _, _, _ | 4, _, _, _ | 6, _, _, _ | 7, _, _, _ | 8, _, _, _ | 9, _, _, _ | 10, _, _, _ | 11, _, _, _ | 12, _, _, _ | 13, _, _, _ | 14, _, _, _ | 15, _, _, _ | 16, _, _, _ => rfl
  | j + 17, h1, _, _ => exact absurd h1 (by omega)
end Go.Proofs.YtpnbnomaaeoemaaGreatDoor
