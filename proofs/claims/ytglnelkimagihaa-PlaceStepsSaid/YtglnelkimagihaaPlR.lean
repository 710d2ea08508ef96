/-
  Walks: the document's place, row (tapestryref09).
  Conditions: the rows lie in memory, 1000 numbers at most.
-/
import Derived.Test.YtglnelkimagihaaPlM
import Derived.Test.YtglnelkimagihaaPlU
import Derived.Deep.RegionLaw
namespace Go.Proofs.Ytglnelkimagihaa
set_option linter.unusedVariables false
set_option linter.unusedSimpArgs false
open Go.RowKit Go.Deep Go.WideShapes
open Go.Maps hiding size

set_option maxHeartbeats 1000000 in
theorem rplace_any (a : Option Addr) (L : List Int) (cap : Nat) (x : Int) (w : World) (h : RL w a L) (hn : L.length ≤ 2000000) :
    Calls Try.prog 27 #[.slice a L.length cap, .int .i64 x] w fun e w' => e = .returned (.int .i64 (Pl.optI (Pl.fst L x))) ∧ w = w' := by
  have HK := Lib.hid h
  have R1 : Hid (∀ j, j < L.length → Pl.nth L j = x → (∀ q, q < j → Pl.nth L q ≠ x) → Ending.returned (.int .i64 (j : Int)) = .returned (.int .i64 (Pl.optI (Pl.fst L x)))) := Lib.hid (fun j hj e h2 => by rw [Pl.fst_is hj e h2]; rfl)
  have R0 : Hid ((∀ j, j < L.length → Pl.nth L j ≠ x) → Ending.returned (.int .i64 (-1)) = .returned (.int .i64 (Pl.optI (Pl.fst L x)))) := Lib.hid (fun q => by rw [Pl.fst_no (fun hm => by obtain ⟨j, hj, e⟩ := Pl.mem_nth hm; exact q j hj e)]; rfl)
  clear h
  unfold RL at HK
  generalize Pl.optI (Pl.fst L x) = y at R1 R0 ⊢
  obtain ⟨n, hnE⟩ : ∃ n, L.length = n := ⟨_, rfl⟩
  rw [hnE] at HK R1 R0 hn ⊢
  clear hnE
  go_enter Try.func27, Try.ntmps27
  go_wp2_with fail
  go_loopw [5] (fun i wr => ∃ j : Nat, j ≤ n ∧ i = .int .i64 j ∧ (∀ q, q < j → Pl.nth L q ≠ x) ∧ w = wr) (fun i _ => n - (intOf i).toNat)
  case atStart => exact ⟨0, Nat.zero_le _, rfl, fun q hq => absurd hq (Nat.not_lt_zero _), rfl⟩
  case round =>
    obtain ⟨j, hj, rfl, hne, rfl⟩ := hrel
    have HNE := Lib.hid hne
    clear hne
    by_cases hlt : j < n
    · have hj0 : (0 : Int) ≤ (j : Int) := by omega
      have hj1 : (j : Int) < (n : Int) := by omega
      obtain ⟨b, o, rfl, hc⟩ := HK.out j hlt
      by_cases e : Pl.nth L j = x
      · have HR := Lib.hid (R1.out j hlt e HNE.out)
        rw [e] at hc
        clear e
        go_wp2_with fail
        go_ret
        exact ⟨HR.out, rfl⟩
      · have HN : Hid (∀ q, q < j + 1 → Pl.nth L q ≠ x) := Lib.hid (fun q hq => by
          rcases Nat.lt_succ_iff_lt_or_eq.1 hq with h | rfl
          · exact HNE.out q h
          · exact e)
        generalize Pl.nth L j = k at hc e
        have hbn : (k == x) = false := by simp [e]
        clear e
        go_wp2_with fail
        go_roundw
        case rel => exact ⟨j + 1, by omega, by go_num, HN.out, trivial⟩
        case measure => simp [intOf]; omega
    · obtain rfl : j = n := by omega
      have HR := Lib.hid (R0.out HNE.out)
      go_wp2_with fail
      go_ret
      exact ⟨HR.out, rfl⟩

theorem neg_mem {L : List Int} {x : Int} : (Pl.optI (Pl.fst L x) < 0) ↔ x ∉ L := by
  cases h : Pl.fst L x with
  | none => simp only [Pl.optI]; exact ⟨fun _ => Pl.fst_none h, fun _ => by omega⟩
  | some p =>
    simp only [Pl.optI]
    obtain ⟨h1, h2, -⟩ := Pl.fst_some h
    exact ⟨fun q => by omega, fun q => absurd (h2 ▸ Pl.nth_mem h1) q⟩

set_option maxRecDepth 100000 in
set_option maxHeartbeats 2000000 in
theorem rrow_any (a : Option Addr) (L : List Int) (cap : Nat) (w : World) (h : RL w a L) (hn : L.length ≤ 1000) :
    Calls Try.prog 26 #[.slice a L.length cap] w fun e w' => ∃ v, e = .returned v ∧ OR w' w.heap.size v (Pl.uq L) ∧ Below w.heap.size w w' := by
  have HR := Lib.hid (fun W (hb : Below w.heap.size w W) => h.below hb)
  have HU := Lib.hid (fun j => Pl.uqT_len L j)
  have HM := Lib.hid (fun j x (hj : j ≤ L.length) => Pl.uqT_mem (l := L) (x := x) hj)
  have HE : Hid (Pl.uq L = Pl.uqT L L.length) := Lib.hid rfl
  clear h
  obtain ⟨n, hnE⟩ : ∃ n, L.length = n := ⟨_, rfl⟩
  unfold RL at HR
  rw [hnE] at HR HM HE hn ⊢
  clear hnE
  go_enter Try.func26, Try.ntmps26
  go_wp2_with fail
  go_loopw [3, 4] (fun o i wr => ∃ j : Nat, j ≤ n ∧ i = .int .i64 j ∧ OR wr w.heap.size o (Pl.uqT L j) ∧ Below w.heap.size w wr) (fun _ i _ => n - (intOf i).toNat)
  case atStart => exact ⟨0, Nat.zero_le _, rfl, OR.nil _ _, Below.refl _ _⟩
  case round =>
    obtain ⟨j, hj, rfl, ho, hb⟩ := hrel
    have HO := Lib.hid ho
    have HB := Lib.hid hb
    have hb0 := hb.size
    obtain ⟨ga, gc, rfl, -, -, hrl⟩ := ho.rl
    have HRL := Lib.hid hrl
    clear ho hb hrl
    by_cases hlt : j < n
    · have hj0 : (0 : Int) ≤ (j : Int) := by omega
      have hj1 : (j : Int) < (n : Int) := by omega
      obtain ⟨b, o, rfl, hc⟩ := HR.out _ HB.out j hlt
      have hul := HU.out j
      have HP := Lib.hid (rplace_any ga (Pl.uqT L j) gc (Pl.nth L j) wr HRL.out (by omega))
      have hmm := HM.out j (Pl.nth L j) (by omega)
      have hu : Pl.uqT L (j + 1) = if Pl.nth L j ∈ L.take j then Pl.uqT L j else Pl.uqT L j ++ [Pl.nth L j] := rfl
      by_cases hmem : Pl.nth L j ∈ L.take j
      · rw [if_pos hmem] at hu
        have hne : ¬ Pl.optI (Pl.fst (Pl.uqT L j) (Pl.nth L j)) < 0 := fun q => neg_mem.1 q (hmm.2 hmem)
        have HUJ := Lib.hid hu
        clear hu hmm hmem
        generalize Pl.optI (Pl.fst (Pl.uqT L j) (Pl.nth L j)) = y at HP hne
        generalize Pl.nth L j = x at hc HP
        go_wp2_with (go_at_call 27; (with_reducible refine HP.out.mono ?_); rintro x2 w2 ⟨rfl, rfl⟩)
        go_roundw
        case rel => exact ⟨j + 1, by omega, by go_num, by rw [HUJ.out]; exact HO.out, HB.out⟩
        case measure => simp [intOf]; omega
      · rw [if_neg hmem] at hu
        have hne : Pl.optI (Pl.fst (Pl.uqT L j) (Pl.nth L j)) < 0 := neg_mem.2 (fun q => hmem (hmm.1 q))
        have HUJ := Lib.hid hu
        clear hu hmm hmem
        generalize Pl.optI (Pl.fst (Pl.uqT L j) (Pl.nth L j)) = y at HP hne
        generalize Pl.nth L j = x at hc HP HUJ
        go_wp2_with (first
          | (go_at_call 27; (with_reducible refine HP.out.mono ?_); rintro x2 w2 ⟨rfl, rfl⟩)
          | (at_builtin; refine app_int rfl _ _ rfl wr w.heap.size (Pl.uqT L j) x _ HO.out rfl rfl (by omega) hb0 ?_; intro v' w8 hor8 ha8; have HA := Lib.hid ha8; have HO8 := Lib.hid hor8; clear ha8 hor8))
        go_roundw
        case rel => exact ⟨j + 1, by omega, by go_num, by rw [HUJ.out]; exact HO8.out, HA.out.below HO.out HB.out (Nat.le_refl _) hb0⟩
        case measure => simp [intOf]; omega
    · obtain rfl : j = n := by omega
      go_wp2_with fail
      go_ret
      exact ⟨_, rfl, by rw [HE.out]; exact HO.out, HB.out⟩

/-- One more number at a row's end, in a region that draws its order. -/
theorem app_int_at {ops : Array Oper} {o : Oper} {a : Act} {K : Act → World → Prop} {Q : Exit → Act → World → Prop} {E : Prop} (hgd : o.guard = none) (s x : Operand) (ho : o.op = .call { callee := .builtin .append, args := #[s, x], argTypes := #[22, 22] })
    (W0 : World) (base : Nat) (l : List Int) (y : Int) (v : Value) (hown : OR W0 base v l) (hs : a.eval s = v) (hx : a.eval x = .slice (some ⟨W0.heap.size, 0, none⟩) 1 1) (hlen : l.length ≤ 2000000) (hbase : base ≤ W0.heap.size)
    (h : ∀ v' w', OR w' base v' (l ++ [y]) → App W0 base 3 1 v v' (l.length + 1) (cellsI (l ++ [y])) w' → K (a.put o.dst v') w') : if Region.wanted o (yielded ops a.tmps) = true then Oper.wp Try.prog o a (W0.alloc (.cells #[.int .i64 y] 3)) K Q else E := by
  obtain ⟨i0, hi, hz0, hz1, hz2⟩ := info_parts info_int
  refine step_append_lies _ hgd s x 22 ho base 3 i0 (.int .i64 0) 1 8 Try.underlying22 hi hz0 hz1 hz2 rfl (by decide) v l.length (cellsI l) hs (World.ownsRow.alloc hown _) ⟨W0.heap.size, 0, none⟩ 1 1 [.int .i64 y] hx rfl (cell_one_new (cs := [.int .i64 y]) W0) (by simp [Value.oneCell']) (by decide) (by unfold maxLen; omega) (by omega) (Nat.le_trans hbase (below_alloc _ _).size) _ rfl ?_
  intro g c w' h1 h2 h4 _
  have e : cellsI l ++ [Value.int .i64 y] = cellsI (l ++ [y]) := by simp [cellsI]
  rw [e] at h1
  exact h _ w' (by unfold OR; rw [List.length_append]; exact h1) ⟨h1, grownBy_trans (World.grownBy_alloc _ _ _) h2, h4.elim (fun q => .inl (by rw [q]; rfl)) (fun q => .inr ⟨g, rfl, by rw [q]; exact (below_alloc _ _).size⟩)⟩
end Go.Proofs.Ytglnelkimagihaa
