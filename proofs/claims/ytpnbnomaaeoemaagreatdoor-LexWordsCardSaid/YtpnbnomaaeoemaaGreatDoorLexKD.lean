/-
  Walks: lookWord finds each mark.
  Conditions: the book, its lists, and what they hold lie in blocks behind a world; no two share a block.
-/
import Derived.Test.YtpnbnomaaeoemaaGreatDoorLexKC
namespace Go.Proofs.YtpnbnomaaeoemaaGreatDoor
open Go.RowKit

section
variable {w0 : World} {B T m c : Nat} {sa : Nat → Option Addr} {ln sc : Nat → Nat} {N : Nat → Int} {W W' : World} {i hb ws : Nat}
theorem GO.below (h : GO w0 B T m c sa ln sc N ws i W) (hl : Below W.heap.size W W') : GO w0 B T m c sa ln sc N ws i W' :=
  ⟨h.bk.below hl, fun j hj => MarkRow.below (h.rows j hj) hl, fun j hj => ((h.done j hj).below hl).mono hl.size, Nat.le_trans h.hws hl.size⟩
/-- Within a round of lookWord. -/
structure LI (w0 : World) (B T m c : Nat) (sa : Nat → Option Addr) (ln sc : Nat → Nat) (N : Nat → Int) (ws i hb g cp : Nat) (W : World) : Prop where
  go : GO w0 B T m c sa ln sc N ws m W
  hat : At W hb 0 [.slice (sa i) (ln i) (sc i), .slice (some ⟨g, 0, none⟩) (ln i + 40) cp, .int .i64 (N i)]
  long : MarkRow w0 (N i) (.slice (some ⟨g, 0, none⟩) (ln i + 40) cp) (ln i + 40) W
variable {g cp : Nat}
theorem LI.below (h : LI w0 B T m c sa ln sc N ws i hb g cp W) (hl : Below W.heap.size W W') : LI w0 B T m c sa ln sc N ws i hb g cp W' := ⟨h.go.below hl, h.hat.below hl, h.long.below hl⟩
theorem LI.start {T' : TypeId} (h : GO w0 B T m c sa ln sc N ws m W) (hm : MarkRow w0 (N i) (.slice (some ⟨g, 0, none⟩) (ln i + 40) cp) (ln i + 40) W) :
    LI w0 B T m c sa ln sc N ws i W.heap.size g cp (W.alloc (.cells #[.slice (sa i) (ln i) (sc i), .slice (some ⟨g, 0, none⟩) (ln i + 40) cp, .int .i64 (N i)] T')) :=
  ⟨h.below (below_alloc _ _), at_new rfl (Below.refl _ _), hm.below (below_alloc _ _)⟩
theorem MarkRow.cell {n : Int} {l q k j : Nat} (h : MarkRow w0 n (.slice (some ⟨g, 0, none⟩) l q) k W) (hj : j < k) : W.cell? ⟨g, j * 4, none⟩ = some (.int .u8 0) ∧ W.cell? ⟨g, j * 4 + 1, none⟩ = some (.string (wordB n)) ∧ W.cell? ⟨g, j * 4 + 2, none⟩ = some (.int .i64 0) ∧ W.cell? ⟨g, j * 4 + 3, none⟩ = some (.int .i64 0) := by
  obtain ⟨X, h1, h2⟩ := h
  have hl := h1.1
  obtain rfl : k = l := by
    rcases h1.2 with ⟨e, -⟩ | ⟨g', cap, cur, e, -⟩
    · cases e
    · cases e
      rfl
  have hc : ∀ r, r < 4 → W.cell? ⟨g, j * 4 + r, none⟩ = (mkL n)[r]? := fun r hr => by rw [h1.cellAt (j * 4 + r) (by omega), h2 j hj r hr]
  exact ⟨hc 0 (by decide), hc 1 (by decide), hc 2 (by decide), hc 3 (by decide)⟩
theorem LI.three (h : LI w0 B T m c sa ln sc N ws i hb g cp W) : W.cell? ⟨hb, 0, none⟩ = some (.slice (sa i) (ln i) (sc i)) ∧ W.cell? ⟨hb, 1, none⟩ = some (.slice (some ⟨g, 0, none⟩) (ln i + 40) cp) ∧ W.cell? ⟨hb, 2, none⟩ = some (.int .i64 (N i)) :=
  ⟨h.hat 0 (by decide : 0 < 3), h.hat 1 (by decide : 1 < 3), h.hat 2 (by decide : 2 < 3)⟩
theorem LI.row (h : LI w0 B T m c sa ln sc N ws i hb g cp W) (hi : i < m) {g0 k : Nat} (he : sa i = some ⟨g0, 0, none⟩) (hk : k < ln i) : W.cell? ⟨g0, k * 4, none⟩ = some (.int .u8 0) ∧ W.cell? ⟨g0, k * 4 + 1, none⟩ = some (.string (wordB (N i))) ∧ W.cell? ⟨g0, k * 4 + 2, none⟩ = some (.int .i64 0) ∧ W.cell? ⟨g0, k * 4 + 3, none⟩ = some (.int .i64 0) := by
  have := h.go.rows i hi
  rw [rowI_eq, he] at this
  exact this.cell hk
end

set_option maxRecDepth 100000 in
set_option maxHeartbeats 4000000 in
theorem lookWord_any {w0 : World} {B T m c ws : Nat} {sa : Nat → Option Addr} {ln sc : Nat → Nat} {N : Nat → Int} {w : World} (hs : GS w0 B T m c sa ln sc N ws) (h : GO w0 B T m c sa ln sc N ws m w) :
    Calls Tryz.prog 69 #[.pointer (some ⟨B, 0, none⟩)] w fun e w' => e = .returned (.bool true) ∧ GO w0 B T m c sa ln sc N ws m w' := by
  have HS := Lib.hid hs
  have OK0 := Lib.hid h
  have HM := Lib.hid (fun i (hi : i < m) W => isWord_is (hs.s.sm i hi) W)
  clear h hs
  go_enter Tryz.func69, Tryz.ntmps69
  go_wp2_with fail
  go_loopw [3] (fun i wr => ∃ k : Nat, k ≤ m ∧ i = .int .i64 k ∧ GO w0 B T m c sa ln sc N ws m wr) (fun i _ => m - (intOf i).toNat)
  case atStart => exact ⟨0, Nat.zero_le _, rfl, OK0.out⟩
  case round =>
    clear OK0
    obtain ⟨i, hi, rfl, ok⟩ := hrel
    have OK := Lib.hid ok
    clear ok
    have b2 := OK.out.bk.fld
    have hmc := HS.out.s.hmc
    unfold maxLen at hmc
    obtain ⟨hm1, hm2⟩ := hmc
    by_cases hlt : i < m
    · have hlt' : (i : Int) < (m : Int) := by omega
      have hi0 : (0 : Int) ≤ (i : Int) := by omega
      obtain ⟨e0, -, e2⟩ := OK.out.bk.ent i hlt
      obtain ⟨g, cp, e1, hmk, -⟩ := OK.out.done i hlt
      have hln := HS.out.s.lnb i hlt
      have hwr : IntKind.i64.wrap ((ln i : Int) + 40) = (ln i : Int) + 40 := IntWalk.i64_in _ (by omega)
      have HF := Lib.hid (LI.start (i := i) (T' := 114) OK.out hmk)
      clear hmk
      go_upto_region 5 with fail
      revert HF
      generalize wr.alloc (.cells #[.slice (sa i) (ln i) (sc i), .slice (some ⟨g, 0, none⟩) (ln i + 40) cp, .int .i64 (N i)] 114) = W1
      generalize wr.heap.size = hb
      intro HF
      clear OK e0 e1 e2 b2
      obtain ⟨c0, c1, c2⟩ := HF.out.three
      go_wp2_with fail
      clear c0 c1 c2
      go_loopw [5] (fun kk wr => ∃ q : Nat, q ≤ ln i + 40 ∧ kk = .int .i64 q ∧ LI w0 B T m c sa ln sc N ws i hb g cp wr) (fun kk _ => ln i + 40 - (intOf kk).toNat)
      case atStart => exact ⟨0, Nat.zero_le _, rfl, HF.out⟩
      case round =>
        clear HF
        obtain ⟨q, hq, rfl, ok⟩ := hrel
        have OK := Lib.hid ok
        clear ok
        obtain ⟨c0, c1, c2⟩ := OK.out.three
        have hq0 : (0 : Int) ≤ (q : Int) := by omega
        by_cases hql : q < ln i + 40
        · have hql' : (q : Int) < (ln i : Int) + 40 := by omega
          have HMi := Lib.hid (HM.out i hlt)
          by_cases hqn : q < ln i
          · have hqn' : (q : Int) < (ln i : Int) := by omega
            obtain ⟨g0, he⟩ := MarkRow.some' (OK.out.go.rows i hlt) (by omega)
            have KS := Lib.hid (fun W (h : LI w0 B T m c sa ln sc N ws i hb g cp W) => show LI w0 B T m c sa ln sc N ws i hb g cp W ∧ (W.cell? ⟨hb, 0, none⟩ = some (.slice (some ⟨g0, 0, none⟩) (ln i) (sc i)) ∧ W.cell? ⟨hb, 1, none⟩ = some (.slice (some ⟨g, 0, none⟩) (ln i + 40) cp) ∧ W.cell? ⟨hb, 2, none⟩ = some (.int .i64 (N i))) ∧ (W.cell? ⟨g, q * 4, none⟩ = some (.int .u8 0) ∧ W.cell? ⟨g, q * 4 + 1, none⟩ = some (.string (wordB (N i))) ∧ W.cell? ⟨g, q * 4 + 2, none⟩ = some (.int .i64 0) ∧ W.cell? ⟨g, q * 4 + 3, none⟩ = some (.int .i64 0)) ∧ (W.cell? ⟨g0, q * 4, none⟩ = some (.int .u8 0) ∧ W.cell? ⟨g0, q * 4 + 1, none⟩ = some (.string (wordB (N i))) ∧ W.cell? ⟨g0, q * 4 + 2, none⟩ = some (.int .i64 0) ∧ W.cell? ⟨g0, q * 4 + 3, none⟩ = some (.int .i64 0)) from ⟨h, by rw [← he]; exact h.three, h.long.cell hql, h.row hlt he hqn⟩)
            rw [he] at c0
            clear he
            obtain ⟨-, -, ⟨m0, m1, m2, m3⟩, n0, n1, n2, n3⟩ := KS.out _ OK.out
            go_upto_region 10 with fail
            go_region_held3 (fun W => LI w0 B T m c sa ln sc N ws i hb g cp W ∧ (W.cell? ⟨hb, 0, none⟩ = some (.slice (some ⟨g0, 0, none⟩) (ln i) (sc i)) ∧ W.cell? ⟨hb, 1, none⟩ = some (.slice (some ⟨g, 0, none⟩) (ln i + 40) cp) ∧ W.cell? ⟨hb, 2, none⟩ = some (.int .i64 (N i))) ∧ (W.cell? ⟨g, q * 4, none⟩ = some (.int .u8 0) ∧ W.cell? ⟨g, q * 4 + 1, none⟩ = some (.string (wordB (N i))) ∧ W.cell? ⟨g, q * 4 + 2, none⟩ = some (.int .i64 0) ∧ W.cell? ⟨g, q * 4 + 3, none⟩ = some (.int .i64 0)) ∧ (W.cell? ⟨g0, q * 4, none⟩ = some (.int .u8 0) ∧ W.cell? ⟨g0, q * 4 + 1, none⟩ = some (.string (wordB (N i))) ∧ W.cell? ⟨g0, q * 4 + 2, none⟩ = some (.int .i64 0) ∧ W.cell? ⟨g0, q * 4 + 3, none⟩ = some (.int .i64 0)))
              (first | (refine KS.out _ (LI.below ?_ hb1); go_split_ands; assumption) | exact KS.out _ (OK.out.below (Below.refl _ _).drew))
              (first | (go_at_call 120; (with_reducible refine (HMi.out _).mono ?_); rintro x w1 ⟨rfl, hb1⟩))
            all_goals go_wp2_with fail
            all_goals refine ⟨⟨q + 1, by omega, by go_num, ?_⟩, by simp [intOf]; omega⟩
            all_goals (go_split_ands; assumption)
          · have hqn' : ¬ (q : Int) < (ln i : Int) := by omega
            have KS := Lib.hid (fun W (h : LI w0 B T m c sa ln sc N ws i hb g cp W) => show LI w0 B T m c sa ln sc N ws i hb g cp W ∧ (W.cell? ⟨hb, 0, none⟩ = some (.slice (sa i) (ln i) (sc i)) ∧ W.cell? ⟨hb, 1, none⟩ = some (.slice (some ⟨g, 0, none⟩) (ln i + 40) cp) ∧ W.cell? ⟨hb, 2, none⟩ = some (.int .i64 (N i))) ∧ (W.cell? ⟨g, q * 4, none⟩ = some (.int .u8 0) ∧ W.cell? ⟨g, q * 4 + 1, none⟩ = some (.string (wordB (N i))) ∧ W.cell? ⟨g, q * 4 + 2, none⟩ = some (.int .i64 0) ∧ W.cell? ⟨g, q * 4 + 3, none⟩ = some (.int .i64 0)) from ⟨h, h.three, h.long.cell hql⟩)
            go_upto_region 10 with fail
            refine wp_region_held_drew (S := fun W => LI w0 B T m c sa ln sc N ws i hb g cp W ∧ (W.cell? ⟨hb, 0, none⟩ = some (.slice (sa i) (ln i) (sc i)) ∧ W.cell? ⟨hb, 1, none⟩ = some (.slice (some ⟨g, 0, none⟩) (ln i + 40) cp) ∧ W.cell? ⟨hb, 2, none⟩ = some (.int .i64 (N i))) ∧ (W.cell? ⟨g, q * 4, none⟩ = some (.int .u8 0) ∧ W.cell? ⟨g, q * 4 + 1, none⟩ = some (.string (wordB (N i))) ∧ W.cell? ⟨g, q * 4 + 2, none⟩ = some (.int .i64 0) ∧ W.cell? ⟨g, q * 4 + 3, none⟩ = some (.int .i64 0))) (by kernel_rfl) (KS.out _ (OK.out.below (Below.refl _ _).drew)) (fun hH => ?_)
            refine wpAnyH_take (i := 0) (oi := { dst := some 37, op := Go.Op.fieldAddr 114 (Go.Operand.tmp 4) 1, type := 0, pos := "book.go:275", after := #[], guard := none }) (v := ?_) rfl (by kernel_rfl) (by kernel_rfl) (by kernel_rfl) (fun _ _ _ h => h) (Or.inl ⟨by rfl, ?_⟩) hH ?_; rotate_left; (focus (intro wS hSw; (try dsimp only at hSw); go_simp; (try with_reducible rfl))); simp only [Act.put, List.setIfInBounds_toArray, List.set_cons_zero, List.set_cons_succ]
            refine wpAnyH_take (i := 1) (oi := { dst := some 38, op := Go.Op.load 57 (Go.Operand.tmp 37), type := 57, pos := "book.go:275", after := #[{ on := 0, ground := Go.Ground.data }], guard := none }) (v := ?_) rfl (by kernel_rfl) (by kernel_rfl) (by kernel_rfl) (fun _ _ _ h => h) (Or.inl ⟨by rfl, ?_⟩) hH ?_; rotate_left; (focus (intro wS hSw; (try dsimp only at hSw); go_simp; (try with_reducible rfl))); simp only [Act.put, List.setIfInBounds_toArray, List.set_cons_zero, List.set_cons_succ]
            refine wpAnyH_take (i := 2) (oi := { dst := some 39, op := Go.Op.move (Go.Operand.tmp 5), type := 3, pos := "book.go:275", after := #[], guard := none }) (v := ?_) rfl (by kernel_rfl) (by kernel_rfl) (by kernel_rfl) (fun _ _ _ h => h) (Or.inl ⟨by rfl, ?_⟩) hH ?_; rotate_left; (focus (intro wS hSw; (try dsimp only at hSw); go_simp; (try with_reducible rfl))); simp only [Act.put, List.setIfInBounds_toArray, List.set_cons_zero, List.set_cons_succ]
            refine wpAnyH_take (i := 3) (oi := { dst := some 40, op := Go.Op.indexAddr 57 (Go.Operand.tmp 38) (Go.Operand.tmp 39), type := 0, pos := "book.go:275", after := #[{ on := 1, ground := Go.Ground.data }, { on := 2, ground := Go.Ground.data }], guard := none }) (v := ?_) rfl (by kernel_rfl) (by kernel_rfl) (by kernel_rfl) (fun _ _ _ h => h) (Or.inl ⟨by rfl, ?_⟩) hH ?_; rotate_left; (focus (intro wS hSw; (try dsimp only at hSw); go_simp; (try with_reducible rfl))); simp only [Act.put, List.setIfInBounds_toArray, List.set_cons_zero, List.set_cons_succ]
            refine wpAnyH_take (i := 4) (oi := { dst := some 41, op := Go.Op.load 84 (Go.Operand.tmp 40), type := 84, pos := "book.go:275", after := #[{ on := 3, ground := Go.Ground.data }], guard := none }) (v := ?_) rfl (by kernel_rfl) (by kernel_rfl) (by kernel_rfl) (fun _ _ _ h => h) (Or.inl ⟨by rfl, ?_⟩) hH ?_; rotate_left; (focus (intro wS hSw; (try dsimp only at hSw); go_simp; (try with_reducible rfl))); simp only [Act.put, List.setIfInBounds_toArray, List.set_cons_zero, List.set_cons_succ]
            refine wpAnyH_take (i := 5) (oi := { dst := some 42, op := Go.Op.fieldAddr 114 (Go.Operand.tmp 4) 2, type := 0, pos := "book.go:275", after := #[], guard := none }) (v := ?_) rfl (by kernel_rfl) (by kernel_rfl) (by kernel_rfl) (fun _ _ _ h => h) (Or.inl ⟨by rfl, ?_⟩) hH ?_; rotate_left; (focus (intro wS hSw; (try dsimp only at hSw); go_simp; (try with_reducible rfl))); simp only [Act.put, List.setIfInBounds_toArray, List.set_cons_zero, List.set_cons_succ]
            refine wpAnyH_take (i := 6) (oi := { dst := some 43, op := Go.Op.load 3 (Go.Operand.tmp 42), type := 3, pos := "book.go:275", after := #[{ on := 5, ground := Go.Ground.data }], guard := none }) (v := ?_) rfl (by kernel_rfl) (by kernel_rfl) (by kernel_rfl) (fun _ _ _ h => h) (Or.inl ⟨by rfl, ?_⟩) hH ?_; rotate_left; (focus (intro wS hSw; (try dsimp only at hSw); go_simp; (try with_reducible rfl))); simp only [Act.put, List.setIfInBounds_toArray, List.set_cons_zero, List.set_cons_succ]
            refine wpAnyH_ready (rs := [7]) (by kernel_rfl) (by simp) ?_
            refine AllReadyH.cons (o := { dst := some 44, op := Go.Op.call { callee := Go.Callee.value (Go.Operand.func 120), args := #[Go.Operand.tmp 41, Go.Operand.tmp 43], argTypes := #[84, 3] }, type := 4, pos := "book.go:275", after := #[{ on := 4, ground := Go.Ground.data }, { on := 6, ground := Go.Ground.data }], guard := none }) rfl (fun K hK => ?_) AllReadyH.nil
            go_simp
            go_at_call 120
            with_reducible refine (HMi.out _).mono ?_
            rintro x w1 ⟨rfl, hb1⟩
            (try go_wp2_with fail)
            refine hK.out _ _ (KS.out _ (LI.below hH.1 hb1)) (fun hH2 => ?_)
            clear hK K hH
            have hH := hH2
            (try simp only [Act.put, List.setIfInBounds_toArray, List.set_cons_zero, List.set_cons_succ])
            refine wpAnyH_take (i := 8) (oi := { dst := some 45, op := Go.Op.unOp Go.UnOp.not 4 (Go.Operand.tmp 44), type := 4, pos := "book.go:275", after := #[{ on := 7, ground := Go.Ground.data }], guard := none }) (v := ?_) rfl (by kernel_rfl) (by kernel_rfl) (by kernel_rfl) (fun _ _ _ h => h) (Or.inl ⟨by rfl, ?_⟩) hH ?_; rotate_left; (focus (intro wS hSw; (try dsimp only at hSw); go_simp; (try with_reducible rfl))); simp only [Act.put, List.setIfInBounds_toArray, List.set_cons_zero, List.set_cons_succ]
            refine wpAnyH_take (i := 9) (oi := { dst := some 46, op := Go.Op.move (Go.Operand.tmp 45), type := 4, pos := "book.go:275", after := #[{ on := 8, ground := Go.Ground.data }, { on := 7, ground := Go.Ground.chain }], guard := none }) (v := ?_) rfl (by kernel_rfl) (by kernel_rfl) (by kernel_rfl) (fun _ _ _ h => h) (Or.inl ⟨by rfl, ?_⟩) hH ?_; rotate_left; (focus (intro wS hSw; (try dsimp only at hSw); go_simp; (try with_reducible rfl))); simp only [Act.put, List.setIfInBounds_toArray, List.set_cons_zero, List.set_cons_succ]
            refine wpAnyH_take (i := 10) (oi := { dst := some 47, op := Go.Op.move (Go.Operand.tmp 5), type := 3, pos := "book.go:275", after := #[{ on := 9, ground := Go.Ground.guard }], guard := some (9, false) }) (v := ?_) rfl (by kernel_rfl) (by kernel_rfl) (by kernel_rfl) (fun _ _ _ h => h) (Or.inl ⟨by rfl, ?_⟩) hH ?_; rotate_left; (focus (intro wS hSw; (try dsimp only at hSw); go_simp; (try with_reducible rfl))); simp only [Act.put, List.setIfInBounds_toArray, List.set_cons_zero, List.set_cons_succ]
            refine wpAnyH_take (i := 11) (oi := { dst := some 48, op := Go.Op.fieldAddr 114 (Go.Operand.tmp 4) 0, type := 0, pos := "book.go:275", after := #[{ on := 9, ground := Go.Ground.guard }], guard := some (9, false) }) (v := ?_) rfl (by kernel_rfl) (by kernel_rfl) (by kernel_rfl) (fun _ _ _ h => h) (Or.inl ⟨by rfl, ?_⟩) hH ?_; rotate_left; (focus (intro wS hSw; (try dsimp only at hSw); go_simp; (try with_reducible rfl))); simp only [Act.put, List.setIfInBounds_toArray, List.set_cons_zero, List.set_cons_succ]
            refine wpAnyH_take (i := 12) (oi := { dst := some 49, op := Go.Op.load 57 (Go.Operand.tmp 48), type := 57, pos := "book.go:275", after := #[{ on := 11, ground := Go.Ground.data }, { on := 9, ground := Go.Ground.guard }], guard := some (9, false) }) (v := ?_) rfl (by kernel_rfl) (by kernel_rfl) (by kernel_rfl) (fun _ _ _ h => h) (Or.inl ⟨by rfl, ?_⟩) hH ?_; rotate_left; (focus (intro wS hSw; (try dsimp only at hSw); go_simp; (try with_reducible rfl))); simp only [Act.put, List.setIfInBounds_toArray, List.set_cons_zero, List.set_cons_succ]
            refine wpAnyH_take (i := 13) (oi := { dst := some 50, op := Go.Op.call { callee := Go.Callee.builtin Go.Builtin.len, args := #[Go.Operand.tmp 49], argTypes := #[57] }, type := 3, pos := "book.go:275", after := #[{ on := 12, ground := Go.Ground.data }, { on := 9, ground := Go.Ground.guard }], guard := some (9, false) }) (v := ?_) rfl (by kernel_rfl) (by kernel_rfl) (by kernel_rfl) (fun _ _ _ h => h) (Or.inl ⟨by rfl, ?_⟩) hH ?_; rotate_left; (focus (intro wS hSw; (try dsimp only at hSw); go_simp; (try with_reducible rfl))); simp only [Act.put, List.setIfInBounds_toArray, List.set_cons_zero, List.set_cons_succ]
            refine wpAnyH_take (i := 14) (oi := { dst := some 51, op := Go.Op.binOp Go.BinOp.lss 3 (Go.Operand.tmp 47) (Go.Operand.tmp 50) 3, type := 4, pos := "book.go:275", after := #[{ on := 10, ground := Go.Ground.data }, { on := 13, ground := Go.Ground.data }, { on := 9, ground := Go.Ground.guard }], guard := some (9, false) }) (v := .bool false) rfl (by kernel_rfl) (by kernel_rfl) (by kernel_rfl) (fun _ _ _ h => h) (Or.inl ⟨by rfl, ?_⟩) hH ?_; (focus (intro wS hSw; (try dsimp only at hSw); go_simp; (try simp [hqn']))); simp only [Act.put, List.setIfInBounds_toArray, List.set_cons_zero, List.set_cons_succ]
            refine wpAnyH_take (i := 15) (oi := { dst := some 52, op := Go.Op.move (Go.Operand.tmp 51), type := 4, pos := "book.go:275", after := #[{ on := 14, ground := Go.Ground.data }, { on := 9, ground := Go.Ground.chain }, { on := 9, ground := Go.Ground.guard }], guard := some (9, false) }) (v := ?_) rfl (by kernel_rfl) (by kernel_rfl) (by kernel_rfl) (fun _ _ _ h => h) (Or.inl ⟨by rfl, ?_⟩) hH ?_; rotate_left; (focus (intro wS hSw; (try dsimp only at hSw); go_simp; (try with_reducible rfl))); simp only [Act.put, List.setIfInBounds_toArray, List.set_cons_zero, List.set_cons_succ]
            refine wpAnyH_take (i := 16) (oi := { dst := some 53, op := Go.Op.fieldAddr 114 (Go.Operand.tmp 4) 0, type := 0, pos := "book.go:275", after := #[{ on := 15, ground := Go.Ground.guard }], guard := some (15, true) }) (v := undef) rfl (by kernel_rfl) (by kernel_rfl) (by kernel_rfl) (fun _ _ _ h => h) (Or.inr ⟨by rfl, rfl⟩) hH ?_; simp only [Act.put, List.setIfInBounds_toArray, List.set_cons_zero, List.set_cons_succ]
            refine wpAnyH_take (i := 17) (oi := { dst := some 54, op := Go.Op.load 57 (Go.Operand.tmp 53), type := 57, pos := "book.go:275", after := #[{ on := 16, ground := Go.Ground.data }, { on := 15, ground := Go.Ground.guard }], guard := some (15, true) }) (v := undef) rfl (by kernel_rfl) (by kernel_rfl) (by kernel_rfl) (fun _ _ _ h => h) (Or.inr ⟨by rfl, rfl⟩) hH ?_; simp only [Act.put, List.setIfInBounds_toArray, List.set_cons_zero, List.set_cons_succ]
            refine wpAnyH_take (i := 18) (oi := { dst := some 55, op := Go.Op.move (Go.Operand.tmp 5), type := 3, pos := "book.go:275", after := #[{ on := 15, ground := Go.Ground.guard }], guard := some (15, true) }) (v := undef) rfl (by kernel_rfl) (by kernel_rfl) (by kernel_rfl) (fun _ _ _ h => h) (Or.inr ⟨by rfl, rfl⟩) hH ?_; simp only [Act.put, List.setIfInBounds_toArray, List.set_cons_zero, List.set_cons_succ]
            refine wpAnyH_take (i := 19) (oi := { dst := some 56, op := Go.Op.indexAddr 57 (Go.Operand.tmp 54) (Go.Operand.tmp 55), type := 0, pos := "book.go:275", after := #[{ on := 17, ground := Go.Ground.data }, { on := 18, ground := Go.Ground.data }, { on := 15, ground := Go.Ground.guard }], guard := some (15, true) }) (v := undef) rfl (by kernel_rfl) (by kernel_rfl) (by kernel_rfl) (fun _ _ _ h => h) (Or.inr ⟨by rfl, rfl⟩) hH ?_; simp only [Act.put, List.setIfInBounds_toArray, List.set_cons_zero, List.set_cons_succ]
            refine wpAnyH_take (i := 20) (oi := { dst := some 57, op := Go.Op.load 84 (Go.Operand.tmp 56), type := 84, pos := "book.go:275", after := #[{ on := 19, ground := Go.Ground.data }, { on := 15, ground := Go.Ground.guard }], guard := some (15, true) }) (v := undef) rfl (by kernel_rfl) (by kernel_rfl) (by kernel_rfl) (fun _ _ _ h => h) (Or.inr ⟨by rfl, rfl⟩) hH ?_; simp only [Act.put, List.setIfInBounds_toArray, List.set_cons_zero, List.set_cons_succ]
            refine wpAnyH_take (i := 21) (oi := { dst := some 58, op := Go.Op.fieldAddr 114 (Go.Operand.tmp 4) 2, type := 0, pos := "book.go:275", after := #[{ on := 15, ground := Go.Ground.guard }], guard := some (15, true) }) (v := undef) rfl (by kernel_rfl) (by kernel_rfl) (by kernel_rfl) (fun _ _ _ h => h) (Or.inr ⟨by rfl, rfl⟩) hH ?_; simp only [Act.put, List.setIfInBounds_toArray, List.set_cons_zero, List.set_cons_succ]
            refine wpAnyH_take (i := 22) (oi := { dst := some 59, op := Go.Op.load 3 (Go.Operand.tmp 58), type := 3, pos := "book.go:275", after := #[{ on := 21, ground := Go.Ground.data }, { on := 15, ground := Go.Ground.guard }], guard := some (15, true) }) (v := undef) rfl (by kernel_rfl) (by kernel_rfl) (by kernel_rfl) (fun _ _ _ h => h) (Or.inr ⟨by rfl, rfl⟩) hH ?_; simp only [Act.put, List.setIfInBounds_toArray, List.set_cons_zero, List.set_cons_succ]
            refine wpAnyH_take (i := 23) (oi := { dst := some 60, op := Go.Op.call { callee := Go.Callee.value (Go.Operand.func 120), args := #[Go.Operand.tmp 57, Go.Operand.tmp 59], argTypes := #[84, 3] }, type := 4, pos := "book.go:275", after := #[{ on := 20, ground := Go.Ground.data }, { on := 22, ground := Go.Ground.data }, { on := 15, ground := Go.Ground.chain }, { on := 15, ground := Go.Ground.guard }], guard := some (15, true) }) (v := undef) rfl (by kernel_rfl) (by kernel_rfl) (by kernel_rfl) (fun _ _ _ h => h) (Or.inr ⟨by rfl, rfl⟩) hH ?_; simp only [Act.put, List.setIfInBounds_toArray, List.set_cons_zero, List.set_cons_succ]
            refine wpAnyH_take (i := 24) (oi := { dst := some 61, op := Go.Op.unOp Go.UnOp.not 4 (Go.Operand.tmp 60), type := 4, pos := "book.go:275", after := #[{ on := 23, ground := Go.Ground.data }, { on := 15, ground := Go.Ground.guard }], guard := some (15, true) }) (v := undef) rfl (by kernel_rfl) (by kernel_rfl) (by kernel_rfl) (fun _ _ _ h => h) (Or.inr ⟨by rfl, rfl⟩) hH ?_; simp only [Act.put, List.setIfInBounds_toArray, List.set_cons_zero, List.set_cons_succ]
            refine wpAnyH_take (i := 25) (oi := { dst := some 62, op := Go.Op.pick (Go.Operand.tmp 52) (Go.Operand.tmp 61) (Go.Operand.const (Go.Value.bool false)), type := 4, pos := "book.go:275", after := #[{ on := 15, ground := Go.Ground.data }, { on := 24, ground := Go.Ground.data }, { on := 9, ground := Go.Ground.guard }], guard := some (9, false) }) (v := ?_) rfl (by kernel_rfl) (by kernel_rfl) (by kernel_rfl) (fun _ _ _ h => h) (Or.inl ⟨by rfl, ?_⟩) hH ?_; rotate_left; (focus (intro wS hSw; (try dsimp only at hSw); go_simp; (try with_reducible rfl))); simp only [Act.put, List.setIfInBounds_toArray, List.set_cons_zero, List.set_cons_succ]
            refine wpAnyH_take (i := 26) (oi := { dst := some 63, op := Go.Op.pick (Go.Operand.tmp 46) (Go.Operand.const (Go.Value.bool true)) (Go.Operand.tmp 62), type := 4, pos := "book.go:275", after := #[{ on := 9, ground := Go.Ground.data }, { on := 25, ground := Go.Ground.data }], guard := none }) (v := ?_) rfl (by kernel_rfl) (by kernel_rfl) (by kernel_rfl) (fun _ _ _ h => h) (Or.inl ⟨by rfl, ?_⟩) hH ?_; rotate_left; (focus (intro wS hSw; (try dsimp only at hSw); go_simp; (try with_reducible rfl))); simp only [Act.put, List.setIfInBounds_toArray, List.set_cons_zero, List.set_cons_succ]
            refine wpAnyH_done (by kernel_rfl) ?_ _
            go_wp2_with fail
            exact ⟨⟨q + 1, by omega, by go_num, hH.1⟩, by simp [intOf]; omega⟩
        · obtain rfl : q = ln i + 40 := by omega
          go_wp2_with fail
          refine ⟨⟨i + 1, hlt, by go_num, OK.out.go⟩, by simp [intOf]; omega⟩
    · obtain rfl : i = m := by omega
      go_wp2_with fail
      go_ret
      exact ⟨rfl, OK.out⟩
end Go.Proofs.YtpnbnomaaeoemaaGreatDoor
