/-
  Walks: markInt, isInt, fillInt, growInt, lookInt, keepInt, over a book of lists of many kinds.
  Conditions: the book, its lists, and what they hold lie in blocks behind a world; no two share a block.
-/
import Derived.Test.YtpmkkgndpfbkdaaGreatDoorBkD
namespace Go.Proofs.YtpmkkgndpfbkdaaGreatDoor.Bk
set_option linter.unusedVariables false
set_option linter.unusedSimpArgs false
open Go.RowKit

/-- The mark's cells. -/
def markIntL (n : Int) : List Value := [.int .i64 (-1000 - n)]

set_option maxHeartbeats 1000000 in
theorem markInt_any (n : Int) (hn : 0 ≤ n ∧ n ≤ 1099511627776) (w : World) : Calls Tryz.prog 73 #[.int .i64 n] w fun e w' => e = .returned (.int .i64 (-1000 - n)) ∧ Below w.heap.size w w' := by
  go_enter Tryz.func73, Tryz.ntmps73
  go_wp2_with fail
  go_ret
  exact ⟨rfl, Below.refl _ _⟩
set_option maxHeartbeats 1000000 in
theorem isInt_any (n : Int) (hn : 0 ≤ n ∧ n ≤ 1099511627776) (w : World) : Calls Tryz.prog 89 #[.int .i64 (-1000 - n), .int .i64 n] w fun e w' => e = .returned (.bool true) ∧ w = w' := by
  go_enter Tryz.func89, Tryz.ntmps89
  go_wp2_with fail
  go_ret
  exact ⟨by simp, rfl⟩

set_option maxRecDepth 100000 in
set_option maxHeartbeats 4000000 in
theorem fillInt_any {K : KTab} {D : BkD} {w0 w : World} (hsz : K.sz 1 = 1) (hmk : ∀ n, K.mark 1 n = markIntL n) (hs : BkS D w0) (hm0 : 0 < D.m 1)
    (hM : ∀ i, i < D.m 1 → ∀ W, BkT D w0 W → Calls Tryz.prog 73 #[.int .i64 (D.N 1 i)] W fun e w' => e = .returned (.int .i64 (-1000 - (D.N 1 i))) ∧ Below W.heap.size W w')
    (h : BkT D w0 w) (hr : RowsF K D w0 (fillF D 1 0 0) w) :
    Calls Tryz.prog 21 #[.pointer (some ⟨D.B, 0, none⟩)] w fun e w' => e = .returned (.tuple #[]) ∧ BkT D w0 w' ∧ RowsF K D w0 (fillF D 2 0 0) w' := by
  have HS := Lib.hid hs
  have OK0 := Lib.hid (And.intro h hr)
  have HM := Lib.hid hM
  have HZ := Lib.hid hsz
  have HK := Lib.hid hmk
  have HM0 := Lib.hid hm0
  clear h hr hs hM hsz hmk hm0
  go_enter Tryz.func21, Tryz.ntmps21
  go_wp2_with fail
  go_loopw [2] (fun i wr => ∃ k : Nat, k ≤ D.m 1 ∧ i = .int .i64 k ∧ BkT D w0 wr ∧ RowsF K D w0 (fillF D 1 k 0) wr) (fun i _ => D.m 1 - (intOf i).toNat)
  case atStart => exact ⟨0, Nat.zero_le _, rfl, OK0.out⟩
  case round =>
    clear OK0
    obtain ⟨i, hi, rfl, ok⟩ := hrel
    have OK := Lib.hid ok
    clear ok
    have b2 := OK.out.1.fld 1 (by decide) (by decide) HM0.out
    have hmc := HS.out.hmc 1
    unfold maxLen at hmc
    obtain ⟨hm1, hm2⟩ := hmc
    by_cases hlt : i < D.m 1
    · have hlt' : (i : Int) < (D.m 1 : Int) := by omega
      have hi0 : (0 : Int) ≤ (i : Int) := by omega
      obtain ⟨e0, ⟨va, vl, vq, e1⟩, e2⟩ := OK.out.1.ent 1 i hlt
      have hln := HS.out.lnb 1 i hlt
      have HF := Lib.hid (FI.start (κ := 1) (i := i) (v := .slice va vl vq) (T' := 74) OK.out.1 OK.out.2)
      go_upto_region 4 with fail
      revert HF
      generalize wr.alloc (.cells #[.slice (D.sa 1 i) (D.ln 1 i) (D.sc 1 i), .slice va vl vq, .int .i64 (D.N 1 i)] 74) = W1
      generalize wr.heap.size = hb
      intro HF
      clear OK e0 e1 e2 b2
      go_wp2_with fail
      go_loopw [4] (fun kk wr => ∃ k : Nat, k ≤ D.ln 1 i ∧ kk = .int .i64 k ∧ FI K D w0 1 i k hb (.slice va vl vq) wr) (fun kk _ => D.ln 1 i - (intOf kk).toNat)
      case atStart => exact ⟨0, Nat.zero_le _, rfl, HF.out⟩
      case round =>
        clear HF
        obtain ⟨k, hk, rfl, ok⟩ := hrel
        have OK := Lib.hid ok
        clear ok
        by_cases hkl : k < D.ln 1 i
        · obtain ⟨g, he, -⟩ := OK.out.rows.at hlt (by omega)
          have hkl' : (k : Int) < (D.ln 1 i : Int) := by omega
          have hk0 : (0 : Int) ≤ (k : Int) := by omega
          have KN : Hid (∀ W, FI K D w0 1 i k hb (.slice va vl vq) W → W.cell? ⟨hb, 0, none⟩ = some (.slice (some ⟨g, 0, none⟩) (D.ln 1 i) (D.sc 1 i)) ∧ W.cell? ⟨hb, 1, none⟩ = some (.slice va vl vq) ∧ W.cell? ⟨hb, 2, none⟩ = some (.int .i64 (D.N 1 i)) ∧ (W.cell? ⟨g, k, none⟩ = some (rs W g (k))) ∧ (W.frozen? ⟨g, k, none⟩ = false)) := fun W h => by
            obtain ⟨q0, q1, q2, q3⟩ := h.cells hlt hkl he
            simp only [HZ.out, Nat.mul_one] at q3
            exact ⟨q0, q1, q2, (q3 0 (by decide)).1, (q3 0 (by decide)).2⟩
          have ST : Hid (∀ W, FI K D w0 1 i k hb (.slice va vl vq) W → FI K D w0 1 i (k + 1) hb (.slice va vl vq) (W.setCell ⟨g, k, none⟩ (.int .i64 (-1000 - (D.N 1 i))))) := fun W h => by
            have q := h.store HS.out hlt he hkl
            rw [HZ.out, HK.out] at q
            rw [Nat.mul_one] at q
            exact q
          have HMi := Lib.hid (fun W (h : FI K D w0 1 i k hb (.slice va vl vq) W) => HM.out i hlt W h.bk)
          obtain ⟨c0, c1, c2, x0, z0⟩ := KN.out _ OK.out
          clear he
          go_upto_region 7 with fail
          go_region_with (go_at_call 73; (with_reducible refine (HMi.out _ ?_).mono ?_); (first | exact OK.out | exact OK.out.below (Below.refl _ _).drew); rintro x w1 ⟨rfl, hb1⟩; (first | replace OK := Lib.hid (OK.out.below hb1) | replace OK := Lib.hid ((OK.out.below (Below.refl _ _).drew).below hb1)); clear hb1; clear c0 c1 c2 x0 z0; obtain ⟨c0, c1, c2, x0, z0⟩ := KN.out _ OK.out)
          all_goals go_wp2_with fail
          all_goals refine ⟨⟨k + 1, hkl, by go_num, ST.out _ OK.out⟩, by simp [intOf]; omega⟩
        · obtain rfl : k = D.ln 1 i := by omega
          have c0 := OK.out.len
          have hkl' : ¬ (D.ln 1 i : Int) < (D.ln 1 i : Int) := by omega
          go_wp2_with fail
          refine ⟨⟨i + 1, hlt, by go_num, OK.out.bk, OK.out.next⟩, by simp [intOf]; omega⟩
    · obtain rfl : i = D.m 1 := by omega
      go_wp2_with fail
      go_end0
      exact ⟨rfl, OK.out.1, fill_next OK.out.2⟩

theorem info_Int : (Tryz.prog.info? 3).map (fun i => (i.zero, i.size, i.bytes)) = some (some (.int .i64 0), 1, 8) := by kernel_rfl
set_option maxRecDepth 100000 in
set_option maxHeartbeats 4000000 in
theorem growInt_any {K : KTab} {D : BkD} {w0 w : World} {ws : Nat} (hty : K.ty 1 = 3) (hsz : K.sz 1 = 1) (hmk : ∀ n, K.mark 1 n = markIntL n) (hs : GS D w0 ws) (hm0 : 0 < D.m 1)
    (hM : ∀ i, i < D.m 1 → ∀ W, BkT D w0 W → Calls Tryz.prog 73 #[.int .i64 (D.N 1 i)] W fun e w' => e = .returned (.int .i64 (-1000 - (D.N 1 i))) ∧ Below W.heap.size W w')
    (h : GO K D w0 ws 1 0 w) :
    Calls Tryz.prog 37 #[.pointer (some ⟨D.B, 0, none⟩)] w fun e w' => e = .returned (.tuple #[]) ∧ GO K D w0 ws 2 0 w' := by
  have HS := Lib.hid hs
  have OK0 := Lib.hid h
  have HM := Lib.hid hM
  have HM0 := Lib.hid hm0
  obtain ⟨i0, hi0, hz0, hz1, hz2⟩ := info_parts info_Int
  have AP : Hid (∀ i q hb v a cp W, GI K D w0 ws 1 i q hb v a cp W → i < D.m 1 → q ≤ 1000 → ∀ (ops : Array Oper) (rest : List Oper) (o : Oper) (act : Act) (Q : Exit → Act → World → Prop) (s x : Operand) (T' : TypeId), o.guard = none → o.op = .call { callee := .builtin .append, args := #[s, x], argTypes := #[26, 26] } → act.eval s = .slice a (D.ln 1 i + q) cp → act.eval x = .slice (some ⟨W.heap.size, 0, none⟩) 1 1 →
      (∀ g cap W', GI K D w0 ws 1 i (q + 1) hb v (some ⟨g, 0, none⟩) cap W' → wpList Tryz.prog ops Q rest (act.put o.dst (.slice (some ⟨g, 0, none⟩) (D.ln 1 i + (q + 1)) cap)) W') → wpList Tryz.prog ops Q (o :: rest) act (W.alloc (.cells #[.int .i64 (-1000 - (D.N 1 i))] T'))) :=
    fun i q hb v a cp W h hi hq ops rest o act Q s x T' hgd ho hse hx hr => append_M hs hi h hq (TS := 26) (cs := markIntL (D.N 1 i)) (by rw [hty]; exact Tryz.underlying26) (by rw [hty]; exact hi0) hz0 (by rw [hsz]; exact hz1) hz2 (by rw [hsz]; rfl) (by rw [hsz]; decide) (by decide) (hmk _) (fun u hu => by simp [markIntL] at hu; subst hu; rfl) hgd s x ho hse T' hx hr
  clear h hs hM hm0 hty hsz hmk hi0 hz0 hz1 hz2
  go_enter Tryz.func37, Tryz.ntmps37
  go_wp2_with fail
  go_loopw [2] (fun i wr => ∃ k : Nat, k ≤ D.m 1 ∧ i = .int .i64 k ∧ GO K D w0 ws 1 k wr) (fun i _ => D.m 1 - (intOf i).toNat)
  case atStart => exact ⟨0, Nat.zero_le _, rfl, OK0.out⟩
  case round =>
    clear OK0
    obtain ⟨i, hi, rfl, ok⟩ := hrel
    have OK := Lib.hid ok
    clear ok
    have b2 := OK.out.bk.fld 1 (by decide) (by decide) HM0.out
    have hmc := HS.out.s.hmc 1
    unfold maxLen at hmc
    obtain ⟨hm1, hm2⟩ := hmc
    by_cases hlt : i < D.m 1
    · have hlt' : (i : Int) < (D.m 1 : Int) := by omega
      have hi0 : (0 : Int) ≤ (i : Int) := by omega
      obtain ⟨e0, ⟨va, vl, vq, e1⟩, e2⟩ := OK.out.bk.ent 1 i hlt
      have hln := HS.out.s.lnb 1 i hlt
      have HF := Lib.hid (GI.start (v := .slice va vl vq) (T' := 74) OK.out hlt)
      go_upto_region 4 with fail
      revert HF
      generalize wr.alloc (.cells #[.slice (D.sa 1 i) (D.ln 1 i) (D.sc 1 i), .slice va vl vq, .int .i64 (D.N 1 i)] 74) = W1
      generalize wr.heap.size = hb
      intro HF
      clear OK e0 e1 e2 b2
      obtain ⟨c0, c2, -⟩ := HF.out.cells (by decide) (by decide) hlt
      go_wp2_with fail
      clear c0 c2
      go_loopw [4, 5] (fun lv kk wr => ∃ (q : Nat) (a : Option Addr) (cp : Nat), q ≤ 40 ∧ kk = .int .i64 q ∧ lv = .slice a (D.ln 1 i + q) cp ∧ GI K D w0 ws 1 i q hb (.slice va vl vq) a cp wr) (fun _ kk _ => 40 - (intOf kk).toNat)
      case atStart => exact ⟨0, _, _, Nat.zero_le _, rfl, rfl, HF.out⟩
      case round =>
        clear HF
        obtain ⟨q, a, cp, hq, rfl, rfl, ok⟩ := hrel
        have OK := Lib.hid ok
        clear ok
        obtain ⟨c0, c2, b2, z1, ⟨a1, l1, q1, e1⟩⟩ := OK.out.cells (by decide) (by decide) hlt
        by_cases hq4 : q < 40
        · have hq4' : (q : Int) < 40 := by omega
          have HMi := Lib.hid (fun W (h : GI K D w0 ws 1 i q hb (.slice va vl vq) a cp W) => HM.out i hlt W h.bk)
          go_wp2_with (first
            | (go_at_call 73; (with_reducible refine (HMi.out _ OK.out).mono ?_); rintro x w1 ⟨rfl, hb1⟩; replace OK := Lib.hid (OK.out.below hb1); clear hb1)
            | (at_builtin; refine AP.out i q hb _ a cp _ OK.out hlt (by omega) _ _ _ _ _ _ _ _ rfl rfl rfl rfl ?_; intro g cap w2 h2; have OK2 := Lib.hid h2; clear h2))
          refine ⟨⟨q + 1, some ⟨g, 0, none⟩, cap, by omega, by go_num, rfl, OK2.out⟩, by simp [intOf]; omega⟩
        · obtain rfl : q = 40 := by omega
          obtain ⟨g, rfl⟩ := OK.out.long.addr (by omega)
          have HE := Lib.hid (OK.out.finish HS.out hlt)
          have hlt' : (i : Int) < (D.m 1 : Int) := by omega
          go_wp2_with fail
          refine ⟨⟨i + 1, hlt, by go_num, HE.out⟩, by simp [intOf]; omega⟩
    · obtain rfl : i = D.m 1 := by omega
      go_wp2_with fail
      go_end0
      exact ⟨rfl, OK.out.next⟩

set_option maxRecDepth 100000 in
set_option maxHeartbeats 4000000 in
theorem lookInt_any {K : KTab} {D : BkD} {w0 w : World} {ws : Nat} (hsz : K.sz 1 = 1) (hmk : ∀ n, K.mark 1 n = markIntL n) (hs : GS D w0 ws) (hm0 : 0 < D.m 1)
    (hI : ∀ i, i < D.m 1 → ∀ W, BkT D w0 W → Calls Tryz.prog 89 #[.int .i64 (-1000 - (D.N 1 i)), .int .i64 (D.N 1 i)] W fun e w' => e = .returned (.bool true) ∧ W = w')
    (h : GO K D w0 ws 17 0 w) :
    Calls Tryz.prog 53 #[.pointer (some ⟨D.B, 0, none⟩)] w fun e w' => e = .returned (.bool true) ∧ GO K D w0 ws 17 0 w' := by
  have HS := Lib.hid hs
  have OK0 := Lib.hid h
  have HI := Lib.hid hI
  have HM0 := Lib.hid hm0
  have HZ := Lib.hid hsz
  have HK := Lib.hid hmk
  clear h hs hI hm0 hsz hmk
  go_enter Tryz.func53, Tryz.ntmps53
  go_wp2_with fail
  go_loopw [3] (fun i wr => ∃ k : Nat, k ≤ D.m 1 ∧ i = .int .i64 k ∧ GO K D w0 ws 17 0 wr) (fun i _ => D.m 1 - (intOf i).toNat)
  case atStart => exact ⟨0, Nat.zero_le _, rfl, OK0.out⟩
  case round =>
    clear OK0
    obtain ⟨i, hi, rfl, ok⟩ := hrel
    have OK := Lib.hid ok
    clear ok
    have b2 := OK.out.bk.fld 1 (by decide) (by decide) HM0.out
    have hmc := HS.out.s.hmc 1
    unfold maxLen at hmc
    obtain ⟨hm1, hm2⟩ := hmc
    by_cases hlt : i < D.m 1
    · have hlt' : (i : Int) < (D.m 1 : Int) := by omega
      have hi0 : (0 : Int) ≤ (i : Int) := by omega
      obtain ⟨e0, -, e2⟩ := OK.out.bk.ent 1 i hlt
      have hln := HS.out.s.lnb 1 i hlt
      obtain ⟨g, cp, e1, hmr, -⟩ := OK.out.done 1 i ⟨hlt, .inl (by decide)⟩
      have HL := Lib.hid (LI.start (T' := 74) OK.out hmr)
      have l0 : (0 : Int) ≤ (D.ln 1 i : Int) := by omega
      have hc40 : ((D.ln 1 i : Int) + 40 != (D.ln 1 i : Int) + 40) = false := by simp
      clear hmr
      go_upto_region 5 with fail
      revert HL
      generalize wr.alloc (.cells #[.slice (D.sa 1 i) (D.ln 1 i) (D.sc 1 i), .slice (some ⟨g, 0, none⟩) (D.ln 1 i + 40) cp, .int .i64 (D.N 1 i)] 74) = W1
      generalize wr.heap.size = hb
      intro HL
      clear OK e0 e1 e2 b2
      obtain ⟨c0, c1, c2⟩ := HL.out.three
      go_wp2_with fail
      clear c0 c1 c2
      go_loopw [5] (fun kk wr => ∃ q : Nat, q ≤ D.ln 1 i + 40 ∧ kk = .int .i64 q ∧ LI K D w0 ws 17 0 1 i hb g cp wr) (fun kk _ => D.ln 1 i + 40 - (intOf kk).toNat)
      case atStart => exact ⟨0, Nat.zero_le _, rfl, HL.out⟩
      case round =>
        clear HL
        obtain ⟨q, hq, rfl, ok⟩ := hrel
        have OK := Lib.hid ok
        clear ok
        obtain ⟨c0, c1, c2⟩ := OK.out.three
        have hq0 : (0 : Int) ≤ (q : Int) := by omega
        by_cases hql : q < D.ln 1 i + 40
        · have hql' : (q : Int) < (D.ln 1 i : Int) + 40 := by omega
          have hql2 : q < D.ln 1 i + 40 := hql
          have HMi := Lib.hid (fun W (h : LI K D w0 ws 17 0 1 i hb g cp W) => HI.out i hlt W h.go.bk)
          have KL : Hid (∀ W, LI K D w0 ws 17 0 1 i hb g cp W → W.cell? ⟨g, q, none⟩ = some (.int .i64 (-1000 - (D.N 1 i)))) := fun W h => by
            have q3 := fun r (hr : r < K.sz 1) => h.long.cell (Nat.le_refl _) hql (r := r) hr
            simp only [HZ.out, HK.out, Nat.mul_one] at q3
            exact (q3 0 (by decide))
          by_cases hqn : q < D.ln 1 i
          · have hqn' : (q : Int) < (D.ln 1 i : Int) := by omega
            obtain ⟨g0, he, -⟩ := RowsF.at (f := D.ln) OK.out.go.rows hlt (by omega)
            have KR : Hid (∀ W, LI K D w0 ws 17 0 1 i hb g cp W → W.cell? ⟨g0, q, none⟩ = some (.int .i64 (-1000 - (D.N 1 i)))) := fun W h => by
              have q3 := fun r (hr : r < K.sz 1) => h.row hlt he hqn (r := r) hr
              simp only [HZ.out, HK.out, Nat.mul_one] at q3
              exact (q3 0 (by decide))
            rw [he] at c0
            clear he
            have dq : decide ((q : Int) < (D.ln 1 i : Int)) = true := decide_eq_true hqn'
            have dq2 : decide (q < D.ln 1 i) = true := decide_eq_true hqn
            have d0 := KL.out _ OK.out
            have f0 := KR.out _ OK.out
            have HMq := Lib.hid (HMi.out _ OK.out)
            have HMq2 := Lib.hid (fun m => HMi.out (wr.drewN m) (OK.out.below (below_drawn _ m)))
            go_upto_region 10 with fail
            go_quiet ((first | (go_at_call 89; exact Calls.quiet_of_same ((HMq.out).mono fun e w' h => ⟨h.1, h.2.symm⟩)) | (go_at_call 89; exact Calls.quiet_of_same ((HMq2.out _).mono fun e w' h => ⟨h.1, h.2.symm⟩))))
            have HL2 := Lib.hid (OK.out.below (below_drawn _ nq))
            go_wp2_with fail
            refine ⟨⟨q + 1, by omega, by go_num, HL2.out⟩, by simp [intOf]; omega⟩
          · have hqn' : ¬ (q : Int) < (D.ln 1 i : Int) := by omega
            have dq : decide ((q : Int) < (D.ln 1 i : Int)) = false := decide_eq_false hqn'
            have dq2 : decide (q < D.ln 1 i) = false := decide_eq_false hqn
            have d0 := KL.out _ OK.out
            have HMq := Lib.hid (HMi.out _ OK.out)
            have HMq2 := Lib.hid (fun m => HMi.out (wr.drewN m) (OK.out.below (below_drawn _ m)))
            go_upto_region 10 with fail
            go_quiet ((first | (go_at_call 89; exact Calls.quiet_of_same ((HMq.out).mono fun e w' h => ⟨h.1, h.2.symm⟩)) | (go_at_call 89; exact Calls.quiet_of_same ((HMq2.out _).mono fun e w' h => ⟨h.1, h.2.symm⟩))))
            have HL2 := Lib.hid (OK.out.below (below_drawn _ nq))
            go_wp2_with fail
            refine ⟨⟨q + 1, by omega, by go_num, HL2.out⟩, by simp [intOf]; omega⟩
        · obtain rfl : q = D.ln 1 i + 40 := by omega
          go_wp2_with fail
          refine ⟨⟨i + 1, hlt, by go_num, OK.out.go⟩, by simp [intOf]; omega⟩
    · obtain rfl : i = D.m 1 := by omega
      go_wp2_with fail
      go_ret
      exact ⟨rfl, OK.out⟩

theorem info_heldInt : (Tryz.prog.info? 74).map (fun i => (i.zero, i.size, i.bytes)) = some (some (.agg #[.slice none 0 0, .slice none 0 0, .int .i64 0]), 3, 56) := by kernel_rfl
set_option maxRecDepth 100000 in
set_option maxHeartbeats 4000000 in
theorem keepInt_any {ht : Nat → TypeId} {w0 w : World} {B : Nat} {m : Nat → Nat} {S : Nat → Nat → Value} {N : Nat → Nat → Int} {n : Int} {v : Nat → Value} (hht : ht 1 = 74) (h : BM ht w0 B m S N n v w) (hm : m 1 ≤ 1099511627776) (hn : 0 ≤ n ∧ n ≤ 1099511627776) {a : Option Addr} {l q : Nat} (hS : S 1 (m 1) = .slice a l q) (hN : N 1 (m 1) = n + 1) :
    Calls Tryz.prog 20 #[.pointer (some ⟨B, 0, none⟩), .slice a l q] w fun e w' => e = .returned (.tuple #[]) ∧ ∃ b c, BM ht w0 B (at1 m 1 (m 1 + 1)) S N (n + 1) (at1 v 1 (.slice (some ⟨b, 0, none⟩) (m 1 + 1) c)) w' := by
  have hw : IntKind.i64.wrap (n + 1) = n + 1 := IntWalk.i64_in _ (by omega)
  obtain ⟨nn, hnn⟩ : ∃ k, n + 1 = k := ⟨_, rfl⟩
  have OK0 := Lib.hid (h.count nn)
  have c0 := h.num
  have z0 := h.frz 0
  have hw2 : IntKind.i64.wrap (n + 1) = nn := by rw [hw, hnn]
  rw [hnn] at hN ⊢
  obtain ⟨i0, hi0, hz0, hz1, hz2⟩ := info_parts info_heldInt
  rw [← hht] at hi0
  have HU : Hid (Tryz.prog.underlying 30 = some (.slice (ht 1))) := Lib.hid (by rw [hht]; exact Tryz.underlying30)
  have HI := Lib.hid (And.intro hi0 (And.intro hz0 (And.intro hz1 hz2)))
  clear h hn hnn hw hi0 hz0 hz1 hz2 hht
  go_enter Tryz.func20, Tryz.ntmps20
  go_upto_region 1 with fail
  clear c0 z0
  have OK := OK0.out
  revert OK
  generalize w.setCell ⟨B, 0, none⟩ (.int .i64 nn) = W1
  intro OK1
  clear OK0
  have OK := Lib.hid OK1
  clear OK1
  have c0 := OK.out.num
  have c2 := OK.out.fld 1 (by decide) (by decide)
  have d0 := (OK.out.below (below_alloc _ (.cells #[.slice a l q, .slice none 0 0, .int .i64 nn] 74))).num
  have d2 := (OK.out.below (below_alloc _ (.cells #[.slice a l q, .slice none 0 0, .int .i64 nn] 74))).fld 1 (by decide) (by decide)
  have HS := Lib.hid hS
  have HN := Lib.hid hN
  clear hS hN
  go_region_law ((first | (refine append_K (κ := 1) (by decide) (by decide) OK.out hm HU.out HI.out.1 HI.out.2.1 HI.out.2.2.1 HI.out.2.2.2 (by rfl) _ _ (by rfl) (by rfl) _ HS.out HN.out (by rfl) ?_) | (refine append_K (κ := 1) (by decide) (by decide) OK.out.drew hm HU.out HI.out.1 HI.out.2.1 HI.out.2.2.1 HI.out.2.2.2 (by rfl) _ _ (by rfl) (by rfl) _ HS.out HN.out (by rfl) ?_)); intro b c w2 hc hz hk; have HK := Lib.hid hk; have z2 := hz 1; have e2 := hc 1 _ (OK.out.fld 1 (by decide) (by decide)); clear hk hc hz)
  all_goals go_wp2_with fail
  all_goals go_end0
  all_goals exact ⟨rfl, b, c, HK.out⟩

set_option maxHeartbeats 1000000 in
theorem ints'_any {ht : Nat → TypeId} {w0 w : World} {B : Nat} {m : Nat → Nat} {S : Nat → Nat → Value} {N : Nat → Nat → Int} {n : Int} {v : Nat → Value} (hht : ht 1 = 74) (h : BM ht w0 B m S N n v w) (hm : m 1 ≤ 1099511627776) (hn : 0 ≤ n ∧ n ≤ 1099511627776) {a : Option Addr} {l q : Nat} (hS : S 1 (m 1) = .slice a l q) (hN : N 1 (m 1) = n + 1) :
    Calls Tryz.prog 11 #[.pointer (some ⟨B, 0, none⟩), .slice a l q] w fun e w' => e = .returned (.tuple #[]) ∧ ∃ b c, BM ht w0 B (at1 m 1 (m 1 + 1)) S N (n + 1) (at1 v 1 (.slice (some ⟨b, 0, none⟩) (m 1 + 1) c)) w' := by
  have HK := Lib.hid (keepInt_any hht h hm hn hS hN)
  clear h hS hN hht
  go_enter Tryz.func11, Tryz.ntmps11
  go_wp2_with (go_at_call 20; (with_reducible refine HK.out.mono ?_); rintro x w1 ⟨rfl, h1⟩; have H1 := Lib.hid h1; clear h1)
  go_end0
  exact ⟨rfl, H1.out⟩
end Go.Proofs.YtpmkkgndpfbkdaaGreatDoor.Bk
