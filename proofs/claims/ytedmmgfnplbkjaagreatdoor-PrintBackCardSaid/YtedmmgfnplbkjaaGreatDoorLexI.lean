/-
  Walks: (*reader).idle: all that is idle is passed over, its bytes 10 are counted.
  Conditions: the reader lies in block R; the text is no longer than the reach.
-/
import Derived.Test.YtedmmgfnplbkjaaGreatDoorLexL
import Derived.Deep.RegionLaw
import Derived.IntWalk
namespace Go.Proofs.YtedmmgfnplbkjaaGreatDoor
open Go.RowKit
def Kp (R : Nat) (w w' : World) : Prop := Below R w w' ∧ ∀ k, R < k → k < w.heap.size → w'.heap[k]? = w.heap[k]?
theorem Kp.refl (R : Nat) (w : World) : Kp R w w := ⟨Below.refl _ _, fun _ _ _ => rfl⟩
theorem Kp.trans {R : Nat} {a b c : World} (h : Kp R a b) (k : Kp R b c) : Kp R a c := ⟨h.1.trans k.1, fun j h1 h2 => (k.2 j h1 (Nat.lt_of_lt_of_le h2 h.1.size)).trans (h.2 j h1 h2)⟩
theorem Kp.of_below {R : Nat} {w w' : World} (h : Below w.heap.size w w') (hR : R ≤ w.heap.size) : Kp R w w' := ⟨h.mono hR, fun k _ h2 => h.block k h2⟩
theorem Kp.set (R : Nat) {q : Nat} (v : Value) (w : World) : Kp R w (w.setCell ⟨R, q, none⟩ v) :=
  ⟨(Below.refl R w).setCell (p := ⟨R, q, none⟩) (Nat.le_refl _) v, fun k h1 _ => Below.heap_setCell _ _ _ _ (by show k ≠ R; omega)⟩
theorem Kp.alloc (R : Nat) (o : Obj) (w : World) (hR : R ≤ w.heap.size) : Kp R w (w.alloc o) :=
  Kp.of_below ((Below.refl _ _).alloc (Nat.le_refl _) _) hR
theorem Kp.cut {R : Nat} {w w1 w' : World} (h : Kp R w w1) (hR : R ≤ w.heap.size) (k : Below w.heap.size w1 w' ) : Kp R w w' :=
  ⟨h.1.trans (k.mono hR), fun j h1 h2 => (k.block j h2).trans (h.2 j h1 h2)⟩
def BoolAt (q : Nat) (b : Bool) (w : World) : Prop := w.heap[q]? = some (.cells #[.bool b] 4 (0, 0))
theorem BoolAt.c0 {q : Nat} {b : Bool} {w : World} (h : BoolAt q b w) : w.cell? ⟨q, 0, none⟩ = some (.bool b) := by rw [Lib.cell_of_heap h]; rfl
theorem BoolAt.f0 {q : Nat} {b : Bool} {w : World} (h : BoolAt q b w) : w.frozen? ⟨q, 0, none⟩ = false := Lib.frozen_of_heap h 0
theorem BoolAt.put {q : Nat} {a b : Bool} {w : World} (h : BoolAt q a w) : BoolAt q b (w.setCell ⟨q, 0, none⟩ (.bool b)) := by
  unfold BoolAt at h ⊢
  simp [World.setCell, Array.getElem?_modify, h]
def nxt (b : Bool) (c : UInt8) : Bool := if b then c.toNat != 10 else c.toNat == 59
def yes (b : Bool) (c : UInt8) : Bool := b || c.toNat == 59 || LX.isBlank c
def stN : Bool → List UInt8 → Nat → Bool
  | b, _, 0 => b
  | b, [], _ + 1 => b
  | b, c :: t, n + 1 => stN (nxt b c) t n
theorem idle_run : ∀ (l : List UInt8) (b : Bool) (n : Nat) (h : n < l.length), stN b l (n + 1) = nxt (stN b l n) l[n] ∧ (n < LX.idleN b l → yes (stN b l n) l[n] = true) ∧ (n = LX.idleN b l → yes (stN b l n) l[n] = false)
  | [], b, n, h => by simp at h
  | c :: t, b, 0, h => by
    refine ⟨by simp [stN], fun hn => ?_, fun hn => ?_⟩
    · cases b
      · simp only [LX.idleN] at hn
        simp only [stN, List.getElem_cons_zero, yes]
        split at hn
        · rename_i h1; simp [h1]
        split at hn
        · rename_i h1; simp [h1]
        · omega
      · simp [stN, yes]
    · cases b
      · simp only [LX.idleN] at hn
        simp only [stN, List.getElem_cons_zero, yes]
        split at hn
        · omega
        split at hn
        · omega
        · rename_i h1 h2; simp [h1, h2]
      · simp [LX.idleN] at hn
  | c :: t, b, n + 1, h => by
    have hl : n < t.length := by simpa using h
    have ih := idle_run t (nxt b c) n hl
    refine ⟨by simpa [stN] using ih.1, fun hn => ?_, fun hn => ?_⟩
    · have := ih.2.1 (by
        cases b
        · simp only [LX.idleN] at hn
          simp only [nxt, Bool.false_eq_true, if_false]
          split at hn
          · rename_i h1; simp only [h1, beq_self_eq_true]; omega
          split at hn
          · rename_i h1 h2; rw [show (c.toNat == 59) = false by simpa using h1]; omega
          · omega
        · simp only [LX.idleN] at hn
          simp only [nxt, if_true]
          omega)
      simpa [stN] using this
    · have := ih.2.2 (by
        cases b
        · simp only [LX.idleN] at hn
          simp only [nxt, Bool.false_eq_true, if_false]
          split at hn
          · rename_i h1; simp only [h1, beq_self_eq_true]; omega
          split at hn
          · rename_i h1 h2; rw [show (c.toNat == 59) = false by simpa using h1]; omega
          · omega
        · simp only [LX.idleN] at hn
          simp only [nxt, if_true]
          omega)
      simpa [stN] using this
theorem kind_rem (c : UInt8) : (LX.kindN c == 2) = (c.toNat == 59) := by
  rw [Bool.eq_iff_iff, beq_iff_eq, beq_iff_eq, kindN_eq]
  (repeat' split) <;> omega
theorem kind_blank (c : UInt8) : (LX.kindN c == 1) = LX.isBlank c := by
  rw [Bool.eq_iff_iff, beq_iff_eq, kindN_eq]
  simp only [LX.isBlank, Bool.or_eq_true, beq_iff_eq]
  (repeat' split) <;> omega
theorem cast_beq (a b : Nat) : ((a : Int) == (b : Int)) = (a == b) := by
  rw [Bool.eq_iff_iff, beq_iff_eq, beq_iff_eq]; omega
set_option maxRecDepth 100000 in
set_option maxHeartbeats 4000000 in
theorem idle1_any (c : UInt8) (q : Nat) (b : Bool) (w : World) (h : BoolAt q b w) :
    Calls Tryz.prog 57 #[.int .u8 c.toNat, .pointer (some ⟨q, 0, none⟩)] w fun e w' => e = .returned (.bool (yes b c)) ∧ w' = w.setCell ⟨q, 0, none⟩ (.bool (nxt b c)) := by
  have c0 := h.c0
  have f0 := h.f0
  have HK := Lib.hid (kindOf_any c w)
  clear h
  cases b
  · have k1 := kind_rem c
    have k2 := kind_blank c
    have k1' : ((LX.kindN c : Int) == 2) = (LX.kindN c == 2) := cast_beq (LX.kindN c) 2
    have k2' : ((LX.kindN c : Int) == 1) = (LX.kindN c == 1) := cast_beq (LX.kindN c) 1
    rw [k1] at k1'
    rw [k2] at k2'
    obtain ⟨k, hk⟩ : ∃ k, LX.kindN c = k := ⟨_, rfl⟩
    rw [hk] at HK k1' k2'
    obtain ⟨x, hx⟩ : ∃ x, (c.toNat == 59) = x := ⟨_, rfl⟩
    obtain ⟨y, hy⟩ : ∃ y, LX.isBlank c = y := ⟨_, rfl⟩
    have HF : Hid (nxt false c = x ∧ yes false c = (x || y)) := by
      refine ⟨?_, ?_⟩
      · simp only [nxt, Bool.false_eq_true, if_false]; exact hx
      · simp only [yes, Bool.false_or, hx, hy]
    rw [HF.out.1, HF.out.2]
    rw [hx] at k1'
    rw [hy] at k2'
    clear hk hx hy k1 k2 HF
    cases x
    · go_enter Tryz.func57, Tryz.ntmps57
      go_wp2_with (go_at_call 58; (with_reducible refine HK.out.mono ?_); rintro e w1 ⟨rfl, rfl⟩)
      go_ret
      exact ⟨rfl, rfl⟩
    · go_enter Tryz.func57, Tryz.ntmps57
      go_wp2_with (go_at_call 58; (with_reducible refine HK.out.mono ?_); rintro e w1 ⟨rfl, rfl⟩)
      go_ret
      exact ⟨rfl, rfl⟩
  · have k1 := cast_beq c.toNat 10
    obtain ⟨x, hx⟩ : ∃ x, (c.toNat != 10) = x := ⟨_, rfl⟩
    have k2 : (((c.toNat : Int) != 10)) = x := by rw [← hx]; simp only [bne, ← k1]; rfl
    have HF : Hid (nxt true c = x ∧ yes true c = true) := by
      refine ⟨?_, ?_⟩
      · simp only [nxt, if_true]; exact hx
      · simp [yes]
    rw [HF.out.1, HF.out.2]
    clear hx k1 HF
    go_enter Tryz.func57, Tryz.ntmps57
    go_wp2
    go_ret
    exact ⟨rfl, rfl⟩
theorem get_list (s : ByteArray) (n : Nat) (h : n < s.size) : s.data.toList[n]'(by simpa using h) = s[n] := by
  rw [Array.getElem_toList]; rfl
theorem eatIdle_any (R : Nat) (s : ByteArray) (ln : Int) (w : World) (q : Nat) (hs : s.size ≤ 140737488355328) (hr : RdAt R s ln w) (hq : BoolAt q false w) (hRq : R < q) :
    Calls Tryz.prog 56 #[.pointer (some ⟨R, 0, none⟩), .func (.func 57) #[] #[.pointer (some ⟨q, 0, none⟩)]] w fun e w' =>
      e = .returned (.string (s.extract 0 (LX.idleN false s.data.toList))) ∧ RdAt R (s.extract (LX.idleN false s.data.toList) s.size) ln w' ∧ (Below R w w' ∧ ∀ k, R < k → k < q → w'.heap[k]? = w.heap[k]?) := by
  have hN := LX.idleN_le false s.data.toList
  have hsz : s.data.toList.length = s.size := by simp
  have hstep : ∀ b n W, n < s.size → RdAt R s ln W ∧ BoolAt q (stN false s.data.toList n) W ∧ (Below R w W ∧ ∀ k, R < k → k < q → W.heap[k]? = w.heap[k]?) →
      RdAt R s ln (W.setCell ⟨q, 0, none⟩ (.bool b)) ∧ BoolAt q b (W.setCell ⟨q, 0, none⟩ (.bool b)) ∧ (Below R w (W.setCell ⟨q, 0, none⟩ (.bool b)) ∧ ∀ k, R < k → k < q → (W.setCell ⟨q, 0, none⟩ (.bool b)).heap[k]? = w.heap[k]?) := by
    rintro b n W hn ⟨h1, h2, h3, h4⟩
    refine ⟨?_, h2.put, h3.setCell (p := ⟨q, 0, none⟩) (by show R ≤ q; omega) _, fun k k1 k2 => ?_⟩
    · unfold RdAt at h1 ⊢
      rw [Below.heap_setCell _ _ _ _ (by show R ≠ q; omega)]; exact h1
    · rw [Below.heap_setCell _ _ _ _ (by show k ≠ q; omega)]; exact h4 k k1 k2
  refine (eat_idle R (LX.idleN false s.data.toList) s ln (.pointer (some ⟨q, 0, none⟩)) w
    (fun n W => RdAt R s ln W ∧ BoolAt q (stN false s.data.toList n) W ∧ (Below R w W ∧ ∀ k, R < k → k < q → W.heap[k]? = w.heap[k]?))
    (fun W => RdAt R s ln W ∧ (Below R w W ∧ ∀ k, R < k → k < q → W.heap[k]? = w.heap[k]?)) hs (by omega) (fun n W h => h.1) (fun W h => h.1) ?_ ?_ ?_ ?_).mono ?_
  · intro n W hn hlt h
    have hr := idle_run s.data.toList false n (by omega)
    rw [get_list s n hn] at hr
    refine (idle1_any s[n] q _ W h.2.1).mono ?_
    rintro e w' ⟨rfl, rfl⟩
    exact ⟨ret_bool (hr.2.1 hlt), by have := hstep (nxt (stN false s.data.toList n) s[n]) n W hn h; rwa [← hr.1] at this ⊢⟩
  · intro W hn h
    have hr := idle_run s.data.toList false (LX.idleN false s.data.toList) (by omega)
    rw [get_list s _ hn] at hr
    refine (idle1_any s[LX.idleN false s.data.toList] q _ W h.2.1).mono ?_
    rintro e w' ⟨rfl, rfl⟩
    have := hstep (nxt (stN false s.data.toList (LX.idleN false s.data.toList)) s[LX.idleN false s.data.toList]) _ W hn h
    exact ⟨ret_bool (hr.2.2 rfl), this.1, this.2.2⟩
  · intro _ W h
    exact ⟨h.1, h.2.2⟩
  · exact ⟨hr, by rw [stN]; exact hq, Below.refl _ _, fun _ _ _ => rfl⟩
  · rintro e w' ⟨W, rfl, ⟨h1, h2, h3⟩, rfl⟩
    refine ⟨rfl, h1.put0, h2.setCell (p := ⟨R, 0, none⟩) (Nat.le_refl _) _, fun k k1 k2 => ?_⟩
    rw [Below.heap_setCell _ _ _ _ (by show k ≠ R; omega)]
    exact h3 k k1 k2
set_option maxRecDepth 100000 in
set_option maxHeartbeats 4000000 in
theorem idle_any (R : Nat) (s : ByteArray) (ln : Int) (w : World) (hs : s.size ≤ 140737488355328) (hr : RdAt R s ln w) (h0 : 0 ≤ ln) (h1 : ln ≤ 140737488355328) :
    Calls Tryz.prog 38 #[.pointer (some ⟨R, 0, none⟩)] w fun e w' =>
      e = .returned (.tuple #[]) ∧ RdAt R (s.extract (LX.idleN false s.data.toList) s.size) (ln + LX.cnt (s.data.toList.take (LX.idleN false s.data.toList))) w' ∧ Kp R w w' := by
  have hR := hr.lt
  have HEat := Lib.hid (eatIdle_any R s ln (w.alloc (.cells #[.bool false] 4)).drew w.heap.size hs (show RdAt R s ln (w.alloc (.cells #[.bool false] 4)) by unfold RdAt at hr ⊢; rw [Below.heap_alloc _ _ _ hR]; exact hr) (heap_alloc_new w (.cells #[.bool false] 4)) hR)
  have HLines := Lib.hid (fun W => lines_any (s.extract 0 (LX.idleN false s.data.toList)) W (by have := LX.idleN_le false s.data.toList; simp at this ⊢; omega))
  have hx : (s.extract 0 (LX.idleN false s.data.toList)).data.toList = s.data.toList.take (LX.idleN false s.data.toList) := by rw [Lib.extract_data]; simp
  rw [hx] at HLines
  have hc : LX.cnt (s.data.toList.take (LX.idleN false s.data.toList)) ≤ 140737488355328 := by
    have h1 := List.countP_le_length (p := fun c : UInt8 => c.toNat == 10) (l := s.data.toList.take (LX.idleN false s.data.toList))
    have h2 : (s.data.toList.take (LX.idleN false s.data.toList)).length ≤ s.data.toList.length := by rw [List.length_take]; omega
    have h3 : s.data.toList.length = s.size := by simp
    unfold LX.cnt; omega
  generalize LX.cnt (s.data.toList.take (LX.idleN false s.data.toList)) = c at HLines hc ⊢
  generalize s.extract 0 (LX.idleN false s.data.toList) = x at HEat HLines
  generalize s.extract (LX.idleN false s.data.toList) s.size = y at HEat ⊢
  have HR0 := Lib.hid (show (w.alloc (.cells #[.bool false] 4)).cell? ⟨R, 1, none⟩ = some (.int .i64 ln) from RdAt.c1 (s := s) (by unfold RdAt at hr ⊢; rw [Below.heap_alloc _ _ _ hR]; exact hr))
  have HRR := Lib.hid hR
  have hS : IntKind.i64.wrap (ln + (c : Int)) = ln + (c : Int) := IntWalk.i64_in _ (by omega)
  have HS := Lib.hid hS
  clear hr hs hx hS h0 h1 hc
  go_enter Tryz.func38, Tryz.ntmps38
  go_wp2
  have r1 := HR0.out
  have hS := HS.out
  go_region_with (first
    | (go_at_call 56; (with_reducible refine HEat.out.mono ?_); rintro e w1 ⟨rfl, hr1, hb1⟩; (have HA := Lib.hid (And.intro hr1 hb1)); (have r2 := hr1.c1); clear hr1 hb1)
    | (go_at_call 55; (with_reducible refine (HLines.out _).mono ?_); rintro e w2 ⟨rfl, hb2⟩; (have HB := Lib.hid (And.intro (HA.out.1.below hb2 HA.out.1.lt) hb2)); (have r3 := HB.out.1.c1); (have f3 := HB.out.1.f1); clear hb2))
  all_goals
    go_end0
    refine ⟨rfl, HB.out.1.put1, ?_⟩
    have hlt := HRR.out
    have hbA := HA.out.2
    have hlt1 := HA.out.1.lt
    have hsz : w.heap.size + 1 ≤ w1.heap.size := by have := hbA.1.size; simpa using this
    refine Kp.trans (Kp.trans (b := w1) ⟨(((Below.refl R w).alloc (by omega) _).drew).trans hbA.1, fun k k1 k2 => (hbA.2 k k1 k2).trans (Below.heap_alloc _ _ _ k2)⟩ (Kp.of_below HB.out.2 (by omega))) (Kp.set R _ _)
end Go.Proofs.YtedmmgfnplbkjaaGreatDoor
