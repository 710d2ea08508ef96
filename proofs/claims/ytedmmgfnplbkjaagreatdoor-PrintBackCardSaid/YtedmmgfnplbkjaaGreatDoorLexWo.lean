/-
  Walks: lex.Words answers what 'lex' says: the words in a row of their own, or the line.
  Conditions: the package's variables hold what the program's text lays in them; the text is no longer than the reach.
-/
import Derived.Test.YtedmmgfnplbkjaaGreatDoorLexV
namespace Go.Proofs.YtedmmgfnplbkjaaGreatDoor
open Go.RowKit
def wCells (x : LX.LW) : List Value := [.int .u8 x.k, .string ⟨x.s.toArray⟩, .int .i64 x.n, .int .i64 x.line]
def flatW (ws : List LX.LW) : List Value := ws.flatMap wCells
theorem flatW_snoc (ws : List LX.LW) (x : LX.LW) : flatW (ws ++ [x]) = flatW ws ++ wCells x := by simp [flatW]
theorem app_cons (ws : List LX.LW) (x : LX.LW) (r : LX.Res) : (r.cons x).app ws = r.app (ws ++ [x]) := by cases r <;> simp [LX.Res.cons, LX.Res.app]
theorem ownsRow_keep {w w' : World} {base : Nat} {e : TypeId} {size : Nat} {v : Value} {n : Nat} {xs : List Value} (h : w.ownsRow base e size v n xs) (hk : ∀ k, base ≤ k → k < w.heap.size → w'.heap[k]? = w.heap[k]?) : w'.ownsRow base e size v n xs := by
  refine ⟨h.1, ?_⟩
  rcases h.2 with h | ⟨g, cap, cur, hv, hb, hg, hr⟩
  · exact .inl h
  · refine .inr ⟨g, cap, cur, hv, hb, ?_, hr⟩
    rw [hk g hb (lt_of_block hg)]; exact hg
def PostWords (r : LX.Res) (w : World) (e : Ending) (w' : World) : Prop :=
  (match r with
  | .err n => e = .returned (.tuple #[.slice none 0 0, .int .i64 n, .int .i64 4])
  | .ok ws => ∃ v, e = .returned (.tuple #[v, .int .i64 0, .int .i64 0]) ∧ w'.ownsRow (w.heap.size + 1) 90 4 v ws.length (flatW ws)) ∧ Below w.heap.size w w'
def AtHead (l : List UInt8) (w0 : World) (v : Value) (wr : World) : Prop :=
  ∃ (ws : List LX.LW) (s : ByteArray) (ln : Nat), RdAt w0.heap.size s ln wr ∧ wr.ownsRow (w0.heap.size + 1) 90 4 v ws.length (flatW ws) ∧ LX.lex 0 l = (LX.lex ln s.data.toList).app ws ∧
    (s.data.toList = [] ∨ ∃ c t, s.data.toList = c :: t ∧ LX.nonIdle c) ∧ Below w0.heap.size w0 wr ∧ LTabs wr ∧ ws.length + s.size ≤ l.length ∧ ln + s.size ≤ l.length
def restSize (R : Nat) (w : World) : Nat := match w.heap[R]? with
  | some (Obj.cells cs _ _) => (match cs[0]? with | some (Value.string s) => s.size | _ => 0)
  | _ => 0
theorem RdAt.rest {R : Nat} {s : ByteArray} {ln : Int} {w : World} (h : RdAt R s ln w) : restSize R w = s.size := by
  unfold RdAt at h
  simp [restSize, h]
theorem AtHead.idle {l : List UInt8} {w0 : World} {v : Value} {ws : List LX.LW} {s : ByteArray} {ln : Nat} {wr w' : World}
    (hown : wr.ownsRow (w0.heap.size + 1) 90 4 v ws.length (flatW ws)) (hl : LX.lex 0 l = (LX.lex ln s.data.toList).app ws) (hb : Below w0.heap.size w0 wr) (ht : LTabs wr) (hg : GB w0.heap.size) (h1 : ws.length + s.size ≤ l.length) (h2 : ln + s.size ≤ l.length)
    (hr' : RdAt w0.heap.size (s.extract (LX.idleN false s.data.toList) s.size) ((ln : Int) + LX.cnt (s.data.toList.take (LX.idleN false s.data.toList))) w') (hk : Kp w0.heap.size wr w') : AtHead l w0 v w' ∧ restSize w0.heap.size w' ≤ s.size := by
  have hx := ext_list s (LX.idleN false s.data.toList)
  have hi := LX.idleN_le false s.data.toList
  have hc : LX.cnt (s.data.toList.take (LX.idleN false s.data.toList)) ≤ LX.idleN false s.data.toList := by
    have h1 := List.countP_le_length (p := fun c : UInt8 => c.toNat == 10) (l := s.data.toList.take (LX.idleN false s.data.toList))
    have h2 : (s.data.toList.take (LX.idleN false s.data.toList)).length ≤ LX.idleN false s.data.toList := List.length_take_le _ _
    unfold LX.cnt; omega
  have hz : (s.extract (LX.idleN false s.data.toList) s.size).size = s.size - LX.idleN false s.data.toList := by simp
  have hlen : s.data.toList.length = s.size := by simp
  refine ⟨⟨ws, s.extract (LX.idleN false s.data.toList) s.size, ln + LX.cnt (s.data.toList.take (LX.idleN false s.data.toList)), by rw [Int.natCast_add]; exact hr', ownsRow_keep hown (fun k k1 k2 => hk.2 k (by omega) k2), ?_, ?_, hb.trans hk.1, ht.below hk.1 hg, by omega, by omega⟩, by rw [hr'.rest]; omega⟩
  · rw [hl, hx, (LX.idle_lex ln s.data.toList).1]
  · rw [hx]; exact LX.idle_head false s.data.toList
theorem head_word {l : List UInt8} {ws : List LX.LW} {s : ByteArray} {ln m : Nat} {x : LX.LW}
    (hw : LX.word s.data.toList = some (x, m)) (hh : s.data.toList = [] ∨ ∃ c t, s.data.toList = c :: t ∧ LX.nonIdle c)
    (hl : LX.lex 0 l = (LX.lex ln s.data.toList).app ws) (h1 : ws.length + s.size ≤ l.length) (h2 : ln + s.size ≤ l.length) :
    LX.lex 0 l = (LX.lex ln (s.extract m s.size).data.toList).app (ws ++ [{ x with line := ln }]) ∧ (ws ++ [{ x with line := ln }]).length + (s.extract m s.size).size ≤ l.length ∧ ln + (s.extract m s.size).size ≤ l.length ∧ (s.extract m s.size).size < s.size := by
  have hm := LX.word_pos hw
  have hz : (s.extract m s.size).size = s.size - m := by simp
  have hlen : s.data.toList.length = s.size := by simp
  rcases hh with h | ⟨c, t, h, hi⟩
  · rw [h] at hw; cases hw
  · have hp : 0 < s.size := by rw [← hlen, h]; simp
    refine ⟨?_, by simp only [List.length_append, List.length_singleton]; omega, by omega, by omega⟩
    rw [hl, ext_list, ← app_cons]
    rw [h] at hw ⊢
    rw [LX.lex_word _ _ _ _ _ hi hw]
theorem info_word : (Tryz.prog.info? 90).map (fun i => (i.zero, i.size, i.bytes)) = some (some (.agg #[.int .u8 0, .string ⟨#[]⟩, .int .i64 0, .int .i64 0]), 4, 40) := by kernel_rfl
set_option maxRecDepth 100000 in
set_option maxHeartbeats 8000000 in
theorem words_big (s : ByteArray) (w : World) (hs : 65536 < s.size) (hr : s.size ≤ 140737488355328) :
    Calls Tryz.prog 23 #[.string s] w fun e w' => e = .returned (.tuple #[.slice none 0 0, .int .i64 0, .int .i64 3]) ∧ w = w' := by
  have g : (65536 : Int) < (s.size : Int) := by omega
  have g2 : (s.size : Int) ≤ 140737488355328 := by omega
  go_enter Tryz.func23, Tryz.ntmps23
  go_wp2
  go_ret3
  exact ⟨rfl, rfl⟩
set_option maxRecDepth 100000 in
set_option maxHeartbeats 8000000 in
theorem words_any (s : ByteArray) (w : World) (hs : s.size ≤ 65536) (ht : LTabs w) :
    Calls Tryz.prog 23 #[.string s] w (PostWords (LX.lex 0 s.data.toList) w) := by
  have hlen : s.data.toList.length = s.size := by simp
  have hg := ht.gb
  have hr0 : RdAt w.heap.size s 0 (w.alloc (.cells #[.string s, .int .i64 0] 87)) := heap_alloc_new _ _
  have hb0 : Below w.heap.size w (w.alloc (.cells #[.string s, .int .i64 0] 87)) := (Below.refl _ _).alloc (Nat.le_refl _) _
  have HI0 := Lib.hid (idle_any w.heap.size s 0 _ (by omega) hr0 (by omega) (by omega))
  have H0 : Hid (∀ w', RdAt w.heap.size (s.extract (LX.idleN false s.data.toList) s.size) (0 + LX.cnt (s.data.toList.take (LX.idleN false s.data.toList))) w' → Kp w.heap.size (w.alloc (.cells #[.string s, .int .i64 0] 87)) w' → AtHead s.data.toList w (.slice none 0 0) w') := by
    intro w' h1 h2
    refine (AtHead.idle (ws := []) (ln := 0) (World.ownsRow_nil _ _ _ _) ?_ hb0 (ht.below hb0 hg) hg (by simp) (by simp) h1 h2).1
    cases LX.lex 0 s.data.toList <;> simp [LX.Res.app]
  obtain ⟨l, hl⟩ : ∃ l, s.data.toList = l := ⟨_, rfl⟩
  rw [hl] at hlen
  have HLL := Lib.hid hlen
  have HG := Lib.hid hg
  have g : ¬ (65536 : Int) < (s.size : Int) := by omega
  have g2 : (s.size : Int) ≤ 65536 := by omega
  have HPE : Hid (∀ n w', LX.lex 0 l = .err n → Below w.heap.size w w' → PostWords (LX.lex 0 l) w (.returned (.tuple #[.slice none 0 0, .int .i64 (n : Nat), .int .i64 4])) w') := fun n w' h1 h2 => by rw [h1]; exact ⟨rfl, h2⟩
  have HPO : Hid (∀ ws v w', LX.lex 0 l = .ok ws → w'.ownsRow (w.heap.size + 1) 90 4 v ws.length (flatW ws) → Below w.heap.size w w' → PostWords (LX.lex 0 l) w (.returned (.tuple #[v, .int .i64 0, .int .i64 0])) w') := fun ws v w' h1 h2 h3 => by rw [h1]; exact ⟨⟨v, rfl, h2⟩, h3⟩
  rw [hl] at H0 HI0 ⊢
  obtain ⟨post, hpost⟩ : ∃ p, PostWords (LX.lex 0 l) w = p := ⟨_, rfl⟩
  rw [hpost] at HPE HPO ⊢
  obtain ⟨i0, hi, hz0, hz1, hz2⟩ := info_parts info_word
  clear hpost hlen hg hr0 hb0 hs ht hl
  go_enter Tryz.func23, Tryz.ntmps23
  go_wp2_with (go_at_call 38; (with_reducible refine HI0.out.mono ?_); rintro e w1 ⟨rfl, hr1, hk1⟩; (have HA := Lib.hid (H0.out _ hr1 hk1)); clear hr1 hk1)
  clear HI0 H0
  go_loopw [5] (fun u wr => ∃ v, v = u ∧ AtHead l w v wr) (fun _ wr => restSize w.heap.size wr)
  case atStart => exact ⟨_, rfl, HA.out⟩
  case round =>
    obtain ⟨v, rfl, ws, t, ln, hr, hown, hlex, hhead, hb, htb, hn1, hn2⟩ := hrel
    have hll := HLL.out
    clear HA
    have HOwn := Lib.hid hown
    have HHead := Lib.hid hhead
    have HBel := Lib.hid hb
    have HTab := Lib.hid htb
    have HLex := Lib.hid hlex
    have HRd := Lib.hid hr
    have c0 := hr.c0
    have hRlt := hr.lt
    have htl : t.data.toList.length = t.size := by simp
    by_cases h0 : t.size = 0
    · have e1 : t.toList.isEmpty = true := by rw [ByteArray.toList_eq, show t.data = #[] from Array.eq_empty_of_size_eq_zero h0]; rfl
      have hfin : LX.lex 0 l = .ok ws := by
        have : t.data.toList = [] := List.eq_nil_of_length_eq_zero (by omega)
        rw [hlex, this, LX.lex_nil]; simp [LX.Res.app]
      have HF := Lib.hid (HPO.out ws v wr hfin hown hb)
      clear hfin hown hhead hb htb hlex hr h0 htl hn1 hn2 hll
      go_wp2
      go_ret3
      exact HF.out
    · have e1 : t.toList.isEmpty = false := by
        cases hc : t.data.toList with
        | nil => rw [hc] at htl; simp at htl; omega
        | cons a u => rw [ByteArray.toList_eq, hc]; rfl
      have hwd := word_any w.heap.size t ln wr (by omega) (by omega) hr htb HG.out
      have g3 : (0 : Int) ≤ (ln : Int) := by omega
      have g4 : (ln : Int) ≤ 65536 := by omega
      cases hw : LX.word t.data.toList with
      | none =>
        rw [hw] at hwd
        have hwd' : Calls Tryz.prog 39 #[.pointer (some ⟨w.heap.size, 0, none⟩)] wr fun e w' => e = .returned (.tuple #[.agg #[.int .u8 0, .string ⟨#[]⟩, .int .i64 0, .int .i64 0], .bool false]) ∧ (∃ s', RdAt w.heap.size s' ln w') ∧ Kp w.heap.size wr w' := hwd
        have hfin : LX.lex 0 l = .err ln := by
          rcases hhead with h | ⟨c, u, h, hi⟩
          · rw [h] at htl; simp at htl; omega
          · rw [hlex]; rw [h] at hw ⊢; rw [LX.lex_err _ _ _ hi hw]; rfl
        have HWd := Lib.hid hwd'
        have HF := Lib.hid (HPE.out ln · hfin)
        clear hfin hown hhead hb htb hlex hr h0 htl hn1 hn2 hll hwd hwd' hw
        go_wp2_with (go_at_call 39; (with_reducible refine HWd.out.mono ?_); rintro e w1 ⟨rfl, ⟨s', hr1⟩, hk1⟩; (have HB := Lib.hid hk1); (have c1 := hr1.c1); (have hRlt1 := hr1.lt); clear hk1 c0)
        have HB2 : Hid (Below w.heap.size w (w1.alloc (.cells #[.int .u8 0, .string ⟨#[]⟩, .int .i64 0, .int .i64 0] 90))) := (HBel.out.trans HB.out.1).alloc (by omega) _
        go_quiet (fail)
        go_wp2
        go_ret3
        exact HF.out _ ⟨HB2.out.os, HB2.out.tape, HB2.out.output, HB2.out.size, HB2.out.block⟩
      | some p =>
        obtain ⟨⟨k, xl, n, line0⟩, m⟩ := p
        rw [hw] at hwd
        have hwd' : Calls Tryz.prog 39 #[.pointer (some ⟨w.heap.size, 0, none⟩)] wr fun e w' => e = .returned (.tuple #[.agg #[.int .u8 k, .string ⟨xl.toArray⟩, .int .i64 n, .int .i64 0], .bool true]) ∧ RdAt w.heap.size (t.extract m t.size) ln w' ∧ Kp w.heap.size wr w' := hwd
        have hwo := head_word hw hhead hlex hn1 hn2
        have hcl : wCells { (⟨k, xl, n, line0⟩ : LX.LW) with line := ln } = [.int .u8 k, .string ⟨xl.toArray⟩, .int .i64 n, .int .i64 ln] := rfl
        have hsn := flatW_snoc ws { (⟨k, xl, n, line0⟩ : LX.LW) with line := ln }
        rw [hcl] at hsn
        have HWd := Lib.hid hwd'
        have HWO := Lib.hid hwo
        have HSN := Lib.hid hsn
        have g5 : ws.length + 1 ≤ 65536 := by omega
        obtain ⟨N, hN⟩ : ∃ N, ws.length = N := ⟨_, rfl⟩
        have HN := Lib.hid hN
        rw [hN] at g5 HOwn
        generalize (⟨xl.toArray⟩ : ByteArray) = xs at HWd HSN
        have HI := Lib.hid (fun W (h : RdAt w.heap.size (t.extract m t.size) ln W) => idle_any w.heap.size (t.extract m t.size) ln W (by simp; omega) h (by omega) (by omega))
        clear hown hhead hb htb hlex hr h0 htl hn1 hn2 hll hwd hwd' hw hwo hcl hsn hN
        go_wp2_with (first
          | (go_at_call 39; (with_reducible refine HWd.out.mono ?_); rintro e w1 ⟨rfl, hr1, hk1⟩; (have HB := Lib.hid hk1); (have HR1 := Lib.hid hr1); (have c1 := hr1.c1); (have hRlt1 := hr1.lt); (have HO1 := Lib.hid (ownsRow_keep HOwn.out (fun j k1 k2 => hk1.2 j (by omega) k2))); clear hk1 hr1 c0)
          | (at_builtin; refine wpList_append_own _ rfl _ _ 57 rfl (w.heap.size + 1) 90 i0 (.agg #[.int .u8 0, .string ⟨#[]⟩, .int .i64 0, .int .i64 0]) 4 40 Tryz.underlying57 hi hz0 hz1 hz2 rfl (by decide) _ _ _ rfl ((HO1.out.alloc _).alloc _) ⟨w1.heap.size + 1, 0, none⟩ 1 1 [.int .u8 k, .string xs, .int .i64 n, .int .i64 ln] rfl rfl ?c1 ?c2 ?c3 ?c4 ?c5 ?_))
        case c1 =>
          intro j u hj
          match j, hj with
          | 0, hj => simp at hj; subst hj; simp [Addr.add]
          | 1, hj => simp at hj; subst hj; simp [Addr.add]
          | 2, hj => simp at hj; subst hj; simp [Addr.add]
          | 3, hj => simp at hj; subst hj; simp [Addr.add]
        case c2 => intro u hu; simp at hu; rcases hu with rfl | rfl | rfl | rfl <;> rfl
        case c3 => unfold maxLen; omega
        case c4 => omega
        case c5 => simp; omega
        intro v' w4 hown' hgrow _
        have hlt' := HO1.out.lt
        have hb4 : Below w.heap.size w w4 := (((HBel.out.trans HB.out.1).alloc (by omega) _).alloc (by simp; omega) _).grown hgrow (by simp; omega) (fun j hj => by have := (hlt' j hj).1; omega)
        have hr4 : RdAt w.heap.size (t.extract m t.size) ln w4 := by
          have h1 := HR1.out
          unfold RdAt at h1 ⊢
          rw [hgrow.block _ (by simp; omega) (fun e => by have := (hlt' _ e.symm).1; omega), Below.heap_alloc _ _ _ (by simp; omega), Below.heap_alloc _ _ _ hRlt1]
          exact h1
        have HB4 := Lib.hid hb4
        have HR4 := Lib.hid hr4
        have HO4 := Lib.hid hown'
        have HT4 : Hid (LTabs w4) := HTab.out.below (B := w.heap.size) (by
          refine ⟨hb4.os.trans HBel.out.os.symm, hb4.tape.trans HBel.out.tape.symm, hb4.output.trans HBel.out.output.symm, ?_, fun j hj => (hb4.block j hj).trans (HBel.out.block j hj).symm⟩
          exact Nat.le_trans (Nat.le_trans HB.out.1.size (by simp; omega)) hgrow.size) HG.out
        clear hlt' hb4 hr4 hown' hgrow
        go_wp2_with (go_at_call 38; (with_reducible refine (HI.out _ HR4.out).mono ?_); rintro e w5 ⟨rfl, hr5, hk5⟩; (have HR5 := Lib.hid hr5); (have HK5 := Lib.hid hk5); clear hr5 hk5)
        have hah := AtHead.idle (ws := ws ++ [{ (⟨k, xl, n, line0⟩ : LX.LW) with line := ln }]) (by rw [List.length_append, List.length_singleton, HN.out, HSN.out]; exact HO4.out) HWO.out.1 HB4.out HT4.out HG.out HWO.out.2.1 HWO.out.2.2.1 HR5.out HK5.out
        go_roundw
        case rel => exact ⟨v', rfl, hah.1⟩
        case measure =>
          have h1 := HWO.out.2.2.2
          have h2 := HRd.out.rest
          have h3 := hah.2
          omega
end Go.Proofs.YtedmmgfnplbkjaaGreatDoor
