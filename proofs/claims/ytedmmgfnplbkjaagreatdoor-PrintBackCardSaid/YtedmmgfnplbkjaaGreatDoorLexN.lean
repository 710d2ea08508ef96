/-
  Walks: number, beginsNumber, nameOrNumber, and word.
  Conditions: the reader lies in block R behind the package's variables; these hold what the program's text lays in them; the text is no longer than the reach.
-/
import Derived.Test.YtedmmgfnplbkjaaGreatDoorLexU
import Derived.Lib.LaidTab
import Derived.Lib.AppendIntMem
namespace Go.Proofs.YtedmmgfnplbkjaaGreatDoor
open Go.RowKit
theorem varBelow {P : Program} {B g : Nat} {W W' : World} {n : String} {cs : Array Value} (h : Below B W W') (hg : P.globalNamed n = some g) (hgB : g < B) (hv : W.var? P n = some cs) : W'.var? P n = some cs := by
  simp only [World.var?, hg, Option.bind_some] at hv ⊢
  rw [h.block g hgB]; exact hv
theorem varLt {P : Program} {g : Nat} {W : World} {n : String} {cs : Array Value} (hg : P.globalNamed n = some g) (hv : W.var? P n = some cs) : g < W.heap.size := by
  rcases Nat.lt_or_ge g W.heap.size with h' | h'
  · exact h'
  · simp [World.var?, hg, Array.getElem?_eq_none h'] at hv
theorem gnPow : Tryz.prog.globalNamed "internal/strconv.uint64pow10" = some 0 := by kernel_rfl
theorem gnSyn : Tryz.prog.globalNamed "strconv.ErrSyntax" = some 1 := by kernel_rfl
theorem gnRan : Tryz.prog.globalNamed "strconv.ErrRange" = some 2 := by kernel_rfl
def LTabs (w : World) : Prop := Lib.TabIs Tryz.prog w "internal/strconv.uint64pow10" .u64 Lib.pow10Tab ∧ (∃ t p, w.var? Tryz.prog "strconv.ErrSyntax" = some #[.iface t p]) ∧ ∃ t p, w.var? Tryz.prog "strconv.ErrRange" = some #[.iface t p]
def GB (B : Nat) : Prop := 0 < B ∧ 1 < B ∧ 2 < B
theorem GB.mono {B B' : Nat} (h : GB B) (hB : B ≤ B') : GB B' := ⟨Nat.lt_of_lt_of_le h.1 hB, Nat.lt_of_lt_of_le h.2.1 hB, Nat.lt_of_lt_of_le h.2.2 hB⟩
theorem LTabs.gb {w : World} (h : LTabs w) : GB w.heap.size := by
  obtain ⟨h1, ⟨t, p, h2⟩, t', p', h3⟩ := h
  exact ⟨varLt gnPow h1, varLt gnSyn h2, varLt gnRan h3⟩
theorem LTabs.below {B : Nat} {w w' : World} (h : LTabs w) (hb : Below B w w') (hB : GB B) : LTabs w' := by
  obtain ⟨h1, ⟨t, p, h2⟩, t', p', h3⟩ := h
  exact ⟨varBelow hb gnPow hB.1 h1, ⟨t, p, varBelow hb gnSyn hB.2.1 h2⟩, t', p', varBelow hb gnRan hB.2.2 h3⟩
def PostN (r : Option Int) (w : World) (e : Ending) (w' : World) : Prop :=
  (match r with
  | some v => e = .returned (.tuple #[wAgg ⟨2, [], v, 0⟩, .bool true])
  | none => e = .returned (.tuple #[zAgg, .bool false])) ∧ Below w.heap.size w w'
theorem wat_alloc (w : World) : WAt w.heap.size 0 ⟨#[]⟩ 0 0 (w.alloc (.cells #[.int .u8 0, .string ⟨#[]⟩, .int .i64 0, .int .i64 0] 90)) := heap_alloc_new _ _
theorem WAt.below {b : Nat} {k n line : Int} {s : ByteArray} {w w' : World} {B : Nat} (h : WAt b k s n line w) (hb : Below B w w') (hB : b < B) : WAt b k s n line w' := by
  unfold WAt at h ⊢; rw [hb.block b hB]; exact h
set_option maxRecDepth 100000 in
set_option maxHeartbeats 4000000 in
theorem number_any (x : ByteArray) (w : World) (hx : x.size ≤ 140737488355328) (ht : LTabs w) :
    Calls Tryz.prog 105 #[.string x] w (PostN (LX.numOf x.data.toList) w) := by
  obtain ⟨W, hW⟩ : ∃ W, W = w.alloc (.cells #[.int .u8 0, .string ⟨#[]⟩, .int .i64 0, .int .i64 0] 90) := ⟨_, rfl⟩
  have hz : W.heap.size = w.heap.size + 1 := by rw [hW]; simp
  have hb0 : Below w.heap.size w W := by rw [hW]; exact (Below.refl _ _).alloc (Nat.le_refl _) _
  have ht0 : LTabs W := ht.below hb0 ht.gb
  have hw0 : WAt w.heap.size 0 ⟨#[]⟩ 0 0 W := by rw [hW]; exact wat_alloc w
  have HX : Hid (∀ w1, Below W.heap.size W w1 → WAt w.heap.size 0 ⟨#[]⟩ 0 0 w1 ∧ Below w.heap.size w w1) := fun w1 hb => ⟨hw0.below hb (by omega), hb0.trans (hb.mono (by omega))⟩
  have hq : ∀ q v w1, Below w.heap.size w w1 → Below w.heap.size w (w1.setCell ⟨w.heap.size, q, none⟩ v) := fun q v w1 h => h.setCell (p := ⟨w.heap.size, q, none⟩) (Nat.le_refl _) v
  have HQ := Lib.hid hq
  rcases hp : Lib.parseIntB 64 x.data.toList with v | _ | _
  ·
    have hv := Lib.parseIntB_bounds hp
    have hv1 : -9223372036854775808 ≤ v := by have := hv.1; omega
    have hv2 : v ≤ 9223372036854775807 := by have := hv.2; omega
    have hn : LX.numOf x.data.toList = if Lib.itoa v = x.data.toList then some v else none := by unfold LX.numOf; rw [hp]
    rw [hn]
    have hc := Any.strconv_ParseInt_10_at64_ok Tryz.laysC174 x (by omega) v hp W
    have hc' : Calls Tryz.prog 160 #[.string x, .int .i64 10, .int .i64 64] W fun e w' => e = .returned (.tuple #[.int .i64 v, .nilIface]) ∧ Below W.heap.size W w' := hc.mono fun e w' h => ⟨h.1, by
      rcases h.2 with rfl | ⟨t, rfl⟩
      · exact Below.refl _ _
      · exact Lib.bytesWorld_below _ _ _⟩
    have hF : ∀ w1, Below W.heap.size W w1 → Calls Tryz.prog 75 #[.int .i64 v, .int .i64 10] w1 fun e w' => e = .returned (.string ⟨(Lib.itoa v).toArray⟩) ∧ Below w1.heap.size w1 w' := fun w1 h =>
      (Tryz.strconv_FormatInt_10 v hv1 hv2 w1 (ht0.below h ht0.gb).1).mono fun e w' h => ⟨h.1, by obtain ⟨k, os, rfl⟩ := h.2; exact Lib.below_grow _ _ (Nat.le_refl _) _ _⟩
    have HF := Lib.hid hF
    rw [hW] at hc' HX HF
    have HC := Lib.hid hc'
    have HL : Hid ((⟨(Lib.itoa v).toArray⟩ : ByteArray).data.toList = Lib.itoa v) := rfl
    have HZ : Hid (∀ w1 w2 : World, Below (w.alloc (.cells #[.int .u8 0, .string ⟨#[]⟩, .int .i64 0, .int .i64 0] 90)).heap.size (w.alloc (.cells #[.int .u8 0, .string ⟨#[]⟩, .int .i64 0, .int .i64 0] 90)) w1 → Below w1.heap.size w1 w2 → Below (w.alloc (.cells #[.int .u8 0, .string ⟨#[]⟩, .int .i64 0, .int .i64 0] 90)).heap.size (w.alloc (.cells #[.int .u8 0, .string ⟨#[]⟩, .int .i64 0, .int .i64 0] 90)) w2) := fun w1 w2 h1 h2 => h1.trans (h2.mono h1.size)
    by_cases heq : Lib.itoa v = x.data.toList
    · rw [if_pos heq]
      have h1 : (⟨(Lib.itoa v).toArray⟩ : ByteArray) = x := bytes_eq (HL.out.trans heq)
      rw [h1] at HF
      have e2 : (x.toList != x.toList) = false := by simp
      clear hc hc' hp hv ht0 hw0 hb0 hn hz hW hq ht hv1 hv2 heq h1 HL hF
      go_enter Tryz.func105, Tryz.ntmps105
      go_wp2_with (first
        | (go_at_call 160; (with_reducible refine HC.out.mono ?_); rintro e w1 ⟨rfl, hb⟩; (have HB := Lib.hid hb); clear hb)
        | (go_at_call 75; (with_reducible refine (HF.out _ HB.out).mono ?_); rintro e w2 ⟨rfl, hb⟩; (have HA := Lib.hid (HX.out _ (HZ.out _ _ HB.out hb))); (obtain ⟨⟨d0, d1, d2, d3⟩, z0, z1, z2, z3⟩ := HA.out.1.cells); clear hb))
      refine bodyPost_ret (v := .tuple #[wAgg ⟨2, [], v, 0⟩, .bool true]) (by simp [results, Tryz.results105, go_sem, d0, d1, d2, d3, wAgg]) rfl ⟨rfl, ?_⟩
      iterate 4 (with_reducible refine HQ.out _ _ _ ?_)
      exact HA.out.2
    · rw [if_neg heq]
      have h1 : ¬ (⟨(Lib.itoa v).toArray⟩ : ByteArray) = x := fun h => heq (by rw [← HL.out, h])
      obtain ⟨t, hteq⟩ : ∃ t, (⟨(Lib.itoa v).toArray⟩ : ByteArray) = t := ⟨_, rfl⟩
      rw [hteq] at HF h1
      have e2 : (t.toList == x.toList) = false := by
        rw [beq_eq_false_iff_ne, ByteArray.toList_eq, ByteArray.toList_eq]
        exact fun h => h1 (bytes_eq h)
      clear hc hc' hp hv ht0 hw0 hb0 hn hz hW hq ht hv1 hv2 heq h1 HL hF hteq
      go_enter Tryz.func105, Tryz.ntmps105
      go_wp2_with (first
        | (go_at_call 160; (with_reducible refine HC.out.mono ?_); rintro e w1 ⟨rfl, hb⟩; (have HB := Lib.hid hb); clear hb)
        | (go_at_call 75; (with_reducible refine (HF.out _ HB.out).mono ?_); rintro e w2 ⟨rfl, hb⟩; (have HA := Lib.hid (HX.out _ (HZ.out _ _ HB.out hb))); (obtain ⟨⟨d0, d1, d2, d3⟩, z0, z1, z2, z3⟩ := HA.out.1.cells); clear hb))
      refine bodyPost_ret (v := .tuple #[zAgg, .bool false]) (by simp [results, Tryz.results105, go_sem, d0, d1, d2, d3, zAgg]) rfl ⟨rfl, ?_⟩
      iterate 4 (with_reducible refine HQ.out _ _ _ ?_)
      exact HA.out.2
  ·
    have hn : LX.numOf x.data.toList = none := by unfold LX.numOf; rw [hp]
    rw [hn]
    obtain ⟨t, p, hv⟩ := ht0.2.1
    have hc : Calls Tryz.prog 160 #[.string x, .int .i64 10, .int .i64 64] W fun e w' => ∃ N n, e = .returned (.tuple #[.int .i64 n, .iface 254 (.pointer (some ⟨N, 0, none⟩))]) ∧ Below W.heap.size W w' :=
      (Any.strconv_ParseInt_10_at64_syntax_var Tryz.laysC174 x (by omega) hp t p W hv).mono fun e w' h => by obtain ⟨N, h1, -, -, h4⟩ := h; exact ⟨N, _, h1, h4⟩
    rw [hW] at hc HX
    have HC := Lib.hid hc
    clear hc hp hv ht0 hw0 hb0 hn hz hW hq ht
    go_enter Tryz.func105, Tryz.ntmps105
    go_wp2_with (go_at_call 160; (with_reducible refine HC.out.mono ?_); rintro e w1 ⟨N, nn, rfl, hb⟩; (have HA := Lib.hid (HX.out _ hb)); (obtain ⟨⟨d0, d1, d2, d3⟩, z0, z1, z2, z3⟩ := HA.out.1.cells); clear hb)
    refine bodyPost_ret (v := .tuple #[zAgg, .bool false]) (by simp [results, Tryz.results105, go_sem, d0, d1, d2, d3, zAgg]) rfl ⟨rfl, ?_⟩
    iterate 4 (with_reducible refine HQ.out _ _ _ ?_)
    exact HA.out.2
  ·
    have hn : LX.numOf x.data.toList = none := by unfold LX.numOf; rw [hp]
    rw [hn]
    obtain ⟨t, p, hv⟩ := ht0.2.2
    have hc : Calls Tryz.prog 160 #[.string x, .int .i64 10, .int .i64 64] W fun e w' => ∃ N n, e = .returned (.tuple #[.int .i64 n, .iface 254 (.pointer (some ⟨N, 0, none⟩))]) ∧ Below W.heap.size W w' :=
      (Any.strconv_ParseInt_10_at64_range_var Tryz.laysC174 x (by omega) hp t p W hv).mono fun e w' h => by obtain ⟨N, h1, -, -, h4⟩ := h; exact ⟨N, _, h1, h4⟩
    rw [hW] at hc HX
    have HC := Lib.hid hc
    clear hc hp hv ht0 hw0 hb0 hn hz hW hq ht
    go_enter Tryz.func105, Tryz.ntmps105
    go_wp2_with (go_at_call 160; (with_reducible refine HC.out.mono ?_); rintro e w1 ⟨N, nn, rfl, hb⟩; (have HA := Lib.hid (HX.out _ hb)); (obtain ⟨⟨d0, d1, d2, d3⟩, z0, z1, z2, z3⟩ := HA.out.1.cells); clear hb)
    refine bodyPost_ret (v := .tuple #[zAgg, .bool false]) (by simp [results, Tryz.results105, go_sem, d0, d1, d2, d3, zAgg]) rfl ⟨rfl, ?_⟩
    iterate 4 (with_reducible refine HQ.out _ _ _ ?_)
    exact HA.out.2
theorem kind_dig (c : UInt8) : (LX.kindN c == 6) = LX.isDig c := by
  rw [Bool.eq_iff_iff, beq_iff_eq, kindN_eq]
  simp only [LX.isDig, Bool.and_eq_true, decide_eq_true_eq]
  (repeat' split) <;> omega
theorem kind_minus (c : UInt8) : (LX.kindN c == 7) = (c.toNat == 45) := by
  rw [Bool.eq_iff_iff, beq_iff_eq, beq_iff_eq, kindN_eq]
  (repeat' split) <;> omega
theorem head_list (s : ByteArray) (h : 0 < s.size) : s.data.toList = s[0] :: s.data.toList.drop 1 := by
  have key : ∀ (l : List UInt8) (h : 0 < l.length), l = l[0] :: l.drop 1 := by
    intro l h
    cases l with
    | nil => simp at h
    | cons a t => rfl
  rw [← get_list s 0 h]
  exact key _ _
set_option maxRecDepth 100000 in
set_option maxHeartbeats 4000000 in
theorem beginsNumber_any (s : ByteArray) (w : World) (hs : s.size ≤ 140737488355328) (h0 : 0 < s.size) :
    Calls Tryz.prog 104 #[.string s] w fun e w' => e = .returned (.bool (LX.begNum s.data.toList)) ∧ w = w' := by
  have hl := head_list s h0
  obtain ⟨c, hc⟩ : ∃ c, s[0] = c := ⟨_, rfl⟩
  rw [hc] at hl
  have hk := Lib.hid (fun W => kindOf_any c W)
  rw [← hc] at hk
  have hk0 := kind_minus c
  have hk1 := kind_dig c
  have hk0' : ((LX.kindN c : Int) == 7) = (LX.kindN c == 7) := cast_beq (LX.kindN c) 7
  have hk1' : ((LX.kindN c : Int) == 6) = (LX.kindN c == 6) := cast_beq (LX.kindN c) 6
  rw [hk0] at hk0'
  rw [hk1] at hk1'
  rw [hc] at hk
  obtain ⟨k, hkk⟩ : ∃ k, LX.kindN c = k := ⟨_, rfl⟩
  rw [hkk] at hk hk0' hk1'
  rw [← hc] at hk
  rw [hl]
  by_cases hm : c.toNat = 45
  · have t1 : ((k : Int) == 7) = true := by rw [hk0']; simp [hm]
    have hd : LX.isDig c = false := by simp [LX.isDig]; omega
    have hx := ext_list s 1
    have HK2 := Lib.hid (fun d W => kindOf_any d W)
    have HKK := hk
    by_cases h1 : s.size = 1
    · have e1 : ((s.extract 1 s.size).toList.isEmpty) = true := by
        rw [ByteArray.toList_eq, hx, List.drop_of_length_le (by simp; omega)]; rfl
      have hf : LX.begNum (c :: s.data.toList.drop 1) = false := by
        rw [List.drop_of_length_le (by simp; omega)]; simp [LX.begNum, hd]
      have HF := Lib.hid hf
      clear hf hk0 hk1 hk0' hk1' hkk hc hl hm hk hx hd
      rw [HF.out]
      go_enter Tryz.func104, Tryz.ntmps104
      go_wp2_with (go_at_call 58; (with_reducible refine (HKK.out _).mono ?_); rintro e w1 ⟨rfl, rfl⟩)
      go_ret
      exact ⟨rfl, rfl⟩
    · have g1 : 1 < s.size := by omega
      have e1 : ((s.extract 1 s.size).toList.isEmpty) = false := by
        rw [ByteArray.toList_eq, hx]
        cases hc : s.data.toList.drop 1 with
        | nil => have := congrArg List.length hc; simp at this; omega
        | cons a t => rfl
      have hf : ∀ h, LX.begNum (c :: s.data.toList.drop 1) = ((LX.kindN ((s.extract 1 s.size)[0]'h) : Int) == 6) := by
        intro h
        have h2 := head_list (s.extract 1 s.size) h
        rw [hx] at h2
        rw [h2]
        have h3 : ((LX.kindN ((s.extract 1 s.size)[0]'h) : Int) == 6) = (LX.kindN ((s.extract 1 s.size)[0]'h) == 6) := cast_beq _ 6
        rw [h3, kind_dig]
        simp [LX.begNum, hd, hm]
      have HF := Lib.hid hf
      clear hf hk0 hk1 hk0' hk1' hkk hc hl hm hk hx hd
      go_enter Tryz.func104, Tryz.ntmps104
      go_wp2_with (first | (go_at_call 58; (with_reducible refine (HKK.out _).mono ?_); rintro e w1 ⟨rfl, rfl⟩) | (go_at_call 58; (with_reducible refine (HK2.out _ _).mono ?_); rintro e w1 ⟨rfl, rfl⟩))
      go_ret
      exact ⟨ret_bool (HF.out _).symm, rfl⟩
  · have t1 : ((k : Int) == 7) = false := by rw [hk0']; simp [hm]
    have e1 : (s.toList.isEmpty) = false := by rw [ByteArray.toList_eq, hl]; rfl
    have hf : LX.begNum (c :: s.data.toList.drop 1) = ((k : Int) == 6) := by rw [hk1']; simp [LX.begNum, hm]
    have HF := Lib.hid hf
    clear hf
    have HKK := hk
    clear hk0 hk1 hk0' hk1' hkk hc hl hm hk
    obtain ⟨b, hb⟩ : ∃ b, ((k : Int) == 6) = b := ⟨_, rfl⟩
    rw [hb] at HF
    rw [HF.out]
    go_enter Tryz.func104, Tryz.ntmps104
    go_wp2_with (go_at_call 58; (with_reducible refine (HKK.out _).mono ?_); rintro e w1 ⟨rfl, rfl⟩)
    go_ret
    exact ⟨rfl, rfl⟩
theorem nb_run (l : List UInt8) (n : Nat) (h : n < l.length) : (n < (l.takeWhile LX.isNB).length → LX.isNB l[n] = true) ∧ (n = (l.takeWhile LX.isNB).length → LX.isNB l[n] = false) := by
  induction l generalizing n with
  | nil => simp at h
  | cons a t ih =>
    cases hb : LX.isNB a
    · rw [List.takeWhile_cons, hb]
      refine ⟨fun hn => by simp at hn, fun hn => ?_⟩
      simp at hn
      subst hn
      simpa using hb
    · rw [List.takeWhile_cons, hb]
      cases n with
      | zero => exact ⟨fun _ => by simpa using hb, fun hn => by simp at hn⟩
      | succ n =>
        have := ih n (by simpa using h)
        refine ⟨fun hn => ?_, fun hn => ?_⟩
        · simpa using this.1 (by simpa using hn)
        · simpa using this.2 (by simpa using hn)
theorem eatNB_any (R : Nat) (s : ByteArray) (ln : Int) (w : World) (hs : s.size ≤ 140737488355328) (hr : RdAt R s ln w) :
    Calls Tryz.prog 56 #[.pointer (some ⟨R, 0, none⟩), .func (.func 103) #[] #[]] w fun e w' =>
      e = .returned (.string ⟨(s.data.toList.takeWhile LX.isNB).toArray⟩) ∧ RdAt R (s.extract (s.data.toList.takeWhile LX.isNB).length s.size) ln w' ∧ ∀ m, K2 R m w w' := by
  have hN := LX.takeWhile_le LX.isNB s.data.toList
  have hsz : s.data.toList.length = s.size := by simp
  have hrun := nb_run s.data.toList
  refine (eat_nb R (s.data.toList.takeWhile LX.isNB).length s ln w (fun _ W => W = w) (fun W => W = w) hs (by omega) (fun n W h => by rw [h]; exact hr) (fun W h => by rw [h]; exact hr) ?_ ?_ ?_ rfl).mono ?_
  · rintro n W hn hlt rfl
    have hr := (hrun n (by omega)).1 hlt
    rw [get_list s n hn] at hr
    refine (inNames_any s[n] W).mono ?_
    rintro e w' ⟨rfl, rfl⟩
    exact ⟨ret_bool hr, rfl⟩
  · rintro W hn rfl
    have hr := (hrun (s.data.toList.takeWhile LX.isNB).length (by omega)).2 rfl
    rw [get_list s _ hn] at hr
    refine (inNames_any _ W).mono ?_
    rintro e w' ⟨rfl, rfl⟩
    exact ⟨ret_bool hr, rfl⟩
  · exact fun _ W h => h
  · rintro e w' ⟨W, rfl, rfl, rfl⟩
    refine ⟨?_, hr.put0, fun m => K2.setR _ _⟩
    congr 2
    apply bytes_eq
    rw [Lib.extract_data]
    simpa using LX.take_takeWhile LX.isNB s.data.toList
end Go.Proofs.YtedmmgfnplbkjaaGreatDoor
