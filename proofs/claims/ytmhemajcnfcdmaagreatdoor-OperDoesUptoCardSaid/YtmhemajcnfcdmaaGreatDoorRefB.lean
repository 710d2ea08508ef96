/-
  Walks: the reference's elem answers 'rElem'; old memory is as it was.
  Conditions: the value lies in memory; 'fields', 'values' answer for its lists.
  Walks: the reference's shaped answers 'V.rsh'; old memory is as it was.
  Conditions: the value lies in memory.
  Walks: the reference's Size, Deep answer 'V.size', 'V.depth'; old memory is as it was.
  Conditions: the value lies in memory; it has at most 2^40 parts.
  Walks: the reference's Check answers 'V.check'; old memory is as it was.
  Conditions: the value lies in memory; it has at most 2^40 parts.
-/
import Derived.Test.YtmhemajcnfcdmaaGreatDoorRefA
import Derived.Deep.CutRange
import Derived.Deep.DeepCutAuto
import Derived.Test.YtmhemajcnfcdmaaGreatDoorOMg
namespace Go.Proofs.YtmhemajcnfcdmaaGreatDoor
open Go.RowKit
structure BoxE (w : World) (v : V) (W : World) : Prop where
  low : Below w.heap.size w W
  cv : At W w.heap.size 0 v.cells
theorem BoxE.below {w : World} {v : V} {W W' : World} (h : BoxE w v W) (hb : Below W.heap.size W W') : BoxE w v W' := ⟨h.low.trans (hb.mono h.low.size), h.cv.below hb⟩
theorem boxE (w : World) (v : V) (T : TypeId) : BoxE w v (w.alloc (.cells v.cells.toArray T)) := ⟨below_alloc _ _, at_new rfl (Below.refl _ _)⟩
def Ans (w : World) (f : FuncId) (arg : Value) (g : Bool) : Prop := ∀ W, Below w.heap.size w W → Calls Tryz.prog f #[arg] W fun x w' => x = .returned (.bool g) ∧ Below W.heap.size W w'
theorem names_of {w : World} {k n : Int} {s : ByteArray} {la : Option Addr} {ll lc : Nat} {L : Nat → V} {fa : Option Addr} {fl fc : Nat} {fn : Nat → ByteArray} {F : Nat → V} {e : Int} {key : ByteArray} {hk : Bool}
    (h : (V.mk k n s la ll lc L fa fl fc fn F e key hk).In w) : NamesAt w fa fl fc fn := by
  obtain ⟨-, -, -, -, -, -, hf, -, hF⟩ := h
  exact ⟨hf, fun i hi => ⟨let ⟨b, o, e1, ha⟩ := (hF i hi).1; ⟨b, o, e1, by simpa using ha 0 (by simp)⟩, (hF i hi).2.1⟩⟩
theorem named_of (fa : Option Addr) (fl fc : Nat) (fn : Nat → ByteArray) (w W : World) (hn : NamesAt w fa fl fc fn) (hb : Below w.heap.size w W) (m : Nat) (ns : Nat → ByteArray) (cs : List Value) (T : TypeId) (hm : m ≤ 1000) (hcs : cs.length = m) (h : ∀ i, i < m → cs[i]? = some (.string (ns i))) :
    Calls Tryz.prog 170 #[.slice fa fl fc, .slice (some ⟨W.heap.size, 0, none⟩) m m] (W.alloc (.cells cs.toArray T)) fun x w' => x = .returned (.bool (justB fl fn m ns)) ∧ Below W.heap.size W w' := by
  have hn2 := hn.below (hb.trans ((below_alloc W (.cells cs.toArray T)).mono hb.size))
  refine (named_any fa fl fc fn _ m m ns _ hn2.1 hm (fun i hi => (hn2.2 i hi).1) (fun i hi => ⟨_, rfl, ?_⟩)).mono fun x w' ⟨h1, h2⟩ => ⟨h1, (below_alloc _ _).trans (h2.mono (by simp))⟩
  have := at_new (w := W) (w' := W.alloc (.cells cs.toArray T)) (cs := cs) (T := T) rfl (Below.refl _ _) i (by omega)
  rw [Nat.zero_add] at this
  rw [this, h i hi]
set_option maxRecDepth 100000 in
set_option maxHeartbeats 8000000 in
theorem elem_1 (k n : Int) (s : ByteArray) (la : Option Addr) (ll lc : Nat) (L : Nat → V) (fa : Option Addr) (fl fc : Nat) (fn : Nat → ByteArray) (F : Nat → V) (e : Int) (key : ByteArray) (hk : Bool) (w : World) (he : e = 1)
    (hin : (V.mk k n s la ll lc L fa fl fc fn F e key hk).In w) (gF gL : Bool) (hF : Ans w 144 (.slice fa fl fc) gF) (hL : Ans w 143 (.slice la ll lc) gL) :
    Calls Tryz.prog 145 #[.agg #[.int .u8 k, .int .i64 n, .string s, .slice la ll lc, .slice fa fl fc, .int .u8 e, .string key, .bool hk]] w fun x w' => x = .returned (.bool (rElem n s fl fn e key hk gF gL)) ∧ Below w.heap.size w w' := by
  have CF := Lib.hid (fun W (h : BoxE w (.mk k n s la ll lc L fa fl fc fn F e key hk) W) => hF W h.low)
  have CL := Lib.hid (fun W (h : BoxE w (.mk k n s la ll lc L fa fl fc fn F e key hk) W) => hL W h.low)
  have hnm := names_of hin
  obtain ⟨-, -, hs, -, hkey, hl1, hf1, -, -⟩ := hin
  have CN := Lib.hid (fun W => name_any s W hs)
  have NV := Lib.hid (fun W (h : BoxE w (.mk k n s la ll lc L fa fl fc fn F e key hk) W) (T : TypeId) => named_of fa fl fc fn w W hnm h.low 1 nsValue [.string ⟨#[118, 97, 108, 117, 101]⟩] T (by omega) rfl (fun i hi => by match i, hi with | 0, _ => rfl))
  have NE := Lib.hid (fun W (h : BoxE w (.mk k n s la ll lc L fa fl fc fn F e key hk) W) (T : TypeId) => named_of fa fl fc fn w W hnm h.low 1 nsElse [.string ⟨#[101, 108, 115, 101]⟩] T (by omega) rfl (fun i hi => by match i, hi with | 0, _ => rfl))
  have NG := Lib.hid (fun W (h : BoxE w (.mk k n s la ll lc L fa fl fc fn F e key hk) W) (T : TypeId) => named_of fa fl fc fn w W hnm h.low 2 nsGuard [.string ⟨#[97, 103, 97, 105, 110]⟩, .string ⟨#[101, 108, 115, 101]⟩] T (by omega) rfl (fun i hi => by
    match i, hi with
    | 0, _ => rfl
    | 1, _ => rfl))
  clear hF hL hnm hs
  unfold maxLen at hkey hl1 hf1
  have KS := Lib.hid (fun W (h : BoxE w (.mk k n s la ll lc L fa fl fc fn F e key hk) W) => at80 h.cv)
  have OK0 := Lib.hid (boxE w (.mk k n s la ll lc L fa fl fc fn F e key hk) 30)
  obtain ⟨qn, hqn⟩ : ∃ x, decide (n = 0) = x := ⟨_, rfl⟩
  obtain ⟨qs, hqs⟩ : ∃ x, emptyB s = x := ⟨_, rfl⟩
  obtain ⟨qf, hqf⟩ : ∃ x, decide (fl = 0) = x := ⟨_, rfl⟩
  obtain ⟨qk, hqk⟩ : ∃ x, emptyB key = x := ⟨_, rfl⟩
  obtain ⟨qd, hqd⟩ : ∃ x, decide (key.size ≤ 4096) = x := ⟨_, rfl⟩
  obtain ⟨pn, hpn⟩ : ∃ x, rName s = x := ⟨_, rfl⟩
  obtain ⟨jv, hjv⟩ : ∃ x, justB fl fn 1 nsValue = x := ⟨_, rfl⟩
  obtain ⟨je, hje⟩ : ∃ x, justB fl fn 1 nsElse = x := ⟨_, rfl⟩
  obtain ⟨jg, hjg⟩ : ∃ x, justB fl fn 2 nsGuard = x := ⟨_, rfl⟩
  have HR := Lib.hid (show rElem n s fl fn e key hk gF gL = (qn && ((hk || qk) && (qd && (gF && (gL && pn))))) by
    unfold rElem
    rw [hqn, hqk, hqd, hqs, hqf, hpn, hjv, hje, hjg]
    simp [he])
  rw [hpn] at CN
  rw [hjv] at NV
  rw [hje] at NE
  rw [hjg] at NG
  generalize rElem n s fl fn e key hk gF gL = q at HR ⊢
  have s1 : s.toList.isEmpty = qs := by rw [empty_is, hqs]
  have s2 : (s.toList == ByteArray.toList ⟨#[]⟩) = qs := by rw [lit_empty, hqs]
  have s3 : key.toList.isEmpty = qk := by rw [empty_is, hqk]
  have s4 : (key.toList == ByteArray.toList ⟨#[]⟩) = qk := by rw [lit_empty, hqk]
  have s5 : (n == 0) = qn := hqn
  have s6 : (n != 0) = !qn := by rw [← s5]; rfl
  have s7 : decide ((4096 : Int) < (key.size : Int)) = !qd := by rw [← hqd, Bool.eq_iff_iff]; simp; omega
  have s8 : ((fl : Int) == 0) = qf := by rw [← hqf, Bool.eq_iff_iff]; simp
  clear hqn hqs hqf hqk hqd hpn hjv hje hjg
  subst he
  simp only [V.cells] at OK0
  go_enter Tryz.func145, Tryz.ntmps145
  go_upto_region 1 with fail
  have OKu := OK0.out
  generalize (w.alloc (.cells #[.int .u8 k, .int .i64 n, .string s, .slice la ll lc, .slice fa fl fc, .int .u8 1, .string key, .bool hk] 30)) = W0 at OKu ⊢
  have OK : BoxE w (.mk k n s la ll lc L fa fl fc fn F 1 key hk) W0 := OKu
  clear OKu OK0
  obtain ⟨c0, c1, c2, c3, c4, c5, c6, c7⟩ := KS.out _ OK
  go_wp2_with (first
    | (go_at_call 144; refine (CF.out _ (by assumption)).mono ?_; rintro x w1 ⟨rfl, hb1⟩; (have OKn := BoxE.below (by assumption) hb1); clear hb1; obtain ⟨c0, c1, c2, c3, c4, c5, c6, c7⟩ := KS.out _ OKn)
    | (go_at_call 143; refine (CL.out _ (by assumption)).mono ?_; rintro x w1 ⟨rfl, hb1⟩; (have OKn := BoxE.below (by assumption) hb1); clear hb1; obtain ⟨c0, c1, c2, c3, c4, c5, c6, c7⟩ := KS.out _ OKn)
    | (go_at_call 169; refine (CN.out _).mono ?_; rintro x w1 ⟨rfl, rfl⟩))
  all_goals
    go_ret
    refine ⟨?_, BoxE.low (by assumption)⟩
    have hq := HR.out
    clear HR CF CL CN NV NE NG KS s1 s2 s3 s4 s5 s6 s7 s8
    simp_all
set_option maxRecDepth 100000 in
set_option maxHeartbeats 8000000 in
theorem elem_2 (k n : Int) (s : ByteArray) (la : Option Addr) (ll lc : Nat) (L : Nat → V) (fa : Option Addr) (fl fc : Nat) (fn : Nat → ByteArray) (F : Nat → V) (e : Int) (key : ByteArray) (hk : Bool) (w : World) (he : e = 2)
    (hin : (V.mk k n s la ll lc L fa fl fc fn F e key hk).In w) (gF gL : Bool) (hF : Ans w 144 (.slice fa fl fc) gF) (hL : Ans w 143 (.slice la ll lc) gL) :
    Calls Tryz.prog 145 #[.agg #[.int .u8 k, .int .i64 n, .string s, .slice la ll lc, .slice fa fl fc, .int .u8 e, .string key, .bool hk]] w fun x w' => x = .returned (.bool (rElem n s fl fn e key hk gF gL)) ∧ Below w.heap.size w w' := by
  have CF := Lib.hid (fun W (h : BoxE w (.mk k n s la ll lc L fa fl fc fn F e key hk) W) => hF W h.low)
  have CL := Lib.hid (fun W (h : BoxE w (.mk k n s la ll lc L fa fl fc fn F e key hk) W) => hL W h.low)
  have hnm := names_of hin
  obtain ⟨-, -, hs, -, hkey, hl1, hf1, -, -⟩ := hin
  have CN := Lib.hid (fun W => name_any s W hs)
  have NV := Lib.hid (fun W (h : BoxE w (.mk k n s la ll lc L fa fl fc fn F e key hk) W) (T : TypeId) => named_of fa fl fc fn w W hnm h.low 1 nsValue [.string ⟨#[118, 97, 108, 117, 101]⟩] T (by omega) rfl (fun i hi => by match i, hi with | 0, _ => rfl))
  have NE := Lib.hid (fun W (h : BoxE w (.mk k n s la ll lc L fa fl fc fn F e key hk) W) (T : TypeId) => named_of fa fl fc fn w W hnm h.low 1 nsElse [.string ⟨#[101, 108, 115, 101]⟩] T (by omega) rfl (fun i hi => by match i, hi with | 0, _ => rfl))
  have NG := Lib.hid (fun W (h : BoxE w (.mk k n s la ll lc L fa fl fc fn F e key hk) W) (T : TypeId) => named_of fa fl fc fn w W hnm h.low 2 nsGuard [.string ⟨#[97, 103, 97, 105, 110]⟩, .string ⟨#[101, 108, 115, 101]⟩] T (by omega) rfl (fun i hi => by
    match i, hi with
    | 0, _ => rfl
    | 1, _ => rfl))
  clear hF hL hnm hs
  unfold maxLen at hkey hl1 hf1
  have KS := Lib.hid (fun W (h : BoxE w (.mk k n s la ll lc L fa fl fc fn F e key hk) W) => at80 h.cv)
  have OK0 := Lib.hid (boxE w (.mk k n s la ll lc L fa fl fc fn F e key hk) 30)
  obtain ⟨qn, hqn⟩ : ∃ x, decide (n = 0) = x := ⟨_, rfl⟩
  obtain ⟨qs, hqs⟩ : ∃ x, emptyB s = x := ⟨_, rfl⟩
  obtain ⟨qf, hqf⟩ : ∃ x, decide (fl = 0) = x := ⟨_, rfl⟩
  obtain ⟨qk, hqk⟩ : ∃ x, emptyB key = x := ⟨_, rfl⟩
  obtain ⟨qd, hqd⟩ : ∃ x, decide (key.size ≤ 4096) = x := ⟨_, rfl⟩
  obtain ⟨pn, hpn⟩ : ∃ x, rName s = x := ⟨_, rfl⟩
  obtain ⟨jv, hjv⟩ : ∃ x, justB fl fn 1 nsValue = x := ⟨_, rfl⟩
  obtain ⟨je, hje⟩ : ∃ x, justB fl fn 1 nsElse = x := ⟨_, rfl⟩
  obtain ⟨jg, hjg⟩ : ∃ x, justB fl fn 2 nsGuard = x := ⟨_, rfl⟩
  have HR := Lib.hid (show rElem n s fl fn e key hk gF gL = (qn && ((hk || qk) && (qd && (gF && (gL && pn))))) by
    unfold rElem
    rw [hqn, hqk, hqd, hqs, hqf, hpn, hjv, hje, hjg]
    simp [he])
  rw [hpn] at CN
  rw [hjv] at NV
  rw [hje] at NE
  rw [hjg] at NG
  generalize rElem n s fl fn e key hk gF gL = q at HR ⊢
  have s1 : s.toList.isEmpty = qs := by rw [empty_is, hqs]
  have s2 : (s.toList == ByteArray.toList ⟨#[]⟩) = qs := by rw [lit_empty, hqs]
  have s3 : key.toList.isEmpty = qk := by rw [empty_is, hqk]
  have s4 : (key.toList == ByteArray.toList ⟨#[]⟩) = qk := by rw [lit_empty, hqk]
  have s5 : (n == 0) = qn := hqn
  have s6 : (n != 0) = !qn := by rw [← s5]; rfl
  have s7 : decide ((4096 : Int) < (key.size : Int)) = !qd := by rw [← hqd, Bool.eq_iff_iff]; simp; omega
  have s8 : ((fl : Int) == 0) = qf := by rw [← hqf, Bool.eq_iff_iff]; simp
  clear hqn hqs hqf hqk hqd hpn hjv hje hjg
  subst he
  simp only [V.cells] at OK0
  go_enter Tryz.func145, Tryz.ntmps145
  go_upto_region 1 with fail
  have OKu := OK0.out
  generalize (w.alloc (.cells #[.int .u8 k, .int .i64 n, .string s, .slice la ll lc, .slice fa fl fc, .int .u8 2, .string key, .bool hk] 30)) = W0 at OKu ⊢
  have OK : BoxE w (.mk k n s la ll lc L fa fl fc fn F 2 key hk) W0 := OKu
  clear OKu OK0
  obtain ⟨c0, c1, c2, c3, c4, c5, c6, c7⟩ := KS.out _ OK
  go_wp2_with (first
    | (go_at_call 144; refine (CF.out _ (by assumption)).mono ?_; rintro x w1 ⟨rfl, hb1⟩; (have OKn := BoxE.below (by assumption) hb1); clear hb1; obtain ⟨c0, c1, c2, c3, c4, c5, c6, c7⟩ := KS.out _ OKn)
    | (go_at_call 143; refine (CL.out _ (by assumption)).mono ?_; rintro x w1 ⟨rfl, hb1⟩; (have OKn := BoxE.below (by assumption) hb1); clear hb1; obtain ⟨c0, c1, c2, c3, c4, c5, c6, c7⟩ := KS.out _ OKn)
    | (go_at_call 169; refine (CN.out _).mono ?_; rintro x w1 ⟨rfl, rfl⟩))
  all_goals
    go_ret
    refine ⟨?_, BoxE.low (by assumption)⟩
    have hq := HR.out
    clear HR CF CL CN NV NE NG KS s1 s2 s3 s4 s5 s6 s7 s8
    simp_all
set_option maxRecDepth 100000 in
set_option maxHeartbeats 8000000 in
theorem elem_3 (k n : Int) (s : ByteArray) (la : Option Addr) (ll lc : Nat) (L : Nat → V) (fa : Option Addr) (fl fc : Nat) (fn : Nat → ByteArray) (F : Nat → V) (e : Int) (key : ByteArray) (hk : Bool) (w : World) (he : e = 3)
    (hin : (V.mk k n s la ll lc L fa fl fc fn F e key hk).In w) (gF gL : Bool) (hF : Ans w 144 (.slice fa fl fc) gF) (hL : Ans w 143 (.slice la ll lc) gL) :
    Calls Tryz.prog 145 #[.agg #[.int .u8 k, .int .i64 n, .string s, .slice la ll lc, .slice fa fl fc, .int .u8 e, .string key, .bool hk]] w fun x w' => x = .returned (.bool (rElem n s fl fn e key hk gF gL)) ∧ Below w.heap.size w w' := by
  have CF := Lib.hid (fun W (h : BoxE w (.mk k n s la ll lc L fa fl fc fn F e key hk) W) => hF W h.low)
  have CL := Lib.hid (fun W (h : BoxE w (.mk k n s la ll lc L fa fl fc fn F e key hk) W) => hL W h.low)
  have hnm := names_of hin
  obtain ⟨-, -, hs, -, hkey, hl1, hf1, -, -⟩ := hin
  have CN := Lib.hid (fun W => name_any s W hs)
  have NV := Lib.hid (fun W (h : BoxE w (.mk k n s la ll lc L fa fl fc fn F e key hk) W) (T : TypeId) => named_of fa fl fc fn w W hnm h.low 1 nsValue [.string ⟨#[118, 97, 108, 117, 101]⟩] T (by omega) rfl (fun i hi => by match i, hi with | 0, _ => rfl))
  have NE := Lib.hid (fun W (h : BoxE w (.mk k n s la ll lc L fa fl fc fn F e key hk) W) (T : TypeId) => named_of fa fl fc fn w W hnm h.low 1 nsElse [.string ⟨#[101, 108, 115, 101]⟩] T (by omega) rfl (fun i hi => by match i, hi with | 0, _ => rfl))
  have NG := Lib.hid (fun W (h : BoxE w (.mk k n s la ll lc L fa fl fc fn F e key hk) W) (T : TypeId) => named_of fa fl fc fn w W hnm h.low 2 nsGuard [.string ⟨#[97, 103, 97, 105, 110]⟩, .string ⟨#[101, 108, 115, 101]⟩] T (by omega) rfl (fun i hi => by
    match i, hi with
    | 0, _ => rfl
    | 1, _ => rfl))
  clear hF hL hnm hs
  unfold maxLen at hkey hl1 hf1
  have KS := Lib.hid (fun W (h : BoxE w (.mk k n s la ll lc L fa fl fc fn F e key hk) W) => at80 h.cv)
  have OK0 := Lib.hid (boxE w (.mk k n s la ll lc L fa fl fc fn F e key hk) 30)
  obtain ⟨qn, hqn⟩ : ∃ x, decide (n = 0) = x := ⟨_, rfl⟩
  obtain ⟨qs, hqs⟩ : ∃ x, emptyB s = x := ⟨_, rfl⟩
  obtain ⟨qf, hqf⟩ : ∃ x, decide (fl = 0) = x := ⟨_, rfl⟩
  obtain ⟨qk, hqk⟩ : ∃ x, emptyB key = x := ⟨_, rfl⟩
  obtain ⟨qd, hqd⟩ : ∃ x, decide (key.size ≤ 4096) = x := ⟨_, rfl⟩
  obtain ⟨pn, hpn⟩ : ∃ x, rName s = x := ⟨_, rfl⟩
  obtain ⟨jv, hjv⟩ : ∃ x, justB fl fn 1 nsValue = x := ⟨_, rfl⟩
  obtain ⟨je, hje⟩ : ∃ x, justB fl fn 1 nsElse = x := ⟨_, rfl⟩
  obtain ⟨jg, hjg⟩ : ∃ x, justB fl fn 2 nsGuard = x := ⟨_, rfl⟩
  have HR := Lib.hid (show rElem n s fl fn e key hk gF gL = (qn && ((hk || qk) && (qd && (gF && (gL && pn))))) by
    unfold rElem
    rw [hqn, hqk, hqd, hqs, hqf, hpn, hjv, hje, hjg]
    simp [he])
  rw [hpn] at CN
  rw [hjv] at NV
  rw [hje] at NE
  rw [hjg] at NG
  generalize rElem n s fl fn e key hk gF gL = q at HR ⊢
  have s1 : s.toList.isEmpty = qs := by rw [empty_is, hqs]
  have s2 : (s.toList == ByteArray.toList ⟨#[]⟩) = qs := by rw [lit_empty, hqs]
  have s3 : key.toList.isEmpty = qk := by rw [empty_is, hqk]
  have s4 : (key.toList == ByteArray.toList ⟨#[]⟩) = qk := by rw [lit_empty, hqk]
  have s5 : (n == 0) = qn := hqn
  have s6 : (n != 0) = !qn := by rw [← s5]; rfl
  have s7 : decide ((4096 : Int) < (key.size : Int)) = !qd := by rw [← hqd, Bool.eq_iff_iff]; simp; omega
  have s8 : ((fl : Int) == 0) = qf := by rw [← hqf, Bool.eq_iff_iff]; simp
  clear hqn hqs hqf hqk hqd hpn hjv hje hjg
  subst he
  simp only [V.cells] at OK0
  go_enter Tryz.func145, Tryz.ntmps145
  go_upto_region 1 with fail
  have OKu := OK0.out
  generalize (w.alloc (.cells #[.int .u8 k, .int .i64 n, .string s, .slice la ll lc, .slice fa fl fc, .int .u8 3, .string key, .bool hk] 30)) = W0 at OKu ⊢
  have OK : BoxE w (.mk k n s la ll lc L fa fl fc fn F 3 key hk) W0 := OKu
  clear OKu OK0
  obtain ⟨c0, c1, c2, c3, c4, c5, c6, c7⟩ := KS.out _ OK
  go_wp2_with (first
    | (go_at_call 144; refine (CF.out _ (by assumption)).mono ?_; rintro x w1 ⟨rfl, hb1⟩; (have OKn := BoxE.below (by assumption) hb1); clear hb1; obtain ⟨c0, c1, c2, c3, c4, c5, c6, c7⟩ := KS.out _ OKn)
    | (go_at_call 143; refine (CL.out _ (by assumption)).mono ?_; rintro x w1 ⟨rfl, hb1⟩; (have OKn := BoxE.below (by assumption) hb1); clear hb1; obtain ⟨c0, c1, c2, c3, c4, c5, c6, c7⟩ := KS.out _ OKn)
    | (go_at_call 169; refine (CN.out _).mono ?_; rintro x w1 ⟨rfl, rfl⟩))
  all_goals
    go_ret
    refine ⟨?_, BoxE.low (by assumption)⟩
    have hq := HR.out
    clear HR CF CL CN NV NE NG KS s1 s2 s3 s4 s5 s6 s7 s8
    simp_all
set_option maxRecDepth 100000 in
set_option maxHeartbeats 8000000 in
theorem elem_4 (k n : Int) (s : ByteArray) (la : Option Addr) (ll lc : Nat) (L : Nat → V) (fa : Option Addr) (fl fc : Nat) (fn : Nat → ByteArray) (F : Nat → V) (e : Int) (key : ByteArray) (hk : Bool) (w : World) (he : e = 4)
    (hin : (V.mk k n s la ll lc L fa fl fc fn F e key hk).In w) (gF gL : Bool) (hF : Ans w 144 (.slice fa fl fc) gF) (hL : Ans w 143 (.slice la ll lc) gL) :
    Calls Tryz.prog 145 #[.agg #[.int .u8 k, .int .i64 n, .string s, .slice la ll lc, .slice fa fl fc, .int .u8 e, .string key, .bool hk]] w fun x w' => x = .returned (.bool (rElem n s fl fn e key hk gF gL)) ∧ Below w.heap.size w w' := by
  have CF := Lib.hid (fun W (h : BoxE w (.mk k n s la ll lc L fa fl fc fn F e key hk) W) => hF W h.low)
  have CL := Lib.hid (fun W (h : BoxE w (.mk k n s la ll lc L fa fl fc fn F e key hk) W) => hL W h.low)
  have hnm := names_of hin
  obtain ⟨-, -, hs, -, hkey, hl1, hf1, -, -⟩ := hin
  have CN := Lib.hid (fun W => name_any s W hs)
  have NV := Lib.hid (fun W (h : BoxE w (.mk k n s la ll lc L fa fl fc fn F e key hk) W) (T : TypeId) => named_of fa fl fc fn w W hnm h.low 1 nsValue [.string ⟨#[118, 97, 108, 117, 101]⟩] T (by omega) rfl (fun i hi => by match i, hi with | 0, _ => rfl))
  have NE := Lib.hid (fun W (h : BoxE w (.mk k n s la ll lc L fa fl fc fn F e key hk) W) (T : TypeId) => named_of fa fl fc fn w W hnm h.low 1 nsElse [.string ⟨#[101, 108, 115, 101]⟩] T (by omega) rfl (fun i hi => by match i, hi with | 0, _ => rfl))
  have NG := Lib.hid (fun W (h : BoxE w (.mk k n s la ll lc L fa fl fc fn F e key hk) W) (T : TypeId) => named_of fa fl fc fn w W hnm h.low 2 nsGuard [.string ⟨#[97, 103, 97, 105, 110]⟩, .string ⟨#[101, 108, 115, 101]⟩] T (by omega) rfl (fun i hi => by
    match i, hi with
    | 0, _ => rfl
    | 1, _ => rfl))
  clear hF hL hnm hs
  unfold maxLen at hkey hl1 hf1
  have KS := Lib.hid (fun W (h : BoxE w (.mk k n s la ll lc L fa fl fc fn F e key hk) W) => at80 h.cv)
  have OK0 := Lib.hid (boxE w (.mk k n s la ll lc L fa fl fc fn F e key hk) 30)
  obtain ⟨qn, hqn⟩ : ∃ x, decide (n = 0) = x := ⟨_, rfl⟩
  obtain ⟨qs, hqs⟩ : ∃ x, emptyB s = x := ⟨_, rfl⟩
  obtain ⟨qf, hqf⟩ : ∃ x, decide (fl = 0) = x := ⟨_, rfl⟩
  obtain ⟨qk, hqk⟩ : ∃ x, emptyB key = x := ⟨_, rfl⟩
  obtain ⟨qd, hqd⟩ : ∃ x, decide (key.size ≤ 4096) = x := ⟨_, rfl⟩
  obtain ⟨pn, hpn⟩ : ∃ x, rName s = x := ⟨_, rfl⟩
  obtain ⟨jv, hjv⟩ : ∃ x, justB fl fn 1 nsValue = x := ⟨_, rfl⟩
  obtain ⟨je, hje⟩ : ∃ x, justB fl fn 1 nsElse = x := ⟨_, rfl⟩
  obtain ⟨jg, hjg⟩ : ∃ x, justB fl fn 2 nsGuard = x := ⟨_, rfl⟩
  have HR := Lib.hid (show rElem n s fl fn e key hk gF gL = (qn && ((hk || qk) && (qd && (gF && (gL && (qs && qf)))))) by
    unfold rElem
    rw [hqn, hqk, hqd, hqs, hqf, hpn, hjv, hje, hjg]
    simp [he])
  rw [hpn] at CN
  rw [hjv] at NV
  rw [hje] at NE
  rw [hjg] at NG
  generalize rElem n s fl fn e key hk gF gL = q at HR ⊢
  have s1 : s.toList.isEmpty = qs := by rw [empty_is, hqs]
  have s2 : (s.toList == ByteArray.toList ⟨#[]⟩) = qs := by rw [lit_empty, hqs]
  have s3 : key.toList.isEmpty = qk := by rw [empty_is, hqk]
  have s4 : (key.toList == ByteArray.toList ⟨#[]⟩) = qk := by rw [lit_empty, hqk]
  have s5 : (n == 0) = qn := hqn
  have s6 : (n != 0) = !qn := by rw [← s5]; rfl
  have s7 : decide ((4096 : Int) < (key.size : Int)) = !qd := by rw [← hqd, Bool.eq_iff_iff]; simp; omega
  have s8 : ((fl : Int) == 0) = qf := by rw [← hqf, Bool.eq_iff_iff]; simp
  clear hqn hqs hqf hqk hqd hpn hjv hje hjg
  subst he
  simp only [V.cells] at OK0
  go_enter Tryz.func145, Tryz.ntmps145
  go_upto_region 1 with fail
  have OKu := OK0.out
  generalize (w.alloc (.cells #[.int .u8 k, .int .i64 n, .string s, .slice la ll lc, .slice fa fl fc, .int .u8 4, .string key, .bool hk] 30)) = W0 at OKu ⊢
  have OK : BoxE w (.mk k n s la ll lc L fa fl fc fn F 4 key hk) W0 := OKu
  clear OKu OK0
  obtain ⟨c0, c1, c2, c3, c4, c5, c6, c7⟩ := KS.out _ OK
  go_wp2_with (first
    | (go_at_call 144; refine (CF.out _ (by assumption)).mono ?_; rintro x w1 ⟨rfl, hb1⟩; (have OKn := BoxE.below (by assumption) hb1); clear hb1; obtain ⟨c0, c1, c2, c3, c4, c5, c6, c7⟩ := KS.out _ OKn)
    | (go_at_call 143; refine (CL.out _ (by assumption)).mono ?_; rintro x w1 ⟨rfl, hb1⟩; (have OKn := BoxE.below (by assumption) hb1); clear hb1; obtain ⟨c0, c1, c2, c3, c4, c5, c6, c7⟩ := KS.out _ OKn))
  all_goals
    go_ret
    refine ⟨?_, BoxE.low (by assumption)⟩
    have hq := HR.out
    clear HR CF CL CN NV NE NG KS s1 s2 s3 s4 s5 s6 s7 s8
    simp_all
set_option maxRecDepth 100000 in
set_option maxHeartbeats 8000000 in
theorem elem_5 (k n : Int) (s : ByteArray) (la : Option Addr) (ll lc : Nat) (L : Nat → V) (fa : Option Addr) (fl fc : Nat) (fn : Nat → ByteArray) (F : Nat → V) (e : Int) (key : ByteArray) (hk : Bool) (w : World) (he : e = 5)
    (hin : (V.mk k n s la ll lc L fa fl fc fn F e key hk).In w) (gF gL : Bool) (hF : Ans w 144 (.slice fa fl fc) gF) (hL : Ans w 143 (.slice la ll lc) gL) :
    Calls Tryz.prog 145 #[.agg #[.int .u8 k, .int .i64 n, .string s, .slice la ll lc, .slice fa fl fc, .int .u8 e, .string key, .bool hk]] w fun x w' => x = .returned (.bool (rElem n s fl fn e key hk gF gL)) ∧ Below w.heap.size w w' := by
  have CF := Lib.hid (fun W (h : BoxE w (.mk k n s la ll lc L fa fl fc fn F e key hk) W) => hF W h.low)
  have CL := Lib.hid (fun W (h : BoxE w (.mk k n s la ll lc L fa fl fc fn F e key hk) W) => hL W h.low)
  have hnm := names_of hin
  obtain ⟨-, -, hs, -, hkey, hl1, hf1, -, -⟩ := hin
  have CN := Lib.hid (fun W => name_any s W hs)
  have NV := Lib.hid (fun W (h : BoxE w (.mk k n s la ll lc L fa fl fc fn F e key hk) W) (T : TypeId) => named_of fa fl fc fn w W hnm h.low 1 nsValue [.string ⟨#[118, 97, 108, 117, 101]⟩] T (by omega) rfl (fun i hi => by match i, hi with | 0, _ => rfl))
  have NE := Lib.hid (fun W (h : BoxE w (.mk k n s la ll lc L fa fl fc fn F e key hk) W) (T : TypeId) => named_of fa fl fc fn w W hnm h.low 1 nsElse [.string ⟨#[101, 108, 115, 101]⟩] T (by omega) rfl (fun i hi => by match i, hi with | 0, _ => rfl))
  have NG := Lib.hid (fun W (h : BoxE w (.mk k n s la ll lc L fa fl fc fn F e key hk) W) (T : TypeId) => named_of fa fl fc fn w W hnm h.low 2 nsGuard [.string ⟨#[97, 103, 97, 105, 110]⟩, .string ⟨#[101, 108, 115, 101]⟩] T (by omega) rfl (fun i hi => by
    match i, hi with
    | 0, _ => rfl
    | 1, _ => rfl))
  clear hF hL hnm hs
  unfold maxLen at hkey hl1 hf1
  have KS := Lib.hid (fun W (h : BoxE w (.mk k n s la ll lc L fa fl fc fn F e key hk) W) => at80 h.cv)
  have OK0 := Lib.hid (boxE w (.mk k n s la ll lc L fa fl fc fn F e key hk) 30)
  obtain ⟨qn, hqn⟩ : ∃ x, decide (n = 0) = x := ⟨_, rfl⟩
  obtain ⟨qs, hqs⟩ : ∃ x, emptyB s = x := ⟨_, rfl⟩
  obtain ⟨qf, hqf⟩ : ∃ x, decide (fl = 0) = x := ⟨_, rfl⟩
  obtain ⟨qk, hqk⟩ : ∃ x, emptyB key = x := ⟨_, rfl⟩
  obtain ⟨qd, hqd⟩ : ∃ x, decide (key.size ≤ 4096) = x := ⟨_, rfl⟩
  obtain ⟨pn, hpn⟩ : ∃ x, rName s = x := ⟨_, rfl⟩
  obtain ⟨jv, hjv⟩ : ∃ x, justB fl fn 1 nsValue = x := ⟨_, rfl⟩
  obtain ⟨je, hje⟩ : ∃ x, justB fl fn 1 nsElse = x := ⟨_, rfl⟩
  obtain ⟨jg, hjg⟩ : ∃ x, justB fl fn 2 nsGuard = x := ⟨_, rfl⟩
  have HR := Lib.hid (show rElem n s fl fn e key hk gF gL = (qn && ((hk || qk) && (qd && (gF && (gL && (pn && qf)))))) by
    unfold rElem
    rw [hqn, hqk, hqd, hqs, hqf, hpn, hjv, hje, hjg]
    simp [he])
  rw [hpn] at CN
  rw [hjv] at NV
  rw [hje] at NE
  rw [hjg] at NG
  generalize rElem n s fl fn e key hk gF gL = q at HR ⊢
  have s1 : s.toList.isEmpty = qs := by rw [empty_is, hqs]
  have s2 : (s.toList == ByteArray.toList ⟨#[]⟩) = qs := by rw [lit_empty, hqs]
  have s3 : key.toList.isEmpty = qk := by rw [empty_is, hqk]
  have s4 : (key.toList == ByteArray.toList ⟨#[]⟩) = qk := by rw [lit_empty, hqk]
  have s5 : (n == 0) = qn := hqn
  have s6 : (n != 0) = !qn := by rw [← s5]; rfl
  have s7 : decide ((4096 : Int) < (key.size : Int)) = !qd := by rw [← hqd, Bool.eq_iff_iff]; simp; omega
  have s8 : ((fl : Int) == 0) = qf := by rw [← hqf, Bool.eq_iff_iff]; simp
  clear hqn hqs hqf hqk hqd hpn hjv hje hjg
  subst he
  simp only [V.cells] at OK0
  go_enter Tryz.func145, Tryz.ntmps145
  go_upto_region 1 with fail
  have OKu := OK0.out
  generalize (w.alloc (.cells #[.int .u8 k, .int .i64 n, .string s, .slice la ll lc, .slice fa fl fc, .int .u8 5, .string key, .bool hk] 30)) = W0 at OKu ⊢
  have OK : BoxE w (.mk k n s la ll lc L fa fl fc fn F 5 key hk) W0 := OKu
  clear OKu OK0
  obtain ⟨c0, c1, c2, c3, c4, c5, c6, c7⟩ := KS.out _ OK
  go_wp2_with (first
    | (go_at_call 144; refine (CF.out _ (by assumption)).mono ?_; rintro x w1 ⟨rfl, hb1⟩; (have OKn := BoxE.below (by assumption) hb1); clear hb1; obtain ⟨c0, c1, c2, c3, c4, c5, c6, c7⟩ := KS.out _ OKn)
    | (go_at_call 143; refine (CL.out _ (by assumption)).mono ?_; rintro x w1 ⟨rfl, hb1⟩; (have OKn := BoxE.below (by assumption) hb1); clear hb1; obtain ⟨c0, c1, c2, c3, c4, c5, c6, c7⟩ := KS.out _ OKn)
    | (go_at_call 169; refine (CN.out _).mono ?_; rintro x w1 ⟨rfl, rfl⟩))
  all_goals
    go_ret
    refine ⟨?_, BoxE.low (by assumption)⟩
    have hq := HR.out
    clear HR CF CL CN NV NE NG KS s1 s2 s3 s4 s5 s6 s7 s8
    simp_all
set_option maxRecDepth 100000 in
set_option maxHeartbeats 8000000 in
theorem elem_6 (k n : Int) (s : ByteArray) (la : Option Addr) (ll lc : Nat) (L : Nat → V) (fa : Option Addr) (fl fc : Nat) (fn : Nat → ByteArray) (F : Nat → V) (e : Int) (key : ByteArray) (hk : Bool) (w : World) (he : e = 6)
    (hin : (V.mk k n s la ll lc L fa fl fc fn F e key hk).In w) (gF gL : Bool) (hF : Ans w 144 (.slice fa fl fc) gF) (hL : Ans w 143 (.slice la ll lc) gL) :
    Calls Tryz.prog 145 #[.agg #[.int .u8 k, .int .i64 n, .string s, .slice la ll lc, .slice fa fl fc, .int .u8 e, .string key, .bool hk]] w fun x w' => x = .returned (.bool (rElem n s fl fn e key hk gF gL)) ∧ Below w.heap.size w w' := by
  have CF := Lib.hid (fun W (h : BoxE w (.mk k n s la ll lc L fa fl fc fn F e key hk) W) => hF W h.low)
  have CL := Lib.hid (fun W (h : BoxE w (.mk k n s la ll lc L fa fl fc fn F e key hk) W) => hL W h.low)
  have hnm := names_of hin
  obtain ⟨-, -, hs, -, hkey, hl1, hf1, -, -⟩ := hin
  have CN := Lib.hid (fun W => name_any s W hs)
  have NV := Lib.hid (fun W (h : BoxE w (.mk k n s la ll lc L fa fl fc fn F e key hk) W) (T : TypeId) => named_of fa fl fc fn w W hnm h.low 1 nsValue [.string ⟨#[118, 97, 108, 117, 101]⟩] T (by omega) rfl (fun i hi => by match i, hi with | 0, _ => rfl))
  have NE := Lib.hid (fun W (h : BoxE w (.mk k n s la ll lc L fa fl fc fn F e key hk) W) (T : TypeId) => named_of fa fl fc fn w W hnm h.low 1 nsElse [.string ⟨#[101, 108, 115, 101]⟩] T (by omega) rfl (fun i hi => by match i, hi with | 0, _ => rfl))
  have NG := Lib.hid (fun W (h : BoxE w (.mk k n s la ll lc L fa fl fc fn F e key hk) W) (T : TypeId) => named_of fa fl fc fn w W hnm h.low 2 nsGuard [.string ⟨#[97, 103, 97, 105, 110]⟩, .string ⟨#[101, 108, 115, 101]⟩] T (by omega) rfl (fun i hi => by
    match i, hi with
    | 0, _ => rfl
    | 1, _ => rfl))
  clear hF hL hnm hs
  unfold maxLen at hkey hl1 hf1
  have KS := Lib.hid (fun W (h : BoxE w (.mk k n s la ll lc L fa fl fc fn F e key hk) W) => at80 h.cv)
  have OK0 := Lib.hid (boxE w (.mk k n s la ll lc L fa fl fc fn F e key hk) 30)
  obtain ⟨qn, hqn⟩ : ∃ x, decide (n = 0) = x := ⟨_, rfl⟩
  obtain ⟨qs, hqs⟩ : ∃ x, emptyB s = x := ⟨_, rfl⟩
  obtain ⟨qf, hqf⟩ : ∃ x, decide (fl = 0) = x := ⟨_, rfl⟩
  obtain ⟨qk, hqk⟩ : ∃ x, emptyB key = x := ⟨_, rfl⟩
  obtain ⟨qd, hqd⟩ : ∃ x, decide (key.size ≤ 4096) = x := ⟨_, rfl⟩
  obtain ⟨pn, hpn⟩ : ∃ x, rName s = x := ⟨_, rfl⟩
  obtain ⟨jv, hjv⟩ : ∃ x, justB fl fn 1 nsValue = x := ⟨_, rfl⟩
  obtain ⟨je, hje⟩ : ∃ x, justB fl fn 1 nsElse = x := ⟨_, rfl⟩
  obtain ⟨jg, hjg⟩ : ∃ x, justB fl fn 2 nsGuard = x := ⟨_, rfl⟩
  have HR := Lib.hid (show rElem n s fl fn e key hk gF gL = (qn && ((hk || qk) && (qd && (gF && (gL && (pn && jv)))))) by
    unfold rElem
    rw [hqn, hqk, hqd, hqs, hqf, hpn, hjv, hje, hjg]
    simp [he])
  rw [hpn] at CN
  rw [hjv] at NV
  rw [hje] at NE
  rw [hjg] at NG
  generalize rElem n s fl fn e key hk gF gL = q at HR ⊢
  have s1 : s.toList.isEmpty = qs := by rw [empty_is, hqs]
  have s2 : (s.toList == ByteArray.toList ⟨#[]⟩) = qs := by rw [lit_empty, hqs]
  have s3 : key.toList.isEmpty = qk := by rw [empty_is, hqk]
  have s4 : (key.toList == ByteArray.toList ⟨#[]⟩) = qk := by rw [lit_empty, hqk]
  have s5 : (n == 0) = qn := hqn
  have s6 : (n != 0) = !qn := by rw [← s5]; rfl
  have s7 : decide ((4096 : Int) < (key.size : Int)) = !qd := by rw [← hqd, Bool.eq_iff_iff]; simp; omega
  have s8 : ((fl : Int) == 0) = qf := by rw [← hqf, Bool.eq_iff_iff]; simp
  clear hqn hqs hqf hqk hqd hpn hjv hje hjg
  subst he
  simp only [V.cells] at OK0
  go_enter Tryz.func145, Tryz.ntmps145
  go_upto_region 1 with fail
  have OKu := OK0.out
  generalize (w.alloc (.cells #[.int .u8 k, .int .i64 n, .string s, .slice la ll lc, .slice fa fl fc, .int .u8 6, .string key, .bool hk] 30)) = W0 at OKu ⊢
  have OK : BoxE w (.mk k n s la ll lc L fa fl fc fn F 6 key hk) W0 := OKu
  clear OKu OK0
  obtain ⟨c0, c1, c2, c3, c4, c5, c6, c7⟩ := KS.out _ OK
  go_wp2_with (first
    | (go_at_call 144; refine (CF.out _ (by assumption)).mono ?_; rintro x w1 ⟨rfl, hb1⟩; (have OKn := BoxE.below (by assumption) hb1); clear hb1; obtain ⟨c0, c1, c2, c3, c4, c5, c6, c7⟩ := KS.out _ OKn)
    | (go_at_call 143; refine (CL.out _ (by assumption)).mono ?_; rintro x w1 ⟨rfl, hb1⟩; (have OKn := BoxE.below (by assumption) hb1); clear hb1; obtain ⟨c0, c1, c2, c3, c4, c5, c6, c7⟩ := KS.out _ OKn)
    | (go_at_call 169; refine (CN.out _).mono ?_; rintro x w1 ⟨rfl, rfl⟩)
    | (go_at_call 170; refine (NV.out _ (by assumption) _).mono ?_; rintro x w1 ⟨rfl, hb1⟩; (have OKn := BoxE.below (by assumption) hb1); clear hb1))
  all_goals
    go_ret
    refine ⟨?_, BoxE.low (by assumption)⟩
    have hq := HR.out
    clear HR CF CL CN NV NE NG KS s1 s2 s3 s4 s5 s6 s7 s8
    simp_all
set_option maxRecDepth 100000 in
set_option maxHeartbeats 8000000 in
theorem elem_7 (k n : Int) (s : ByteArray) (la : Option Addr) (ll lc : Nat) (L : Nat → V) (fa : Option Addr) (fl fc : Nat) (fn : Nat → ByteArray) (F : Nat → V) (e : Int) (key : ByteArray) (hk : Bool) (w : World) (he : e = 7)
    (hin : (V.mk k n s la ll lc L fa fl fc fn F e key hk).In w) (gF gL : Bool) (hF : Ans w 144 (.slice fa fl fc) gF) (hL : Ans w 143 (.slice la ll lc) gL) :
    Calls Tryz.prog 145 #[.agg #[.int .u8 k, .int .i64 n, .string s, .slice la ll lc, .slice fa fl fc, .int .u8 e, .string key, .bool hk]] w fun x w' => x = .returned (.bool (rElem n s fl fn e key hk gF gL)) ∧ Below w.heap.size w w' := by
  have CF := Lib.hid (fun W (h : BoxE w (.mk k n s la ll lc L fa fl fc fn F e key hk) W) => hF W h.low)
  have CL := Lib.hid (fun W (h : BoxE w (.mk k n s la ll lc L fa fl fc fn F e key hk) W) => hL W h.low)
  have hnm := names_of hin
  obtain ⟨-, -, hs, -, hkey, hl1, hf1, -, -⟩ := hin
  have CN := Lib.hid (fun W => name_any s W hs)
  have NV := Lib.hid (fun W (h : BoxE w (.mk k n s la ll lc L fa fl fc fn F e key hk) W) (T : TypeId) => named_of fa fl fc fn w W hnm h.low 1 nsValue [.string ⟨#[118, 97, 108, 117, 101]⟩] T (by omega) rfl (fun i hi => by match i, hi with | 0, _ => rfl))
  have NE := Lib.hid (fun W (h : BoxE w (.mk k n s la ll lc L fa fl fc fn F e key hk) W) (T : TypeId) => named_of fa fl fc fn w W hnm h.low 1 nsElse [.string ⟨#[101, 108, 115, 101]⟩] T (by omega) rfl (fun i hi => by match i, hi with | 0, _ => rfl))
  have NG := Lib.hid (fun W (h : BoxE w (.mk k n s la ll lc L fa fl fc fn F e key hk) W) (T : TypeId) => named_of fa fl fc fn w W hnm h.low 2 nsGuard [.string ⟨#[97, 103, 97, 105, 110]⟩, .string ⟨#[101, 108, 115, 101]⟩] T (by omega) rfl (fun i hi => by
    match i, hi with
    | 0, _ => rfl
    | 1, _ => rfl))
  clear hF hL hnm hs
  unfold maxLen at hkey hl1 hf1
  have KS := Lib.hid (fun W (h : BoxE w (.mk k n s la ll lc L fa fl fc fn F e key hk) W) => at80 h.cv)
  have OK0 := Lib.hid (boxE w (.mk k n s la ll lc L fa fl fc fn F e key hk) 30)
  obtain ⟨qn, hqn⟩ : ∃ x, decide (n = 0) = x := ⟨_, rfl⟩
  obtain ⟨qs, hqs⟩ : ∃ x, emptyB s = x := ⟨_, rfl⟩
  obtain ⟨qf, hqf⟩ : ∃ x, decide (fl = 0) = x := ⟨_, rfl⟩
  obtain ⟨qk, hqk⟩ : ∃ x, emptyB key = x := ⟨_, rfl⟩
  obtain ⟨qd, hqd⟩ : ∃ x, decide (key.size ≤ 4096) = x := ⟨_, rfl⟩
  obtain ⟨pn, hpn⟩ : ∃ x, rName s = x := ⟨_, rfl⟩
  obtain ⟨jv, hjv⟩ : ∃ x, justB fl fn 1 nsValue = x := ⟨_, rfl⟩
  obtain ⟨je, hje⟩ : ∃ x, justB fl fn 1 nsElse = x := ⟨_, rfl⟩
  obtain ⟨jg, hjg⟩ : ∃ x, justB fl fn 2 nsGuard = x := ⟨_, rfl⟩
  have HR := Lib.hid (show rElem n s fl fn e key hk gF gL = (qn && ((hk || qk) && (qd && (gF && (gL && (qs && jg)))))) by
    unfold rElem
    rw [hqn, hqk, hqd, hqs, hqf, hpn, hjv, hje, hjg]
    simp [he])
  rw [hpn] at CN
  rw [hjv] at NV
  rw [hje] at NE
  rw [hjg] at NG
  generalize rElem n s fl fn e key hk gF gL = q at HR ⊢
  have s1 : s.toList.isEmpty = qs := by rw [empty_is, hqs]
  have s2 : (s.toList == ByteArray.toList ⟨#[]⟩) = qs := by rw [lit_empty, hqs]
  have s3 : key.toList.isEmpty = qk := by rw [empty_is, hqk]
  have s4 : (key.toList == ByteArray.toList ⟨#[]⟩) = qk := by rw [lit_empty, hqk]
  have s5 : (n == 0) = qn := hqn
  have s6 : (n != 0) = !qn := by rw [← s5]; rfl
  have s7 : decide ((4096 : Int) < (key.size : Int)) = !qd := by rw [← hqd, Bool.eq_iff_iff]; simp; omega
  have s8 : ((fl : Int) == 0) = qf := by rw [← hqf, Bool.eq_iff_iff]; simp
  clear hqn hqs hqf hqk hqd hpn hjv hje hjg
  subst he
  simp only [V.cells] at OK0
  go_enter Tryz.func145, Tryz.ntmps145
  go_upto_region 1 with fail
  have OKu := OK0.out
  generalize (w.alloc (.cells #[.int .u8 k, .int .i64 n, .string s, .slice la ll lc, .slice fa fl fc, .int .u8 7, .string key, .bool hk] 30)) = W0 at OKu ⊢
  have OK : BoxE w (.mk k n s la ll lc L fa fl fc fn F 7 key hk) W0 := OKu
  clear OKu OK0
  obtain ⟨c0, c1, c2, c3, c4, c5, c6, c7⟩ := KS.out _ OK
  go_wp2_with (first
    | (go_at_call 144; refine (CF.out _ (by assumption)).mono ?_; rintro x w1 ⟨rfl, hb1⟩; (have OKn := BoxE.below (by assumption) hb1); clear hb1; obtain ⟨c0, c1, c2, c3, c4, c5, c6, c7⟩ := KS.out _ OKn)
    | (go_at_call 143; refine (CL.out _ (by assumption)).mono ?_; rintro x w1 ⟨rfl, hb1⟩; (have OKn := BoxE.below (by assumption) hb1); clear hb1; obtain ⟨c0, c1, c2, c3, c4, c5, c6, c7⟩ := KS.out _ OKn)
    | (go_at_call 170; refine (NG.out _ (by assumption) _).mono ?_; rintro x w1 ⟨rfl, hb1⟩; (have OKn := BoxE.below (by assumption) hb1); clear hb1))
  all_goals
    go_ret
    refine ⟨?_, BoxE.low (by assumption)⟩
    have hq := HR.out
    clear HR CF CL CN NV NE NG KS s1 s2 s3 s4 s5 s6 s7 s8
    simp_all
set_option maxRecDepth 100000 in
set_option maxHeartbeats 8000000 in
theorem elem_8 (k n : Int) (s : ByteArray) (la : Option Addr) (ll lc : Nat) (L : Nat → V) (fa : Option Addr) (fl fc : Nat) (fn : Nat → ByteArray) (F : Nat → V) (e : Int) (key : ByteArray) (hk : Bool) (w : World) (he : e = 8)
    (hin : (V.mk k n s la ll lc L fa fl fc fn F e key hk).In w) (gF gL : Bool) (hF : Ans w 144 (.slice fa fl fc) gF) (hL : Ans w 143 (.slice la ll lc) gL) :
    Calls Tryz.prog 145 #[.agg #[.int .u8 k, .int .i64 n, .string s, .slice la ll lc, .slice fa fl fc, .int .u8 e, .string key, .bool hk]] w fun x w' => x = .returned (.bool (rElem n s fl fn e key hk gF gL)) ∧ Below w.heap.size w w' := by
  have CF := Lib.hid (fun W (h : BoxE w (.mk k n s la ll lc L fa fl fc fn F e key hk) W) => hF W h.low)
  have CL := Lib.hid (fun W (h : BoxE w (.mk k n s la ll lc L fa fl fc fn F e key hk) W) => hL W h.low)
  have hnm := names_of hin
  obtain ⟨-, -, hs, -, hkey, hl1, hf1, -, -⟩ := hin
  have CN := Lib.hid (fun W => name_any s W hs)
  have NV := Lib.hid (fun W (h : BoxE w (.mk k n s la ll lc L fa fl fc fn F e key hk) W) (T : TypeId) => named_of fa fl fc fn w W hnm h.low 1 nsValue [.string ⟨#[118, 97, 108, 117, 101]⟩] T (by omega) rfl (fun i hi => by match i, hi with | 0, _ => rfl))
  have NE := Lib.hid (fun W (h : BoxE w (.mk k n s la ll lc L fa fl fc fn F e key hk) W) (T : TypeId) => named_of fa fl fc fn w W hnm h.low 1 nsElse [.string ⟨#[101, 108, 115, 101]⟩] T (by omega) rfl (fun i hi => by match i, hi with | 0, _ => rfl))
  have NG := Lib.hid (fun W (h : BoxE w (.mk k n s la ll lc L fa fl fc fn F e key hk) W) (T : TypeId) => named_of fa fl fc fn w W hnm h.low 2 nsGuard [.string ⟨#[97, 103, 97, 105, 110]⟩, .string ⟨#[101, 108, 115, 101]⟩] T (by omega) rfl (fun i hi => by
    match i, hi with
    | 0, _ => rfl
    | 1, _ => rfl))
  clear hF hL hnm hs
  unfold maxLen at hkey hl1 hf1
  have KS := Lib.hid (fun W (h : BoxE w (.mk k n s la ll lc L fa fl fc fn F e key hk) W) => at80 h.cv)
  have OK0 := Lib.hid (boxE w (.mk k n s la ll lc L fa fl fc fn F e key hk) 30)
  obtain ⟨qn, hqn⟩ : ∃ x, decide (n = 0) = x := ⟨_, rfl⟩
  obtain ⟨qs, hqs⟩ : ∃ x, emptyB s = x := ⟨_, rfl⟩
  obtain ⟨qf, hqf⟩ : ∃ x, decide (fl = 0) = x := ⟨_, rfl⟩
  obtain ⟨qk, hqk⟩ : ∃ x, emptyB key = x := ⟨_, rfl⟩
  obtain ⟨qd, hqd⟩ : ∃ x, decide (key.size ≤ 4096) = x := ⟨_, rfl⟩
  obtain ⟨pn, hpn⟩ : ∃ x, rName s = x := ⟨_, rfl⟩
  obtain ⟨jv, hjv⟩ : ∃ x, justB fl fn 1 nsValue = x := ⟨_, rfl⟩
  obtain ⟨je, hje⟩ : ∃ x, justB fl fn 1 nsElse = x := ⟨_, rfl⟩
  obtain ⟨jg, hjg⟩ : ∃ x, justB fl fn 2 nsGuard = x := ⟨_, rfl⟩
  have HR := Lib.hid (show rElem n s fl fn e key hk gF gL = (qn && ((hk || qk) && (qd && (gF && (gL && (qs && je)))))) by
    unfold rElem
    rw [hqn, hqk, hqd, hqs, hqf, hpn, hjv, hje, hjg]
    simp [he])
  rw [hpn] at CN
  rw [hjv] at NV
  rw [hje] at NE
  rw [hjg] at NG
  generalize rElem n s fl fn e key hk gF gL = q at HR ⊢
  have s1 : s.toList.isEmpty = qs := by rw [empty_is, hqs]
  have s2 : (s.toList == ByteArray.toList ⟨#[]⟩) = qs := by rw [lit_empty, hqs]
  have s3 : key.toList.isEmpty = qk := by rw [empty_is, hqk]
  have s4 : (key.toList == ByteArray.toList ⟨#[]⟩) = qk := by rw [lit_empty, hqk]
  have s5 : (n == 0) = qn := hqn
  have s6 : (n != 0) = !qn := by rw [← s5]; rfl
  have s7 : decide ((4096 : Int) < (key.size : Int)) = !qd := by rw [← hqd, Bool.eq_iff_iff]; simp; omega
  have s8 : ((fl : Int) == 0) = qf := by rw [← hqf, Bool.eq_iff_iff]; simp
  clear hqn hqs hqf hqk hqd hpn hjv hje hjg
  subst he
  simp only [V.cells] at OK0
  go_enter Tryz.func145, Tryz.ntmps145
  go_upto_region 1 with fail
  have OKu := OK0.out
  generalize (w.alloc (.cells #[.int .u8 k, .int .i64 n, .string s, .slice la ll lc, .slice fa fl fc, .int .u8 8, .string key, .bool hk] 30)) = W0 at OKu ⊢
  have OK : BoxE w (.mk k n s la ll lc L fa fl fc fn F 8 key hk) W0 := OKu
  clear OKu OK0
  obtain ⟨c0, c1, c2, c3, c4, c5, c6, c7⟩ := KS.out _ OK
  go_wp2_with (first
    | (go_at_call 144; refine (CF.out _ (by assumption)).mono ?_; rintro x w1 ⟨rfl, hb1⟩; (have OKn := BoxE.below (by assumption) hb1); clear hb1; obtain ⟨c0, c1, c2, c3, c4, c5, c6, c7⟩ := KS.out _ OKn)
    | (go_at_call 143; refine (CL.out _ (by assumption)).mono ?_; rintro x w1 ⟨rfl, hb1⟩; (have OKn := BoxE.below (by assumption) hb1); clear hb1; obtain ⟨c0, c1, c2, c3, c4, c5, c6, c7⟩ := KS.out _ OKn)
    | (go_at_call 170; refine (NE.out _ (by assumption) _).mono ?_; rintro x w1 ⟨rfl, hb1⟩; (have OKn := BoxE.below (by assumption) hb1); clear hb1))
  all_goals
    go_ret
    refine ⟨?_, BoxE.low (by assumption)⟩
    have hq := HR.out
    clear HR CF CL CN NV NE NG KS s1 s2 s3 s4 s5 s6 s7 s8
    simp_all
set_option maxRecDepth 100000 in
set_option maxHeartbeats 8000000 in
theorem elem_0 (k n : Int) (s : ByteArray) (la : Option Addr) (ll lc : Nat) (L : Nat → V) (fa : Option Addr) (fl fc : Nat) (fn : Nat → ByteArray) (F : Nat → V) (e : Int) (key : ByteArray) (hk : Bool) (w : World) (he : ¬ (e = 1 ∨ e = 2 ∨ e = 3) ∧ ¬ e = 4 ∧ ¬ e = 5 ∧ ¬ e = 6 ∧ ¬ e = 7 ∧ ¬ e = 8)
    (hin : (V.mk k n s la ll lc L fa fl fc fn F e key hk).In w) (gF gL : Bool) (hF : Ans w 144 (.slice fa fl fc) gF) (hL : Ans w 143 (.slice la ll lc) gL) :
    Calls Tryz.prog 145 #[.agg #[.int .u8 k, .int .i64 n, .string s, .slice la ll lc, .slice fa fl fc, .int .u8 e, .string key, .bool hk]] w fun x w' => x = .returned (.bool (rElem n s fl fn e key hk gF gL)) ∧ Below w.heap.size w w' := by
  have CF := Lib.hid (fun W (h : BoxE w (.mk k n s la ll lc L fa fl fc fn F e key hk) W) => hF W h.low)
  have CL := Lib.hid (fun W (h : BoxE w (.mk k n s la ll lc L fa fl fc fn F e key hk) W) => hL W h.low)
  have hnm := names_of hin
  obtain ⟨-, -, hs, -, hkey, hl1, hf1, -, -⟩ := hin
  have CN := Lib.hid (fun W => name_any s W hs)
  have NV := Lib.hid (fun W (h : BoxE w (.mk k n s la ll lc L fa fl fc fn F e key hk) W) (T : TypeId) => named_of fa fl fc fn w W hnm h.low 1 nsValue [.string ⟨#[118, 97, 108, 117, 101]⟩] T (by omega) rfl (fun i hi => by match i, hi with | 0, _ => rfl))
  have NE := Lib.hid (fun W (h : BoxE w (.mk k n s la ll lc L fa fl fc fn F e key hk) W) (T : TypeId) => named_of fa fl fc fn w W hnm h.low 1 nsElse [.string ⟨#[101, 108, 115, 101]⟩] T (by omega) rfl (fun i hi => by match i, hi with | 0, _ => rfl))
  have NG := Lib.hid (fun W (h : BoxE w (.mk k n s la ll lc L fa fl fc fn F e key hk) W) (T : TypeId) => named_of fa fl fc fn w W hnm h.low 2 nsGuard [.string ⟨#[97, 103, 97, 105, 110]⟩, .string ⟨#[101, 108, 115, 101]⟩] T (by omega) rfl (fun i hi => by
    match i, hi with
    | 0, _ => rfl
    | 1, _ => rfl))
  clear hF hL hnm hs
  unfold maxLen at hkey hl1 hf1
  have KS := Lib.hid (fun W (h : BoxE w (.mk k n s la ll lc L fa fl fc fn F e key hk) W) => at80 h.cv)
  have OK0 := Lib.hid (boxE w (.mk k n s la ll lc L fa fl fc fn F e key hk) 30)
  obtain ⟨qn, hqn⟩ : ∃ x, decide (n = 0) = x := ⟨_, rfl⟩
  obtain ⟨qs, hqs⟩ : ∃ x, emptyB s = x := ⟨_, rfl⟩
  obtain ⟨qf, hqf⟩ : ∃ x, decide (fl = 0) = x := ⟨_, rfl⟩
  obtain ⟨qk, hqk⟩ : ∃ x, emptyB key = x := ⟨_, rfl⟩
  obtain ⟨qd, hqd⟩ : ∃ x, decide (key.size ≤ 4096) = x := ⟨_, rfl⟩
  obtain ⟨pn, hpn⟩ : ∃ x, rName s = x := ⟨_, rfl⟩
  obtain ⟨jv, hjv⟩ : ∃ x, justB fl fn 1 nsValue = x := ⟨_, rfl⟩
  obtain ⟨je, hje⟩ : ∃ x, justB fl fn 1 nsElse = x := ⟨_, rfl⟩
  obtain ⟨jg, hjg⟩ : ∃ x, justB fl fn 2 nsGuard = x := ⟨_, rfl⟩
  have HR := Lib.hid (show rElem n s fl fn e key hk gF gL = (qn && ((hk || qk) && (qd && (gF && (gL && false))))) by
    unfold rElem
    rw [hqn, hqk, hqd, hqs, hqf, hpn, hjv, hje, hjg]
    simp [he])
  rw [hpn] at CN
  rw [hjv] at NV
  rw [hje] at NE
  rw [hjg] at NG
  generalize rElem n s fl fn e key hk gF gL = q at HR ⊢
  have s1 : s.toList.isEmpty = qs := by rw [empty_is, hqs]
  have s2 : (s.toList == ByteArray.toList ⟨#[]⟩) = qs := by rw [lit_empty, hqs]
  have s3 : key.toList.isEmpty = qk := by rw [empty_is, hqk]
  have s4 : (key.toList == ByteArray.toList ⟨#[]⟩) = qk := by rw [lit_empty, hqk]
  have s5 : (n == 0) = qn := hqn
  have s6 : (n != 0) = !qn := by rw [← s5]; rfl
  have s7 : decide ((4096 : Int) < (key.size : Int)) = !qd := by rw [← hqd, Bool.eq_iff_iff]; simp; omega
  have s8 : ((fl : Int) == 0) = qf := by rw [← hqf, Bool.eq_iff_iff]; simp
  clear hqn hqs hqf hqk hqd hpn hjv hje hjg
  have g1 : (e == 1) = false := by simp; omega
  have g2 : (e == 2) = false := by simp; omega
  have g3 : (e == 3) = false := by simp; omega
  have g4 : (e == 4) = false := by simp; omega
  have g5 : (e == 5) = false := by simp; omega
  have g6 : (e == 6) = false := by simp; omega
  have g7 : (e == 7) = false := by simp; omega
  have g8 : (e == 8) = false := by simp; omega
  clear he
  simp only [V.cells] at OK0
  go_enter Tryz.func145, Tryz.ntmps145
  go_upto_region 1 with fail
  have OKu := OK0.out
  generalize (w.alloc (.cells #[.int .u8 k, .int .i64 n, .string s, .slice la ll lc, .slice fa fl fc, .int .u8 e, .string key, .bool hk] 30)) = W0 at OKu ⊢
  have OK : BoxE w (.mk k n s la ll lc L fa fl fc fn F e key hk) W0 := OKu
  clear OKu OK0
  obtain ⟨c0, c1, c2, c3, c4, c5, c6, c7⟩ := KS.out _ OK
  go_wp2_with (first
    | (go_at_call 144; refine (CF.out _ (by assumption)).mono ?_; rintro x w1 ⟨rfl, hb1⟩; (have OKn := BoxE.below (by assumption) hb1); clear hb1; obtain ⟨c0, c1, c2, c3, c4, c5, c6, c7⟩ := KS.out _ OKn)
    | (go_at_call 143; refine (CL.out _ (by assumption)).mono ?_; rintro x w1 ⟨rfl, hb1⟩; (have OKn := BoxE.below (by assumption) hb1); clear hb1; obtain ⟨c0, c1, c2, c3, c4, c5, c6, c7⟩ := KS.out _ OKn))
  all_goals
    go_ret
    refine ⟨?_, BoxE.low (by assumption)⟩
    have hq := HR.out
    clear HR CF CL CN NV NE NG KS s1 s2 s3 s4 s5 s6 s7 s8
    simp_all
end Go.Proofs.YtmhemajcnfcdmaaGreatDoor
namespace Go.Proofs.YtmhemajcnfcdmaaGreatDoor
open Go.RowKit
theorem elem_any (k n : Int) (s : ByteArray) (la : Option Addr) (ll lc : Nat) (L : Nat → V) (fa : Option Addr) (fl fc : Nat) (fn : Nat → ByteArray) (F : Nat → V) (e : Int) (key : ByteArray) (hk : Bool) (w : World)
    (hin : (V.mk k n s la ll lc L fa fl fc fn F e key hk).In w) (gF gL : Bool) (hF : Ans w 144 (.slice fa fl fc) gF) (hL : Ans w 143 (.slice la ll lc) gL) :
    Calls Tryz.prog 145 #[.agg #[.int .u8 k, .int .i64 n, .string s, .slice la ll lc, .slice fa fl fc, .int .u8 e, .string key, .bool hk]] w fun x w' => x = .returned (.bool (rElem n s fl fn e key hk gF gL)) ∧ Below w.heap.size w w' := by
  by_cases h1 : e = 1
  · exact elem_1 k n s la ll lc L fa fl fc fn F e key hk w h1 hin gF gL hF hL
  by_cases h2 : e = 2
  · exact elem_2 k n s la ll lc L fa fl fc fn F e key hk w h2 hin gF gL hF hL
  by_cases h3 : e = 3
  · exact elem_3 k n s la ll lc L fa fl fc fn F e key hk w h3 hin gF gL hF hL
  by_cases h4 : e = 4
  · exact elem_4 k n s la ll lc L fa fl fc fn F e key hk w h4 hin gF gL hF hL
  by_cases h5 : e = 5
  · exact elem_5 k n s la ll lc L fa fl fc fn F e key hk w h5 hin gF gL hF hL
  by_cases h6 : e = 6
  · exact elem_6 k n s la ll lc L fa fl fc fn F e key hk w h6 hin gF gL hF hL
  by_cases h7 : e = 7
  · exact elem_7 k n s la ll lc L fa fl fc fn F e key hk w h7 hin gF gL hF hL
  by_cases h8 : e = 8
  · exact elem_8 k n s la ll lc L fa fl fc fn F e key hk w h8 hin gF gL hF hL
  exact elem_0 k n s la ll lc L fa fl fc fn F e key hk w ⟨by omega, h4, h5, h6, h7, h8⟩ hin gF gL hF hL
set_option maxRecDepth 100000 in
set_option maxHeartbeats 8000000 in
theorem shaped_0 (n : Int) (s : ByteArray) (la : Option Addr) (ll lc : Nat) (L : Nat → V) (fa : Option Addr) (fl fc : Nat) (fn : Nat → ByteArray) (F : Nat → V) (e : Int) (key : ByteArray) (hk : Bool) (w : World) 
    (hin : (V.mk 0 n s la ll lc L fa fl fc fn F e key hk).In w) (gF gL : Bool) (hF : Ans w 144 (.slice fa fl fc) gF) (hL : Ans w 143 (.slice la ll lc) gL) :
    Calls Tryz.prog 80 #[.agg #[.int .u8 0, .int .i64 n, .string s, .slice la ll lc, .slice fa fl fc, .int .u8 e, .string key, .bool hk]] w fun x w' => x = .returned (.bool (rShape 0 n s ll fl fn e key hk gF gL)) ∧ Below w.heap.size w w' := by
  have CF := Lib.hid (fun W (h : BoxE w (.mk 0 n s la ll lc L fa fl fc fn F e key hk) W) => hF W h.low)
  have CL := Lib.hid (fun W (h : BoxE w (.mk 0 n s la ll lc L fa fl fc fn F e key hk) W) => hL W h.low)
  have CE := Lib.hid (fun W (h : BoxE w (.mk 0 n s la ll lc L fa fl fc fn F e key hk) W) => elem_any 0 n s la ll lc L fa fl fc fn F e key hk W (hin.below h.low) gF gL (fun W2 hb => hF W2 (h.low.trans (hb.mono h.low.size))) (fun W2 hb => hL W2 (h.low.trans (hb.mono h.low.size))))
  obtain ⟨-, -, hs, -, -, hl1, hf1, -, -⟩ := hin
  have CO := Lib.hid (fun W => only_any false false false false 0 n s la ll lc fa fl fc e key hk W (Nat.le_trans hl1.1 hl1.2) (Nat.le_trans hf1.1 hf1.2))
  clear hF hL
  unfold maxLen at hs
  have KS := Lib.hid (fun W (h : BoxE w (.mk 0 n s la ll lc L fa fl fc fn F e key hk) W) => at80 h.cv)
  have OK0 := Lib.hid (boxE w (.mk 0 n s la ll lc L fa fl fc fn F e key hk) 30)
  have HR := Lib.hid (show rShape 0 n s ll fl fn e key hk gF gL = rOnly false false false false n s ll fl e key hk by simp [rShape])
  generalize rShape 0 n s ll fl fn e key hk gF gL = q at HR ⊢
  generalize rOnly false false false false n s ll fl e key hk = oq at CO HR
  generalize rElem n s fl fn e key hk gF gL = eq at CE HR
  obtain ⟨q0, s0⟩ : ∃ x, (n == 0) = x := ⟨_, rfl⟩
  obtain ⟨q1, s1⟩ : ∃ x, (n == 1) = x := ⟨_, rfl⟩
  obtain ⟨qd, hqd⟩ : ∃ x, decide (s.size ≤ 4096) = x := ⟨_, rfl⟩
  have s2 : decide ((s.size : Int) ≤ 4096) = qd := by rw [← hqd, Bool.eq_iff_iff]; simp; omega
  have HR2 := HR.out
  try rw [hqd] at HR2
  have s0' : decide (n = 0) = q0 := s0
  have s1' : decide (n = 1) = q1 := s1
  try rw [s0'] at HR2
  try rw [s1'] at HR2
  have HR3 := Lib.hid HR2
  clear HR HR2 hqd s0' s1' hl1 hf1
  simp only [V.cells] at OK0
  go_enter Tryz.func80, Tryz.ntmps80
  go_upto_region 1 with fail
  have OKu := OK0.out
  generalize (w.alloc (.cells #[.int .u8 0, .int .i64 n, .string s, .slice la ll lc, .slice fa fl fc, .int .u8 e, .string key, .bool hk] 30)) = W0 at OKu ⊢
  have OK : BoxE w (.mk 0 n s la ll lc L fa fl fc fn F e key hk) W0 := OKu
  clear OKu OK0
  obtain ⟨c0, c1, c2, c3, c4, c5, c6, c7⟩ := KS.out _ OK
  go_wp2_with (first
    | (go_at_call 142; refine (CO.out _).mono ?_; rintro x w1 ⟨rfl, hb1⟩; (have OKn := BoxE.below (by assumption) hb1); clear hb1; obtain ⟨c0, c1, c2, c3, c4, c5, c6, c7⟩ := KS.out _ OKn)
    | (go_at_call 144; refine (CF.out _ (by assumption)).mono ?_; rintro x w1 ⟨rfl, hb1⟩; (have OKn := BoxE.below (by assumption) hb1); clear hb1; obtain ⟨c0, c1, c2, c3, c4, c5, c6, c7⟩ := KS.out _ OKn)
    | (go_at_call 143; refine (CL.out _ (by assumption)).mono ?_; rintro x w1 ⟨rfl, hb1⟩; (have OKn := BoxE.below (by assumption) hb1); clear hb1; obtain ⟨c0, c1, c2, c3, c4, c5, c6, c7⟩ := KS.out _ OKn)
    | (go_at_call 145; refine (CE.out _ (by assumption)).mono ?_; rintro x w1 ⟨rfl, hb1⟩; (have OKn := BoxE.below (by assumption) hb1); clear hb1; obtain ⟨c0, c1, c2, c3, c4, c5, c6, c7⟩ := KS.out _ OKn))
  all_goals
    go_ret
    refine ⟨?_, BoxE.low (by assumption)⟩
    have hq := HR3.out
    clear HR3 CF CL CE CO KS s0 s1 s2
    simp_all
set_option maxRecDepth 100000 in
set_option maxHeartbeats 8000000 in
theorem shaped_1 (n : Int) (s : ByteArray) (la : Option Addr) (ll lc : Nat) (L : Nat → V) (fa : Option Addr) (fl fc : Nat) (fn : Nat → ByteArray) (F : Nat → V) (e : Int) (key : ByteArray) (hk : Bool) (w : World) 
    (hin : (V.mk 1 n s la ll lc L fa fl fc fn F e key hk).In w) (gF gL : Bool) (hF : Ans w 144 (.slice fa fl fc) gF) (hL : Ans w 143 (.slice la ll lc) gL) :
    Calls Tryz.prog 80 #[.agg #[.int .u8 1, .int .i64 n, .string s, .slice la ll lc, .slice fa fl fc, .int .u8 e, .string key, .bool hk]] w fun x w' => x = .returned (.bool (rShape 1 n s ll fl fn e key hk gF gL)) ∧ Below w.heap.size w w' := by
  have CF := Lib.hid (fun W (h : BoxE w (.mk 1 n s la ll lc L fa fl fc fn F e key hk) W) => hF W h.low)
  have CL := Lib.hid (fun W (h : BoxE w (.mk 1 n s la ll lc L fa fl fc fn F e key hk) W) => hL W h.low)
  have CE := Lib.hid (fun W (h : BoxE w (.mk 1 n s la ll lc L fa fl fc fn F e key hk) W) => elem_any 1 n s la ll lc L fa fl fc fn F e key hk W (hin.below h.low) gF gL (fun W2 hb => hF W2 (h.low.trans (hb.mono h.low.size))) (fun W2 hb => hL W2 (h.low.trans (hb.mono h.low.size))))
  obtain ⟨-, -, hs, -, -, hl1, hf1, -, -⟩ := hin
  have CO := Lib.hid (fun W => only_any true false false false 1 n s la ll lc fa fl fc e key hk W (Nat.le_trans hl1.1 hl1.2) (Nat.le_trans hf1.1 hf1.2))
  clear hF hL
  unfold maxLen at hs
  have KS := Lib.hid (fun W (h : BoxE w (.mk 1 n s la ll lc L fa fl fc fn F e key hk) W) => at80 h.cv)
  have OK0 := Lib.hid (boxE w (.mk 1 n s la ll lc L fa fl fc fn F e key hk) 30)
  have HR := Lib.hid (show rShape 1 n s ll fl fn e key hk gF gL = rOnly true false false false n s ll fl e key hk by simp [rShape])
  generalize rShape 1 n s ll fl fn e key hk gF gL = q at HR ⊢
  generalize rOnly true false false false n s ll fl e key hk = oq at CO HR
  generalize rElem n s fl fn e key hk gF gL = eq at CE HR
  obtain ⟨q0, s0⟩ : ∃ x, (n == 0) = x := ⟨_, rfl⟩
  obtain ⟨q1, s1⟩ : ∃ x, (n == 1) = x := ⟨_, rfl⟩
  obtain ⟨qd, hqd⟩ : ∃ x, decide (s.size ≤ 4096) = x := ⟨_, rfl⟩
  have s2 : decide ((s.size : Int) ≤ 4096) = qd := by rw [← hqd, Bool.eq_iff_iff]; simp; omega
  have HR2 := HR.out
  try rw [hqd] at HR2
  have s0' : decide (n = 0) = q0 := s0
  have s1' : decide (n = 1) = q1 := s1
  try rw [s0'] at HR2
  try rw [s1'] at HR2
  have HR3 := Lib.hid HR2
  clear HR HR2 hqd s0' s1' hl1 hf1
  simp only [V.cells] at OK0
  go_enter Tryz.func80, Tryz.ntmps80
  go_upto_region 1 with fail
  have OKu := OK0.out
  generalize (w.alloc (.cells #[.int .u8 1, .int .i64 n, .string s, .slice la ll lc, .slice fa fl fc, .int .u8 e, .string key, .bool hk] 30)) = W0 at OKu ⊢
  have OK : BoxE w (.mk 1 n s la ll lc L fa fl fc fn F e key hk) W0 := OKu
  clear OKu OK0
  obtain ⟨c0, c1, c2, c3, c4, c5, c6, c7⟩ := KS.out _ OK
  go_wp2_with (first
    | (go_at_call 142; refine (CO.out _).mono ?_; rintro x w1 ⟨rfl, hb1⟩; (have OKn := BoxE.below (by assumption) hb1); clear hb1; obtain ⟨c0, c1, c2, c3, c4, c5, c6, c7⟩ := KS.out _ OKn)
    | (go_at_call 144; refine (CF.out _ (by assumption)).mono ?_; rintro x w1 ⟨rfl, hb1⟩; (have OKn := BoxE.below (by assumption) hb1); clear hb1; obtain ⟨c0, c1, c2, c3, c4, c5, c6, c7⟩ := KS.out _ OKn)
    | (go_at_call 143; refine (CL.out _ (by assumption)).mono ?_; rintro x w1 ⟨rfl, hb1⟩; (have OKn := BoxE.below (by assumption) hb1); clear hb1; obtain ⟨c0, c1, c2, c3, c4, c5, c6, c7⟩ := KS.out _ OKn)
    | (go_at_call 145; refine (CE.out _ (by assumption)).mono ?_; rintro x w1 ⟨rfl, hb1⟩; (have OKn := BoxE.below (by assumption) hb1); clear hb1; obtain ⟨c0, c1, c2, c3, c4, c5, c6, c7⟩ := KS.out _ OKn))
  all_goals
    go_ret
    refine ⟨?_, BoxE.low (by assumption)⟩
    have hq := HR3.out
    clear HR3 CF CL CE CO KS s0 s1 s2
    simp_all
set_option maxRecDepth 100000 in
set_option maxHeartbeats 8000000 in
theorem shaped_2 (n : Int) (s : ByteArray) (la : Option Addr) (ll lc : Nat) (L : Nat → V) (fa : Option Addr) (fl fc : Nat) (fn : Nat → ByteArray) (F : Nat → V) (e : Int) (key : ByteArray) (hk : Bool) (w : World) 
    (hin : (V.mk 2 n s la ll lc L fa fl fc fn F e key hk).In w) (gF gL : Bool) (hF : Ans w 144 (.slice fa fl fc) gF) (hL : Ans w 143 (.slice la ll lc) gL) :
    Calls Tryz.prog 80 #[.agg #[.int .u8 2, .int .i64 n, .string s, .slice la ll lc, .slice fa fl fc, .int .u8 e, .string key, .bool hk]] w fun x w' => x = .returned (.bool (rShape 2 n s ll fl fn e key hk gF gL)) ∧ Below w.heap.size w w' := by
  have CF := Lib.hid (fun W (h : BoxE w (.mk 2 n s la ll lc L fa fl fc fn F e key hk) W) => hF W h.low)
  have CL := Lib.hid (fun W (h : BoxE w (.mk 2 n s la ll lc L fa fl fc fn F e key hk) W) => hL W h.low)
  have CE := Lib.hid (fun W (h : BoxE w (.mk 2 n s la ll lc L fa fl fc fn F e key hk) W) => elem_any 2 n s la ll lc L fa fl fc fn F e key hk W (hin.below h.low) gF gL (fun W2 hb => hF W2 (h.low.trans (hb.mono h.low.size))) (fun W2 hb => hL W2 (h.low.trans (hb.mono h.low.size))))
  obtain ⟨-, -, hs, -, -, hl1, hf1, -, -⟩ := hin
  have CO := Lib.hid (fun W => only_any true false false false 2 n s la ll lc fa fl fc e key hk W (Nat.le_trans hl1.1 hl1.2) (Nat.le_trans hf1.1 hf1.2))
  clear hF hL
  unfold maxLen at hs
  have KS := Lib.hid (fun W (h : BoxE w (.mk 2 n s la ll lc L fa fl fc fn F e key hk) W) => at80 h.cv)
  have OK0 := Lib.hid (boxE w (.mk 2 n s la ll lc L fa fl fc fn F e key hk) 30)
  have HR := Lib.hid (show rShape 2 n s ll fl fn e key hk gF gL = (rOnly true false false false n s ll fl e key hk && (decide (n = 0) || decide (n = 1))) by simp [rShape])
  generalize rShape 2 n s ll fl fn e key hk gF gL = q at HR ⊢
  generalize rOnly true false false false n s ll fl e key hk = oq at CO HR
  generalize rElem n s fl fn e key hk gF gL = eq at CE HR
  obtain ⟨q0, s0⟩ : ∃ x, (n == 0) = x := ⟨_, rfl⟩
  obtain ⟨q1, s1⟩ : ∃ x, (n == 1) = x := ⟨_, rfl⟩
  obtain ⟨qd, hqd⟩ : ∃ x, decide (s.size ≤ 4096) = x := ⟨_, rfl⟩
  have s2 : decide ((s.size : Int) ≤ 4096) = qd := by rw [← hqd, Bool.eq_iff_iff]; simp; omega
  have HR2 := HR.out
  try rw [hqd] at HR2
  have s0' : decide (n = 0) = q0 := s0
  have s1' : decide (n = 1) = q1 := s1
  try rw [s0'] at HR2
  try rw [s1'] at HR2
  have HR3 := Lib.hid HR2
  clear HR HR2 hqd s0' s1' hl1 hf1
  simp only [V.cells] at OK0
  go_enter Tryz.func80, Tryz.ntmps80
  go_upto_region 1 with fail
  have OKu := OK0.out
  generalize (w.alloc (.cells #[.int .u8 2, .int .i64 n, .string s, .slice la ll lc, .slice fa fl fc, .int .u8 e, .string key, .bool hk] 30)) = W0 at OKu ⊢
  have OK : BoxE w (.mk 2 n s la ll lc L fa fl fc fn F e key hk) W0 := OKu
  clear OKu OK0
  obtain ⟨c0, c1, c2, c3, c4, c5, c6, c7⟩ := KS.out _ OK
  go_wp2_with (first
    | (go_at_call 142; refine (CO.out _).mono ?_; rintro x w1 ⟨rfl, hb1⟩; (have OKn := BoxE.below (by assumption) hb1); clear hb1; obtain ⟨c0, c1, c2, c3, c4, c5, c6, c7⟩ := KS.out _ OKn)
    | (go_at_call 144; refine (CF.out _ (by assumption)).mono ?_; rintro x w1 ⟨rfl, hb1⟩; (have OKn := BoxE.below (by assumption) hb1); clear hb1; obtain ⟨c0, c1, c2, c3, c4, c5, c6, c7⟩ := KS.out _ OKn)
    | (go_at_call 143; refine (CL.out _ (by assumption)).mono ?_; rintro x w1 ⟨rfl, hb1⟩; (have OKn := BoxE.below (by assumption) hb1); clear hb1; obtain ⟨c0, c1, c2, c3, c4, c5, c6, c7⟩ := KS.out _ OKn)
    | (go_at_call 145; refine (CE.out _ (by assumption)).mono ?_; rintro x w1 ⟨rfl, hb1⟩; (have OKn := BoxE.below (by assumption) hb1); clear hb1; obtain ⟨c0, c1, c2, c3, c4, c5, c6, c7⟩ := KS.out _ OKn))
  all_goals
    go_ret
    refine ⟨?_, BoxE.low (by assumption)⟩
    have hq := HR3.out
    clear HR3 CF CL CE CO KS s0 s1 s2
    simp_all
set_option maxRecDepth 100000 in
set_option maxHeartbeats 8000000 in
theorem shaped_3 (n : Int) (s : ByteArray) (la : Option Addr) (ll lc : Nat) (L : Nat → V) (fa : Option Addr) (fl fc : Nat) (fn : Nat → ByteArray) (F : Nat → V) (e : Int) (key : ByteArray) (hk : Bool) (w : World) 
    (hin : (V.mk 3 n s la ll lc L fa fl fc fn F e key hk).In w) (gF gL : Bool) (hF : Ans w 144 (.slice fa fl fc) gF) (hL : Ans w 143 (.slice la ll lc) gL) :
    Calls Tryz.prog 80 #[.agg #[.int .u8 3, .int .i64 n, .string s, .slice la ll lc, .slice fa fl fc, .int .u8 e, .string key, .bool hk]] w fun x w' => x = .returned (.bool (rShape 3 n s ll fl fn e key hk gF gL)) ∧ Below w.heap.size w w' := by
  have CF := Lib.hid (fun W (h : BoxE w (.mk 3 n s la ll lc L fa fl fc fn F e key hk) W) => hF W h.low)
  have CL := Lib.hid (fun W (h : BoxE w (.mk 3 n s la ll lc L fa fl fc fn F e key hk) W) => hL W h.low)
  have CE := Lib.hid (fun W (h : BoxE w (.mk 3 n s la ll lc L fa fl fc fn F e key hk) W) => elem_any 3 n s la ll lc L fa fl fc fn F e key hk W (hin.below h.low) gF gL (fun W2 hb => hF W2 (h.low.trans (hb.mono h.low.size))) (fun W2 hb => hL W2 (h.low.trans (hb.mono h.low.size))))
  obtain ⟨-, -, hs, -, -, hl1, hf1, -, -⟩ := hin
  have CO := Lib.hid (fun W => only_any false true false false 3 n s la ll lc fa fl fc e key hk W (Nat.le_trans hl1.1 hl1.2) (Nat.le_trans hf1.1 hf1.2))
  clear hF hL
  unfold maxLen at hs
  have KS := Lib.hid (fun W (h : BoxE w (.mk 3 n s la ll lc L fa fl fc fn F e key hk) W) => at80 h.cv)
  have OK0 := Lib.hid (boxE w (.mk 3 n s la ll lc L fa fl fc fn F e key hk) 30)
  have HR := Lib.hid (show rShape 3 n s ll fl fn e key hk gF gL = (rOnly false true false false n s ll fl e key hk && decide (s.size ≤ 4096)) by simp [rShape])
  generalize rShape 3 n s ll fl fn e key hk gF gL = q at HR ⊢
  generalize rOnly false true false false n s ll fl e key hk = oq at CO HR
  generalize rElem n s fl fn e key hk gF gL = eq at CE HR
  obtain ⟨q0, s0⟩ : ∃ x, (n == 0) = x := ⟨_, rfl⟩
  obtain ⟨q1, s1⟩ : ∃ x, (n == 1) = x := ⟨_, rfl⟩
  obtain ⟨qd, hqd⟩ : ∃ x, decide (s.size ≤ 4096) = x := ⟨_, rfl⟩
  have s2 : decide ((s.size : Int) ≤ 4096) = qd := by rw [← hqd, Bool.eq_iff_iff]; simp; omega
  have HR2 := HR.out
  try rw [hqd] at HR2
  have s0' : decide (n = 0) = q0 := s0
  have s1' : decide (n = 1) = q1 := s1
  try rw [s0'] at HR2
  try rw [s1'] at HR2
  have HR3 := Lib.hid HR2
  clear HR HR2 hqd s0' s1' hl1 hf1
  simp only [V.cells] at OK0
  go_enter Tryz.func80, Tryz.ntmps80
  go_upto_region 1 with fail
  have OKu := OK0.out
  generalize (w.alloc (.cells #[.int .u8 3, .int .i64 n, .string s, .slice la ll lc, .slice fa fl fc, .int .u8 e, .string key, .bool hk] 30)) = W0 at OKu ⊢
  have OK : BoxE w (.mk 3 n s la ll lc L fa fl fc fn F e key hk) W0 := OKu
  clear OKu OK0
  obtain ⟨c0, c1, c2, c3, c4, c5, c6, c7⟩ := KS.out _ OK
  go_wp2_with (first
    | (go_at_call 142; refine (CO.out _).mono ?_; rintro x w1 ⟨rfl, hb1⟩; (have OKn := BoxE.below (by assumption) hb1); clear hb1; obtain ⟨c0, c1, c2, c3, c4, c5, c6, c7⟩ := KS.out _ OKn)
    | (go_at_call 144; refine (CF.out _ (by assumption)).mono ?_; rintro x w1 ⟨rfl, hb1⟩; (have OKn := BoxE.below (by assumption) hb1); clear hb1; obtain ⟨c0, c1, c2, c3, c4, c5, c6, c7⟩ := KS.out _ OKn)
    | (go_at_call 143; refine (CL.out _ (by assumption)).mono ?_; rintro x w1 ⟨rfl, hb1⟩; (have OKn := BoxE.below (by assumption) hb1); clear hb1; obtain ⟨c0, c1, c2, c3, c4, c5, c6, c7⟩ := KS.out _ OKn)
    | (go_at_call 145; refine (CE.out _ (by assumption)).mono ?_; rintro x w1 ⟨rfl, hb1⟩; (have OKn := BoxE.below (by assumption) hb1); clear hb1; obtain ⟨c0, c1, c2, c3, c4, c5, c6, c7⟩ := KS.out _ OKn))
  all_goals
    go_ret
    refine ⟨?_, BoxE.low (by assumption)⟩
    have hq := HR3.out
    clear HR3 CF CL CE CO KS s0 s1 s2
    simp_all
set_option maxRecDepth 100000 in
set_option maxHeartbeats 8000000 in
theorem shaped_4 (n : Int) (s : ByteArray) (la : Option Addr) (ll lc : Nat) (L : Nat → V) (fa : Option Addr) (fl fc : Nat) (fn : Nat → ByteArray) (F : Nat → V) (e : Int) (key : ByteArray) (hk : Bool) (w : World) 
    (hin : (V.mk 4 n s la ll lc L fa fl fc fn F e key hk).In w) (gF gL : Bool) (hF : Ans w 144 (.slice fa fl fc) gF) (hL : Ans w 143 (.slice la ll lc) gL) :
    Calls Tryz.prog 80 #[.agg #[.int .u8 4, .int .i64 n, .string s, .slice la ll lc, .slice fa fl fc, .int .u8 e, .string key, .bool hk]] w fun x w' => x = .returned (.bool (rShape 4 n s ll fl fn e key hk gF gL)) ∧ Below w.heap.size w w' := by
  have CF := Lib.hid (fun W (h : BoxE w (.mk 4 n s la ll lc L fa fl fc fn F e key hk) W) => hF W h.low)
  have CL := Lib.hid (fun W (h : BoxE w (.mk 4 n s la ll lc L fa fl fc fn F e key hk) W) => hL W h.low)
  have CE := Lib.hid (fun W (h : BoxE w (.mk 4 n s la ll lc L fa fl fc fn F e key hk) W) => elem_any 4 n s la ll lc L fa fl fc fn F e key hk W (hin.below h.low) gF gL (fun W2 hb => hF W2 (h.low.trans (hb.mono h.low.size))) (fun W2 hb => hL W2 (h.low.trans (hb.mono h.low.size))))
  obtain ⟨-, -, hs, -, -, hl1, hf1, -, -⟩ := hin
  have CO := Lib.hid (fun W => only_any false false true false 4 n s la ll lc fa fl fc e key hk W (Nat.le_trans hl1.1 hl1.2) (Nat.le_trans hf1.1 hf1.2))
  clear hF hL
  unfold maxLen at hs
  have KS := Lib.hid (fun W (h : BoxE w (.mk 4 n s la ll lc L fa fl fc fn F e key hk) W) => at80 h.cv)
  have OK0 := Lib.hid (boxE w (.mk 4 n s la ll lc L fa fl fc fn F e key hk) 30)
  have HR := Lib.hid (show rShape 4 n s ll fl fn e key hk gF gL = (rOnly false false true false n s ll fl e key hk && gL) by simp [rShape])
  generalize rShape 4 n s ll fl fn e key hk gF gL = q at HR ⊢
  generalize rOnly false false true false n s ll fl e key hk = oq at CO HR
  generalize rElem n s fl fn e key hk gF gL = eq at CE HR
  obtain ⟨q0, s0⟩ : ∃ x, (n == 0) = x := ⟨_, rfl⟩
  obtain ⟨q1, s1⟩ : ∃ x, (n == 1) = x := ⟨_, rfl⟩
  obtain ⟨qd, hqd⟩ : ∃ x, decide (s.size ≤ 4096) = x := ⟨_, rfl⟩
  have s2 : decide ((s.size : Int) ≤ 4096) = qd := by rw [← hqd, Bool.eq_iff_iff]; simp; omega
  have HR2 := HR.out
  try rw [hqd] at HR2
  have s0' : decide (n = 0) = q0 := s0
  have s1' : decide (n = 1) = q1 := s1
  try rw [s0'] at HR2
  try rw [s1'] at HR2
  have HR3 := Lib.hid HR2
  clear HR HR2 hqd s0' s1' hl1 hf1
  simp only [V.cells] at OK0
  go_enter Tryz.func80, Tryz.ntmps80
  go_upto_region 1 with fail
  have OKu := OK0.out
  generalize (w.alloc (.cells #[.int .u8 4, .int .i64 n, .string s, .slice la ll lc, .slice fa fl fc, .int .u8 e, .string key, .bool hk] 30)) = W0 at OKu ⊢
  have OK : BoxE w (.mk 4 n s la ll lc L fa fl fc fn F e key hk) W0 := OKu
  clear OKu OK0
  obtain ⟨c0, c1, c2, c3, c4, c5, c6, c7⟩ := KS.out _ OK
  go_wp2_with (first
    | (go_at_call 142; refine (CO.out _).mono ?_; rintro x w1 ⟨rfl, hb1⟩; (have OKn := BoxE.below (by assumption) hb1); clear hb1; obtain ⟨c0, c1, c2, c3, c4, c5, c6, c7⟩ := KS.out _ OKn)
    | (go_at_call 144; refine (CF.out _ (by assumption)).mono ?_; rintro x w1 ⟨rfl, hb1⟩; (have OKn := BoxE.below (by assumption) hb1); clear hb1; obtain ⟨c0, c1, c2, c3, c4, c5, c6, c7⟩ := KS.out _ OKn)
    | (go_at_call 143; refine (CL.out _ (by assumption)).mono ?_; rintro x w1 ⟨rfl, hb1⟩; (have OKn := BoxE.below (by assumption) hb1); clear hb1; obtain ⟨c0, c1, c2, c3, c4, c5, c6, c7⟩ := KS.out _ OKn)
    | (go_at_call 145; refine (CE.out _ (by assumption)).mono ?_; rintro x w1 ⟨rfl, hb1⟩; (have OKn := BoxE.below (by assumption) hb1); clear hb1; obtain ⟨c0, c1, c2, c3, c4, c5, c6, c7⟩ := KS.out _ OKn))
  all_goals
    go_ret
    refine ⟨?_, BoxE.low (by assumption)⟩
    have hq := HR3.out
    clear HR3 CF CL CE CO KS s0 s1 s2
    simp_all
set_option maxRecDepth 100000 in
set_option maxHeartbeats 8000000 in
theorem shaped_5 (n : Int) (s : ByteArray) (la : Option Addr) (ll lc : Nat) (L : Nat → V) (fa : Option Addr) (fl fc : Nat) (fn : Nat → ByteArray) (F : Nat → V) (e : Int) (key : ByteArray) (hk : Bool) (w : World) 
    (hin : (V.mk 5 n s la ll lc L fa fl fc fn F e key hk).In w) (gF gL : Bool) (hF : Ans w 144 (.slice fa fl fc) gF) (hL : Ans w 143 (.slice la ll lc) gL) :
    Calls Tryz.prog 80 #[.agg #[.int .u8 5, .int .i64 n, .string s, .slice la ll lc, .slice fa fl fc, .int .u8 e, .string key, .bool hk]] w fun x w' => x = .returned (.bool (rShape 5 n s ll fl fn e key hk gF gL)) ∧ Below w.heap.size w w' := by
  have CF := Lib.hid (fun W (h : BoxE w (.mk 5 n s la ll lc L fa fl fc fn F e key hk) W) => hF W h.low)
  have CL := Lib.hid (fun W (h : BoxE w (.mk 5 n s la ll lc L fa fl fc fn F e key hk) W) => hL W h.low)
  have CE := Lib.hid (fun W (h : BoxE w (.mk 5 n s la ll lc L fa fl fc fn F e key hk) W) => elem_any 5 n s la ll lc L fa fl fc fn F e key hk W (hin.below h.low) gF gL (fun W2 hb => hF W2 (h.low.trans (hb.mono h.low.size))) (fun W2 hb => hL W2 (h.low.trans (hb.mono h.low.size))))
  obtain ⟨-, -, hs, -, -, hl1, hf1, -, -⟩ := hin
  have CO := Lib.hid (fun W => only_any false false false true 5 n s la ll lc fa fl fc e key hk W (Nat.le_trans hl1.1 hl1.2) (Nat.le_trans hf1.1 hf1.2))
  clear hF hL
  unfold maxLen at hs
  have KS := Lib.hid (fun W (h : BoxE w (.mk 5 n s la ll lc L fa fl fc fn F e key hk) W) => at80 h.cv)
  have OK0 := Lib.hid (boxE w (.mk 5 n s la ll lc L fa fl fc fn F e key hk) 30)
  have HR := Lib.hid (show rShape 5 n s ll fl fn e key hk gF gL = (rOnly false false false true n s ll fl e key hk && gF) by simp [rShape])
  generalize rShape 5 n s ll fl fn e key hk gF gL = q at HR ⊢
  generalize rOnly false false false true n s ll fl e key hk = oq at CO HR
  generalize rElem n s fl fn e key hk gF gL = eq at CE HR
  obtain ⟨q0, s0⟩ : ∃ x, (n == 0) = x := ⟨_, rfl⟩
  obtain ⟨q1, s1⟩ : ∃ x, (n == 1) = x := ⟨_, rfl⟩
  obtain ⟨qd, hqd⟩ : ∃ x, decide (s.size ≤ 4096) = x := ⟨_, rfl⟩
  have s2 : decide ((s.size : Int) ≤ 4096) = qd := by rw [← hqd, Bool.eq_iff_iff]; simp; omega
  have HR2 := HR.out
  try rw [hqd] at HR2
  have s0' : decide (n = 0) = q0 := s0
  have s1' : decide (n = 1) = q1 := s1
  try rw [s0'] at HR2
  try rw [s1'] at HR2
  have HR3 := Lib.hid HR2
  clear HR HR2 hqd s0' s1' hl1 hf1
  simp only [V.cells] at OK0
  go_enter Tryz.func80, Tryz.ntmps80
  go_upto_region 1 with fail
  have OKu := OK0.out
  generalize (w.alloc (.cells #[.int .u8 5, .int .i64 n, .string s, .slice la ll lc, .slice fa fl fc, .int .u8 e, .string key, .bool hk] 30)) = W0 at OKu ⊢
  have OK : BoxE w (.mk 5 n s la ll lc L fa fl fc fn F e key hk) W0 := OKu
  clear OKu OK0
  obtain ⟨c0, c1, c2, c3, c4, c5, c6, c7⟩ := KS.out _ OK
  go_wp2_with (first
    | (go_at_call 142; refine (CO.out _).mono ?_; rintro x w1 ⟨rfl, hb1⟩; (have OKn := BoxE.below (by assumption) hb1); clear hb1; obtain ⟨c0, c1, c2, c3, c4, c5, c6, c7⟩ := KS.out _ OKn)
    | (go_at_call 144; refine (CF.out _ (by assumption)).mono ?_; rintro x w1 ⟨rfl, hb1⟩; (have OKn := BoxE.below (by assumption) hb1); clear hb1; obtain ⟨c0, c1, c2, c3, c4, c5, c6, c7⟩ := KS.out _ OKn)
    | (go_at_call 143; refine (CL.out _ (by assumption)).mono ?_; rintro x w1 ⟨rfl, hb1⟩; (have OKn := BoxE.below (by assumption) hb1); clear hb1; obtain ⟨c0, c1, c2, c3, c4, c5, c6, c7⟩ := KS.out _ OKn)
    | (go_at_call 145; refine (CE.out _ (by assumption)).mono ?_; rintro x w1 ⟨rfl, hb1⟩; (have OKn := BoxE.below (by assumption) hb1); clear hb1; obtain ⟨c0, c1, c2, c3, c4, c5, c6, c7⟩ := KS.out _ OKn))
  all_goals
    go_ret
    refine ⟨?_, BoxE.low (by assumption)⟩
    have hq := HR3.out
    clear HR3 CF CL CE CO KS s0 s1 s2
    simp_all
set_option maxRecDepth 100000 in
set_option maxHeartbeats 8000000 in
theorem shaped_7 (n : Int) (s : ByteArray) (la : Option Addr) (ll lc : Nat) (L : Nat → V) (fa : Option Addr) (fl fc : Nat) (fn : Nat → ByteArray) (F : Nat → V) (e : Int) (key : ByteArray) (hk : Bool) (w : World) 
    (hin : (V.mk 7 n s la ll lc L fa fl fc fn F e key hk).In w) (gF gL : Bool) (hF : Ans w 144 (.slice fa fl fc) gF) (hL : Ans w 143 (.slice la ll lc) gL) :
    Calls Tryz.prog 80 #[.agg #[.int .u8 7, .int .i64 n, .string s, .slice la ll lc, .slice fa fl fc, .int .u8 e, .string key, .bool hk]] w fun x w' => x = .returned (.bool (rShape 7 n s ll fl fn e key hk gF gL)) ∧ Below w.heap.size w w' := by
  have CF := Lib.hid (fun W (h : BoxE w (.mk 7 n s la ll lc L fa fl fc fn F e key hk) W) => hF W h.low)
  have CL := Lib.hid (fun W (h : BoxE w (.mk 7 n s la ll lc L fa fl fc fn F e key hk) W) => hL W h.low)
  have CE := Lib.hid (fun W (h : BoxE w (.mk 7 n s la ll lc L fa fl fc fn F e key hk) W) => elem_any 7 n s la ll lc L fa fl fc fn F e key hk W (hin.below h.low) gF gL (fun W2 hb => hF W2 (h.low.trans (hb.mono h.low.size))) (fun W2 hb => hL W2 (h.low.trans (hb.mono h.low.size))))
  obtain ⟨-, -, hs, -, -, hl1, hf1, -, -⟩ := hin
  have CO := Lib.hid (fun W => only_any true true false true 7 n s la ll lc fa fl fc e key hk W (Nat.le_trans hl1.1 hl1.2) (Nat.le_trans hf1.1 hf1.2))
  clear hF hL
  unfold maxLen at hs
  have KS := Lib.hid (fun W (h : BoxE w (.mk 7 n s la ll lc L fa fl fc fn F e key hk) W) => at80 h.cv)
  have OK0 := Lib.hid (boxE w (.mk 7 n s la ll lc L fa fl fc fn F e key hk) 30)
  have HR := Lib.hid (show rShape 7 n s ll fl fn e key hk gF gL = (rOnly true true false true n s ll fl e key hk && (decide (s.size ≤ 4096) && gF)) by simp [rShape])
  generalize rShape 7 n s ll fl fn e key hk gF gL = q at HR ⊢
  generalize rOnly true true false true n s ll fl e key hk = oq at CO HR
  generalize rElem n s fl fn e key hk gF gL = eq at CE HR
  obtain ⟨q0, s0⟩ : ∃ x, (n == 0) = x := ⟨_, rfl⟩
  obtain ⟨q1, s1⟩ : ∃ x, (n == 1) = x := ⟨_, rfl⟩
  obtain ⟨qd, hqd⟩ : ∃ x, decide (s.size ≤ 4096) = x := ⟨_, rfl⟩
  have s2 : decide ((s.size : Int) ≤ 4096) = qd := by rw [← hqd, Bool.eq_iff_iff]; simp; omega
  have HR2 := HR.out
  try rw [hqd] at HR2
  have s0' : decide (n = 0) = q0 := s0
  have s1' : decide (n = 1) = q1 := s1
  try rw [s0'] at HR2
  try rw [s1'] at HR2
  have HR3 := Lib.hid HR2
  clear HR HR2 hqd s0' s1' hl1 hf1
  simp only [V.cells] at OK0
  go_enter Tryz.func80, Tryz.ntmps80
  go_upto_region 1 with fail
  have OKu := OK0.out
  generalize (w.alloc (.cells #[.int .u8 7, .int .i64 n, .string s, .slice la ll lc, .slice fa fl fc, .int .u8 e, .string key, .bool hk] 30)) = W0 at OKu ⊢
  have OK : BoxE w (.mk 7 n s la ll lc L fa fl fc fn F e key hk) W0 := OKu
  clear OKu OK0
  obtain ⟨c0, c1, c2, c3, c4, c5, c6, c7⟩ := KS.out _ OK
  go_wp2_with (first
    | (go_at_call 142; refine (CO.out _).mono ?_; rintro x w1 ⟨rfl, hb1⟩; (have OKn := BoxE.below (by assumption) hb1); clear hb1; obtain ⟨c0, c1, c2, c3, c4, c5, c6, c7⟩ := KS.out _ OKn)
    | (go_at_call 144; refine (CF.out _ (by assumption)).mono ?_; rintro x w1 ⟨rfl, hb1⟩; (have OKn := BoxE.below (by assumption) hb1); clear hb1; obtain ⟨c0, c1, c2, c3, c4, c5, c6, c7⟩ := KS.out _ OKn)
    | (go_at_call 143; refine (CL.out _ (by assumption)).mono ?_; rintro x w1 ⟨rfl, hb1⟩; (have OKn := BoxE.below (by assumption) hb1); clear hb1; obtain ⟨c0, c1, c2, c3, c4, c5, c6, c7⟩ := KS.out _ OKn)
    | (go_at_call 145; refine (CE.out _ (by assumption)).mono ?_; rintro x w1 ⟨rfl, hb1⟩; (have OKn := BoxE.below (by assumption) hb1); clear hb1; obtain ⟨c0, c1, c2, c3, c4, c5, c6, c7⟩ := KS.out _ OKn))
  all_goals
    go_ret
    refine ⟨?_, BoxE.low (by assumption)⟩
    have hq := HR3.out
    clear HR3 CF CL CE CO KS s0 s1 s2
    simp_all
set_option maxRecDepth 100000 in
set_option maxHeartbeats 8000000 in
theorem shaped_6 (n : Int) (s : ByteArray) (la : Option Addr) (ll lc : Nat) (L : Nat → V) (fa : Option Addr) (fl fc : Nat) (fn : Nat → ByteArray) (F : Nat → V) (e : Int) (key : ByteArray) (hk : Bool) (w : World) 
    (hin : (V.mk 6 n s la ll lc L fa fl fc fn F e key hk).In w) (gF gL : Bool) (hF : Ans w 144 (.slice fa fl fc) gF) (hL : Ans w 143 (.slice la ll lc) gL) :
    Calls Tryz.prog 80 #[.agg #[.int .u8 6, .int .i64 n, .string s, .slice la ll lc, .slice fa fl fc, .int .u8 e, .string key, .bool hk]] w fun x w' => x = .returned (.bool (rShape 6 n s ll fl fn e key hk gF gL)) ∧ Below w.heap.size w w' := by
  have CF := Lib.hid (fun W (h : BoxE w (.mk 6 n s la ll lc L fa fl fc fn F e key hk) W) => hF W h.low)
  have CL := Lib.hid (fun W (h : BoxE w (.mk 6 n s la ll lc L fa fl fc fn F e key hk) W) => hL W h.low)
  have CE := Lib.hid (fun W (h : BoxE w (.mk 6 n s la ll lc L fa fl fc fn F e key hk) W) => elem_any 6 n s la ll lc L fa fl fc fn F e key hk W (hin.below h.low) gF gL (fun W2 hb => hF W2 (h.low.trans (hb.mono h.low.size))) (fun W2 hb => hL W2 (h.low.trans (hb.mono h.low.size))))
  obtain ⟨-, -, hs, -, -, hl1, hf1, -, -⟩ := hin
  have CO := Lib.hid (fun W => only_any false false false false 6 n s la ll lc fa fl fc e key hk W (Nat.le_trans hl1.1 hl1.2) (Nat.le_trans hf1.1 hf1.2))
  clear hF hL
  unfold maxLen at hs
  have KS := Lib.hid (fun W (h : BoxE w (.mk 6 n s la ll lc L fa fl fc fn F e key hk) W) => at80 h.cv)
  have OK0 := Lib.hid (boxE w (.mk 6 n s la ll lc L fa fl fc fn F e key hk) 30)
  have HR := Lib.hid (show rShape 6 n s ll fl fn e key hk gF gL = rElem n s fl fn e key hk gF gL by simp [rShape])
  generalize rShape 6 n s ll fl fn e key hk gF gL = q at HR ⊢
  generalize rOnly false false false false n s ll fl e key hk = oq at CO HR
  generalize rElem n s fl fn e key hk gF gL = eq at CE HR
  obtain ⟨q0, s0⟩ : ∃ x, (n == 0) = x := ⟨_, rfl⟩
  obtain ⟨q1, s1⟩ : ∃ x, (n == 1) = x := ⟨_, rfl⟩
  obtain ⟨qd, hqd⟩ : ∃ x, decide (s.size ≤ 4096) = x := ⟨_, rfl⟩
  have s2 : decide ((s.size : Int) ≤ 4096) = qd := by rw [← hqd, Bool.eq_iff_iff]; simp; omega
  have HR2 := HR.out
  try rw [hqd] at HR2
  have s0' : decide (n = 0) = q0 := s0
  have s1' : decide (n = 1) = q1 := s1
  try rw [s0'] at HR2
  try rw [s1'] at HR2
  have HR3 := Lib.hid HR2
  clear HR HR2 hqd s0' s1' hl1 hf1
  simp only [V.cells] at OK0
  go_enter Tryz.func80, Tryz.ntmps80
  go_upto_region 1 with fail
  have OKu := OK0.out
  generalize (w.alloc (.cells #[.int .u8 6, .int .i64 n, .string s, .slice la ll lc, .slice fa fl fc, .int .u8 e, .string key, .bool hk] 30)) = W0 at OKu ⊢
  have OK : BoxE w (.mk 6 n s la ll lc L fa fl fc fn F e key hk) W0 := OKu
  clear OKu OK0
  obtain ⟨c0, c1, c2, c3, c4, c5, c6, c7⟩ := KS.out _ OK
  go_wp2_with (first
    | (go_at_call 142; refine (CO.out _).mono ?_; rintro x w1 ⟨rfl, hb1⟩; (have OKn := BoxE.below (by assumption) hb1); clear hb1; obtain ⟨c0, c1, c2, c3, c4, c5, c6, c7⟩ := KS.out _ OKn)
    | (go_at_call 144; refine (CF.out _ (by assumption)).mono ?_; rintro x w1 ⟨rfl, hb1⟩; (have OKn := BoxE.below (by assumption) hb1); clear hb1; obtain ⟨c0, c1, c2, c3, c4, c5, c6, c7⟩ := KS.out _ OKn)
    | (go_at_call 143; refine (CL.out _ (by assumption)).mono ?_; rintro x w1 ⟨rfl, hb1⟩; (have OKn := BoxE.below (by assumption) hb1); clear hb1; obtain ⟨c0, c1, c2, c3, c4, c5, c6, c7⟩ := KS.out _ OKn)
    | (go_at_call 145; refine (CE.out _ (by assumption)).mono ?_; rintro x w1 ⟨rfl, hb1⟩; (have OKn := BoxE.below (by assumption) hb1); clear hb1; obtain ⟨c0, c1, c2, c3, c4, c5, c6, c7⟩ := KS.out _ OKn))
  all_goals
    go_ret
    refine ⟨?_, BoxE.low (by assumption)⟩
    have hq := HR3.out
    clear HR3 CF CL CE CO KS s0 s1 s2
    simp_all
set_option maxRecDepth 100000 in
set_option maxHeartbeats 8000000 in
theorem shaped_x (k n : Int) (s : ByteArray) (la : Option Addr) (ll lc : Nat) (L : Nat → V) (fa : Option Addr) (fl fc : Nat) (fn : Nat → ByteArray) (F : Nat → V) (e : Int) (key : ByteArray) (hk : Bool) (w : World) (hk8 : ¬ k = 0 ∧ ¬ k = 1 ∧ ¬ k = 2 ∧ ¬ k = 3 ∧ ¬ k = 4 ∧ ¬ k = 5 ∧ ¬ k = 7 ∧ ¬ k = 6)
    (hin : (V.mk k n s la ll lc L fa fl fc fn F e key hk).In w) (gF gL : Bool) (hF : Ans w 144 (.slice fa fl fc) gF) (hL : Ans w 143 (.slice la ll lc) gL) :
    Calls Tryz.prog 80 #[.agg #[.int .u8 k, .int .i64 n, .string s, .slice la ll lc, .slice fa fl fc, .int .u8 e, .string key, .bool hk]] w fun x w' => x = .returned (.bool (rShape k n s ll fl fn e key hk gF gL)) ∧ Below w.heap.size w w' := by
  have CF := Lib.hid (fun W (h : BoxE w (.mk k n s la ll lc L fa fl fc fn F e key hk) W) => hF W h.low)
  have CL := Lib.hid (fun W (h : BoxE w (.mk k n s la ll lc L fa fl fc fn F e key hk) W) => hL W h.low)
  have CE := Lib.hid (fun W (h : BoxE w (.mk k n s la ll lc L fa fl fc fn F e key hk) W) => elem_any k n s la ll lc L fa fl fc fn F e key hk W (hin.below h.low) gF gL (fun W2 hb => hF W2 (h.low.trans (hb.mono h.low.size))) (fun W2 hb => hL W2 (h.low.trans (hb.mono h.low.size))))
  obtain ⟨-, -, hs, -, -, hl1, hf1, -, -⟩ := hin
  have CO := Lib.hid (fun W => only_any false false false false k n s la ll lc fa fl fc e key hk W (Nat.le_trans hl1.1 hl1.2) (Nat.le_trans hf1.1 hf1.2))
  clear hF hL
  unfold maxLen at hs
  have KS := Lib.hid (fun W (h : BoxE w (.mk k n s la ll lc L fa fl fc fn F e key hk) W) => at80 h.cv)
  have OK0 := Lib.hid (boxE w (.mk k n s la ll lc L fa fl fc fn F e key hk) 30)
  have HR := Lib.hid (show rShape k n s ll fl fn e key hk gF gL = false by simp [rShape, hk8])
  generalize rShape k n s ll fl fn e key hk gF gL = q at HR ⊢
  generalize rOnly false false false false n s ll fl e key hk = oq at CO HR
  generalize rElem n s fl fn e key hk gF gL = eq at CE HR
  obtain ⟨q0, s0⟩ : ∃ x, (n == 0) = x := ⟨_, rfl⟩
  obtain ⟨q1, s1⟩ : ∃ x, (n == 1) = x := ⟨_, rfl⟩
  obtain ⟨qd, hqd⟩ : ∃ x, decide (s.size ≤ 4096) = x := ⟨_, rfl⟩
  have s2 : decide ((s.size : Int) ≤ 4096) = qd := by rw [← hqd, Bool.eq_iff_iff]; simp; omega
  have HR2 := HR.out
  try rw [hqd] at HR2
  have s0' : decide (n = 0) = q0 := s0
  have s1' : decide (n = 1) = q1 := s1
  try rw [s0'] at HR2
  try rw [s1'] at HR2
  have HR3 := Lib.hid HR2
  clear HR HR2 hqd s0' s1' hl1 hf1
  have g0 : (k == 0) = false := by simp; omega
  have g1 : (k == 1) = false := by simp; omega
  have g2 : (k == 2) = false := by simp; omega
  have g3 : (k == 3) = false := by simp; omega
  have g4 : (k == 4) = false := by simp; omega
  have g5 : (k == 5) = false := by simp; omega
  have g6 : (k == 6) = false := by simp; omega
  have g7 : (k == 7) = false := by simp; omega
  simp only [V.cells] at OK0
  go_enter Tryz.func80, Tryz.ntmps80
  go_upto_region 1 with fail
  have OKu := OK0.out
  generalize (w.alloc (.cells #[.int .u8 k, .int .i64 n, .string s, .slice la ll lc, .slice fa fl fc, .int .u8 e, .string key, .bool hk] 30)) = W0 at OKu ⊢
  have OK : BoxE w (.mk k n s la ll lc L fa fl fc fn F e key hk) W0 := OKu
  clear OKu OK0
  obtain ⟨c0, c1, c2, c3, c4, c5, c6, c7⟩ := KS.out _ OK
  go_wp2_with (first
    | (go_at_call 142; refine (CO.out _).mono ?_; rintro x w1 ⟨rfl, hb1⟩; (have OKn := BoxE.below (by assumption) hb1); clear hb1; obtain ⟨c0, c1, c2, c3, c4, c5, c6, c7⟩ := KS.out _ OKn)
    | (go_at_call 144; refine (CF.out _ (by assumption)).mono ?_; rintro x w1 ⟨rfl, hb1⟩; (have OKn := BoxE.below (by assumption) hb1); clear hb1; obtain ⟨c0, c1, c2, c3, c4, c5, c6, c7⟩ := KS.out _ OKn)
    | (go_at_call 143; refine (CL.out _ (by assumption)).mono ?_; rintro x w1 ⟨rfl, hb1⟩; (have OKn := BoxE.below (by assumption) hb1); clear hb1; obtain ⟨c0, c1, c2, c3, c4, c5, c6, c7⟩ := KS.out _ OKn)
    | (go_at_call 145; refine (CE.out _ (by assumption)).mono ?_; rintro x w1 ⟨rfl, hb1⟩; (have OKn := BoxE.below (by assumption) hb1); clear hb1; obtain ⟨c0, c1, c2, c3, c4, c5, c6, c7⟩ := KS.out _ OKn))
  all_goals
    go_ret
    refine ⟨?_, BoxE.low (by assumption)⟩
    have hq := HR3.out
    clear HR3 CF CL CE CO KS s0 s1 s2
    simp_all
theorem shaped_is : ∀ v : V, ShIs v := by
  intro v
  induction v with
  | leaf => exact fun w h => h.elim
  | mk k n s la ll lc L fa fl fc fn F e key hk ihL ihF =>
  intro w h
  have h2 := h
  obtain ⟨-, -, -, -, -, hl1, hf1, hL, hF⟩ := h2
  have AL : Ans w 143 (.slice la ll lc) (allB ll (fun i => (L i).rsh)) := fun W hb => values_any la ll lc L (fun i _ => ihL i) W hl1 (fun i hi => ⟨let ⟨b, o, e1, ha⟩ := (hL i hi).1; ⟨b, o, e1, ha.below hb⟩, (hL i hi).2.below hb⟩)
  have AF : Ans w 144 (.slice fa fl fc) (rFields fl fn (fun i => (F i).rsh)) := fun W hb => fields_any fa fl fc fn F (fun i _ => ihF i) W hf1 (fun i hi => ⟨let ⟨b, o, e1, ha⟩ := (hF i hi).1; ⟨b, o, e1, ha.below hb⟩, (hF i hi).2.1, (hF i hi).2.2.below hb⟩)
  clear hL hF ihL ihF
  by_cases h0 : k = 0
  · subst h0; exact shaped_0 n s la ll lc L fa fl fc fn F e key hk w h _ _ AF AL
  by_cases h1 : k = 1
  · subst h1; exact shaped_1 n s la ll lc L fa fl fc fn F e key hk w h _ _ AF AL
  by_cases h2 : k = 2
  · subst h2; exact shaped_2 n s la ll lc L fa fl fc fn F e key hk w h _ _ AF AL
  by_cases h3 : k = 3
  · subst h3; exact shaped_3 n s la ll lc L fa fl fc fn F e key hk w h _ _ AF AL
  by_cases h4 : k = 4
  · subst h4; exact shaped_4 n s la ll lc L fa fl fc fn F e key hk w h _ _ AF AL
  by_cases h5 : k = 5
  · subst h5; exact shaped_5 n s la ll lc L fa fl fc fn F e key hk w h _ _ AF AL
  by_cases h7 : k = 7
  · subst h7; exact shaped_7 n s la ll lc L fa fl fc fn F e key hk w h _ _ AF AL
  by_cases h6 : k = 6
  · subst h6; exact shaped_6 n s la ll lc L fa fl fc fn F e key hk w h _ _ AF AL
  exact shaped_x k n s la ll lc L fa fl fc fn F e key hk w ⟨h0, h1, h2, h3, h4, h5, h7, h6⟩ h _ _ AF AL
end Go.Proofs.YtmhemajcnfcdmaaGreatDoor
namespace Go.Proofs.YtmhemajcnfcdmaaGreatDoor
open Go.RowKit
def RCSize (v : V) : Prop := ∀ w : World, v.In w → v.size ≤ 1099511627776 → Calls Tryz.prog 81 #[v.agg] w fun x w' => x = .returned (.int .i64 v.size) ∧ Below w.heap.size w w'
set_option maxRecDepth 100000 in
set_option maxHeartbeats 4000000 in
theorem rsize_is : ∀ v : V, RCSize v := by
  intro v
  induction v with
  | leaf => exact fun w h => h.elim
  | mk k n s la ll lc L fa fl fc fn F e key hk ihL ihF =>
  intro w h hsz
  obtain ⟨-, -, -, -, -, hl1, hf1, hL, hF⟩ := h
  have hs2 : 1 + sumTo ll (fun i => (L i).size) + sumTo fl (fun i => (F i).size) ≤ 1099511627776 := hsz
  have RT := Lib.hid (show ((V.mk k n s la ll lc L fa fl fc fn F e key hk).size : Int) = ((1 + sumTo ll (fun i => (L i).size) + sumTo fl (fun i => (F i).size) : Nat) : Int) from rfl)
  have sL : Hid (∀ j, j < ll → sumTo j (fun i => (L i).size) + (L j).size ≤ sumTo ll (fun i => (L i).size)) := fun j hj => sumTo_mono (fun i => (L i).size) (show j + 1 ≤ ll from hj)
  have sF : Hid (∀ j, j < fl → sumTo j (fun i => (F i).size) + (F j).size ≤ sumTo fl (fun i => (F i).size)) := fun j hj => sumTo_mono (fun i => (F i).size) (show j + 1 ≤ fl from hj)
  have dL : Hid (∀ j, j ≤ ll → maxTo j (fun i => (L i).depth) ≤ sumTo ll (fun i => (L i).size)) := fun j hj => Nat.le_trans (maxTo_le_sumTo j (fun i => (L i).depth) (fun i => (L i).size) (fun i _ => depth_le_size _)) (sumTo_mono _ hj)
  have dF : Hid (∀ j, j ≤ fl → maxTo j (fun i => (F i).depth) ≤ sumTo fl (fun i => (F i).size)) := fun j hj => Nat.le_trans (maxTo_le_sumTo j (fun i => (F i).depth) (fun i => (F i).size) (fun i _ => depth_le_size _)) (sumTo_mono _ hj)
  have HL := Lib.hid hL
  have HF := Lib.hid hF
  have HIL := Lib.hid ihL
  have HIF := Lib.hid ihF
  have HS2 := Lib.hid hs2
  have KS := Lib.hid (fun W (h : BoxE w (.mk k n s la ll lc L fa fl fc fn F e key hk) W) => at80 h.cv)
  have OK0 := Lib.hid (boxE w (.mk k n s la ll lc L fa fl fc fn F e key hk) 30)
  clear hsz hL hF ihL ihF hs2
  unfold maxLen at hl1 hf1
  simp only [V.agg, V.cells] at OK0 ⊢
  go_enter Tryz.func81, Tryz.ntmps81
  go_upto_region 1 with fail
  have OKu := OK0.out
  generalize (w.alloc (.cells #[.int .u8 k, .int .i64 n, .string s, .slice la ll lc, .slice fa fl fc, .int .u8 e, .string key, .bool hk] 30)) = W0 at OKu ⊢
  have OK := Lib.hid (show BoxE w (.mk k n s la ll lc L fa fl fc fn F e key hk) W0 from OKu)
  clear OKu OK0
  go_wp2_with fail
  go_loopw [3, 4] (fun q i wr => ∃ j : Nat, j ≤ ll ∧ i = .int .i64 j ∧ q = .int .i64 ((1 + sumTo j (fun i => (L i).size) : Nat) : Int) ∧ BoxE w (.mk k n s la ll lc L fa fl fc fn F e key hk) wr) (fun _ i _ => ll - (intOf i).toNat)
  case atStart => exact ⟨0, Nat.zero_le _, rfl, rfl, OK.out⟩
  case round =>
    obtain ⟨j, hj, rfl, rfl, hbx⟩ := hrel
    have HB := Lib.hid hbx
    obtain ⟨c0, c1, c2, c3, c4, c5, c6, c7⟩ := KS.out _ hbx
    clear hbx
    by_cases hlt : j < ll
    · obtain ⟨⟨b, o, rfl, hat⟩, hin⟩ := HL.out j hlt
      have hat := hat.below HB.out.low
      have HX := Lib.hid (HIL.out j wr (hin.below HB.out.low) (by have := sL.out j hlt; have := HS2.out; omega))
      have HSS := Lib.hid (show sumTo (j + 1) (fun i => (L i).size) = sumTo j (fun i => (L i).size) + (L j).size from rfl)
      have HDD := Lib.hid (show maxTo (j + 1) (fun i => (L i).depth) = max (maxTo j (fun i => (L i).depth)) (L j).depth from rfl)
      have HQS := Lib.hid (show sumTo j (fun i => (L i).size) + (L j).size ≤ 1099511627776 by have := sL.out j hlt; have := HS2.out; omega)
      have hin2 := hin
      obtain ⟨v, hv⟩ : ∃ v, L j = v := ⟨_, rfl⟩
      rw [hv] at hat hin2 HX HSS HDD HQS
      clear hv
      cases v with
      | leaf => exact hin2.elim
      | mk k2 n2 s2 la2 ll2 lc2 L2 fa2 fl2 fc2 fn2 F2 e2 key2 hk2 =>
      obtain ⟨d0, d1, d2, d3, d4, d5, d6, d7⟩ := at8 hat
      generalize hz1 : (V.mk k2 n2 s2 la2 ll2 lc2 L2 fa2 fl2 fc2 fn2 F2 e2 key2 hk2).size = zq at HSS HQS
      generalize hz2 : (V.mk k2 n2 s2 la2 ll2 lc2 L2 fa2 fl2 fc2 fn2 F2 e2 key2 hk2).depth = dq at HDD
      rw [hz1] at HX
      clear hz1 hz2 hat hin hin2
      simp only [V.agg, V.cells] at HX
      have hl0 : (0 : Int) ≤ (j : Int) := by omega
      have hli : (j : Int) < (ll : Int) := by omega
      go_wp2_with fail
      refine HX.out.mono ?_
      rintro x w6 ⟨rfl, hb6⟩
      have HB6 := Lib.hid (HB.out.below hb6)
      clear hb6 c0 c1 c2 c3 c4 c5 c6 c7 d0 d1 d2 d3 d4 d5 d6 d7 HX
      go_wp2_with fail
      go_roundw
      case rel => exact ⟨j + 1, by omega, by go_num, int_eq (by have h1 := HSS.out; have h2 := HQS.out; rw [w64 (by omega)]; omega), HB6.out⟩
      case measure => simp [intOf]; omega
    · obtain rfl : ll = j := by omega
      go_wp2_with fail
      clear c0 c1 c2 c3 c4 c5 c6 c7
      go_loopw [3, 5] (fun q i wr => ∃ j : Nat, j ≤ fl ∧ i = .int .i64 j ∧ q = .int .i64 ((1 + sumTo ll (fun i => (L i).size) + sumTo j (fun i => (F i).size) : Nat) : Int) ∧ BoxE w (.mk k n s la ll lc L fa fl fc fn F e key hk) wr) (fun _ i _ => fl - (intOf i).toNat)
      case atStart => exact ⟨0, Nat.zero_le _, rfl, int_eq (by first | (simp [sumTo]; done) | simp [maxTo]), HB.out⟩
      case round =>
        obtain ⟨j, hj, rfl, rfl, hbx⟩ := hrel
        have HB2 := Lib.hid hbx
        obtain ⟨c0, c1, c2, c3, c4, c5, c6, c7⟩ := KS.out _ hbx
        clear hbx HB
        by_cases hlt : j < fl
        · obtain ⟨⟨b, o, rfl, hat⟩, -, hin⟩ := HF.out j hlt
          have hat := hat.below HB2.out.low
          have HX := Lib.hid (HIF.out j wr (hin.below HB2.out.low) (by have := sF.out j hlt; have := HS2.out; omega))
          have HSS := Lib.hid (show sumTo (j + 1) (fun i => (F i).size) = sumTo j (fun i => (F i).size) + (F j).size from rfl)
          have HDD := Lib.hid (show maxTo (j + 1) (fun i => (F i).depth) = max (maxTo j (fun i => (F i).depth)) (F j).depth from rfl)
          have HQS := Lib.hid (show 1 + sumTo ll (fun i => (L i).size) + sumTo j (fun i => (F i).size) + (F j).size ≤ 1099511627776 by have := sF.out j hlt; have := HS2.out; omega)
          have hin2 := hin
          obtain ⟨v, hv⟩ : ∃ v, F j = v := ⟨_, rfl⟩
          rw [hv] at hat hin2 HX HSS HDD HQS
          clear hv
          cases v with
          | leaf => exact hin2.elim
          | mk k2 n2 s2 la2 ll2 lc2 L2 fa2 fl2 fc2 fn2 F2 e2 key2 hk2 =>
          obtain ⟨d0, d1, d2, d3, d4, d5, d6, d7, d8⟩ := at9 hat
          generalize hz1 : (V.mk k2 n2 s2 la2 ll2 lc2 L2 fa2 fl2 fc2 fn2 F2 e2 key2 hk2).size = zq at HSS HQS
          generalize hz2 : (V.mk k2 n2 s2 la2 ll2 lc2 L2 fa2 fl2 fc2 fn2 F2 e2 key2 hk2).depth = dq at HDD
          rw [hz1] at HX
          clear hz1 hz2 hat hin hin2
          simp only [V.agg, V.cells] at HX
          have hl0 : (0 : Int) ≤ (j : Int) := by omega
          have hli : (j : Int) < (fl : Int) := by omega
          go_wp2_with fail
          refine HX.out.mono ?_
          rintro x w6 ⟨rfl, hb6⟩
          have HB6 := Lib.hid (HB2.out.below hb6)
          clear hb6 c0 c1 c2 c3 c4 c5 c6 c7 d0 d1 d2 d3 d4 d5 d6 d7 d8 HX
          go_wp2_with fail
          go_roundw
          case rel => exact ⟨j + 1, by omega, by go_num, int_eq (by have h1 := HSS.out; have h2 := HQS.out; rw [w64 (by omega)]; omega), HB6.out⟩
          case measure => simp [intOf]; omega
        · obtain rfl : fl = j := by omega
          go_wp2_with fail
          go_ret
          exact ⟨ret_i (by rw [RT.out]), HB2.out.low⟩
def RCDeep (v : V) : Prop := ∀ w : World, v.In w → v.size ≤ 1099511627776 → Calls Tryz.prog 82 #[v.agg] w fun x w' => x = .returned (.int .i64 v.depth) ∧ Below w.heap.size w w'
set_option maxRecDepth 100000 in
set_option maxHeartbeats 4000000 in
theorem rdeep_is : ∀ v : V, RCDeep v := by
  intro v
  induction v with
  | leaf => exact fun w h => h.elim
  | mk k n s la ll lc L fa fl fc fn F e key hk ihL ihF =>
  intro w h hsz
  obtain ⟨-, -, -, -, -, hl1, hf1, hL, hF⟩ := h
  have hs2 : 1 + sumTo ll (fun i => (L i).size) + sumTo fl (fun i => (F i).size) ≤ 1099511627776 := hsz
  have RT := Lib.hid (show ((V.mk k n s la ll lc L fa fl fc fn F e key hk).depth : Int) = ((max (maxTo ll (fun i => (L i).depth)) (maxTo fl (fun i => (F i).depth)) + 1 : Nat) : Int) from rfl)
  have sL : Hid (∀ j, j < ll → sumTo j (fun i => (L i).size) + (L j).size ≤ sumTo ll (fun i => (L i).size)) := fun j hj => sumTo_mono (fun i => (L i).size) (show j + 1 ≤ ll from hj)
  have sF : Hid (∀ j, j < fl → sumTo j (fun i => (F i).size) + (F j).size ≤ sumTo fl (fun i => (F i).size)) := fun j hj => sumTo_mono (fun i => (F i).size) (show j + 1 ≤ fl from hj)
  have dL : Hid (∀ j, j ≤ ll → maxTo j (fun i => (L i).depth) ≤ sumTo ll (fun i => (L i).size)) := fun j hj => Nat.le_trans (maxTo_le_sumTo j (fun i => (L i).depth) (fun i => (L i).size) (fun i _ => depth_le_size _)) (sumTo_mono _ hj)
  have dF : Hid (∀ j, j ≤ fl → maxTo j (fun i => (F i).depth) ≤ sumTo fl (fun i => (F i).size)) := fun j hj => Nat.le_trans (maxTo_le_sumTo j (fun i => (F i).depth) (fun i => (F i).size) (fun i _ => depth_le_size _)) (sumTo_mono _ hj)
  have HL := Lib.hid hL
  have HF := Lib.hid hF
  have HIL := Lib.hid ihL
  have HIF := Lib.hid ihF
  have HS2 := Lib.hid hs2
  have KS := Lib.hid (fun W (h : BoxE w (.mk k n s la ll lc L fa fl fc fn F e key hk) W) => at80 h.cv)
  have OK0 := Lib.hid (boxE w (.mk k n s la ll lc L fa fl fc fn F e key hk) 30)
  clear hsz hL hF ihL ihF hs2
  unfold maxLen at hl1 hf1
  simp only [V.agg, V.cells] at OK0 ⊢
  go_enter Tryz.func82, Tryz.ntmps82
  go_upto_region 1 with fail
  have OKu := OK0.out
  generalize (w.alloc (.cells #[.int .u8 k, .int .i64 n, .string s, .slice la ll lc, .slice fa fl fc, .int .u8 e, .string key, .bool hk] 30)) = W0 at OKu ⊢
  have OK := Lib.hid (show BoxE w (.mk k n s la ll lc L fa fl fc fn F e key hk) W0 from OKu)
  clear OKu OK0
  go_wp2_with fail
  go_loopw [3, 4] (fun q i wr => ∃ j : Nat, j ≤ ll ∧ i = .int .i64 j ∧ q = .int .i64 ((maxTo j (fun i => (L i).depth) : Nat) : Int) ∧ BoxE w (.mk k n s la ll lc L fa fl fc fn F e key hk) wr) (fun _ i _ => ll - (intOf i).toNat)
  case atStart => exact ⟨0, Nat.zero_le _, rfl, rfl, OK.out⟩
  case round =>
    obtain ⟨j, hj, rfl, rfl, hbx⟩ := hrel
    have HB := Lib.hid hbx
    obtain ⟨c0, c1, c2, c3, c4, c5, c6, c7⟩ := KS.out _ hbx
    clear hbx
    by_cases hlt : j < ll
    · obtain ⟨⟨b, o, rfl, hat⟩, hin⟩ := HL.out j hlt
      have hat := hat.below HB.out.low
      have HX := Lib.hid (HIL.out j wr (hin.below HB.out.low) (by have := sL.out j hlt; have := HS2.out; omega))
      have HSS := Lib.hid (show sumTo (j + 1) (fun i => (L i).size) = sumTo j (fun i => (L i).size) + (L j).size from rfl)
      have HDD := Lib.hid (show maxTo (j + 1) (fun i => (L i).depth) = max (maxTo j (fun i => (L i).depth)) (L j).depth from rfl)
      have HQS := Lib.hid (show sumTo j (fun i => (L i).size) + (L j).size ≤ 1099511627776 by have := sL.out j hlt; have := HS2.out; omega)
      have hin2 := hin
      obtain ⟨v, hv⟩ : ∃ v, L j = v := ⟨_, rfl⟩
      rw [hv] at hat hin2 HX HSS HDD HQS
      clear hv
      cases v with
      | leaf => exact hin2.elim
      | mk k2 n2 s2 la2 ll2 lc2 L2 fa2 fl2 fc2 fn2 F2 e2 key2 hk2 =>
      obtain ⟨d0, d1, d2, d3, d4, d5, d6, d7⟩ := at8 hat
      generalize hz1 : (V.mk k2 n2 s2 la2 ll2 lc2 L2 fa2 fl2 fc2 fn2 F2 e2 key2 hk2).size = zq at HSS HQS
      generalize hz2 : (V.mk k2 n2 s2 la2 ll2 lc2 L2 fa2 fl2 fc2 fn2 F2 e2 key2 hk2).depth = dq at HDD
      rw [hz2] at HX
      clear hz1 hz2 hat hin hin2
      simp only [V.agg, V.cells] at HX
      have hl0 : (0 : Int) ≤ (j : Int) := by omega
      have hli : (j : Int) < (ll : Int) := by omega
      go_wp2_with fail
      refine HX.out.mono ?_
      rintro x w6 ⟨rfl, hb6⟩
      have HB6 := Lib.hid (HB.out.below hb6)
      clear hb6 c0 c1 c2 c3 c4 c5 c6 c7 d0 d1 d2 d3 d4 d5 d6 d7 HX
      go_wp2_with fail
      go_roundw
      case rel => exact ⟨j + 1, by omega, by go_num, int_eq (by have h1 := HDD.out; omega), HB6.out⟩
      case measure => simp [intOf]; omega
    · obtain rfl : ll = j := by omega
      go_wp2_with fail
      clear c0 c1 c2 c3 c4 c5 c6 c7
      go_loopw [3, 5] (fun q i wr => ∃ j : Nat, j ≤ fl ∧ i = .int .i64 j ∧ q = .int .i64 ((max (maxTo ll (fun i => (L i).depth)) (maxTo j (fun i => (F i).depth)) : Nat) : Int) ∧ BoxE w (.mk k n s la ll lc L fa fl fc fn F e key hk) wr) (fun _ i _ => fl - (intOf i).toNat)
      case atStart => exact ⟨0, Nat.zero_le _, rfl, int_eq (by first | (simp [sumTo]; done) | simp [maxTo]), HB.out⟩
      case round =>
        obtain ⟨j, hj, rfl, rfl, hbx⟩ := hrel
        have HB2 := Lib.hid hbx
        obtain ⟨c0, c1, c2, c3, c4, c5, c6, c7⟩ := KS.out _ hbx
        clear hbx HB
        by_cases hlt : j < fl
        · obtain ⟨⟨b, o, rfl, hat⟩, -, hin⟩ := HF.out j hlt
          have hat := hat.below HB2.out.low
          have HX := Lib.hid (HIF.out j wr (hin.below HB2.out.low) (by have := sF.out j hlt; have := HS2.out; omega))
          have HSS := Lib.hid (show sumTo (j + 1) (fun i => (F i).size) = sumTo j (fun i => (F i).size) + (F j).size from rfl)
          have HDD := Lib.hid (show maxTo (j + 1) (fun i => (F i).depth) = max (maxTo j (fun i => (F i).depth)) (F j).depth from rfl)
          have HQS := Lib.hid (show 1 + sumTo ll (fun i => (L i).size) + sumTo j (fun i => (F i).size) + (F j).size ≤ 1099511627776 by have := sF.out j hlt; have := HS2.out; omega)
          have hin2 := hin
          obtain ⟨v, hv⟩ : ∃ v, F j = v := ⟨_, rfl⟩
          rw [hv] at hat hin2 HX HSS HDD HQS
          clear hv
          cases v with
          | leaf => exact hin2.elim
          | mk k2 n2 s2 la2 ll2 lc2 L2 fa2 fl2 fc2 fn2 F2 e2 key2 hk2 =>
          obtain ⟨d0, d1, d2, d3, d4, d5, d6, d7, d8⟩ := at9 hat
          generalize hz1 : (V.mk k2 n2 s2 la2 ll2 lc2 L2 fa2 fl2 fc2 fn2 F2 e2 key2 hk2).size = zq at HSS HQS
          generalize hz2 : (V.mk k2 n2 s2 la2 ll2 lc2 L2 fa2 fl2 fc2 fn2 F2 e2 key2 hk2).depth = dq at HDD
          rw [hz2] at HX
          clear hz1 hz2 hat hin hin2
          simp only [V.agg, V.cells] at HX
          have hl0 : (0 : Int) ≤ (j : Int) := by omega
          have hli : (j : Int) < (fl : Int) := by omega
          go_wp2_with fail
          refine HX.out.mono ?_
          rintro x w6 ⟨rfl, hb6⟩
          have HB6 := Lib.hid (HB2.out.below hb6)
          clear hb6 c0 c1 c2 c3 c4 c5 c6 c7 d0 d1 d2 d3 d4 d5 d6 d7 d8 HX
          go_wp2_with fail
          go_roundw
          case rel => exact ⟨j + 1, by omega, by go_num, int_eq (by have h1 := HDD.out; omega), HB6.out⟩
          case measure => simp [intOf]; omega
        · obtain rfl : fl = j := by omega
          have h1 := dL.out ll (Nat.le_refl _)
          have h2 := dF.out fl (Nat.le_refl _)
          have h3 := HS2.out
          have hw : IntKind.i64.wrap (((max (maxTo ll (fun i => (L i).depth)) (maxTo fl (fun i => (F i).depth)) : Nat) : Int) + 1) = ((max (maxTo ll (fun i => (L i).depth)) (maxTo fl (fun i => (F i).depth)) : Nat) : Int) + 1 := IntWalk.i64_in _ (by omega)
          clear h1 h2 h3
          go_wp2_with fail
          go_ret
          exact ⟨ret_i (by first | (rw [RT.out]; omega) | (rw [RT.out, hw]; omega) | (have h1 := dL.out ll (Nat.le_refl _); have h2 := dF.out fl (Nat.le_refl _); have h3 := HS2.out; rw [RT.out, w64 (by omega)]; omega)), HB2.out.low⟩
end Go.Proofs.YtmhemajcnfcdmaaGreatDoor
namespace Go.Proofs.YtmhemajcnfcdmaaGreatDoor
open Go.RowKit
set_option maxRecDepth 100000 in
set_option maxHeartbeats 4000000 in
theorem rcheck_any (v : V) (w : World) (hin : v.In w) (hsz : v.size ≤ 1099511627776) :
    Calls Tryz.prog 21 #[v.agg] w fun x w' => x = .returned (.bool v.check) ∧ Below w.heap.size w w' := by
  have CS := Lib.hid (fun W (h : BoxE w v W) => shaped_is v W (hin.below h.low))
  have CZ := Lib.hid (fun W (h : BoxE w v W) => rsize_is v W (hin.below h.low) hsz)
  have CD := Lib.hid (fun W (h : BoxE w v W) => rdeep_is v W (hin.below h.low) hsz)
  have HR := Lib.hid (rCheck_is hin).symm
  have OK0 := Lib.hid (boxE w v 30)
  have hdz := depth_le_size v
  cases v with
  | leaf => exact hin.elim
  | mk k n s la ll lc L fa fl fc fn F e key hk =>
  have KS := Lib.hid (fun W (h : BoxE w (.mk k n s la ll lc L fa fl fc fn F e key hk) W) => at80 h.cv)
  generalize (V.mk k n s la ll lc L fa fl fc fn F e key hk).rsh = qs at CS HR
  generalize (V.mk k n s la ll lc L fa fl fc fn F e key hk).size = Z at CZ HR hsz hdz
  generalize (V.mk k n s la ll lc L fa fl fc fn F e key hk).depth = D at CD HR hdz
  generalize (V.mk k n s la ll lc L fa fl fc fn F e key hk).check = q at HR ⊢
  obtain ⟨qz, hqz⟩ : ∃ x, decide (Z ≤ 4096) = x := ⟨_, rfl⟩
  obtain ⟨qd, hqd⟩ : ∃ x, decide (D ≤ 64) = x := ⟨_, rfl⟩
  have s1 : decide ((Z : Int) ≤ 4096) = qz := by rw [← hqz, Bool.eq_iff_iff]; simp; omega
  have s2 : decide ((D : Int) ≤ 64) = qd := by rw [← hqd, Bool.eq_iff_iff]; simp; omega
  rw [hqz, hqd] at HR
  clear hqz hqd hin
  simp only [V.agg, V.cells] at CS CZ CD OK0 ⊢
  go_enter Tryz.func21, Tryz.ntmps21
  go_upto_region 1 with fail
  have OKu := OK0.out
  generalize (w.alloc (.cells #[.int .u8 k, .int .i64 n, .string s, .slice la ll lc, .slice fa fl fc, .int .u8 e, .string key, .bool hk] 30)) = W0 at OKu ⊢
  have OK : BoxE w (.mk k n s la ll lc L fa fl fc fn F e key hk) W0 := OKu
  clear OKu OK0
  obtain ⟨c0, c1, c2, c3, c4, c5, c6, c7⟩ := KS.out _ OK
  go_wp2_with (first
    | (go_at_call 80; refine (CS.out _ (by assumption)).mono ?_; rintro x w1 ⟨rfl, hb1⟩; (have OKn := BoxE.below (by assumption) hb1); clear hb1; obtain ⟨c0, c1, c2, c3, c4, c5, c6, c7⟩ := KS.out _ OKn)
    | (go_at_call 81; refine (CZ.out _ (by assumption)).mono ?_; rintro x w1 ⟨rfl, hb1⟩; (have OKn := BoxE.below (by assumption) hb1); clear hb1; obtain ⟨c0, c1, c2, c3, c4, c5, c6, c7⟩ := KS.out _ OKn)
    | (go_at_call 82; refine (CD.out _ (by assumption)).mono ?_; rintro x w1 ⟨rfl, hb1⟩; (have OKn := BoxE.below (by assumption) hb1); clear hb1; obtain ⟨c0, c1, c2, c3, c4, c5, c6, c7⟩ := KS.out _ OKn))
  all_goals
    go_ret
    refine ⟨?_, BoxE.low (by assumption)⟩
    have hq := HR.out
    clear HR CS CZ CD KS s1 s2
    simp_all
end Go.Proofs.YtmhemajcnfcdmaaGreatDoor
