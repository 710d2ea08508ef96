/-
  Plain: what the operations answer for some values (numbers, texts, lists, records).
  Conditions: none.
-/
import Derived.Test.YtjbapldlgnlepaaGreatDoorOperP
import Derived.Test.YtjbapldlgnlepaaGreatDoorLimP
namespace Go.Proofs.YtjbapldlgnlepaaGreatDoor
open Go.RowKit

theorem at_add : opAt ⟨#[97, 100, 100]⟩ = some 0 := by decide
theorem at_sub : opAt ⟨#[115, 117, 98]⟩ = some 1 := by decide
theorem at_mul : opAt ⟨#[109, 117, 108]⟩ = some 2 := by decide
theorem at_lt : opAt ⟨#[108, 116]⟩ = some 3 := by decide
theorem at_eq : opAt ⟨#[101, 113]⟩ = some 4 := by decide
theorem at_cat : opAt ⟨#[99, 97, 116]⟩ = some 6 := by decide
theorem at_len : opAt ⟨#[108, 101, 110]⟩ = some 7 := by decide
theorem at_at : opAt ⟨#[97, 116]⟩ = some 8 := by decide
theorem at_get : opAt ⟨#[103, 101, 116]⟩ = some 9 := by decide
theorem at_list : opAt ⟨#[108, 105, 115, 116]⟩ = some 10 := by decide
theorem at_push : opAt ⟨#[112, 117, 115, 104]⟩ = some 11 := by decide
theorem at_text : opAt ⟨#[116, 101, 120, 116]⟩ = some 12 := by decide

/-- One, two, three values. -/
def v1 (a : V) : Nat → V := fun _ => a
def v2 (a b : V) : Nat → V := fun i => if i = 0 then a else b
def v3 (a b c : V) : Nat → V := fun i => if i = 0 then a else if i = 1 then b else c

theorem allB1 {p : Nat → Bool} : allB 1 p = p 0 := by simp [allB, List.range, List.range.loop]
theorem allB2 {p : Nat → Bool} : allB 2 p = (p 0 && p 1) := by simp [allB, List.range, List.range.loop]
theorem allB3 {p : Nat → Bool} : allB 3 p = (p 0 && (p 1 && p 2)) := by simp [allB, List.range, List.range.loop]

theorem iv_check (n : Int) : (iv n).check = true := by rfl
theorem nv_check : nv.check = true := by rfl
theorem bv_check (b : Bool) : (bv b).check = true := by cases b <;> rfl
theorem sv_check (s : ByteArray) : (sv s).check = decide (s.size ≤ 4096) := tx_check s

theorem do_add (a b : Int) : doB ⟨#[97, 100, 100]⟩ 2 (v2 (iv a) (iv b)) = true ∧ doV ⟨#[97, 100, 100]⟩ 2 (v2 (iv a) (iv b)) = iv (wrap64 (a + b)) := by
  simp only [doB, doV, at_add, allB2, opOk, opV, iv_check]; exact ⟨rfl, rfl⟩
theorem do_sub (a b : Int) : doB ⟨#[115, 117, 98]⟩ 2 (v2 (iv a) (iv b)) = true ∧ doV ⟨#[115, 117, 98]⟩ 2 (v2 (iv a) (iv b)) = iv (wrap64 (a - b)) := by
  simp only [doB, doV, at_sub, allB2, opOk, opV, iv_check]; exact ⟨rfl, rfl⟩
theorem do_mul (a b : Int) : doB ⟨#[109, 117, 108]⟩ 2 (v2 (iv a) (iv b)) = true ∧ doV ⟨#[109, 117, 108]⟩ 2 (v2 (iv a) (iv b)) = iv (wrap64 (a * b)) := by
  simp only [doB, doV, at_mul, allB2, opOk, opV, iv_check]; exact ⟨rfl, rfl⟩
theorem do_lt (a b : Int) : doB ⟨#[108, 116]⟩ 2 (v2 (iv a) (iv b)) = true ∧ doV ⟨#[108, 116]⟩ 2 (v2 (iv a) (iv b)) = bv (decide (a < b)) := by
  have e : opV 3 2 (v2 (iv a) (iv b)) = bv (decide (a < b)) := rfl
  simp only [doB, doV, at_lt, allB2, e, bv_check, Bool.and_true]; exact ⟨rfl, trivial⟩
theorem iv_eq (a b : Int) : (iv a).same (iv b) = decide (a = b) := by
  simp [V.same, ownB, iv, vz, allB]
theorem sv_eq (a b : ByteArray) : (sv a).same (sv b) = decide (a = b) := by
  simp [V.same, ownB, sv, vz, allB]
theorem do_eq (a b : V) (ha : a.check = true) (hb : b.check = true) : doB ⟨#[101, 113]⟩ 2 (v2 a b) = true ∧ doV ⟨#[101, 113]⟩ 2 (v2 a b) = bv (a.same b) := by
  have e : opV 4 2 (v2 a b) = bv (a.same b) := rfl
  simp only [doB, doV, at_eq, allB2, e, bv_check, Bool.and_true]
  refine ⟨?_, trivial⟩
  show (takesB 2 2 (2 : Nat) && ((a.check && b.check) && true)) = true
  rw [ha, hb]; rfl

/-! ### Texts -/
def bcat (a b : ByteArray) : ByteArray := ⟨(a.data.toList ++ b.data.toList).toArray⟩
theorem bcat_size (a b : ByteArray) : (bcat a b).size = a.size + b.size := by
  show (a.data.toList ++ b.data.toList).length = _
  rw [List.length_append]; rfl
theorem bcat_list (a b : ByteArray) : (bcat a b).data.toList = a.data.toList ++ b.data.toList := by
  simp [bcat]
set_option maxRecDepth 100000 in
theorem do_lts (a b : ByteArray) (ha : a.size ≤ 4096) (hb : b.size ≤ 4096) : doB ⟨#[108, 116]⟩ 2 (v2 (sv a) (sv b)) = true ∧ doV ⟨#[108, 116]⟩ 2 (v2 (sv a) (sv b)) = bv (Op.bytesLess a.toList b.toList) := by
  have e : opV 3 2 (v2 (sv a) (sv b)) = bv (Op.bytesLess a.toList b.toList) := rfl
  unfold doB doV
  rw [at_lt]
  refine ⟨?_, e⟩
  show (takesB 2 2 (2 : Nat) && (allB 2 (fun i => (v2 (sv a) (sv b) i).check) && (true && (opV 3 2 (v2 (sv a) (sv b))).check))) = true
  rw [allB2, e, bv_check]
  show (takesB 2 2 (2 : Nat) && (((sv a).check && (sv b).check) && true)) = true
  rw [sv_check, sv_check, decide_eq_true ha, decide_eq_true hb]; rfl
theorem catL2 (a b : ByteArray) : catL 2 (v2 (sv a) (sv b)) = a.data.toList ++ b.data.toList := rfl
theorem catL3 (a b c : ByteArray) : catL 3 (v3 (sv a) (sv b) (sv c)) = a.data.toList ++ b.data.toList ++ c.data.toList := rfl
theorem len_list (a : ByteArray) : a.data.toList.length = a.size := rfl
theorem do_cat2 (a b : ByteArray) (h : a.size + b.size ≤ 4096) : doB ⟨#[99, 97, 116]⟩ 2 (v2 (sv a) (sv b)) = true ∧ doV ⟨#[99, 97, 116]⟩ 2 (v2 (sv a) (sv b)) = sv (bcat a b) := by
  have e : opV 6 2 (v2 (sv a) (sv b)) = sv (bcat a b) := rfl
  have e1 : opOk 6 2 (v2 (sv a) (sv b)) = (decide (a.data.toList.length ≤ 4096) && decide ((a.data.toList ++ b.data.toList).length ≤ 4096)) := by
    simp only [opOk, catB, allB2]; rfl
  unfold doB doV
  rw [at_cat]
  refine ⟨?_, e⟩
  show (takesB 0 (-1) (2 : Nat) && (allB 2 (fun i => (v2 (sv a) (sv b) i).check) && (opOk 6 2 (v2 (sv a) (sv b)) && (opV 6 2 (v2 (sv a) (sv b))).check))) = true
  rw [allB2, e, e1, sv_check, bcat_size, List.length_append, len_list, len_list]
  show (takesB 0 (-1) (2 : Nat) && (((sv a).check && (sv b).check) && _)) = true
  rw [sv_check, sv_check, decide_eq_true (by omega : a.size ≤ 4096), decide_eq_true (by omega : b.size ≤ 4096), decide_eq_true h]; rfl
theorem do_cat3 (a b c : ByteArray) (h : a.size + b.size + c.size ≤ 4096) : doB ⟨#[99, 97, 116]⟩ 3 (v3 (sv a) (sv b) (sv c)) = true ∧ doV ⟨#[99, 97, 116]⟩ 3 (v3 (sv a) (sv b) (sv c)) = sv (bcat (bcat a b) c) := by
  have e : opV 6 3 (v3 (sv a) (sv b) (sv c)) = sv (bcat (bcat a b) c) := by
    show sv ⟨(catL 3 (v3 (sv a) (sv b) (sv c))).toArray⟩ = _
    rw [catL3, bcat, bcat_list]
  have e1 : opOk 6 3 (v3 (sv a) (sv b) (sv c)) = (decide (a.data.toList.length ≤ 4096) && (decide ((a.data.toList ++ b.data.toList).length ≤ 4096) && decide ((a.data.toList ++ b.data.toList ++ c.data.toList).length ≤ 4096))) := by
    simp only [opOk, catB, allB3]; rfl
  unfold doB doV
  rw [at_cat]
  refine ⟨?_, e⟩
  show (takesB 0 (-1) (3 : Nat) && (allB 3 (fun i => (v3 (sv a) (sv b) (sv c) i).check) && (opOk 6 3 (v3 (sv a) (sv b) (sv c)) && (opV 6 3 (v3 (sv a) (sv b) (sv c))).check))) = true
  rw [allB3, e, e1, sv_check, bcat_size, bcat_size]
  simp only [List.length_append, len_list]
  show (takesB 0 (-1) (3 : Nat) && (((sv a).check && ((sv b).check && (sv c).check)) && _)) = true
  rw [sv_check, sv_check, sv_check, decide_eq_true (by omega : a.size ≤ 4096), decide_eq_true (by omega : b.size ≤ 4096), decide_eq_true (by omega : c.size ≤ 4096), decide_eq_true (by omega : a.size + b.size ≤ 4096), decide_eq_true h]; rfl
set_option maxRecDepth 100000 in
theorem do_lens (a : ByteArray) (h : a.size ≤ 4096) : doB ⟨#[108, 101, 110]⟩ 1 (v1 (sv a)) = true ∧ doV ⟨#[108, 101, 110]⟩ 1 (v1 (sv a)) = iv a.size := by
  have e : opV 7 1 (v1 (sv a)) = iv a.size := rfl
  unfold doB doV
  rw [at_len]
  refine ⟨?_, e⟩
  show (takesB 1 1 (1 : Nat) && (allB 1 (fun i => (v1 (sv a) i).check) && (true && (opV 7 1 (v1 (sv a))).check))) = true
  rw [allB1, e, iv_check]
  show (takesB 1 1 (1 : Nat) && ((sv a).check && true)) = true
  rw [sv_check, decide_eq_true h]; rfl
theorem do_texts (a : ByteArray) (h : a.size ≤ 4096) : doB ⟨#[116, 101, 120, 116]⟩ 1 (v1 (sv a)) = true ∧ doV ⟨#[116, 101, 120, 116]⟩ 1 (v1 (sv a)) = sv a := by
  have e : opV 12 1 (v1 (sv a)) = sv a := rfl
  simp only [doB, doV, at_text, allB1, e, sv_check]
  refine ⟨?_, trivial⟩
  show (takesB 1 1 (1 : Nat) && ((sv a).check && (true && _))) = true
  rw [sv_check, decide_eq_true h]; rfl

/-! ### Lists -/
theorem lv_check_el {la : Option Addr} {n c : Nat} {L : Nat → V} (h : (lv la n c L).check = true) : ∀ i, i < n → (L i).check = true := by
  intro i hi
  rw [check_iff] at h ⊢
  obtain ⟨⟨h1, h2, h3⟩, h4, h5⟩ := h
  simp only [lv, V.size, V.depth] at h4 h5
  have a := le_sumTo (f := fun i => (L i).size) hi
  have b := maxTo_le.1 (Nat.le_refl (maxTo n (fun i => (L i).depth))) i hi
  exact ⟨h2 i hi, by omega, by omega⟩
theorem do_list {n : Nat} {L : Nat → V} : doB ⟨#[108, 105, 115, 116]⟩ n L = (allB n (fun i => (L i).check) && (lv none n n L).check) ∧ doV ⟨#[108, 105, 115, 116]⟩ n L = lv none n n L := by
  simp only [doB, doV, at_list]
  refine ⟨?_, rfl⟩
  have e : takesB (opLeast 10) (opMost 10) n = true := by simp [takesB, opLeast, opMost]
  rw [e]; rfl
theorem do_push {la : Option Addr} {n c : Nat} {L : Nat → V} {v : V} : doB ⟨#[112, 117, 115, 104]⟩ 2 (v2 (lv la n c L) v) = ((lv la n c L).check && v.check && (lv none (n + 1) (n + 1) (snocV n L v)).check) ∧ doV ⟨#[112, 117, 115, 104]⟩ 2 (v2 (lv la n c L) v) = lv none (n + 1) (n + 1) (snocV n L v) := by
  simp only [doB, doV, at_push, allB2]
  refine ⟨?_, rfl⟩
  show (takesB 2 2 (2 : Nat) && (((lv la n c L).check && v.check) && (true && (lv none (n + 1) (n + 1) (snocV n L v)).check))) = _
  have e : takesB 2 2 (2 : Nat) = true := rfl
  rw [e]; simp
theorem do_lenl {la : Option Addr} {n c : Nat} {L : Nat → V} (h : (lv la n c L).check = true) : doB ⟨#[108, 101, 110]⟩ 1 (v1 (lv la n c L)) = true ∧ doV ⟨#[108, 101, 110]⟩ 1 (v1 (lv la n c L)) = iv n := by
  have e : opV 7 1 (v1 (lv la n c L)) = iv n := rfl
  simp only [doB, doV, at_len, allB1, e, iv_check, Bool.and_true]
  refine ⟨?_, trivial⟩
  show (takesB 1 1 (1 : Nat) && ((lv la n c L).check && true)) = true
  rw [h]; rfl
theorem do_at {la : Option Addr} {n c : Nat} {L : Nat → V} (h : (lv la n c L).check = true) (i : Nat) : doB ⟨#[97, 116]⟩ 2 (v2 (lv la n c L) (iv i)) = true ∧ doV ⟨#[97, 116]⟩ 2 (v2 (lv la n c L) (iv i)) = (if i < n then L i else nv) := by
  have e : opV 8 2 (v2 (lv la n c L) (iv i)) = (if i < n then L i else nv) := by
    show (if 0 ≤ (i : Int) ∧ (i : Int) < (n : Nat) then L (i : Int).toNat else nv) = _
    by_cases hi : i < n
    · rw [if_pos (by omega), if_pos hi]; rfl
    · rw [if_neg (by omega), if_neg hi]
  simp only [doB, doV, at_at, allB2, e]
  refine ⟨?_, trivial⟩
  have e2 : (if i < n then L i else nv).check = true := by
    split
    · exact lv_check_el h i ‹_›
    · rfl
  show (takesB 2 2 (2 : Nat) && (((lv la n c L).check && (iv i).check) && (true && _))) = true
  rw [h, iv_check, e2]; rfl

/-! ### Records -/
theorem check_fld {v : V} (h : v.check = true) : ∀ i, i < v.flen → (v.fel i).check = true := by
  intro i hi
  cases v with
  | leaf => simp [V.flen] at hi
  | mk k n s la ll lc L fa fl fc fn F e key hk =>
  replace hi : i < fl := hi
  rw [check_iff] at h ⊢
  obtain ⟨⟨h1, h2, h3⟩, h4, h5⟩ := h
  simp only [V.size, V.depth] at h4 h5
  have a := le_sumTo (f := fun i => (F i).size) hi
  have b := maxTo_le.1 (Nat.le_refl (maxTo fl (fun i => (F i).depth))) i hi
  exact ⟨h3 i hi, by show (F i).size ≤ 4096; omega, by show (F i).depth ≤ 64; omega⟩
theorem do_get {v : V} {nm : ByteArray} (hv : v.check = true) (hk : v.kind = 5) (hn : nm.size ≤ 4096) : doB ⟨#[103, 101, 116]⟩ 2 (v2 v (sv nm)) = true ∧ doV ⟨#[103, 101, 116]⟩ 2 (v2 v (sv nm)) = v.get nm := by
  have e : opV 9 2 (v2 v (sv nm)) = v.get nm := rfl
  have e2 : (v.get nm).check = true := by
    unfold V.get
    split
    · exact check_fld hv _ (findF_lt ‹_›).1
    · rfl
  simp only [doB, doV, at_get, allB2, e, e2, Bool.and_true]
  refine ⟨?_, trivial⟩
  show (takesB 2 2 (2 : Nat) && ((v.check && (sv nm).check) && (decide (v.kind = 5) && true))) = true
  rw [hv, hk, sv_check, decide_eq_true hn]; rfl
end Go.Proofs.YtjbapldlgnlepaaGreatDoor
