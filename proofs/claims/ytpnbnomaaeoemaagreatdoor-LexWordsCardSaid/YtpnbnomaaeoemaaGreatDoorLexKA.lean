/-
  Walks: the mark of a list of words, and the test of a mark.
  Conditions: the list's number is below a hundred.
-/
import Derived.Test.YtpnbnomaaeoemaaGreatDoorLexRV
import Derived.Test.YtpnbnomaaeoemaaGreatDoorShelfI
import Derived.Lib.ItoaLen
import Derived.IntWalk
import Derived.Deep.RegionLaw
import Derived.Deep.AppendLies
import Derived.Deep.RegionHeld3
import Derived.Deep.Cut
import Derived.Deep.QuietTactic
import Derived.BigQuiet
namespace Go.Proofs.YtpnbnomaaeoemaaGreatDoor
open Go.RowKit

def At (w : World) (b o : Nat) (cs : List Value) : Prop := ∀ i, i < cs.length → w.cell? ⟨b, o + i, none⟩ = cs[i]?
theorem At.mono {w w' : World} {b o : Nat} {cs : List Value} (hh : ∀ a : Addr, a.block < w.heap.size → w'.cell? a = w.cell? a) (h : At w b o cs) : At w' b o cs := by
  intro i hi
  have h0 := h i hi
  rw [List.getElem?_eq_getElem hi] at h0 ⊢
  have hlt : b < w.heap.size := World.block_lt_of_cell? _ _ h0
  rw [hh _ hlt, h0]
theorem At.below {w w' : World} {b o : Nat} {cs : List Value} (hb : Below w.heap.size w w') (h : At w b o cs) : At w' b o cs := At.mono (fun _ ha => hb.cell ha) h
theorem at_new {w w' : World} {B : Nat} {cs : List Value} {T : TypeId} (hB : B = w.heap.size) (hb : Below (B + 1) (w.alloc (.cells cs.toArray T)) w') : At w' B 0 cs := by
  subst hB
  intro i hi
  rw [hb.cell (p := ⟨w.heap.size, 0 + i, none⟩) (by simp)]
  simp [hi]
theorem below_drawn (w : World) (m : Nat) : Below w.heap.size w (w.drewN m) := below_drewN (Below.refl _ _) m
theorem below_alloc (w : World) (O : Obj) : Below w.heap.size w (w.alloc O) := (Below.refl _ _).alloc (Nat.le_refl _) _
theorem ownsRow_below {base e size n : Nat} {v : Value} {xs : List Value} {W W1 : World} (h : W.ownsRow base e size v n xs) (hb : Below W.heap.size W W1) : W1.ownsRow base e size v n xs := by
  refine ⟨h.1, ?_⟩
  rcases h.2 with hn | ⟨g, cap, cur, rfl, hbb, hgg, rest⟩
  · exact .inl hn
  · exact .inr ⟨g, cap, cur, rfl, hbb, by rw [hb.block g (Array.getElem?_eq_some_iff.1 hgg).1, hgg], rest⟩
def rs (W : World) (b i : Nat) : Value := (W.cell? ⟨b, i, none⟩).getD undef
theorem rs_some {W : World} {b i : Nat} {v : Value} (h : W.cell? ⟨b, i, none⟩ = some v) : W.cell? ⟨b, i, none⟩ = some (rs W b i) := by
  rw [rs, h]; rfl

/-- The book's word. -/
def wordB (n : Int) : ByteArray := ⟨(35 :: Lib.itoa n).toArray⟩
/-- The mark. -/
def mkL (n : Int) : List Value := [.int .u8 0, .string (wordB n), .int .i64 0, .int .i64 0]
theorem itoa_nat (n : Nat) : Lib.itoa (n : Int) = Lib.decDigits n := by simp [Lib.itoa]
set_option maxHeartbeats 1000000 in
theorem itoa_small (n : Nat) (hn : n < 100) (w : World) : Calls Tryz.prog 201 #[.int .i64 n] w fun e w' => e = .returned (.string ⟨(Lib.itoa n).toArray⟩) ∧ w = w' := by
  have HI := Lib.hid (Tryz.internal_strconv_Itoa_small n hn w)
  rw [itoa_nat]
  go_enter Tryz.func201, Tryz.ntmps201
  go_wp2_with (go_at_call 225; (with_reducible refine HI.out.mono ?_); rintro x w1 ⟨rfl, rfl⟩)
  go_ret
  exact ⟨rfl, rfl⟩
set_option maxHeartbeats 1000000 in
theorem word_small (n : Nat) (hn : n < 100) (w : World) : Calls Tryz.prog 175 #[.int .i64 n] w fun e w' => e = .returned (.string (wordB n)) ∧ w = w' := by
  have HI := Lib.hid (itoa_small n hn w)
  have hl := Lib.itoa_length_le n (by omega) (by omega)
  have hl2 : ¬ 9223372036854775807 < 1 + (Lib.itoa n).length := by omega
  go_enter Tryz.func175, Tryz.ntmps175
  go_wp2_with (go_at_call 201; (with_reducible refine HI.out.mono ?_); rintro x w1 ⟨rfl, rfl⟩)
  go_ret
  exact ⟨rfl, rfl⟩
set_option maxHeartbeats 1000000 in
theorem markWord_is {k : Int} (hk : ∃ n : Nat, k = n ∧ n < 100) (w : World) : Calls Tryz.prog 104 #[.int .i64 k] w fun e w' => e = .returned (.agg #[.int .u8 0, .string (wordB k), .int .i64 0, .int .i64 0]) ∧ Below w.heap.size w w' := by
  obtain ⟨n, rfl, hn⟩ := hk
  have HI := Lib.hid (fun W => word_small n hn W)
  generalize wordB n = x at HI ⊢
  go_enter Tryz.func104, Tryz.ntmps104
  go_wp2_with (go_at_call 175; (with_reducible refine (HI.out _).mono ?_); rintro x w1 ⟨rfl, rfl⟩)
  refine bodyPost_ret (v := .agg #[.int .u8 0, .string x, .int .i64 0, .int .i64 0]) (by simp [results, Tryz.results104, go_sem]) rfl ⟨rfl, ?_⟩
  exact below_alloc w _
set_option maxHeartbeats 1000000 in
theorem isWord_is {k : Int} (hk : ∃ n : Nat, k = n ∧ n < 100) (w : World) : Calls Tryz.prog 120 #[.agg #[.int .u8 0, .string (wordB k), .int .i64 0, .int .i64 0], .int .i64 k] w fun e w' => e = .returned (.bool true) ∧ Below w.heap.size w w' := by
  obtain ⟨n, rfl, hn⟩ := hk
  have HI := Lib.hid (fun W => word_small n hn W)
  generalize wordB n = x at HI ⊢
  go_enter Tryz.func120, Tryz.ntmps120
  go_upto_region 1 with fail
  go_quiet ((go_at_call 175; exact Calls.quiet_of_same ((HI.out _).mono fun e w' h => ⟨h.1, h.2.symm⟩)))
  go_wp2_with fail
  go_ret
  exact ⟨by simp, (below_alloc w _).trans ((below_drawn _ nq).mono (by simp))⟩

/-- A mark put into the k-th place of the row in block g. -/
def put4 (W : World) (g k : Nat) (n : Int) : World := (((W.setCell ⟨g, k * 4, none⟩ (.int .u8 0)).setCell ⟨g, k * 4 + 1, none⟩ (.string (wordB n))).setCell ⟨g, k * 4 + 2, none⟩ (.int .i64 0)).setCell ⟨g, k * 4 + 3, none⟩ (.int .i64 0)
theorem put4_own {W : World} {b n g cp : Nat} {X : List Value} (h : W.ownsRow b 84 4 (.slice (some ⟨g, 0, none⟩) n cp) n X) (k : Nat) (x : Int) :
    (put4 W g k x).ownsRow b 84 4 (.slice (some ⟨g, 0, none⟩) n cp) n ((((X.set (k * 4) (.int .u8 0)).set (k * 4 + 1) (.string (wordB x))).set (k * 4 + 2) (.int .i64 0)).set (k * 4 + 3) (.int .i64 0)) ∧ W.grownBy (put4 W g k x) (some g) := by
  obtain ⟨a1, a2⟩ := h.stored (k * 4) (.int .u8 0)
  obtain ⟨b1, b2⟩ := a1.stored (k * 4 + 1) (.string (wordB x))
  obtain ⟨c1, c2⟩ := b1.stored (k * 4 + 2) (.int .i64 0)
  obtain ⟨d1, d2⟩ := c1.stored (k * 4 + 3) (.int .i64 0)
  exact ⟨d1, grown_trans (grown_trans (grown_trans a2 b2) c2) d2⟩
theorem put4_get {X : List Value} {n k : Nat} {x : Int} (hl : X.length = n * 4) (hk : k < n) (h : ∀ q, q < k → ∀ r, r < 4 → X[q * 4 + r]? = (mkL x)[r]?) :
    ∀ q, q < k + 1 → ∀ r, r < 4 → ((((X.set (k * 4) (.int .u8 0)).set (k * 4 + 1) (.string (wordB x))).set (k * 4 + 2) (.int .i64 0)).set (k * 4 + 3) (.int .i64 0))[q * 4 + r]? = (mkL x)[r]? := by
  intro q hq r hr
  by_cases hqk : q = k
  · subst hqk
    match r, hr with
    | 0, _ => simp [List.getElem?_set, mkL]; omega
    | 1, _ => simp [List.getElem?_set, mkL]; omega
    | 2, _ => simp [List.getElem?_set, mkL]; omega
    | 3, _ => simp [List.getElem?_set, mkL]; omega
  · rw [List.getElem?_set_ne (by omega), List.getElem?_set_ne (by omega), List.getElem?_set_ne (by omega), List.getElem?_set_ne (by omega)]
    exact h q (by omega) r hr
end Go.Proofs.YtpnbnomaaeoemaaGreatDoor
