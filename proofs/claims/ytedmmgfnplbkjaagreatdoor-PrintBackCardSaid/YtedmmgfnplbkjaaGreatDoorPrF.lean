/-
  Walks: which fields are not zero, which a kind's row names (bit, fieldsOf.., namedOf.., isZero).
  Conditions: the expression, the statement, the act lies in memory, as the tree tells.
-/
import Derived.Test.YtedmmgfnplbkjaaGreatDoorPrQ
import Derived.Deep.QuietTactic
import Derived.BigQuiet
namespace Go.Proofs.YtedmmgfnplbkjaaGreatDoor.PR
set_option linter.unusedVariables false
set_option linter.unusedSimpArgs false
open Go.Proofs.YtedmmgfnplbkjaaGreatDoor Go.RowKit G
def bitV (f : Int) (h : Bool) : Int := if h then f else 0
set_option maxRecDepth 100000 in
set_option maxHeartbeats 2000000 in
theorem bit_any (f : Int) (h : Bool) (W : World) : Calls Tryz.prog 116 #[.int .u64 f, .bool h] W fun e w' => e = .returned (.int .u64 (bitV f h)) ∧ w' = W := by
  cases h <;>
  · go_enter Tryz.func116, Tryz.ntmps116
    go_wp2
    go_ret
    exact ⟨rfl, rfl⟩
abbrev bor (x y : Int) : Int := bits BinOp.or IntKind.u64 x y
def fieldsV (x1 x2 x3 x4 x5 x6 x7 x8 x9 : Bool) : Int := bor (bor (bor (bor (bor (bor (bor (bor (bitV 128 x1) (bitV 256 x2)) (bitV 512 x3)) (bitV 1024 x4)) (bitV 2048 x5)) (bitV 4096 x6)) (bitV 8192 x7)) (bitV 16384 x8)) (bitV 32768 x9)
def ECells (W : World) (b p : Nat) (row : Nat → T) (q : Nat) : Prop := ∃ (k n : Int) (s : ByteArray) (a3 : Option Addr) (n3 c3 : Nat) (a4 : Option Addr) (n4 c4 : Nat) (a5 : Option Addr) (n5 c5 : Nat) (e : Int) (a7 : Option Addr) (n7 c7 : Nat) (a8 : Option Addr) (n8 c8 : Nat) (t : ByteArray), W.cell? ⟨b, p, none⟩ = some (.int .u8 k) ∧ W.cell? ⟨b, p + 1, none⟩ = some (.int .i64 n) ∧ W.cell? ⟨b, p + 2, none⟩ = some (.string s) ∧ W.cell? ⟨b, p + 3, none⟩ = some (.slice a3 n3 c3) ∧ W.cell? ⟨b, p + 4, none⟩ = some (.slice a4 n4 c4) ∧ W.cell? ⟨b, p + 5, none⟩ = some (.slice a5 n5 c5) ∧ W.cell? ⟨b, p + 6, none⟩ = some (.int .u8 e) ∧ W.cell? ⟨b, p + 7, none⟩ = some (.slice a7 n7 c7) ∧ W.cell? ⟨b, p + 8, none⟩ = some (.slice a8 n8 c8) ∧ W.cell? ⟨b, p + 9, none⟩ = some (.string t) ∧ row q = .sc (.int .u8 k) ∧ row (q + 1) = .sc (.int .i64 n) ∧ row (q + 2) = .sc (.string s) ∧ lenT (row (q + 3)) = n3 ∧ (∃ k r, row (q + 3) = .ls n3 k r) ∧ lenT (row (q + 4)) = n4 ∧ (∃ k r, row (q + 4) = .ls n4 k r) ∧ lenT (row (q + 5)) = n5 ∧ (∃ k r, row (q + 5) = .ls n5 k r) ∧ row (q + 6) = .sc (.int .u8 e) ∧ lenT (row (q + 7)) = n7 ∧ (∃ k r, row (q + 7) = .ls n7 k r) ∧ lenT (row (q + 8)) = n8 ∧ (∃ k r, row (q + 8) = .ls n8 k r) ∧ row (q + 9) = .sc (.string t)
def fvE (row : Nat → T) (q : Nat) : Int := fieldsV (!zB (row (q + 1))) (!zB (row (q + 2))) (!zB (row (q + 3))) (!zB (row (q + 4))) (!zB (row (q + 5))) (!zB (row (q + 6))) (!zB (row (q + 7))) (!zB (row (q + 8))) (!zB (row (q + 9)))
theorem len_zB {t : T} {n k : Nat} {r : Nat → Nat → T} (h : t = .ls n k r) : (!zB t) = decide (0 < n) := by
  subst h
  cases n <;> rfl
theorem int_zB {t : T} {k : IntKind} {n : Int} (h : t = .sc (.int k n)) : (!zB t) = (n != 0) := by
  subst h
  rfl
theorem str_zB {t : T} {s : ByteArray} (h : t = .sc (.string s)) : (!zB t) = !s.toList.isEmpty := by
  subst h
  rw [Lib.toList_data]
  rfl
set_option maxRecDepth 100000 in
set_option maxHeartbeats 4000000 in
theorem fieldsE_any {b p : Nat} {W : World} {row : Nat → T} {q : Nat} (hE : ECells W b p row q) :
    Calls Tryz.prog 73 #[.pointer (some ⟨b, p, none⟩)] W fun e w' => e = .returned (.int .u64 (fvE row q)) ∧ ∃ m, w' = W.drewN m := by
  obtain ⟨k, n, s, a3, n3, c3, a4, n4, c4, a5, n5, c5, e, a7, n7, c7, a8, n8, c8, t, y0, y1, y2, y3, y4, y5, y6, y7, y8, y9, r0, r1, r2, r3, ⟨kk3, rr3, t3⟩, r4, ⟨kk4, rr4, t4⟩, r5, ⟨kk5, rr5, t5⟩, r6, r7, ⟨kk7, rr7, t7⟩, r8, ⟨kk8, rr8, t8⟩, r9⟩ := hE
  have HF : Hid (∀ x1 x2 x3 x4 x5 x6 x7 x8 x9, (n != 0) = x1 → (!s.toList.isEmpty) = x2 → decide (0 < n3) = x3 → decide (0 < n4) = x4 → decide (0 < n5) = x5 → (e != 0) = x6 → decide (0 < n7) = x7 → decide (0 < n8) = x8 → (!t.toList.isEmpty) = x9 → fvE row q = fieldsV x1 x2 x3 x4 x5 x6 x7 x8 x9) := by
    rintro _ _ _ _ _ _ _ _ _ rfl rfl rfl rfl rfl rfl rfl rfl rfl
    unfold fvE
    rw [int_zB r1, str_zB r2, len_zB t3, len_zB t4, len_zB t5, int_zB r6, len_zB t7, len_zB t8, str_zB r9]
  clear r0 r1 r2 r3 t3 r4 t4 r5 t5 r6 r7 t7 r8 t8 r9
  obtain ⟨x1, h1⟩ : ∃ x, (n != 0) = x := ⟨_, rfl⟩
  obtain ⟨x2, h2⟩ : ∃ x, (!s.toList.isEmpty) = x := ⟨_, rfl⟩
  obtain ⟨x3, h3⟩ : ∃ x, decide (0 < n3) = x := ⟨_, rfl⟩
  obtain ⟨x4, h4⟩ : ∃ x, decide (0 < n4) = x := ⟨_, rfl⟩
  obtain ⟨x5, h5⟩ : ∃ x, decide (0 < n5) = x := ⟨_, rfl⟩
  obtain ⟨x6, h6⟩ : ∃ x, (e != 0) = x := ⟨_, rfl⟩
  obtain ⟨x7, h7⟩ : ∃ x, decide (0 < n7) = x := ⟨_, rfl⟩
  obtain ⟨x8, h8⟩ : ∃ x, decide (0 < n8) = x := ⟨_, rfl⟩
  obtain ⟨x9, h9⟩ : ∃ x, (!t.toList.isEmpty) = x := ⟨_, rfl⟩
  rw [HF.out _ _ _ _ _ _ _ _ _ h1 h2 h3 h4 h5 h6 h7 h8 h9]
  clear HF
  have HB := Lib.hid bit_any
  go_enter Tryz.func73, Tryz.ntmps73
  go_wp2
  try simp only [List.append_eq, List.cons_append, List.nil_append]
  go_quiet ((go_at_call 116; exact Calls.quiet_of_same (HB.out _ _ _)))
  go_wp2
  go_ret
  exact ⟨rfl, _, rfl⟩
def nmE (k : Int) : Int := if k = 1 ∨ k = 2 then 128 else if k = 3 ∨ k = 4 then 256 else if k = 5 ∨ k = 7 then 768 else if k = 6 ∨ k = 8 ∨ k = 9 then 512 else if k = 10 then 3072 else if k = 11 then 16128 else if k = 12 then 49152 else 0
set_option maxRecDepth 100000 in
set_option maxHeartbeats 4000000 in
theorem nmE_any (k : Int) (W : World) : Calls Tryz.prog 74 #[.int .u8 k] W fun e w' => e = .returned (.int .u64 (nmE k)) ∧ w' = W := by
  by_cases h1 : k = 1
  · subst h1
    go_enter Tryz.func74, Tryz.ntmps74
    go_wp2
    go_ret
    exact ⟨rfl, rfl⟩
  have e1 : (k == 1) = false := by simpa using h1
  by_cases h2 : k = 2
  · subst h2
    go_enter Tryz.func74, Tryz.ntmps74
    go_wp2
    go_ret
    exact ⟨rfl, rfl⟩
  have e2 : (k == 2) = false := by simpa using h2
  by_cases h3 : k = 3
  · subst h3
    go_enter Tryz.func74, Tryz.ntmps74
    go_wp2
    go_ret
    exact ⟨rfl, rfl⟩
  have e3 : (k == 3) = false := by simpa using h3
  by_cases h4 : k = 4
  · subst h4
    go_enter Tryz.func74, Tryz.ntmps74
    go_wp2
    go_ret
    exact ⟨rfl, rfl⟩
  have e4 : (k == 4) = false := by simpa using h4
  by_cases h5 : k = 5
  · subst h5
    go_enter Tryz.func74, Tryz.ntmps74
    go_wp2
    go_ret
    exact ⟨rfl, rfl⟩
  have e5 : (k == 5) = false := by simpa using h5
  by_cases h7 : k = 7
  · subst h7
    go_enter Tryz.func74, Tryz.ntmps74
    go_wp2
    go_ret
    exact ⟨rfl, rfl⟩
  have e7 : (k == 7) = false := by simpa using h7
  by_cases h6 : k = 6
  · subst h6
    go_enter Tryz.func74, Tryz.ntmps74
    go_wp2
    go_ret
    exact ⟨rfl, rfl⟩
  have e6 : (k == 6) = false := by simpa using h6
  by_cases h8 : k = 8
  · subst h8
    go_enter Tryz.func74, Tryz.ntmps74
    go_wp2
    go_ret
    exact ⟨rfl, rfl⟩
  have e8 : (k == 8) = false := by simpa using h8
  by_cases h9 : k = 9
  · subst h9
    go_enter Tryz.func74, Tryz.ntmps74
    go_wp2
    go_ret
    exact ⟨rfl, rfl⟩
  have e9 : (k == 9) = false := by simpa using h9
  by_cases h10 : k = 10
  · subst h10
    go_enter Tryz.func74, Tryz.ntmps74
    go_wp2
    go_ret
    exact ⟨rfl, rfl⟩
  have e10 : (k == 10) = false := by simpa using h10
  by_cases h11 : k = 11
  · subst h11
    go_enter Tryz.func74, Tryz.ntmps74
    go_wp2
    go_ret
    exact ⟨rfl, rfl⟩
  have e11 : (k == 11) = false := by simpa using h11
  by_cases h12 : k = 12
  · subst h12
    go_enter Tryz.func74, Tryz.ntmps74
    go_wp2
    go_ret
    exact ⟨rfl, rfl⟩
  have e12 : (k == 12) = false := by simpa using h12
  have he : nmE k = 0 := by simp [nmE, h1, h2, h3, h4, h5, h7, h6, h8, h9, h10, h11, h12]
  rw [he]
  clear he
  go_enter Tryz.func74, Tryz.ntmps74
  go_wp2
  go_ret
  exact ⟨rfl, rfl⟩
def nmL (k : Int) : Int := if k = 1 ∨ k = 2 ∨ k = 3 ∨ k = 6 then 16128 else if k = 4 then 12800 else if k = 5 then 13056 else if k = 7 ∨ k = 8 then 15872 else 0
set_option maxRecDepth 100000 in
set_option maxHeartbeats 4000000 in
theorem nmL_any (k : Int) (W : World) : Calls Tryz.prog 123 #[.int .u8 k] W fun e w' => e = .returned (.int .u64 (nmL k)) ∧ w' = W := by
  by_cases h1 : k = 1
  · subst h1
    go_enter Tryz.func123, Tryz.ntmps123
    go_wp2
    go_ret
    exact ⟨rfl, rfl⟩
  have e1 : (k == 1) = false := by simpa using h1
  by_cases h2 : k = 2
  · subst h2
    go_enter Tryz.func123, Tryz.ntmps123
    go_wp2
    go_ret
    exact ⟨rfl, rfl⟩
  have e2 : (k == 2) = false := by simpa using h2
  by_cases h3 : k = 3
  · subst h3
    go_enter Tryz.func123, Tryz.ntmps123
    go_wp2
    go_ret
    exact ⟨rfl, rfl⟩
  have e3 : (k == 3) = false := by simpa using h3
  by_cases h6 : k = 6
  · subst h6
    go_enter Tryz.func123, Tryz.ntmps123
    go_wp2
    go_ret
    exact ⟨rfl, rfl⟩
  have e6 : (k == 6) = false := by simpa using h6
  by_cases h4 : k = 4
  · subst h4
    go_enter Tryz.func123, Tryz.ntmps123
    go_wp2
    go_ret
    exact ⟨rfl, rfl⟩
  have e4 : (k == 4) = false := by simpa using h4
  by_cases h5 : k = 5
  · subst h5
    go_enter Tryz.func123, Tryz.ntmps123
    go_wp2
    go_ret
    exact ⟨rfl, rfl⟩
  have e5 : (k == 5) = false := by simpa using h5
  by_cases h7 : k = 7
  · subst h7
    go_enter Tryz.func123, Tryz.ntmps123
    go_wp2
    go_ret
    exact ⟨rfl, rfl⟩
  have e7 : (k == 7) = false := by simpa using h7
  by_cases h8 : k = 8
  · subst h8
    go_enter Tryz.func123, Tryz.ntmps123
    go_wp2
    go_ret
    exact ⟨rfl, rfl⟩
  have e8 : (k == 8) = false := by simpa using h8
  have he : nmL k = 0 := by simp [nmL, h1, h2, h3, h6, h4, h5, h7, h8]
  rw [he]
  clear he
  go_enter Tryz.func123, Tryz.ntmps123
  go_wp2
  go_ret
  exact ⟨rfl, rfl⟩
def nmS (k : Int) : Int := if k = 1 ∨ k = 2 then 5 else if k = 3 then 13 else if k = 4 then 3 else if k = 5 ∨ k = 6 then 56 else if k = 7 then 68 else 0
set_option maxRecDepth 100000 in
set_option maxHeartbeats 4000000 in
theorem nmS_any (k : Int) (W : World) : Calls Tryz.prog 70 #[.int .u8 k] W fun e w' => e = .returned (.int .u64 (nmS k)) ∧ w' = W := by
  by_cases h1 : k = 1
  · subst h1
    go_enter Tryz.func70, Tryz.ntmps70
    go_wp2
    go_ret
    exact ⟨rfl, rfl⟩
  have e1 : (k == 1) = false := by simpa using h1
  by_cases h2 : k = 2
  · subst h2
    go_enter Tryz.func70, Tryz.ntmps70
    go_wp2
    go_ret
    exact ⟨rfl, rfl⟩
  have e2 : (k == 2) = false := by simpa using h2
  by_cases h3 : k = 3
  · subst h3
    go_enter Tryz.func70, Tryz.ntmps70
    go_wp2
    go_ret
    exact ⟨rfl, rfl⟩
  have e3 : (k == 3) = false := by simpa using h3
  by_cases h4 : k = 4
  · subst h4
    go_enter Tryz.func70, Tryz.ntmps70
    go_wp2
    go_ret
    exact ⟨rfl, rfl⟩
  have e4 : (k == 4) = false := by simpa using h4
  by_cases h5 : k = 5
  · subst h5
    go_enter Tryz.func70, Tryz.ntmps70
    go_wp2
    go_ret
    exact ⟨rfl, rfl⟩
  have e5 : (k == 5) = false := by simpa using h5
  by_cases h6 : k = 6
  · subst h6
    go_enter Tryz.func70, Tryz.ntmps70
    go_wp2
    go_ret
    exact ⟨rfl, rfl⟩
  have e6 : (k == 6) = false := by simpa using h6
  by_cases h7 : k = 7
  · subst h7
    go_enter Tryz.func70, Tryz.ntmps70
    go_wp2
    go_ret
    exact ⟨rfl, rfl⟩
  have e7 : (k == 7) = false := by simpa using h7
  have he : nmS k = 0 := by simp [nmS, h1, h2, h3, h4, h5, h6, h7]
  rw [he]
  clear he
  go_enter Tryz.func70, Tryz.ntmps70
  go_wp2
  go_ret
  exact ⟨rfl, rfl⟩
def nmA (k : Int) : Int := if k = 1 then 5 else if k = 2 ∨ k = 3 then 4 else 0
set_option maxRecDepth 100000 in
set_option maxHeartbeats 4000000 in
theorem nmA_any (k : Int) (W : World) : Calls Tryz.prog 169 #[.int .u8 k] W fun e w' => e = .returned (.int .u64 (nmA k)) ∧ w' = W := by
  by_cases h1 : k = 1
  · subst h1
    go_enter Tryz.func169, Tryz.ntmps169
    go_wp2
    go_ret
    exact ⟨rfl, rfl⟩
  have e1 : (k == 1) = false := by simpa using h1
  by_cases h2 : k = 2
  · subst h2
    go_enter Tryz.func169, Tryz.ntmps169
    go_wp2
    go_ret
    exact ⟨rfl, rfl⟩
  have e2 : (k == 2) = false := by simpa using h2
  by_cases h3 : k = 3
  · subst h3
    go_enter Tryz.func169, Tryz.ntmps169
    go_wp2
    go_ret
    exact ⟨rfl, rfl⟩
  have e3 : (k == 3) = false := by simpa using h3
  have he : nmA k = 0 := by simp [nmA, h1, h2, h3]
  rw [he]
  clear he
  go_enter Tryz.func169, Tryz.ntmps169
  go_wp2
  go_ret
  exact ⟨rfl, rfl⟩
abbrev band (x y : Int) : Int := bits BinOp.andNot IntKind.u64 x y
theorem fit_tab : ∀ m ∈ [(0, fun _ => false), (128, fun j => j == 1), (256, fun j => j == 2), (768, fun j => j == 2 || j == 3), (512, fun j => j == 3), (3072, fun j => j == 4 || j == 5), (16128, fun j => j == 2 || j == 3 || j == 4 || j == 5 || j == 6 || j == 7), (49152, fun j => j == 8 || j == 9), (12800, fun j => j == 3 || j == 6 || j == 7), (13056, fun j => j == 2 || j == 3 || j == 6 || j == 7), (15872, fun j => j == 3 || j == 4 || j == 5 || j == 6 || j == 7)],
    ∀ x1 x2 x3 x4 x5 x6 x7 x8 x9 : Bool, (band (fieldsV x1 x2 x3 x4 x5 x6 x7 x8 x9) m.1 != 0) = !((m.2 1 || !x1) && ((m.2 2 || !x2) && ((m.2 3 || !x3) && ((m.2 4 || !x4) && ((m.2 5 || !x5) && ((m.2 6 || !x6) && ((m.2 7 || !x7) && ((m.2 8 || !x8) && (m.2 9 || !x9))))))))) := by
  decide +kernel
theorem fit_of {m : Int} {nm : Nat → Bool} (h : (m, nm) ∈ ([(0, fun _ => false), (128, fun j => j == 1), (256, fun j => j == 2), (768, fun j => j == 2 || j == 3), (512, fun j => j == 3), (3072, fun j => j == 4 || j == 5), (16128, fun j => j == 2 || j == 3 || j == 4 || j == 5 || j == 6 || j == 7), (49152, fun j => j == 8 || j == 9), (12800, fun j => j == 3 || j == 6 || j == 7), (13056, fun j => j == 2 || j == 3 || j == 6 || j == 7), (15872, fun j => j == 3 || j == 4 || j == 5 || j == 6 || j == 7)] : List (Int × (Nat → Bool)))) (row : Nat → T) (q : Nat) :
    (band (fvE row q) m != 0) = !fitE nm row q := by
  have := fit_tab _ h (!zB (row (q + 1))) (!zB (row (q + 2))) (!zB (row (q + 3))) (!zB (row (q + 4))) (!zB (row (q + 5))) (!zB (row (q + 6))) (!zB (row (q + 7))) (!zB (row (q + 8))) (!zB (row (q + 9)))
  simp only [Bool.not_not] at this
  exact this
theorem fitE_is (k : Int) (row : Nat → T) (q : Nat) : (band (fvE row q) (nmE k) != 0) = !fitE (namedE k) row q := by
  apply fit_of
  unfold nmE namedE
  repeat' split
  all_goals simp
theorem fitL_is (k : Int) (row : Nat → T) (q : Nat) : (band (fvE row q) (nmL k) != 0) = !fitE (namedL k) row q := by
  apply fit_of
  unfold nmL namedL
  repeat' split
  all_goals simp
theorem zero_tab : ∀ x1 x2 x3 x4 x5 x6 x7 x8 x9 : Bool, (fieldsV x1 x2 x3 x4 x5 x6 x7 x8 x9 == 0) = (!x1 && (!x2 && (!x3 && (!x4 && (!x5 && (!x6 && (!x7 && (!x8 && !x9)))))))) := by
  decide +kernel
theorem zero_of (row : Nat → T) (q : Nat) : (fvE row q == 0) = fitE (fun _ => false) row q := by
  have := zero_tab (!zB (row (q + 1))) (!zB (row (q + 2))) (!zB (row (q + 3))) (!zB (row (q + 4))) (!zB (row (q + 5))) (!zB (row (q + 6))) (!zB (row (q + 7))) (!zB (row (q + 8))) (!zB (row (q + 9)))
  simp only [Bool.not_not] at this
  exact this
theorem ECells.drew {b p : Nat} {W : World} {row : Nat → T} {q : Nat} (h : ECells W b p row q) (n : Nat) : ECells (W.drewN n) b p row q := h
theorem ECells.kind {b p : Nat} {W : World} {row : Nat → T} {q : Nat} (h : ECells W b p row q) : ∃ k : Int, W.cell? ⟨b, p, none⟩ = some (.int .u8 k) ∧ row q = .sc (.int .u8 k) := by
  obtain ⟨k, n, s, a3, n3, c3, a4, n4, c4, a5, n5, c5, e, a7, n7, c7, a8, n8, c8, t, y0, y1, y2, y3, y4, y5, y6, y7, y8, y9, r0, r1, r2, r3, ⟨kk3, rr3, t3⟩, r4, ⟨kk4, rr4, t4⟩, r5, ⟨kk5, rr5, t5⟩, r6, r7, ⟨kk7, rr7, t7⟩, r8, ⟨kk8, rr8, t8⟩, r9⟩ := h
  exact ⟨k, y0, r0⟩
set_option maxRecDepth 100000 in
set_option maxHeartbeats 4000000 in
theorem isZero_any {b p : Nat} {W : World} {row : Nat → T} {q : Nat} (hE : ECells W b p row q) :
    Calls Tryz.prog 117 #[.pointer (some ⟨b, p, none⟩)] W fun e w' => e = .returned (.bool (zeroE row q)) ∧ ∃ m, w' = W.drewN m := by
  obtain ⟨k, y0, r0⟩ := hE.kind
  have HF := Lib.hid (fieldsE_any hE)
  have hz : zeroE row q = (k == 0 && (fvE row q == 0)) := by
    unfold zeroE
    rw [r0, zero_of]
    rfl
  rw [hz]
  clear hE r0 hz
  by_cases hk : k = 0
  · subst hk
    obtain ⟨v, hv⟩ : ∃ v, fvE row q = v := ⟨_, rfl⟩
    rw [hv] at HF ⊢
    obtain ⟨x, hx⟩ : ∃ x, (v == 0) = x := ⟨_, rfl⟩
    rw [hx]
    go_enter Tryz.func117, Tryz.ntmps117
    go_wp2_with (go_at_call 73; refine HF.out.mono ?_; rintro e w1 ⟨rfl, m, rfl⟩)
    go_ret
    exact ⟨rfl, _, rfl⟩
  · have e0 : (k == 0) = false := by simpa using hk
    rw [e0]
    go_enter Tryz.func117, Tryz.ntmps117
    go_wp2
    go_ret
    exact ⟨rfl, 0, rfl⟩
def SCells (W : World) (b p : Nat) (row : Nat → T) : Prop := ∃ (k : Int) (s t : ByteArray) (a4 : Option Addr) (n4 c4 : Nat) (a5 : Option Addr) (n5 c5 : Nat) (a6 : Option Addr) (n6 c6 : Nat) (a7 : Option Addr) (n7 c7 : Nat),
  W.cell? ⟨b, p, none⟩ = some (.int .u8 k) ∧ W.cell? ⟨b, p + 1, none⟩ = some (.string s) ∧ W.cell? ⟨b, p + 2, none⟩ = some (.string t) ∧ ECells W b (p + 3) row 3 ∧ W.cell? ⟨b, p + 13, none⟩ = some (.slice a4 n4 c4) ∧ W.cell? ⟨b, p + 14, none⟩ = some (.slice a5 n5 c5) ∧ W.cell? ⟨b, p + 15, none⟩ = some (.slice a6 n6 c6) ∧ W.cell? ⟨b, p + 16, none⟩ = some (.slice a7 n7 c7) ∧
  row 0 = .sc (.int .u8 k) ∧ row 1 = .sc (.string s) ∧ row 2 = .sc (.string t) ∧ (∃ k r, row 13 = .ls n4 k r) ∧ (∃ k r, row 14 = .ls n5 k r) ∧ (∃ k r, row 15 = .ls n6 k r) ∧ (∃ k r, row 16 = .ls n7 k r)
def stmtV (x1 x2 x3 x4 x5 x6 x7 : Bool) : Int := bor (bor (bor (bor (bor (bor (bitV 1 x1) (bitV 2 x2)) (bitV 4 x3)) (bitV 8 x4)) (bitV 16 x5)) (bitV 32 x6)) (bitV 64 x7)
def fvS (row : Nat → T) : Int := stmtV (!zB (row 1)) (!zB (row 2)) (!zeroE row 3) (!zB (row 13)) (!zB (row 14)) (!zB (row 15)) (!zB (row 16))
theorem drew_add (W : World) (a b : Nat) : (W.drewN a).drewN b = W.drewN (a + b) := by simp [World.drewN, Nat.add_assoc]
set_option maxRecDepth 100000 in
set_option maxHeartbeats 4000000 in
theorem fieldsS_any {b p : Nat} {W : World} {row : Nat → T} (hS : SCells W b p row) :
    Calls Tryz.prog 69 #[.pointer (some ⟨b, p, none⟩)] W fun e w' => e = .returned (.int .u64 (fvS row)) ∧ ∃ m, w' = W.drewN m := by
  obtain ⟨k, s, t, a4, n4, c4, a5, n5, c5, a6, n6, c6, a7, n7, c7, y0, y1, y2, hE, y13, y14, y15, y16, r0, r1, r2, ⟨kk4, rr4, t4⟩, ⟨kk5, rr5, t5⟩, ⟨kk6, rr6, t6⟩, ⟨kk7, rr7, t7⟩⟩ := hS
  obtain ⟨z3, hz3⟩ : ∃ z, zeroE row 3 = z := ⟨_, rfl⟩
  have HZ : Hid (∀ n, Calls Tryz.prog 117 #[.pointer (some ⟨b, p + 3, none⟩)] (W.drewN n) fun e w' => e = .returned (.bool z3) ∧ ∃ m, w' = W.drewN m) := fun n => by rw [← hz3]; exact (isZero_any (hE.drew n)).mono fun e w' ⟨he, m, hm⟩ => ⟨he, n + m, by rw [hm, drew_add]⟩
  have HF : Hid (∀ x1 x2 x4 x5 x6 x7, (!s.toList.isEmpty) = x1 → (!t.toList.isEmpty) = x2 → decide (0 < n4) = x4 → decide (0 < n5) = x5 → decide (0 < n6) = x6 → decide (0 < n7) = x7 → fvS row = stmtV x1 x2 (!z3) x4 x5 x6 x7) := by
    rintro _ _ _ _ _ _ rfl rfl rfl rfl rfl rfl
    unfold fvS
    rw [str_zB r1, str_zB r2, hz3, len_zB t4, len_zB t5, len_zB t6, len_zB t7]
  clear r0 r1 r2 t4 t5 t6 t7 hz3 hE
  obtain ⟨x1, h1⟩ : ∃ x, (!s.toList.isEmpty) = x := ⟨_, rfl⟩
  obtain ⟨x2, h2⟩ : ∃ x, (!t.toList.isEmpty) = x := ⟨_, rfl⟩
  obtain ⟨x4, h4⟩ : ∃ x, decide (0 < n4) = x := ⟨_, rfl⟩
  obtain ⟨x5, h5⟩ : ∃ x, decide (0 < n5) = x := ⟨_, rfl⟩
  obtain ⟨x6, h6⟩ : ∃ x, decide (0 < n6) = x := ⟨_, rfl⟩
  obtain ⟨x7, h7⟩ : ∃ x, decide (0 < n7) = x := ⟨_, rfl⟩
  rw [HF.out _ _ _ _ _ _ h1 h2 h4 h5 h6 h7]
  clear HF
  have HB := Lib.hid bit_any
  go_enter Tryz.func69, Tryz.ntmps69
  go_wp2
  try simp only [List.append_eq, List.cons_append, List.nil_append]
  go_quiet (first
    | (go_at_call 116; exact Calls.quiet_of_same (HB.out _ _ _))
    | (go_at_call 117; exact HZ.out _))
  go_wp2
  go_ret
  exact ⟨rfl, _, rfl⟩
def ACells (W : World) (b p : Nat) (row : Nat → T) : Prop := ∃ (k : Int) (s : ByteArray), W.cell? ⟨b, p, none⟩ = some (.int .u8 k) ∧ W.cell? ⟨b, p + 1, none⟩ = some (.string s) ∧ ECells W b (p + 2) row 2 ∧ row 0 = .sc (.int .u8 k) ∧ row 1 = .sc (.string s)
def fvA (row : Nat → T) : Int := bor (bitV 1 (!zB (row 1))) (bitV 4 (!zeroE row 2))
set_option maxRecDepth 100000 in
set_option maxHeartbeats 4000000 in
theorem fieldsA_any {b p : Nat} {W : World} {row : Nat → T} (hS : ACells W b p row) :
    Calls Tryz.prog 168 #[.pointer (some ⟨b, p, none⟩)] W fun e w' => e = .returned (.int .u64 (fvA row)) ∧ ∃ m, w' = W.drewN m := by
  obtain ⟨k, s, y0, y1, hE, r0, r1⟩ := hS
  obtain ⟨z3, hz3⟩ : ∃ z, zeroE row 2 = z := ⟨_, rfl⟩
  have HZ : Hid (∀ n, Calls Tryz.prog 117 #[.pointer (some ⟨b, p + 2, none⟩)] (W.drewN n) fun e w' => e = .returned (.bool z3) ∧ ∃ m, w' = W.drewN m) := fun n => by rw [← hz3]; exact (isZero_any (hE.drew n)).mono fun e w' ⟨he, m, hm⟩ => ⟨he, n + m, by rw [hm, drew_add]⟩
  have HF : Hid (∀ x1, (!s.toList.isEmpty) = x1 → fvA row = bor (bitV 1 x1) (bitV 4 (!z3))) := by
    rintro _ rfl
    unfold fvA
    rw [str_zB r1, hz3]
  clear r0 r1 hz3 hE
  obtain ⟨x1, h1⟩ : ∃ x, (!s.toList.isEmpty) = x := ⟨_, rfl⟩
  rw [HF.out _ h1]
  clear HF
  have HB := Lib.hid bit_any
  go_enter Tryz.func168, Tryz.ntmps168
  go_wp2
  try simp only [List.append_eq, List.cons_append, List.nil_append]
  go_quiet (first
    | (go_at_call 116; exact Calls.quiet_of_same (HB.out _ _ _))
    | (go_at_call 117; exact HZ.out _))
  go_wp2
  go_ret
  exact ⟨rfl, _, rfl⟩
theorem stmt_tab : ∀ k ∈ [(5, 1), (5, 2), (13, 3), (3, 4), (56, 5), (56, 6), (68, 7), (0, 0)], ∀ x1 x2 x3 x4 x5 x6 x7 : Bool, (band (stmtV x1 x2 x3 x4 x5 x6 x7) k.1 != 0) = !((namedS k.2 1 || !x1) && ((namedS k.2 2 || !x2) && ((namedS k.2 3 || !x3) && ((namedS k.2 4 || !x4) && ((namedS k.2 5 || !x5) && ((namedS k.2 6 || !x6) && (namedS k.2 7 || !x7))))))) := by
  decide +kernel
theorem fitS_is (row : Nat → T) : (band (fvS row) (nmS (num (row 0))) != 0) = !fitS row := by
  obtain ⟨k, hk⟩ : ∃ k, num (row 0) = k := ⟨_, rfl⟩
  unfold fitS fvS
  rw [hk]
  have key : ∀ m j, (m, j) ∈ [((5 : Int), (1 : Int)), (5, 2), (13, 3), (3, 4), (56, 5), (56, 6), (68, 7), (0, 0)] → nmS k = m → (∀ i, namedS k i = namedS j i) → (band (stmtV (!zB (row 1)) (!zB (row 2)) (!zeroE row 3) (!zB (row 13)) (!zB (row 14)) (!zB (row 15)) (!zB (row 16))) (nmS k) != 0) = !((namedS k 1 || zB (row 1)) && ((namedS k 2 || zB (row 2)) && ((namedS k 3 || zeroE row 3) && ((namedS k 4 || zB (row 13)) && ((namedS k 5 || zB (row 14)) && ((namedS k 6 || zB (row 15)) && (namedS k 7 || zB (row 16)))))))) := by
    intro m j hm h1 h2
    have := stmt_tab _ hm (!zB (row 1)) (!zB (row 2)) (!zeroE row 3) (!zB (row 13)) (!zB (row 14)) (!zB (row 15)) (!zB (row 16))
    simp only [Bool.not_not] at this
    rw [h1, this]
    simp only [h2]
  by_cases h1 : k = 1
  · exact key 5 1 (by simp) (by rw [h1]; rfl) (fun i => by rw [h1])
  by_cases h2 : k = 2
  · exact key 5 2 (by simp) (by rw [h2]; rfl) (fun i => by rw [h2])
  by_cases h3 : k = 3
  · exact key 13 3 (by simp) (by rw [h3]; rfl) (fun i => by rw [h3])
  by_cases h4 : k = 4
  · exact key 3 4 (by simp) (by rw [h4]; rfl) (fun i => by rw [h4])
  by_cases h5 : k = 5
  · exact key 56 5 (by simp) (by rw [h5]; rfl) (fun i => by rw [h5])
  by_cases h6 : k = 6
  · exact key 56 6 (by simp) (by rw [h6]; rfl) (fun i => by rw [h6])
  by_cases h7 : k = 7
  · exact key 68 7 (by simp) (by rw [h7]; rfl) (fun i => by rw [h7])
  · exact key 0 0 (by simp) (by simp [nmS, h1, h2, h3, h4, h5, h6, h7]) (fun i => by simp [namedS, h1, h2, h3, h4, h5, h6, h7])
theorem act_tab : ∀ x1 x2 : Bool, (band (bor (bitV 1 x1) (bitV 4 x2)) 5 != 0) = false ∧ (band (bor (bitV 1 x1) (bitV 4 x2)) 4 != 0) = x1 ∧ (band (bor (bitV 1 x1) (bitV 4 x2)) 0 != 0) = (x1 || x2) := by
  decide +kernel
theorem fitA_is (row : Nat → T) : (band (fvA row) (nmA (num (row 0))) != 0) = !fitA row := by
  obtain ⟨k, hk⟩ : ∃ k, num (row 0) = k := ⟨_, rfl⟩
  obtain ⟨a1, a2, a3⟩ := act_tab (!zB (row 1)) (!zeroE row 2)
  unfold fitA fvA nmA
  rw [hk]
  by_cases h1 : k = 1
  · rw [if_pos h1, if_pos h1, a1]; rfl
  · rw [if_neg h1, if_neg h1]
    by_cases h2 : k = 2 ∨ k = 3
    · rw [if_pos h2, if_pos h2, a2]
    · rw [if_neg h2, if_neg h2, a3, Bool.not_and]
end Go.Proofs.YtedmmgfnplbkjaaGreatDoor.PR
