/-
  Walks: SameProgram and what it calls, on one tree that lies twice: true ('same_program'); what Parse answers, by its words ('parse_some', 'parse_what').
  Conditions: both lie in old memory, as the tree tells.
-/
import Derived.Test.YtedmmgfnplbkjaaGreatDoorParRo
namespace Go.Proofs.YtedmmgfnplbkjaaGreatDoor
set_option linter.unusedVariables false
set_option linter.unusedSimpArgs false
open Go.RowKit G
theorem twoE {row : Nat → T} {o : Nat} {w : World} {ok : Nat → Prop} {vs us : List Value} (hw : WE row o) (h : Row w ok (cellsE row o) vs) (k : Row w ok (cellsE row o) us) :
    ∃ (c0 : Int) (c1 : Int) (c2 : ByteArray) (a3 : Option Addr) (n3 p3 : Nat) (b3 : Option Addr) (m3 q3 : Nat) (a4 : Option Addr) (n4 p4 : Nat) (b4 : Option Addr) (m4 q4 : Nat) (a5 : Option Addr) (n5 p5 : Nat) (b5 : Option Addr) (m5 q5 : Nat) (c6 : Int) (a7 : Option Addr) (n7 p7 : Nat) (b7 : Option Addr) (m7 q7 : Nat) (a8 : Option Addr) (n8 p8 : Nat) (b8 : Option Addr) (m8 q8 : Nat) (c9 : ByteArray), vs = [.int .u8 c0, .int .i64 c1, .string c2, .slice a3 n3 p3, .slice a4 n4 p4, .slice a5 n5 p5, .int .u8 c6, .slice a7 n7 p7, .slice a8 n8 p8, .string c9] ∧ us = [.int .u8 c0, .int .i64 c1, .string c2, .slice b3 m3 q3, .slice b4 m4 q4, .slice b5 m5 q5, .int .u8 c6, .slice b7 m7 q7, .slice b8 m8 q8, .string c9] ∧ (row (o + 3)).Rep w ok (.slice a3 n3 p3) ∧ (row (o + 3)).Rep w ok (.slice b3 m3 q3) ∧ (row (o + 4)).Rep w ok (.slice a4 n4 p4) ∧ (row (o + 4)).Rep w ok (.slice b4 m4 q4) ∧ (row (o + 5)).Rep w ok (.slice a5 n5 p5) ∧ (row (o + 5)).Rep w ok (.slice b5 m5 q5) ∧ (row (o + 7)).Rep w ok (.slice a7 n7 p7) ∧ (row (o + 7)).Rep w ok (.slice b7 m7 q7) ∧ (row (o + 8)).Rep w ok (.slice a8 n8 p8) ∧ (row (o + 8)).Rep w ok (.slice b8 m8 q8) := by
  obtain ⟨h0, h1, h2, h3, h4, h5, h6, h7, h8, h9⟩ := hw
  obtain ⟨y0, _, rfl, g0, h⟩ := row_inv h
  obtain ⟨z0, _, rfl, k0, k⟩ := row_inv k
  obtain ⟨y1, _, rfl, g1, h⟩ := row_inv h
  obtain ⟨z1, _, rfl, k1, k⟩ := row_inv k
  obtain ⟨y2, _, rfl, g2, h⟩ := row_inv h
  obtain ⟨z2, _, rfl, k2, k⟩ := row_inv k
  obtain ⟨y3, _, rfl, g3, h⟩ := row_inv h
  obtain ⟨z3, _, rfl, k3, k⟩ := row_inv k
  obtain ⟨y4, _, rfl, g4, h⟩ := row_inv h
  obtain ⟨z4, _, rfl, k4, k⟩ := row_inv k
  obtain ⟨y5, _, rfl, g5, h⟩ := row_inv h
  obtain ⟨z5, _, rfl, k5, k⟩ := row_inv k
  obtain ⟨y6, _, rfl, g6, h⟩ := row_inv h
  obtain ⟨z6, _, rfl, k6, k⟩ := row_inv k
  obtain ⟨y7, _, rfl, g7, h⟩ := row_inv h
  obtain ⟨z7, _, rfl, k7, k⟩ := row_inv k
  obtain ⟨y8, _, rfl, g8, h⟩ := row_inv h
  obtain ⟨z8, _, rfl, k8, k⟩ := row_inv k
  obtain ⟨y9, _, rfl, g9, h⟩ := row_inv h
  obtain ⟨z9, _, rfl, k9, k⟩ := row_inv k
  cases h
  cases k
  obtain ⟨c0, rfl, e0⟩ := i8_rep h0 g0
  have hz0 := k0
  rw [e0] at hz0
  obtain rfl : z0 = _ := hz0
  obtain ⟨c1, rfl, e1⟩ := i64_rep h1 g1
  have hz1 := k1
  rw [e1] at hz1
  obtain rfl : z1 = _ := hz1
  obtain ⟨c2, rfl, e2⟩ := st_rep h2 g2
  have hz2 := k2
  rw [e2] at hz2
  obtain rfl : z2 = _ := hz2
  obtain ⟨a3, n3, p3, rfl⟩ := wf_rep h3 g3
  obtain ⟨b3, m3, q3, rfl⟩ := wf_rep h3 k3
  obtain ⟨a4, n4, p4, rfl⟩ := wf_rep h4 g4
  obtain ⟨b4, m4, q4, rfl⟩ := wf_rep h4 k4
  obtain ⟨a5, n5, p5, rfl⟩ := wf_rep h5 g5
  obtain ⟨b5, m5, q5, rfl⟩ := wf_rep h5 k5
  obtain ⟨c6, rfl, e6⟩ := i8_rep h6 g6
  have hz6 := k6
  rw [e6] at hz6
  obtain rfl : z6 = _ := hz6
  obtain ⟨a7, n7, p7, rfl⟩ := wf_rep h7 g7
  obtain ⟨b7, m7, q7, rfl⟩ := wf_rep h7 k7
  obtain ⟨a8, n8, p8, rfl⟩ := wf_rep h8 g8
  obtain ⟨b8, m8, q8, rfl⟩ := wf_rep h8 k8
  obtain ⟨c9, rfl, e9⟩ := st_rep h9 g9
  have hz9 := k9
  rw [e9] at hz9
  obtain rfl : z9 = _ := hz9
  exact ⟨c0, c1, c2, a3, n3, p3, b3, m3, q3, a4, n4, p4, b4, m4, q4, a5, n5, p5, b5, m5, q5, c6, a7, n7, p7, b7, m7, q7, a8, n8, p8, b8, m8, q8, c9, rfl, rfl, g3, k3, g4, k4, g5, k5, g7, k7, g8, k8⟩
theorem twoA {row : Nat → T} {w : World} {ok : Nat → Prop} {vs us : List Value} (hw : WA row) (h : Row w ok (cellsA row) vs) (k : Row w ok (cellsA row) us) :
    ∃ (c0 : Int) (c1 : ByteArray) (c2 : Int) (c3 : Int) (c4 : ByteArray) (a5 : Option Addr) (n5 p5 : Nat) (b5 : Option Addr) (m5 q5 : Nat) (a6 : Option Addr) (n6 p6 : Nat) (b6 : Option Addr) (m6 q6 : Nat) (a7 : Option Addr) (n7 p7 : Nat) (b7 : Option Addr) (m7 q7 : Nat) (c8 : Int) (a9 : Option Addr) (n9 p9 : Nat) (b9 : Option Addr) (m9 q9 : Nat) (a10 : Option Addr) (n10 p10 : Nat) (b10 : Option Addr) (m10 q10 : Nat) (c11 : ByteArray), vs = [.int .u8 c0, .string c1, .int .u8 c2, .int .i64 c3, .string c4, .slice a5 n5 p5, .slice a6 n6 p6, .slice a7 n7 p7, .int .u8 c8, .slice a9 n9 p9, .slice a10 n10 p10, .string c11] ∧ us = [.int .u8 c0, .string c1, .int .u8 c2, .int .i64 c3, .string c4, .slice b5 m5 q5, .slice b6 m6 q6, .slice b7 m7 q7, .int .u8 c8, .slice b9 m9 q9, .slice b10 m10 q10, .string c11] ∧ Row w ok (cellsE row 2) [.int .u8 c2, .int .i64 c3, .string c4, .slice a5 n5 p5, .slice a6 n6 p6, .slice a7 n7 p7, .int .u8 c8, .slice a9 n9 p9, .slice a10 n10 p10, .string c11] ∧ Row w ok (cellsE row 2) [.int .u8 c2, .int .i64 c3, .string c4, .slice b5 m5 q5, .slice b6 m6 q6, .slice b7 m7 q7, .int .u8 c8, .slice b9 m9 q9, .slice b10 m10 q10, .string c11] := by
  obtain ⟨h0, h1, h2, h3, h4, h5, h6, h7, h8, h9, h10, h11⟩ := hw
  obtain ⟨y0, _, rfl, g0, h⟩ := row_inv h
  obtain ⟨z0, _, rfl, k0, k⟩ := row_inv k
  obtain ⟨y1, _, rfl, g1, h⟩ := row_inv h
  obtain ⟨z1, _, rfl, k1, k⟩ := row_inv k
  obtain ⟨y2, _, rfl, g2, h⟩ := row_inv h
  obtain ⟨z2, _, rfl, k2, k⟩ := row_inv k
  obtain ⟨y3, _, rfl, g3, h⟩ := row_inv h
  obtain ⟨z3, _, rfl, k3, k⟩ := row_inv k
  obtain ⟨y4, _, rfl, g4, h⟩ := row_inv h
  obtain ⟨z4, _, rfl, k4, k⟩ := row_inv k
  obtain ⟨y5, _, rfl, g5, h⟩ := row_inv h
  obtain ⟨z5, _, rfl, k5, k⟩ := row_inv k
  obtain ⟨y6, _, rfl, g6, h⟩ := row_inv h
  obtain ⟨z6, _, rfl, k6, k⟩ := row_inv k
  obtain ⟨y7, _, rfl, g7, h⟩ := row_inv h
  obtain ⟨z7, _, rfl, k7, k⟩ := row_inv k
  obtain ⟨y8, _, rfl, g8, h⟩ := row_inv h
  obtain ⟨z8, _, rfl, k8, k⟩ := row_inv k
  obtain ⟨y9, _, rfl, g9, h⟩ := row_inv h
  obtain ⟨z9, _, rfl, k9, k⟩ := row_inv k
  obtain ⟨y10, _, rfl, g10, h⟩ := row_inv h
  obtain ⟨z10, _, rfl, k10, k⟩ := row_inv k
  obtain ⟨y11, _, rfl, g11, h⟩ := row_inv h
  obtain ⟨z11, _, rfl, k11, k⟩ := row_inv k
  cases h
  cases k
  obtain ⟨c0, rfl, e0⟩ := i8_rep h0 g0
  have hz0 := k0
  rw [e0] at hz0
  obtain rfl : z0 = _ := hz0
  obtain ⟨c1, rfl, e1⟩ := st_rep h1 g1
  have hz1 := k1
  rw [e1] at hz1
  obtain rfl : z1 = _ := hz1
  obtain ⟨c2, rfl, e2⟩ := i8_rep h2 g2
  have hz2 := k2
  rw [e2] at hz2
  obtain rfl : z2 = _ := hz2
  obtain ⟨c3, rfl, e3⟩ := i64_rep h3 g3
  have hz3 := k3
  rw [e3] at hz3
  obtain rfl : z3 = _ := hz3
  obtain ⟨c4, rfl, e4⟩ := st_rep h4 g4
  have hz4 := k4
  rw [e4] at hz4
  obtain rfl : z4 = _ := hz4
  obtain ⟨a5, n5, p5, rfl⟩ := wf_rep h5 g5
  obtain ⟨b5, m5, q5, rfl⟩ := wf_rep h5 k5
  obtain ⟨a6, n6, p6, rfl⟩ := wf_rep h6 g6
  obtain ⟨b6, m6, q6, rfl⟩ := wf_rep h6 k6
  obtain ⟨a7, n7, p7, rfl⟩ := wf_rep h7 g7
  obtain ⟨b7, m7, q7, rfl⟩ := wf_rep h7 k7
  obtain ⟨c8, rfl, e8⟩ := i8_rep h8 g8
  have hz8 := k8
  rw [e8] at hz8
  obtain rfl : z8 = _ := hz8
  obtain ⟨a9, n9, p9, rfl⟩ := wf_rep h9 g9
  obtain ⟨b9, m9, q9, rfl⟩ := wf_rep h9 k9
  obtain ⟨a10, n10, p10, rfl⟩ := wf_rep h10 g10
  obtain ⟨b10, m10, q10, rfl⟩ := wf_rep h10 k10
  obtain ⟨c11, rfl, e11⟩ := st_rep h11 g11
  have hz11 := k11
  rw [e11] at hz11
  obtain rfl : z11 = _ := hz11
  exact ⟨c0, c1, c2, c3, c4, a5, n5, p5, b5, m5, q5, a6, n6, p6, b6, m6, q6, a7, n7, p7, b7, m7, q7, c8, a9, n9, p9, b9, m9, q9, a10, n10, p10, b10, m10, q10, c11, rfl, rfl, .cons g2 (.cons g3 (.cons g4 (.cons g5 (.cons g6 (.cons g7 (.cons g8 (.cons g9 (.cons g10 (.cons g11 .nil))))))))), .cons k2 (.cons k3 (.cons k4 (.cons k5 (.cons k6 (.cons k7 (.cons k8 (.cons k9 (.cons k10 (.cons k11 .nil)))))))))⟩
theorem twoS {row : Nat → T} {w : World} {ok : Nat → Prop} {vs us : List Value} (hw : WS row) (h : Row w ok (cellsS row) vs) (k : Row w ok (cellsS row) us) :
    ∃ (c0 : Int) (c1 : ByteArray) (c2 : ByteArray) (c3 : Int) (c4 : Int) (c5 : ByteArray) (a6 : Option Addr) (n6 p6 : Nat) (b6 : Option Addr) (m6 q6 : Nat) (a7 : Option Addr) (n7 p7 : Nat) (b7 : Option Addr) (m7 q7 : Nat) (a8 : Option Addr) (n8 p8 : Nat) (b8 : Option Addr) (m8 q8 : Nat) (c9 : Int) (a10 : Option Addr) (n10 p10 : Nat) (b10 : Option Addr) (m10 q10 : Nat) (a11 : Option Addr) (n11 p11 : Nat) (b11 : Option Addr) (m11 q11 : Nat) (c12 : ByteArray) (a13 : Option Addr) (n13 p13 : Nat) (b13 : Option Addr) (m13 q13 : Nat) (a14 : Option Addr) (n14 p14 : Nat) (b14 : Option Addr) (m14 q14 : Nat) (a15 : Option Addr) (n15 p15 : Nat) (b15 : Option Addr) (m15 q15 : Nat) (a16 : Option Addr) (n16 p16 : Nat) (b16 : Option Addr) (m16 q16 : Nat), vs = [.int .u8 c0, .string c1, .string c2, .int .u8 c3, .int .i64 c4, .string c5, .slice a6 n6 p6, .slice a7 n7 p7, .slice a8 n8 p8, .int .u8 c9, .slice a10 n10 p10, .slice a11 n11 p11, .string c12, .slice a13 n13 p13, .slice a14 n14 p14, .slice a15 n15 p15, .slice a16 n16 p16] ∧ us = [.int .u8 c0, .string c1, .string c2, .int .u8 c3, .int .i64 c4, .string c5, .slice b6 m6 q6, .slice b7 m7 q7, .slice b8 m8 q8, .int .u8 c9, .slice b10 m10 q10, .slice b11 m11 q11, .string c12, .slice b13 m13 q13, .slice b14 m14 q14, .slice b15 m15 q15, .slice b16 m16 q16] ∧ Row w ok (cellsE row 3) [.int .u8 c3, .int .i64 c4, .string c5, .slice a6 n6 p6, .slice a7 n7 p7, .slice a8 n8 p8, .int .u8 c9, .slice a10 n10 p10, .slice a11 n11 p11, .string c12] ∧ Row w ok (cellsE row 3) [.int .u8 c3, .int .i64 c4, .string c5, .slice b6 m6 q6, .slice b7 m7 q7, .slice b8 m8 q8, .int .u8 c9, .slice b10 m10 q10, .slice b11 m11 q11, .string c12] ∧ (row 13).Rep w ok (.slice a13 n13 p13) ∧ (row 13).Rep w ok (.slice b13 m13 q13) ∧ (row 14).Rep w ok (.slice a14 n14 p14) ∧ (row 14).Rep w ok (.slice b14 m14 q14) ∧ (row 15).Rep w ok (.slice a15 n15 p15) ∧ (row 15).Rep w ok (.slice b15 m15 q15) ∧ (row 16).Rep w ok (.slice a16 n16 p16) ∧ (row 16).Rep w ok (.slice b16 m16 q16) := by
  obtain ⟨h0, h1, h2, ⟨h3, h4, h5, h6, h7, h8, h9, h10, h11, h12⟩, h13, h14, h15, h16⟩ := hw
  obtain ⟨y0, _, rfl, g0, h⟩ := row_inv h
  obtain ⟨z0, _, rfl, k0, k⟩ := row_inv k
  obtain ⟨y1, _, rfl, g1, h⟩ := row_inv h
  obtain ⟨z1, _, rfl, k1, k⟩ := row_inv k
  obtain ⟨y2, _, rfl, g2, h⟩ := row_inv h
  obtain ⟨z2, _, rfl, k2, k⟩ := row_inv k
  obtain ⟨y3, _, rfl, g3, h⟩ := row_inv h
  obtain ⟨z3, _, rfl, k3, k⟩ := row_inv k
  obtain ⟨y4, _, rfl, g4, h⟩ := row_inv h
  obtain ⟨z4, _, rfl, k4, k⟩ := row_inv k
  obtain ⟨y5, _, rfl, g5, h⟩ := row_inv h
  obtain ⟨z5, _, rfl, k5, k⟩ := row_inv k
  obtain ⟨y6, _, rfl, g6, h⟩ := row_inv h
  obtain ⟨z6, _, rfl, k6, k⟩ := row_inv k
  obtain ⟨y7, _, rfl, g7, h⟩ := row_inv h
  obtain ⟨z7, _, rfl, k7, k⟩ := row_inv k
  obtain ⟨y8, _, rfl, g8, h⟩ := row_inv h
  obtain ⟨z8, _, rfl, k8, k⟩ := row_inv k
  obtain ⟨y9, _, rfl, g9, h⟩ := row_inv h
  obtain ⟨z9, _, rfl, k9, k⟩ := row_inv k
  obtain ⟨y10, _, rfl, g10, h⟩ := row_inv h
  obtain ⟨z10, _, rfl, k10, k⟩ := row_inv k
  obtain ⟨y11, _, rfl, g11, h⟩ := row_inv h
  obtain ⟨z11, _, rfl, k11, k⟩ := row_inv k
  obtain ⟨y12, _, rfl, g12, h⟩ := row_inv h
  obtain ⟨z12, _, rfl, k12, k⟩ := row_inv k
  obtain ⟨y13, _, rfl, g13, h⟩ := row_inv h
  obtain ⟨z13, _, rfl, k13, k⟩ := row_inv k
  obtain ⟨y14, _, rfl, g14, h⟩ := row_inv h
  obtain ⟨z14, _, rfl, k14, k⟩ := row_inv k
  obtain ⟨y15, _, rfl, g15, h⟩ := row_inv h
  obtain ⟨z15, _, rfl, k15, k⟩ := row_inv k
  obtain ⟨y16, _, rfl, g16, h⟩ := row_inv h
  obtain ⟨z16, _, rfl, k16, k⟩ := row_inv k
  cases h
  cases k
  obtain ⟨c0, rfl, e0⟩ := i8_rep h0 g0
  have hz0 := k0
  rw [e0] at hz0
  obtain rfl : z0 = _ := hz0
  obtain ⟨c1, rfl, e1⟩ := st_rep h1 g1
  have hz1 := k1
  rw [e1] at hz1
  obtain rfl : z1 = _ := hz1
  obtain ⟨c2, rfl, e2⟩ := st_rep h2 g2
  have hz2 := k2
  rw [e2] at hz2
  obtain rfl : z2 = _ := hz2
  obtain ⟨c3, rfl, e3⟩ := i8_rep h3 g3
  have hz3 := k3
  rw [e3] at hz3
  obtain rfl : z3 = _ := hz3
  obtain ⟨c4, rfl, e4⟩ := i64_rep h4 g4
  have hz4 := k4
  rw [e4] at hz4
  obtain rfl : z4 = _ := hz4
  obtain ⟨c5, rfl, e5⟩ := st_rep h5 g5
  have hz5 := k5
  rw [e5] at hz5
  obtain rfl : z5 = _ := hz5
  obtain ⟨a6, n6, p6, rfl⟩ := wf_rep h6 g6
  obtain ⟨b6, m6, q6, rfl⟩ := wf_rep h6 k6
  obtain ⟨a7, n7, p7, rfl⟩ := wf_rep h7 g7
  obtain ⟨b7, m7, q7, rfl⟩ := wf_rep h7 k7
  obtain ⟨a8, n8, p8, rfl⟩ := wf_rep h8 g8
  obtain ⟨b8, m8, q8, rfl⟩ := wf_rep h8 k8
  obtain ⟨c9, rfl, e9⟩ := i8_rep h9 g9
  have hz9 := k9
  rw [e9] at hz9
  obtain rfl : z9 = _ := hz9
  obtain ⟨a10, n10, p10, rfl⟩ := wf_rep h10 g10
  obtain ⟨b10, m10, q10, rfl⟩ := wf_rep h10 k10
  obtain ⟨a11, n11, p11, rfl⟩ := wf_rep h11 g11
  obtain ⟨b11, m11, q11, rfl⟩ := wf_rep h11 k11
  obtain ⟨c12, rfl, e12⟩ := st_rep h12 g12
  have hz12 := k12
  rw [e12] at hz12
  obtain rfl : z12 = _ := hz12
  obtain ⟨a13, n13, p13, rfl⟩ := wf_rep h13 g13
  obtain ⟨b13, m13, q13, rfl⟩ := wf_rep h13 k13
  obtain ⟨a14, n14, p14, rfl⟩ := wf_rep h14 g14
  obtain ⟨b14, m14, q14, rfl⟩ := wf_rep h14 k14
  obtain ⟨a15, n15, p15, rfl⟩ := wf_rep h15 g15
  obtain ⟨b15, m15, q15, rfl⟩ := wf_rep h15 k15
  obtain ⟨a16, n16, p16, rfl⟩ := wf_rep h16 g16
  obtain ⟨b16, m16, q16, rfl⟩ := wf_rep h16 k16
  exact ⟨c0, c1, c2, c3, c4, c5, a6, n6, p6, b6, m6, q6, a7, n7, p7, b7, m7, q7, a8, n8, p8, b8, m8, q8, c9, a10, n10, p10, b10, m10, q10, a11, n11, p11, b11, m11, q11, c12, a13, n13, p13, b13, m13, q13, a14, n14, p14, b14, m14, q14, a15, n15, p15, b15, m15, q15, a16, n16, p16, b16, m16, q16, rfl, rfl, .cons g3 (.cons g4 (.cons g5 (.cons g6 (.cons g7 (.cons g8 (.cons g9 (.cons g10 (.cons g11 (.cons g12 .nil))))))))), .cons k3 (.cons k4 (.cons k5 (.cons k6 (.cons k7 (.cons k8 (.cons k9 (.cons k10 (.cons k11 (.cons k12 .nil))))))))), g13, k13, g14, k14, g15, k15, g16, k16⟩
theorem twoC {row : Nat → T} {w : World} {ok : Nat → Prop} {vs us : List Value} (hw : WC row) (h : Row w ok (cellsC row) vs) (k : Row w ok (cellsC row) us) :
    ∃ (c0 : ByteArray) (c1 : ByteArray) (a2 : Option Addr) (n2 p2 : Nat) (b2 : Option Addr) (m2 q2 : Nat) (c3 : Int) (c4 : Int) (c5 : ByteArray) (a6 : Option Addr) (n6 p6 : Nat) (b6 : Option Addr) (m6 q6 : Nat) (a7 : Option Addr) (n7 p7 : Nat) (b7 : Option Addr) (m7 q7 : Nat) (a8 : Option Addr) (n8 p8 : Nat) (b8 : Option Addr) (m8 q8 : Nat) (c9 : Int) (a10 : Option Addr) (n10 p10 : Nat) (b10 : Option Addr) (m10 q10 : Nat) (a11 : Option Addr) (n11 p11 : Nat) (b11 : Option Addr) (m11 q11 : Nat) (c12 : ByteArray), vs = [.string c0, .string c1, .slice a2 n2 p2, .int .u8 c3, .int .i64 c4, .string c5, .slice a6 n6 p6, .slice a7 n7 p7, .slice a8 n8 p8, .int .u8 c9, .slice a10 n10 p10, .slice a11 n11 p11, .string c12] ∧ us = [.string c0, .string c1, .slice b2 m2 q2, .int .u8 c3, .int .i64 c4, .string c5, .slice b6 m6 q6, .slice b7 m7 q7, .slice b8 m8 q8, .int .u8 c9, .slice b10 m10 q10, .slice b11 m11 q11, .string c12] ∧ Row w ok (cellsE row 3) [.int .u8 c3, .int .i64 c4, .string c5, .slice a6 n6 p6, .slice a7 n7 p7, .slice a8 n8 p8, .int .u8 c9, .slice a10 n10 p10, .slice a11 n11 p11, .string c12] ∧ Row w ok (cellsE row 3) [.int .u8 c3, .int .i64 c4, .string c5, .slice b6 m6 q6, .slice b7 m7 q7, .slice b8 m8 q8, .int .u8 c9, .slice b10 m10 q10, .slice b11 m11 q11, .string c12] ∧ (row 2).Rep w ok (.slice a2 n2 p2) ∧ (row 2).Rep w ok (.slice b2 m2 q2) := by
  obtain ⟨h0, h1, h2, h3, h4, h5, h6, h7, h8, h9, h10, h11, h12⟩ := hw
  obtain ⟨y0, _, rfl, g0, h⟩ := row_inv h
  obtain ⟨z0, _, rfl, k0, k⟩ := row_inv k
  obtain ⟨y1, _, rfl, g1, h⟩ := row_inv h
  obtain ⟨z1, _, rfl, k1, k⟩ := row_inv k
  obtain ⟨y2, _, rfl, g2, h⟩ := row_inv h
  obtain ⟨z2, _, rfl, k2, k⟩ := row_inv k
  obtain ⟨y3, _, rfl, g3, h⟩ := row_inv h
  obtain ⟨z3, _, rfl, k3, k⟩ := row_inv k
  obtain ⟨y4, _, rfl, g4, h⟩ := row_inv h
  obtain ⟨z4, _, rfl, k4, k⟩ := row_inv k
  obtain ⟨y5, _, rfl, g5, h⟩ := row_inv h
  obtain ⟨z5, _, rfl, k5, k⟩ := row_inv k
  obtain ⟨y6, _, rfl, g6, h⟩ := row_inv h
  obtain ⟨z6, _, rfl, k6, k⟩ := row_inv k
  obtain ⟨y7, _, rfl, g7, h⟩ := row_inv h
  obtain ⟨z7, _, rfl, k7, k⟩ := row_inv k
  obtain ⟨y8, _, rfl, g8, h⟩ := row_inv h
  obtain ⟨z8, _, rfl, k8, k⟩ := row_inv k
  obtain ⟨y9, _, rfl, g9, h⟩ := row_inv h
  obtain ⟨z9, _, rfl, k9, k⟩ := row_inv k
  obtain ⟨y10, _, rfl, g10, h⟩ := row_inv h
  obtain ⟨z10, _, rfl, k10, k⟩ := row_inv k
  obtain ⟨y11, _, rfl, g11, h⟩ := row_inv h
  obtain ⟨z11, _, rfl, k11, k⟩ := row_inv k
  obtain ⟨y12, _, rfl, g12, h⟩ := row_inv h
  obtain ⟨z12, _, rfl, k12, k⟩ := row_inv k
  cases h
  cases k
  obtain ⟨c0, rfl, e0⟩ := st_rep h0 g0
  have hz0 := k0
  rw [e0] at hz0
  obtain rfl : z0 = _ := hz0
  obtain ⟨c1, rfl, e1⟩ := st_rep h1 g1
  have hz1 := k1
  rw [e1] at hz1
  obtain rfl : z1 = _ := hz1
  obtain ⟨a2, n2, p2, rfl⟩ := wf_rep h2 g2
  obtain ⟨b2, m2, q2, rfl⟩ := wf_rep h2 k2
  obtain ⟨c3, rfl, e3⟩ := i8_rep h3 g3
  have hz3 := k3
  rw [e3] at hz3
  obtain rfl : z3 = _ := hz3
  obtain ⟨c4, rfl, e4⟩ := i64_rep h4 g4
  have hz4 := k4
  rw [e4] at hz4
  obtain rfl : z4 = _ := hz4
  obtain ⟨c5, rfl, e5⟩ := st_rep h5 g5
  have hz5 := k5
  rw [e5] at hz5
  obtain rfl : z5 = _ := hz5
  obtain ⟨a6, n6, p6, rfl⟩ := wf_rep h6 g6
  obtain ⟨b6, m6, q6, rfl⟩ := wf_rep h6 k6
  obtain ⟨a7, n7, p7, rfl⟩ := wf_rep h7 g7
  obtain ⟨b7, m7, q7, rfl⟩ := wf_rep h7 k7
  obtain ⟨a8, n8, p8, rfl⟩ := wf_rep h8 g8
  obtain ⟨b8, m8, q8, rfl⟩ := wf_rep h8 k8
  obtain ⟨c9, rfl, e9⟩ := i8_rep h9 g9
  have hz9 := k9
  rw [e9] at hz9
  obtain rfl : z9 = _ := hz9
  obtain ⟨a10, n10, p10, rfl⟩ := wf_rep h10 g10
  obtain ⟨b10, m10, q10, rfl⟩ := wf_rep h10 k10
  obtain ⟨a11, n11, p11, rfl⟩ := wf_rep h11 g11
  obtain ⟨b11, m11, q11, rfl⟩ := wf_rep h11 k11
  obtain ⟨c12, rfl, e12⟩ := st_rep h12 g12
  have hz12 := k12
  rw [e12] at hz12
  obtain rfl : z12 = _ := hz12
  exact ⟨c0, c1, a2, n2, p2, b2, m2, q2, c3, c4, c5, a6, n6, p6, b6, m6, q6, a7, n7, p7, b7, m7, q7, a8, n8, p8, b8, m8, q8, c9, a10, n10, p10, b10, m10, q10, a11, n11, p11, b11, m11, q11, c12, rfl, rfl, .cons g3 (.cons g4 (.cons g5 (.cons g6 (.cons g7 (.cons g8 (.cons g9 (.cons g10 (.cons g11 (.cons g12 .nil))))))))), .cons k3 (.cons k4 (.cons k5 (.cons k6 (.cons k7 (.cons k8 (.cons k9 (.cons k10 (.cons k11 (.cons k12 .nil))))))))), g2, k2⟩
def SE (w0 : World) (row : Nat → T) (o : Nat) : Prop := ∀ (W : World) (vs us : List Value), Below w0.heap.size w0 W → Row w0 (fun _ => True) (cellsE row o) vs → Row w0 (fun _ => True) (cellsE row o) us →
  Calls Tryz.prog 82 #[.agg vs.toArray, .agg us.toArray] W fun e W' => e = .returned (.bool true) ∧ Below W.heap.size W W'
def SA (w0 : World) (row : Nat → T) : Prop := ∀ (W : World) (vs us : List Value), Below w0.heap.size w0 W → Row w0 (fun _ => True) (cellsA row) vs → Row w0 (fun _ => True) (cellsA row) us →
  Calls Tryz.prog 177 #[.agg vs.toArray, .agg us.toArray] W fun e W' => e = .returned (.bool true) ∧ Below W.heap.size W W'
def SS (w0 : World) (row : Nat → T) : Prop := ∀ (W : World) (vs us : List Value), Below w0.heap.size w0 W → Row w0 (fun _ => True) (cellsS row) vs → Row w0 (fun _ => True) (cellsS row) us →
  Calls Tryz.prog 136 #[.agg vs.toArray, .agg us.toArray] W fun e W' => e = .returned (.bool true) ∧ Below W.heap.size W W'
def SC (w0 : World) (row : Nat → T) : Prop := ∀ (W : World) (vs us : List Value), Below w0.heap.size w0 W → Row w0 (fun _ => True) (cellsC row) vs → Row w0 (fun _ => True) (cellsC row) us →
  Calls Tryz.prog 48 #[.agg vs.toArray, .agg us.toArray] W fun e W' => e = .returned (.bool true) ∧ Below W.heap.size W W'
def LX0 (w0 : World) (t : T) : Prop := ∀ (W : World) (a b : Value), Below w0.heap.size w0 W → t.Rep w0 (fun _ => True) a → t.Rep w0 (fun _ => True) b →
  Calls Tryz.prog 137 #[a, b] W fun e W' => e = .returned (.bool true) ∧ Below W.heap.size W W'
def LX1 (w0 : World) (t : T) : Prop := ∀ (W : World) (a b : Value), Below w0.heap.size w0 W → t.Rep w0 (fun _ => True) a → t.Rep w0 (fun _ => True) b →
  Calls Tryz.prog 139 #[a, b] W fun e W' => e = .returned (.bool true) ∧ Below W.heap.size W W'
def LX2 (w0 : World) (t : T) : Prop := ∀ (W : World) (a b : Value), Below w0.heap.size w0 W → t.Rep w0 (fun _ => True) a → t.Rep w0 (fun _ => True) b →
  Calls Tryz.prog 81 #[a, b] W fun e W' => e = .returned (.bool true) ∧ Below W.heap.size W W'
def LX3 (w0 : World) (t : T) : Prop := ∀ (W : World) (a b : Value), Below w0.heap.size w0 W → t.Rep w0 (fun _ => True) a → t.Rep w0 (fun _ => True) b →
  Calls Tryz.prog 138 #[a, b] W fun e W' => e = .returned (.bool true) ∧ Below W.heap.size W W'
def LX4 (w0 : World) (t : T) : Prop := ∀ (W : World) (a b : Value), Below w0.heap.size w0 W → t.Rep w0 (fun _ => True) a → t.Rep w0 (fun _ => True) b →
  Calls Tryz.prog 31 #[a, b] W fun e W' => e = .returned (.bool true) ∧ Below W.heap.size W W'
set_option maxRecDepth 100000 in
set_option maxHeartbeats 16000000 in
theorem sameE_step (w0 : World) (row : Nat → T) (o : Nat) (hw : WE row o) (h3 : LX0 w0 (row (o + 3))) (h4 : LX3 w0 (row (o + 4))) (h5 : LX0 w0 (row (o + 5))) (h7 : LX0 w0 (row (o + 7))) (h8 : LX1 w0 (row (o + 8))) : SE w0 row o := by
  intro W vs us hb hr hs
  obtain ⟨c0, c1, c2, a3, n3, p3, b3, m3, q3, a4, n4, p4, b4, m4, q4, a5, n5, p5, b5, m5, q5, c6, a7, n7, p7, b7, m7, q7, a8, n8, p8, b8, m8, q8, c9, rfl, rfl, r3, k3, r4, k4, r5, k5, r7, k7, r8, k8⟩ := twoE hw hr hs
  obtain ⟨Wb, hWb⟩ : ∃ Wb, (W.alloc (.cells #[.int .u8 c0, .int .i64 c1, .string c2, .slice a3 n3 p3, .slice a4 n4 p4, .slice a5 n5 p5, .int .u8 c6, .slice a7 n7 p7, .slice a8 n8 p8, .string c9] 42)).alloc (.cells #[.int .u8 c0, .int .i64 c1, .string c2, .slice b3 m3 q3, .slice b4 m4 q4, .slice b5 m5 q5, .int .u8 c6, .slice b7 m7 q7, .slice b8 m8 q8, .string c9] 42) = Wb := ⟨_, rfl⟩
  have hx : Wb.heap[W.heap.size]? = some (.cells #[.int .u8 c0, .int .i64 c1, .string c2, .slice a3 n3 p3, .slice a4 n4 p4, .slice a5 n5 p5, .int .u8 c6, .slice a7 n7 p7, .slice a8 n8 p8, .string c9] 42 (0, 0)) := by rw [← hWb]; exact new2a _ _ _ _ _
  have hy : Wb.heap[W.heap.size + 1]? = some (.cells #[.int .u8 c0, .int .i64 c1, .string c2, .slice b3 m3 q3, .slice b4 m4 q4, .slice b5 m5 q5, .int .u8 c6, .slice b7 m7 q7, .slice b8 m8 q8, .string c9] 42 (0, 0)) := by rw [← hWb]; exact new2b _ _ _ _
  have hbb : Below W.heap.size W Wb := by rw [← hWb]; exact ((Below.refl _ _).alloc (Nat.le_refl _) _).alloc (by simp) _
  have hz : W.heap.size + 2 = Wb.heap.size := by rw [← hWb]; simp
  have hb0 : ∀ W', Below Wb.heap.size Wb W' → Below w0.heap.size w0 W' := fun W' h => (hb.trans (hbb.mono hb.size)).trans (h.mono (Nat.le_trans hb.size hbb.size))
  have HX : Hid (∀ W', Below Wb.heap.size Wb W' → W'.heap[W.heap.size]? = some (.cells #[.int .u8 c0, .int .i64 c1, .string c2, .slice a3 n3 p3, .slice a4 n4 p4, .slice a5 n5 p5, .int .u8 c6, .slice a7 n7 p7, .slice a8 n8 p8, .string c9] 42 (0, 0)) ∧ W'.heap[W.heap.size + 1]? = some (.cells #[.int .u8 c0, .int .i64 c1, .string c2, .slice b3 m3 q3, .slice b4 m4 q4, .slice b5 m5 q5, .int .u8 c6, .slice b7 m7 q7, .slice b8 m8 q8, .string c9] 42 (0, 0))) := fun W' h => ⟨(h.block _ (by omega)).trans hx, (h.block _ (by omega)).trans hy⟩
  have H3 : Hid (∀ W', Below Wb.heap.size Wb W' → Calls Tryz.prog 137 #[.slice a3 n3 p3, .slice b3 m3 q3] W' fun e W'' => e = .returned (.bool true) ∧ Below W'.heap.size W' W'') := fun W' h => h3 W' _ _ (hb0 W' h) r3 k3
  have H4 : Hid (∀ W', Below Wb.heap.size Wb W' → Calls Tryz.prog 138 #[.slice a4 n4 p4, .slice b4 m4 q4] W' fun e W'' => e = .returned (.bool true) ∧ Below W'.heap.size W' W'') := fun W' h => h4 W' _ _ (hb0 W' h) r4 k4
  have H5 : Hid (∀ W', Below Wb.heap.size Wb W' → Calls Tryz.prog 137 #[.slice a5 n5 p5, .slice b5 m5 q5] W' fun e W'' => e = .returned (.bool true) ∧ Below W'.heap.size W' W'') := fun W' h => h5 W' _ _ (hb0 W' h) r5 k5
  have H7 : Hid (∀ W', Below Wb.heap.size Wb W' → Calls Tryz.prog 137 #[.slice a7 n7 p7, .slice b7 m7 q7] W' fun e W'' => e = .returned (.bool true) ∧ Below W'.heap.size W' W'') := fun W' h => h7 W' _ _ (hb0 W' h) r7 k7
  have H8 : Hid (∀ W', Below Wb.heap.size Wb W' → Calls Tryz.prog 139 #[.slice a8 n8 p8, .slice b8 m8 q8] W' fun e W'' => e = .returned (.bool true) ∧ Below W'.heap.size W' W'') := fun W' h => h8 W' _ _ (hb0 W' h) r8 k8
  have HW := Lib.hid hbb
  have HB := Lib.hid (Below.refl Wb.heap.size Wb)
  clear hr hs hb hx hy hbb hz hb0 hw r3 k3 r4 k4 r5 k5 r7 k7 r8 k8 h3 h4 h5 h7 h8
  obtain ⟨hx2, hy2⟩ := HX.out _ HB.out
  obtain ⟨⟨x0, x1, x2, x3, x4, x5, x6, x7, x8, x9⟩, -⟩ := blk10 hx2
  obtain ⟨⟨y0, y1, y2, y3, y4, y5, y6, y7, y8, y9⟩, -⟩ := blk10 hy2
  clear hx2 hy2
  go_enter Tryz.func82, Tryz.ntmps82
  go_wp2_with (first
    | (go_at_call 137; (first | (with_reducible refine (H3.out _ HB.out).mono ?_) | (with_reducible refine (H5.out _ HB.out).mono ?_) | (with_reducible refine (H7.out _ HB.out).mono ?_)); rintro e1 w1 ⟨rfl, hb1⟩; replace HB := Lib.hid (HB.out.trans (hb1.mono HB.out.size)); clear hb1 x0 y0 x1 y1 x2 y2 x3 y3 x4 y4 x5 y5 x6 y6 x7 y7 x8 y8 x9 y9; obtain ⟨hx2, hy2⟩ := HX.out _ HB.out; obtain ⟨⟨x0, x1, x2, x3, x4, x5, x6, x7, x8, x9⟩, -⟩ := blk10 hx2; obtain ⟨⟨y0, y1, y2, y3, y4, y5, y6, y7, y8, y9⟩, -⟩ := blk10 hy2; clear hx2 hy2)
    | (go_at_call 138; (first | (with_reducible refine (H4.out _ HB.out).mono ?_)); rintro e1 w1 ⟨rfl, hb1⟩; replace HB := Lib.hid (HB.out.trans (hb1.mono HB.out.size)); clear hb1 x0 y0 x1 y1 x2 y2 x3 y3 x4 y4 x5 y5 x6 y6 x7 y7 x8 y8 x9 y9; obtain ⟨hx2, hy2⟩ := HX.out _ HB.out; obtain ⟨⟨x0, x1, x2, x3, x4, x5, x6, x7, x8, x9⟩, -⟩ := blk10 hx2; obtain ⟨⟨y0, y1, y2, y3, y4, y5, y6, y7, y8, y9⟩, -⟩ := blk10 hy2; clear hx2 hy2)
    | (go_at_call 139; (first | (with_reducible refine (H8.out _ HB.out).mono ?_)); rintro e1 w1 ⟨rfl, hb1⟩; replace HB := Lib.hid (HB.out.trans (hb1.mono HB.out.size)); clear hb1 x0 y0 x1 y1 x2 y2 x3 y3 x4 y4 x5 y5 x6 y6 x7 y7 x8 y8 x9 y9; obtain ⟨hx2, hy2⟩ := HX.out _ HB.out; obtain ⟨⟨x0, x1, x2, x3, x4, x5, x6, x7, x8, x9⟩, -⟩ := blk10 hx2; obtain ⟨⟨y0, y1, y2, y3, y4, y5, y6, y7, y8, y9⟩, -⟩ := blk10 hy2; clear hx2 hy2))
  try go_ret
  exact ⟨rfl, HW.out.trans (HB.out.mono HW.out.size)⟩
set_option maxRecDepth 100000 in
set_option maxHeartbeats 16000000 in
theorem sameA_step (w0 : World) (row : Nat → T) (hw : WA row) (hE : SE w0 row 2) : SA w0 row := by
  intro W vs us hb hr hs
  obtain ⟨c0, c1, c2, c3, c4, a5, n5, p5, b5, m5, q5, a6, n6, p6, b6, m6, q6, a7, n7, p7, b7, m7, q7, c8, a9, n9, p9, b9, m9, q9, a10, n10, p10, b10, m10, q10, c11, rfl, rfl, re, ke⟩ := twoA hw hr hs
  obtain ⟨Wb, hWb⟩ : ∃ Wb, (W.alloc (.cells #[.int .u8 c0, .string c1, .int .u8 c2, .int .i64 c3, .string c4, .slice a5 n5 p5, .slice a6 n6 p6, .slice a7 n7 p7, .int .u8 c8, .slice a9 n9 p9, .slice a10 n10 p10, .string c11] 112)).alloc (.cells #[.int .u8 c0, .string c1, .int .u8 c2, .int .i64 c3, .string c4, .slice b5 m5 q5, .slice b6 m6 q6, .slice b7 m7 q7, .int .u8 c8, .slice b9 m9 q9, .slice b10 m10 q10, .string c11] 112) = Wb := ⟨_, rfl⟩
  have hx : Wb.heap[W.heap.size]? = some (.cells #[.int .u8 c0, .string c1, .int .u8 c2, .int .i64 c3, .string c4, .slice a5 n5 p5, .slice a6 n6 p6, .slice a7 n7 p7, .int .u8 c8, .slice a9 n9 p9, .slice a10 n10 p10, .string c11] 112 (0, 0)) := by rw [← hWb]; exact new2a _ _ _ _ _
  have hy : Wb.heap[W.heap.size + 1]? = some (.cells #[.int .u8 c0, .string c1, .int .u8 c2, .int .i64 c3, .string c4, .slice b5 m5 q5, .slice b6 m6 q6, .slice b7 m7 q7, .int .u8 c8, .slice b9 m9 q9, .slice b10 m10 q10, .string c11] 112 (0, 0)) := by rw [← hWb]; exact new2b _ _ _ _
  have hbb : Below W.heap.size W Wb := by rw [← hWb]; exact ((Below.refl _ _).alloc (Nat.le_refl _) _).alloc (by simp) _
  have hz : W.heap.size + 2 = Wb.heap.size := by rw [← hWb]; simp
  have hb0 : ∀ W', Below Wb.heap.size Wb W' → Below w0.heap.size w0 W' := fun W' h => (hb.trans (hbb.mono hb.size)).trans (h.mono (Nat.le_trans hb.size hbb.size))
  have HX : Hid (∀ W', Below Wb.heap.size Wb W' → W'.heap[W.heap.size]? = some (.cells #[.int .u8 c0, .string c1, .int .u8 c2, .int .i64 c3, .string c4, .slice a5 n5 p5, .slice a6 n6 p6, .slice a7 n7 p7, .int .u8 c8, .slice a9 n9 p9, .slice a10 n10 p10, .string c11] 112 (0, 0)) ∧ W'.heap[W.heap.size + 1]? = some (.cells #[.int .u8 c0, .string c1, .int .u8 c2, .int .i64 c3, .string c4, .slice b5 m5 q5, .slice b6 m6 q6, .slice b7 m7 q7, .int .u8 c8, .slice b9 m9 q9, .slice b10 m10 q10, .string c11] 112 (0, 0))) := fun W' h => ⟨(h.block _ (by omega)).trans hx, (h.block _ (by omega)).trans hy⟩
  have HE : Hid (∀ W', Below Wb.heap.size Wb W' → Calls Tryz.prog 82 #[.agg #[.int .u8 c2, .int .i64 c3, .string c4, .slice a5 n5 p5, .slice a6 n6 p6, .slice a7 n7 p7, .int .u8 c8, .slice a9 n9 p9, .slice a10 n10 p10, .string c11], .agg #[.int .u8 c2, .int .i64 c3, .string c4, .slice b5 m5 q5, .slice b6 m6 q6, .slice b7 m7 q7, .int .u8 c8, .slice b9 m9 q9, .slice b10 m10 q10, .string c11]] W' fun e W'' => e = .returned (.bool true) ∧ Below W'.heap.size W' W'') := fun W' h => hE W' _ _ (hb0 W' h) re ke
  have HW := Lib.hid hbb
  have HB := Lib.hid (Below.refl Wb.heap.size Wb)
  clear hr hs hb hx hy hbb hz hb0 hw re ke hE
  obtain ⟨hx2, hy2⟩ := HX.out _ HB.out
  obtain ⟨⟨x0, x1, x2, x3, x4, x5, x6, x7, x8, x9, x10, x11⟩, -⟩ := blk12 hx2
  obtain ⟨⟨y0, y1, y2, y3, y4, y5, y6, y7, y8, y9, y10, y11⟩, -⟩ := blk12 hy2
  clear hx2 hy2
  go_enter Tryz.func177, Tryz.ntmps177
  go_wp2_with (first
    | (go_at_call 82; (first | (with_reducible refine (HE.out _ HB.out).mono ?_)); rintro e1 w1 ⟨rfl, hb1⟩; replace HB := Lib.hid (HB.out.trans (hb1.mono HB.out.size)); clear hb1 x0 y0 x1 y1 x2 y2 x3 y3 x4 y4 x5 y5 x6 y6 x7 y7 x8 y8 x9 y9 x10 y10 x11 y11; obtain ⟨hx2, hy2⟩ := HX.out _ HB.out; obtain ⟨⟨x0, x1, x2, x3, x4, x5, x6, x7, x8, x9, x10, x11⟩, -⟩ := blk12 hx2; obtain ⟨⟨y0, y1, y2, y3, y4, y5, y6, y7, y8, y9, y10, y11⟩, -⟩ := blk12 hy2; clear hx2 hy2))
  try go_ret
  exact ⟨rfl, HW.out.trans (HB.out.mono HW.out.size)⟩
set_option maxRecDepth 100000 in
set_option maxHeartbeats 16000000 in
theorem sameS_step (w0 : World) (row : Nat → T) (hw : WS row) (hE : SE w0 row 3) (h13 : LX0 w0 (row 13)) (h14 : LX1 w0 (row 14)) (h15 : LX1 w0 (row 15)) (h16 : LX2 w0 (row 16)) : SS w0 row := by
  intro W vs us hb hr hs
  obtain ⟨c0, c1, c2, c3, c4, c5, a6, n6, p6, b6, m6, q6, a7, n7, p7, b7, m7, q7, a8, n8, p8, b8, m8, q8, c9, a10, n10, p10, b10, m10, q10, a11, n11, p11, b11, m11, q11, c12, a13, n13, p13, b13, m13, q13, a14, n14, p14, b14, m14, q14, a15, n15, p15, b15, m15, q15, a16, n16, p16, b16, m16, q16, rfl, rfl, re, ke, r13, k13, r14, k14, r15, k15, r16, k16⟩ := twoS hw hr hs
  obtain ⟨Wb, hWb⟩ : ∃ Wb, (W.alloc (.cells #[.int .u8 c0, .string c1, .string c2, .int .u8 c3, .int .i64 c4, .string c5, .slice a6 n6 p6, .slice a7 n7 p7, .slice a8 n8 p8, .int .u8 c9, .slice a10 n10 p10, .slice a11 n11 p11, .string c12, .slice a13 n13 p13, .slice a14 n14 p14, .slice a15 n15 p15, .slice a16 n16 p16] 55)).alloc (.cells #[.int .u8 c0, .string c1, .string c2, .int .u8 c3, .int .i64 c4, .string c5, .slice b6 m6 q6, .slice b7 m7 q7, .slice b8 m8 q8, .int .u8 c9, .slice b10 m10 q10, .slice b11 m11 q11, .string c12, .slice b13 m13 q13, .slice b14 m14 q14, .slice b15 m15 q15, .slice b16 m16 q16] 55) = Wb := ⟨_, rfl⟩
  have hx : Wb.heap[W.heap.size]? = some (.cells #[.int .u8 c0, .string c1, .string c2, .int .u8 c3, .int .i64 c4, .string c5, .slice a6 n6 p6, .slice a7 n7 p7, .slice a8 n8 p8, .int .u8 c9, .slice a10 n10 p10, .slice a11 n11 p11, .string c12, .slice a13 n13 p13, .slice a14 n14 p14, .slice a15 n15 p15, .slice a16 n16 p16] 55 (0, 0)) := by rw [← hWb]; exact new2a _ _ _ _ _
  have hy : Wb.heap[W.heap.size + 1]? = some (.cells #[.int .u8 c0, .string c1, .string c2, .int .u8 c3, .int .i64 c4, .string c5, .slice b6 m6 q6, .slice b7 m7 q7, .slice b8 m8 q8, .int .u8 c9, .slice b10 m10 q10, .slice b11 m11 q11, .string c12, .slice b13 m13 q13, .slice b14 m14 q14, .slice b15 m15 q15, .slice b16 m16 q16] 55 (0, 0)) := by rw [← hWb]; exact new2b _ _ _ _
  have hbb : Below W.heap.size W Wb := by rw [← hWb]; exact ((Below.refl _ _).alloc (Nat.le_refl _) _).alloc (by simp) _
  have hz : W.heap.size + 2 = Wb.heap.size := by rw [← hWb]; simp
  have hb0 : ∀ W', Below Wb.heap.size Wb W' → Below w0.heap.size w0 W' := fun W' h => (hb.trans (hbb.mono hb.size)).trans (h.mono (Nat.le_trans hb.size hbb.size))
  have HX : Hid (∀ W', Below Wb.heap.size Wb W' → W'.heap[W.heap.size]? = some (.cells #[.int .u8 c0, .string c1, .string c2, .int .u8 c3, .int .i64 c4, .string c5, .slice a6 n6 p6, .slice a7 n7 p7, .slice a8 n8 p8, .int .u8 c9, .slice a10 n10 p10, .slice a11 n11 p11, .string c12, .slice a13 n13 p13, .slice a14 n14 p14, .slice a15 n15 p15, .slice a16 n16 p16] 55 (0, 0)) ∧ W'.heap[W.heap.size + 1]? = some (.cells #[.int .u8 c0, .string c1, .string c2, .int .u8 c3, .int .i64 c4, .string c5, .slice b6 m6 q6, .slice b7 m7 q7, .slice b8 m8 q8, .int .u8 c9, .slice b10 m10 q10, .slice b11 m11 q11, .string c12, .slice b13 m13 q13, .slice b14 m14 q14, .slice b15 m15 q15, .slice b16 m16 q16] 55 (0, 0))) := fun W' h => ⟨(h.block _ (by omega)).trans hx, (h.block _ (by omega)).trans hy⟩
  have HE : Hid (∀ W', Below Wb.heap.size Wb W' → Calls Tryz.prog 82 #[.agg #[.int .u8 c3, .int .i64 c4, .string c5, .slice a6 n6 p6, .slice a7 n7 p7, .slice a8 n8 p8, .int .u8 c9, .slice a10 n10 p10, .slice a11 n11 p11, .string c12], .agg #[.int .u8 c3, .int .i64 c4, .string c5, .slice b6 m6 q6, .slice b7 m7 q7, .slice b8 m8 q8, .int .u8 c9, .slice b10 m10 q10, .slice b11 m11 q11, .string c12]] W' fun e W'' => e = .returned (.bool true) ∧ Below W'.heap.size W' W'') := fun W' h => hE W' _ _ (hb0 W' h) re ke
  have H13 : Hid (∀ W', Below Wb.heap.size Wb W' → Calls Tryz.prog 137 #[.slice a13 n13 p13, .slice b13 m13 q13] W' fun e W'' => e = .returned (.bool true) ∧ Below W'.heap.size W' W'') := fun W' h => h13 W' _ _ (hb0 W' h) r13 k13
  have H14 : Hid (∀ W', Below Wb.heap.size Wb W' → Calls Tryz.prog 139 #[.slice a14 n14 p14, .slice b14 m14 q14] W' fun e W'' => e = .returned (.bool true) ∧ Below W'.heap.size W' W'') := fun W' h => h14 W' _ _ (hb0 W' h) r14 k14
  have H15 : Hid (∀ W', Below Wb.heap.size Wb W' → Calls Tryz.prog 139 #[.slice a15 n15 p15, .slice b15 m15 q15] W' fun e W'' => e = .returned (.bool true) ∧ Below W'.heap.size W' W'') := fun W' h => h15 W' _ _ (hb0 W' h) r15 k15
  have H16 : Hid (∀ W', Below Wb.heap.size Wb W' → Calls Tryz.prog 81 #[.slice a16 n16 p16, .slice b16 m16 q16] W' fun e W'' => e = .returned (.bool true) ∧ Below W'.heap.size W' W'') := fun W' h => h16 W' _ _ (hb0 W' h) r16 k16
  have HW := Lib.hid hbb
  have HB := Lib.hid (Below.refl Wb.heap.size Wb)
  clear hr hs hb hx hy hbb hz hb0 hw re ke r13 k13 r14 k14 r15 k15 r16 k16 hE h13 h14 h15 h16
  obtain ⟨hx2, hy2⟩ := HX.out _ HB.out
  obtain ⟨⟨x0, x1, x2, x3, x4, x5, x6, x7, x8, x9, x10, x11, x12, x13, x14, x15, x16⟩, -⟩ := blk17 hx2
  obtain ⟨⟨y0, y1, y2, y3, y4, y5, y6, y7, y8, y9, y10, y11, y12, y13, y14, y15, y16⟩, -⟩ := blk17 hy2
  clear hx2 hy2
  go_enter Tryz.func136, Tryz.ntmps136
  go_wp2_with (first
    | (go_at_call 82; (first | (with_reducible refine (HE.out _ HB.out).mono ?_)); rintro e1 w1 ⟨rfl, hb1⟩; replace HB := Lib.hid (HB.out.trans (hb1.mono HB.out.size)); clear hb1 x0 y0 x1 y1 x2 y2 x3 y3 x4 y4 x5 y5 x6 y6 x7 y7 x8 y8 x9 y9 x10 y10 x11 y11 x12 y12 x13 y13 x14 y14 x15 y15 x16 y16; obtain ⟨hx2, hy2⟩ := HX.out _ HB.out; obtain ⟨⟨x0, x1, x2, x3, x4, x5, x6, x7, x8, x9, x10, x11, x12, x13, x14, x15, x16⟩, -⟩ := blk17 hx2; obtain ⟨⟨y0, y1, y2, y3, y4, y5, y6, y7, y8, y9, y10, y11, y12, y13, y14, y15, y16⟩, -⟩ := blk17 hy2; clear hx2 hy2)
    | (go_at_call 137; (first | (with_reducible refine (H13.out _ HB.out).mono ?_)); rintro e1 w1 ⟨rfl, hb1⟩; replace HB := Lib.hid (HB.out.trans (hb1.mono HB.out.size)); clear hb1 x0 y0 x1 y1 x2 y2 x3 y3 x4 y4 x5 y5 x6 y6 x7 y7 x8 y8 x9 y9 x10 y10 x11 y11 x12 y12 x13 y13 x14 y14 x15 y15 x16 y16; obtain ⟨hx2, hy2⟩ := HX.out _ HB.out; obtain ⟨⟨x0, x1, x2, x3, x4, x5, x6, x7, x8, x9, x10, x11, x12, x13, x14, x15, x16⟩, -⟩ := blk17 hx2; obtain ⟨⟨y0, y1, y2, y3, y4, y5, y6, y7, y8, y9, y10, y11, y12, y13, y14, y15, y16⟩, -⟩ := blk17 hy2; clear hx2 hy2)
    | (go_at_call 139; (first | (with_reducible refine (H14.out _ HB.out).mono ?_) | (with_reducible refine (H15.out _ HB.out).mono ?_)); rintro e1 w1 ⟨rfl, hb1⟩; replace HB := Lib.hid (HB.out.trans (hb1.mono HB.out.size)); clear hb1 x0 y0 x1 y1 x2 y2 x3 y3 x4 y4 x5 y5 x6 y6 x7 y7 x8 y8 x9 y9 x10 y10 x11 y11 x12 y12 x13 y13 x14 y14 x15 y15 x16 y16; obtain ⟨hx2, hy2⟩ := HX.out _ HB.out; obtain ⟨⟨x0, x1, x2, x3, x4, x5, x6, x7, x8, x9, x10, x11, x12, x13, x14, x15, x16⟩, -⟩ := blk17 hx2; obtain ⟨⟨y0, y1, y2, y3, y4, y5, y6, y7, y8, y9, y10, y11, y12, y13, y14, y15, y16⟩, -⟩ := blk17 hy2; clear hx2 hy2)
    | (go_at_call 81; (first | (with_reducible refine (H16.out _ HB.out).mono ?_)); rintro e1 w1 ⟨rfl, hb1⟩; replace HB := Lib.hid (HB.out.trans (hb1.mono HB.out.size)); clear hb1 x0 y0 x1 y1 x2 y2 x3 y3 x4 y4 x5 y5 x6 y6 x7 y7 x8 y8 x9 y9 x10 y10 x11 y11 x12 y12 x13 y13 x14 y14 x15 y15 x16 y16; obtain ⟨hx2, hy2⟩ := HX.out _ HB.out; obtain ⟨⟨x0, x1, x2, x3, x4, x5, x6, x7, x8, x9, x10, x11, x12, x13, x14, x15, x16⟩, -⟩ := blk17 hx2; obtain ⟨⟨y0, y1, y2, y3, y4, y5, y6, y7, y8, y9, y10, y11, y12, y13, y14, y15, y16⟩, -⟩ := blk17 hy2; clear hx2 hy2))
  try go_ret
  exact ⟨rfl, HW.out.trans (HB.out.mono HW.out.size)⟩
set_option maxRecDepth 100000 in
set_option maxHeartbeats 16000000 in
theorem sameC_step (w0 : World) (row : Nat → T) (hw : WC row) (hE : SE w0 row 3) (h2 : LX2 w0 (row 2)) : SC w0 row := by
  intro W vs us hb hr hs
  obtain ⟨c0, c1, a2, n2, p2, b2, m2, q2, c3, c4, c5, a6, n6, p6, b6, m6, q6, a7, n7, p7, b7, m7, q7, a8, n8, p8, b8, m8, q8, c9, a10, n10, p10, b10, m10, q10, a11, n11, p11, b11, m11, q11, c12, rfl, rfl, re, ke, r2, k2⟩ := twoC hw hr hs
  obtain ⟨Wb, hWb⟩ : ∃ Wb, (W.alloc (.cells #[.string c0, .string c1, .slice a2 n2 p2, .int .u8 c3, .int .i64 c4, .string c5, .slice a6 n6 p6, .slice a7 n7 p7, .slice a8 n8 p8, .int .u8 c9, .slice a10 n10 p10, .slice a11 n11 p11, .string c12] 46)).alloc (.cells #[.string c0, .string c1, .slice b2 m2 q2, .int .u8 c3, .int .i64 c4, .string c5, .slice b6 m6 q6, .slice b7 m7 q7, .slice b8 m8 q8, .int .u8 c9, .slice b10 m10 q10, .slice b11 m11 q11, .string c12] 46) = Wb := ⟨_, rfl⟩
  have hx : Wb.heap[W.heap.size]? = some (.cells #[.string c0, .string c1, .slice a2 n2 p2, .int .u8 c3, .int .i64 c4, .string c5, .slice a6 n6 p6, .slice a7 n7 p7, .slice a8 n8 p8, .int .u8 c9, .slice a10 n10 p10, .slice a11 n11 p11, .string c12] 46 (0, 0)) := by rw [← hWb]; exact new2a _ _ _ _ _
  have hy : Wb.heap[W.heap.size + 1]? = some (.cells #[.string c0, .string c1, .slice b2 m2 q2, .int .u8 c3, .int .i64 c4, .string c5, .slice b6 m6 q6, .slice b7 m7 q7, .slice b8 m8 q8, .int .u8 c9, .slice b10 m10 q10, .slice b11 m11 q11, .string c12] 46 (0, 0)) := by rw [← hWb]; exact new2b _ _ _ _
  have hbb : Below W.heap.size W Wb := by rw [← hWb]; exact ((Below.refl _ _).alloc (Nat.le_refl _) _).alloc (by simp) _
  have hz : W.heap.size + 2 = Wb.heap.size := by rw [← hWb]; simp
  have hb0 : ∀ W', Below Wb.heap.size Wb W' → Below w0.heap.size w0 W' := fun W' h => (hb.trans (hbb.mono hb.size)).trans (h.mono (Nat.le_trans hb.size hbb.size))
  have HX : Hid (∀ W', Below Wb.heap.size Wb W' → W'.heap[W.heap.size]? = some (.cells #[.string c0, .string c1, .slice a2 n2 p2, .int .u8 c3, .int .i64 c4, .string c5, .slice a6 n6 p6, .slice a7 n7 p7, .slice a8 n8 p8, .int .u8 c9, .slice a10 n10 p10, .slice a11 n11 p11, .string c12] 46 (0, 0)) ∧ W'.heap[W.heap.size + 1]? = some (.cells #[.string c0, .string c1, .slice b2 m2 q2, .int .u8 c3, .int .i64 c4, .string c5, .slice b6 m6 q6, .slice b7 m7 q7, .slice b8 m8 q8, .int .u8 c9, .slice b10 m10 q10, .slice b11 m11 q11, .string c12] 46 (0, 0))) := fun W' h => ⟨(h.block _ (by omega)).trans hx, (h.block _ (by omega)).trans hy⟩
  have H2 : Hid (∀ W', Below Wb.heap.size Wb W' → Calls Tryz.prog 81 #[.slice a2 n2 p2, .slice b2 m2 q2] W' fun e W'' => e = .returned (.bool true) ∧ Below W'.heap.size W' W'') := fun W' h => h2 W' _ _ (hb0 W' h) r2 k2
  have HE : Hid (∀ W', Below Wb.heap.size Wb W' → Calls Tryz.prog 82 #[.agg #[.int .u8 c3, .int .i64 c4, .string c5, .slice a6 n6 p6, .slice a7 n7 p7, .slice a8 n8 p8, .int .u8 c9, .slice a10 n10 p10, .slice a11 n11 p11, .string c12], .agg #[.int .u8 c3, .int .i64 c4, .string c5, .slice b6 m6 q6, .slice b7 m7 q7, .slice b8 m8 q8, .int .u8 c9, .slice b10 m10 q10, .slice b11 m11 q11, .string c12]] W' fun e W'' => e = .returned (.bool true) ∧ Below W'.heap.size W' W'') := fun W' h => hE W' _ _ (hb0 W' h) re ke
  have HW := Lib.hid hbb
  have HB := Lib.hid (Below.refl Wb.heap.size Wb)
  clear hr hs hb hx hy hbb hz hb0 hw re ke r2 k2 hE h2
  obtain ⟨hx2, hy2⟩ := HX.out _ HB.out
  obtain ⟨⟨x0, x1, x2, x3, x4, x5, x6, x7, x8, x9, x10, x11, x12⟩, -⟩ := blk13 hx2
  obtain ⟨⟨y0, y1, y2, y3, y4, y5, y6, y7, y8, y9, y10, y11, y12⟩, -⟩ := blk13 hy2
  clear hx2 hy2
  go_enter Tryz.func48, Tryz.ntmps48
  go_wp2_with (first
    | (go_at_call 81; (first | (with_reducible refine (H2.out _ HB.out).mono ?_)); rintro e1 w1 ⟨rfl, hb1⟩; replace HB := Lib.hid (HB.out.trans (hb1.mono HB.out.size)); clear hb1 x0 y0 x1 y1 x2 y2 x3 y3 x4 y4 x5 y5 x6 y6 x7 y7 x8 y8 x9 y9 x10 y10 x11 y11 x12 y12; obtain ⟨hx2, hy2⟩ := HX.out _ HB.out; obtain ⟨⟨x0, x1, x2, x3, x4, x5, x6, x7, x8, x9, x10, x11, x12⟩, -⟩ := blk13 hx2; obtain ⟨⟨y0, y1, y2, y3, y4, y5, y6, y7, y8, y9, y10, y11, y12⟩, -⟩ := blk13 hy2; clear hx2 hy2)
    | (go_at_call 82; (first | (with_reducible refine (HE.out _ HB.out).mono ?_)); rintro e1 w1 ⟨rfl, hb1⟩; replace HB := Lib.hid (HB.out.trans (hb1.mono HB.out.size)); clear hb1 x0 y0 x1 y1 x2 y2 x3 y3 x4 y4 x5 y5 x6 y6 x7 y7 x8 y8 x9 y9 x10 y10 x11 y11 x12 y12; obtain ⟨hx2, hy2⟩ := HX.out _ HB.out; obtain ⟨⟨x0, x1, x2, x3, x4, x5, x6, x7, x8, x9, x10, x11, x12⟩, -⟩ := blk13 hx2; obtain ⟨⟨y0, y1, y2, y3, y4, y5, y6, y7, y8, y9, y10, y11, y12⟩, -⟩ := blk13 hy2; clear hx2 hy2))
  try go_ret
  exact ⟨rfl, HW.out.trans (HB.out.mono HW.out.size)⟩
theorem getE (row : Nat → T) : ∀ j, j < 10 → (cellsE row 0).getD j default = row j := fun j hj => match j, hj with
  | 0, _ => rfl
  | 1, _ => by show row (0 + 1) = row 1; rw [Nat.zero_add]
  | 2, _ => by show row (0 + 2) = row 2; rw [Nat.zero_add]
  | 3, _ => by show row (0 + 3) = row 3; rw [Nat.zero_add]
  | 4, _ => by show row (0 + 4) = row 4; rw [Nat.zero_add]
  | 5, _ => by show row (0 + 5) = row 5; rw [Nat.zero_add]
  | 6, _ => by show row (0 + 6) = row 6; rw [Nat.zero_add]
  | 7, _ => by show row (0 + 7) = row 7; rw [Nat.zero_add]
  | 8, _ => by show row (0 + 8) = row 8; rw [Nat.zero_add]
  | 9, _ => by show row (0 + 9) = row 9; rw [Nat.zero_add]
  | j + 10, h => absurd h (by omega)
set_option maxRecDepth 100000 in
set_option maxHeartbeats 16000000 in
theorem sameL0 (w0 : World) (n : Nat) (row : Nat → Nat → T) (hw : ∀ i, i < n → WE (row i) 0) (hE : ∀ i, i < n → SE w0 (row i) 0) : LX0 w0 (.ls n 10 row) := by
  intro W a b hb hr hs
  obtain ⟨la, lc, rfl, h1, h2, hel⟩ := hr
  obtain ⟨ma, mc, rfl, k1, k2, hem⟩ := hs
  have HEL := Lib.hid hel
  have HEM := Lib.hid hem
  have HWW := Lib.hid hw
  have HEE := Lib.hid hE
  have HB0 := Lib.hid hb
  unfold maxLen at h2 k2
  clear hb hel hem hw hE
  go_enter Tryz.func137, Tryz.ntmps137
  go_wp2
  go_loopw [5] (fun i wr => ∃ j : Nat, i = .int .i64 j ∧ j ≤ n ∧ Below W.heap.size W wr) (fun i _ => n - (intOf i).toNat)
  case atStart => exact ⟨0, rfl, Nat.zero_le _, Below.refl _ _⟩
  case round =>
    obtain ⟨j, rfl, hj, hbr⟩ := hrel
    have HBR := Lib.hid hbr
    clear hbr
    by_cases hlt : j < n
    · have g1 : (j : Int) < (n : Int) := by omega
      have g0 : (0 : Int) ≤ (j : Int) := by omega
      have g2 : j < lc := by omega
      have g3 : j < mc := by omega
      obtain ⟨bb1, oo1, rfl, -, hb1, hc1⟩ := HEL.out j hlt
      obtain ⟨bb2, oo2, rfl, -, hb2, hc2⟩ := HEM.out j hlt
      obtain ⟨vs, hr1, hat1, -⟩ := sm_rep_row (n := 0) (i := j) (k := 10) (x := cellsE (row j) 0) rfl (fun q hq => by rw [getE _ q hq]; exact hc1 q hq)
      obtain ⟨us, hr2, hat2, -⟩ := sm_rep_row (n := 0) (i := j) (k := 10) (x := cellsE (row j) 0) rfl (fun q hq => by rw [getE _ q hq]; exact hc2 q hq)
      obtain ⟨c0, c1, c2, a3, n3, p3, b3, m3, q3, a4, n4, p4, b4, m4, q4, a5, n5, p5, b5, m5, q5, c6, a7, n7, p7, b7, m7, q7, a8, n8, p8, b8, m8, q8, c9, rfl, rfl, -⟩ := twoE (row := row j) (o := 0) (HWW.out j hlt) hr1 hr2
      have HE : Hid (∀ W', Below W.heap.size W W' → Calls Tryz.prog 82 #[.agg #[.int .u8 c0, .int .i64 c1, .string c2, .slice a3 n3 p3, .slice a4 n4 p4, .slice a5 n5 p5, .int .u8 c6, .slice a7 n7 p7, .slice a8 n8 p8, .string c9], .agg #[.int .u8 c0, .int .i64 c1, .string c2, .slice b3 m3 q3, .slice b4 m4 q4, .slice b5 m5 q5, .int .u8 c6, .slice b7 m7 q7, .slice b8 m8 q8, .string c9]] W' fun e W'' => e = .returned (.bool true) ∧ Below W.heap.size W W'') := fun W' h =>
        (HEE.out j hlt W' _ _ (HB0.out.trans (h.mono HB0.out.size)) hr1 hr2).mono fun e W'' ⟨h1, h2⟩ => ⟨h1, h.trans (h2.mono h.size)⟩
      have KS : Hid (∀ W', Below W.heap.size W W' → (fun W' => Below W.heap.size W W' ∧ W'.cell? ⟨bb1, oo1 + j * 10, none⟩ = some (.int .u8 c0) ∧ W'.cell? ⟨bb1, oo1 + j * 10 + 1, none⟩ = some (.int .i64 c1) ∧ W'.cell? ⟨bb1, oo1 + j * 10 + 2, none⟩ = some (.string c2) ∧ W'.cell? ⟨bb1, oo1 + j * 10 + 3, none⟩ = some (.slice a3 n3 p3) ∧ W'.cell? ⟨bb1, oo1 + j * 10 + 4, none⟩ = some (.slice a4 n4 p4) ∧ W'.cell? ⟨bb1, oo1 + j * 10 + 5, none⟩ = some (.slice a5 n5 p5) ∧ W'.cell? ⟨bb1, oo1 + j * 10 + 6, none⟩ = some (.int .u8 c6) ∧ W'.cell? ⟨bb1, oo1 + j * 10 + 7, none⟩ = some (.slice a7 n7 p7) ∧ W'.cell? ⟨bb1, oo1 + j * 10 + 8, none⟩ = some (.slice a8 n8 p8) ∧ W'.cell? ⟨bb1, oo1 + j * 10 + 9, none⟩ = some (.string c9) ∧ W'.cell? ⟨bb2, oo2 + j * 10, none⟩ = some (.int .u8 c0) ∧ W'.cell? ⟨bb2, oo2 + j * 10 + 1, none⟩ = some (.int .i64 c1) ∧ W'.cell? ⟨bb2, oo2 + j * 10 + 2, none⟩ = some (.string c2) ∧ W'.cell? ⟨bb2, oo2 + j * 10 + 3, none⟩ = some (.slice b3 m3 q3) ∧ W'.cell? ⟨bb2, oo2 + j * 10 + 4, none⟩ = some (.slice b4 m4 q4) ∧ W'.cell? ⟨bb2, oo2 + j * 10 + 5, none⟩ = some (.slice b5 m5 q5) ∧ W'.cell? ⟨bb2, oo2 + j * 10 + 6, none⟩ = some (.int .u8 c6) ∧ W'.cell? ⟨bb2, oo2 + j * 10 + 7, none⟩ = some (.slice b7 m7 q7) ∧ W'.cell? ⟨bb2, oo2 + j * 10 + 8, none⟩ = some (.slice b8 m8 q8) ∧ W'.cell? ⟨bb2, oo2 + j * 10 + 9, none⟩ = some (.string c9)) W') := fun W' h => by
        have hlow := HB0.out.trans (h.mono HB0.out.size)
        have hk1 : ∀ q y, ([.int .u8 c0, .int .i64 c1, .string c2, .slice a3 n3 p3, .slice a4 n4 p4, .slice a5 n5 p5, .int .u8 c6, .slice a7 n7 p7, .slice a8 n8 p8, .string c9] : List Value)[q]? = some y → W'.cell? ⟨bb1, oo1 + j * 10 + q, none⟩ = some y := fun q y hy => by
          rw [hlow.cell (p := ⟨bb1, oo1 + j * 10 + q, none⟩) hb1, hat1 q (List.getElem?_eq_some_iff.1 hy).1]; exact hy
        have hk2 : ∀ q y, ([.int .u8 c0, .int .i64 c1, .string c2, .slice b3 m3 q3, .slice b4 m4 q4, .slice b5 m5 q5, .int .u8 c6, .slice b7 m7 q7, .slice b8 m8 q8, .string c9] : List Value)[q]? = some y → W'.cell? ⟨bb2, oo2 + j * 10 + q, none⟩ = some y := fun q y hy => by
          rw [hlow.cell (p := ⟨bb2, oo2 + j * 10 + q, none⟩) hb2, hat2 q (List.getElem?_eq_some_iff.1 hy).1]; exact hy
        exact ⟨h, hk1 0 _ rfl, hk1 1 _ rfl, hk1 2 _ rfl, hk1 3 _ rfl, hk1 4 _ rfl, hk1 5 _ rfl, hk1 6 _ rfl, hk1 7 _ rfl, hk1 8 _ rfl, hk1 9 _ rfl, hk2 0 _ rfl, hk2 1 _ rfl, hk2 2 _ rfl, hk2 3 _ rfl, hk2 4 _ rfl, hk2 5 _ rfl, hk2 6 _ rfl, hk2 7 _ rfl, hk2 8 _ rfl, hk2 9 _ rfl⟩
      clear hr1 hr2 hat1 hat2 hc1 hc2
      go_upto_region 6 with fail
      go_region_held3 (fun W' => Below W.heap.size W W' ∧ W'.cell? ⟨bb1, oo1 + j * 10, none⟩ = some (.int .u8 c0) ∧ W'.cell? ⟨bb1, oo1 + j * 10 + 1, none⟩ = some (.int .i64 c1) ∧ W'.cell? ⟨bb1, oo1 + j * 10 + 2, none⟩ = some (.string c2) ∧ W'.cell? ⟨bb1, oo1 + j * 10 + 3, none⟩ = some (.slice a3 n3 p3) ∧ W'.cell? ⟨bb1, oo1 + j * 10 + 4, none⟩ = some (.slice a4 n4 p4) ∧ W'.cell? ⟨bb1, oo1 + j * 10 + 5, none⟩ = some (.slice a5 n5 p5) ∧ W'.cell? ⟨bb1, oo1 + j * 10 + 6, none⟩ = some (.int .u8 c6) ∧ W'.cell? ⟨bb1, oo1 + j * 10 + 7, none⟩ = some (.slice a7 n7 p7) ∧ W'.cell? ⟨bb1, oo1 + j * 10 + 8, none⟩ = some (.slice a8 n8 p8) ∧ W'.cell? ⟨bb1, oo1 + j * 10 + 9, none⟩ = some (.string c9) ∧ W'.cell? ⟨bb2, oo2 + j * 10, none⟩ = some (.int .u8 c0) ∧ W'.cell? ⟨bb2, oo2 + j * 10 + 1, none⟩ = some (.int .i64 c1) ∧ W'.cell? ⟨bb2, oo2 + j * 10 + 2, none⟩ = some (.string c2) ∧ W'.cell? ⟨bb2, oo2 + j * 10 + 3, none⟩ = some (.slice b3 m3 q3) ∧ W'.cell? ⟨bb2, oo2 + j * 10 + 4, none⟩ = some (.slice b4 m4 q4) ∧ W'.cell? ⟨bb2, oo2 + j * 10 + 5, none⟩ = some (.slice b5 m5 q5) ∧ W'.cell? ⟨bb2, oo2 + j * 10 + 6, none⟩ = some (.int .u8 c6) ∧ W'.cell? ⟨bb2, oo2 + j * 10 + 7, none⟩ = some (.slice b7 m7 q7) ∧ W'.cell? ⟨bb2, oo2 + j * 10 + 8, none⟩ = some (.slice b8 m8 q8) ∧ W'.cell? ⟨bb2, oo2 + j * 10 + 9, none⟩ = some (.string c9))
        (first | (refine KS.out _ ?_; with_reducible exact HBR.out.drew) | (refine KS.out _ ?_; with_reducible assumption) | with_reducible assumption)
        (first
          | (go_at_call 82; refine (HE.out _ ?_).mono ?_; (go_split_ands; assumption); rintro x w3 ⟨rfl, hb3⟩))
      have HB3 := Lib.hid hb3
      clear KS HE
      go_wp2
      go_roundw
      case rel => exact ⟨j + 1, by go_num, by omega, HB3.out⟩
      case measure => simp [intOf]; try omega
    · have hn : ¬ (j : Int) < (n : Int) := by omega
      obtain rfl : n = j := by omega
      go_wp2
      try go_ret
      exact ⟨rfl, HBR.out⟩
theorem getA (row : Nat → T) : ∀ j, j < 12 → (cellsA row).getD j default = row j := fun j hj => match j, hj with
  | 0, _ => rfl
  | 1, _ => rfl
  | 2, _ => rfl
  | 3, _ => rfl
  | 4, _ => rfl
  | 5, _ => rfl
  | 6, _ => rfl
  | 7, _ => rfl
  | 8, _ => rfl
  | 9, _ => rfl
  | 10, _ => rfl
  | 11, _ => rfl
  | j + 12, h => absurd h (by omega)
set_option maxRecDepth 100000 in
set_option maxHeartbeats 16000000 in
theorem sameL1 (w0 : World) (n : Nat) (row : Nat → Nat → T) (hw : ∀ i, i < n → WA (row i)) (hE : ∀ i, i < n → SA w0 (row i)) : LX1 w0 (.ls n 12 row) := by
  intro W a b hb hr hs
  obtain ⟨la, lc, rfl, h1, h2, hel⟩ := hr
  obtain ⟨ma, mc, rfl, k1, k2, hem⟩ := hs
  have HEL := Lib.hid hel
  have HEM := Lib.hid hem
  have HWW := Lib.hid hw
  have HEE := Lib.hid hE
  have HB0 := Lib.hid hb
  unfold maxLen at h2 k2
  clear hb hel hem hw hE
  go_enter Tryz.func139, Tryz.ntmps139
  go_wp2
  go_loopw [5] (fun i wr => ∃ j : Nat, i = .int .i64 j ∧ j ≤ n ∧ Below W.heap.size W wr) (fun i _ => n - (intOf i).toNat)
  case atStart => exact ⟨0, rfl, Nat.zero_le _, Below.refl _ _⟩
  case round =>
    obtain ⟨j, rfl, hj, hbr⟩ := hrel
    have HBR := Lib.hid hbr
    clear hbr
    by_cases hlt : j < n
    · have g1 : (j : Int) < (n : Int) := by omega
      have g0 : (0 : Int) ≤ (j : Int) := by omega
      have g2 : j < lc := by omega
      have g3 : j < mc := by omega
      obtain ⟨bb1, oo1, rfl, -, hb1, hc1⟩ := HEL.out j hlt
      obtain ⟨bb2, oo2, rfl, -, hb2, hc2⟩ := HEM.out j hlt
      obtain ⟨vs, hr1, hat1, -⟩ := sm_rep_row (n := 0) (i := j) (k := 12) (x := cellsA (row j)) rfl (fun q hq => by rw [getA _ q hq]; exact hc1 q hq)
      obtain ⟨us, hr2, hat2, -⟩ := sm_rep_row (n := 0) (i := j) (k := 12) (x := cellsA (row j)) rfl (fun q hq => by rw [getA _ q hq]; exact hc2 q hq)
      obtain ⟨c0, c1, c2, c3, c4, a5, n5, p5, b5, m5, q5, a6, n6, p6, b6, m6, q6, a7, n7, p7, b7, m7, q7, c8, a9, n9, p9, b9, m9, q9, a10, n10, p10, b10, m10, q10, c11, rfl, rfl, -⟩ := twoA (row := row j) (HWW.out j hlt) hr1 hr2
      have HE : Hid (∀ W', Below W.heap.size W W' → Calls Tryz.prog 177 #[.agg #[.int .u8 c0, .string c1, .int .u8 c2, .int .i64 c3, .string c4, .slice a5 n5 p5, .slice a6 n6 p6, .slice a7 n7 p7, .int .u8 c8, .slice a9 n9 p9, .slice a10 n10 p10, .string c11], .agg #[.int .u8 c0, .string c1, .int .u8 c2, .int .i64 c3, .string c4, .slice b5 m5 q5, .slice b6 m6 q6, .slice b7 m7 q7, .int .u8 c8, .slice b9 m9 q9, .slice b10 m10 q10, .string c11]] W' fun e W'' => e = .returned (.bool true) ∧ Below W.heap.size W W'') := fun W' h =>
        (HEE.out j hlt W' _ _ (HB0.out.trans (h.mono HB0.out.size)) hr1 hr2).mono fun e W'' ⟨h1, h2⟩ => ⟨h1, h.trans (h2.mono h.size)⟩
      have KS : Hid (∀ W', Below W.heap.size W W' → (fun W' => Below W.heap.size W W' ∧ W'.cell? ⟨bb1, oo1 + j * 12, none⟩ = some (.int .u8 c0) ∧ W'.cell? ⟨bb1, oo1 + j * 12 + 1, none⟩ = some (.string c1) ∧ W'.cell? ⟨bb1, oo1 + j * 12 + 2, none⟩ = some (.int .u8 c2) ∧ W'.cell? ⟨bb1, oo1 + j * 12 + 3, none⟩ = some (.int .i64 c3) ∧ W'.cell? ⟨bb1, oo1 + j * 12 + 4, none⟩ = some (.string c4) ∧ W'.cell? ⟨bb1, oo1 + j * 12 + 5, none⟩ = some (.slice a5 n5 p5) ∧ W'.cell? ⟨bb1, oo1 + j * 12 + 6, none⟩ = some (.slice a6 n6 p6) ∧ W'.cell? ⟨bb1, oo1 + j * 12 + 7, none⟩ = some (.slice a7 n7 p7) ∧ W'.cell? ⟨bb1, oo1 + j * 12 + 8, none⟩ = some (.int .u8 c8) ∧ W'.cell? ⟨bb1, oo1 + j * 12 + 9, none⟩ = some (.slice a9 n9 p9) ∧ W'.cell? ⟨bb1, oo1 + j * 12 + 10, none⟩ = some (.slice a10 n10 p10) ∧ W'.cell? ⟨bb1, oo1 + j * 12 + 11, none⟩ = some (.string c11) ∧ W'.cell? ⟨bb2, oo2 + j * 12, none⟩ = some (.int .u8 c0) ∧ W'.cell? ⟨bb2, oo2 + j * 12 + 1, none⟩ = some (.string c1) ∧ W'.cell? ⟨bb2, oo2 + j * 12 + 2, none⟩ = some (.int .u8 c2) ∧ W'.cell? ⟨bb2, oo2 + j * 12 + 3, none⟩ = some (.int .i64 c3) ∧ W'.cell? ⟨bb2, oo2 + j * 12 + 4, none⟩ = some (.string c4) ∧ W'.cell? ⟨bb2, oo2 + j * 12 + 5, none⟩ = some (.slice b5 m5 q5) ∧ W'.cell? ⟨bb2, oo2 + j * 12 + 6, none⟩ = some (.slice b6 m6 q6) ∧ W'.cell? ⟨bb2, oo2 + j * 12 + 7, none⟩ = some (.slice b7 m7 q7) ∧ W'.cell? ⟨bb2, oo2 + j * 12 + 8, none⟩ = some (.int .u8 c8) ∧ W'.cell? ⟨bb2, oo2 + j * 12 + 9, none⟩ = some (.slice b9 m9 q9) ∧ W'.cell? ⟨bb2, oo2 + j * 12 + 10, none⟩ = some (.slice b10 m10 q10) ∧ W'.cell? ⟨bb2, oo2 + j * 12 + 11, none⟩ = some (.string c11)) W') := fun W' h => by
        have hlow := HB0.out.trans (h.mono HB0.out.size)
        have hk1 : ∀ q y, ([.int .u8 c0, .string c1, .int .u8 c2, .int .i64 c3, .string c4, .slice a5 n5 p5, .slice a6 n6 p6, .slice a7 n7 p7, .int .u8 c8, .slice a9 n9 p9, .slice a10 n10 p10, .string c11] : List Value)[q]? = some y → W'.cell? ⟨bb1, oo1 + j * 12 + q, none⟩ = some y := fun q y hy => by
          rw [hlow.cell (p := ⟨bb1, oo1 + j * 12 + q, none⟩) hb1, hat1 q (List.getElem?_eq_some_iff.1 hy).1]; exact hy
        have hk2 : ∀ q y, ([.int .u8 c0, .string c1, .int .u8 c2, .int .i64 c3, .string c4, .slice b5 m5 q5, .slice b6 m6 q6, .slice b7 m7 q7, .int .u8 c8, .slice b9 m9 q9, .slice b10 m10 q10, .string c11] : List Value)[q]? = some y → W'.cell? ⟨bb2, oo2 + j * 12 + q, none⟩ = some y := fun q y hy => by
          rw [hlow.cell (p := ⟨bb2, oo2 + j * 12 + q, none⟩) hb2, hat2 q (List.getElem?_eq_some_iff.1 hy).1]; exact hy
        exact ⟨h, hk1 0 _ rfl, hk1 1 _ rfl, hk1 2 _ rfl, hk1 3 _ rfl, hk1 4 _ rfl, hk1 5 _ rfl, hk1 6 _ rfl, hk1 7 _ rfl, hk1 8 _ rfl, hk1 9 _ rfl, hk1 10 _ rfl, hk1 11 _ rfl, hk2 0 _ rfl, hk2 1 _ rfl, hk2 2 _ rfl, hk2 3 _ rfl, hk2 4 _ rfl, hk2 5 _ rfl, hk2 6 _ rfl, hk2 7 _ rfl, hk2 8 _ rfl, hk2 9 _ rfl, hk2 10 _ rfl, hk2 11 _ rfl⟩
      clear hr1 hr2 hat1 hat2 hc1 hc2
      go_upto_region 6 with fail
      go_region_held3 (fun W' => Below W.heap.size W W' ∧ W'.cell? ⟨bb1, oo1 + j * 12, none⟩ = some (.int .u8 c0) ∧ W'.cell? ⟨bb1, oo1 + j * 12 + 1, none⟩ = some (.string c1) ∧ W'.cell? ⟨bb1, oo1 + j * 12 + 2, none⟩ = some (.int .u8 c2) ∧ W'.cell? ⟨bb1, oo1 + j * 12 + 3, none⟩ = some (.int .i64 c3) ∧ W'.cell? ⟨bb1, oo1 + j * 12 + 4, none⟩ = some (.string c4) ∧ W'.cell? ⟨bb1, oo1 + j * 12 + 5, none⟩ = some (.slice a5 n5 p5) ∧ W'.cell? ⟨bb1, oo1 + j * 12 + 6, none⟩ = some (.slice a6 n6 p6) ∧ W'.cell? ⟨bb1, oo1 + j * 12 + 7, none⟩ = some (.slice a7 n7 p7) ∧ W'.cell? ⟨bb1, oo1 + j * 12 + 8, none⟩ = some (.int .u8 c8) ∧ W'.cell? ⟨bb1, oo1 + j * 12 + 9, none⟩ = some (.slice a9 n9 p9) ∧ W'.cell? ⟨bb1, oo1 + j * 12 + 10, none⟩ = some (.slice a10 n10 p10) ∧ W'.cell? ⟨bb1, oo1 + j * 12 + 11, none⟩ = some (.string c11) ∧ W'.cell? ⟨bb2, oo2 + j * 12, none⟩ = some (.int .u8 c0) ∧ W'.cell? ⟨bb2, oo2 + j * 12 + 1, none⟩ = some (.string c1) ∧ W'.cell? ⟨bb2, oo2 + j * 12 + 2, none⟩ = some (.int .u8 c2) ∧ W'.cell? ⟨bb2, oo2 + j * 12 + 3, none⟩ = some (.int .i64 c3) ∧ W'.cell? ⟨bb2, oo2 + j * 12 + 4, none⟩ = some (.string c4) ∧ W'.cell? ⟨bb2, oo2 + j * 12 + 5, none⟩ = some (.slice b5 m5 q5) ∧ W'.cell? ⟨bb2, oo2 + j * 12 + 6, none⟩ = some (.slice b6 m6 q6) ∧ W'.cell? ⟨bb2, oo2 + j * 12 + 7, none⟩ = some (.slice b7 m7 q7) ∧ W'.cell? ⟨bb2, oo2 + j * 12 + 8, none⟩ = some (.int .u8 c8) ∧ W'.cell? ⟨bb2, oo2 + j * 12 + 9, none⟩ = some (.slice b9 m9 q9) ∧ W'.cell? ⟨bb2, oo2 + j * 12 + 10, none⟩ = some (.slice b10 m10 q10) ∧ W'.cell? ⟨bb2, oo2 + j * 12 + 11, none⟩ = some (.string c11))
        (first | (refine KS.out _ ?_; with_reducible exact HBR.out.drew) | (refine KS.out _ ?_; with_reducible assumption) | with_reducible assumption)
        (first
          | (go_at_call 177; refine (HE.out _ ?_).mono ?_; (go_split_ands; assumption); rintro x w3 ⟨rfl, hb3⟩))
      have HB3 := Lib.hid hb3
      clear KS HE
      go_wp2
      go_roundw
      case rel => exact ⟨j + 1, by go_num, by omega, HB3.out⟩
      case measure => simp [intOf]; try omega
    · have hn : ¬ (j : Int) < (n : Int) := by omega
      obtain rfl : n = j := by omega
      go_wp2
      try go_ret
      exact ⟨rfl, HBR.out⟩
theorem getS (row : Nat → T) : ∀ j, j < 17 → (cellsS row).getD j default = row j := fun j hj => match j, hj with
  | 0, _ => rfl
  | 1, _ => rfl
  | 2, _ => rfl
  | 3, _ => rfl
  | 4, _ => rfl
  | 5, _ => rfl
  | 6, _ => rfl
  | 7, _ => rfl
  | 8, _ => rfl
  | 9, _ => rfl
  | 10, _ => rfl
  | 11, _ => rfl
  | 12, _ => rfl
  | 13, _ => rfl
  | 14, _ => rfl
  | 15, _ => rfl
  | 16, _ => rfl
  | j + 17, h => absurd h (by omega)
set_option maxRecDepth 100000 in
set_option maxHeartbeats 16000000 in
theorem sameL2 (w0 : World) (n : Nat) (row : Nat → Nat → T) (hw : ∀ i, i < n → WS (row i)) (hE : ∀ i, i < n → SS w0 (row i)) : LX2 w0 (.ls n 17 row) := by
  intro W a b hb hr hs
  obtain ⟨la, lc, rfl, h1, h2, hel⟩ := hr
  obtain ⟨ma, mc, rfl, k1, k2, hem⟩ := hs
  have HEL := Lib.hid hel
  have HEM := Lib.hid hem
  have HWW := Lib.hid hw
  have HEE := Lib.hid hE
  have HB0 := Lib.hid hb
  unfold maxLen at h2 k2
  clear hb hel hem hw hE
  go_enter Tryz.func81, Tryz.ntmps81
  go_wp2
  go_loopw [5] (fun i wr => ∃ j : Nat, i = .int .i64 j ∧ j ≤ n ∧ Below W.heap.size W wr) (fun i _ => n - (intOf i).toNat)
  case atStart => exact ⟨0, rfl, Nat.zero_le _, Below.refl _ _⟩
  case round =>
    obtain ⟨j, rfl, hj, hbr⟩ := hrel
    have HBR := Lib.hid hbr
    clear hbr
    by_cases hlt : j < n
    · have g1 : (j : Int) < (n : Int) := by omega
      have g0 : (0 : Int) ≤ (j : Int) := by omega
      have g2 : j < lc := by omega
      have g3 : j < mc := by omega
      obtain ⟨bb1, oo1, rfl, -, hb1, hc1⟩ := HEL.out j hlt
      obtain ⟨bb2, oo2, rfl, -, hb2, hc2⟩ := HEM.out j hlt
      obtain ⟨vs, hr1, hat1, -⟩ := sm_rep_row (n := 0) (i := j) (k := 17) (x := cellsS (row j)) rfl (fun q hq => by rw [getS _ q hq]; exact hc1 q hq)
      obtain ⟨us, hr2, hat2, -⟩ := sm_rep_row (n := 0) (i := j) (k := 17) (x := cellsS (row j)) rfl (fun q hq => by rw [getS _ q hq]; exact hc2 q hq)
      obtain ⟨c0, c1, c2, c3, c4, c5, a6, n6, p6, b6, m6, q6, a7, n7, p7, b7, m7, q7, a8, n8, p8, b8, m8, q8, c9, a10, n10, p10, b10, m10, q10, a11, n11, p11, b11, m11, q11, c12, a13, n13, p13, b13, m13, q13, a14, n14, p14, b14, m14, q14, a15, n15, p15, b15, m15, q15, a16, n16, p16, b16, m16, q16, rfl, rfl, -⟩ := twoS (row := row j) (HWW.out j hlt) hr1 hr2
      have HE : Hid (∀ W', Below W.heap.size W W' → Calls Tryz.prog 136 #[.agg #[.int .u8 c0, .string c1, .string c2, .int .u8 c3, .int .i64 c4, .string c5, .slice a6 n6 p6, .slice a7 n7 p7, .slice a8 n8 p8, .int .u8 c9, .slice a10 n10 p10, .slice a11 n11 p11, .string c12, .slice a13 n13 p13, .slice a14 n14 p14, .slice a15 n15 p15, .slice a16 n16 p16], .agg #[.int .u8 c0, .string c1, .string c2, .int .u8 c3, .int .i64 c4, .string c5, .slice b6 m6 q6, .slice b7 m7 q7, .slice b8 m8 q8, .int .u8 c9, .slice b10 m10 q10, .slice b11 m11 q11, .string c12, .slice b13 m13 q13, .slice b14 m14 q14, .slice b15 m15 q15, .slice b16 m16 q16]] W' fun e W'' => e = .returned (.bool true) ∧ Below W.heap.size W W'') := fun W' h =>
        (HEE.out j hlt W' _ _ (HB0.out.trans (h.mono HB0.out.size)) hr1 hr2).mono fun e W'' ⟨h1, h2⟩ => ⟨h1, h.trans (h2.mono h.size)⟩
      have KS : Hid (∀ W', Below W.heap.size W W' → (fun W' => Below W.heap.size W W' ∧ W'.cell? ⟨bb1, oo1 + j * 17, none⟩ = some (.int .u8 c0) ∧ W'.cell? ⟨bb1, oo1 + j * 17 + 1, none⟩ = some (.string c1) ∧ W'.cell? ⟨bb1, oo1 + j * 17 + 2, none⟩ = some (.string c2) ∧ W'.cell? ⟨bb1, oo1 + j * 17 + 3, none⟩ = some (.int .u8 c3) ∧ W'.cell? ⟨bb1, oo1 + j * 17 + 4, none⟩ = some (.int .i64 c4) ∧ W'.cell? ⟨bb1, oo1 + j * 17 + 5, none⟩ = some (.string c5) ∧ W'.cell? ⟨bb1, oo1 + j * 17 + 6, none⟩ = some (.slice a6 n6 p6) ∧ W'.cell? ⟨bb1, oo1 + j * 17 + 7, none⟩ = some (.slice a7 n7 p7) ∧ W'.cell? ⟨bb1, oo1 + j * 17 + 8, none⟩ = some (.slice a8 n8 p8) ∧ W'.cell? ⟨bb1, oo1 + j * 17 + 9, none⟩ = some (.int .u8 c9) ∧ W'.cell? ⟨bb1, oo1 + j * 17 + 10, none⟩ = some (.slice a10 n10 p10) ∧ W'.cell? ⟨bb1, oo1 + j * 17 + 11, none⟩ = some (.slice a11 n11 p11) ∧ W'.cell? ⟨bb1, oo1 + j * 17 + 12, none⟩ = some (.string c12) ∧ W'.cell? ⟨bb1, oo1 + j * 17 + 13, none⟩ = some (.slice a13 n13 p13) ∧ W'.cell? ⟨bb1, oo1 + j * 17 + 14, none⟩ = some (.slice a14 n14 p14) ∧ W'.cell? ⟨bb1, oo1 + j * 17 + 15, none⟩ = some (.slice a15 n15 p15) ∧ W'.cell? ⟨bb1, oo1 + j * 17 + 16, none⟩ = some (.slice a16 n16 p16) ∧ W'.cell? ⟨bb2, oo2 + j * 17, none⟩ = some (.int .u8 c0) ∧ W'.cell? ⟨bb2, oo2 + j * 17 + 1, none⟩ = some (.string c1) ∧ W'.cell? ⟨bb2, oo2 + j * 17 + 2, none⟩ = some (.string c2) ∧ W'.cell? ⟨bb2, oo2 + j * 17 + 3, none⟩ = some (.int .u8 c3) ∧ W'.cell? ⟨bb2, oo2 + j * 17 + 4, none⟩ = some (.int .i64 c4) ∧ W'.cell? ⟨bb2, oo2 + j * 17 + 5, none⟩ = some (.string c5) ∧ W'.cell? ⟨bb2, oo2 + j * 17 + 6, none⟩ = some (.slice b6 m6 q6) ∧ W'.cell? ⟨bb2, oo2 + j * 17 + 7, none⟩ = some (.slice b7 m7 q7) ∧ W'.cell? ⟨bb2, oo2 + j * 17 + 8, none⟩ = some (.slice b8 m8 q8) ∧ W'.cell? ⟨bb2, oo2 + j * 17 + 9, none⟩ = some (.int .u8 c9) ∧ W'.cell? ⟨bb2, oo2 + j * 17 + 10, none⟩ = some (.slice b10 m10 q10) ∧ W'.cell? ⟨bb2, oo2 + j * 17 + 11, none⟩ = some (.slice b11 m11 q11) ∧ W'.cell? ⟨bb2, oo2 + j * 17 + 12, none⟩ = some (.string c12) ∧ W'.cell? ⟨bb2, oo2 + j * 17 + 13, none⟩ = some (.slice b13 m13 q13) ∧ W'.cell? ⟨bb2, oo2 + j * 17 + 14, none⟩ = some (.slice b14 m14 q14) ∧ W'.cell? ⟨bb2, oo2 + j * 17 + 15, none⟩ = some (.slice b15 m15 q15) ∧ W'.cell? ⟨bb2, oo2 + j * 17 + 16, none⟩ = some (.slice b16 m16 q16)) W') := fun W' h => by
        have hlow := HB0.out.trans (h.mono HB0.out.size)
        have hk1 : ∀ q y, ([.int .u8 c0, .string c1, .string c2, .int .u8 c3, .int .i64 c4, .string c5, .slice a6 n6 p6, .slice a7 n7 p7, .slice a8 n8 p8, .int .u8 c9, .slice a10 n10 p10, .slice a11 n11 p11, .string c12, .slice a13 n13 p13, .slice a14 n14 p14, .slice a15 n15 p15, .slice a16 n16 p16] : List Value)[q]? = some y → W'.cell? ⟨bb1, oo1 + j * 17 + q, none⟩ = some y := fun q y hy => by
          rw [hlow.cell (p := ⟨bb1, oo1 + j * 17 + q, none⟩) hb1, hat1 q (List.getElem?_eq_some_iff.1 hy).1]; exact hy
        have hk2 : ∀ q y, ([.int .u8 c0, .string c1, .string c2, .int .u8 c3, .int .i64 c4, .string c5, .slice b6 m6 q6, .slice b7 m7 q7, .slice b8 m8 q8, .int .u8 c9, .slice b10 m10 q10, .slice b11 m11 q11, .string c12, .slice b13 m13 q13, .slice b14 m14 q14, .slice b15 m15 q15, .slice b16 m16 q16] : List Value)[q]? = some y → W'.cell? ⟨bb2, oo2 + j * 17 + q, none⟩ = some y := fun q y hy => by
          rw [hlow.cell (p := ⟨bb2, oo2 + j * 17 + q, none⟩) hb2, hat2 q (List.getElem?_eq_some_iff.1 hy).1]; exact hy
        exact ⟨h, hk1 0 _ rfl, hk1 1 _ rfl, hk1 2 _ rfl, hk1 3 _ rfl, hk1 4 _ rfl, hk1 5 _ rfl, hk1 6 _ rfl, hk1 7 _ rfl, hk1 8 _ rfl, hk1 9 _ rfl, hk1 10 _ rfl, hk1 11 _ rfl, hk1 12 _ rfl, hk1 13 _ rfl, hk1 14 _ rfl, hk1 15 _ rfl, hk1 16 _ rfl, hk2 0 _ rfl, hk2 1 _ rfl, hk2 2 _ rfl, hk2 3 _ rfl, hk2 4 _ rfl, hk2 5 _ rfl, hk2 6 _ rfl, hk2 7 _ rfl, hk2 8 _ rfl, hk2 9 _ rfl, hk2 10 _ rfl, hk2 11 _ rfl, hk2 12 _ rfl, hk2 13 _ rfl, hk2 14 _ rfl, hk2 15 _ rfl, hk2 16 _ rfl⟩
      clear hr1 hr2 hat1 hat2 hc1 hc2
      go_upto_region 6 with fail
      go_region_held3 (fun W' => Below W.heap.size W W' ∧ W'.cell? ⟨bb1, oo1 + j * 17, none⟩ = some (.int .u8 c0) ∧ W'.cell? ⟨bb1, oo1 + j * 17 + 1, none⟩ = some (.string c1) ∧ W'.cell? ⟨bb1, oo1 + j * 17 + 2, none⟩ = some (.string c2) ∧ W'.cell? ⟨bb1, oo1 + j * 17 + 3, none⟩ = some (.int .u8 c3) ∧ W'.cell? ⟨bb1, oo1 + j * 17 + 4, none⟩ = some (.int .i64 c4) ∧ W'.cell? ⟨bb1, oo1 + j * 17 + 5, none⟩ = some (.string c5) ∧ W'.cell? ⟨bb1, oo1 + j * 17 + 6, none⟩ = some (.slice a6 n6 p6) ∧ W'.cell? ⟨bb1, oo1 + j * 17 + 7, none⟩ = some (.slice a7 n7 p7) ∧ W'.cell? ⟨bb1, oo1 + j * 17 + 8, none⟩ = some (.slice a8 n8 p8) ∧ W'.cell? ⟨bb1, oo1 + j * 17 + 9, none⟩ = some (.int .u8 c9) ∧ W'.cell? ⟨bb1, oo1 + j * 17 + 10, none⟩ = some (.slice a10 n10 p10) ∧ W'.cell? ⟨bb1, oo1 + j * 17 + 11, none⟩ = some (.slice a11 n11 p11) ∧ W'.cell? ⟨bb1, oo1 + j * 17 + 12, none⟩ = some (.string c12) ∧ W'.cell? ⟨bb1, oo1 + j * 17 + 13, none⟩ = some (.slice a13 n13 p13) ∧ W'.cell? ⟨bb1, oo1 + j * 17 + 14, none⟩ = some (.slice a14 n14 p14) ∧ W'.cell? ⟨bb1, oo1 + j * 17 + 15, none⟩ = some (.slice a15 n15 p15) ∧ W'.cell? ⟨bb1, oo1 + j * 17 + 16, none⟩ = some (.slice a16 n16 p16) ∧ W'.cell? ⟨bb2, oo2 + j * 17, none⟩ = some (.int .u8 c0) ∧ W'.cell? ⟨bb2, oo2 + j * 17 + 1, none⟩ = some (.string c1) ∧ W'.cell? ⟨bb2, oo2 + j * 17 + 2, none⟩ = some (.string c2) ∧ W'.cell? ⟨bb2, oo2 + j * 17 + 3, none⟩ = some (.int .u8 c3) ∧ W'.cell? ⟨bb2, oo2 + j * 17 + 4, none⟩ = some (.int .i64 c4) ∧ W'.cell? ⟨bb2, oo2 + j * 17 + 5, none⟩ = some (.string c5) ∧ W'.cell? ⟨bb2, oo2 + j * 17 + 6, none⟩ = some (.slice b6 m6 q6) ∧ W'.cell? ⟨bb2, oo2 + j * 17 + 7, none⟩ = some (.slice b7 m7 q7) ∧ W'.cell? ⟨bb2, oo2 + j * 17 + 8, none⟩ = some (.slice b8 m8 q8) ∧ W'.cell? ⟨bb2, oo2 + j * 17 + 9, none⟩ = some (.int .u8 c9) ∧ W'.cell? ⟨bb2, oo2 + j * 17 + 10, none⟩ = some (.slice b10 m10 q10) ∧ W'.cell? ⟨bb2, oo2 + j * 17 + 11, none⟩ = some (.slice b11 m11 q11) ∧ W'.cell? ⟨bb2, oo2 + j * 17 + 12, none⟩ = some (.string c12) ∧ W'.cell? ⟨bb2, oo2 + j * 17 + 13, none⟩ = some (.slice b13 m13 q13) ∧ W'.cell? ⟨bb2, oo2 + j * 17 + 14, none⟩ = some (.slice b14 m14 q14) ∧ W'.cell? ⟨bb2, oo2 + j * 17 + 15, none⟩ = some (.slice b15 m15 q15) ∧ W'.cell? ⟨bb2, oo2 + j * 17 + 16, none⟩ = some (.slice b16 m16 q16))
        (first | (refine KS.out _ ?_; with_reducible exact HBR.out.drew) | (refine KS.out _ ?_; with_reducible assumption) | with_reducible assumption)
        (first
          | (go_at_call 136; refine (HE.out _ ?_).mono ?_; (go_split_ands; assumption); rintro x w3 ⟨rfl, hb3⟩))
      have HB3 := Lib.hid hb3
      clear KS HE
      go_wp2
      go_roundw
      case rel => exact ⟨j + 1, by go_num, by omega, HB3.out⟩
      case measure => simp [intOf]; try omega
    · have hn : ¬ (j : Int) < (n : Int) := by omega
      obtain rfl : n = j := by omega
      go_wp2
      try go_ret
      exact ⟨rfl, HBR.out⟩
set_option maxRecDepth 100000 in
set_option maxHeartbeats 8000000 in
theorem sameL3 (w0 : World) (t : T) (hw : Wf 3 t) : LX3 w0 t := by
  intro W a b hb hr hs
  cases t with
  | sc v => exact hw.elim
  | ls n k row =>
  obtain ⟨rfl, hst⟩ := (wf3 _ _ _).1 hw
  obtain ⟨la, lc, rfl, h1, h2, hel⟩ := hr
  obtain ⟨ma, mc, rfl, k1, k2, hem⟩ := hs
  have HEL := Lib.hid hel
  have HEM := Lib.hid hem
  have HST := Lib.hid hst
  have HB0 := Lib.hid hb
  unfold maxLen at h2 k2
  clear hb hel hem hw hst
  go_enter Tryz.func138, Tryz.ntmps138
  go_wp2
  go_loopw [5] (fun i wr => ∃ j : Nat, i = .int .i64 j ∧ j ≤ n ∧ Below W.heap.size W wr) (fun i _ => n - (intOf i).toNat)
  case atStart => exact ⟨0, rfl, Nat.zero_le _, Below.refl _ _⟩
  case round =>
    obtain ⟨j, rfl, hj, hbr⟩ := hrel
    have HBR := Lib.hid hbr
    clear hbr
    by_cases hlt : j < n
    · have g1 : (j : Int) < (n : Int) := by omega
      have g0 : (0 : Int) ≤ (j : Int) := by omega
      have g2 : j < lc := by omega
      have g3 : j < mc := by omega
      obtain ⟨bb1, oo1, rfl, -, hb1, hc1⟩ := HEL.out j hlt
      obtain ⟨bb2, oo2, rfl, -, hb2, hc2⟩ := HEM.out j hlt
      obtain ⟨y, f0, g⟩ := hc1 0 (by decide)
      obtain ⟨z, f1, k⟩ := hc2 0 (by decide)
      obtain ⟨s, rfl, e⟩ := st_rep (HST.out j hlt) g
      rw [e] at k
      obtain rfl : z = _ := k
      have hlow := HB0.out.trans (HBR.out.mono HB0.out.size)
      have f0' : wr.cell? ⟨bb1, oo1 + j, none⟩ = some (.string s) := by rw [hlow.cell (p := ⟨bb1, oo1 + j, none⟩) hb1]; simpa using f0
      have f1' : wr.cell? ⟨bb2, oo2 + j, none⟩ = some (.string s) := by rw [hlow.cell (p := ⟨bb2, oo2 + j, none⟩) hb2]; simpa using f1
      clear f0 f1 g hlow hc1 hc2
      go_upto_region 6 with fail
      go_quiet (fail)
      go_wp2
      go_roundw
      case rel => exact ⟨j + 1, by go_num, by omega, HBR.out.trans ((below_drewNP _ _).mono HBR.out.size)⟩
      case measure => simp [intOf]; try omega
    · have hn : ¬ (j : Int) < (n : Int) := by omega
      obtain rfl : n = j := by omega
      go_wp2
      try go_ret
      exact ⟨rfl, HBR.out⟩
theorem getC (row : Nat → T) : ∀ j, j < 13 → (cellsC row).getD j default = row j := fun j hj => match j, hj with
  | 0, _ => rfl
  | 1, _ => rfl
  | 2, _ => rfl
  | 3, _ => rfl
  | 4, _ => rfl
  | 5, _ => rfl
  | 6, _ => rfl
  | 7, _ => rfl
  | 8, _ => rfl
  | 9, _ => rfl
  | 10, _ => rfl
  | 11, _ => rfl
  | 12, _ => rfl
  | j + 13, h => absurd h (by omega)
set_option maxRecDepth 100000 in
set_option maxHeartbeats 16000000 in
theorem sameL4 (w0 : World) (n : Nat) (row : Nat → Nat → T) (hw : ∀ i, i < n → WC (row i)) (hE : ∀ i, i < n → SC w0 (row i)) : LX4 w0 (.ls n 13 row) := by
  intro W a b hb hr hs
  obtain ⟨la, lc, rfl, h1, h2, hel⟩ := hr
  obtain ⟨ma, mc, rfl, k1, k2, hem⟩ := hs
  have HEL := Lib.hid hel
  have HEM := Lib.hid hem
  have HWW := Lib.hid hw
  have HEE := Lib.hid hE
  have HB0 := Lib.hid hb
  unfold maxLen at h2 k2
  clear hb hel hem hw hE
  go_enter Tryz.func31, Tryz.ntmps31
  go_wp2
  go_loopw [5] (fun i wr => ∃ j : Nat, i = .int .i64 j ∧ j ≤ n ∧ Below W.heap.size W wr) (fun i _ => n - (intOf i).toNat)
  case atStart => exact ⟨0, rfl, Nat.zero_le _, Below.refl _ _⟩
  case round =>
    obtain ⟨j, rfl, hj, hbr⟩ := hrel
    have HBR := Lib.hid hbr
    clear hbr
    by_cases hlt : j < n
    · have g1 : (j : Int) < (n : Int) := by omega
      have g0 : (0 : Int) ≤ (j : Int) := by omega
      have g2 : j < lc := by omega
      have g3 : j < mc := by omega
      obtain ⟨bb1, oo1, rfl, -, hb1, hc1⟩ := HEL.out j hlt
      obtain ⟨bb2, oo2, rfl, -, hb2, hc2⟩ := HEM.out j hlt
      obtain ⟨vs, hr1, hat1, -⟩ := sm_rep_row (n := 0) (i := j) (k := 13) (x := cellsC (row j)) rfl (fun q hq => by rw [getC _ q hq]; exact hc1 q hq)
      obtain ⟨us, hr2, hat2, -⟩ := sm_rep_row (n := 0) (i := j) (k := 13) (x := cellsC (row j)) rfl (fun q hq => by rw [getC _ q hq]; exact hc2 q hq)
      obtain ⟨c0, c1, a2, n2, p2, b2, m2, q2, c3, c4, c5, a6, n6, p6, b6, m6, q6, a7, n7, p7, b7, m7, q7, a8, n8, p8, b8, m8, q8, c9, a10, n10, p10, b10, m10, q10, a11, n11, p11, b11, m11, q11, c12, rfl, rfl, -⟩ := twoC (row := row j) (HWW.out j hlt) hr1 hr2
      have HE : Hid (∀ W', Below W.heap.size W W' → Calls Tryz.prog 48 #[.agg #[.string c0, .string c1, .slice a2 n2 p2, .int .u8 c3, .int .i64 c4, .string c5, .slice a6 n6 p6, .slice a7 n7 p7, .slice a8 n8 p8, .int .u8 c9, .slice a10 n10 p10, .slice a11 n11 p11, .string c12], .agg #[.string c0, .string c1, .slice b2 m2 q2, .int .u8 c3, .int .i64 c4, .string c5, .slice b6 m6 q6, .slice b7 m7 q7, .slice b8 m8 q8, .int .u8 c9, .slice b10 m10 q10, .slice b11 m11 q11, .string c12]] W' fun e W'' => e = .returned (.bool true) ∧ Below W.heap.size W W'') := fun W' h =>
        (HEE.out j hlt W' _ _ (HB0.out.trans (h.mono HB0.out.size)) hr1 hr2).mono fun e W'' ⟨h1, h2⟩ => ⟨h1, h.trans (h2.mono h.size)⟩
      have KS : Hid (∀ W', Below W.heap.size W W' → (fun W' => Below W.heap.size W W' ∧ W'.cell? ⟨bb1, oo1 + j * 13, none⟩ = some (.string c0) ∧ W'.cell? ⟨bb1, oo1 + j * 13 + 1, none⟩ = some (.string c1) ∧ W'.cell? ⟨bb1, oo1 + j * 13 + 2, none⟩ = some (.slice a2 n2 p2) ∧ W'.cell? ⟨bb1, oo1 + j * 13 + 3, none⟩ = some (.int .u8 c3) ∧ W'.cell? ⟨bb1, oo1 + j * 13 + 4, none⟩ = some (.int .i64 c4) ∧ W'.cell? ⟨bb1, oo1 + j * 13 + 5, none⟩ = some (.string c5) ∧ W'.cell? ⟨bb1, oo1 + j * 13 + 6, none⟩ = some (.slice a6 n6 p6) ∧ W'.cell? ⟨bb1, oo1 + j * 13 + 7, none⟩ = some (.slice a7 n7 p7) ∧ W'.cell? ⟨bb1, oo1 + j * 13 + 8, none⟩ = some (.slice a8 n8 p8) ∧ W'.cell? ⟨bb1, oo1 + j * 13 + 9, none⟩ = some (.int .u8 c9) ∧ W'.cell? ⟨bb1, oo1 + j * 13 + 10, none⟩ = some (.slice a10 n10 p10) ∧ W'.cell? ⟨bb1, oo1 + j * 13 + 11, none⟩ = some (.slice a11 n11 p11) ∧ W'.cell? ⟨bb1, oo1 + j * 13 + 12, none⟩ = some (.string c12) ∧ W'.cell? ⟨bb2, oo2 + j * 13, none⟩ = some (.string c0) ∧ W'.cell? ⟨bb2, oo2 + j * 13 + 1, none⟩ = some (.string c1) ∧ W'.cell? ⟨bb2, oo2 + j * 13 + 2, none⟩ = some (.slice b2 m2 q2) ∧ W'.cell? ⟨bb2, oo2 + j * 13 + 3, none⟩ = some (.int .u8 c3) ∧ W'.cell? ⟨bb2, oo2 + j * 13 + 4, none⟩ = some (.int .i64 c4) ∧ W'.cell? ⟨bb2, oo2 + j * 13 + 5, none⟩ = some (.string c5) ∧ W'.cell? ⟨bb2, oo2 + j * 13 + 6, none⟩ = some (.slice b6 m6 q6) ∧ W'.cell? ⟨bb2, oo2 + j * 13 + 7, none⟩ = some (.slice b7 m7 q7) ∧ W'.cell? ⟨bb2, oo2 + j * 13 + 8, none⟩ = some (.slice b8 m8 q8) ∧ W'.cell? ⟨bb2, oo2 + j * 13 + 9, none⟩ = some (.int .u8 c9) ∧ W'.cell? ⟨bb2, oo2 + j * 13 + 10, none⟩ = some (.slice b10 m10 q10) ∧ W'.cell? ⟨bb2, oo2 + j * 13 + 11, none⟩ = some (.slice b11 m11 q11) ∧ W'.cell? ⟨bb2, oo2 + j * 13 + 12, none⟩ = some (.string c12)) W') := fun W' h => by
        have hlow := HB0.out.trans (h.mono HB0.out.size)
        have hk1 : ∀ q y, ([.string c0, .string c1, .slice a2 n2 p2, .int .u8 c3, .int .i64 c4, .string c5, .slice a6 n6 p6, .slice a7 n7 p7, .slice a8 n8 p8, .int .u8 c9, .slice a10 n10 p10, .slice a11 n11 p11, .string c12] : List Value)[q]? = some y → W'.cell? ⟨bb1, oo1 + j * 13 + q, none⟩ = some y := fun q y hy => by
          rw [hlow.cell (p := ⟨bb1, oo1 + j * 13 + q, none⟩) hb1, hat1 q (List.getElem?_eq_some_iff.1 hy).1]; exact hy
        have hk2 : ∀ q y, ([.string c0, .string c1, .slice b2 m2 q2, .int .u8 c3, .int .i64 c4, .string c5, .slice b6 m6 q6, .slice b7 m7 q7, .slice b8 m8 q8, .int .u8 c9, .slice b10 m10 q10, .slice b11 m11 q11, .string c12] : List Value)[q]? = some y → W'.cell? ⟨bb2, oo2 + j * 13 + q, none⟩ = some y := fun q y hy => by
          rw [hlow.cell (p := ⟨bb2, oo2 + j * 13 + q, none⟩) hb2, hat2 q (List.getElem?_eq_some_iff.1 hy).1]; exact hy
        exact ⟨h, hk1 0 _ rfl, hk1 1 _ rfl, hk1 2 _ rfl, hk1 3 _ rfl, hk1 4 _ rfl, hk1 5 _ rfl, hk1 6 _ rfl, hk1 7 _ rfl, hk1 8 _ rfl, hk1 9 _ rfl, hk1 10 _ rfl, hk1 11 _ rfl, hk1 12 _ rfl, hk2 0 _ rfl, hk2 1 _ rfl, hk2 2 _ rfl, hk2 3 _ rfl, hk2 4 _ rfl, hk2 5 _ rfl, hk2 6 _ rfl, hk2 7 _ rfl, hk2 8 _ rfl, hk2 9 _ rfl, hk2 10 _ rfl, hk2 11 _ rfl, hk2 12 _ rfl⟩
      clear hr1 hr2 hat1 hat2 hc1 hc2
      go_upto_region 6 with fail
      go_region_held3 (fun W' => Below W.heap.size W W' ∧ W'.cell? ⟨bb1, oo1 + j * 13, none⟩ = some (.string c0) ∧ W'.cell? ⟨bb1, oo1 + j * 13 + 1, none⟩ = some (.string c1) ∧ W'.cell? ⟨bb1, oo1 + j * 13 + 2, none⟩ = some (.slice a2 n2 p2) ∧ W'.cell? ⟨bb1, oo1 + j * 13 + 3, none⟩ = some (.int .u8 c3) ∧ W'.cell? ⟨bb1, oo1 + j * 13 + 4, none⟩ = some (.int .i64 c4) ∧ W'.cell? ⟨bb1, oo1 + j * 13 + 5, none⟩ = some (.string c5) ∧ W'.cell? ⟨bb1, oo1 + j * 13 + 6, none⟩ = some (.slice a6 n6 p6) ∧ W'.cell? ⟨bb1, oo1 + j * 13 + 7, none⟩ = some (.slice a7 n7 p7) ∧ W'.cell? ⟨bb1, oo1 + j * 13 + 8, none⟩ = some (.slice a8 n8 p8) ∧ W'.cell? ⟨bb1, oo1 + j * 13 + 9, none⟩ = some (.int .u8 c9) ∧ W'.cell? ⟨bb1, oo1 + j * 13 + 10, none⟩ = some (.slice a10 n10 p10) ∧ W'.cell? ⟨bb1, oo1 + j * 13 + 11, none⟩ = some (.slice a11 n11 p11) ∧ W'.cell? ⟨bb1, oo1 + j * 13 + 12, none⟩ = some (.string c12) ∧ W'.cell? ⟨bb2, oo2 + j * 13, none⟩ = some (.string c0) ∧ W'.cell? ⟨bb2, oo2 + j * 13 + 1, none⟩ = some (.string c1) ∧ W'.cell? ⟨bb2, oo2 + j * 13 + 2, none⟩ = some (.slice b2 m2 q2) ∧ W'.cell? ⟨bb2, oo2 + j * 13 + 3, none⟩ = some (.int .u8 c3) ∧ W'.cell? ⟨bb2, oo2 + j * 13 + 4, none⟩ = some (.int .i64 c4) ∧ W'.cell? ⟨bb2, oo2 + j * 13 + 5, none⟩ = some (.string c5) ∧ W'.cell? ⟨bb2, oo2 + j * 13 + 6, none⟩ = some (.slice b6 m6 q6) ∧ W'.cell? ⟨bb2, oo2 + j * 13 + 7, none⟩ = some (.slice b7 m7 q7) ∧ W'.cell? ⟨bb2, oo2 + j * 13 + 8, none⟩ = some (.slice b8 m8 q8) ∧ W'.cell? ⟨bb2, oo2 + j * 13 + 9, none⟩ = some (.int .u8 c9) ∧ W'.cell? ⟨bb2, oo2 + j * 13 + 10, none⟩ = some (.slice b10 m10 q10) ∧ W'.cell? ⟨bb2, oo2 + j * 13 + 11, none⟩ = some (.slice b11 m11 q11) ∧ W'.cell? ⟨bb2, oo2 + j * 13 + 12, none⟩ = some (.string c12))
        (first | (refine KS.out _ ?_; with_reducible exact HBR.out.drew) | (refine KS.out _ ?_; with_reducible assumption) | with_reducible assumption)
        (first
          | (go_at_call 48; refine (HE.out _ ?_).mono ?_; (go_split_ands; assumption); rintro x w3 ⟨rfl, hb3⟩))
      have HB3 := Lib.hid hb3
      clear KS HE
      go_wp2
      go_roundw
      case rel => exact ⟨j + 1, by go_num, by omega, HB3.out⟩
      case measure => simp [intOf]; try omega
    · have hn : ¬ (j : Int) < (n : Int) := by omega
      obtain rfl : n = j := by omega
      go_wp2
      try go_ret
      exact ⟨rfl, HBR.out⟩
theorem same_tree (w0 : World) : ∀ t : T, (Wf 0 t → LX0 w0 t) ∧ (Wf 1 t → LX1 w0 t) ∧ (Wf 2 t → LX2 w0 t) := by
  intro t
  induction t with
  | sc v => exact ⟨fun h => h.elim, fun h => h.elim, fun h => h.elim⟩
  | ls n k row ih =>
    have step : ∀ i o, WE (row i) o → SE w0 (row i) o := fun i o hw =>
      sameE_step w0 (row i) o hw ((ih i (o + 3)).1 hw.2.2.2.1) (sameL3 w0 _ hw.2.2.2.2.1) ((ih i (o + 5)).1 hw.2.2.2.2.2.1) ((ih i (o + 7)).1 hw.2.2.2.2.2.2.2.1) ((ih i (o + 8)).2.1 hw.2.2.2.2.2.2.2.2.1)
    refine ⟨fun hw => ?_, fun hw => ?_, fun hw => ?_⟩
    · obtain ⟨rfl, h⟩ := (wf0 _ _ _).1 hw
      exact sameL0 w0 n row h fun i hi => step i 0 (h i hi)
    · obtain ⟨rfl, h⟩ := (wf1 _ _ _).1 hw
      exact sameL1 w0 n row h fun i hi => sameA_step w0 (row i) (h i hi) (step i 2 (h i hi).2.2)
    · obtain ⟨rfl, h⟩ := (wf2 _ _ _).1 hw
      exact sameL2 w0 n row h fun i hi => sameS_step w0 (row i) (h i hi) (step i 3 (h i hi).2.2.2.1) ((ih i 13).1 (h i hi).2.2.2.2.1) ((ih i 14).2.1 (h i hi).2.2.2.2.2.1) ((ih i 15).2.1 (h i hi).2.2.2.2.2.2.1) ((ih i 16).2.2 (h i hi).2.2.2.2.2.2.2)
theorem sameE_any (w0 : World) (row : Nat → T) (o : Nat) (hw : WE row o) : SE w0 row o :=
  sameE_step w0 row o hw ((same_tree w0 _).1 hw.2.2.2.1) (sameL3 w0 _ hw.2.2.2.2.1) ((same_tree w0 _).1 hw.2.2.2.2.2.1) ((same_tree w0 _).1 hw.2.2.2.2.2.2.2.1) ((same_tree w0 _).2.1 hw.2.2.2.2.2.2.2.2.1)
theorem sameC_any (w0 : World) (row : Nat → T) (hw : WC row) : SC w0 row := sameC_step w0 row hw (sameE_any w0 row 3 hw.2.2.2) ((same_tree w0 _).2.2 hw.2.2.1)
theorem components_any (w0 : World) (n : Nat) (row : Nat → Nat → T) (hw : ∀ i, i < n → WC (row i)) : LX4 w0 (.ls n 13 row) := sameL4 w0 n row hw fun i hi => sameC_any w0 (row i) (hw i hi)
set_option maxRecDepth 100000 in
theorem same_program (w0 : World) (n : Nat) (row : Nat → Nat → T) (hw : ∀ i, i < n → WC (row i)) (W : World) (a b : Value) (hb : Below w0.heap.size w0 W) (hr : (T.ls n 13 row).Rep w0 (fun _ => True) a) (hs : (T.ls n 13 row).Rep w0 (fun _ => True) b) :
    Calls Tryz.prog 12 #[a, b] W fun e W' => e = .returned (.bool true) ∧ Below W.heap.size W W' := by
  have H := Lib.hid (components_any w0 n row hw W a b hb hr hs)
  clear hr hs hb hw
  go_enter Tryz.func12, Tryz.ntmps12
  go_wp2_with (go_at_call 31; (with_reducible refine H.out.mono ?_); rintro e1 w1 ⟨rfl, hb1⟩; have HB := Lib.hid hb1; clear hb1)
  try go_ret
  exact ⟨rfl, HB.out⟩
end Go.Proofs.YtedmmgfnplbkjaaGreatDoor
