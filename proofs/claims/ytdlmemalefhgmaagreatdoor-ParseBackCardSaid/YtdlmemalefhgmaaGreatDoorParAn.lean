/-
  Plain: the texts that stand in the law's own check, read.
  Conditions: none.
  Plain: the texts of values that stand in the law's own check, read.
  Conditions: none.
  Walks: the law's own check.
  Conditions: the reader lies as 'RD' says; its words are at most 65536.
-/
import Derived.Test.YtdlmemalefhgmaaGreatDoorParA
import Derived.Test.YtdlmemalefhgmaaGreatDoorParV8
namespace Go.Proofs.YtdlmemalefhgmaaGreatDoor.G
open Go.Proofs.YtdlmemalefhgmaaGreatDoor
set_option linter.unusedVariables false
set_option linter.unusedSimpArgs false
def tA : Str := [40, 99, 111, 109, 112, 32, 67, 32, 112, 32, 40, 108, 101, 116, 32, 102, 32, 40, 100, 111, 32, 40, 115, 101, 116, 32, 115, 32, 40, 100, 111, 41, 41, 41, 41, 32, 40, 115, 104, 111, 119, 32, 40, 100, 111, 32, 40, 115, 116, 111, 112, 41, 41, 41, 41]
def wA : List LX.LW := [⟨4, [], 0, 0⟩, ⟨1, [99, 111, 109, 112], 0, 0⟩, ⟨1, [67], 0, 0⟩, ⟨1, [112], 0, 0⟩, ⟨4, [], 0, 0⟩, ⟨1, [108, 101, 116], 0, 0⟩, ⟨1, [102], 0, 0⟩, ⟨4, [], 0, 0⟩, ⟨1, [100, 111], 0, 0⟩, ⟨4, [], 0, 0⟩, ⟨1, [115, 101, 116], 0, 0⟩, ⟨1, [115], 0, 0⟩, ⟨4, [], 0, 0⟩, ⟨1, [100, 111], 0, 0⟩, ⟨5, [], 0, 0⟩, ⟨5, [], 0, 0⟩, ⟨5, [], 0, 0⟩, ⟨5, [], 0, 0⟩, ⟨4, [], 0, 0⟩, ⟨1, [115, 104, 111, 119], 0, 0⟩, ⟨4, [], 0, 0⟩, ⟨1, [100, 111], 0, 0⟩, ⟨4, [], 0, 0⟩, ⟨1, [115, 116, 111, 112], 0, 0⟩, ⟨5, [], 0, 0⟩, ⟨5, [], 0, 0⟩, ⟨5, [], 0, 0⟩, ⟨5, [], 0, 0⟩]
def tB : Str := [40, 99, 111, 109, 112, 32, 65, 112, 112, 32, 112, 32, 40, 115, 104, 111, 119, 32, 110, 111, 110, 101, 41, 41, 10, 120]
def wB : List LX.LW := [⟨4, [], 0, 0⟩, ⟨1, [99, 111, 109, 112], 0, 0⟩, ⟨1, [65, 112, 112], 0, 0⟩, ⟨1, [112], 0, 0⟩, ⟨4, [], 0, 0⟩, ⟨1, [115, 104, 111, 119], 0, 0⟩, ⟨1, [110, 111, 110, 101], 0, 0⟩, ⟨5, [], 0, 0⟩, ⟨5, [], 0, 0⟩, ⟨1, [120], 0, 1⟩]
set_option maxRecDepth 100000 in
theorem lexA : LX.lex 0 tA = .ok wA := by rfl
set_option maxRecDepth 100000 in
theorem lexB : LX.lex 0 tB = .ok wB := by rfl
def exA : List T := eCols 12 0 [] [] [] [] 0 [] [aCols 1 [115] (eCols 12 0 [] [] [] [] 0 [] [] (siteS [67] 1))] (siteS [67] 0)
def ouA : List T := eCols 12 0 [] [] [] [] 0 [] [aCols 4 [] eNone] (siteS [67] 2)
set_option maxRecDepth 100000 in
theorem parseA : parseP wA = .inr [cCols [67] [112] [sCols 1 [102] [] exA [] [] [] []] ouA] := by rfl
set_option maxRecDepth 100000 in
theorem parseB : parseP wB = .inl 1 := by rfl
end Go.Proofs.YtdlmemalefhgmaaGreatDoor.G
namespace Go.Proofs.YtdlmemalefhgmaaGreatDoor
open G
set_option linter.unusedVariables false
set_option linter.unusedSimpArgs false
theorem itoa_small (u : Nat) (h : u < 10) : Lib.itoa (u : Int) = [UInt8.ofNat (48 + u)] := by
  have : Lib.decDigits u = [UInt8.ofNat (48 + u)] := by
    rw [Lib.decDigits, dif_pos h]
  unfold Lib.itoa
  rw [if_neg (by omega)]
  simpa using this
theorem num1 : LX.numOf [49] = some 1 := by
  rw [LX.numOf_iff]
  exact ⟨by omega, (itoa_small 1 (by omega)).symm⟩
theorem num01 : LX.numOf [48, 49] = none := by
  cases h : LX.numOf [48, 49] with
  | none => rfl
  | some v =>
    rw [LX.numOf_iff] at h
    obtain ⟨h1, h2⟩ := h
    have := LX.parse_itoa v h1.1 h1.2
    rw [← h2] at this
    have h3 : Lib.parseIntB 64 [48, 49] = .ok 1 := by rfl
    rw [h3] at this
    injection this with this
    have i1 : Lib.itoa 1 = [49] := itoa_small 1 (by omega)
    rw [← this, i1] at h2
    exact absurd h2 (by decide)
def tC : Str := [123, 34, 97, 34, 32, 91, 49, 32, 110, 111, 110, 101, 93, 125]
theorem wv1 : wordV [34, 97, 34, 32, 91, 49, 32, 110, 111, 110, 101, 93, 125] = some (⟨3, [97], 0, 0⟩, [32, 91, 49, 32, 110, 111, 110, 101, 93, 125]) := by rfl
theorem wv2 : wordV [49, 32, 110, 111, 110, 101, 93, 125] = some (⟨2, [], 1, 0⟩, [32, 110, 111, 110, 101, 93, 125]) := by
  have hf : firstN [49, 32, 110, 111, 110, 101, 93, 125] = 1 := by rfl
  refine (wordV_one (w := ⟨2, [], 1, 0⟩) ?_).trans ?_
  · rw [hf]
    show lexL [49] = _
    rw [lexL_small (by decide)]
    rw [LX.lex_word 0 49 _ ⟨2, [], 1, 0⟩ 1 (by decide) (by
      have e : LX.word [49] = (match LX.numOf [49] with | some v => some (⟨2, [], v, 0⟩, 1) | none => none) := rfl
      rw [e, num1])]
    rfl
  · rw [hf]; rfl
theorem wv3 : wordV [110, 111, 110, 101, 93, 125] = some (⟨1, [110, 111, 110, 101], 0, 0⟩, [93, 125]) := by rfl
def vC : List T := vCols 5 0 [] [] [.sc (str [97]) :: vCols 4 0 [] [vCols 1 1 [] [] [], vCols 0 0 [] [] []] []]
theorem valueC : valueV 66 1 tC 0 = some (vC, [], 4) := by
  simp [tC, vC, valueV, recV, listV, plainV, Lib.hasPrefix, Lib.trimPrefix, wv1, wv2, wv3]
theorem wv4 : wordV [48, 49] = none := by
  have hf : firstN [48, 49] = 2 := by rfl
  refine wordV_err (n := 0) ?_
  rw [hf]
  show lexL [48, 49] = _
  rw [lexL_small (by decide)]
  rw [LX.lex_err 0 48 _ (by decide) (by
    have e : LX.word [48, 49] = (match LX.numOf [48, 49] with | some v => some (⟨2, [], v, 0⟩, 2) | none => none) := rfl
    rw [e, num01])]
theorem valueD : valueV 66 1 [48, 49] 0 = none := by
  simp [valueV, plainV, Lib.hasPrefix, Lib.trimPrefix, wv4]
end Go.Proofs.YtdlmemalefhgmaaGreatDoor
namespace Go.Proofs.YtdlmemalefhgmaaGreatDoor
set_option linter.unusedVariables false
set_option linter.unusedSimpArgs false
open Go.RowKit G

theorem All2.cons_inv {α β : Type} {R : α → β → Prop} {a : α} {l : List α} {m : List β} (h : All2 R (a :: l) m) : ∃ b m', m = b :: m' ∧ R a b ∧ All2 R l m' := by
  cases h with
  | cons h1 h2 => exact ⟨_, _, rfl, h1, h2⟩
/-- The first row of a slice of rows. -/
theorem rep_first {w : World} {ok : Nat → Prop} {k : Nat} {x : List T} {v : Value} (hx : x.length = k) (h : (ofRows k [x]).Rep w ok v) : ∃ b o cap vs, v = .slice (some ⟨b, o, none⟩) 1 cap ∧ 1 ≤ cap ∧ cap ≤ maxLen ∧ Row w ok x vs ∧ VT.At w b o vs := by
  obtain ⟨a, cap, rfl, h1, h2, hr⟩ := h
  obtain ⟨b, o, rfl, -, -, hc⟩ := hr 0 (by simp)
  obtain ⟨vs, hrow, hat, -⟩ := rep_row (n := 0) (i := 0) hx hc
  rw [Nat.zero_mul, Nat.add_zero] at hat
  exact ⟨b, o, cap, vs, rfl, h1, h2, hrow, hat⟩
theorem rep_len {w : World} {ok : Nat → Prop} {k : Nat} {l : List (List T)} {v : Value} (h : (ofRows k l).Rep w ok v) : ∃ a cap, v = .slice a l.length cap := by
  obtain ⟨a, cap, rfl, -⟩ := h
  exact ⟨a, cap, rfl⟩
theorem cells_A {w : World} {ok : Nat → Prop} {v : Value} (h : (ofRows 13 [cCols [67] [112] [sCols 1 [102] [] exA [] [] [] []] ouA]).Rep w ok v) :
    ∃ g o cap b q c2 ab ao ac a3 c3 a4 c4 a5 c5 a7 c7, v = .slice (some ⟨g, o, none⟩) 1 cap ∧ 1 ≤ cap ∧ cap ≤ maxLen ∧ 1 ≤ c2 ∧ c2 ≤ maxLen ∧ 1 ≤ ac ∧ ac ≤ maxLen ∧ w.cell? ⟨g, o, none⟩ = some (.string ⟨#[67]⟩) ∧ w.cell? ⟨g, o + 1, none⟩ = some (.string ⟨#[112]⟩) ∧ w.cell? ⟨g, o + 2, none⟩ = some (.slice (some ⟨b, q, none⟩) 1 c2) ∧ w.cell? ⟨g, o + 12, none⟩ = some (.string ⟨(siteS [67] 2).toArray⟩) ∧
      (w.cell? ⟨b, q + 3, none⟩ = some (.int .u8 12) ∧ w.cell? ⟨b, q + 4, none⟩ = some (.int .i64 0) ∧ w.cell? ⟨b, q + 5, none⟩ = some (.string ⟨#[]⟩) ∧ w.cell? ⟨b, q + 6, none⟩ = some (.slice a3 0 c3) ∧ w.cell? ⟨b, q + 7, none⟩ = some (.slice a4 0 c4) ∧ w.cell? ⟨b, q + 8, none⟩ = some (.slice a5 0 c5) ∧ w.cell? ⟨b, q + 9, none⟩ = some (.int .u8 0) ∧ w.cell? ⟨b, q + 10, none⟩ = some (.slice a7 0 c7) ∧ w.cell? ⟨b, q + 11, none⟩ = some (.slice (some ⟨ab, ao, none⟩) 1 ac) ∧ w.cell? ⟨b, q + 12, none⟩ = some (.string ⟨(siteS [67] 0).toArray⟩)) ∧ w.cell? ⟨ab, ao + 11, none⟩ = some (.string ⟨(siteS [67] 1).toArray⟩) := by
  obtain ⟨g, o, cap, vs, rfl, h1, h2, hrow, hat⟩ := rep_first rfl h
  obtain ⟨u0, _, rfl, e0, hrow⟩ := hrow.cons_inv
  obtain ⟨u1, _, rfl, e1, hrow⟩ := hrow.cons_inv
  obtain ⟨u2, _, rfl, e2, hrow⟩ := hrow.cons_inv
  obtain ⟨u3, _, rfl, e3, hrow⟩ := hrow.cons_inv
  obtain ⟨u4, _, rfl, e4, hrow⟩ := hrow.cons_inv
  obtain ⟨u5, _, rfl, e5, hrow⟩ := hrow.cons_inv
  obtain ⟨u6, _, rfl, e6, hrow⟩ := hrow.cons_inv
  obtain ⟨u7, _, rfl, e7, hrow⟩ := hrow.cons_inv
  obtain ⟨u8, _, rfl, e8, hrow⟩ := hrow.cons_inv
  obtain ⟨u9, _, rfl, e9, hrow⟩ := hrow.cons_inv
  obtain ⟨u10, _, rfl, e10, hrow⟩ := hrow.cons_inv
  obtain ⟨u11, _, rfl, e11, hrow⟩ := hrow.cons_inv
  obtain ⟨u12, _, rfl, e12, hrow⟩ := hrow.cons_inv
  cases hrow
  obtain ⟨b, q, c2, vs2, rfl, k1, k2, hrow2, hat2⟩ := rep_first rfl e2
  obtain ⟨x0, _, rfl, f0, hrow2⟩ := hrow2.cons_inv
  obtain ⟨x1, _, rfl, f1, hrow2⟩ := hrow2.cons_inv
  obtain ⟨x2, _, rfl, f2, hrow2⟩ := hrow2.cons_inv
  obtain ⟨x3, _, rfl, f3, hrow2⟩ := hrow2.cons_inv
  obtain ⟨x4, _, rfl, f4, hrow2⟩ := hrow2.cons_inv
  obtain ⟨x5, _, rfl, f5, hrow2⟩ := hrow2.cons_inv
  obtain ⟨x6, _, rfl, f6, hrow2⟩ := hrow2.cons_inv
  obtain ⟨x7, _, rfl, f7, hrow2⟩ := hrow2.cons_inv
  obtain ⟨x8, _, rfl, f8, hrow2⟩ := hrow2.cons_inv
  obtain ⟨x9, _, rfl, f9, hrow2⟩ := hrow2.cons_inv
  obtain ⟨x10, _, rfl, f10, hrow2⟩ := hrow2.cons_inv
  obtain ⟨x11, _, rfl, f11, hrow2⟩ := hrow2.cons_inv
  obtain ⟨x12, _, rfl, f12, hrow2⟩ := hrow2.cons_inv
  obtain ⟨x13, _, rfl, f13, hrow2⟩ := hrow2.cons_inv
  obtain ⟨x14, _, rfl, f14, hrow2⟩ := hrow2.cons_inv
  obtain ⟨x15, _, rfl, f15, hrow2⟩ := hrow2.cons_inv
  obtain ⟨x16, _, rfl, f16, hrow2⟩ := hrow2.cons_inv
  cases hrow2
  obtain ⟨ab, ao, ac, vs3, rfl, m1, m2, hrow3, hat3⟩ := rep_first rfl f11
  obtain ⟨y0, _, rfl, g0, hrow3⟩ := hrow3.cons_inv
  obtain ⟨y1, _, rfl, g1, hrow3⟩ := hrow3.cons_inv
  obtain ⟨y2, _, rfl, g2, hrow3⟩ := hrow3.cons_inv
  obtain ⟨y3, _, rfl, g3, hrow3⟩ := hrow3.cons_inv
  obtain ⟨y4, _, rfl, g4, hrow3⟩ := hrow3.cons_inv
  obtain ⟨y5, _, rfl, g5, hrow3⟩ := hrow3.cons_inv
  obtain ⟨y6, _, rfl, g6, hrow3⟩ := hrow3.cons_inv
  obtain ⟨y7, _, rfl, g7, hrow3⟩ := hrow3.cons_inv
  obtain ⟨y8, _, rfl, g8, hrow3⟩ := hrow3.cons_inv
  obtain ⟨y9, _, rfl, g9, hrow3⟩ := hrow3.cons_inv
  obtain ⟨y10, _, rfl, g10, hrow3⟩ := hrow3.cons_inv
  obtain ⟨y11, _, rfl, g11, hrow3⟩ := hrow3.cons_inv
  cases hrow3
  obtain ⟨a3, c3, rfl⟩ := rep_len f6
  obtain ⟨a4, c4, rfl⟩ := rep_len f7
  obtain ⟨a5, c5, rfl⟩ := rep_len f8
  obtain ⟨a7, c7, rfl⟩ := rep_len f10
  refine ⟨g, o, cap, b, q, c2, ab, ao, ac, a3, c3, a4, c4, a5, c5, a7, c7, rfl, h1, h2, k1, k2, m1, m2, ?_, ?_, ?_, ?_, ⟨?_, ?_, ?_, ?_, ?_, ?_, ?_, ?_, ?_, ?_⟩, ?_⟩
  · exact (show w.cell? _ = some u0 from hat 0 (by simp)).trans (congrArg some e0)
  · exact (show w.cell? _ = some u1 from hat 1 (by simp)).trans (congrArg some e1)
  · exact hat 2 (by simp)
  · exact (show w.cell? _ = some u12 from hat 12 (by simp)).trans (congrArg some e12)
  · exact (show w.cell? _ = some x3 from hat2 3 (by simp)).trans (congrArg some f3)
  · exact (show w.cell? _ = some x4 from hat2 4 (by simp)).trans (congrArg some f4)
  · exact (show w.cell? _ = some x5 from hat2 5 (by simp)).trans (congrArg some f5)
  · exact hat2 6 (by simp)
  · exact hat2 7 (by simp)
  · exact hat2 8 (by simp)
  · exact (show w.cell? _ = some x9 from hat2 9 (by simp)).trans (congrArg some f9)
  · exact hat2 10 (by simp)
  · exact hat2 11 (by simp)
  · exact (show w.cell? _ = some x12 from hat2 12 (by simp)).trans (congrArg some f12)
  · exact (show w.cell? _ = some y11 from hat3 11 (by simp)).trans (congrArg some g11)
/-- A tree as a value's. -/
def IsC (x : List T) : Prop := ∃ k n s l f, x = vCols k n s l f
theorem trees_eq {u : VT.V} {x : List T} (hx : IsC x) (h : ∀ j, u.trees.getD j default = x.getD j default) : u.trees = x := by
  obtain ⟨k, n, s, l, f, rfl⟩ := hx
  cases u with
  | leaf => have h0 := h 0; simp [VT.V.trees, vCols, default, instInhabitedT] at h0; cases h0
  | mk k1 n1 s1 la ll lc L fa fl fc fn F e key hk =>
    have h0 := h 0; have h1 := h 1; have h2 := h 2; have h3 := h 3; have h4 := h 4; have h5 := h 5; have h6 := h 6; have h7 := h 7
    simp only [VT.V.trees, vCols, List.getD_cons_zero, List.getD_cons_succ] at h0 h1 h2 h3 h4 h5 h6 h7 ⊢
    rw [h0, h1, h2, h3, h4, h5, h6, h7]
theorem trees_inv {u : VT.V} {k n : Int} {s : Str} {l : List (List T)} {f : List (Str × List T)} (h : u.trees = vCols k n s l (f.map fun p => .sc (str p.1) :: p.2)) (hl : ∀ x ∈ l, IsC x) (hf : ∀ p ∈ f, IsC p.2) :
    ∃ la lc L fa fc fn F, u = .mk k n ⟨s.toArray⟩ la l.length lc L fa f.length fc fn F 0 ⟨#[]⟩ false ∧ (∀ i (hi : i < l.length), (L i).trees = l[i]) ∧ ∀ i (hi : i < f.length), fn i = ⟨f[i].1.toArray⟩ ∧ (F i).trees = f[i].2 := by
  cases u with
  | leaf => simp [VT.V.trees, vCols] at h
  | mk k1 n1 s1 la ll lc L fa fl fc fn F e key hk =>
    simp only [VT.V.trees, vCols, ofRows, List.cons.injEq, T.sc.injEq, T.ls.injEq, Value.int.injEq, Value.string.injEq, Value.bool.injEq, str, true_and, and_true, List.length_map] at h
    obtain ⟨rfl, rfl, rfl, ⟨rfl, hL⟩, ⟨rfl, hF⟩, rfl, rfl, rfl⟩ := h
    refine ⟨la, lc, L, fa, fc, fn, F, rfl, fun i hi => ?_, fun i hi => ?_⟩
    · refine trees_eq (hl _ (List.getElem_mem hi)) (fun j => ?_)
      have := congrFun (congrFun hL i) j
      simp only [hi, if_true] at this
      rw [this, List.getD_eq_getElem?_getD (l := l), List.getElem?_eq_getElem hi]
      rfl
    · have hg : ∀ j, (T.sc (.string (fn i)) :: (F i).trees).getD j default = (T.sc (str f[i].1) :: f[i].2).getD j default := fun j => by
        have := congrFun (congrFun hF i) j
        simp only [hi, if_true] at this
        rw [this, ← getD_map_nil hi]
        rfl
      refine ⟨?_, trees_eq (hf _ (List.getElem_mem hi)) (fun j => by simpa using hg (j + 1))⟩
      have h0 := hg 0
      simp only [List.getD_cons_zero, T.sc.injEq, str, Value.string.injEq] at h0
      exact h0
theorem isC (k n : Int) (s : Str) (l f : List (List T)) : IsC (vCols k n s l f) := ⟨k, n, s, l, f, rfl⟩
theorem trees_C {v : VT.V} (h : v.trees = vC) : v.text.data.toList = tC ∧ ∃ la lc fa fc, v.cells = [.int .u8 5, .int .i64 0, .string ⟨#[]⟩, .slice la 0 lc, .slice fa 1 fc, .int .u8 0, .string ⟨#[]⟩, .bool false] ∧ ∀ w : World, v.In w → 1 ≤ fc ∧ fc ≤ maxLen ∧ ∃ b o, fa = some ⟨b, o, none⟩ ∧ w.cell? ⟨b, o + 1, none⟩ = some (.int .u8 4) := by
  obtain ⟨la, lc, L, fa, fc, fn, F, rfl, -, hF⟩ := trees_inv (k := 5) (n := 0) (s := []) (l := []) (f := [([97], vCols 4 0 [] [vCols 1 1 [] [] [], vCols 0 0 [] [] []] [])]) h (fun _ h => by cases h) (fun p hp => by rw [List.mem_singleton.1 hp]; exact isC _ _ _ _ _)
  obtain ⟨hfn, hF0⟩ := hF 0 (by simp)
  obtain ⟨la1, lc1, L1, fa1, fc1, fn1, F1, e1, hL1, -⟩ := trees_inv (k := 4) (n := 0) (s := []) (l := [vCols 1 1 [] [] [], vCols 0 0 [] [] []]) (f := []) hF0 (fun x hx => by simp at hx; rcases hx with rfl | rfl <;> exact isC _ _ _ _ _) (fun _ h => by cases h)
  obtain ⟨la2, lc2, L2, fa2, fc2, fn2, F2, e2, -, -⟩ := trees_inv (k := 1) (n := 1) (s := []) (l := []) (f := []) (hL1 0 (by simp)) (fun _ h => by cases h) (fun _ h => by cases h)
  obtain ⟨la3, lc3, L3, fa3, fc3, fn3, F3, e3, -, -⟩ := trees_inv (k := 0) (n := 0) (s := []) (l := []) (f := []) (hL1 1 (by simp)) (fun _ h => by cases h) (fun _ h => by cases h)
  refine ⟨?_, la, lc, fa, fc, rfl, fun w hi => ?_⟩
  rotate_left
  · obtain ⟨-, -, -, -, -, -, hfc, -, hf⟩ := hi
    obtain ⟨⟨b, o, e, ha⟩, -⟩ := hf 0 (by simp)
    refine ⟨hfc.1, hfc.2, b, o, e, ?_⟩
    have := ha 1 (by rw [e1]; simp [VT.V.cells])
    rw [Nat.zero_mul, Nat.add_zero] at this
    rw [this, e1]
    rfl
  have hl0 : L1 0 = _ := e2
  have hl1 : L1 1 = _ := e3
  have hi1 : Lib.itoa 1 = [49] := itoa_small 1 (by omega)
  have hfn' : fn 0 = ⟨#[97]⟩ := hfn
  have hrise : VT.risingB 1 fn = true := by
    show ((!(Op.bytesLess (fn 0).toList (ByteArray.toList ⟨#[]⟩) || (fn 0).toList == ByteArray.toList ⟨#[]⟩) && decide ((fn 0).size ≤ 4096)) && true) = true
    rw [hfn', ByteArray.toList_eq, ByteArray.toList_eq]
    decide
  have hbe : (⟨#[]⟩ : ByteArray) = ByteArray.empty := rfl
  have hbs : (⟨#[]⟩ : ByteArray).size = 0 := rfl
  have hr0 : ∀ fn, VT.risingB 0 fn = true := fun _ => rfl
  simp [VT.V.text, VT.V.check, VT.V.may, VT.foldTo, e1, hl0, hl1, hrise, VT.inRowB, VT.inLimB, VT.emptyB, VT.V.told, VT.recL, VT.listL, VT.sepTo, VT.quotedL, VT.escB, hi1, hfn', tC, hbe, hr0]
theorem site_eq (k : Nat) (h : k < 10) : siteS [67] k = [67, 35, UInt8.ofNat (48 + k)] := by
  unfold siteS
  rw [itoa_small k h]
  rfl
theorem asc_C : Asc tC := trivial
theorem asc_D : Asc [48, 49] := trivial
theorem parse_A (w : World) (ht : LTabs w) : Calls Tryz.prog 8 #[.string ⟨#[40, 99, 111, 109, 112, 32, 67, 32, 112, 32, 40, 108, 101, 116, 32, 102, 32, 40, 100, 111, 32, 40, 115, 101, 116, 32, 115, 32, 40, 100, 111, 41, 41, 41, 41, 32, 40, 115, 104, 111, 119, 32, 40, 100, 111, 32, 40, 115, 116, 111, 112, 41, 41, 41, 41]⟩] w fun e w' => ∃ v, e = .returned (.tuple #[v, .int .i64 0, .int .i64 0]) ∧ (ofRows 13 [cCols [67] [112] [sCols 1 [102] [] exA [] [] [] []] ouA]).Rep w' (w.heap.size ≤ ·) v ∧ Below w.heap.size w w' := by
  refine (parse_any ⟨#[40, 99, 111, 109, 112, 32, 67, 32, 112, 32, 40, 108, 101, 116, 32, 102, 32, 40, 100, 111, 32, 40, 115, 101, 116, 32, 115, 32, 40, 100, 111, 41, 41, 41, 41, 32, 40, 115, 104, 111, 119, 32, 40, 100, 111, 32, 40, 115, 116, 111, 112, 41, 41, 41, 41]⟩ w (by decide) ht).mono ?_
  rintro e w' ⟨h, hb⟩
  rw [show LX.lex 0 (⟨#[40, 99, 111, 109, 112, 32, 67, 32, 112, 32, 40, 108, 101, 116, 32, 102, 32, 40, 100, 111, 32, 40, 115, 101, 116, 32, 115, 32, 40, 100, 111, 41, 41, 41, 41, 32, 40, 115, 104, 111, 119, 32, 40, 100, 111, 32, 40, 115, 116, 111, 112, 41, 41, 41, 41]⟩ : ByteArray).data.toList = .ok wA from lexA] at h
  simp only [parseA] at h
  obtain ⟨v, h1, a, n, cap, rfl, h3, -⟩ := h
  exact ⟨_, h1, h3.rep, hb⟩
theorem parse_B (w : World) (ht : LTabs w) : Calls Tryz.prog 8 #[.string ⟨#[40, 99, 111, 109, 112, 32, 65, 112, 112, 32, 112, 32, 40, 115, 104, 111, 119, 32, 110, 111, 110, 101, 41, 41, 10, 120]⟩] w fun e w' => e = .returned (.tuple #[.slice none 0 0, .int .i64 1, .int .i64 5]) ∧ Below w.heap.size w w' := by
  refine (parse_any ⟨#[40, 99, 111, 109, 112, 32, 65, 112, 112, 32, 112, 32, 40, 115, 104, 111, 119, 32, 110, 111, 110, 101, 41, 41, 10, 120]⟩ w (by decide) ht).mono ?_
  rintro e w' ⟨h, hb⟩
  rw [show LX.lex 0 (⟨#[40, 99, 111, 109, 112, 32, 65, 112, 112, 32, 112, 32, 40, 115, 104, 111, 119, 32, 110, 111, 110, 101, 41, 41, 10, 120]⟩ : ByteArray).data.toList = .ok wB from lexB] at h
  simp only [parseB] at h
  exact ⟨h, hb⟩
theorem value_C (w : World) (ht : LTabs w) (hvt : VTabs w) : Calls Tryz.prog 17 #[.string ⟨#[123, 34, 97, 34, 32, 91, 49, 32, 110, 111, 110, 101, 93, 125]⟩] w fun e w' => ∃ la lc fc b o, e = .returned (.tuple #[.agg #[.int .u8 5, .int .i64 0, .string ⟨#[]⟩, .slice la 0 lc, .slice (some ⟨b, o, none⟩) 1 fc, .int .u8 0, .string ⟨#[]⟩, .bool false], .int .i64 0]) ∧ 1 ≤ fc ∧ fc ≤ maxLen ∧ w'.cell? ⟨b, o + 1, none⟩ = some (.int .u8 4) ∧ Below w.heap.size w w' := by
  refine (pvalue_any tC w asc_C (by decide) ht hvt).mono ?_
  rintro e w' ⟨h, hb⟩
  rw [valueC] at h
  obtain ⟨v, h1, h2, h3⟩ := h
  obtain ⟨e1, la, lc, fa, fc, e2, e3⟩ := trees_C h2
  obtain ⟨k1, k2, b, o, rfl, k3⟩ := e3 w' h1
  rcases h3 with ⟨-, h3⟩ | ⟨h3, -⟩
  · refine ⟨la, lc, fc, b, o, ?_, k1, k2, k3, hb⟩
    rw [h3]
    unfold VT.V.agg
    rw [e2]
  · exact absurd e1 h3
theorem value_D (w : World) (ht : LTabs w) (hvt : VTabs w) : Calls Tryz.prog 17 #[.string ⟨#[48, 49]⟩] w fun e w' => e = .returned (.tuple #[.agg #[.int .u8 0, .int .i64 0, .string ⟨#[]⟩, .slice none 0 0, .slice none 0 0, .int .u8 0, .string ⟨#[]⟩, .bool false], .int .i64 5]) ∧ Below w.heap.size w w' := by
  refine (pvalue_any [48, 49] w asc_D (by decide) ht hvt).mono ?_
  rintro e w' ⟨h, hb⟩
  rw [valueD] at h
  exact ⟨h, hb⟩
set_option maxRecDepth 100000 in
set_option maxHeartbeats 8000000 in
theorem alive_any (w : World) (ht : LTabs w) (hvt : VTabs w) : Calls Tryz.prog 7 #[] w fun e w' => e = .returned (.bool true) ∧ Below w.heap.size w w' := by
  have HPA := Lib.hid parse_A
  have HPB := Lib.hid parse_B
  have HVC := Lib.hid value_C
  have HVD := Lib.hid value_D
  have HT := Lib.hid (fun w' (hb : Below w.heap.size w w') => ht.below hb ht.gb)
  have HVT := Lib.hid (fun w' (hb : Below w.heap.size w w') => hvt.below hb)
  clear ht hvt
  go_enter Tryz.func7, Tryz.ntmps7
  go_upto_region 5 with (first
    | (go_at_call 8; first
      | ((with_reducible refine (HPA.out _ (HT.out _ (Below.refl _ _))).mono ?_); rintro e1 w1 ⟨v1, rfl, hr1, hb1⟩)
      | ((with_reducible refine (HPB.out _ (HT.out _ hb1)).mono ?_); rintro e2 w2 ⟨rfl, hb2⟩; have hB2 := hb1.trans (hb2.mono hb1.size)))
    | (go_at_call 17; first
      | ((with_reducible refine (HVC.out _ (HT.out _ hB2) (HVT.out _ hB2)).mono ?_); rintro e3 w3 ⟨la, lc, fc, fb, fo, rfl, kf1, kf2, kf3, hb3⟩; have hB3 := hB2.trans (hb3.mono hB2.size); have hB3' := hB3.alloc hB3.size (.cells #[.int .u8 5, .int .i64 0, .string ⟨#[]⟩, .slice la 0 lc, .slice (some ⟨fb, fo, none⟩) 1 fc, .int .u8 0, .string ⟨#[]⟩, .bool false] 50))
      | ((with_reducible refine (HVD.out _ (HT.out _ hB3') (HVT.out _ hB3')).mono ?_); rintro e4 w4 ⟨rfl, hb4⟩)))
  obtain ⟨W5, hW5⟩ : ∃ W5, w4.alloc (.cells #[.int .u8 0, .int .i64 0, .string ⟨#[]⟩, .slice none 0 0, .slice none 0 0, .int .u8 0, .string ⟨#[]⟩, .bool false] 50) = W5 := ⟨_, rfl⟩
  have hs1 := hb1.size
  have hs2 := hb2.size
  have hs3 := hb3.size
  have hs4 := hb4.size
  have hs4' : w3.heap.size + 1 ≤ w4.heap.size := by simpa using hs4
  have h35 : Below w3.heap.size w3 W5 := by rw [← hW5]; exact (((Below.refl _ _).alloc (Nat.le_refl _) _).trans (hb4.mono (by simp))).alloc (by omega) _
  have h15 : Below w1.heap.size w1 W5 := (hb2.trans (hb3.mono hs2)).trans (h35.mono (by omega))
  have hB5 : Below w.heap.size w W5 := hb1.trans (h15.mono hs1)
  have hv5 : W5.heap[w3.heap.size]? = some (.cells #[.int .u8 5, .int .i64 0, .string ⟨#[]⟩, .slice la 0 lc, .slice (some ⟨fb, fo, none⟩) 1 fc, .int .u8 0, .string ⟨#[]⟩, .bool false] 50 (0, 0)) := by
    rw [← hW5, Below.heap_alloc _ _ _ (by omega), hb4.block _ (by simp)]
    exact heap_alloc_new _ _
  have hf5 : W5.cell? ⟨fb, fo + 1, none⟩ = some (.int .u8 4) := by
    rw [h35.cell (p := ⟨fb, fo + 1, none⟩) (World.block_lt_of_cell? _ _ kf3)]; exact kf3
  obtain ⟨g, o, cap, b, q, c2, ab, ao, ac, a3, c3, a4, c4, a5, c5, a7, c7, rfl, hc1, hc2, hk1, hk2, hm1, hm2, x0, x1, x2, x12, ⟨y0, y1, y2, y3, y4, y5, y6, y7, y8, y9⟩, z11⟩ := cells_A (hr1.keep (w' := W5) (ok' := fun _ => True) h15.size (fun _ _ _ => trivial) (fun b _ hb => h15.block b hb))
  have s0 : (⟨(siteS [67] 0).toArray⟩ : ByteArray) = ⟨#[67, 35, 48]⟩ := by rw [site_eq _ (by omega)]; rfl
  have s1 : (⟨(siteS [67] 1).toArray⟩ : ByteArray) = ⟨#[67, 35, 49]⟩ := by rw [site_eq _ (by omega)]; rfl
  have s2 : (⟨(siteS [67] 2).toArray⟩ : ByteArray) = ⟨#[67, 35, 50]⟩ := by rw [site_eq _ (by omega)]; rfl
  rw [s2] at x12
  rw [s0] at y9
  rw [s1] at z11
  clear s0 s1 s2
  obtain ⟨⟨-, -, -, -, v4, -⟩, -⟩ := blk8 hv5
  have HB5 := Lib.hid hB5
  try rw [hW5]
  clear hW5 hb1 hb2 hb3 hb4 hB2 hB3 hB3' hr1 h35 h15 hB5 hv5 kf3 HPA HPB HVC HVD HT HVT hs1 hs2 hs3 hs4
  unfold maxLen at hc2 hk2 hm2 kf2
  go_upto_region 8 with fail
  obtain ⟨W6, hW6⟩ : ∃ W6, W5.alloc (.cells #[.int .u8 12, .int .i64 0, .string ⟨#[]⟩, .slice a3 0 c3, .slice a4 0 c4, .slice a5 0 c5, .int .u8 0, .slice a7 0 c7, .slice (some ⟨ab, ao, none⟩) 1 ac, .string ⟨#[67, 35, 48]⟩] 42) = W6 := ⟨_, rfl⟩
  have hx6 : W6.heap[W5.heap.size]? = some (.cells #[.int .u8 12, .int .i64 0, .string ⟨#[]⟩, .slice a3 0 c3, .slice a4 0 c4, .slice a5 0 c5, .int .u8 0, .slice a7 0 c7, .slice (some ⟨ab, ao, none⟩) 1 ac, .string ⟨#[67, 35, 48]⟩] 42 (0, 0)) := by rw [← hW6]; exact heap_alloc_new _ _
  have hK : ∀ (a : Addr) (v : Value), W5.cell? a = some v → W6.cell? a = some v := fun a v h => by rw [← hW6, World.cell?_alloc_lt _ _ _ (World.block_lt_of_cell? _ _ h)]; exact h
  have HB6 := Lib.hid (show Below w.heap.size w W6 by rw [← hW6]; exact HB5.out.alloc HB5.out.size _)
  replace x0 := hK _ _ x0
  replace x1 := hK _ _ x1
  replace x12 := hK _ _ x12
  replace z11 := hK _ _ z11
  replace v4 := hK _ _ v4
  replace hf5 := hK _ _ hf5
  obtain ⟨⟨w0, w1', w2', w3', w4', w5', w6', w7', w8', w9'⟩, -⟩ := blk10 hx6
  try rw [hW6]
  clear hW6 hx6 hK x2 y0 y1 y2 y3 y4 y5 y6 y7 y8 y9
  go_wp2
  go_ret
  exact ⟨rfl, HB6.out⟩
end Go.Proofs.YtdlmemalefhgmaaGreatDoor
