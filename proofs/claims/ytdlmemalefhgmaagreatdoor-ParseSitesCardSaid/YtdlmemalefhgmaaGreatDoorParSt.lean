/-
  Walks: sites and acted of the reader's law: the texts of all deeds are appended to a list ('sites_tree').
  Conditions: the expressions lie in old memory, as the tree tells; the list has room ('FL').
  Walks: body of the reader's law: the texts of all deeds in statements are appended to a list ('body_any').
  Conditions: the statements lie in old memory, as the tree tells; the list has room ('FL').
  Walks: ParseSites returns true; old memory is as it was.
  Conditions: the package's variables hold what the program's text lays in them; the text is no longer than the reach.
-/
import Derived.Test.YtdlmemalefhgmaaGreatDoorParAn
import Derived.Test.YtdlmemalefhgmaaGreatDoorParWf
import Derived.Test.YtdlmemalefhgmaaGreatDoorParLw
import Derived.BigQuiet
import Derived.Deep.QuietTactic
namespace Go.Proofs.YtdlmemalefhgmaaGreatDoor
set_option linter.unusedVariables false
set_option linter.unusedSimpArgs false
open Go.RowKit G

/-- A list of texts in a row of its own. -/
def FL (B : Nat) (xs : List Value) (v : Value) (W : World) : Prop := FRows ShT 9 1 B (xs.map fun u => [T.sc u]) v W
/-- ys appended to the list of xs. -/
structure Ap (B : Nat) (W : World) (v : Value) (xs ys : List Value) (v' : Value) (W' : World) : Prop where
  rows : FL B (xs ++ ys) v' W'
  grow : W.grownBy W' v.ownBlock
  own : ∀ g, v'.ownBlock = some g → v.ownBlock = some g ∨ W.heap.size ≤ g
theorem FRows.keepB {Sh : List Value → Prop} {ty : TypeId} {k B : Nat} {l : List (List T)} {v : Value} {W W' : World} (h : FRows Sh ty k B l v W) (hb : Below W.heap.size W W') : FRows Sh ty k B l v W' := by
  obtain ⟨vss, h1, h2, h3⟩ := h
  refine ⟨vss, ⟨h1.1, ?_⟩, h2.keep hb.size (fun _ _ h => h) (fun b _ h5 => hb.block b h5), h3⟩
  rcases h1.2 with h | ⟨g, cap, cur, hv, hb', hw, r⟩
  · exact .inl h
  · exact .inr ⟨g, cap, cur, hv, hb', by rw [hb.block g (tr_lt_of_block hw)]; exact hw, r⟩
theorem FL.keepB {B : Nat} {xs : List Value} {v : Value} {W W' : World} (h : FL B xs v W) (hb : Below W.heap.size W W') : FL B xs v W' := FRows.keepB h hb
theorem FL.own {B : Nat} {xs : List Value} {v : Value} {W : World} (h : FL B xs v W) {g : Nat} (e : v.ownBlock = some g) : B ≤ g ∧ g < W.heap.size := FRows.own h e
theorem grown_refl (W : World) (r : Option Nat) : W.grownBy W r := ⟨rfl, rfl, rfl, Nat.le_refl _, fun _ _ _ => rfl⟩
theorem Ap.refl {B : Nat} {W : World} {v : Value} {xs : List Value} (h : FL B xs v W) : Ap B W v xs [] v W := ⟨by rw [List.append_nil]; exact h, grown_refl _ _, fun g e => .inl e⟩
theorem Ap.trans {B : Nat} {W W1 W2 : World} {v v1 v2 : Value} {xs ys zs : List Value} (h : Ap B W v xs ys v1 W1) (k : Ap B W1 v1 (xs ++ ys) zs v2 W2) : Ap B W v xs (ys ++ zs) v2 W2 := by
  refine ⟨by rw [← List.append_assoc]; exact k.rows, ⟨k.grow.os.trans h.grow.os, k.grow.tape.trans h.grow.tape, k.grow.output.trans h.grow.output, Nat.le_trans h.grow.size k.grow.size, fun i hi hne => ?_⟩, fun g e => ?_⟩
  · rw [k.grow.block i (Nat.lt_of_lt_of_le hi h.grow.size) (fun e => ?_), h.grow.block i hi hne]
    rcases h.own i e.symm with h1 | h1
    · exact hne h1.symm
    · omega
  · have := h.grow.size
    rcases k.own g e with h1 | h1
    · exact h.own g h1
    · exact .inr (by omega)
theorem Ap.box {B : Nat} {W W' : World} {v v' : Value} {xs ys : List Value} (h : Ap B W v xs ys v' W') {b : Nat} {o : Obj} (hb : W.heap[b]? = some o) (hne : v.ownBlock ≠ some b) : W'.heap[b]? = some o := by
  rw [h.grow.block b (tr_lt_of_block hb) (fun e => hne e.symm), hb]
theorem Ap.low {B : Nat} {w0 W W' : World} {v v' : Value} {xs ys : List Value} (h : Ap B W v xs ys v' W') (hl : FL B xs v W) (hb : Below B w0 W) (hs : B ≤ W.heap.size) : Below B w0 W' := hb.grown h.grow hs (fun k e => (hl.own e).1)
theorem Ap.al {B : Nat} {W W' : World} {v v' : Value} {xs ys : List Value} {o : Obj} (h : Ap B (W.alloc o) v xs ys v' W') : Ap B W v xs ys v' W' :=
  ⟨h.rows, grow_al h.grow, fun g e => (h.own g e).imp id fun h => by simp at h; omega⟩
/-- Several, one behind the other. -/
def pre (f : Nat → List Value) (k : Nat) : List Value := (List.range k).flatMap f
theorem pre_zero (f : Nat → List Value) : pre f 0 = [] := rfl
theorem pre_succ (f : Nat → List Value) (k : Nat) : pre f (k + 1) = pre f k ++ f k := by simp [pre, List.range_succ]
theorem pre_le (f : Nat → List Value) {k n : Nat} (h : k ≤ n) : (pre f k).length ≤ (pre f n).length := by
  induction n with
  | zero => obtain rfl : k = 0 := by omega
            exact Nat.le_refl _
  | succ n ih =>
    rcases Nat.lt_or_ge k (n + 1) with h1 | h1
    · rw [pre_succ, List.length_append]
      have := ih (by omega)
      omega
    · obtain rfl : k = n + 1 := by omega
      exact Nat.le_refl _
def cellsE (row : Nat → T) (o : Nat) : List T := [row o, row (o + 1), row (o + 2), row (o + 3), row (o + 4), row (o + 5), row (o + 6), row (o + 7), row (o + 8), row (o + 9)]
theorem i8_rep {t : T} {w : World} {ok : Nat → Prop} {x : Value} (h : I8 t) (r : t.Rep w ok x) : ∃ n : Int, x = .int .u8 n ∧ t = .sc (.int .u8 n) := by
  obtain ⟨n, rfl⟩ := h
  exact ⟨n, r, rfl⟩
theorem i64_rep {t : T} {w : World} {ok : Nat → Prop} {x : Value} (h : I64 t) (r : t.Rep w ok x) : ∃ n : Int, x = .int .i64 n ∧ t = .sc (.int .i64 n) := by
  obtain ⟨n, rfl⟩ := h
  exact ⟨n, r, rfl⟩
theorem st_rep {t : T} {w : World} {ok : Nat → Prop} {x : Value} (h : St t) (r : t.Rep w ok x) : ∃ s : ByteArray, x = .string s ∧ t = .sc (.string s) := by
  obtain ⟨n, rfl⟩ := h
  exact ⟨n, r, rfl⟩
theorem wf_rep {g : Nat} {t : T} {w : World} {ok : Nat → Prop} {x : Value} (h : Wf g t) (r : t.Rep w ok x) : ∃ a n c, x = .slice a n c := by
  cases t with
  | sc v => cases g <;> exact h.elim
  | ls n k row =>
    obtain ⟨a, c, e, -⟩ := r
    exact ⟨a, n, c, e⟩
theorem row_inv {w : World} {ok : Nat → Prop} {a : T} {l : List T} {vs : List Value} (h : Row w ok (a :: l) vs) : ∃ b m, vs = b :: m ∧ a.Rep w ok b ∧ Row w ok l m := h.cons_inv
theorem e_open {row : Nat → T} {o : Nat} {w : World} {ok : Nat → Prop} {vs : List Value} (hw : WE row o) (h : Row w ok (cellsE row o) vs) :
    ∃ (k n : Int) (s : ByteArray) (a3 : Option Addr) (n3 c3 : Nat) (a4 : Option Addr) (n4 c4 : Nat) (a5 : Option Addr) (n5 c5 : Nat) (e : Int) (a7 : Option Addr) (n7 c7 : Nat) (a8 : Option Addr) (n8 c8 : Nat) (t : ByteArray), vs = [.int .u8 k, .int .i64 n, .string s, .slice a3 n3 c3, .slice a4 n4 c4, .slice a5 n5 c5, .int .u8 e, .slice a7 n7 c7, .slice a8 n8 c8, .string t] ∧ row o = .sc (.int .u8 k) ∧ row (o + 1) = .sc (.int .i64 n) ∧ row (o + 2) = .sc (.string s) ∧ row (o + 6) = .sc (.int .u8 e) ∧ row (o + 9) = .sc (.string t) ∧ (row (o + 3)).Rep w ok (.slice a3 n3 c3) ∧ (row (o + 4)).Rep w ok (.slice a4 n4 c4) ∧ (row (o + 5)).Rep w ok (.slice a5 n5 c5) ∧ (row (o + 7)).Rep w ok (.slice a7 n7 c7) ∧ (row (o + 8)).Rep w ok (.slice a8 n8 c8) := by
  obtain ⟨h0, h1, h2, h3, h4, h5, h6, h7, h8, h9⟩ := hw
  obtain ⟨y0, _, rfl, g0, h⟩ := row_inv h
  obtain ⟨y1, _, rfl, g1, h⟩ := row_inv h
  obtain ⟨y2, _, rfl, g2, h⟩ := row_inv h
  obtain ⟨y3, _, rfl, g3, h⟩ := row_inv h
  obtain ⟨y4, _, rfl, g4, h⟩ := row_inv h
  obtain ⟨y5, _, rfl, g5, h⟩ := row_inv h
  obtain ⟨y6, _, rfl, g6, h⟩ := row_inv h
  obtain ⟨y7, _, rfl, g7, h⟩ := row_inv h
  obtain ⟨y8, _, rfl, g8, h⟩ := row_inv h
  obtain ⟨y9, _, rfl, g9, h⟩ := row_inv h
  cases h
  obtain ⟨k, rfl, e0⟩ := i8_rep h0 g0
  obtain ⟨n, rfl, e1⟩ := i64_rep h1 g1
  obtain ⟨s, rfl, e2⟩ := st_rep h2 g2
  obtain ⟨a3, n3, c3, rfl⟩ := wf_rep h3 g3
  obtain ⟨a4, n4, c4, rfl⟩ := wf_rep h4 g4
  obtain ⟨a5, n5, c5, rfl⟩ := wf_rep h5 g5
  obtain ⟨e, rfl, e6⟩ := i8_rep h6 g6
  obtain ⟨a7, n7, c7, rfl⟩ := wf_rep h7 g7
  obtain ⟨a8, n8, c8, rfl⟩ := wf_rep h8 g8
  obtain ⟨t, rfl, e9⟩ := st_rep h9 g9
  exact ⟨k, n, s, a3, n3, c3, a4, n4, c4, a5, n5, c5, e, a7, n7, c7, a8, n8, c8, t, rfl, e0, e1, e2, e6, e9, g3, g4, g5, g7, g8⟩
/-- An expression's cells, wherever they stand. -/
theorem at_expr {row : Nat → T} {q b p : Nat} {w wr : World} {ok : Nat → Prop} (hw : WE row q) (h : ∀ j, j < 10 → ∃ y, wr.cell? ⟨b, p + (q + j), none⟩ = some y ∧ (row (q + j)).Rep w ok y) :
    ∃ (k n : Int) (s : ByteArray) (a3 : Option Addr) (n3 c3 : Nat) (a4 : Option Addr) (n4 c4 : Nat) (a5 : Option Addr) (n5 c5 : Nat) (e : Int) (a7 : Option Addr) (n7 c7 : Nat) (a8 : Option Addr) (n8 c8 : Nat) (t : ByteArray), Row w ok (cellsE row q) [.int .u8 k, .int .i64 n, .string s, .slice a3 n3 c3, .slice a4 n4 c4, .slice a5 n5 c5, .int .u8 e, .slice a7 n7 c7, .slice a8 n8 c8, .string t] ∧ wr.cell? ⟨b, p + q, none⟩ = some (.int .u8 k) ∧ wr.cell? ⟨b, p + q + 1, none⟩ = some (.int .i64 n) ∧ wr.cell? ⟨b, p + q + 2, none⟩ = some (.string s) ∧ wr.cell? ⟨b, p + q + 3, none⟩ = some (.slice a3 n3 c3) ∧ wr.cell? ⟨b, p + q + 4, none⟩ = some (.slice a4 n4 c4) ∧ wr.cell? ⟨b, p + q + 5, none⟩ = some (.slice a5 n5 c5) ∧ wr.cell? ⟨b, p + q + 6, none⟩ = some (.int .u8 e) ∧ wr.cell? ⟨b, p + q + 7, none⟩ = some (.slice a7 n7 c7) ∧ wr.cell? ⟨b, p + q + 8, none⟩ = some (.slice a8 n8 c8) ∧ wr.cell? ⟨b, p + q + 9, none⟩ = some (.string t) := by
  obtain ⟨y0, f0, g0⟩ := h 0 (by decide)
  obtain ⟨y1, f1, g1⟩ := h 1 (by decide)
  obtain ⟨y2, f2, g2⟩ := h 2 (by decide)
  obtain ⟨y3, f3, g3⟩ := h 3 (by decide)
  obtain ⟨y4, f4, g4⟩ := h 4 (by decide)
  obtain ⟨y5, f5, g5⟩ := h 5 (by decide)
  obtain ⟨y6, f6, g6⟩ := h 6 (by decide)
  obtain ⟨y7, f7, g7⟩ := h 7 (by decide)
  obtain ⟨y8, f8, g8⟩ := h 8 (by decide)
  obtain ⟨y9, f9, g9⟩ := h 9 (by decide)
  have hr : Row w ok (cellsE row q) [y0, y1, y2, y3, y4, y5, y6, y7, y8, y9] := .cons g0 (.cons g1 (.cons g2 (.cons g3 (.cons g4 (.cons g5 (.cons g6 (.cons g7 (.cons g8 (.cons g9 .nil)))))))))
  obtain ⟨k, n, s, a3, n3, c3, a4, n4, c4, a5, n5, c5, e, a7, n7, c7, a8, n8, c8, t, hv, -⟩ := e_open hw hr
  simp only [List.cons.injEq, and_true] at hv
  obtain ⟨rfl, rfl, rfl, rfl, rfl, rfl, rfl, rfl, rfl, rfl⟩ := hv
  exact ⟨k, n, s, a3, n3, c3, a4, n4, c4, a5, n5, c5, e, a7, n7, c7, a8, n8, c8, t, hr, f0, f1, f2, f3, f4, f5, f6, f7, f8, f9⟩
/-- What a slice of a tree is. -/
theorem sl_open {g : Nat} {t : T} {w : World} {ok : Nat → Prop} {a : Option Addr} {n c : Nat} (hw : Wf g t) (h : t.Rep w ok (.slice a n c)) :
    ∃ k row, t = .ls n k row ∧ n ≤ c ∧ c ≤ 9223372036854775807 ∧ ∀ i, i < n → ∃ b o, a = some ⟨b, o, none⟩ ∧ b < w.heap.size ∧ ∀ j, j < k → ∃ y, w.cell? ⟨b, o + i * k + j, none⟩ = some y ∧ (row i j).Rep w ok y := by
  cases t with
  | sc v => cases g <;> exact hw.elim
  | ls n' k row =>
    obtain ⟨a', c', e, h1, h2, h3⟩ := h
    injection e with e1 e2 e3
    subst e1 e2 e3
    exact ⟨k, row, rfl, h1, h2, fun i hi => by obtain ⟨b, o, e, -, hb, hc⟩ := h3 i hi; exact ⟨b, o, e, hb, hc⟩⟩

/-- WHAT sites DOES WITH AN EXPRESSION that lies in w0. -/
def CE (w0 : World) (row : Nat → T) (o : Nat) : Prop := ∀ (xs : List Value) (v : Value) (W : World) (vs : List Value), FL w0.heap.size xs v W → Below w0.heap.size w0 W → Row w0 (fun _ => True) (cellsE row o) vs → xs.length + (rowS row o).length ≤ 65536 →
  Calls Tryz.prog 11 #[v, .agg vs.toArray] W fun e W' => ∃ v', e = .returned v' ∧ Ap w0.heap.size W v xs (rowS row o) v' W'
/-- What acted does with acts. -/
def CAc (w0 : World) (t : T) : Prop := ∀ (xs : List Value) (v : Value) (W : World) (a : Value), FL w0.heap.size xs v W → Below w0.heap.size w0 W → t.Rep w0 (fun _ => True) a → xs.length + (colS 2 t).length ≤ 65536 →
  Calls Tryz.prog 27 #[v, a] W fun e W' => ∃ v', e = .returned v' ∧ Ap w0.heap.size W v xs (colS 2 t) v' W'
set_option maxRecDepth 100000 in
set_option maxHeartbeats 8000000 in
theorem acted_step (w0 : World) (t : T) (hw : Wf 1 t) (hE : ∀ n row, t = .ls n 12 row → ∀ i, i < n → CE w0 (row i) 2) : CAc w0 t := by
  intro xs v W a hl hb hr hle
  obtain ⟨la, n, lc, rfl⟩ := wf_rep hw hr
  obtain ⟨kk, row, rfl, h1, h2, hel⟩ := sl_open hw hr
  obtain ⟨rfl, hwa⟩ := (wf1 _ _ _).1 hw
  have hce := hE n row rfl
  clear hE hw hr
  have hsum : colS 2 (.ls n 12 row) = pre (fun i => rowS (row i) 2) n := colS_ls _ _ _ _
  rw [hsum] at hle ⊢
  obtain ⟨f, hf⟩ : ∃ f, (fun i => rowS (row i) 2) = f := ⟨_, rfl⟩
  have hfi : ∀ i, rowS (row i) 2 = f i := fun i => by rw [← hf]
  rw [hf] at hle ⊢
  have hsz := hb.size
  have HEL := Lib.hid hel
  have HWE := Lib.hid (fun i (hi : i < n) => (hwa i hi).2.2)
  have HLOW : Hid (∀ ys u wr, Ap w0.heap.size W v xs ys u wr → Below w0.heap.size w0 wr) := fun ys u wr h => h.low hl hb hsz
  have HCE : Hid (∀ (i : Nat) (hi : i < n) ys u wr vs, Ap w0.heap.size W v xs ys u wr → Row w0 (fun _ => True) (cellsE (row i) 2) vs → (xs ++ ys).length + (f i).length ≤ 65536 →
      Calls Tryz.prog 11 #[u, .agg vs.toArray] wr fun e W' => ∃ v', e = .returned v' ∧ Ap w0.heap.size W v xs (ys ++ f i) v' W') := fun i hi ys u wr vs h hr hle => by
    have := hce i hi (xs ++ ys) u wr vs h.rows (h.low hl hb hsz) hr (by rw [hfi]; exact hle)
    refine this.mono fun e W' ⟨v', he, ha⟩ => ⟨v', he, ?_⟩
    rw [hfi] at ha
    exact h.trans ha
  have HLE : Hid (∀ i, i < n → (xs ++ pre f i).length + (f i).length ≤ 65536) := fun i hi => by
    have h3 := pre_le f (k := i + 1) (n := n) (by omega)
    rw [pre_succ, List.length_append] at h3
    rw [List.length_append]
    omega
  have HA := Lib.hid (Ap.refl hl)
  clear hl hb hle hce hf hfi hwa hel hsum
  have hc1 : n ≤ lc := h1
  clear h1
  go_enter Tryz.func27, Tryz.ntmps27
  go_wp2
  go_loopw [0, 5] (fun u i wr => ∃ j : Nat, i = .int .i64 j ∧ j ≤ n ∧ Ap w0.heap.size W v xs (pre f j) u wr) (fun _ i _ => n - (intOf i).toNat)
  case atStart => exact ⟨0, rfl, Nat.zero_le _, HA.out⟩
  case round =>
    obtain ⟨j, rfl, hj, hap⟩ := hrel
    have HAP := Lib.hid hap
    clear hap
    by_cases hlt : j < n
    · have g1 : (j : Int) < (n : Int) := by omega
      have g0 : (0 : Int) ≤ (j : Int) := by omega
      have g2 : j < lc := by omega
      obtain ⟨b, o, rfl, hblt, hcells⟩ := HEL.out j hlt
      have hlow := HLOW.out _ _ _ HAP.out
      obtain ⟨qk, qn, qs, qa3, qn3, qc3, qa4, qn4, qc4, qa5, qn5, qc5, qe, qa7, qn7, qc7, qa8, qn8, qc8, qt, hrow, y0, y1, y2, y3, y4, y5, y6, y7, y8, y9⟩ := at_expr (row := row j) (q := 2) (b := b) (p := o + j * 12) (wr := wr) (ok := fun _ => True) (HWE.out j hlt) (fun i hi => by obtain ⟨y, h1, h2⟩ := hcells (2 + i) (by omega); exact ⟨y, by rw [hlow.cell (p := ⟨b, o + j * 12 + (2 + i), none⟩) hblt]; exact h1, h2⟩)
      replace y0 : wr.cell? ⟨b, o + j * 12 + 2, none⟩ = some (.int .u8 qk) := y0
      replace y1 : wr.cell? ⟨b, o + j * 12 + 3, none⟩ = some (.int .i64 qn) := y1
      replace y2 : wr.cell? ⟨b, o + j * 12 + 4, none⟩ = some (.string qs) := y2
      replace y3 : wr.cell? ⟨b, o + j * 12 + 5, none⟩ = some (.slice qa3 qn3 qc3) := y3
      replace y4 : wr.cell? ⟨b, o + j * 12 + 6, none⟩ = some (.slice qa4 qn4 qc4) := y4
      replace y5 : wr.cell? ⟨b, o + j * 12 + 7, none⟩ = some (.slice qa5 qn5 qc5) := y5
      replace y6 : wr.cell? ⟨b, o + j * 12 + 8, none⟩ = some (.int .u8 qe) := y6
      replace y7 : wr.cell? ⟨b, o + j * 12 + 9, none⟩ = some (.slice qa7 qn7 qc7) := y7
      replace y8 : wr.cell? ⟨b, o + j * 12 + 10, none⟩ = some (.slice qa8 qn8 qc8) := y8
      replace y9 : wr.cell? ⟨b, o + j * 12 + 11, none⟩ = some (.string qt) := y9
      have HC := Lib.hid (HCE.out j hlt _ _ _ _ HAP.out hrow (HLE.out j hlt))
      clear hrow hlow hcells
      go_wp2_with (go_at_call 11; (with_reducible refine HC.out.mono ?_); rintro e1 w1 ⟨v1, rfl, ha1⟩; have HA1 := Lib.hid ha1; clear ha1)
      go_roundw
      case rel => exact ⟨j + 1, by go_num, by omega, by rw [pre_succ]; exact HA1.out⟩
      case measure => simp [intOf]; try omega
    · have hn : ¬ (j : Int) < (n : Int) := by omega
      obtain rfl : j = n := by omega
      go_wp2
      go_ret
      exact ⟨_, rfl, HAP.out⟩
set_option maxRecDepth 100000 in
set_option maxHeartbeats 16000000 in
theorem sites_plain (w0 : World) (row : Nat → T) (o : Nat) (hw : WE row o) (hk : num (row o) ≠ 12)
    (h3 : ∀ n row', row (o + 3) = .ls n 10 row' → ∀ i, i < n → CE w0 (row' i) 0) (h5 : ∀ n row', row (o + 5) = .ls n 10 row' → ∀ i, i < n → CE w0 (row' i) 0) (h7 : ∀ n row', row (o + 7) = .ls n 10 row' → ∀ i, i < n → CE w0 (row' i) 0) (h8 : CAc w0 (row (o + 8))) : CE w0 row o := by
  intro xs v W vs hl hb hr hle
  obtain ⟨k, n, s, a3, n3, c3, a4, n4, c4, a5, n5, c5, e, a7, n7, c7, a8, n8, c8, t, rfl, e0, -, -, -, e9, r3, -, r5, r7, r8⟩ := e_open hw hr
  obtain ⟨-, -, -, w3, -, w5, -, w7, w8, -⟩ := hw
  obtain ⟨kk3, row3, q3, hc3, hm3, hel3⟩ := sl_open w3 r3
  rw [q3] at w3
  obtain ⟨rfl, hwe3⟩ := (wf0 _ _ _).1 w3
  have hce3 := h3 n3 row3 q3
  clear h3 r3
  have hs3 : colS 0 (row (o + 3)) = pre (fun i => rowS (row3 i) 0) n3 := by rw [q3]; exact colS_ls _ _ _ _
  obtain ⟨kk5, row5, q5, hc5, hm5, hel5⟩ := sl_open w5 r5
  rw [q5] at w5
  obtain ⟨rfl, hwe5⟩ := (wf0 _ _ _).1 w5
  have hce5 := h5 n5 row5 q5
  clear h5 r5
  have hs5 : colS 0 (row (o + 5)) = pre (fun i => rowS (row5 i) 0) n5 := by rw [q5]; exact colS_ls _ _ _ _
  obtain ⟨kk7, row7, q7, hc7, hm7, hel7⟩ := sl_open w7 r7
  rw [q7] at w7
  obtain ⟨rfl, hwe7⟩ := (wf0 _ _ _).1 w7
  have hce7 := h7 n7 row7 q7
  clear h7 r7
  have hs7 : colS 0 (row (o + 7)) = pre (fun i => rowS (row7 i) 0) n7 := by rw [q7]; exact colS_ls _ _ _ _
  have hsum : rowS row o = ([] : List Value) ++ (pre (fun i => rowS (row7 i) 0) n7 ++ (pre (fun i => rowS (row5 i) 0) n5 ++ (pre (fun i => rowS (row3 i) 0) n3 ++ colS 2 (row (o + 8))))) := by
    rw [← hs3, ← hs5, ← hs7]
    show ownS row o ++ _ = _
    rw [show ownS row o = ([] : List Value) by unfold ownS; rw [if_neg hk]]
  rw [hsum] at hle ⊢
  clear hsum hs3 hs5 hs7
  have hk' : ((k : Int) == 12) = false := by rw [e0] at hk; exact beq_eq_false_iff_ne.2 hk
  clear hk
  obtain ⟨f7, hf7⟩ : ∃ f, (fun i => rowS (row7 i) 0) = f := ⟨_, rfl⟩
  have hfi7 : ∀ i, rowS (row7 i) 0 = f7 i := fun i => by rw [← hf7]
  rw [hf7] at hle ⊢
  obtain ⟨f5, hf5⟩ : ∃ f, (fun i => rowS (row5 i) 0) = f := ⟨_, rfl⟩
  have hfi5 : ∀ i, rowS (row5 i) 0 = f5 i := fun i => by rw [← hf5]
  rw [hf5] at hle ⊢
  obtain ⟨f3, hf3⟩ : ∃ f, (fun i => rowS (row3 i) 0) = f := ⟨_, rfl⟩
  have hfi3 : ∀ i, rowS (row3 i) 0 = f3 i := fun i => by rw [← hf3]
  rw [hf3] at hle ⊢
  obtain ⟨c2, hc2⟩ : ∃ c2, colS 2 (row (o + 8)) = c2 := ⟨_, rfl⟩
  rw [hc2] at hle ⊢
  have hsz := hb.size
  obtain ⟨Wb, hWb⟩ : ∃ Wb, W.alloc (.cells #[.int .u8 k, .int .i64 n, .string s, .slice a3 n3 c3, .slice a4 n4 c4, .slice a5 n5 c5, .int .u8 e, .slice a7 n7 c7, .slice a8 n8 c8, .string t] 42) = Wb := ⟨_, rfl⟩
  have hzb : Wb.heap.size = W.heap.size + 1 := by rw [← hWb]; simp
  have hbx : Wb.heap[W.heap.size]? = some (.cells #[.int .u8 k, .int .i64 n, .string s, .slice a3 n3 c3, .slice a4 n4 c4, .slice a5 n5 c5, .int .u8 e, .slice a7 n7 c7, .slice a8 n8 c8, .string t] 42 (0, 0)) := by rw [← hWb]; exact heap_alloc_new _ _
  have hlb : FL w0.heap.size xs v Wb := by rw [← hWb]; exact hl.keepB ((Below.refl _ _).alloc (Nat.le_refl _) _)
  have hbb : Below w0.heap.size w0 Wb := by rw [← hWb]; exact hb.alloc hsz _
  have hne : v.ownBlock ≠ some W.heap.size := fun h => by have := hl.own h; omega
  have hszb : w0.heap.size ≤ Wb.heap.size := by omega
  have HLOW : Hid (∀ ys u wr, Ap w0.heap.size Wb v xs ys u wr → Below w0.heap.size w0 wr) := fun ys u wr h => h.low hlb hbb hszb
  have HBX : Hid (∀ ys u wr, Ap w0.heap.size Wb v xs ys u wr → wr.heap[W.heap.size]? = some (.cells #[.int .u8 k, .int .i64 n, .string s, .slice a3 n3 c3, .slice a4 n4 c4, .slice a5 n5 c5, .int .u8 e, .slice a7 n7 c7, .slice a8 n8 c8, .string t] 42 (0, 0))) := fun ys u wr h => h.box hbx hne
  have HEL7 := Lib.hid hel7
  have HWE7 := Lib.hid hwe7
  have HCE7 : Hid (∀ (i : Nat) (hi : i < n7) ys u wr vs, Ap w0.heap.size Wb v xs ys u wr → Row w0 (fun _ => True) (cellsE (row7 i) 0) vs → (xs ++ ys).length + (f7 i).length ≤ 65536 →
      Calls Tryz.prog 11 #[u, .agg vs.toArray] wr fun e W' => ∃ v', e = .returned v' ∧ Ap w0.heap.size Wb v xs (ys ++ f7 i) v' W') := fun i hi ys u wr vs h hr hle => by
    have := hce7 i hi (xs ++ ys) u wr vs h.rows (h.low hlb hbb hszb) hr (by rw [hfi7]; exact hle)
    refine this.mono fun e W' ⟨v', he, ha⟩ => ⟨v', he, ?_⟩
    rw [hfi7] at ha
    exact h.trans ha
  have HEL5 := Lib.hid hel5
  have HWE5 := Lib.hid hwe5
  have HCE5 : Hid (∀ (i : Nat) (hi : i < n5) ys u wr vs, Ap w0.heap.size Wb v xs ys u wr → Row w0 (fun _ => True) (cellsE (row5 i) 0) vs → (xs ++ ys).length + (f5 i).length ≤ 65536 →
      Calls Tryz.prog 11 #[u, .agg vs.toArray] wr fun e W' => ∃ v', e = .returned v' ∧ Ap w0.heap.size Wb v xs (ys ++ f5 i) v' W') := fun i hi ys u wr vs h hr hle => by
    have := hce5 i hi (xs ++ ys) u wr vs h.rows (h.low hlb hbb hszb) hr (by rw [hfi5]; exact hle)
    refine this.mono fun e W' ⟨v', he, ha⟩ => ⟨v', he, ?_⟩
    rw [hfi5] at ha
    exact h.trans ha
  have HEL3 := Lib.hid hel3
  have HWE3 := Lib.hid hwe3
  have HCE3 : Hid (∀ (i : Nat) (hi : i < n3) ys u wr vs, Ap w0.heap.size Wb v xs ys u wr → Row w0 (fun _ => True) (cellsE (row3 i) 0) vs → (xs ++ ys).length + (f3 i).length ≤ 65536 →
      Calls Tryz.prog 11 #[u, .agg vs.toArray] wr fun e W' => ∃ v', e = .returned v' ∧ Ap w0.heap.size Wb v xs (ys ++ f3 i) v' W') := fun i hi ys u wr vs h hr hle => by
    have := hce3 i hi (xs ++ ys) u wr vs h.rows (h.low hlb hbb hszb) hr (by rw [hfi3]; exact hle)
    refine this.mono fun e W' ⟨v', he, ha⟩ => ⟨v', he, ?_⟩
    rw [hfi3] at ha
    exact h.trans ha
  simp only [List.length_append] at hle
  have HLE7 : Hid (∀ i, i < n7 → (xs ++ (([] : List Value) ++ pre f7 i)).length + (f7 i).length ≤ 65536) := fun i hi => by
    have h3 := pre_le f7 (k := i + 1) (n := n7) (by omega)
    rw [pre_succ, List.length_append] at h3
    simp only [List.length_append]
    omega
  have HLE5 : Hid (∀ i, i < n5 → (xs ++ ((([] : List Value) ++ pre f7 n7) ++ pre f5 i)).length + (f5 i).length ≤ 65536) := fun i hi => by
    have h3 := pre_le f5 (k := i + 1) (n := n5) (by omega)
    rw [pre_succ, List.length_append] at h3
    simp only [List.length_append]
    omega
  have HLE3 : Hid (∀ i, i < n3 → (xs ++ (((([] : List Value) ++ pre f7 n7) ++ pre f5 n5) ++ pre f3 i)).length + (f3 i).length ≤ 65536) := fun i hi => by
    have h3 := pre_le f3 (k := i + 1) (n := n3) (by omega)
    rw [pre_succ, List.length_append] at h3
    simp only [List.length_append]
    omega
  have HLE8 : Hid ((xs ++ (((([] : List Value) ++ pre f7 n7) ++ pre f5 n5) ++ pre f3 n3)).length + c2.length ≤ 65536) := by
    show _ ≤ _
    simp only [List.length_append]
    omega
  have HCA : Hid (∀ ys u wr, Ap w0.heap.size Wb v xs ys u wr → (xs ++ ys).length + c2.length ≤ 65536 →
      Calls Tryz.prog 27 #[u, .slice a8 n8 c8] wr fun e W' => ∃ v', e = .returned v' ∧ Ap w0.heap.size Wb v xs (ys ++ c2) v' W') := fun ys u wr h hle => by
    have := h8 (xs ++ ys) u wr _ h.rows (h.low hlb hbb hszb) r8 (by rw [hc2]; exact hle)
    refine this.mono fun e W' ⟨v', he, ha⟩ => ⟨v', he, ?_⟩
    rw [hc2] at ha
    exact h.trans ha
  have HA := Lib.hid (Ap.refl hlb)
  have HXL : Hid (xs.length ≤ 65537) := by show _ ≤ _; omega
  have HSZ := Lib.hid hszb
  obtain ⟨post, hpost⟩ : ∃ post : Ending → World → Prop, post = fun e W' => ∃ v', e = .returned v' ∧ Ap w0.heap.size W v xs (([] : List Value) ++ (pre f7 n7 ++ (pre f5 n5 ++ (pre f3 n3 ++ c2)))) v' W' := ⟨_, rfl⟩
  have HPO : Hid (∀ v' W', Ap w0.heap.size Wb v xs (([] : List Value) ++ (pre f7 n7 ++ (pre f5 n5 ++ (pre f3 n3 ++ c2)))) v' W' → post (.returned v') W') := fun v' W' h => by rw [hpost]; rw [← hWb] at h; exact ⟨v', rfl, h.al⟩
  rw [← hpost]
  have hbx0 := hbx
  clear hpost hle hl hb hr hsz hbx hlb hbb hne hszb hzb e0 e9 w3 w5 w7 w8 r8 h8 hc2 q3 q5 q7
  clear hel7 hwe7 hce7 hf7 hfi7
  clear hel5 hwe5 hce5 hf5 hfi5
  clear hel3 hwe3 hce3 hf3 hfi3
  obtain ⟨⟨x0, x1, x2, x3, x4, x5, x6, x7, x8, x9⟩, -⟩ := blk10 hbx0
  clear hbx0
  have hk1 : ((k : Int) == 12) = false := hk'
  go_enter Tryz.func11, Tryz.ntmps11
  go_wp2
  clear x0 x1 x2 x3 x4 x5 x6 x7 x8 x9
  go_loopw [0, 5] (fun u i wr => ∃ j : Nat, i = .int .i64 j ∧ j ≤ n7 ∧ Ap w0.heap.size Wb v xs (([] : List Value) ++ pre f7 j) u wr) (fun _ i _ => n7 - (intOf i).toNat)
  case atStart => exact ⟨0, rfl, Nat.zero_le _, by rw [pre_zero, List.append_nil]; exact HA.out⟩
  case round =>
    obtain ⟨j, rfl, hj, hap⟩ := hrel
    have HAP := Lib.hid hap
    clear hap
    have hbx := HBX.out _ _ _ HAP.out
    obtain ⟨⟨x0, x1, x2, x3, x4, x5, x6, x7, x8, x9⟩, -⟩ := blk10 hbx
    clear hbx
    by_cases hlt : j < n7
    · have g1 : (j : Int) < (n7 : Int) := by omega
      have g0 : (0 : Int) ≤ (j : Int) := by omega
      have g2 : j < c7 := by omega
      obtain ⟨b, o, rfl, hblt, hcells⟩ := HEL7.out j hlt
      have hlow := HLOW.out _ _ _ HAP.out
      obtain ⟨qk, qn, qs, qa3, qn3, qc3, qa4, qn4, qc4, qa5, qn5, qc5, qe, qa7, qn7, qc7, qa8, qn8, qc8, qt, hrow, y0, y1, y2, y3, y4, y5, y6, y7, y8, y9⟩ := at_expr (row := row7 j) (q := 0) (b := b) (p := o + j * 10) (wr := wr) (ok := fun _ => True) (HWE7.out j hlt) (fun i hi => by obtain ⟨y, h1, h2⟩ := hcells (0 + i) (by omega); exact ⟨y, by rw [hlow.cell (p := ⟨b, o + j * 10 + (0 + i), none⟩) hblt]; exact h1, h2⟩)
      replace y0 : wr.cell? ⟨b, o + j * 10, none⟩ = some (.int .u8 qk) := y0
      replace y1 : wr.cell? ⟨b, o + j * 10 + 1, none⟩ = some (.int .i64 qn) := y1
      replace y2 : wr.cell? ⟨b, o + j * 10 + 2, none⟩ = some (.string qs) := y2
      replace y3 : wr.cell? ⟨b, o + j * 10 + 3, none⟩ = some (.slice qa3 qn3 qc3) := y3
      replace y4 : wr.cell? ⟨b, o + j * 10 + 4, none⟩ = some (.slice qa4 qn4 qc4) := y4
      replace y5 : wr.cell? ⟨b, o + j * 10 + 5, none⟩ = some (.slice qa5 qn5 qc5) := y5
      replace y6 : wr.cell? ⟨b, o + j * 10 + 6, none⟩ = some (.int .u8 qe) := y6
      replace y7 : wr.cell? ⟨b, o + j * 10 + 7, none⟩ = some (.slice qa7 qn7 qc7) := y7
      replace y8 : wr.cell? ⟨b, o + j * 10 + 8, none⟩ = some (.slice qa8 qn8 qc8) := y8
      replace y9 : wr.cell? ⟨b, o + j * 10 + 9, none⟩ = some (.string qt) := y9
      have HC := Lib.hid (HCE7.out j hlt _ _ _ _ HAP.out hrow (HLE7.out j hlt))
      clear hrow hlow hcells
      go_wp2_with (go_at_call 11; (with_reducible refine HC.out.mono ?_); rintro e1 w1 ⟨v1, rfl, ha1⟩; have HA1 := Lib.hid ha1; clear ha1)
      go_roundw
      case rel => exact ⟨j + 1, by go_num, by omega, by rw [pre_succ, ← List.append_assoc]; exact HA1.out⟩
      case measure => simp [intOf]; try omega
    · have hn : ¬ (j : Int) < (n7 : Int) := by omega
      obtain rfl : n7 = j := by omega
      have HZ7 := HAP
      clear HAP x0 x1 x2 x4 x6 x9
      go_wp2
      go_loopw [0, 6] (fun u i wr => ∃ j : Nat, i = .int .i64 j ∧ j ≤ n5 ∧ Ap w0.heap.size Wb v xs ((([] : List Value) ++ pre f7 n7) ++ pre f5 j) u wr) (fun _ i _ => n5 - (intOf i).toNat)
      case atStart => exact ⟨0, rfl, Nat.zero_le _, by rw [pre_zero, List.append_nil]; exact HZ7.out⟩
      case round =>
        obtain ⟨j, rfl, hj, hap⟩ := hrel
        have HAP := Lib.hid hap
        clear hap
        have hbx := HBX.out _ _ _ HAP.out
        obtain ⟨⟨x0, x1, x2, x3, x4, x5, x6, x7, x8, x9⟩, -⟩ := blk10 hbx
        clear hbx
        by_cases hlt : j < n5
        · have g1 : (j : Int) < (n5 : Int) := by omega
          have g0 : (0 : Int) ≤ (j : Int) := by omega
          have g2 : j < c5 := by omega
          obtain ⟨b, o, rfl, hblt, hcells⟩ := HEL5.out j hlt
          have hlow := HLOW.out _ _ _ HAP.out
          obtain ⟨qk, qn, qs, qa3, qn3, qc3, qa4, qn4, qc4, qa5, qn5, qc5, qe, qa7, qn7, qc7, qa8, qn8, qc8, qt, hrow, y0, y1, y2, y3, y4, y5, y6, y7, y8, y9⟩ := at_expr (row := row5 j) (q := 0) (b := b) (p := o + j * 10) (wr := wr) (ok := fun _ => True) (HWE5.out j hlt) (fun i hi => by obtain ⟨y, h1, h2⟩ := hcells (0 + i) (by omega); exact ⟨y, by rw [hlow.cell (p := ⟨b, o + j * 10 + (0 + i), none⟩) hblt]; exact h1, h2⟩)
          replace y0 : wr.cell? ⟨b, o + j * 10, none⟩ = some (.int .u8 qk) := y0
          replace y1 : wr.cell? ⟨b, o + j * 10 + 1, none⟩ = some (.int .i64 qn) := y1
          replace y2 : wr.cell? ⟨b, o + j * 10 + 2, none⟩ = some (.string qs) := y2
          replace y3 : wr.cell? ⟨b, o + j * 10 + 3, none⟩ = some (.slice qa3 qn3 qc3) := y3
          replace y4 : wr.cell? ⟨b, o + j * 10 + 4, none⟩ = some (.slice qa4 qn4 qc4) := y4
          replace y5 : wr.cell? ⟨b, o + j * 10 + 5, none⟩ = some (.slice qa5 qn5 qc5) := y5
          replace y6 : wr.cell? ⟨b, o + j * 10 + 6, none⟩ = some (.int .u8 qe) := y6
          replace y7 : wr.cell? ⟨b, o + j * 10 + 7, none⟩ = some (.slice qa7 qn7 qc7) := y7
          replace y8 : wr.cell? ⟨b, o + j * 10 + 8, none⟩ = some (.slice qa8 qn8 qc8) := y8
          replace y9 : wr.cell? ⟨b, o + j * 10 + 9, none⟩ = some (.string qt) := y9
          have HC := Lib.hid (HCE5.out j hlt _ _ _ _ HAP.out hrow (HLE5.out j hlt))
          clear hrow hlow hcells
          go_wp2_with (go_at_call 11; (with_reducible refine HC.out.mono ?_); rintro e1 w1 ⟨v1, rfl, ha1⟩; have HA1 := Lib.hid ha1; clear ha1)
          go_roundw
          case rel => exact ⟨j + 1, by go_num, by omega, by rw [pre_succ, ← List.append_assoc]; exact HA1.out⟩
          case measure => simp [intOf]; try omega
        · have hn : ¬ (j : Int) < (n5 : Int) := by omega
          obtain rfl : n5 = j := by omega
          have HZ5 := HAP
          clear HAP x0 x1 x2 x4 x6 x7 x9
          go_wp2
          go_loopw [0, 7] (fun u i wr => ∃ j : Nat, i = .int .i64 j ∧ j ≤ n3 ∧ Ap w0.heap.size Wb v xs (((([] : List Value) ++ pre f7 n7) ++ pre f5 n5) ++ pre f3 j) u wr) (fun _ i _ => n3 - (intOf i).toNat)
          case atStart => exact ⟨0, rfl, Nat.zero_le _, by rw [pre_zero, List.append_nil]; exact HZ5.out⟩
          case round =>
            obtain ⟨j, rfl, hj, hap⟩ := hrel
            have HAP := Lib.hid hap
            clear hap
            have hbx := HBX.out _ _ _ HAP.out
            obtain ⟨⟨x0, x1, x2, x3, x4, x5, x6, x7, x8, x9⟩, -⟩ := blk10 hbx
            clear hbx
            by_cases hlt : j < n3
            · have g1 : (j : Int) < (n3 : Int) := by omega
              have g0 : (0 : Int) ≤ (j : Int) := by omega
              have g2 : j < c3 := by omega
              obtain ⟨b, o, rfl, hblt, hcells⟩ := HEL3.out j hlt
              have hlow := HLOW.out _ _ _ HAP.out
              obtain ⟨qk, qn, qs, qa3, qn3, qc3, qa4, qn4, qc4, qa5, qn5, qc5, qe, qa7, qn7, qc7, qa8, qn8, qc8, qt, hrow, y0, y1, y2, y3, y4, y5, y6, y7, y8, y9⟩ := at_expr (row := row3 j) (q := 0) (b := b) (p := o + j * 10) (wr := wr) (ok := fun _ => True) (HWE3.out j hlt) (fun i hi => by obtain ⟨y, h1, h2⟩ := hcells (0 + i) (by omega); exact ⟨y, by rw [hlow.cell (p := ⟨b, o + j * 10 + (0 + i), none⟩) hblt]; exact h1, h2⟩)
              replace y0 : wr.cell? ⟨b, o + j * 10, none⟩ = some (.int .u8 qk) := y0
              replace y1 : wr.cell? ⟨b, o + j * 10 + 1, none⟩ = some (.int .i64 qn) := y1
              replace y2 : wr.cell? ⟨b, o + j * 10 + 2, none⟩ = some (.string qs) := y2
              replace y3 : wr.cell? ⟨b, o + j * 10 + 3, none⟩ = some (.slice qa3 qn3 qc3) := y3
              replace y4 : wr.cell? ⟨b, o + j * 10 + 4, none⟩ = some (.slice qa4 qn4 qc4) := y4
              replace y5 : wr.cell? ⟨b, o + j * 10 + 5, none⟩ = some (.slice qa5 qn5 qc5) := y5
              replace y6 : wr.cell? ⟨b, o + j * 10 + 6, none⟩ = some (.int .u8 qe) := y6
              replace y7 : wr.cell? ⟨b, o + j * 10 + 7, none⟩ = some (.slice qa7 qn7 qc7) := y7
              replace y8 : wr.cell? ⟨b, o + j * 10 + 8, none⟩ = some (.slice qa8 qn8 qc8) := y8
              replace y9 : wr.cell? ⟨b, o + j * 10 + 9, none⟩ = some (.string qt) := y9
              have HC := Lib.hid (HCE3.out j hlt _ _ _ _ HAP.out hrow (HLE3.out j hlt))
              clear hrow hlow hcells
              go_wp2_with (go_at_call 11; (with_reducible refine HC.out.mono ?_); rintro e1 w1 ⟨v1, rfl, ha1⟩; have HA1 := Lib.hid ha1; clear ha1)
              go_roundw
              case rel => exact ⟨j + 1, by go_num, by omega, by rw [pre_succ, ← List.append_assoc]; exact HA1.out⟩
              case measure => simp [intOf]; try omega
            · have hn : ¬ (j : Int) < (n3 : Int) := by omega
              obtain rfl : n3 = j := by omega
              have HZ3 := HAP
              clear HAP
              go_wp2_with (go_at_call 27; go_must (refine (HCA.out _ _ _ HZ3.out (HLE8.out)).mono ?_); rintro e2 w2 ⟨v2, rfl, ha2⟩; have HA2 := Lib.hid ha2; clear ha2)
              exact HPO.out v2 w2 (by have := HA2.out; simpa only [List.append_assoc, List.nil_append] using this)
set_option maxRecDepth 100000 in
set_option maxHeartbeats 16000000 in
theorem sites_deed (w0 : World) (row : Nat → T) (o : Nat) (hw : WE row o) (hk : num (row o) = 12)
    (h3 : ∀ n row', row (o + 3) = .ls n 10 row' → ∀ i, i < n → CE w0 (row' i) 0) (h5 : ∀ n row', row (o + 5) = .ls n 10 row' → ∀ i, i < n → CE w0 (row' i) 0) (h7 : ∀ n row', row (o + 7) = .ls n 10 row' → ∀ i, i < n → CE w0 (row' i) 0) (h8 : CAc w0 (row (o + 8))) : CE w0 row o := by
  intro xs v W vs hl hb hr hle
  obtain ⟨k, n, s, a3, n3, c3, a4, n4, c4, a5, n5, c5, e, a7, n7, c7, a8, n8, c8, t, rfl, e0, -, -, -, e9, r3, -, r5, r7, r8⟩ := e_open hw hr
  obtain ⟨-, -, -, w3, -, w5, -, w7, w8, -⟩ := hw
  obtain ⟨kk3, row3, q3, hc3, hm3, hel3⟩ := sl_open w3 r3
  rw [q3] at w3
  obtain ⟨rfl, hwe3⟩ := (wf0 _ _ _).1 w3
  have hce3 := h3 n3 row3 q3
  clear h3 r3
  have hs3 : colS 0 (row (o + 3)) = pre (fun i => rowS (row3 i) 0) n3 := by rw [q3]; exact colS_ls _ _ _ _
  obtain ⟨kk5, row5, q5, hc5, hm5, hel5⟩ := sl_open w5 r5
  rw [q5] at w5
  obtain ⟨rfl, hwe5⟩ := (wf0 _ _ _).1 w5
  have hce5 := h5 n5 row5 q5
  clear h5 r5
  have hs5 : colS 0 (row (o + 5)) = pre (fun i => rowS (row5 i) 0) n5 := by rw [q5]; exact colS_ls _ _ _ _
  obtain ⟨kk7, row7, q7, hc7, hm7, hel7⟩ := sl_open w7 r7
  rw [q7] at w7
  obtain ⟨rfl, hwe7⟩ := (wf0 _ _ _).1 w7
  have hce7 := h7 n7 row7 q7
  clear h7 r7
  have hs7 : colS 0 (row (o + 7)) = pre (fun i => rowS (row7 i) 0) n7 := by rw [q7]; exact colS_ls _ _ _ _
  have hsum : rowS row o = [Value.string t] ++ (pre (fun i => rowS (row7 i) 0) n7 ++ (pre (fun i => rowS (row5 i) 0) n5 ++ (pre (fun i => rowS (row3 i) 0) n3 ++ colS 2 (row (o + 8))))) := by
    rw [← hs3, ← hs5, ← hs7]
    show ownS row o ++ _ = _
    rw [show ownS row o = [Value.string t] by unfold ownS; rw [if_pos hk, e9]; rfl]
  rw [hsum] at hle ⊢
  clear hsum hs3 hs5 hs7
  obtain rfl : k = 12 := by rw [e0] at hk; exact hk
  clear hk
  obtain ⟨f7, hf7⟩ : ∃ f, (fun i => rowS (row7 i) 0) = f := ⟨_, rfl⟩
  have hfi7 : ∀ i, rowS (row7 i) 0 = f7 i := fun i => by rw [← hf7]
  rw [hf7] at hle ⊢
  obtain ⟨f5, hf5⟩ : ∃ f, (fun i => rowS (row5 i) 0) = f := ⟨_, rfl⟩
  have hfi5 : ∀ i, rowS (row5 i) 0 = f5 i := fun i => by rw [← hf5]
  rw [hf5] at hle ⊢
  obtain ⟨f3, hf3⟩ : ∃ f, (fun i => rowS (row3 i) 0) = f := ⟨_, rfl⟩
  have hfi3 : ∀ i, rowS (row3 i) 0 = f3 i := fun i => by rw [← hf3]
  rw [hf3] at hle ⊢
  obtain ⟨c2, hc2⟩ : ∃ c2, colS 2 (row (o + 8)) = c2 := ⟨_, rfl⟩
  rw [hc2] at hle ⊢
  have hsz := hb.size
  obtain ⟨Wb, hWb⟩ : ∃ Wb, W.alloc (.cells #[.int .u8 12, .int .i64 n, .string s, .slice a3 n3 c3, .slice a4 n4 c4, .slice a5 n5 c5, .int .u8 e, .slice a7 n7 c7, .slice a8 n8 c8, .string t] 42) = Wb := ⟨_, rfl⟩
  have hzb : Wb.heap.size = W.heap.size + 1 := by rw [← hWb]; simp
  have hbx : Wb.heap[W.heap.size]? = some (.cells #[.int .u8 12, .int .i64 n, .string s, .slice a3 n3 c3, .slice a4 n4 c4, .slice a5 n5 c5, .int .u8 e, .slice a7 n7 c7, .slice a8 n8 c8, .string t] 42 (0, 0)) := by rw [← hWb]; exact heap_alloc_new _ _
  have hlb : FL w0.heap.size xs v Wb := by rw [← hWb]; exact hl.keepB ((Below.refl _ _).alloc (Nat.le_refl _) _)
  have hbb : Below w0.heap.size w0 Wb := by rw [← hWb]; exact hb.alloc hsz _
  have hne : v.ownBlock ≠ some W.heap.size := fun h => by have := hl.own h; omega
  have hszb : w0.heap.size ≤ Wb.heap.size := by omega
  have HLOW : Hid (∀ ys u wr, Ap w0.heap.size Wb v xs ys u wr → Below w0.heap.size w0 wr) := fun ys u wr h => h.low hlb hbb hszb
  have HBX : Hid (∀ ys u wr, Ap w0.heap.size Wb v xs ys u wr → wr.heap[W.heap.size]? = some (.cells #[.int .u8 12, .int .i64 n, .string s, .slice a3 n3 c3, .slice a4 n4 c4, .slice a5 n5 c5, .int .u8 e, .slice a7 n7 c7, .slice a8 n8 c8, .string t] 42 (0, 0))) := fun ys u wr h => h.box hbx hne
  have HEL7 := Lib.hid hel7
  have HWE7 := Lib.hid hwe7
  have HCE7 : Hid (∀ (i : Nat) (hi : i < n7) ys u wr vs, Ap w0.heap.size Wb v xs ys u wr → Row w0 (fun _ => True) (cellsE (row7 i) 0) vs → (xs ++ ys).length + (f7 i).length ≤ 65536 →
      Calls Tryz.prog 11 #[u, .agg vs.toArray] wr fun e W' => ∃ v', e = .returned v' ∧ Ap w0.heap.size Wb v xs (ys ++ f7 i) v' W') := fun i hi ys u wr vs h hr hle => by
    have := hce7 i hi (xs ++ ys) u wr vs h.rows (h.low hlb hbb hszb) hr (by rw [hfi7]; exact hle)
    refine this.mono fun e W' ⟨v', he, ha⟩ => ⟨v', he, ?_⟩
    rw [hfi7] at ha
    exact h.trans ha
  have HEL5 := Lib.hid hel5
  have HWE5 := Lib.hid hwe5
  have HCE5 : Hid (∀ (i : Nat) (hi : i < n5) ys u wr vs, Ap w0.heap.size Wb v xs ys u wr → Row w0 (fun _ => True) (cellsE (row5 i) 0) vs → (xs ++ ys).length + (f5 i).length ≤ 65536 →
      Calls Tryz.prog 11 #[u, .agg vs.toArray] wr fun e W' => ∃ v', e = .returned v' ∧ Ap w0.heap.size Wb v xs (ys ++ f5 i) v' W') := fun i hi ys u wr vs h hr hle => by
    have := hce5 i hi (xs ++ ys) u wr vs h.rows (h.low hlb hbb hszb) hr (by rw [hfi5]; exact hle)
    refine this.mono fun e W' ⟨v', he, ha⟩ => ⟨v', he, ?_⟩
    rw [hfi5] at ha
    exact h.trans ha
  have HEL3 := Lib.hid hel3
  have HWE3 := Lib.hid hwe3
  have HCE3 : Hid (∀ (i : Nat) (hi : i < n3) ys u wr vs, Ap w0.heap.size Wb v xs ys u wr → Row w0 (fun _ => True) (cellsE (row3 i) 0) vs → (xs ++ ys).length + (f3 i).length ≤ 65536 →
      Calls Tryz.prog 11 #[u, .agg vs.toArray] wr fun e W' => ∃ v', e = .returned v' ∧ Ap w0.heap.size Wb v xs (ys ++ f3 i) v' W') := fun i hi ys u wr vs h hr hle => by
    have := hce3 i hi (xs ++ ys) u wr vs h.rows (h.low hlb hbb hszb) hr (by rw [hfi3]; exact hle)
    refine this.mono fun e W' ⟨v', he, ha⟩ => ⟨v', he, ?_⟩
    rw [hfi3] at ha
    exact h.trans ha
  simp only [List.length_append] at hle
  have HLE7 : Hid (∀ i, i < n7 → (xs ++ ([Value.string t] ++ pre f7 i)).length + (f7 i).length ≤ 65536) := fun i hi => by
    have h3 := pre_le f7 (k := i + 1) (n := n7) (by omega)
    rw [pre_succ, List.length_append] at h3
    simp only [List.length_append]
    omega
  have HLE5 : Hid (∀ i, i < n5 → (xs ++ (([Value.string t] ++ pre f7 n7) ++ pre f5 i)).length + (f5 i).length ≤ 65536) := fun i hi => by
    have h3 := pre_le f5 (k := i + 1) (n := n5) (by omega)
    rw [pre_succ, List.length_append] at h3
    simp only [List.length_append]
    omega
  have HLE3 : Hid (∀ i, i < n3 → (xs ++ ((([Value.string t] ++ pre f7 n7) ++ pre f5 n5) ++ pre f3 i)).length + (f3 i).length ≤ 65536) := fun i hi => by
    have h3 := pre_le f3 (k := i + 1) (n := n3) (by omega)
    rw [pre_succ, List.length_append] at h3
    simp only [List.length_append]
    omega
  have HLE8 : Hid ((xs ++ ((([Value.string t] ++ pre f7 n7) ++ pre f5 n5) ++ pre f3 n3)).length + c2.length ≤ 65536) := by
    show _ ≤ _
    simp only [List.length_append]
    omega
  have HCA : Hid (∀ ys u wr, Ap w0.heap.size Wb v xs ys u wr → (xs ++ ys).length + c2.length ≤ 65536 →
      Calls Tryz.prog 27 #[u, .slice a8 n8 c8] wr fun e W' => ∃ v', e = .returned v' ∧ Ap w0.heap.size Wb v xs (ys ++ c2) v' W') := fun ys u wr h hle => by
    have := h8 (xs ++ ys) u wr _ h.rows (h.low hlb hbb hszb) r8 (by rw [hc2]; exact hle)
    refine this.mono fun e W' ⟨v', he, ha⟩ => ⟨v', he, ?_⟩
    rw [hc2] at ha
    exact h.trans ha
  have HA := Lib.hid (Ap.refl hlb)
  have HXL : Hid (xs.length ≤ 65537) := by show _ ≤ _; omega
  have HSZ := Lib.hid hszb
  obtain ⟨post, hpost⟩ : ∃ post : Ending → World → Prop, post = fun e W' => ∃ v', e = .returned v' ∧ Ap w0.heap.size W v xs ([Value.string t] ++ (pre f7 n7 ++ (pre f5 n5 ++ (pre f3 n3 ++ c2)))) v' W' := ⟨_, rfl⟩
  have HPO : Hid (∀ v' W', Ap w0.heap.size Wb v xs ([Value.string t] ++ (pre f7 n7 ++ (pre f5 n5 ++ (pre f3 n3 ++ c2)))) v' W' → post (.returned v') W') := fun v' W' h => by rw [hpost]; rw [← hWb] at h; exact ⟨v', rfl, h.al⟩
  rw [← hpost]
  have HFL := Lib.hid (show FRows ShT 9 1 w0.heap.size (xs.map fun u => [T.sc u]) v Wb from hlb)
  have HAP1 : Hid (∀ v' W', FRows ShT 9 1 w0.heap.size ((xs.map fun u => [T.sc u]) ++ [[T.sc (.string t)]]) v' W' → Wb.grownBy W' v.ownBlock → (∀ g, v'.ownBlock = some g → v.ownBlock = some g ∨ Wb.heap.size ≤ g) → Ap w0.heap.size Wb v xs [Value.string t] v' W') := fun v' W' h1 h2 h3 =>
    ⟨by unfold FL; rw [List.map_append]; exact h1, h2, h3⟩
  have hbx0 := hbx
  clear hpost hle hl hb hr hsz hbx hlb hbb hne hszb hzb e0 e9 w3 w5 w7 w8 r8 h8 hc2 q3 q5 q7
  clear hel7 hwe7 hce7 hf7 hfi7
  clear hel5 hwe5 hce5 hf5 hfi5
  clear hel3 hwe3 hce3 hf3 hfi3
  obtain ⟨⟨x0, x1, x2, x3, x4, x5, x6, x7, x8, x9⟩, -⟩ := blk10 hbx0
  clear hbx0
  go_enter Tryz.func11, Tryz.ntmps11
  go_upto_region 3 with (first
    | (at_builtin; go_loud (refine append_R (ts := [T.sc (.string t)]) Tryz.underlying33 infT rfl (by decide) (by decide) HFL.out HSZ.out (by rw [List.length_map]; exact HXL.out) rfl (row_one _ .nil) ⟨_, rfl⟩ (one_str _) rfl _ _ rfl rfl rfl ?_); intro v1 w1 hf1 hg1 ho1; have HA1 := Lib.hid (HAP1.out v1 w1 hf1 hg1 ho1); clear hf1 hg1 ho1))
  go_wp2
  clear x0 x1 x2 x3 x4 x5 x6 x7 x8 x9
  go_loopw [0, 5] (fun u i wr => ∃ j : Nat, i = .int .i64 j ∧ j ≤ n7 ∧ Ap w0.heap.size Wb v xs ([Value.string t] ++ pre f7 j) u wr) (fun _ i _ => n7 - (intOf i).toNat)
  case atStart => exact ⟨0, rfl, Nat.zero_le _, by rw [pre_zero, List.append_nil]; exact HA1.out⟩
  case round =>
    obtain ⟨j, rfl, hj, hap⟩ := hrel
    have HAP := Lib.hid hap
    clear hap
    have hbx := HBX.out _ _ _ HAP.out
    obtain ⟨⟨x0, x1, x2, x3, x4, x5, x6, x7, x8, x9⟩, -⟩ := blk10 hbx
    clear hbx
    by_cases hlt : j < n7
    · have g1 : (j : Int) < (n7 : Int) := by omega
      have g0 : (0 : Int) ≤ (j : Int) := by omega
      have g2 : j < c7 := by omega
      obtain ⟨b, o, rfl, hblt, hcells⟩ := HEL7.out j hlt
      have hlow := HLOW.out _ _ _ HAP.out
      obtain ⟨qk, qn, qs, qa3, qn3, qc3, qa4, qn4, qc4, qa5, qn5, qc5, qe, qa7, qn7, qc7, qa8, qn8, qc8, qt, hrow, y0, y1, y2, y3, y4, y5, y6, y7, y8, y9⟩ := at_expr (row := row7 j) (q := 0) (b := b) (p := o + j * 10) (wr := wr) (ok := fun _ => True) (HWE7.out j hlt) (fun i hi => by obtain ⟨y, h1, h2⟩ := hcells (0 + i) (by omega); exact ⟨y, by rw [hlow.cell (p := ⟨b, o + j * 10 + (0 + i), none⟩) hblt]; exact h1, h2⟩)
      replace y0 : wr.cell? ⟨b, o + j * 10, none⟩ = some (.int .u8 qk) := y0
      replace y1 : wr.cell? ⟨b, o + j * 10 + 1, none⟩ = some (.int .i64 qn) := y1
      replace y2 : wr.cell? ⟨b, o + j * 10 + 2, none⟩ = some (.string qs) := y2
      replace y3 : wr.cell? ⟨b, o + j * 10 + 3, none⟩ = some (.slice qa3 qn3 qc3) := y3
      replace y4 : wr.cell? ⟨b, o + j * 10 + 4, none⟩ = some (.slice qa4 qn4 qc4) := y4
      replace y5 : wr.cell? ⟨b, o + j * 10 + 5, none⟩ = some (.slice qa5 qn5 qc5) := y5
      replace y6 : wr.cell? ⟨b, o + j * 10 + 6, none⟩ = some (.int .u8 qe) := y6
      replace y7 : wr.cell? ⟨b, o + j * 10 + 7, none⟩ = some (.slice qa7 qn7 qc7) := y7
      replace y8 : wr.cell? ⟨b, o + j * 10 + 8, none⟩ = some (.slice qa8 qn8 qc8) := y8
      replace y9 : wr.cell? ⟨b, o + j * 10 + 9, none⟩ = some (.string qt) := y9
      have HC := Lib.hid (HCE7.out j hlt _ _ _ _ HAP.out hrow (HLE7.out j hlt))
      clear hrow hlow hcells
      go_wp2_with (go_at_call 11; (with_reducible refine HC.out.mono ?_); rintro e1 w1 ⟨v1, rfl, ha1⟩; have HA1 := Lib.hid ha1; clear ha1)
      go_roundw
      case rel => exact ⟨j + 1, by go_num, by omega, by rw [pre_succ, ← List.append_assoc]; exact HA1.out⟩
      case measure => simp [intOf]; try omega
    · have hn : ¬ (j : Int) < (n7 : Int) := by omega
      obtain rfl : n7 = j := by omega
      have HZ7 := HAP
      clear HAP x0 x1 x2 x4 x6 x9
      go_wp2
      go_loopw [0, 6] (fun u i wr => ∃ j : Nat, i = .int .i64 j ∧ j ≤ n5 ∧ Ap w0.heap.size Wb v xs (([Value.string t] ++ pre f7 n7) ++ pre f5 j) u wr) (fun _ i _ => n5 - (intOf i).toNat)
      case atStart => exact ⟨0, rfl, Nat.zero_le _, by rw [pre_zero, List.append_nil]; exact HZ7.out⟩
      case round =>
        obtain ⟨j, rfl, hj, hap⟩ := hrel
        have HAP := Lib.hid hap
        clear hap
        have hbx := HBX.out _ _ _ HAP.out
        obtain ⟨⟨x0, x1, x2, x3, x4, x5, x6, x7, x8, x9⟩, -⟩ := blk10 hbx
        clear hbx
        by_cases hlt : j < n5
        · have g1 : (j : Int) < (n5 : Int) := by omega
          have g0 : (0 : Int) ≤ (j : Int) := by omega
          have g2 : j < c5 := by omega
          obtain ⟨b, o, rfl, hblt, hcells⟩ := HEL5.out j hlt
          have hlow := HLOW.out _ _ _ HAP.out
          obtain ⟨qk, qn, qs, qa3, qn3, qc3, qa4, qn4, qc4, qa5, qn5, qc5, qe, qa7, qn7, qc7, qa8, qn8, qc8, qt, hrow, y0, y1, y2, y3, y4, y5, y6, y7, y8, y9⟩ := at_expr (row := row5 j) (q := 0) (b := b) (p := o + j * 10) (wr := wr) (ok := fun _ => True) (HWE5.out j hlt) (fun i hi => by obtain ⟨y, h1, h2⟩ := hcells (0 + i) (by omega); exact ⟨y, by rw [hlow.cell (p := ⟨b, o + j * 10 + (0 + i), none⟩) hblt]; exact h1, h2⟩)
          replace y0 : wr.cell? ⟨b, o + j * 10, none⟩ = some (.int .u8 qk) := y0
          replace y1 : wr.cell? ⟨b, o + j * 10 + 1, none⟩ = some (.int .i64 qn) := y1
          replace y2 : wr.cell? ⟨b, o + j * 10 + 2, none⟩ = some (.string qs) := y2
          replace y3 : wr.cell? ⟨b, o + j * 10 + 3, none⟩ = some (.slice qa3 qn3 qc3) := y3
          replace y4 : wr.cell? ⟨b, o + j * 10 + 4, none⟩ = some (.slice qa4 qn4 qc4) := y4
          replace y5 : wr.cell? ⟨b, o + j * 10 + 5, none⟩ = some (.slice qa5 qn5 qc5) := y5
          replace y6 : wr.cell? ⟨b, o + j * 10 + 6, none⟩ = some (.int .u8 qe) := y6
          replace y7 : wr.cell? ⟨b, o + j * 10 + 7, none⟩ = some (.slice qa7 qn7 qc7) := y7
          replace y8 : wr.cell? ⟨b, o + j * 10 + 8, none⟩ = some (.slice qa8 qn8 qc8) := y8
          replace y9 : wr.cell? ⟨b, o + j * 10 + 9, none⟩ = some (.string qt) := y9
          have HC := Lib.hid (HCE5.out j hlt _ _ _ _ HAP.out hrow (HLE5.out j hlt))
          clear hrow hlow hcells
          go_wp2_with (go_at_call 11; (with_reducible refine HC.out.mono ?_); rintro e1 w1 ⟨v1, rfl, ha1⟩; have HA1 := Lib.hid ha1; clear ha1)
          go_roundw
          case rel => exact ⟨j + 1, by go_num, by omega, by rw [pre_succ, ← List.append_assoc]; exact HA1.out⟩
          case measure => simp [intOf]; try omega
        · have hn : ¬ (j : Int) < (n5 : Int) := by omega
          obtain rfl : n5 = j := by omega
          have HZ5 := HAP
          clear HAP x0 x1 x2 x4 x6 x7 x9
          go_wp2
          go_loopw [0, 7] (fun u i wr => ∃ j : Nat, i = .int .i64 j ∧ j ≤ n3 ∧ Ap w0.heap.size Wb v xs ((([Value.string t] ++ pre f7 n7) ++ pre f5 n5) ++ pre f3 j) u wr) (fun _ i _ => n3 - (intOf i).toNat)
          case atStart => exact ⟨0, rfl, Nat.zero_le _, by rw [pre_zero, List.append_nil]; exact HZ5.out⟩
          case round =>
            obtain ⟨j, rfl, hj, hap⟩ := hrel
            have HAP := Lib.hid hap
            clear hap
            have hbx := HBX.out _ _ _ HAP.out
            obtain ⟨⟨x0, x1, x2, x3, x4, x5, x6, x7, x8, x9⟩, -⟩ := blk10 hbx
            clear hbx
            by_cases hlt : j < n3
            · have g1 : (j : Int) < (n3 : Int) := by omega
              have g0 : (0 : Int) ≤ (j : Int) := by omega
              have g2 : j < c3 := by omega
              obtain ⟨b, o, rfl, hblt, hcells⟩ := HEL3.out j hlt
              have hlow := HLOW.out _ _ _ HAP.out
              obtain ⟨qk, qn, qs, qa3, qn3, qc3, qa4, qn4, qc4, qa5, qn5, qc5, qe, qa7, qn7, qc7, qa8, qn8, qc8, qt, hrow, y0, y1, y2, y3, y4, y5, y6, y7, y8, y9⟩ := at_expr (row := row3 j) (q := 0) (b := b) (p := o + j * 10) (wr := wr) (ok := fun _ => True) (HWE3.out j hlt) (fun i hi => by obtain ⟨y, h1, h2⟩ := hcells (0 + i) (by omega); exact ⟨y, by rw [hlow.cell (p := ⟨b, o + j * 10 + (0 + i), none⟩) hblt]; exact h1, h2⟩)
              replace y0 : wr.cell? ⟨b, o + j * 10, none⟩ = some (.int .u8 qk) := y0
              replace y1 : wr.cell? ⟨b, o + j * 10 + 1, none⟩ = some (.int .i64 qn) := y1
              replace y2 : wr.cell? ⟨b, o + j * 10 + 2, none⟩ = some (.string qs) := y2
              replace y3 : wr.cell? ⟨b, o + j * 10 + 3, none⟩ = some (.slice qa3 qn3 qc3) := y3
              replace y4 : wr.cell? ⟨b, o + j * 10 + 4, none⟩ = some (.slice qa4 qn4 qc4) := y4
              replace y5 : wr.cell? ⟨b, o + j * 10 + 5, none⟩ = some (.slice qa5 qn5 qc5) := y5
              replace y6 : wr.cell? ⟨b, o + j * 10 + 6, none⟩ = some (.int .u8 qe) := y6
              replace y7 : wr.cell? ⟨b, o + j * 10 + 7, none⟩ = some (.slice qa7 qn7 qc7) := y7
              replace y8 : wr.cell? ⟨b, o + j * 10 + 8, none⟩ = some (.slice qa8 qn8 qc8) := y8
              replace y9 : wr.cell? ⟨b, o + j * 10 + 9, none⟩ = some (.string qt) := y9
              have HC := Lib.hid (HCE3.out j hlt _ _ _ _ HAP.out hrow (HLE3.out j hlt))
              clear hrow hlow hcells
              go_wp2_with (go_at_call 11; (with_reducible refine HC.out.mono ?_); rintro e1 w1 ⟨v1, rfl, ha1⟩; have HA1 := Lib.hid ha1; clear ha1)
              go_roundw
              case rel => exact ⟨j + 1, by go_num, by omega, by rw [pre_succ, ← List.append_assoc]; exact HA1.out⟩
              case measure => simp [intOf]; try omega
            · have hn : ¬ (j : Int) < (n3 : Int) := by omega
              obtain rfl : n3 = j := by omega
              have HZ3 := HAP
              clear HAP
              go_wp2_with (go_at_call 27; go_must (refine (HCA.out _ _ _ HZ3.out (HLE8.out)).mono ?_); rintro e2 w2 ⟨v2, rfl, ha2⟩; have HA2 := Lib.hid ha2; clear ha2)
              exact HPO.out v2 w2 (by have := HA2.out; simpa only [List.append_assoc, List.nil_append] using this)
/-- Every expression of a tree. -/
theorem sites_tree (w0 : World) : ∀ t : T, (Wf 0 t → ∀ n row, t = .ls n 10 row → ∀ i, i < n → CE w0 (row i) 0) ∧ (Wf 1 t → ∀ n row, t = .ls n 12 row → ∀ i, i < n → CE w0 (row i) 2) := by
  intro t
  induction t with
  | sc v => exact ⟨fun h => h.elim, fun h => h.elim⟩
  | ls n k row ih =>
    have step : ∀ i q, WE (row i) q → CE w0 (row i) q := fun i q hw => by
      have h3 := (ih i (q + 3)).1 hw.2.2.2.1
      have h5 := (ih i (q + 5)).1 hw.2.2.2.2.2.1
      have h7 := (ih i (q + 7)).1 hw.2.2.2.2.2.2.2.1
      have h8 := acted_step w0 _ hw.2.2.2.2.2.2.2.2.1 ((ih i (q + 8)).2 hw.2.2.2.2.2.2.2.2.1)
      by_cases hk : num (row i q) = 12
      · exact sites_deed w0 (row i) q hw hk h3 h5 h7 h8
      · exact sites_plain w0 (row i) q hw hk h3 h5 h7 h8
    refine ⟨fun hw n' row' e i hi => ?_, fun hw n' row' e i hi => ?_⟩
    · injection e with e1 e2 e3
      subst e1 e2 e3
      exact step i 0 (((wf0 _ _ _).1 hw).2 i hi)
    · injection e with e1 e2 e3
      subst e1 e2 e3
      exact step i 2 (((wf1 _ _ _).1 hw).2 i hi).2.2
theorem sites_any (w0 : World) (row : Nat → T) (q : Nat) (hw : WE row q) : CE w0 row q := by
  have h3 := (sites_tree w0 (row (q + 3))).1 hw.2.2.2.1
  have h5 := (sites_tree w0 (row (q + 5))).1 hw.2.2.2.2.2.1
  have h7 := (sites_tree w0 (row (q + 7))).1 hw.2.2.2.2.2.2.2.1
  have h8 := acted_step w0 _ hw.2.2.2.2.2.2.2.2.1 ((sites_tree w0 (row (q + 8))).2 hw.2.2.2.2.2.2.2.2.1)
  by_cases hk : num (row q) = 12
  · exact sites_deed w0 row q hw hk h3 h5 h7 h8
  · exact sites_plain w0 row q hw hk h3 h5 h7 h8
theorem acted_any (w0 : World) (t : T) (hw : Wf 1 t) : CAc w0 t := acted_step w0 t hw ((sites_tree w0 t).2 hw)
end Go.Proofs.YtdlmemalefhgmaaGreatDoor
namespace Go.Proofs.YtdlmemalefhgmaaGreatDoor
set_option linter.unusedVariables false
set_option linter.unusedSimpArgs false
open Go.RowKit G

section
variable {w0 W : World} {xs : List Value} {v : Value} (hl : FL w0.heap.size xs v W) (hb : Below w0.heap.size w0 W) (hsz : w0.heap.size ≤ W.heap.size)
include hl hb hsz
theorem CE.ap {row : Nat → T} {q : Nat} (h : CE w0 row q) {c : List Value} (hc : rowS row q = c) : ∀ ys u wr vs, Ap w0.heap.size W v xs ys u wr → Row w0 (fun _ => True) (cellsE row q) vs → (xs ++ ys).length + c.length ≤ 65536 →
    Calls Tryz.prog 11 #[u, .agg vs.toArray] wr fun e W' => ∃ v', e = .returned v' ∧ Ap w0.heap.size W v xs (ys ++ c) v' W' := fun ys u wr vs ha hr hle => by
  subst hc
  exact (h (xs ++ ys) u wr vs ha.rows (ha.low hl hb hsz) hr hle).mono fun e W' ⟨v', he, h2⟩ => ⟨v', he, ha.trans h2⟩
theorem CAc.ap {t : T} (h : CAc w0 t) {c : List Value} (hc : colS 2 t = c) : ∀ ys u wr a, Ap w0.heap.size W v xs ys u wr → t.Rep w0 (fun _ => True) a → (xs ++ ys).length + c.length ≤ 65536 →
    Calls Tryz.prog 27 #[u, a] wr fun e W' => ∃ v', e = .returned v' ∧ Ap w0.heap.size W v xs (ys ++ c) v' W' := fun ys u wr a ha hr hle => by
  subst hc
  exact (h (xs ++ ys) u wr a ha.rows (ha.low hl hb hsz) hr hle).mono fun e W' ⟨v', he, h2⟩ => ⟨v', he, ha.trans h2⟩
end
/-- What body does with statements that lie in w0. -/
def CB (w0 : World) (t : T) : Prop := ∀ (xs : List Value) (v : Value) (W : World) (a : Value), FL w0.heap.size xs v W → Below w0.heap.size w0 W → t.Rep w0 (fun _ => True) a → xs.length + (bodyS t).length ≤ 65536 →
  Calls Tryz.prog 12 #[v, a] W fun e W' => ∃ v', e = .returned v' ∧ Ap w0.heap.size W v xs (bodyS t) v' W'
section
variable {w0 W : World} {xs : List Value} {v : Value} (hl : FL w0.heap.size xs v W) (hb : Below w0.heap.size w0 W) (hsz : w0.heap.size ≤ W.heap.size)
include hl hb hsz
theorem CB.ap {t : T} (h : CB w0 t) {c : List Value} (hc : bodyS t = c) : ∀ ys u wr a, Ap w0.heap.size W v xs ys u wr → t.Rep w0 (fun _ => True) a → (xs ++ ys).length + c.length ≤ 65536 →
    Calls Tryz.prog 12 #[u, a] wr fun e W' => ∃ v', e = .returned v' ∧ Ap w0.heap.size W v xs (ys ++ c) v' W' := fun ys u wr a ha hr hle => by
  subst hc
  exact (h (xs ++ ys) u wr a ha.rows (ha.low hl hb hsz) hr hle).mono fun e W' ⟨v', he, h2⟩ => ⟨v', he, ha.trans h2⟩
end
def stmtB (row : Nat → T) : List Value := colS 0 (row 13) ++ (rowS row 3 ++ (colS 2 (row 14) ++ (colS 2 (row 15) ++ bodyS (row 16))))
set_option maxRecDepth 100000 in
set_option maxHeartbeats 16000000 in
theorem body_step (w0 : World) (t : T) (hw : Wf 2 t) (hE : ∀ n row, t = .ls n 17 row → ∀ i, i < n → CB w0 (row i 16)) : CB w0 t := by
  intro xs v W a hl hb hr hle
  obtain ⟨la, n, lc, rfl⟩ := wf_rep hw hr
  obtain ⟨kk, row, rfl, h1, h2, hel⟩ := sl_open hw hr
  obtain ⟨rfl, hwa⟩ := (wf2 _ _ _).1 hw
  have hcb := hE n row rfl
  clear hE hw hr
  have hsum : bodyS (.ls n 17 row) = pre (fun i => stmtB (row i)) n := rfl
  rw [hsum] at hle ⊢
  obtain ⟨f, hf⟩ : ∃ f, (fun i => stmtB (row i)) = f := ⟨_, rfl⟩
  have hfi : ∀ i, f i = stmtB (row i) := fun i => by rw [← hf]
  rw [hf] at hle ⊢
  have hsz := hb.size
  have HEL := Lib.hid hel
  have HWA := Lib.hid hwa
  have HCB := Lib.hid hcb
  have HFI := Lib.hid hfi
  have HIN := Lib.hid (And.intro hl (And.intro hb hsz))
  have HLOW : Hid (∀ ys u wr, Ap w0.heap.size W v xs ys u wr → Below w0.heap.size w0 wr) := fun ys u wr h => h.low hl hb hsz
  have HLE : Hid (∀ i, i < n → (xs ++ pre f i).length + (f i).length ≤ 65536) := fun i hi => by
    have h3 := pre_le f (k := i + 1) (n := n) (by omega)
    rw [pre_succ, List.length_append] at h3
    rw [List.length_append]
    omega
  have HA := Lib.hid (Ap.refl hl)
  clear hl hb hle hcb hf hfi hwa hel hsum hsz
  have hc1 : n ≤ lc := h1
  clear h1
  go_enter Tryz.func12, Tryz.ntmps12
  go_wp2
  go_loopw [0, 5, 6] (fun u i k wr => ∃ j : Nat, i = .int .i64 j ∧ j ≤ n ∧ Ap w0.heap.size W v xs (pre f j) u wr) (fun _ i _ _ => n - (intOf i).toNat)
  case atStart => exact ⟨0, rfl, Nat.zero_le _, HA.out⟩
  case round =>
    obtain ⟨j, rfl, hj, hap⟩ := hrel
    have HAP := Lib.hid hap
    clear hap
    by_cases hlt : j < n
    · have g1 : (j : Int) < (n : Int) := by omega
      have g0 : (0 : Int) ≤ (j : Int) := by omega
      have g2 : j < lc := by omega
      obtain ⟨hl, hb, hsz⟩ := HIN.out
      obtain ⟨b, o, rfl, hblt, hcells⟩ := HEL.out j hlt
      obtain ⟨-, -, -, we, wd, wa, wu, ws⟩ := HWA.out j hlt
      obtain ⟨yd, d0, rd⟩ := hcells 13 (by omega)
      obtain ⟨ya, a0, ra⟩ := hcells 14 (by omega)
      obtain ⟨yu, u0, ru⟩ := hcells 15 (by omega)
      obtain ⟨ys, s0, rs⟩ := hcells 16 (by omega)
      obtain ⟨da, dn, dc, rfl⟩ := wf_rep wd rd
      obtain ⟨aa, an, ac, rfl⟩ := wf_rep wa ra
      obtain ⟨ua, un, uc, rfl⟩ := wf_rep wu ru
      obtain ⟨sa, sn, sc, rfl⟩ := wf_rep ws rs
      have HZ : Hid (∀ wr, Below w0.heap.size w0 wr → ∀ i y, w0.cell? ⟨b, o + j * 17 + i, none⟩ = some y → wr.cell? ⟨b, o + j * 17 + i, none⟩ = some y) := fun wr hw i y hy => by rw [hw.cell (p := ⟨b, o + j * 17 + i, none⟩) hblt]; exact hy
      have HD : Hid (∀ wr, Below w0.heap.size w0 wr → wr.cell? ⟨b, o + j * 17 + 13, none⟩ = some (.slice da dn dc)) := fun wr h => HZ.out wr h 13 _ d0
      have HAA : Hid (∀ wr, Below w0.heap.size w0 wr → wr.cell? ⟨b, o + j * 17 + 14, none⟩ = some (.slice aa an ac)) := fun wr h => HZ.out wr h 14 _ a0
      have HU : Hid (∀ wr, Below w0.heap.size w0 wr → wr.cell? ⟨b, o + j * 17 + 15, none⟩ = some (.slice ua un uc)) := fun wr h => HZ.out wr h 15 _ u0
      have HS : Hid (∀ wr, Below w0.heap.size w0 wr → wr.cell? ⟨b, o + j * 17 + 16, none⟩ = some (.slice sa sn sc)) := fun wr h => HZ.out wr h 16 _ s0
      have HEX : Hid (∀ i, i < 10 → ∃ y, w0.cell? ⟨b, o + j * 17 + (3 + i), none⟩ = some y ∧ (row j (3 + i)).Rep w0 (fun _ => True) y) := fun i hi => hcells (3 + i) (by omega)
      obtain ⟨kd, rowd, qd, dc1, dc2, deld⟩ := sl_open wd rd
      rw [qd] at wd
      obtain ⟨rfl, wed⟩ := (wf0 _ _ _).1 wd
      obtain ⟨fd, hfd⟩ : ∃ f, (fun i => rowS (rowd i) 0) = f := ⟨_, rfl⟩
      obtain ⟨ce, hce⟩ : ∃ c, rowS (row j) 3 = c := ⟨_, rfl⟩
      obtain ⟨ca, hca⟩ : ∃ c, colS 2 (row j 14) = c := ⟨_, rfl⟩
      obtain ⟨cu, hcu⟩ : ∃ c, colS 2 (row j 15) = c := ⟨_, rfl⟩
      obtain ⟨cs, hcs⟩ : ∃ c, bodyS (row j 16) = c := ⟨_, rfl⟩
      have hfj : f j = pre fd dn ++ (ce ++ (ca ++ (cu ++ cs))) := by
        have : colS 0 (row j 13) = pre fd dn := by rw [qd, ← hfd]; exact colS_ls _ _ _ _
        rw [HFI.out, ← this, ← hce, ← hca, ← hcu, ← hcs]
        rfl
      have hle := HLE.out j hlt
      rw [hfj] at hle
      simp only [List.length_append] at hle
      have hpj : pre f (j + 1) = pre f j ++ (pre fd dn ++ (ce ++ (ca ++ (cu ++ cs)))) := by rw [pre_succ, hfj]
      have HPJ := Lib.hid hpj
      have HCD : Hid (∀ i (hi : i < dn) ys u wr vs, Ap w0.heap.size W v xs ys u wr → Row w0 (fun _ => True) (cellsE (rowd i) 0) vs → (xs ++ ys).length + (fd i).length ≤ 65536 →
          Calls Tryz.prog 11 #[u, .agg vs.toArray] wr fun e W' => ∃ v', e = .returned v' ∧ Ap w0.heap.size W v xs (ys ++ fd i) v' W') := fun i hi => CE.ap hl hb hsz (sites_any w0 (rowd i) 0 (wed i hi)) (by rw [← hfd])
      have HCE := Lib.hid (CE.ap hl hb hsz (sites_any w0 (row j) 3 we) hce)
      have HCA := Lib.hid (fun ys u wr h => CAc.ap hl hb hsz (acted_any w0 _ wa) hca ys u wr _ h ra)
      have HCU := Lib.hid (fun ys u wr h => CAc.ap hl hb hsz (acted_any w0 _ wu) hcu ys u wr _ h ru)
      have HCS := Lib.hid (fun ys u wr h => CB.ap hl hb hsz (HCB.out j hlt) hcs ys u wr _ h rs)
      have HLD : Hid (∀ i, i < dn → (xs ++ (pre f j ++ pre fd i)).length + (fd i).length ≤ 65536) := fun i hi => by
        have h3 := pre_le fd (k := i + 1) (n := dn) (by omega)
        rw [pre_succ, List.length_append] at h3
        simp only [List.length_append]
        omega
      have HL1 : Hid ((xs ++ (pre f j ++ pre fd dn)).length + ce.length ≤ 65536) := by show _ ≤ _; simp only [List.length_append]; omega
      have HL2 : Hid ((xs ++ (pre f j ++ pre fd dn ++ ce)).length + ca.length ≤ 65536) := by show _ ≤ _; simp only [List.length_append]; omega
      have HL3 : Hid ((xs ++ (pre f j ++ pre fd dn ++ ce ++ ca)).length + cu.length ≤ 65536) := by show _ ≤ _; simp only [List.length_append]; omega
      have HL4 : Hid ((xs ++ (pre f j ++ pre fd dn ++ ce ++ ca ++ cu)).length + cs.length ≤ 65536) := by show _ ≤ _; simp only [List.length_append]; omega
      have HDE := Lib.hid deld
      have HWD := Lib.hid wed
      have HWE := Lib.hid we
      clear hle hfj hpj hfd hce hca hcu hcs hl hb hsz we wd wa wu ws wed deld d0 a0 u0 s0 rd ra ru rs qd hcells
      go_wp2
      go_loopw [0, 6] (fun u i wr => ∃ k : Nat, i = .int .i64 k ∧ k ≤ dn ∧ Ap w0.heap.size W v xs (pre f j ++ pre fd k) u wr) (fun _ i _ => dn - (intOf i).toNat)
      case atStart => exact ⟨0, rfl, Nat.zero_le _, by rw [pre_zero, List.append_nil]; exact HAP.out⟩
      case round =>
        obtain ⟨k, rfl, hk, hap⟩ := hrel
        have HAQ := Lib.hid hap
        clear hap
        by_cases hlk : k < dn
        · have i1 : (k : Int) < (dn : Int) := by omega
          have i0 : (0 : Int) ≤ (k : Int) := by omega
          have i2 : k < dc := by omega
          have hlow := HLOW.out _ _ _ HAQ.out
          have z13 := HD.out _ hlow
          obtain ⟨c, p, rfl, hclt, hcel⟩ := HDE.out k hlk
          obtain ⟨qk, qn, qs, qa3, qn3, qc3, qa4, qn4, qc4, qa5, qn5, qc5, qe, qa7, qn7, qc7, qa8, qn8, qc8, qt, hrow, y0, y1, y2, y3, y4, y5, y6, y7, y8, y9⟩ := at_expr (row := rowd k) (q := 0) (b := c) (p := p + k * 10) (wr := wr) (ok := fun _ => True) (HWD.out k hlk) (fun i hi => by obtain ⟨y, h1, h2⟩ := hcel (0 + i) (by omega); exact ⟨y, by rw [hlow.cell (p := ⟨c, p + k * 10 + (0 + i), none⟩) hclt]; exact h1, h2⟩)
          replace y0 : wr.cell? ⟨c, p + k * 10, none⟩ = some (.int .u8 qk) := y0
          replace y1 : wr.cell? ⟨c, p + k * 10 + 1, none⟩ = some (.int .i64 qn) := y1
          replace y2 : wr.cell? ⟨c, p + k * 10 + 2, none⟩ = some (.string qs) := y2
          replace y3 : wr.cell? ⟨c, p + k * 10 + 3, none⟩ = some (.slice qa3 qn3 qc3) := y3
          replace y4 : wr.cell? ⟨c, p + k * 10 + 4, none⟩ = some (.slice qa4 qn4 qc4) := y4
          replace y5 : wr.cell? ⟨c, p + k * 10 + 5, none⟩ = some (.slice qa5 qn5 qc5) := y5
          replace y6 : wr.cell? ⟨c, p + k * 10 + 6, none⟩ = some (.int .u8 qe) := y6
          replace y7 : wr.cell? ⟨c, p + k * 10 + 7, none⟩ = some (.slice qa7 qn7 qc7) := y7
          replace y8 : wr.cell? ⟨c, p + k * 10 + 8, none⟩ = some (.slice qa8 qn8 qc8) := y8
          replace y9 : wr.cell? ⟨c, p + k * 10 + 9, none⟩ = some (.string qt) := y9
          have HC := Lib.hid (HCD.out k hlk _ _ _ _ HAQ.out hrow (HLD.out k hlk))
          clear hrow hlow hcel
          go_wp2_with (go_at_call 11; (with_reducible refine HC.out.mono ?_); rintro e1 w1 ⟨v1, rfl, ha1⟩; have HA1 := Lib.hid ha1; clear ha1)
          go_roundw
          case rel => exact ⟨k + 1, by go_num, by omega, by rw [pre_succ, ← List.append_assoc]; exact HA1.out⟩
          case measure => simp [intOf]; try omega
        · have hn : ¬ (k : Int) < (dn : Int) := by omega
          obtain rfl : dn = k := by omega
          have hlow := HLOW.out _ _ _ HAQ.out
          have z13 := HD.out _ hlow
          obtain ⟨qk, qn, qs, qa3, qn3, qc3, qa4, qn4, qc4, qa5, qn5, qc5, qe, qa7, qn7, qc7, qa8, qn8, qc8, qt, hrow, y0, y1, y2, y3, y4, y5, y6, y7, y8, y9⟩ := at_expr (row := row j) (q := 3) (b := b) (p := o + j * 17) (wr := wr) (ok := fun _ => True) HWE.out (fun i hi => by obtain ⟨y, h1, h2⟩ := HEX.out i hi; exact ⟨y, by rw [hlow.cell (p := ⟨b, o + j * 17 + (3 + i), none⟩) hblt]; exact h1, h2⟩)
          replace y0 : wr.cell? ⟨b, o + j * 17 + 3, none⟩ = some (.int .u8 qk) := y0
          replace y1 : wr.cell? ⟨b, o + j * 17 + 4, none⟩ = some (.int .i64 qn) := y1
          replace y2 : wr.cell? ⟨b, o + j * 17 + 5, none⟩ = some (.string qs) := y2
          replace y3 : wr.cell? ⟨b, o + j * 17 + 6, none⟩ = some (.slice qa3 qn3 qc3) := y3
          replace y4 : wr.cell? ⟨b, o + j * 17 + 7, none⟩ = some (.slice qa4 qn4 qc4) := y4
          replace y5 : wr.cell? ⟨b, o + j * 17 + 8, none⟩ = some (.slice qa5 qn5 qc5) := y5
          replace y6 : wr.cell? ⟨b, o + j * 17 + 9, none⟩ = some (.int .u8 qe) := y6
          replace y7 : wr.cell? ⟨b, o + j * 17 + 10, none⟩ = some (.slice qa7 qn7 qc7) := y7
          replace y8 : wr.cell? ⟨b, o + j * 17 + 11, none⟩ = some (.slice qa8 qn8 qc8) := y8
          replace y9 : wr.cell? ⟨b, o + j * 17 + 12, none⟩ = some (.string qt) := y9
          have HC := Lib.hid (HCE.out _ _ _ _ HAQ.out hrow HL1.out)
          clear hrow hlow
          go_wp2_with (first
            | (go_at_call 11; (with_reducible refine HC.out.mono ?_); rintro e1 w1 ⟨v1, rfl, ha1⟩; have HA1 := Lib.hid ha1; clear ha1 y0 y1 y2 y3 y4 y5 y6 y7 y8 y9 z13; have z14 := HAA.out _ (HLOW.out _ _ _ HA1.out))
            | (go_at_call 27; first
              | ((with_reducible refine (HCA.out _ _ _ HA1.out HL2.out).mono ?_); rintro e2 w2 ⟨v2, rfl, ha2⟩; have HA2 := Lib.hid ha2; clear ha2 z14; have z15 := HU.out _ (HLOW.out _ _ _ HA2.out))
              | ((with_reducible refine (HCU.out _ _ _ HA2.out HL3.out).mono ?_); rintro e3 w3 ⟨v3, rfl, ha3⟩; have HA3 := Lib.hid ha3; clear ha3 z15; have z16 := HS.out _ (HLOW.out _ _ _ HA3.out)))
            | (go_at_call 12; (with_reducible refine (HCS.out _ _ _ HA3.out HL4.out).mono ?_); rintro e4 w4 ⟨v4, rfl, ha4⟩; have HA4 := Lib.hid ha4; clear ha4 z16))
          go_roundw
          case rel => exact ⟨j + 1, by go_num, by omega, by rw [HPJ.out]; have := HA4.out; simpa only [List.append_assoc] using this⟩
          case measure => simp [intOf]; try omega
    · have hn : ¬ (j : Int) < (n : Int) := by omega
      obtain rfl : j = n := by omega
      go_wp2
      go_ret
      exact ⟨_, rfl, HAP.out⟩
theorem body_any (w0 : World) : ∀ t : T, Wf 2 t → CB w0 t := by
  intro t
  induction t with
  | sc v => exact fun h => h.elim
  | ls n k row ih =>
    intro hw
    refine body_step w0 _ hw fun n' row' e i hi => ?_
    injection e with e1 e2 e3
    subst e1 e2 e3
    exact ih i 16 (((wf2 _ _ _).1 hw).2 i hi).2.2.2.2.2.2.2
end Go.Proofs.YtdlmemalefhgmaaGreatDoor
namespace Go.Proofs.YtdlmemalefhgmaaGreatDoor
set_option linter.unusedVariables false
set_option linter.unusedSimpArgs false
open Go.RowKit G

/-- What Parse comes to: none, and why; or the components' rows. -/
theorem parse_out (s : ByteArray) (hr : s.size ≤ 140737488355328) :
    (∃ n q : Int, q ≠ 0 ∧ ∀ W, LTabs W → Calls Tryz.prog 8 #[.string s] W fun e w' => e = .returned (.tuple #[.slice none 0 0, .int .i64 n, .int .i64 q]) ∧ Below W.heap.size W w') ∨
    (∃ l, (∀ p ∈ l, Comp 65536 p) ∧ l.length ≤ 65537 ∧ ∀ W, LTabs W → Calls Tryz.prog 8 #[.string s] W fun e w' => ∃ v, e = .returned (.tuple #[v, .int .i64 0, .int .i64 0]) ∧ (ofRows 13 l).Rep w' (fun _ => True) v ∧ Below W.heap.size W w') := by
  rcases Nat.lt_or_ge 65536 s.size with hs | hs
  · exact .inl ⟨0, 3, by decide, fun W _ => parse_big s W hs hr⟩
  · cases hl : LX.lex 0 s.data.toList with
    | err n =>
      refine .inl ⟨n, 4, by decide, fun W ht => (parse_any s W hs ht).mono fun e w' hp => ?_⟩
      unfold PostParse at hp
      rw [hl] at hp
      exact hp
    | ok ws =>
      have hsnd := LX.lex_sound 0 _ ws hl
      have hlen : ws.length ≤ 65536 := by
        have := hsnd.2.2
        have h3 : s.data.toList.length = s.size := by simp
        omega
      cases hp0 : parseP ws with
      | inl n =>
        refine .inl ⟨n, 5, by decide, fun W ht => (parse_any s W hs ht).mono fun e w' hp => ?_⟩
        unfold PostParse at hp
        rw [hl] at hp
        dsimp only at hp
        rw [hp0] at hp
        exact hp
      | inr l =>
        have hc := parse_comps (fun w hw => okw_len (hsnd.1 w hw).1) hp0
        by_cases h5 : l.length ≤ 65537
        · refine .inr ⟨l, fun p hp => ?_, h5, fun W ht => (parse_any s W hs ht).mono fun e w' hp => ?_⟩
          · obtain ⟨a, b, name, m, c, d⟩ := hc p hp
            exact ⟨a, b, name, m, by omega, d⟩
          · unfold PostParse at hp
            rw [hl] at hp
            dsimp only at hp
            rw [hp0] at hp
            obtain ⟨⟨v, he, a, n, cap, rfl, hf, rfl, h6⟩, hb⟩ := hp
            exact ⟨_, he, hf.rep.keep (Nat.le_refl _) (fun _ _ _ => trivial) (fun _ _ _ => rfl), hb⟩
        · refine .inl ⟨0, 1, by decide, fun W ht => (parse_any s W hs ht).mono fun e w' hp => ?_⟩
          unfold PostParse at hp
          rw [hl] at hp
          dsimp only at hp
          rw [hp0] at hp
          obtain ⟨⟨v, he, a, n, cap, rfl, hf, rfl, h6⟩, hb⟩ := hp
          exact absurd h6 h5

set_option maxRecDepth 100000 in
set_option maxHeartbeats 8000000 in
theorem psites_none (s : ByteArray) (w : World) (ht : LTabs w) (hv : VTabs w) (n q : Int) (hq : q ≠ 0) (hP : ∀ W, LTabs W → Calls Tryz.prog 8 #[.string s] W fun e w' => e = .returned (.tuple #[.slice none 0 0, .int .i64 n, .int .i64 q]) ∧ Below W.heap.size W w') :
    Calls Tryz.prog 4 #[.string s] w fun e w' => e = .returned (.bool true) ∧ Below w.heap.size w w' := by
  have H2 := Lib.hid (fun W (h : Below w.heap.size w W) => alive_any W (ht.below h ht.gb) (hv.below h))
  have HT : Hid (∀ W W', Below w.heap.size w W → Below W.heap.size W W' → Below w.heap.size w W') := fun W W' h k => h.trans (k.mono h.size)
  have HP := Lib.hid (hP w ht)
  have hq0 : (q == 0) = false := beq_eq_false_iff_ne.2 hq
  clear ht hv hP
  go_enter Tryz.func4, Tryz.ntmps4
  go_wp2_with fail
  refine HP.out.mono ?_
  rintro e w1 ⟨rfl, hb1⟩
  have HB1 := Lib.hid hb1
  clear hb1
  go_wp2_with fail
  refine (H2.out _ HB1.out).mono ?_
  rintro e w2 ⟨rfl, hb2⟩
  have HB2 := Lib.hid (HT.out _ _ HB1.out hb2)
  clear hb2
  go_wp2_with fail
  refine (H2.out _ HB2.out).mono ?_
  rintro e w3 ⟨rfl, hb3⟩
  have HB3 := Lib.hid (HT.out _ _ HB2.out hb3)
  clear hb3
  go_wp2
  go_ret
  exact ⟨rfl, HB3.out⟩

theorem site_cat (name : Str) (k : Nat) : ((⟨name.toArray⟩ : ByteArray) ++ (⟨#[35]⟩ : ByteArray)) ++ (⟨(Lib.itoa (k : Int)).toArray⟩ : ByteArray) = ⟨(siteS name k).toArray⟩ := by
  apply ByteArray.ext
  simp [siteS]
theorem run_nth (name : Str) {k m : Nat} (h : k < m) : (run name 0 m)[k]? = some (str (siteS name k)) := by
  unfold run
  rw [Nat.sub_zero, List.getElem?_map, List.getElem?_range' h]
  simp
theorem run_length (name : Str) (m : Nat) : (run name 0 m).length = m := by simp [run]
open Go.ChangeShapes Go.WideShapes Go.Deep in
/-- A text in a list. -/
theorem FL.nth {B : Nat} {xs : List Value} {v : Value} {W : World} (h : FL B xs v W) : ∃ a cap, v = .slice a xs.length cap ∧ xs.length ≤ cap ∧ cap ≤ 9223372036854775807 ∧ ∀ k x, xs[k]? = some x → ∃ g, a = some ⟨g, 0, none⟩ ∧ g < W.heap.size ∧ W.cell? ⟨g, k, none⟩ = some x := by
  obtain ⟨vss, h1, h2, h3⟩ := h
  have hl : (xs.map fun u => [T.sc u]).length = xs.length := by simp
  have hf : vss.flatten = xs := by
    clear h1 h3 hl
    induction xs generalizing vss with
    | nil => cases h2; rfl
    | cons x xs ih =>
      cases h2 with
      | @cons _ vs _ vss' h h2 =>
        obtain ⟨-, hr⟩ := h
        obtain ⟨y, m, rfl, hy, hm⟩ := row_inv hr
        cases hm
        have : y = x := hy
        subst this
        rw [List.flatten_cons, ih _ h2]
        rfl
  rw [hf, hl] at h1
  rcases h1.2 with ⟨hv, h0⟩ | ⟨g, cap, cur, hv, -, hg, k2, k3, -⟩
  · refine ⟨none, 0, by rw [hv, h0], by omega, by omega, fun k x hx => ?_⟩
    have := (List.getElem?_eq_some_iff.1 hx).1
    omega
  · unfold maxLen at k3
    refine ⟨_, cap, hv, k2, k3, fun k x hx => ⟨g, rfl, tr_lt_of_block hg, ?_⟩⟩
    subst hv
    have := h1.cells (g := g) rfl k x hx
    rwa [add_plain, Nat.zero_add] at this
/-- What an integer's text is. -/
theorem text_int (n : Int) (w : World) (h1 : -9223372036854775808 ≤ n) (h2 : n ≤ 9223372036854775807) (hv : VTabs w) :
    Calls Tryz.prog 13 #[.agg #[.int .u8 1, .int .i64 n, .string ⟨#[]⟩, .slice none 0 0, .slice none 0 0, .int .u8 0, .string ⟨#[]⟩, .bool false]] w fun x w' => x = .returned (.string ⟨(Lib.itoa n).toArray⟩) ∧ Below w.heap.size w w' := by
  have := VT.text_any (intV n) w (intV_in n _ h1 h2) hv.1 hv.2.1 hv.2.2
  rw [intV_text] at this
  exact this
set_option maxRecDepth 100000 in
set_option maxHeartbeats 16000000 in
theorem psites_some (s : ByteArray) (w : World) (ht : LTabs w) (hv : VTabs w) (l : List (List T)) (hC : ∀ p ∈ l, Comp 65536 p) (hL : l.length ≤ 65537)
    (hP : ∀ W, LTabs W → Calls Tryz.prog 8 #[.string s] W fun e w' => ∃ v, e = .returned (.tuple #[v, .int .i64 0, .int .i64 0]) ∧ (ofRows 13 l).Rep w' (fun _ => True) v ∧ Below W.heap.size W w') :
    Calls Tryz.prog 4 #[.string s] w fun e w' => e = .returned (.bool true) ∧ Below w.heap.size w w' := by
  have H2 := Lib.hid (fun W (h : Below w.heap.size w W) => alive_any W (ht.below h ht.gb) (hv.below h))
  have HT : Hid (∀ W W', Below w.heap.size w W → Below W.heap.size W W' → Below w.heap.size w W') := fun W W' h k => h.trans (k.mono h.size)
  have HTX : Hid (∀ (k : Nat) W, k ≤ 65536 → Below w.heap.size w W → Calls Tryz.prog 13 #[.agg #[.int .u8 1, .int .i64 k, .string ⟨#[]⟩, .slice none 0 0, .slice none 0 0, .int .u8 0, .string ⟨#[]⟩, .bool false]] W fun x w' => x = .returned (.string ⟨(Lib.itoa k).toArray⟩) ∧ Below W.heap.size W w') := fun k W hk h => text_int k W (by omega) (by omega) (hv.below h)
  have HP := Lib.hid (hP w ht)
  obtain ⟨N, hN⟩ : ∃ N, l.length = N := ⟨_, rfl⟩
  have HC : Hid (∀ j, j < N → Comp 65536 (l.getD j [])) := fun j hj => hC _ (getD_mem l j (by rw [hN]; exact hj))
  have HN := Lib.hid hN
  rw [hN] at hL
  clear ht hv hP hC hN
  go_enter Tryz.func4, Tryz.ntmps4
  go_wp2_with fail
  refine HP.out.mono ?_
  rintro e w1 ⟨v, rfl, hrep, hb1⟩
  obtain ⟨la, lc, rfl, hc1, hc2, hel⟩ := hrep
  rw [HN.out] at hc1 hel ⊢
  have HEL := Lib.hid hel
  have HB1 := Lib.hid hb1
  unfold maxLen at hc2
  clear hb1 hel
  go_wp2_with fail
  refine (H2.out _ HB1.out).mono ?_
  rintro e w2 ⟨rfl, hb2⟩
  have HB2 := Lib.hid hb2
  clear hb2
  go_wp2
  go_loopw [6, 7, 8, 9] (fun i l7 k n wr => ∃ j : Nat, i = .int .i64 j ∧ j ≤ N ∧ Below w1.heap.size w1 wr) (fun i _ _ _ _ => N - (intOf i).toNat)
  case atStart => exact ⟨0, rfl, Nat.zero_le _, HB2.out⟩
  case round =>
    obtain ⟨j, rfl, hj, hbr⟩ := hrel
    have HBR := Lib.hid hbr
    clear hbr
    by_cases hlt : j < N
    · have g1 : (j : Int) < (N : Int) := by omega
      have g0 : (0 : Int) ≤ (j : Int) := by omega
      have g2 : j < lc := by omega
      obtain ⟨b, o, rfl, -, hblt, hcells⟩ := HEL.out j hlt
      obtain ⟨-, hwc, name, m, hm, hnl, hname, hsites⟩ := HC.out j hlt
      obtain ⟨row, hrow⟩ : ∃ row, at_ (l.getD j []) = row := ⟨_, rfl⟩
      replace hcells : ∀ q, q < 13 → ∃ y, w1.cell? ⟨b, o + j * 13 + q, none⟩ = some y ∧ (row q).Rep w1 (fun _ => True) y := fun q hq => by
        obtain ⟨y, h1, h2⟩ := hcells q hq
        exact ⟨y, h1, by rw [← hrow]; exact h2⟩
      rw [hrow] at hwc hname
      have hsit : bodyS (row 2) ++ rowS row 3 = run name 0 m := by rw [← hsites, ← hrow]; rfl
      obtain ⟨-, -, wb, we⟩ := hwc
      obtain ⟨yn, n0, rn⟩ := hcells 0 (by omega)
      rw [hname] at rn
      obtain rfl : yn = str name := rn
      obtain ⟨yb, b0, rb⟩ := hcells 2 (by omega)
      obtain ⟨ab, nb, cb, rfl⟩ := wf_rep wb rb
      obtain ⟨qk, qn, qs, qa3, qn3, qc3, qa4, qn4, qc4, qa5, qn5, qc5, qe, qa7, qn7, qc7, qa8, qn8, qc8, qt, hre, y0, y1, y2, y3, y4, y5, y6, y7, y8, y9⟩ := at_expr (row := row) (q := 3) (b := b) (p := o + j * 13) (wr := w1) (ok := fun _ => True) we (fun i hi => hcells (3 + i) (by omega))
      replace y0 : w1.cell? ⟨b, o + j * 13 + 3, none⟩ = some (.int .u8 qk) := y0
      replace y1 : w1.cell? ⟨b, o + j * 13 + 4, none⟩ = some (.int .i64 qn) := y1
      replace y2 : w1.cell? ⟨b, o + j * 13 + 5, none⟩ = some (.string qs) := y2
      replace y3 : w1.cell? ⟨b, o + j * 13 + 6, none⟩ = some (.slice qa3 qn3 qc3) := y3
      replace y4 : w1.cell? ⟨b, o + j * 13 + 7, none⟩ = some (.slice qa4 qn4 qc4) := y4
      replace y5 : w1.cell? ⟨b, o + j * 13 + 8, none⟩ = some (.slice qa5 qn5 qc5) := y5
      replace y6 : w1.cell? ⟨b, o + j * 13 + 9, none⟩ = some (.int .u8 qe) := y6
      replace y7 : w1.cell? ⟨b, o + j * 13 + 10, none⟩ = some (.slice qa7 qn7 qc7) := y7
      replace y8 : w1.cell? ⟨b, o + j * 13 + 11, none⟩ = some (.slice qa8 qn8 qc8) := y8
      replace y9 : w1.cell? ⟨b, o + j * 13 + 12, none⟩ = some (.string qt) := y9
      have hlen : (bodyS (row 2)).length + (rowS row 3).length = m := by rw [← List.length_append, hsit, run_length]
      have HBO : Hid (∀ W, Below w1.heap.size w1 W → Calls Tryz.prog 12 #[.slice none 0 0, .slice ab nb cb] W fun e W' => ∃ v', e = .returned v' ∧ FL w1.heap.size (bodyS (row 2)) v' W' ∧ Below w1.heap.size w1 W') := fun W hW => by
        have hl0 : FL w1.heap.size [] (.slice none 0 0) W := FRows.nil _ _ _ _ _
        refine (body_any w1 _ wb [] _ W _ hl0 hW rb (by show 0 + _ ≤ _; omega)).mono fun e W' ⟨v', he, h2⟩ => ⟨v', he, ?_, h2.low hl0 hW hW.size⟩
        exact h2.rows
      have HSI : Hid (∀ W1 v1, FL w1.heap.size (bodyS (row 2)) v1 W1 → Below w1.heap.size w1 W1 → Calls Tryz.prog 11 #[v1, .agg #[.int .u8 qk, .int .i64 qn, .string qs, .slice qa3 qn3 qc3, .slice qa4 qn4 qc4, .slice qa5 qn5 qc5, .int .u8 qe, .slice qa7 qn7 qc7, .slice qa8 qn8 qc8, .string qt]] W1
          fun e W' => ∃ v', e = .returned v' ∧ FL w1.heap.size (run name 0 m) v' W' ∧ Below w1.heap.size w1 W') := fun W1 v1 ha hw1 => by
        refine (sites_any w1 row 3 we (bodyS (row 2)) v1 W1 _ ha hw1 hre (by omega)).mono fun e W' ⟨v', he, h2⟩ => ⟨v', he, ?_, h2.low ha hw1 hw1.size⟩
        rw [← hsit]
        exact h2.rows
      have KS : Hid (∀ W, Below w1.heap.size w1 W → Below w1.heap.size w1 W ∧ W.cell? ⟨b, o + j * 13 + 2, none⟩ = some (.slice ab nb cb) ∧ W.cell? ⟨b, o + j * 13 + 3, none⟩ = some (.int .u8 qk) ∧ W.cell? ⟨b, o + j * 13 + 4, none⟩ = some (.int .i64 qn) ∧ W.cell? ⟨b, o + j * 13 + 5, none⟩ = some (.string qs) ∧ W.cell? ⟨b, o + j * 13 + 6, none⟩ = some (.slice qa3 qn3 qc3) ∧ W.cell? ⟨b, o + j * 13 + 7, none⟩ = some (.slice qa4 qn4 qc4) ∧ W.cell? ⟨b, o + j * 13 + 8, none⟩ = some (.slice qa5 qn5 qc5) ∧ W.cell? ⟨b, o + j * 13 + 9, none⟩ = some (.int .u8 qe) ∧ W.cell? ⟨b, o + j * 13 + 10, none⟩ = some (.slice qa7 qn7 qc7) ∧ W.cell? ⟨b, o + j * 13 + 11, none⟩ = some (.slice qa8 qn8 qc8) ∧ W.cell? ⟨b, o + j * 13 + 12, none⟩ = some (.string qt)) := fun W hW => by
        have hk : ∀ q y, w1.cell? ⟨b, o + j * 13 + q, none⟩ = some y → W.cell? ⟨b, o + j * 13 + q, none⟩ = some y := fun q y h => by rw [hW.cell (p := ⟨b, o + j * 13 + q, none⟩) hblt]; exact h
        exact ⟨hW, hk _ _ b0, hk _ _ y0, hk _ _ y1, hk _ _ y2, hk _ _ y3, hk _ _ y4, hk _ _ y5, hk _ _ y6, hk _ _ y7, hk _ _ y8, hk _ _ y9⟩
      have HNM : Hid (∀ W, Below w1.heap.size w1 W → W.cell? ⟨b, o + j * 13, none⟩ = some (str name)) := fun W hW => by rw [hW.cell (p := ⟨b, o + j * 13, none⟩) hblt]; exact n0
      clear hcells hrow hname hsites hsit wb we n0 b0 rb y0 y1 y2 y3 y4 y5 y6 y7 y8 y9 hre hlen
      go_wp2_with fail
      go_region_held3 (fun W => Below w1.heap.size w1 W ∧ W.cell? ⟨b, o + j * 13 + 2, none⟩ = some (.slice ab nb cb) ∧ W.cell? ⟨b, o + j * 13 + 3, none⟩ = some (.int .u8 qk) ∧ W.cell? ⟨b, o + j * 13 + 4, none⟩ = some (.int .i64 qn) ∧ W.cell? ⟨b, o + j * 13 + 5, none⟩ = some (.string qs) ∧ W.cell? ⟨b, o + j * 13 + 6, none⟩ = some (.slice qa3 qn3 qc3) ∧ W.cell? ⟨b, o + j * 13 + 7, none⟩ = some (.slice qa4 qn4 qc4) ∧ W.cell? ⟨b, o + j * 13 + 8, none⟩ = some (.slice qa5 qn5 qc5) ∧ W.cell? ⟨b, o + j * 13 + 9, none⟩ = some (.int .u8 qe) ∧ W.cell? ⟨b, o + j * 13 + 10, none⟩ = some (.slice qa7 qn7 qc7) ∧ W.cell? ⟨b, o + j * 13 + 11, none⟩ = some (.slice qa8 qn8 qc8) ∧ W.cell? ⟨b, o + j * 13 + 12, none⟩ = some (.string qt))
        (first | (refine KS.out _ ?_; with_reducible exact HBR.out.drew) | (refine KS.out _ ?_; with_reducible assumption) | with_reducible assumption)
        (first
          | (go_at_call 12; refine (HBO.out _ ?_).mono ?_; (go_split_ands; assumption); rintro x w3 ⟨v3, rfl, hfl3, hlo3⟩)
          | (go_at_call 11; refine (HSI.out _ _ (by assumption) ?_).mono ?_; (first | assumption | (go_split_ands; assumption)); rintro x w4 ⟨v4, rfl, hfl4, hlo4⟩))
      obtain ⟨al, cap, rfl, k1, k2, hnth⟩ := hfl4.nth
      rw [run_length] at k1 ⊢
      have HNT : Hid (∀ k, k < m → ∃ g, al = some ⟨g, 0, none⟩ ∧ g < w4.heap.size ∧ w4.cell? ⟨g, k, none⟩ = some (str (siteS name k))) := fun k hk => hnth k _ (run_nth name hk)
      have HLO4 := Lib.hid hlo4
      have HM := Lib.hid hm
      clear hfl4 hnth hm
      have h4 := hlo4
      clear hlo4
      go_wp2
      go_loopw [8, 9] (fun kk n9 wr2 => ∃ k : Nat, kk = .int .i64 k ∧ k ≤ m ∧ Below w4.heap.size w4 wr2) (fun kk _ _ => m - (intOf kk).toNat)
      case atStart => exact ⟨0, rfl, Nat.zero_le _, Below.refl _ _⟩
      case round =>
        obtain ⟨k, rfl, hk, hb5⟩ := hrel
        have HB5 := Lib.hid hb5
        have HW5 := Lib.hid (HT.out _ _ (HT.out _ _ HB1.out HLO4.out) hb5)
        clear hb5
        by_cases hkm : k < m
        · have i1 : (k : Int) < (m : Int) := by omega
          have i0 : (0 : Int) ≤ (k : Int) := by omega
          have i2 : k < cap := by omega
          go_wp2_with fail
          refine (HTX.out k _ (Nat.le_trans hk HM.out) HW5.out).mono ?_
          rintro x w6 ⟨rfl, hb6⟩
          obtain ⟨g, rfl, hg, c0⟩ := HNT.out k hkm
          have hb46 : Below w4.heap.size w4 w6 := HB5.out.trans (hb6.mono HB5.out.size)
          replace c0 : w6.cell? ⟨g, k, none⟩ = some (str (siteS name k)) := by rw [hb46.cell (p := ⟨g, k, none⟩) hg]; exact c0
          have c1 := HNM.out w6 (HLO4.out.trans (hb46.mono HLO4.out.size))
          have HB6 := Lib.hid hb46
          unfold str at c0 c1
          rw [← site_cat name k] at c0
          have z1 : (⟨name.toArray⟩ : ByteArray).size ≤ 70000 := by show name.toArray.size ≤ _; simpa using hnl
          have z2 : (⟨(Lib.itoa (k : Int)).toArray⟩ : ByteArray).size ≤ 20 := by
            show (Lib.itoa (k : Int)).toArray.size ≤ _
            have := LX.itoa_len (k : Int) (by omega) (by have := HM.out; omega)
            simpa using this
          generalize (⟨name.toArray⟩ : ByteArray) = nb0 at c0 c1 z1
          generalize (⟨(Lib.itoa (k : Int)).toArray⟩ : ByteArray) = tb at c0 z2 ⊢
          clear hb46 hb6 h4
          go_upto_region 12 with fail
          go_quiet (fail)
          go_wp2
          go_roundw
          case rel => exact ⟨k + 1, by go_num, by omega, HB6.out.trans ((below_drewNP _ _).mono HB6.out.size)⟩
          case measure => simp [intOf]; try omega
        · have hn : ¬ (k : Int) < (m : Int) := by omega
          obtain rfl : m = k := by omega
          go_wp2
          go_roundw
          case rel => exact ⟨j + 1, by go_num, by omega, HLO4.out.trans (HB5.out.mono HLO4.out.size)⟩
          case measure => simp [intOf]; try omega
    · have hn : ¬ (j : Int) < (N : Int) := by omega
      obtain rfl : N = j := by omega
      go_wp2
      go_ret
      exact ⟨rfl, HT.out _ _ HB1.out HBR.out⟩
theorem psites_any (s : ByteArray) (w : World) (ht : LTabs w) (hv : VTabs w) (hr : s.size ≤ 140737488355328) :
    Calls Tryz.prog 4 #[.string s] w fun e w' => e = .returned (.bool true) ∧ Below w.heap.size w w' := by
  rcases parse_out s hr with ⟨n, q, hq, hP⟩ | ⟨l, hC, hL, hP⟩
  · exact psites_none s w ht hv n q hq hP
  · exact psites_some s w ht hv l hC hL hP
end Go.Proofs.YtdlmemalefhgmaaGreatDoor
