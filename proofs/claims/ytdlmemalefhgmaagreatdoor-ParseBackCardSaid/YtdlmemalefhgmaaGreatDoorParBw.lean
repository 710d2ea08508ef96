/-
  Plain: a value's text, read: the value comes back, exactly if it has neither elements nor deeds ('rt').
  Conditions: none.
  Plain: values of one tree are told alike, checked alike, and the same ('trees_same'); how long a value's text is ('told_len').
  Conditions: none.
  Walks: ParseBack returns true; old memory is as it was.
  Conditions: the value lies in memory; the package's variables hold what the program's text lays in them; the text is no longer than the reach.
-/
import Derived.Test.YtdlmemalefhgmaaGreatDoorParAn
import Derived.Test.YtdlmemalefhgmaaGreatDoorVtD
namespace Go.Proofs.YtdlmemalefhgmaaGreatDoor
set_option linter.unusedVariables false
set_option linter.unusedSimpArgs false
open Go.RowKit G

/-- What can stand behind a value's word. -/
def Sep (r : Str) : Prop := r = [] ∨ ∃ c t, r = c :: t ∧ (c = 32 ∨ c = 93 ∨ c = 125)
/-- No byte that ends a value's word. -/
def Bare (l : Str) : Prop := ∀ c ∈ l, c ≠ 32 ∧ c ≠ 93 ∧ c ≠ 125
theorem bare_no {c : UInt8} (h : c ≠ 32 ∧ c ≠ 93 ∧ c ≠ 125) : ([32, 93, 125] : List UInt8).contains c = false := by
  rw [Bool.eq_false_iff]
  intro hc
  rw [List.contains_iff_mem] at hc
  simp at hc
  rcases hc with h1 | h1 | h1
  · exact h.1 h1
  · exact h.2.1 h1
  · exact h.2.2 h1
theorem noAny_bare {l r : Str} (h : Bare l) : Lib.NoAny (l ++ r) [32, 93, 125] l.length := fun j b hj hb => by
  rw [List.getElem?_append_left hj] at hb
  exact bare_no (h b (List.mem_of_getElem? hb))
theorem pre_cons (c d : UInt8) (t : Str) : Lib.hasPrefix (c :: t) [d] = (d == c) := by simp [Lib.hasPrefix, List.isPrefixOf]
theorem pre_nil (d : UInt8) : Lib.hasPrefix [] [d] = false := rfl
theorem trim_yes (c : UInt8) (t : Str) : Lib.trimPrefix (c :: t) [c] = t := by rw [trim_eq, pre_cons]; simp
theorem trim_not {c d : UInt8} (t : Str) (h : c ≠ d) : Lib.trimPrefix (c :: t) [d] = c :: t := by
  rw [trim_eq, pre_cons, if_neg (by simp; exact fun e => h e.symm)]
theorem first_bare {c : UInt8} {t r : Str} (h : Bare (c :: t)) (h34 : c ≠ 34) (hs : Sep r) : firstN (c :: t ++ r) = (c :: t).length := by
  unfold firstN
  rw [List.cons_append, pre_cons, if_neg (by simp; exact fun e => h34 e.symm)]
  have hn := noAny_bare (r := r) h
  rcases hs with rfl | ⟨d, u, rfl, hd⟩
  · have h1 : Lib.indexAny (c :: (t ++ [])) [32, 93, 125] = -1 := Lib.indexAny_none (by simpa using hn)
    rw [h1, if_neg (by decide)]
    simp
  · have hx : (c :: t ++ d :: u)[(c :: t).length]? = some d := by rw [List.getElem?_append_right (Nat.le_refl _), Nat.sub_self]; rfl
    have h1 := Lib.indexAny_hit hn hx (by rcases hd with rfl | rfl | rfl <;> rfl)
    rw [List.cons_append] at h1
    rw [h1, if_pos (by omega)]
    rfl
theorem qN_esc : ∀ (s r : Str), qN false (LX.esc s ++ 34 :: r) = (LX.esc s).length + 1
  | [], r => rfl
  | c :: s, r => by
    simp only [LX.esc]
    split
    · rename_i h
      have : (c = 92) ∨ ¬ (c = 92) := Classical.em _
      show (if (92 : UInt8) = 92 then 1 + qN true (c :: (LX.esc s ++ 34 :: r)) else _) = _
      rw [if_pos rfl]
      show 1 + (1 + qN false (LX.esc s ++ 34 :: r)) = _
      rw [qN_esc s r]
      simp only [List.length_cons]
      omega
    · rename_i h
      split
      · show (if (92 : UInt8) = 92 then 1 + qN true (110 :: (LX.esc s ++ 34 :: r)) else _) = _
        rw [if_pos rfl]
        show 1 + (1 + qN false (LX.esc s ++ 34 :: r)) = _
        rw [qN_esc s r]
        simp only [List.length_cons]
        omega
      · have h1 : ¬ c = 92 := fun e => h (.inr (by rw [e]; rfl))
        have h2 : ¬ c = 34 := fun e => h (.inl (by rw [e]; rfl))
        show (if c = 92 then _ else if c = 34 then 1 else 1 + qN false (LX.esc s ++ 34 :: r)) = _
        rw [if_neg h1, if_neg h2, qN_esc s r]
        simp only [List.length_cons]
        omega
theorem first_quoted (s r : Str) : firstN (LX.quotedL s ++ r) = (LX.quotedL s).length := by
  unfold firstN LX.quotedL
  rw [List.cons_append, pre_cons, if_pos (by decide)]
  show 1 + qN false (LX.esc s ++ [34] ++ r) = _
  rw [List.append_assoc]
  show 1 + qN false (LX.esc s ++ 34 :: r) = _
  rw [qN_esc]
  simp only [List.length_cons, List.length_append, List.length_nil]
  omega
theorem lex_one_word {w : LX.LW} (h : LX.OkW w) (hl : w.line = 0) : LX.lex 0 (LX.toldW w) = .ok [w] := by
  have := LX.lex_join [w] (fun x hx => by rw [List.mem_singleton.1 hx]; exact h)
  simp only [LX.joinW, List.map_nil, List.flatten_nil, List.append_nil, List.map_cons] at this
  rw [this, ← hl]
theorem wordV_told {w : LX.LW} {r : Str} (h : LX.OkW w) (hl : w.line = 0) (hz : (LX.toldW w).length ≤ 65536) (hf : firstN (LX.toldW w ++ r) = (LX.toldW w).length) : wordV (LX.toldW w ++ r) = some (w, r) := by
  have h1 : (LX.toldW w ++ r).take (firstN (LX.toldW w ++ r)) = LX.toldW w := by rw [hf]; simp
  have h2 : (LX.toldW w ++ r).drop (firstN (LX.toldW w ++ r)) = r := by rw [hf]; simp
  rw [wordV_one (w := w) (by rw [h1, lexL_small hz]; exact lex_one_word h hl), h2]
theorem esc_len (s : Str) : (LX.esc s).length ≤ 2 * s.length := by
  induction s with
  | nil => simp [LX.esc]
  | cons c s ih =>
    simp only [LX.esc]
    split
    · simp only [List.length_cons]; omega
    · split <;> simp only [List.length_cons] <;> omega
/-- A text in quotes. -/
theorem word_quoted (s r : Str) (h : s.length ≤ 4096) : wordV (LX.quotedL s ++ r) = some (⟨3, s, 0, 0⟩, r) := by
  have := wordV_told (w := ⟨3, s, 0, 0⟩) (r := r) (.inr (.inr (.inl ⟨rfl, rfl, h⟩))) rfl (by
    show (LX.quotedL s).length ≤ _
    have := esc_len s
    simp only [LX.quotedL, List.length_cons, List.length_append, List.length_nil]
    omega) (first_quoted s r)
  exact this
/-- A numeral. -/
theorem nb_bare {c : UInt8} (h : LX.isNB c = true) : (c ≠ 32 ∧ c ≠ 93 ∧ c ≠ 125) ∧ c ≠ 34 := by
  refine ⟨⟨?_, ?_, ?_⟩, ?_⟩ <;> (rintro rfl; revert h; decide)
theorem word_int (n : Int) (r : Str) (h1 : -9223372036854775808 ≤ n) (h2 : n ≤ 9223372036854775807) (hs : Sep r) : wordV (Lib.itoa n ++ r) = some (⟨2, [], n, 0⟩, r) := by
  have hm := LX.itoa_nb n
  have hlen := LX.itoa_len n h1 (by omega)
  cases he : Lib.itoa n with
  | nil => exact absurd he (LX.itoa_ne n)
  | cons c t =>
    rw [he] at hm
    have hf : firstN (c :: t ++ r) = (c :: t).length := first_bare (fun d hd => (nb_bare (hm d hd)).1) (nb_bare (hm c (by simp))).2 hs
    have := wordV_told (w := ⟨2, [], n, 0⟩) (r := r) (.inr (.inr (.inr (.inl ⟨rfl, rfl, h1, by show n < _; omega⟩)))) rfl (by show (Lib.itoa n).length ≤ _; omega) (by show firstN (Lib.itoa n ++ r) = (Lib.itoa n).length; rw [he]; exact hf)
    rw [← he]
    exact this
/-- yes, no, none. -/
theorem word_name (c : UInt8) (t r : Str) (hok : LX.OkW ⟨1, c :: t, 0, 0⟩) (hb : Bare (c :: t)) (h34 : c ≠ 34) (hl : (c :: t).length ≤ 65536) (hs : Sep r) : wordV (c :: t ++ r) = some (⟨1, c :: t, 0, 0⟩, r) :=
  wordV_told (w := ⟨1, c :: t, 0, 0⟩) (r := r) hok rfl hl (first_bare hb h34 hs)
/-- What begins with '<' is no word. -/
theorem word_angle (t : Str) : wordV (60 :: t) = none := by
  cases hx : (60 :: t).take (firstN (60 :: t)) with
  | nil => exact wordV_not (ws := []) (by rw [hx]; rfl) (by decide)
  | cons c u =>
    have hc : c = 60 := by
      cases hn : firstN (60 :: t) with
      | zero => rw [hn] at hx; simp at hx
      | succ m => rw [hn] at hx; simp at hx; exact hx.1.symm
    subst hc
    by_cases hl : (60 :: u).length ≤ 65536
    · refine wordV_err (n := 0) ?_
      rw [hx, lexL_small hl]
      exact LX.lex_err 0 60 u (by decide) rfl
    · refine wordV_err (n := 0) ?_
      rw [hx]
      exact if_neg hl

/-! ### Lists and records -/
/-- From the i-th on: m things, a blank ahead of each but the first. -/
def tailT (g : Nat → Str) (rest : Str) : Nat → Nat → Str
  | 0, _ => rest
  | m + 1, i => (if 0 < i then [32] else []) ++ (g i ++ tailT g rest m (i + 1))
theorem sep_tail (g : Nat → Str) (rest : Str) : ∀ (m i : Nat), VT.sepTo (i + m) g ++ rest = VT.sepTo i g ++ tailT g rest m i
  | 0, i => rfl
  | m + 1, i => by
    rw [show i + (m + 1) = (i + 1) + m by omega, sep_tail g rest m (i + 1)]
    show (VT.sepTo i g ++ ((if 0 < i then [32] else []) ++ g i)) ++ tailT g rest m (i + 1) = _
    simp only [tailT, List.append_assoc]
theorem sep_all (g : Nat → Str) (rest : Str) (n : Nat) : VT.sepTo n g ++ rest = tailT g rest n 0 := by
  have := sep_tail g rest n 0
  rwa [Nat.zero_add] at this
/-- A text that begins with neither of the bytes that end. -/
def Begins (l : Str) : Prop := ∃ c t, l = c :: t ∧ c ≠ 32 ∧ c ≠ 93 ∧ c ≠ 125
theorem tail_sep (g : Nat → Str) (d : UInt8) (hd : d = 93 ∨ d = 125) (rest : Str) : ∀ m i, 0 < i → Sep (tailT g (d :: rest) m i)
  | 0, i, _ => .inr ⟨d, rest, rfl, .inr hd⟩
  | m + 1, i, h => .inr ⟨32, _, by show (if 0 < i then [32] else []) ++ _ = _; rw [if_pos h]; rfl, .inl rfl⟩
/-- Ahead of a thing: the end's byte does not stand there; a blank is taken. -/
theorem tail_trim {g : Nat → Str} {d : UInt8} (hd : d = 93 ∨ d = 125) {rest : Str} {m i : Nat} (hg : Begins (g i)) :
    Lib.hasPrefix (tailT g (d :: rest) (m + 1) i) [d] = false ∧ Lib.trimPrefix (Lib.trimPrefix (tailT g (d :: rest) (m + 1) i) [d]) [32] = g i ++ tailT g (d :: rest) m (i + 1) := by
  obtain ⟨c, t, hc, h1, h2, h3⟩ := hg
  have hcd : c ≠ d := by
    rcases hd with rfl | rfl
    · exact h2
    · exact h3
  have h32 : (32 : UInt8) ≠ d := by rcases hd with rfl | rfl <;> decide
  simp only [tailT]
  by_cases hi : 0 < i
  · rw [if_pos hi]
    have e : [32] ++ (g i ++ tailT g (d :: rest) m (i + 1)) = 32 :: (g i ++ tailT g (d :: rest) m (i + 1)) := rfl
    rw [e, trim_not _ h32, trim_yes, pre_cons]
    exact ⟨by simp; exact fun e => h32 e.symm, rfl⟩
  · rw [if_neg hi, hc]
    have e : [] ++ (c :: t ++ tailT g (d :: rest) m (i + 1)) = c :: (t ++ tailT g (d :: rest) m (i + 1)) := rfl
    rw [e, trim_not _ hcd, trim_not _ h1, pre_cons]
    exact ⟨by simp; exact fun e => hcd e.symm, rfl⟩
theorem end_prefix (d : UInt8) (rest : Str) : Lib.hasPrefix (d :: rest) [d] = true := by rw [pre_cons]; simp
/-- A list, read. -/
theorem list_rt {val : Str → Nat → Vr} {g : Nat → Str} {x : Nat → List T} {kk : Nat → Nat} {pl : Nat → Bool} {n : Nat} {rest : Str} (hg : ∀ j, j < n → Begins (g j))
    (hv : ∀ j, j < n → ∀ r, Sep r → val (g j ++ r) (kk j) = if pl j then some (x j, r, kk (j + 1)) else none) : ∀ (m i fu : Nat), i + m = n → m < fu →
    listV val fu (tailT g (93 :: rest) m i) (kk i) = if (List.range' i m).all pl then some ((List.range' i m).map x, rest, kk n) else none
  | 0, i, fu, hi, hf => by
    obtain ⟨fu, rfl⟩ : ∃ f, fu = f + 1 := ⟨fu - 1, by omega⟩
    obtain rfl : i = n := by omega
    simp only [listV, tailT, end_prefix, if_true, trim_yes]
    rfl
  | m + 1, i, fu, hi, hf => by
    obtain ⟨fu, rfl⟩ : ∃ f, fu = f + 1 := ⟨fu - 1, by omega⟩
    obtain ⟨h1, h2⟩ := tail_trim (g := g) (d := 93) (.inl rfl) (rest := rest) (m := m) (hg i (by omega))
    simp only [listV, h1, h2, Bool.false_eq_true, if_false]
    rw [hv i (by omega) _ (tail_sep g 93 (.inl rfl) rest m (i + 1) (by omega))]
    rw [List.range'_succ, List.all_cons]
    cases hp : pl i with
    | false => simp
    | true =>
      simp only [if_true, Bool.true_and]
      rw [list_rt hg hv m (i + 1) fu (by omega) (by omega)]
      split <;> simp
/-- A record, read. -/
theorem rec_rt {val : Str → Nat → Vr} {nm : Nat → Str} {g : Nat → Str} {x : Nat → List T} {kk : Nat → Nat} {pl : Nat → Bool} {n : Nat} {rest : Str} (hn : ∀ j, j < n → (nm j).length ≤ 4096)
    (hg : ∀ j, j < n → Begins (g j))
    (hv : ∀ j, j < n → ∀ r, Sep r → val (g j ++ r) (kk j) = if pl j then some (x j, r, kk (j + 1)) else none) : ∀ (m i fu : Nat), i + m = n → m < fu →
    recV val fu (tailT (fun j => LX.quotedL (nm j) ++ (32 :: g j)) (125 :: rest) m i) (kk i) = if (List.range' i m).all pl then some ((List.range' i m).map fun j => .sc (str (nm j)) :: x j, rest, kk n) else none
  | 0, i, fu, hi, hf => by
    obtain ⟨fu, rfl⟩ : ∃ f, fu = f + 1 := ⟨fu - 1, by omega⟩
    obtain rfl : i = n := by omega
    simp only [recV, tailT, end_prefix, if_true, trim_yes]
    rfl
  | m + 1, i, fu, hi, hf => by
    obtain ⟨fu, rfl⟩ : ∃ f, fu = f + 1 := ⟨fu - 1, by omega⟩
    have hb : Begins (LX.quotedL (nm i) ++ (32 :: g i)) := ⟨34, _, rfl, by decide, by decide, by decide⟩
    obtain ⟨h1, h2⟩ := tail_trim (g := fun j => LX.quotedL (nm j) ++ (32 :: g j)) (d := 125) (.inr rfl) (rest := rest) (m := m) (i := i) hb
    simp only [recV, h1, h2, Bool.false_eq_true, if_false]
    rw [List.append_assoc, word_quoted _ _ (hn i (by omega))]
    have e : Lib.trimPrefix (32 :: g i ++ tailT (fun j => LX.quotedL (nm j) ++ (32 :: g j)) (125 :: rest) m (i + 1)) [32] = g i ++ tailT (fun j => LX.quotedL (nm j) ++ (32 :: g j)) (125 :: rest) m (i + 1) := trim_yes _ _
    simp only [e]
    rw [hv i (by omega) _ (tail_sep _ 125 (.inr rfl) rest m (i + 1) (by omega))]
    rw [List.range'_succ, List.all_cons]
    cases hp : pl i with
    | false => simp
    | true =>
      simp only [if_true, Bool.true_and]
      rw [rec_rt hn hg hv m (i + 1) fu (by omega) (by omega)]
      split <;> simp

/-! ### Values -/
def VT.V.plain : VT.V → Bool
  | .leaf => false
  | .mk k _ _ _ ll _ L _ fl _ _ F _ _ _ => decide (k ≠ 6 ∧ k ≠ 7) && ((List.range' 0 ll).all (fun i => (L i).plain) && (List.range' 0 fl).all (fun i => (F i).plain))
/-- One thing after another, each taking of a count, as long as all is well. -/
abbrev foldM (M : Nat → Int → Bool × Int) (n : Nat) (a : Bool × Int) : Bool × Int := VT.foldTo n (fun i a => if a.1 then M i a.2 else a) a
theorem fold_back {M : Nat → Int → Bool × Int} {a : Bool × Int} : ∀ {n : Nat}, (foldM M n a).1 = true → ∀ i, i ≤ n → (foldM M i a).1 = true
  | 0, h, i, hi => by obtain rfl : i = 0 := by omega
                      exact h
  | n + 1, h, i, hi => by
    rcases Nat.lt_or_ge i (n + 1) with h1 | h1
    · refine fold_back (n := n) ?_ i (by omega)
      by_cases h2 : (foldM M n a).1 = true
      · exact h2
      · have e : foldM M (n + 1) a = foldM M n a := by show (if (foldM M n a).1 then _ else _) = _; rw [if_neg h2]
        rw [e] at h
        exact h
    · obtain rfl : i = n + 1 := by omega
      exact h
theorem fold_step {M : Nat → Int → Bool × Int} {a : Bool × Int} {n : Nat} (h : (foldM M n a).1 = true) {i : Nat} (hi : i < n) : M i (foldM M i a).2 = (true, (foldM M (i + 1) a).2) := by
  have h1 := fold_back h i (by omega)
  have h2 := fold_back h (i + 1) (by omega)
  have e : foldM M (i + 1) a = M i (foldM M i a).2 := by show (if (foldM M i a).1 then _ else _) = _; rw [if_pos h1]
  rw [e] at h2 ⊢
  exact Prod.ext h2 rfl
theorem fold_left {M : Nat → Int → Bool × Int} {a : Bool × Int} {n : Nat} (h : (foldM M n a).1 = true) (hM : ∀ i, i < n → ∀ l l', M i l = (true, l') → 0 ≤ l' ∧ l' < l) : ∀ i, i ≤ n → (foldM M i a).2 + i ≤ a.2 ∧ (0 ≤ a.2 → 0 ≤ (foldM M i a).2)
  | 0, _ => ⟨by show a.2 + (0 : Nat) ≤ a.2; omega, fun h => h⟩
  | i + 1, hi => by
    have h1 := fold_left h hM i (by omega)
    have h2 := hM i (by omega) _ _ (fold_step h (i := i) (by omega))
    exact ⟨by omega, fun _ => h2.1⟩
theorem may_parts {k n : Int} {s : ByteArray} {la : Option Addr} {ll lc : Nat} {L : Nat → VT.V} {fa : Option Addr} {fl fc : Nat} {fn : Nat → ByteArray} {F : Nat → VT.V} {e : Int} {key : ByteArray} {hk : Bool} {deep left left' : Int}
    (h : (VT.V.mk k n s la ll lc L fa fl fc fn F e key hk).may deep left = (true, left')) :
    (¬ left - 1 < 0 ∧ ¬ 64 < deep) ∧ VT.inRowB k n s ll fl fn e key hk = true ∧ VT.inLimB s key = true ∧ VT.risingB fl fn = true ∧
      foldM (fun i l => (F i).may (deep + 1) l) fl (foldM (fun i l => (L i).may (deep + 1) l) ll (true, left - 1)) = (true, left') := by
  unfold VT.V.may at h
  split at h
  · cases h
  · rename_i h1
    split at h
    · cases h
    · rename_i h2
      have h3 : (VT.inRowB k n s ll fl fn e key hk && (VT.inLimB s key && VT.risingB fl fn)) = true := by
        cases hb : (VT.inRowB k n s ll fl fn e key hk && (VT.inLimB s key && VT.risingB fl fn)) with
        | true => rfl
        | false => exact absurd hb h2
      simp only [Bool.and_eq_true] at h3
      exact ⟨⟨fun h => h1 (.inl h), fun h => h1 (.inr h)⟩, h3.1, h3.2.1, h3.2.2, h⟩
theorem may_le : ∀ (v : VT.V) (deep left left' : Int), v.may deep left = (true, left') → 0 ≤ left' ∧ left' < left := by
  intro v
  induction v with
  | leaf => intro deep left left' h; cases h
  | mk k n s la ll lc L fa fl fc fn F e key hk ihL ihF =>
    intro deep left left' h
    obtain ⟨⟨h1, -⟩, -, -, -, h2⟩ := may_parts h
    have hb : (foldM (fun i l => (F i).may (deep + 1) l) fl (foldM (fun i l => (L i).may (deep + 1) l) ll (true, left - 1))).1 = true := by rw [h2]
    have ha : (foldM (fun i l => (L i).may (deep + 1) l) ll (true, left - 1)).1 = true := fold_back hb 0 (Nat.zero_le _)
    have fa := fold_left ha (fun i _ l l' h => ihL i _ l l' h) ll (Nat.le_refl _)
    have fb := fold_left hb (fun i _ l l' h => ihF i _ l l' h) fl (Nat.le_refl _)
    rw [h2] at fb
    have h0 := fa.2 (by show 0 ≤ left - 1; omega)
    have h3 := fb.2 h0
    have h4 := fa.1
    have h5 := fb.1
    refine ⟨h3, ?_⟩
    have h6 : ((true, left - 1) : Bool × Int).2 = left - 1 := rfl
    have h7 : ((true, left') : Bool × Int).2 = left' := rfl
    rw [h6] at h4
    rw [h7] at h5
    omega
theorem rows_trees (k n : Nat) (L : Nat → List T) : ofRows k ((List.range' 0 n).map L) = .ls n k (fun i j => (if i < n then L i else []).getD j default) := by
  unfold ofRows
  rw [List.length_map, List.length_range']
  congr 1
  funext i j
  congr 1
  rw [List.getD_eq_getElem?_getD, List.getElem?_map]
  by_cases h : i < n
  · rw [List.getElem?_range' h, if_pos h]; simp
  · rw [List.getElem?_eq_none (by simp; omega), if_neg h]; rfl
theorem str_data (s : ByteArray) : str s.data.toList = .string s := by
  unfold str
  cases s
  simp
theorem row_facts {k n : Int} {s : ByteArray} {ll fl : Nat} {fn : Nat → ByteArray} {e : Int} {key : ByteArray} {hk : Bool} (h : VT.inRowB k n s ll fl fn e key hk = true) :
    k < 8 ∧ ((k = 1 ∨ k = 2 ∨ k = 7) ∨ n = 0) ∧ ((k = 3 ∨ k = 6 ∨ k = 7) ∨ s = ⟨#[]⟩) ∧ ((k = 4 ∨ k = 6) ∨ ll = 0) ∧ ((k = 5 ∨ k = 6 ∨ k = 7) ∨ fl = 0) ∧ (k = 6 ∨ (e = 0 ∧ hk = false)) ∧ (hk = true ∨ key = ⟨#[]⟩) ∧ (k = 2 → n = 0 ∨ n = 1) := by
  unfold VT.inRowB VT.emptyB at h
  simp only [Bool.and_eq_true, Bool.or_eq_true, decide_eq_true_eq, Bool.not_eq_true'] at h
  obtain ⟨h1, h2, h3, h4, h5, h6, h7, h8⟩ := h
  refine ⟨h1, h2, h3.imp id (fun h => h.trans rfl), h4, h5, h6, h7.imp id (fun h => h.trans rfl), fun hk2 => ?_⟩
  rw [if_pos hk2] at h8
  simpa using h8
theorem lim_facts {s key : ByteArray} (h : VT.inLimB s key = true) : s.size ≤ 4096 := by
  unfold VT.inLimB at h
  simp only [Bool.and_eq_true, decide_eq_true_eq] at h
  exact h.1
theorem rising_facts {fl : Nat} {fn : Nat → ByteArray} (h : VT.risingB fl fn = true) : ∀ i, i < fl → (fn i).size ≤ 4096 := fun i hi => by
  unfold VT.risingB at h
  have := VT.allB_true.1 h i hi
  simp only [Bool.and_eq_true, decide_eq_true_eq] at this
  exact this.2
/-- The texts of values that may be: none begins with a byte that ends. -/
theorem told_begins {w : World} : ∀ (v : VT.V) (deep left left' : Int), v.In w → v.may deep left = (true, left') → Begins v.told
  | .leaf, _, _, _, h, _ => h.elim
  | .mk k n s la ll lc L fa fl fc fn F e key hk, deep, left, left', hin, h => by
    obtain ⟨-, hr, -⟩ := may_parts h
    obtain ⟨h8, -⟩ := row_facts hr
    obtain ⟨⟨h0, -⟩, -⟩ := hin
    unfold VT.V.told
    by_cases k0 : k = 0
    · rw [if_pos k0]; exact ⟨110, _, rfl, by decide, by decide, by decide⟩
    rw [if_neg k0]
    by_cases k1 : k = 1
    · rw [if_pos k1]
      cases hi : Lib.itoa n with
      | nil => exact absurd hi (LX.itoa_ne n)
      | cons c t =>
        have := (nb_bare (LX.itoa_nb n c (by rw [hi]; simp))).1
        exact ⟨c, t, rfl, this.1, this.2.1, this.2.2⟩
    rw [if_neg k1]
    by_cases k2 : k = 2
    · rw [if_pos k2]
      split
      · exact ⟨121, _, rfl, by decide, by decide, by decide⟩
      · exact ⟨110, _, rfl, by decide, by decide, by decide⟩
    rw [if_neg k2]
    by_cases k3 : k = 3
    · rw [if_pos k3]; exact ⟨34, _, rfl, by decide, by decide, by decide⟩
    rw [if_neg k3]
    by_cases k4 : k = 4
    · rw [if_pos k4]; exact ⟨91, _, rfl, by decide, by decide, by decide⟩
    rw [if_neg k4]
    by_cases k5 : k = 5
    · rw [if_pos k5]; exact ⟨123, _, rfl, by decide, by decide, by decide⟩
    rw [if_neg k5]
    by_cases k6 : k = 6
    · rw [if_pos k6]; exact ⟨60, _, rfl, by decide, by decide, by decide⟩
    rw [if_neg k6]
    by_cases k7 : k = 7
    · rw [if_pos k7]; exact ⟨60, _, rfl, by decide, by decide, by decide⟩
    · omega
theorem quotedV_eq (l : List UInt8) : VT.quotedL l = LX.quotedL l := by
  have : ∀ l : List UInt8, l.flatMap VT.escB = LX.esc l := by
    intro l
    induction l with
    | nil => rfl
    | cons c t ih =>
      rw [List.flatMap_cons, ih]
      have e1 : c = 34 ↔ c.toNat = 34 := ⟨fun h => by rw [h]; rfl, fun h => UInt8.toNat_inj.1 h⟩
      have e2 : c = 92 ↔ c.toNat = 92 := ⟨fun h => by rw [h]; rfl, fun h => UInt8.toNat_inj.1 h⟩
      have e3 : c = 10 ↔ c.toNat = 10 := ⟨fun h => by rw [h]; rfl, fun h => UInt8.toNat_inj.1 h⟩
      unfold VT.escB
      simp only [LX.esc, e1, e2, e3]
      by_cases h1 : c.toNat = 34
      · simp [h1]
      · by_cases h2 : c.toNat = 92
        · simp [h2]
        · by_cases h3 : c.toNat = 10
          · simp [h3]
          · simp [h1, h2, h3]
  unfold VT.quotedL LX.quotedL
  rw [this]
theorem trees_cols (k n : Int) (s : ByteArray) (la : Option Addr) (ll lc : Nat) (L : Nat → VT.V) (fa : Option Addr) (fl fc : Nat) (fn : Nat → ByteArray) (F : Nat → VT.V) :
    (VT.V.mk k n s la ll lc L fa fl fc fn F 0 ⟨#[]⟩ false).trees = vCols k n s.data.toList ((List.range' 0 ll).map fun i => (L i).trees) ((List.range' 0 fl).map fun i => .sc (.string (fn i)) :: (F i).trees) := by
  rw [VT.V.trees, vCols, rows_trees, rows_trees, str_data]
  rfl
theorem valueV_word {f deep kk : Nat} {c : UInt8} {t : Str} (hc : ¬ (4096 < kk + 1 ∨ 64 < deep)) (h1 : c ≠ 91) (h2 : c ≠ 123) : valueV (f + 1) deep (c :: t) kk = plainV (c :: t) (kk + 1) := by
  unfold valueV
  rw [if_neg hc, pre_cons, if_neg (by simp; exact fun e => h1 e.symm), trim_not _ h1, pre_cons, if_neg (by simp; exact fun e => h2 e.symm), trim_not _ h2]
theorem valueV_list {f deep kk : Nat} {t : Str} (hc : ¬ (4096 < kk + 1 ∨ 64 < deep)) : valueV (f + 1) deep (91 :: t) kk = (listV (valueV f (deep + 1)) 4098 t (kk + 1)).map fun p => (vCols 4 0 [] p.1 [], p.2) := by
  rw [valueV, if_neg hc, pre_cons, if_pos (by decide), trim_yes]
theorem valueV_rec {f deep kk : Nat} {t : Str} (hc : ¬ (4096 < kk + 1 ∨ 64 < deep)) : valueV (f + 1) deep (123 :: t) kk = (recV (valueV f (deep + 1)) 4098 t (kk + 1)).map fun p => (vCols 5 0 [] [] p.1, p.2) := by
  rw [valueV, if_neg hc, pre_cons, if_neg (by decide), trim_not _ (by decide), pre_cons, if_pos (by decide), trim_yes]
/-- THE VALUE OF A TEXT: it comes back, exactly if it has neither elements nor deeds. -/
theorem rt {w : World} (v : VT.V) : ∀ (f deep : Nat) (left left' : Int) (rest : Str), v.In w → v.may deep left = (true, left') → Sep rest → 64 < f + deep → left ≤ 4096 →
    valueV f deep (v.told ++ rest) (4096 - left).toNat = if v.plain then some (v.trees, rest, (4096 - left').toNat) else none := by
  induction v with
  | leaf => intro f deep left left' rest h; exact h.elim
  | mk k n s la ll lc L fa fl fc fn F e key hk ihL ihF =>
    intro f deep left left' rest hin hmay hs hf hl
    have hle := may_le _ _ _ _ hmay
    obtain ⟨⟨h1, h64⟩, hr, hlim, hris, hfold⟩ := may_parts hmay
    obtain ⟨h8, rn, rs, rl, rf, re, rk, r2⟩ := row_facts hr
    have hsz := lim_facts hlim
    have hfn := rising_facts hris
    obtain ⟨⟨h0, -⟩, ⟨hn1, hn2⟩, -, -, -, -, -, hinL, hinF⟩ := hin
    obtain ⟨f, rfl⟩ : ∃ g, f = g + 1 := ⟨f - 1, by omega⟩
    obtain ⟨kk, hkk⟩ : ∃ kk : Nat, (4096 - left).toNat = kk := ⟨_, rfl⟩
    rw [hkk]
    have hcond : ¬ (4096 < kk + 1 ∨ 64 < deep) := by omega
    by_cases k67 : k = 6 ∨ k = 7
    · have hp : (VT.V.mk k n s la ll lc L fa fl fc fn F e key hk).plain = false := by
        unfold VT.V.plain
        rw [decide_eq_false (by omega)]
        rfl
      have ht : ∃ t, (VT.V.mk k n s la ll lc L fa fl fc fn F e key hk).told = 60 :: t := by
        unfold VT.V.told
        rcases k67 with rfl | rfl
        · exact ⟨_, rfl⟩
        · exact ⟨_, rfl⟩
      obtain ⟨t, ht⟩ := ht
      rw [hp, ht, List.cons_append, valueV_word hcond (by decide) (by decide)]
      unfold plainV
      rw [word_angle]
      rfl
    · obtain ⟨rfl, rfl⟩ : e = 0 ∧ hk = false := by rcases re with h | h
                                                   · omega
                                                   · exact h
      obtain rfl : key = ⟨#[]⟩ := by rcases rk with h | h
                                     · cases h
                                     · exact h
      rw [trees_cols]
      by_cases k4 : k = 4
      · subst k4
        obtain rfl : fl = 0 := by omega
        obtain rfl : n = 0 := by omega
        obtain rfl : s = ⟨#[]⟩ := by rcases rs with h | h
                                     · omega
                                     · exact h
        have hb : foldM (fun i l => (L i).may ((deep : Int) + 1) l) ll (true, left - 1) = (true, left') := hfold
        have ha : (foldM (fun i l => (L i).may ((deep : Int) + 1) l) ll (true, left - 1)).1 = true := by rw [hb]
        have hfl := fold_left ha (fun i _ l l' h => may_le _ _ _ _ h)
        have hle2 : ∀ j, j ≤ ll → (foldM (fun i l => (L i).may ((deep : Int) + 1) l) j (true, left - 1)).2 ≤ 4096 := fun j hj => by
          have h3 := (hfl j hj).1
          have h4 : ((true, left - 1) : Bool × Int).2 = left - 1 := rfl
          omega
        have hll : ll < 4098 := by
          have h3 := (hfl ll (Nat.le_refl _)).1
          rw [hb] at h3
          have h4 : ((true, left - 1) : Bool × Int).2 = left - 1 := rfl
          have h5 : ((true, left') : Bool × Int).2 = left' := rfl
          omega
        have key := list_rt (val := valueV f (deep + 1)) (g := fun i => (L i).told) (x := fun i => (L i).trees) (kk := fun i => (4096 - (foldM (fun i l => (L i).may ((deep : Int) + 1) l) i (true, left - 1)).2).toNat) (pl := fun i => (L i).plain) (n := ll) (rest := rest)
          (fun j hj => told_begins (L j) _ _ _ (hinL j hj).2 (fold_step ha hj))
          (fun j hj r hr => ihL j f (deep + 1) _ _ r (hinL j hj).2 (fold_step ha hj) hr (by omega) (hle2 j (by omega))) ll 0 4098 (by omega) hll
        have hk0 : (4096 - (foldM (fun i l => (L i).may ((deep : Int) + 1) l) 0 (true, left - 1)).2).toNat = kk + 1 := by show (4096 - (left - 1)).toNat = kk + 1; omega
        have hkn : (4096 - (foldM (fun i l => (L i).may ((deep : Int) + 1) l) ll (true, left - 1)).2).toNat = (4096 - left').toNat := by rw [hb]
        simp only [hk0, hkn] at key
        have ht : (VT.V.mk 4 0 ⟨#[]⟩ la ll lc L fa 0 fc fn F 0 ⟨#[]⟩ false).told ++ rest = 91 :: tailT (fun i => (L i).told) (93 :: rest) ll 0 := by
          have : (VT.V.mk 4 0 ⟨#[]⟩ la ll lc L fa 0 fc fn F 0 ⟨#[]⟩ false).told = 91 :: (VT.sepTo ll (fun i => (L i).told) ++ [93]) := by rw [VT.V.told]; rfl
          rw [this, List.cons_append, List.append_assoc]
          show 91 :: (VT.sepTo ll (fun i => (L i).told) ++ (93 :: rest)) = _
          rw [sep_all]
        have hp : (VT.V.mk 4 0 ⟨#[]⟩ la ll lc L fa 0 fc fn F 0 ⟨#[]⟩ false).plain = (List.range' 0 ll).all (fun i => (L i).plain) := by
          rw [VT.V.plain]
          simp
        rw [ht, valueV_list hcond, key, hp]
        split <;> rfl
      · by_cases k5 : k = 5
        · subst k5
          obtain rfl : ll = 0 := by omega
          obtain rfl : n = 0 := by omega
          obtain rfl : s = ⟨#[]⟩ := by rcases rs with h | h
                                       · omega
                                       · exact h
          have hb : foldM (fun i l => (F i).may ((deep : Int) + 1) l) fl (true, left - 1) = (true, left') := hfold
          have ha : (foldM (fun i l => (F i).may ((deep : Int) + 1) l) fl (true, left - 1)).1 = true := by rw [hb]
          have hfl := fold_left ha (fun i _ l l' h => may_le _ _ _ _ h)
          have hle2 : ∀ j, j ≤ fl → (foldM (fun i l => (F i).may ((deep : Int) + 1) l) j (true, left - 1)).2 ≤ 4096 := fun j hj => by
            have h3 := (hfl j hj).1
            have h4 : ((true, left - 1) : Bool × Int).2 = left - 1 := rfl
            omega
          have hll : fl < 4098 := by
            have h3 := (hfl fl (Nat.le_refl _)).1
            rw [hb] at h3
            have h4 : ((true, left - 1) : Bool × Int).2 = left - 1 := rfl
            have h5 : ((true, left') : Bool × Int).2 = left' := rfl
            omega
          have key := rec_rt (val := valueV f (deep + 1)) (nm := fun i => (fn i).data.toList) (g := fun i => (F i).told) (x := fun i => (F i).trees) (kk := fun i => (4096 - (foldM (fun i l => (F i).may ((deep : Int) + 1) l) i (true, left - 1)).2).toNat) (pl := fun i => (F i).plain) (n := fl) (rest := rest)
            (fun j hj => by have := hfn j hj; show (fn j).data.toList.length ≤ 4096; simpa using this)
            (fun j hj => told_begins (F j) _ _ _ (hinF j hj).2.2 (fold_step ha hj))
            (fun j hj r hr => ihF j f (deep + 1) _ _ r (hinF j hj).2.2 (fold_step ha hj) hr (by omega) (hle2 j (by omega))) fl 0 4098 (by omega) hll
          have hk0 : (4096 - (foldM (fun i l => (F i).may ((deep : Int) + 1) l) 0 (true, left - 1)).2).toNat = kk + 1 := by show (4096 - (left - 1)).toNat = kk + 1; omega
          have hkn : (4096 - (foldM (fun i l => (F i).may ((deep : Int) + 1) l) fl (true, left - 1)).2).toNat = (4096 - left').toNat := by rw [hb]
          simp only [hk0, hkn] at key
          have ht : (VT.V.mk 5 0 ⟨#[]⟩ la 0 lc L fa fl fc fn F 0 ⟨#[]⟩ false).told ++ rest = 123 :: tailT (fun i => LX.quotedL (fn i).data.toList ++ (32 :: (F i).told)) (125 :: rest) fl 0 := by
            have : (VT.V.mk 5 0 ⟨#[]⟩ la 0 lc L fa fl fc fn F 0 ⟨#[]⟩ false).told = 123 :: (VT.sepTo fl (fun i => VT.quotedL (fn i).data.toList ++ (32 :: (F i).told)) ++ [125]) := by rw [VT.V.told]; rfl
            rw [this, List.cons_append, List.append_assoc]
            show 123 :: (VT.sepTo fl (fun i => VT.quotedL (fn i).data.toList ++ (32 :: (F i).told)) ++ (125 :: rest)) = _
            rw [sep_all]
            simp only [quotedV_eq]
          have hp : (VT.V.mk 5 0 ⟨#[]⟩ la 0 lc L fa fl fc fn F 0 ⟨#[]⟩ false).plain = (List.range' 0 fl).all (fun i => (F i).plain) := by
            rw [VT.V.plain]
            simp
          rw [ht, valueV_rec hcond, key, hp]
          simp only [str_data]
          split <;> rfl
        · obtain rfl : ll = 0 := by omega
          obtain rfl : fl = 0 := by omega
          have hb : ((true, left - 1) : Bool × Int) = (true, left') := hfold
          obtain rfl : left' = left - 1 := by injection hb with _ h; exact h.symm
          have hkn : (4096 - (left - 1)).toNat = kk + 1 := by omega
          rw [hkn]
          have hp : (VT.V.mk k n s la 0 lc L fa 0 fc fn F 0 ⟨#[]⟩ false).plain = true := by
            unfold VT.V.plain
            simp
            omega
          rw [hp, if_pos rfl]
          have nm : ∀ (c : UInt8) (t : Str), (c = 110 ∨ c = 121) → LX.OkW ⟨1, c :: t, 0, 0⟩ → Bare (c :: t) → (c :: t).length ≤ 65536 → valueV (f + 1) deep (c :: t ++ rest) kk = if (c :: t) = [121, 101, 115] then some (vCols 2 1 [] [] [], rest, kk + 1) else if (c :: t) = [110, 111] then some (vCols 2 0 [] [] [], rest, kk + 1) else if (c :: t) = [110, 111, 110, 101] then some (vCols 0 0 [] [] [], rest, kk + 1) else none := fun c t hc hok hbare hlen => by
            rw [List.cons_append, valueV_word hcond (by rcases hc with rfl | rfl <;> decide) (by rcases hc with rfl | rfl <;> decide)]
            unfold plainV
            rw [← List.cons_append, word_name c t rest hok hbare (by rcases hc with rfl | rfl <;> decide) hlen hs]
            rfl
          by_cases k0 : k = 0
          · subst k0
            obtain rfl : n = 0 := by omega
            obtain rfl : s = ⟨#[]⟩ := by rcases rs with h | h
                                         · omega
                                         · exact h
            have ht : (VT.V.mk 0 0 ⟨#[]⟩ la 0 lc L fa 0 fc fn F 0 ⟨#[]⟩ false).told = [110, 111, 110, 101] := by rw [VT.V.told]; rfl
            rw [ht, nm 110 [111, 110, 101] (.inl rfl) (.inr (.inr (.inr (.inr ⟨rfl, rfl, by simp, by decide, rfl, by decide⟩)))) (by unfold Bare; decide) (by decide)]
            rfl
          · by_cases k1 : k = 1
            · subst k1
              obtain rfl : s = ⟨#[]⟩ := by rcases rs with h | h
                                           · omega
                                           · exact h
              have ht : (VT.V.mk 1 n ⟨#[]⟩ la 0 lc L fa 0 fc fn F 0 ⟨#[]⟩ false).told = Lib.itoa n := by rw [VT.V.told]; rfl
              have hw := word_int n rest hn1 hn2 hs
              rw [ht]
              cases hi : Lib.itoa n with
              | nil => exact absurd hi (LX.itoa_ne n)
              | cons c t =>
                rw [hi] at hw
                have hc := LX.itoa_nb n c (by rw [hi]; simp)
                rw [List.cons_append, valueV_word hcond (by rintro rfl; revert hc; decide) (by rintro rfl; revert hc; decide)]
                unfold plainV
                rw [← List.cons_append, hw]
                rfl
            · by_cases k2 : k = 2
              · subst k2
                obtain rfl : s = ⟨#[]⟩ := by rcases rs with h | h
                                             · omega
                                             · exact h
                rcases r2 rfl with rfl | rfl
                · have ht : (VT.V.mk 2 0 ⟨#[]⟩ la 0 lc L fa 0 fc fn F 0 ⟨#[]⟩ false).told = [110, 111] := by rw [VT.V.told]; rfl
                  rw [ht, nm 110 [111] (.inl rfl) (.inr (.inr (.inr (.inr ⟨rfl, rfl, by simp, by decide, rfl, by decide⟩)))) (by unfold Bare; decide) (by decide)]
                  rfl
                · have ht : (VT.V.mk 2 1 ⟨#[]⟩ la 0 lc L fa 0 fc fn F 0 ⟨#[]⟩ false).told = [121, 101, 115] := by rw [VT.V.told]; rfl
                  rw [ht, nm 121 [101, 115] (.inr rfl) (.inr (.inr (.inr (.inr ⟨rfl, rfl, by simp, by decide, rfl, by decide⟩)))) (by unfold Bare; decide) (by decide)]
                  rfl
              · obtain rfl : k = 3 := by omega
                obtain rfl : n = 0 := by omega
                have ht : (VT.V.mk 3 0 s la 0 lc L fa 0 fc fn F 0 ⟨#[]⟩ false).told = LX.quotedL s.data.toList := by rw [← quotedV_eq, VT.V.told]; rfl
                have hw := word_quoted s.data.toList rest (by simpa using hsz)
                rw [ht]
                have e : LX.quotedL s.data.toList ++ rest = 34 :: (LX.esc s.data.toList ++ [34] ++ rest) := rfl
                rw [e] at hw ⊢
                rw [valueV_word hcond (by decide) (by decide)]
                unfold plainV
                rw [hw]
                rfl
end Go.Proofs.YtdlmemalefhgmaaGreatDoor
namespace Go.Proofs.YtdlmemalefhgmaaGreatDoor
set_option linter.unusedVariables false
set_option linter.unusedSimpArgs false
open Go.RowKit G

theorem trees_len {w : World} {v : VT.V} (h : v.In w) : v.trees.length = 8 := by
  cases v with
  | leaf => exact h.elim
  | mk => rfl
theorem getD_ext {l m : List T} (h : l.length = m.length) (hj : ∀ j, j < l.length → l.getD j default = m.getD j default) : l = m := by
  refine List.ext_getElem? fun j => ?_
  by_cases h1 : j < l.length
  · have := hj j h1
    rw [List.getD_eq_getElem?_getD, List.getD_eq_getElem?_getD, List.getElem?_eq_getElem h1, List.getElem?_eq_getElem (by omega)] at this
    rw [List.getElem?_eq_getElem h1, List.getElem?_eq_getElem (by omega)]
    exact congrArg some this
  · rw [List.getElem?_eq_none (by omega), List.getElem?_eq_none (by omega)]
theorem sepTo_congr {f g : Nat → List UInt8} : ∀ (n : Nat), (∀ i, i < n → f i = g i) → VT.sepTo n f = VT.sepTo n g
  | 0, _ => rfl
  | n + 1, h => by
    show VT.sepTo n f ++ _ = VT.sepTo n g ++ _
    rw [sepTo_congr n (fun i hi => h i (by omega)), h n (by omega)]
theorem foldTo_congr {α : Type} {f g : Nat → α → α} : ∀ (n : Nat) (a : α), (∀ i, i < n → f i = g i) → VT.foldTo n f a = VT.foldTo n g a
  | 0, _, _ => rfl
  | n + 1, a, h => by
    show f n (VT.foldTo n f a) = g n (VT.foldTo n g a)
    rw [foldTo_congr n a (fun i hi => h i (by omega)), h n (by omega)]
theorem allB_congr {p q : Nat → Bool} {n : Nat} (h : ∀ i, i < n → p i = q i) : VT.allB n p = VT.allB n q := by
  rw [Bool.eq_iff_iff, VT.allB_true, VT.allB_true]
  exact ⟨fun h1 i hi => by rw [← h i hi]; exact h1 i hi, fun h1 i hi => by rw [h i hi]; exact h1 i hi⟩
theorem rising_congr {fl : Nat} {fn gn : Nat → ByteArray} (h : ∀ i, i < fl → fn i = gn i) : VT.risingB fl fn = VT.risingB fl gn := by
  unfold VT.risingB
  refine allB_congr fun i hi => ?_
  have : VT.lastB fn i = VT.lastB gn i := by
    cases i with
    | zero => rfl
    | succ i => exact h i (by omega)
  rw [h i hi, this]
theorem row_congr {k n : Int} {s : ByteArray} {ll fl : Nat} {fn gn : Nat → ByteArray} {e : Int} {key : ByteArray} {hk : Bool} (h6 : k ≠ 6) : VT.inRowB k n s ll fl fn e key hk = VT.inRowB k n s ll fl gn e key hk := by
  unfold VT.inRowB
  rw [if_neg h6, if_neg h6]
theorem trees_same {w w' : World} (v : VT.V) : ∀ u : VT.V, v.In w → u.In w' → v.plain = true → u.trees = v.trees → u.told = v.told ∧ (∀ d l, u.may d l = v.may d l) ∧ u.same v = true := by
  induction v with
  | leaf => intro u h; exact h.elim
  | mk k n s la ll lc L fa fl fc fn F e key hk ihL ihF =>
    intro u hv hu hp ht
    cases u with
    | leaf => exact hu.elim
    | mk k' n' s' la' ll' lc' L' fa' fl' fc' fn' F' e' key' hk' =>
    rw [VT.V.trees, VT.V.trees] at ht
    simp only [List.cons.injEq, T.sc.injEq, T.ls.injEq, Value.int.injEq, Value.string.injEq, Value.bool.injEq, true_and, and_true] at ht
    obtain ⟨rfl, rfl, rfl, ⟨rfl, hrow⟩, ⟨rfl, hrowF⟩, rfl, rfl, rfl⟩ := ht
    obtain ⟨-, -, -, -, -, -, -, hvL, hvF⟩ := hv
    obtain ⟨-, -, -, -, -, -, -, huL, huF⟩ := hu
    rw [VT.V.plain] at hp
    simp only [Bool.and_eq_true, decide_eq_true_eq, List.all_eq_true] at hp
    obtain ⟨⟨h6, h7⟩, hpL, hpF⟩ := hp
    have hL : ∀ i, i < ll' → (L' i).told = (L i).told ∧ (∀ d l, (L' i).may d l = (L i).may d l) ∧ (L' i).same (L i) = true := fun i hi => by
      refine ihL i (L' i) (hvL i hi).2 (huL i hi).2 (hpL i (by simp [List.mem_range']; omega)) ?_
      refine getD_ext (by rw [trees_len (huL i hi).2, trees_len (hvL i hi).2]) fun j hj => ?_
      have := congrFun (congrFun hrow i) j
      simpa only [if_pos hi] using this
    have hF : ∀ i, i < fl' → fn' i = fn i ∧ (F' i).told = (F i).told ∧ (∀ d l, (F' i).may d l = (F i).may d l) ∧ (F' i).same (F i) = true := fun i hi => by
      have hj : ∀ j, (T.sc (.string (fn' i)) :: (F' i).trees).getD j default = (T.sc (.string (fn i)) :: (F i).trees).getD j default := fun j => by
        have := congrFun (congrFun hrowF i) j
        simpa only [if_pos hi] using this
      have h0 := hj 0
      simp only [List.getD_cons_zero, T.sc.injEq, Value.string.injEq] at h0
      refine ⟨h0, ihF i (F' i) (hvF i hi).2.2 (huF i hi).2.2 (hpF i (by simp [List.mem_range']; omega)) ?_⟩
      refine getD_ext (by rw [trees_len (huF i hi).2.2, trees_len (hvF i hi).2.2]) fun j _ => ?_
      have := hj (j + 1)
      simpa only [List.getD_cons_succ] using this
    refine ⟨?_, fun d l => ?_, ?_⟩
    · rw [VT.V.told, VT.V.told, if_neg h6, if_neg h7, if_neg h6, if_neg h7]
      have h1 : VT.listL ll' (fun i => (L' i).told) = VT.listL ll' (fun i => (L i).told) := by unfold VT.listL; rw [sepTo_congr ll' fun i hi => (hL i hi).1]
      have h2 : VT.recL fl' fn' (fun i => (F' i).told) = VT.recL fl' fn (fun i => (F i).told) := by
        unfold VT.recL
        rw [sepTo_congr fl' (f := fun i => VT.quotedL (fn' i).data.toList ++ 32 :: (F' i).told) (g := fun i => VT.quotedL (fn i).data.toList ++ 32 :: (F i).told) fun i hi => by rw [(hF i hi).1, (hF i hi).2.1]]
      rw [h1, h2]
    · rw [VT.V.may, VT.V.may, row_congr (gn := fn) h6, rising_congr fun i hi => (hF i hi).1]
      split
      · rfl
      · split
        · rfl
        · have e1 : VT.foldTo ll' (fun i (a : Bool × Int) => if a.1 = true then (L' i).may (d + 1) a.2 else a) (true, l - 1) = VT.foldTo ll' (fun i (a : Bool × Int) => if a.1 = true then (L i).may (d + 1) a.2 else a) (true, l - 1) :=
            foldTo_congr ll' (true, l - 1) fun i hi => by funext a; rw [(hL i hi).2.1]
          rw [e1]
          exact foldTo_congr fl' _ fun i hi => by funext a; rw [(hF i hi).2.2.1]
    · rw [VT.V.same]
      unfold VT.ownB
      simp only [decide_true, Bool.true_and, Bool.and_eq_true, VT.allB_true]
      exact ⟨fun i hi => (hL i hi).2.2, fun i hi => ⟨by rw [(hF i hi).1]; simp, (hF i hi).2.2.2⟩⟩

/-! ### How long a value's text is -/
theorem quoted_len (s : ByteArray) (h : s.size ≤ 4096) : (VT.quotedL s.data.toList).length ≤ 8194 := by
  rw [quotedV_eq]
  have h1 := esc_len s.data.toList
  have h2 : s.data.toList.length = s.size := by simp
  simp only [LX.quotedL, List.length_cons, List.length_append, List.length_nil]
  omega
theorem sep_len {M : Nat → Int → Bool × Int} {a : Bool × Int} {n : Nat} (h : (foldM M n a).1 = true) {g : Nat → List UInt8} {C : Int} (hg : ∀ i, i < n → ∀ l l', M i l = (true, l') → ((g i).length : Int) + 1 ≤ C * (l - l')) :
    ∀ i, i ≤ n → ((VT.sepTo i g).length : Int) ≤ C * (a.2 - (foldM M i a).2)
  | 0, _ => by
    show ((0 : Nat) : Int) ≤ C * (a.2 - a.2)
    rw [Int.sub_self, Int.mul_zero]
    exact Int.le_refl _
  | i + 1, hi => by
    have h1 := sep_len h hg i (by omega)
    have h2 := hg i (by omega) _ _ (fold_step h (i := i) (by omega))
    have h3 : ((VT.sepTo (i + 1) g).length : Int) ≤ (VT.sepTo i g).length + ((g i).length + 1) := by
      show ((VT.sepTo i g ++ ((if 0 < i then [32] else []) ++ g i)).length : Int) ≤ _
      simp only [List.length_append]
      split <;> simp <;> omega
    have h4 : C * (a.2 - (foldM M (i + 1) a).2) = C * (a.2 - (foldM M i a).2) + C * ((foldM M i a).2 - (foldM M (i + 1) a).2) := by
      rw [← Int.mul_add]
      congr 1
      omega
    omega
theorem word_len (e : Int) : (VT.wordL e).length ≤ 20 := by
  unfold VT.wordL
  repeat' split
  all_goals decide
theorem told_len {w : World} : ∀ (v : VT.V) (deep left left' : Int), v.In w → v.may deep left = (true, left') → (v.told.length : Int) + 9000 ≤ 40000 * (left - left') := by
  intro v
  induction v with
  | leaf => intro deep left left' h; exact h.elim
  | mk k n s la ll lc L fa fl fc fn F e key hk ihL ihF =>
    intro deep left left' hin hmay
    obtain ⟨-, hr, hlim, hris, hfold⟩ := may_parts hmay
    have hs := lim_facts hlim
    have hkey : key.size ≤ 4096 := by
      unfold VT.inLimB at hlim
      simp only [Bool.and_eq_true, decide_eq_true_eq] at hlim
      exact hlim.2
    have hfn := rising_facts hris
    obtain ⟨-, ⟨hn1, hn2⟩, -, -, -, -, -, hinL, hinF⟩ := hin
    have hb : (foldM (fun i l => (F i).may (deep + 1) l) fl (foldM (fun i l => (L i).may (deep + 1) l) ll (true, left - 1))).1 = true := by rw [hfold]
    have ha : (foldM (fun i l => (L i).may (deep + 1) l) ll (true, left - 1)).1 = true := fold_back hb 0 (Nat.zero_le _)
    have sL := sep_len (g := fun i => (L i).told) (C := 40000) ha (fun i hi l l' h => by have := ihL i _ l l' (hinL i hi).2 h; omega) ll (Nat.le_refl _)
    have sF := sep_len (g := fun i => VT.quotedL (fn i).data.toList ++ (32 :: (F i).told)) (C := 40000) hb (fun i hi l l' h => by
      have h1 := ihF i _ l l' (hinF i hi).2.2 h
      have h2 := quoted_len (fn i) (hfn i hi)
      simp only [List.length_append, List.length_cons]
      omega) fl (Nat.le_refl _)
    rw [hfold] at sF
    have e1 : ((true, left - 1) : Bool × Int).2 = left - 1 := rfl
    have e2 : ((true, left') : Bool × Int).2 = left' := rfl
    rw [e1] at sL
    rw [e2] at sF
    have hqs := quoted_len s hs
    have hqk := quoted_len key hkey
    have hit := LX.itoa_len n hn1 (by omega)
    have hw := word_len e
    have lL : (VT.listL ll (fun i => (L i).told)).length = (VT.sepTo ll (fun i => (L i).told)).length + 2 := by simp [VT.listL]
    have lF : (VT.recL fl fn (fun i => (F i).told)).length = (VT.sepTo fl (fun i => VT.quotedL (fn i).data.toList ++ (32 :: (F i).told))).length + 2 := by simp [VT.recL]
    have hm : 40000 * (left - left') = 40000 + (40000 * (left - 1 - (foldM (fun i l => (L i).may (deep + 1) l) ll (true, left - 1)).2) + 40000 * ((foldM (fun i l => (L i).may (deep + 1) l) ll (true, left - 1)).2 - left')) := by omega
    have hfl := fold_left ha (fun i _ l l' h => may_le _ _ _ _ h) ll (Nat.le_refl _)
    have hff := fold_left hb (fun i _ l l' h => may_le _ _ _ _ h) fl (Nat.le_refl _)
    rw [hfold, e2] at hff
    rw [e1] at hfl
    have hfl1 := hfl.1
    have hff1 := hff.1
    have ht : (VT.V.mk k n s la ll lc L fa fl fc fn F e key hk).told.length ≤ 25000 + ((VT.sepTo ll (fun i => (L i).told)).length + (VT.sepTo fl (fun i => VT.quotedL (fn i).data.toList ++ (32 :: (F i).told))).length) := by
      rw [VT.V.told]
      repeat' split
      all_goals try simp only [List.length_cons, List.length_append, List.length_nil, lL, lF]
      all_goals omega
    omega
theorem text_len {w : World} {v : VT.V} (h : v.In w) : v.text.size ≤ 170000000 := by
  unfold VT.V.text
  split
  · rename_i hc
    unfold VT.V.check at hc
    have h1 := told_len v 1 4096 (v.may 1 4096).2 h (Prod.ext hc rfl)
    have h2 := may_le v 1 4096 (v.may 1 4096).2 (Prod.ext hc rfl)
    rw [ba_size]
    omega
  · show 0 ≤ _
    omega
end Go.Proofs.YtdlmemalefhgmaaGreatDoor
namespace Go.Proofs.YtdlmemalefhgmaaGreatDoor
set_option linter.unusedVariables false
set_option linter.unusedSimpArgs false
open Go.RowKit G

theorem at8v {W : World} {b o : Nat} {k n : Int} {s : ByteArray} {la : Option Addr} {ll lc : Nat} {L : Nat → VT.V} {fa : Option Addr} {fl fc : Nat} {fn : Nat → ByteArray} {F : Nat → VT.V} {e : Int} {key : ByteArray} {hk : Bool}
    (h : VT.At W b o (VT.V.mk k n s la ll lc L fa fl fc fn F e key hk).cells) :
    W.cell? ⟨b, o, none⟩ = some (.int .u8 k) ∧ W.cell? ⟨b, o + 1, none⟩ = some (.int .i64 n) ∧ W.cell? ⟨b, o + 2, none⟩ = some (.string s) ∧ W.cell? ⟨b, o + 3, none⟩ = some (.slice la ll lc) ∧ W.cell? ⟨b, o + 4, none⟩ = some (.slice fa fl fc) ∧
      W.cell? ⟨b, o + 5, none⟩ = some (.int .u8 e) ∧ W.cell? ⟨b, o + 6, none⟩ = some (.string key) ∧ W.cell? ⟨b, o + 7, none⟩ = some (.bool hk) :=
  ⟨h 0 (by decide : 0 < 8), h 1 (by decide : 1 < 8), h 2 (by decide : 2 < 8), h 3 (by decide : 3 < 8), h 4 (by decide : 4 < 8), h 5 (by decide : 5 < 8), h 6 (by decide : 6 < 8), h 7 (by decide : 7 < 8)⟩
theorem at9v {W : World} {b o : Nat} {nm : ByteArray} {k n : Int} {s : ByteArray} {la : Option Addr} {ll lc : Nat} {L : Nat → VT.V} {fa : Option Addr} {fl fc : Nat} {fn : Nat → ByteArray} {F : Nat → VT.V} {e : Int} {key : ByteArray} {hk : Bool}
    (h : VT.At W b o (.string nm :: (VT.V.mk k n s la ll lc L fa fl fc fn F e key hk).cells)) :
    W.cell? ⟨b, o + 1, none⟩ = some (.int .u8 k) ∧ W.cell? ⟨b, o + 2, none⟩ = some (.int .i64 n) ∧ W.cell? ⟨b, o + 3, none⟩ = some (.string s) ∧ W.cell? ⟨b, o + 4, none⟩ = some (.slice la ll lc) ∧ W.cell? ⟨b, o + 5, none⟩ = some (.slice fa fl fc) ∧
      W.cell? ⟨b, o + 6, none⟩ = some (.int .u8 e) ∧ W.cell? ⟨b, o + 7, none⟩ = some (.string key) ∧ W.cell? ⟨b, o + 8, none⟩ = some (.bool hk) :=
  ⟨h 1 (by decide : 1 < 9), h 2 (by decide : 2 < 9), h 3 (by decide : 3 < 9), h 4 (by decide : 4 < 9), h 5 (by decide : 5 < 9), h 6 (by decide : 6 < 9), h 7 (by decide : 7 < 9), h 8 (by decide : 8 < 9)⟩
/-- plain of the reader's law. -/
def PlainIs (v : VT.V) : Prop := ∀ w : World, v.In w → Calls Tryz.prog 19 #[v.agg] w fun e w' => e = .returned (.bool v.plain) ∧ Below w.heap.size w w'
theorem range_all_succ (p : Nat → Bool) (j : Nat) : (List.range' 0 (j + 1)).all p = ((List.range' 0 j).all p && p j) := by
  rw [← List.range'_append_1]
  simp
theorem range_all_false {p : Nat → Bool} {n j : Nat} (hj : j < n) (h : p j = false) : (List.range' 0 n).all p = false := by
  rw [Bool.eq_false_iff]
  intro h1
  rw [List.all_eq_true] at h1
  rw [h1 j (by simp [List.mem_range']; omega)] at h
  cases h
set_option maxRecDepth 100000 in
set_option maxHeartbeats 8000000 in
theorem plain_no (k n : Int) (s : ByteArray) (la : Option Addr) (ll lc : Nat) (L : Nat → VT.V) (fa : Option Addr) (fl fc : Nat) (fn : Nat → ByteArray) (F : Nat → VT.V) (e : Int) (key : ByteArray) (hk : Bool) (h67 : k = 6 ∨ k = 7) :
    PlainIs (.mk k n s la ll lc L fa fl fc fn F e key hk) := by
  intro w h
  have hp : (VT.V.mk k n s la ll lc L fa fl fc fn F e key hk).plain = false := by
    rw [VT.V.plain, decide_eq_false (by omega)]
    rfl
  rw [hp]
  have HB := Lib.hid ((Below.refl w.heap.size w).alloc (Nat.le_refl _) (.cells #[.int .u8 k, .int .i64 n, .string s, .slice la ll lc, .slice fa fl fc, .int .u8 e, .string key, .bool hk] 50))
  show Calls Tryz.prog 19 #[.agg #[.int .u8 k, .int .i64 n, .string s, .slice la ll lc, .slice fa fl fc, .int .u8 e, .string key, .bool hk]] w _
  clear h hp
  rcases h67 with rfl | rfl
  · go_enter Tryz.func19, Tryz.ntmps19
    go_wp2
    go_ret
    exact ⟨rfl, HB.out⟩
  · go_enter Tryz.func19, Tryz.ntmps19
    go_wp2
    go_ret
    exact ⟨rfl, HB.out⟩
set_option maxRecDepth 100000 in
set_option maxHeartbeats 8000000 in
theorem plain_step (k n : Int) (s : ByteArray) (la : Option Addr) (ll lc : Nat) (L : Nat → VT.V) (fa : Option Addr) (fl fc : Nat) (fn : Nat → ByteArray) (F : Nat → VT.V) (e : Int) (key : ByteArray) (hk : Bool) (h67 : ¬ (k = 6 ∨ k = 7))
    (ihL : ∀ i, PlainIs (L i)) (ihF : ∀ i, PlainIs (F i)) : PlainIs (.mk k n s la ll lc L fa fl fc fn F e key hk) := by
  intro w h
  obtain ⟨-, -, -, -, -, ⟨hl1, hl2⟩, ⟨hf1, hf2⟩, hinL, hinF⟩ := h
  have hp : (VT.V.mk k n s la ll lc L fa fl fc fn F e key hk).plain = ((List.range' 0 ll).all (fun i => (L i).plain) && (List.range' 0 fl).all (fun i => (F i).plain)) := by
    rw [VT.V.plain, decide_eq_true (by omega)]
    rfl
  rw [hp]
  show Calls Tryz.prog 19 #[.agg #[.int .u8 k, .int .i64 n, .string s, .slice la ll lc, .slice fa fl fc, .int .u8 e, .string key, .bool hk]] w _
  obtain ⟨Wb, hWb⟩ : ∃ Wb, w.alloc (.cells #[.int .u8 k, .int .i64 n, .string s, .slice la ll lc, .slice fa fl fc, .int .u8 e, .string key, .bool hk] 50) = Wb := ⟨_, rfl⟩
  have hx : Wb.heap[w.heap.size]? = some (.cells #[.int .u8 k, .int .i64 n, .string s, .slice la ll lc, .slice fa fl fc, .int .u8 e, .string key, .bool hk] 50 (0, 0)) := by rw [← hWb]; exact heap_alloc_new _ _
  have hbb : Below w.heap.size w Wb := by rw [← hWb]; exact (Below.refl _ _).alloc (Nat.le_refl _) _
  have hz : w.heap.size + 1 = Wb.heap.size := by rw [← hWb]; simp
  have HW : Hid (∀ W, Below Wb.heap.size Wb W → Below w.heap.size w W) := fun W h => hbb.trans (h.mono hbb.size)
  have HX : Hid (∀ W, Below Wb.heap.size Wb W → W.heap[w.heap.size]? = some (.cells #[.int .u8 k, .int .i64 n, .string s, .slice la ll lc, .slice fa fl fc, .int .u8 e, .string key, .bool hk] 50 (0, 0))) := fun W h => (h.block _ (by omega)).trans hx
  have HL : Hid (∀ i, i < ll → ∀ W, Below Wb.heap.size Wb W → Calls Tryz.prog 19 #[(L i).agg] W fun e w' => e = .returned (.bool (L i).plain) ∧ Below Wb.heap.size Wb w') := fun i hi W h =>
    (ihL i W ((hinL i hi).2.below (hbb.trans (h.mono hbb.size)))).mono fun e w' ⟨h1, h2⟩ => ⟨h1, h.trans (h2.mono h.size)⟩
  have HF : Hid (∀ i, i < fl → ∀ W, Below Wb.heap.size Wb W → Calls Tryz.prog 19 #[(F i).agg] W fun e w' => e = .returned (.bool (F i).plain) ∧ Below Wb.heap.size Wb w') := fun i hi W h =>
    (ihF i W ((hinF i hi).2.2.below (hbb.trans (h.mono hbb.size)))).mono fun e w' ⟨h1, h2⟩ => ⟨h1, h.trans (h2.mono h.size)⟩
  have HIL := Lib.hid hinL
  have HIF := Lib.hid hinF
  have HB := Lib.hid (Below.refl Wb.heap.size Wb)
  unfold maxLen at hl2 hf2
  have q6 : ((k : Int) == 6) = false := beq_eq_false_iff_ne.2 (by omega)
  have q7 : ((k : Int) == 7) = false := beq_eq_false_iff_ne.2 (by omega)
  obtain ⟨⟨x0, x1, x2, x3, x4, x5, x6, x7⟩, -⟩ := blk8 hx
  clear hinL hinF hbb hz hx ihL ihF hp h67
  go_enter Tryz.func19, Tryz.ntmps19
  go_wp2
  clear x0 x1 x2 x3 x4 x5 x6 x7
  go_loopw [3] (fun i wr => ∃ j : Nat, i = .int .i64 j ∧ j ≤ ll ∧ Below Wb.heap.size Wb wr ∧ (List.range' 0 j).all (fun i => (L i).plain) = true) (fun i _ => ll - (intOf i).toNat)
  case atStart => exact ⟨0, rfl, Nat.zero_le _, HB.out, rfl⟩
  case round =>
    obtain ⟨j, rfl, hj, hbr, hall⟩ := hrel
    have HBR := Lib.hid hbr
    have HALL := Lib.hid hall
    have hbx := HX.out _ hbr
    obtain ⟨⟨x0, x1, x2, x3, x4, x5, x6, x7⟩, -⟩ := blk8 hbx
    clear hbr hbx hall
    by_cases hlt : j < ll
    · have g1 : (j : Int) < (ll : Int) := by omega
      have g0 : (0 : Int) ≤ (j : Int) := by omega
      have g2 : j < lc := by omega
      obtain ⟨⟨b, o, rfl, hat⟩, hin⟩ := HIL.out j hlt
      have hat2 := hat.below (HW.out _ HBR.out)
      have HC := Lib.hid (HL.out j hlt _ HBR.out)
      obtain ⟨x, hx⟩ : ∃ x, L j = x := ⟨_, rfl⟩
      rw [hx] at hat2 hin HC
      cases x with
      | leaf => exact hin.elim
      | mk ak an as_ ala all_ alc aL afa afl afc afn aF ae akey ahk =>
      obtain ⟨y0, y1, y2, y3, y4, y5, y6, y7⟩ := at8v hat2
      obtain ⟨pl, hpl⟩ : ∃ pl, (VT.V.mk ak an as_ ala all_ alc aL afa afl afc afn aF ae akey ahk).plain = pl := ⟨_, rfl⟩
      rw [hpl] at HC
      have HC2 : Hid (Calls Tryz.prog 19 #[.agg #[.int .u8 ak, .int .i64 an, .string as_, .slice ala all_ alc, .slice afa afl afc, .int .u8 ae, .string akey, .bool ahk]] wr fun e w' => e = .returned (.bool pl) ∧ Below Wb.heap.size Wb w') := HC
      have hpj : (L j).plain = pl := by rw [hx, hpl]
      clear hat hat2 hin HC hpl hx
      cases pl with
      | true =>
        go_wp2_with (go_at_call 19; (with_reducible refine HC2.out.mono ?_); rintro e1 w1 ⟨rfl, hb1⟩; have HB1 := Lib.hid hb1; clear hb1)
        go_roundw
        case rel => exact ⟨j + 1, by go_num, by omega, HB1.out, by rw [range_all_succ, HALL.out, hpj]; rfl⟩
        case measure => simp [intOf]; try omega
      | false =>
        go_wp2_with (go_at_call 19; (with_reducible refine HC2.out.mono ?_); rintro e1 w1 ⟨rfl, hb1⟩; have HB1 := Lib.hid hb1; clear hb1)
        go_ret
        exact ⟨by rw [range_all_false (p := fun i => (L i).plain) hlt hpj]; rfl, HW.out _ HB1.out⟩
    · have hn : ¬ (j : Int) < (ll : Int) := by omega
      obtain rfl : ll = j := by omega
      go_wp2
      clear x0 x1 x2 x3 x4 x5 x6 x7
      go_loopw [4] (fun i wr => ∃ j : Nat, i = .int .i64 j ∧ j ≤ fl ∧ Below Wb.heap.size Wb wr ∧ (List.range' 0 j).all (fun i => (F i).plain) = true) (fun i _ => fl - (intOf i).toNat)
      case atStart => exact ⟨0, rfl, Nat.zero_le _, HBR.out, rfl⟩
      case round =>
        obtain ⟨j, rfl, hj2, hbr2, hall2⟩ := hrel
        have HBQ := Lib.hid hbr2
        have HALL2 := Lib.hid hall2
        have hbx := HX.out _ hbr2
        obtain ⟨⟨x0, x1, x2, x3, x4, x5, x6, x7⟩, -⟩ := blk8 hbx
        clear hbr2 hbx hall2
        by_cases hlt2 : j < fl
        · have g1 : (j : Int) < (fl : Int) := by omega
          have g0 : (0 : Int) ≤ (j : Int) := by omega
          have g2 : j < fc := by omega
          obtain ⟨⟨b, o, rfl, hat⟩, -, hin⟩ := HIF.out j hlt2
          have hat2 := hat.below (HW.out _ HBQ.out)
          have HC := Lib.hid (HF.out j hlt2 _ HBQ.out)
          obtain ⟨x, hx⟩ : ∃ x, F j = x := ⟨_, rfl⟩
          rw [hx] at hat2 hin HC
          cases x with
          | leaf => exact hin.elim
          | mk ak an as_ ala all_ alc aL afa afl afc afn aF ae akey ahk =>
          obtain ⟨y0, y1, y2, y3, y4, y5, y6, y7⟩ := at9v hat2
          obtain ⟨pl, hpl⟩ : ∃ pl, (VT.V.mk ak an as_ ala all_ alc aL afa afl afc afn aF ae akey ahk).plain = pl := ⟨_, rfl⟩
          rw [hpl] at HC
          have HC2 : Hid (Calls Tryz.prog 19 #[.agg #[.int .u8 ak, .int .i64 an, .string as_, .slice ala all_ alc, .slice afa afl afc, .int .u8 ae, .string akey, .bool ahk]] wr fun e w' => e = .returned (.bool pl) ∧ Below Wb.heap.size Wb w') := HC
          have hpj : (F j).plain = pl := by rw [hx, hpl]
          clear hat hat2 hin HC hpl hx
          cases pl with
          | true =>
            go_wp2_with (go_at_call 19; (with_reducible refine HC2.out.mono ?_); rintro e1 w1 ⟨rfl, hb1⟩; have HB1 := Lib.hid hb1; clear hb1)
            go_roundw
            case rel => exact ⟨j + 1, by go_num, by omega, HB1.out, by rw [range_all_succ, HALL2.out, hpj]; rfl⟩
            case measure => simp [intOf]; try omega
          | false =>
            go_wp2_with (go_at_call 19; (with_reducible refine HC2.out.mono ?_); rintro e1 w1 ⟨rfl, hb1⟩; have HB1 := Lib.hid hb1; clear hb1)
            go_ret
            exact ⟨by rw [range_all_false (p := fun i => (F i).plain) hlt2 hpj, Bool.and_false]; rfl, HW.out _ HB1.out⟩
        · have hn2 : ¬ (j : Int) < (fl : Int) := by omega
          obtain rfl : fl = j := by omega
          go_wp2
          go_ret
          exact ⟨by rw [HALL.out, HALL2.out]; rfl, HW.out _ HBQ.out⟩
theorem plainV_any : ∀ v : VT.V, PlainIs v := by
  intro v
  induction v with
  | leaf => intro w h; exact h.elim
  | mk k n s la ll lc L fa fl fc fn F e key hk ihL ihF =>
    by_cases h67 : k = 6 ∨ k = 7
    · exact plain_no k n s la ll lc L fa fl fc fn F e key hk h67
    · exact plain_step k n s la ll lc L fa fl fc fn F e key hk h67 ihL ihF
end Go.Proofs.YtdlmemalefhgmaaGreatDoor
namespace Go.Proofs.YtdlmemalefhgmaaGreatDoor
set_option linter.unusedVariables false
set_option linter.unusedSimpArgs false
open Go.RowKit G

theorem valueV_empty : valueV 66 1 [] 0 = none := by
  unfold valueV
  rw [if_neg (by decide)]
  rfl
theorem ba_back (b : ByteArray) : (⟨b.data.toList.toArray⟩ : ByteArray) = b := by cases b; simp
/-- A value's text, read. -/
theorem back1 (v : VT.V) (W : World) (h : v.In W) (ht : LTabs W) (hvt : VTabs W) : Calls Tryz.prog 17 #[.string v.text] W fun e w' =>
    ((v.check = true ∧ v.plain = true ∧ ∃ u : VT.V, u.In w' ∧ u.same v = true ∧ e = .returned (.tuple #[u.agg, .int .i64 0])) ∨ (¬ (v.check = true ∧ v.plain = true) ∧ e = .returned (.tuple #[.agg #[.int .u8 0, .int .i64 0, .string ⟨#[]⟩, .slice none 0 0, .slice none 0 0, .int .u8 0, .string ⟨#[]⟩, .bool false], .int .i64 5]))) ∧ Below W.heap.size W w' := by
  have hlen := text_len h
  have key := pvalue_any v.text.data.toList W trivial (by have : v.text.data.toList.length = v.text.size := by simp
                                                          omega) ht hvt
  rw [ba_back] at key
  refine key.mono fun e w' ⟨hp, hb⟩ => ⟨?_, hb⟩
  by_cases hc : v.check = true
  · have htx : v.text.data.toList = v.told := by unfold VT.V.text; rw [if_pos hc]
    have hmay : v.may ((1 : Nat) : Int) 4096 = (true, (v.may 1 4096).2) := Prod.ext hc rfl
    have hrt := rt v 66 1 4096 _ [] h hmay (.inl rfl) (by omega) (by omega)
    rw [List.append_nil, ← htx] at hrt
    have hrt2 : valueV 66 1 v.text.data.toList 0 = if v.plain then some (v.trees, [], (4096 - (v.may 1 4096).2).toNat) else none := hrt
    rw [hrt2] at hp
    by_cases hpl : v.plain = true
    · rw [if_pos hpl] at hp
      obtain ⟨u, hin, htr, hor⟩ := hp
      obtain ⟨h1, h2, h3⟩ := trees_same v u h hin hpl htr
      have hut : u.text = v.text := by
        unfold VT.V.text VT.V.check
        rw [h2, h1]
      rcases hor with ⟨-, he⟩ | ⟨hne, -⟩
      · exact .inl ⟨hc, hpl, u, hin, h3, he⟩
      · exact absurd (by rw [hut]) hne
    · rw [if_neg hpl] at hp
      exact .inr ⟨fun h => hpl h.2, hp⟩
  · have htx : v.text.data.toList = [] := by unfold VT.V.text; rw [if_neg hc]
    rw [htx, valueV_empty] at hp
    exact .inr ⟨fun h => hc h.1, hp⟩
/-- Any text, read. -/
theorem back2 (s : ByteArray) (W : World) (hs : s.size ≤ 140737488355328) (ht : LTabs W) (hvt : VTabs W) : Calls Tryz.prog 17 #[.string s] W fun e w' =>
    ((∃ x : VT.V, x.In w' ∧ x.check = true ∧ x.text = s ∧ e = .returned (.tuple #[x.agg, .int .i64 0])) ∨ e = .returned (.tuple #[.agg #[.int .u8 0, .int .i64 0, .string ⟨#[]⟩, .slice none 0 0, .slice none 0 0, .int .u8 0, .string ⟨#[]⟩, .bool false], .int .i64 5])) ∧ Below W.heap.size W w' := by
  have key := pvalue_any s.data.toList W trivial (by have : s.data.toList.length = s.size := by simp
                                                     omega) ht hvt
  rw [ba_back] at key
  refine key.mono fun e w' ⟨hp, hb⟩ => ⟨?_, hb⟩
  cases hv : valueV 66 1 s.data.toList 0 with
  | none => rw [hv] at hp; exact .inr hp
  | some p =>
    obtain ⟨x, r, k⟩ := p
    rw [hv] at hp
    obtain ⟨u, hin, htr, hor⟩ := hp
    rcases hor with ⟨ht, he⟩ | ⟨-, he⟩
    · refine .inl ⟨u, hin, ?_, ?_, he⟩
      · cases hc : u.check with
        | true => rfl
        | false =>
          have : u.text.data.toList = [] := by unfold VT.V.text; rw [if_neg (by rw [hc]; decide)]
          rw [ht] at this
          rw [this, valueV_empty] at hv
          cases hv
      · rw [← ba_back u.text, ht, ba_back]
    · exact .inr he
/-- Two numbers as a row. -/
def twoZ (x y : Int) : Nat → Int := fun i => if i = 0 then x else y
theorem beyondZ (W : World) (x y : Int) (hx : -9223372036854775808 ≤ x ∧ x ≤ 9223372036854775807) (hy : -9223372036854775808 ≤ y ∧ y ≤ 9223372036854775807) (T : TypeId) :
    Calls Tryz.prog 15 #[.slice (some ⟨W.heap.size, 0, none⟩) 2 2] (W.alloc (.cells #[.int .i64 x, .int .i64 y] T)) fun e w' => e = .returned (.bool (VT.beyB 2 (twoZ x y))) ∧ W.alloc (.cells #[.int .i64 x, .int .i64 y] T) = w' := by
  refine VT.beyond_is _ _ _ _ _ _ (by decide) (fun j hj => ?_) (fun i => ?_)
  · match j, hj with
    | 0, _ => simp [twoZ]
    | 1, _ => simp [twoZ]
  · unfold twoZ
    split
    · exact hx
    · exact hy
set_option maxRecDepth 100000 in
set_option maxHeartbeats 16000000 in
theorem pback_A (k n : Int) (s : ByteArray) (la : Option Addr) (ll lc : Nat) (L : Nat → VT.V) (fa : Option Addr) (fl fc : Nat) (fn : Nat → ByteArray) (F : Nat → VT.V) (ee : Int) (key : ByteArray) (hk : Bool) (z : ByteArray) (w : World) (h : VT.V.In w (.mk k n s la ll lc L fa fl fc fn F ee key hk)) (ht : LTabs w) (hvt : VTabs w) (hz : z.size ≤ 140737488355328) (hck : VT.V.check (.mk k n s la ll lc L fa fl fc fn F ee key hk) = true) (hpl : VT.V.plain (.mk k n s la ll lc L fa fl fc fn F ee key hk) = true) :
    Calls Tryz.prog 6 #[.agg #[.int .u8 k, .int .i64 n, .string s, .slice la ll lc, .slice fa fl fc, .int .u8 ee, .string key, .bool hk], .string z] w fun e w' => e = .returned (.bool true) ∧ Below w.heap.size w w' := by
  obtain ⟨Wb, hWb⟩ : ∃ Wb, w.alloc (.cells #[.int .u8 k, .int .i64 n, .string s, .slice la ll lc, .slice fa fl fc, .int .u8 ee, .string key, .bool hk] 50) = Wb := ⟨_, rfl⟩
  have hx : Wb.heap[w.heap.size]? = some (.cells #[.int .u8 k, .int .i64 n, .string s, .slice la ll lc, .slice fa fl fc, .int .u8 ee, .string key, .bool hk] 50 (0, 0)) := by rw [← hWb]; exact heap_alloc_new _ _
  have hbb : Below w.heap.size w Wb := by rw [← hWb]; exact (Below.refl _ _).alloc (Nat.le_refl _) _
  have hzb : w.heap.size + 1 = Wb.heap.size := by rw [← hWb]; simp
  have HW : Hid (∀ W, Below Wb.heap.size Wb W → Below w.heap.size w W) := fun W h => hbb.trans (h.mono hbb.size)
  have HT : Hid (∀ W W' : World, Below Wb.heap.size Wb W → Below W.heap.size W W' → Below Wb.heap.size Wb W') := fun W W' h k => h.trans (k.mono h.size)
  have HX : Hid (∀ W, Below Wb.heap.size Wb W → W.heap[w.heap.size]? = some (.cells #[.int .u8 k, .int .i64 n, .string s, .slice la ll lc, .slice fa fl fc, .int .u8 ee, .string key, .bool hk] 50 (0, 0))) := fun W h => (h.block _ (by omega)).trans hx
  have HIN : Hid (∀ W, Below Wb.heap.size Wb W → VT.V.In W (.mk k n s la ll lc L fa fl fc fn F ee key hk)) := fun W hW => h.below (HW.out W hW)
  have HVT : Hid (∀ W, Below Wb.heap.size Wb W → VTabs W) := fun W hW => hvt.below (HW.out W hW)
  have HAl : Hid (∀ W, Below Wb.heap.size Wb W → Calls Tryz.prog 7 #[] W fun e w' => e = .returned (.bool true) ∧ Below W.heap.size W w') := fun W hW => alive_any W (ht.below (HW.out W hW) ht.gb) (hvt.below (HW.out W hW))
  obtain ⟨zz, hzz⟩ : ∃ zz, VT.V.vsz (.mk k n s la ll lc L fa fl fc fn F ee key hk) = zz := ⟨_, rfl⟩
  have hzr : -9223372036854775808 ≤ zz ∧ zz ≤ 9223372036854775807 := by rw [← hzz]; exact VT.vsz_range _
  have HSZ : Hid (∀ W, Below Wb.heap.size Wb W → Calls Tryz.prog 16 #[.agg #[.int .u8 k, .int .i64 n, .string s, .slice la ll lc, .slice fa fl fc, .int .u8 ee, .string key, .bool hk]] W fun e w' => e = .returned (.int .i64 zz) ∧ Below W.heap.size W w') := fun W hW => by rw [← hzz]; exact VT.valueSize_is (.mk k n s la ll lc L fa fl fc fn F ee key hk) W (HIN.out W hW)
  obtain ⟨bz, hbz⟩ : ∃ bz, VT.beyB 2 (twoZ zz (z.size : Int)) = bz := ⟨_, rfl⟩
  have HBY : Hid (∀ (W : World) (T : TypeId), Calls Tryz.prog 15 #[.slice (some ⟨W.heap.size, 0, none⟩) 2 2] (W.alloc (.cells #[.int .i64 zz, .int .i64 (z.size : Int)] T)) fun e w' => e = .returned (.bool bz) ∧ W.alloc (.cells #[.int .i64 zz, .int .i64 (z.size : Int)] T) = w') := fun W T => by rw [← hbz]; exact beyondZ W zz z.size hzr (by omega) T
  obtain ⟨tx, htx⟩ : ∃ tx, VT.V.text (.mk k n s la ll lc L fa fl fc fn F ee key hk) = tx := ⟨_, rfl⟩
  have HTX : Hid (∀ W, Below Wb.heap.size Wb W → Calls Tryz.prog 13 #[.agg #[.int .u8 k, .int .i64 n, .string s, .slice la ll lc, .slice fa fl fc, .int .u8 ee, .string key, .bool hk]] W fun e w' => e = .returned (.string tx) ∧ Below W.heap.size W w') := fun W hW => by
    have hv := HVT.out W hW
    rw [← htx]
    exact VT.text_any (.mk k n s la ll lc L fa fl fc fn F ee key hk) W (HIN.out W hW) hv.1 hv.2.1 hv.2.2
  have HCK : Hid (∀ W, Below Wb.heap.size Wb W → Calls Tryz.prog 18 #[.agg #[.int .u8 k, .int .i64 n, .string s, .slice la ll lc, .slice fa fl fc, .int .u8 ee, .string key, .bool hk]] W fun e w' => e = .returned (.bool (VT.V.check (.mk k n s la ll lc L fa fl fc fn F ee key hk))) ∧ Below W.heap.size W w') := fun W hW => VT.check_any (.mk k n s la ll lc L fa fl fc fn F ee key hk) W (HIN.out W hW) (HVT.out W hW).1
  have HPL : Hid (∀ W, Below Wb.heap.size Wb W → Calls Tryz.prog 19 #[.agg #[.int .u8 k, .int .i64 n, .string s, .slice la ll lc, .slice fa fl fc, .int .u8 ee, .string key, .bool hk]] W fun e w' => e = .returned (.bool (VT.V.plain (.mk k n s la ll lc L fa fl fc fn F ee key hk))) ∧ Below W.heap.size W w') := fun W hW => plainV_any (.mk k n s la ll lc L fa fl fc fn F ee key hk) W (HIN.out W hW)
  have HP1 : Hid (∀ W, Below Wb.heap.size Wb W → Calls Tryz.prog 17 #[.string tx] W fun e w' =>
      ((VT.V.check (.mk k n s la ll lc L fa fl fc fn F ee key hk) = true ∧ VT.V.plain (.mk k n s la ll lc L fa fl fc fn F ee key hk) = true ∧ ∃ u : VT.V, u.In w' ∧ u.same (.mk k n s la ll lc L fa fl fc fn F ee key hk) = true ∧ e = .returned (.tuple #[u.agg, .int .i64 0])) ∨ (¬ (VT.V.check (.mk k n s la ll lc L fa fl fc fn F ee key hk) = true ∧ VT.V.plain (.mk k n s la ll lc L fa fl fc fn F ee key hk) = true) ∧ e = .returned (.tuple #[.agg #[.int .u8 0, .int .i64 0, .string ⟨#[]⟩, .slice none 0 0, .slice none 0 0, .int .u8 0, .string ⟨#[]⟩, .bool false], .int .i64 5]))) ∧ Below W.heap.size W w') := fun W hW => by
    rw [← htx]
    exact back1 (.mk k n s la ll lc L fa fl fc fn F ee key hk) W (HIN.out W hW) (ht.below (HW.out W hW) ht.gb) (HVT.out W hW)
  have HP2 : Hid (∀ W, Below Wb.heap.size Wb W → Calls Tryz.prog 17 #[.string z] W fun e w' =>
      ((∃ x : VT.V, x.In w' ∧ x.check = true ∧ x.text = z ∧ e = .returned (.tuple #[x.agg, .int .i64 0])) ∨ e = .returned (.tuple #[.agg #[.int .u8 0, .int .i64 0, .string ⟨#[]⟩, .slice none 0 0, .slice none 0 0, .int .u8 0, .string ⟨#[]⟩, .bool false], .int .i64 5])) ∧ Below W.heap.size W w') := fun W hW =>
    back2 z W hz (ht.below (HW.out W hW) ht.gb) (HVT.out W hW)
  have HSM : Hid (∀ W (u : VT.V), Below Wb.heap.size Wb W → u.In W → u.same (.mk k n s la ll lc L fa fl fc fn F ee key hk) = true → Calls Tryz.prog 20 #[u.agg, .agg #[.int .u8 k, .int .i64 n, .string s, .slice la ll lc, .slice fa fl fc, .int .u8 ee, .string key, .bool hk]] W fun e w' => e = .returned (.bool true) ∧ Below W.heap.size W w') := fun W u hW hu hs => by
    have := VT.same_any u (.mk k n s la ll lc L fa fl fc fn F ee key hk) W hu (HIN.out W hW)
    rw [hs] at this
    exact this
  have HB0 := Lib.hid (Below.refl Wb.heap.size Wb)
  have gz : (0 : Int) ≤ (z.size : Int) := by omega
  have gz2 : (z.size : Int) ≤ 140737488355328 := by omega
  obtain ⟨⟨x0, x1, x2, x3, x4, x5, x6, x7⟩, -⟩ := blk8 hx
  clear h ht hvt hz hx hbb hzb htx hbz hzz hzr
  have hckv := hck
  have hplv := hpl
  go_enter Tryz.func6, Tryz.ntmps6
  go_wp2_with fail
  refine (HAl.out _ HB0.out).mono ?_
  rintro e1 w1 ⟨rfl, hb1⟩
  have HB1 := Lib.hid hb1
  clear hb1 x0 x1 x2 x3 x4 x5 x6 x7
  obtain ⟨⟨x0, x1, x2, x3, x4, x5, x6, x7⟩, -⟩ := blk8 (HX.out _ HB1.out)
  go_wp2_with fail
  refine (HSZ.out _ HB1.out).mono ?_
  rintro e2 w2 ⟨rfl, hb2⟩
  have HB2 := Lib.hid (HT.out _ _ HB1.out hb2)
  clear hb2 x0 x1 x2 x3 x4 x5 x6 x7
  go_wp2_with fail
  refine (HBY.out w2 _).mono ?_
  rintro e3 w3 ⟨rfl, hw3⟩
  have HB3 := Lib.hid (show Below Wb.heap.size Wb w3 by rw [← hw3]; exact HB2.out.alloc HB2.out.size _)
  clear hw3
  cases bz
  case true =>
    go_wp2_with fail
    refine (HAl.out _ HB3.out).mono ?_
    rintro e4 w4 ⟨rfl, hb4⟩
    have HB4 := Lib.hid (HT.out _ _ HB3.out hb4)
    clear hb4
    go_wp2
    go_ret
    exact ⟨rfl, HW.out _ HB4.out⟩
  case false =>
    obtain ⟨⟨x0, x1, x2, x3, x4, x5, x6, x7⟩, -⟩ := blk8 (HX.out _ HB3.out)
    go_wp2_with fail
    refine (HTX.out _ HB3.out).mono ?_
    rintro e4 w4 ⟨rfl, hb4⟩
    have HB4 := Lib.hid (HT.out _ _ HB3.out hb4)
    clear hb4 x0 x1 x2 x3 x4 x5 x6 x7
    go_wp2_with fail
    refine (HP1.out _ HB4.out).mono ?_
    rintro e5 w5 ⟨⟨-, -, u, hu, hsm, rfl⟩ | ⟨hno, -⟩, hb5⟩
    rotate_left
    · exact absurd ⟨hck, hpl⟩ hno
    cases u with
    | leaf => exact hu.elim
    | mk uk un us ula ull ulc uL ufa ufl ufc ufn uF ue ukey uhk =>
    have HB5 := Lib.hid (HT.out _ _ HB4.out hb5)
    have HU := Lib.hid hu
    have HSU := Lib.hid hsm
    clear hb5 hu hsm
    simp only [VT.V.agg, VT.V.cells]
    obtain ⟨W6, hW6⟩ : ∃ W, w5.alloc (.cells #[.int .u8 uk, .int .i64 un, .string us, .slice ula ull ulc, .slice ufa ufl ufc, .int .u8 ue, .string ukey, .bool uhk] 50) = W := ⟨_, rfl⟩
    have HXW6 : Hid (∀ W, Below W6.heap.size W6 W → W.heap[w5.heap.size]? = some (.cells #[.int .u8 uk, .int .i64 un, .string us, .slice ula ull ulc, .slice ufa ufl ufc, .int .u8 ue, .string ukey, .bool uhk] 50 (0, 0))) := fun W h => by
      have h0 : W6.heap[w5.heap.size]? = some (.cells #[.int .u8 uk, .int .i64 un, .string us, .slice ula ull ulc, .slice ufa ufl ufc, .int .u8 ue, .string ukey, .bool uhk] 50 (0, 0)) := by rw [← hW6]; exact heap_alloc_new _ _
      exact (h.block _ (tr_lt_of_block h0)).trans h0
    have HBW6 := Lib.hid (show Below Wb.heap.size Wb W6 by rw [← hW6]; exact HB5.out.alloc HB5.out.size _)
    have HBSW6 := Lib.hid (show Below w5.heap.size w5 W6 by rw [← hW6]; exact (Below.refl _ _).alloc (Nat.le_refl _) _)
    have HRW6 := Lib.hid (Below.refl W6.heap.size W6)
    obtain ⟨⟨x0, x1, x2, x3, x4, x5, x6, x7⟩, -⟩ := blk8 (HX.out _ HBW6.out)
    go_wp2_with fail
    try rw [hW6]
    refine (HCK.out _ HBW6.out).mono ?_
    rw [hckv]
    rintro e7 w7 ⟨rfl, hb7⟩
    have HB7 := Lib.hid (HT.out _ _ HBW6.out hb7)
    have HQ7 := Lib.hid hb7
    clear hb7
    clear x0 x1 x2 x3 x4 x5 x6 x7
    obtain ⟨⟨x0, x1, x2, x3, x4, x5, x6, x7⟩, -⟩ := blk8 (HX.out _ HB7.out)
    go_wp2_with fail
    refine (HPL.out _ HB7.out).mono ?_
    rw [hplv]
    rintro e8 w8 ⟨rfl, hb8⟩
    have HB8 := Lib.hid (HT.out _ _ HB7.out hb8)
    have HQ8 := Lib.hid (HQ7.out.trans (hb8.mono HQ7.out.size))
    clear hb8
    clear x0 x1 x2 x3 x4 x5 x6 x7
    obtain ⟨⟨x0, x1, x2, x3, x4, x5, x6, x7⟩, -⟩ := blk8 (HX.out _ HB8.out)
    obtain ⟨⟨y0, y1, y2, y3, y4, y5, y6, y7⟩, -⟩ := blk8 (HXW6.out _ HQ8.out)
    have hu8 : VT.V.In w8 (.mk uk un us ula ull ulc uL ufa ufl ufc ufn uF ue ukey uhk) := HU.out.below (HBSW6.out.trans (HQ8.out.mono HBSW6.out.size))
    have HSC := Lib.hid (HSM.out w8 (.mk uk un us ula ull ulc uL ufa ufl ufc ufn uF ue ukey uhk) HB8.out hu8 HSU.out)
    simp only [VT.V.agg, VT.V.cells] at HSC
    clear hu8
    go_wp2_with fail
    refine HSC.out.mono ?_
    rintro e9 w9 ⟨rfl, hb9⟩
    have HB9 := Lib.hid (HT.out _ _ HB8.out hb9)
    clear hb9 HSC
    clear x0 x1 x2 x3 x4 x5 x6 x7 y0 y1 y2 y3 y4 y5 y6 y7
    go_wp2_with fail
    refine (HP2.out _ HB9.out).mono ?_
    rintro ea wa ⟨⟨x, hxin, hxc, hxt, rfl⟩ | rfl, hba⟩
    · cases x with
      | leaf => exact hxin.elim
      | mk xk xn xs xla xll xlc xL xfa xfl xfc xfn xF xe xkey xhk =>
      have HBa := Lib.hid (HT.out _ _ HB9.out hba)
      have HXI := Lib.hid hxin
      have HXC := Lib.hid hxc
      have HXT := Lib.hid hxt
      clear hba hxin hxc hxt
      simp only [VT.V.agg, VT.V.cells]
      obtain ⟨Wc, hWc⟩ : ∃ W, wa.alloc (.cells #[.int .u8 xk, .int .i64 xn, .string xs, .slice xla xll xlc, .slice xfa xfl xfc, .int .u8 xe, .string xkey, .bool xhk] 50) = W := ⟨_, rfl⟩
      have HXWc : Hid (∀ W, Below Wc.heap.size Wc W → W.heap[wa.heap.size]? = some (.cells #[.int .u8 xk, .int .i64 xn, .string xs, .slice xla xll xlc, .slice xfa xfl xfc, .int .u8 xe, .string xkey, .bool xhk] 50 (0, 0))) := fun W h => by
        have h0 : Wc.heap[wa.heap.size]? = some (.cells #[.int .u8 xk, .int .i64 xn, .string xs, .slice xla xll xlc, .slice xfa xfl xfc, .int .u8 xe, .string xkey, .bool xhk] 50 (0, 0)) := by rw [← hWc]; exact heap_alloc_new _ _
        exact (h.block _ (tr_lt_of_block h0)).trans h0
      have HBWc := Lib.hid (show Below Wb.heap.size Wb Wc by rw [← hWc]; exact HBa.out.alloc HBa.out.size _)
      have HBSWc := Lib.hid (show Below wa.heap.size wa Wc by rw [← hWc]; exact (Below.refl _ _).alloc (Nat.le_refl _) _)
      have HRWc := Lib.hid (Below.refl Wc.heap.size Wc)
      have hxw : VT.V.In Wc (.mk xk xn xs xla xll xlc xL xfa xfl xfc xfn xF xe xkey xhk) := HXI.out.below HBSWc.out
      have HK1 : Hid (Calls Tryz.prog 18 #[.agg #[.int .u8 xk, .int .i64 xn, .string xs, .slice xla xll xlc, .slice xfa xfl xfc, .int .u8 xe, .string xkey, .bool xhk]] Wc fun e w' => e = .returned (.bool true) ∧ Below Wc.heap.size Wc w') := by
        have := VT.check_any (.mk xk xn xs xla xll xlc xL xfa xfl xfc xfn xF xe xkey xhk) Wc hxw (HVT.out _ HBWc.out).1
        rw [HXC.out] at this
        exact Lib.hid this
      have HK2 : Hid (∀ W, Below Wc.heap.size Wc W → Calls Tryz.prog 13 #[.agg #[.int .u8 xk, .int .i64 xn, .string xs, .slice xla xll xlc, .slice xfa xfl xfc, .int .u8 xe, .string xkey, .bool xhk]] W fun e w' => e = .returned (.string z) ∧ Below W.heap.size W w') := fun W hW => by
        have hv := HVT.out W (HT.out _ _ HBWc.out hW)
        have := VT.text_any (.mk xk xn xs xla xll xlc xL xfa xfl xfc xfn xF xe xkey xhk) W (hxw.below hW) hv.1 hv.2.1 hv.2.2
        rw [HXT.out] at this
        exact this
      obtain ⟨⟨y0, y1, y2, y3, y4, y5, y6, y7⟩, -⟩ := blk8 (HXWc.out _ HRWc.out)
      clear hxw
      go_wp2_with fail
      try rw [hWc]
      refine HK1.out.mono ?_
      rintro eb wb' ⟨rfl, hbb⟩
      have HBb := Lib.hid hbb
      clear hbb y0 y1 y2 y3 y4 y5 y6 y7
      obtain ⟨⟨y0, y1, y2, y3, y4, y5, y6, y7⟩, -⟩ := blk8 (HXWc.out _ HBb.out)
      go_wp2_with fail
      refine (HK2.out _ HBb.out).mono ?_
      rintro ec wc' ⟨rfl, hbc⟩
      have HBc := Lib.hid (HT.out _ _ (HT.out _ _ HBWc.out HBb.out) hbc)
      clear hbc y0 y1 y2 y3 y4 y5 y6 y7
      go_wp2
      try go_ret
      exact ⟨rfl, HW.out _ HBc.out⟩
    · have HBa := Lib.hid (HT.out _ _ HB9.out hba)
      clear hba
      go_wp2
      try go_ret
      exact ⟨rfl, HW.out _ (HBa.out.alloc HBa.out.size _)⟩
set_option maxRecDepth 100000 in
set_option maxHeartbeats 16000000 in
theorem pback_B1 (k n : Int) (s : ByteArray) (la : Option Addr) (ll lc : Nat) (L : Nat → VT.V) (fa : Option Addr) (fl fc : Nat) (fn : Nat → ByteArray) (F : Nat → VT.V) (ee : Int) (key : ByteArray) (hk : Bool) (z : ByteArray) (w : World) (h : VT.V.In w (.mk k n s la ll lc L fa fl fc fn F ee key hk)) (ht : LTabs w) (hvt : VTabs w) (hz : z.size ≤ 140737488355328) (hck : VT.V.check (.mk k n s la ll lc L fa fl fc fn F ee key hk) = false) :
    Calls Tryz.prog 6 #[.agg #[.int .u8 k, .int .i64 n, .string s, .slice la ll lc, .slice fa fl fc, .int .u8 ee, .string key, .bool hk], .string z] w fun e w' => e = .returned (.bool true) ∧ Below w.heap.size w w' := by
  obtain ⟨Wb, hWb⟩ : ∃ Wb, w.alloc (.cells #[.int .u8 k, .int .i64 n, .string s, .slice la ll lc, .slice fa fl fc, .int .u8 ee, .string key, .bool hk] 50) = Wb := ⟨_, rfl⟩
  have hx : Wb.heap[w.heap.size]? = some (.cells #[.int .u8 k, .int .i64 n, .string s, .slice la ll lc, .slice fa fl fc, .int .u8 ee, .string key, .bool hk] 50 (0, 0)) := by rw [← hWb]; exact heap_alloc_new _ _
  have hbb : Below w.heap.size w Wb := by rw [← hWb]; exact (Below.refl _ _).alloc (Nat.le_refl _) _
  have hzb : w.heap.size + 1 = Wb.heap.size := by rw [← hWb]; simp
  have HW : Hid (∀ W, Below Wb.heap.size Wb W → Below w.heap.size w W) := fun W h => hbb.trans (h.mono hbb.size)
  have HT : Hid (∀ W W' : World, Below Wb.heap.size Wb W → Below W.heap.size W W' → Below Wb.heap.size Wb W') := fun W W' h k => h.trans (k.mono h.size)
  have HX : Hid (∀ W, Below Wb.heap.size Wb W → W.heap[w.heap.size]? = some (.cells #[.int .u8 k, .int .i64 n, .string s, .slice la ll lc, .slice fa fl fc, .int .u8 ee, .string key, .bool hk] 50 (0, 0))) := fun W h => (h.block _ (by omega)).trans hx
  have HIN : Hid (∀ W, Below Wb.heap.size Wb W → VT.V.In W (.mk k n s la ll lc L fa fl fc fn F ee key hk)) := fun W hW => h.below (HW.out W hW)
  have HVT : Hid (∀ W, Below Wb.heap.size Wb W → VTabs W) := fun W hW => hvt.below (HW.out W hW)
  have HAl : Hid (∀ W, Below Wb.heap.size Wb W → Calls Tryz.prog 7 #[] W fun e w' => e = .returned (.bool true) ∧ Below W.heap.size W w') := fun W hW => alive_any W (ht.below (HW.out W hW) ht.gb) (hvt.below (HW.out W hW))
  obtain ⟨zz, hzz⟩ : ∃ zz, VT.V.vsz (.mk k n s la ll lc L fa fl fc fn F ee key hk) = zz := ⟨_, rfl⟩
  have hzr : -9223372036854775808 ≤ zz ∧ zz ≤ 9223372036854775807 := by rw [← hzz]; exact VT.vsz_range _
  have HSZ : Hid (∀ W, Below Wb.heap.size Wb W → Calls Tryz.prog 16 #[.agg #[.int .u8 k, .int .i64 n, .string s, .slice la ll lc, .slice fa fl fc, .int .u8 ee, .string key, .bool hk]] W fun e w' => e = .returned (.int .i64 zz) ∧ Below W.heap.size W w') := fun W hW => by rw [← hzz]; exact VT.valueSize_is (.mk k n s la ll lc L fa fl fc fn F ee key hk) W (HIN.out W hW)
  obtain ⟨bz, hbz⟩ : ∃ bz, VT.beyB 2 (twoZ zz (z.size : Int)) = bz := ⟨_, rfl⟩
  have HBY : Hid (∀ (W : World) (T : TypeId), Calls Tryz.prog 15 #[.slice (some ⟨W.heap.size, 0, none⟩) 2 2] (W.alloc (.cells #[.int .i64 zz, .int .i64 (z.size : Int)] T)) fun e w' => e = .returned (.bool bz) ∧ W.alloc (.cells #[.int .i64 zz, .int .i64 (z.size : Int)] T) = w') := fun W T => by rw [← hbz]; exact beyondZ W zz z.size hzr (by omega) T
  obtain ⟨tx, htx⟩ : ∃ tx, VT.V.text (.mk k n s la ll lc L fa fl fc fn F ee key hk) = tx := ⟨_, rfl⟩
  have HTX : Hid (∀ W, Below Wb.heap.size Wb W → Calls Tryz.prog 13 #[.agg #[.int .u8 k, .int .i64 n, .string s, .slice la ll lc, .slice fa fl fc, .int .u8 ee, .string key, .bool hk]] W fun e w' => e = .returned (.string tx) ∧ Below W.heap.size W w') := fun W hW => by
    have hv := HVT.out W hW
    rw [← htx]
    exact VT.text_any (.mk k n s la ll lc L fa fl fc fn F ee key hk) W (HIN.out W hW) hv.1 hv.2.1 hv.2.2
  have HCK : Hid (∀ W, Below Wb.heap.size Wb W → Calls Tryz.prog 18 #[.agg #[.int .u8 k, .int .i64 n, .string s, .slice la ll lc, .slice fa fl fc, .int .u8 ee, .string key, .bool hk]] W fun e w' => e = .returned (.bool (VT.V.check (.mk k n s la ll lc L fa fl fc fn F ee key hk))) ∧ Below W.heap.size W w') := fun W hW => VT.check_any (.mk k n s la ll lc L fa fl fc fn F ee key hk) W (HIN.out W hW) (HVT.out W hW).1
  have HPL : Hid (∀ W, Below Wb.heap.size Wb W → Calls Tryz.prog 19 #[.agg #[.int .u8 k, .int .i64 n, .string s, .slice la ll lc, .slice fa fl fc, .int .u8 ee, .string key, .bool hk]] W fun e w' => e = .returned (.bool (VT.V.plain (.mk k n s la ll lc L fa fl fc fn F ee key hk))) ∧ Below W.heap.size W w') := fun W hW => plainV_any (.mk k n s la ll lc L fa fl fc fn F ee key hk) W (HIN.out W hW)
  have HP1 : Hid (∀ W, Below Wb.heap.size Wb W → Calls Tryz.prog 17 #[.string tx] W fun e w' =>
      ((VT.V.check (.mk k n s la ll lc L fa fl fc fn F ee key hk) = true ∧ VT.V.plain (.mk k n s la ll lc L fa fl fc fn F ee key hk) = true ∧ ∃ u : VT.V, u.In w' ∧ u.same (.mk k n s la ll lc L fa fl fc fn F ee key hk) = true ∧ e = .returned (.tuple #[u.agg, .int .i64 0])) ∨ (¬ (VT.V.check (.mk k n s la ll lc L fa fl fc fn F ee key hk) = true ∧ VT.V.plain (.mk k n s la ll lc L fa fl fc fn F ee key hk) = true) ∧ e = .returned (.tuple #[.agg #[.int .u8 0, .int .i64 0, .string ⟨#[]⟩, .slice none 0 0, .slice none 0 0, .int .u8 0, .string ⟨#[]⟩, .bool false], .int .i64 5]))) ∧ Below W.heap.size W w') := fun W hW => by
    rw [← htx]
    exact back1 (.mk k n s la ll lc L fa fl fc fn F ee key hk) W (HIN.out W hW) (ht.below (HW.out W hW) ht.gb) (HVT.out W hW)
  have HP2 : Hid (∀ W, Below Wb.heap.size Wb W → Calls Tryz.prog 17 #[.string z] W fun e w' =>
      ((∃ x : VT.V, x.In w' ∧ x.check = true ∧ x.text = z ∧ e = .returned (.tuple #[x.agg, .int .i64 0])) ∨ e = .returned (.tuple #[.agg #[.int .u8 0, .int .i64 0, .string ⟨#[]⟩, .slice none 0 0, .slice none 0 0, .int .u8 0, .string ⟨#[]⟩, .bool false], .int .i64 5])) ∧ Below W.heap.size W w') := fun W hW =>
    back2 z W hz (ht.below (HW.out W hW) ht.gb) (HVT.out W hW)
  have HSM : Hid (∀ W (u : VT.V), Below Wb.heap.size Wb W → u.In W → u.same (.mk k n s la ll lc L fa fl fc fn F ee key hk) = true → Calls Tryz.prog 20 #[u.agg, .agg #[.int .u8 k, .int .i64 n, .string s, .slice la ll lc, .slice fa fl fc, .int .u8 ee, .string key, .bool hk]] W fun e w' => e = .returned (.bool true) ∧ Below W.heap.size W w') := fun W u hW hu hs => by
    have := VT.same_any u (.mk k n s la ll lc L fa fl fc fn F ee key hk) W hu (HIN.out W hW)
    rw [hs] at this
    exact this
  have HB0 := Lib.hid (Below.refl Wb.heap.size Wb)
  have gz : (0 : Int) ≤ (z.size : Int) := by omega
  have gz2 : (z.size : Int) ≤ 140737488355328 := by omega
  obtain ⟨⟨x0, x1, x2, x3, x4, x5, x6, x7⟩, -⟩ := blk8 hx
  clear h ht hvt hz hx hbb hzb htx hbz hzz hzr
  have hckv := hck
  have hno : ¬ (VT.V.check (.mk k n s la ll lc L fa fl fc fn F ee key hk) = true ∧ VT.V.plain (.mk k n s la ll lc L fa fl fc fn F ee key hk) = true) := fun h => by rw [hck] at h; exact absurd h.1 (by decide)
  go_enter Tryz.func6, Tryz.ntmps6
  go_wp2_with fail
  refine (HAl.out _ HB0.out).mono ?_
  rintro e1 w1 ⟨rfl, hb1⟩
  have HB1 := Lib.hid hb1
  clear hb1 x0 x1 x2 x3 x4 x5 x6 x7
  obtain ⟨⟨x0, x1, x2, x3, x4, x5, x6, x7⟩, -⟩ := blk8 (HX.out _ HB1.out)
  go_wp2_with fail
  refine (HSZ.out _ HB1.out).mono ?_
  rintro e2 w2 ⟨rfl, hb2⟩
  have HB2 := Lib.hid (HT.out _ _ HB1.out hb2)
  clear hb2 x0 x1 x2 x3 x4 x5 x6 x7
  go_wp2_with fail
  refine (HBY.out w2 _).mono ?_
  rintro e3 w3 ⟨rfl, hw3⟩
  have HB3 := Lib.hid (show Below Wb.heap.size Wb w3 by rw [← hw3]; exact HB2.out.alloc HB2.out.size _)
  clear hw3
  cases bz
  case true =>
    go_wp2_with fail
    refine (HAl.out _ HB3.out).mono ?_
    rintro e4 w4 ⟨rfl, hb4⟩
    have HB4 := Lib.hid (HT.out _ _ HB3.out hb4)
    clear hb4
    go_wp2
    go_ret
    exact ⟨rfl, HW.out _ HB4.out⟩
  case false =>
    obtain ⟨⟨x0, x1, x2, x3, x4, x5, x6, x7⟩, -⟩ := blk8 (HX.out _ HB3.out)
    go_wp2_with fail
    refine (HTX.out _ HB3.out).mono ?_
    rintro e4 w4 ⟨rfl, hb4⟩
    have HB4 := Lib.hid (HT.out _ _ HB3.out hb4)
    clear hb4 x0 x1 x2 x3 x4 x5 x6 x7
    go_wp2_with fail
    refine (HP1.out _ HB4.out).mono ?_
    rintro e5 w5 ⟨⟨hy1, hy2, -⟩ | ⟨-, rfl⟩, hb5⟩
    · exact absurd ⟨hy1, hy2⟩ hno
    have HB5 := Lib.hid (HT.out _ _ HB4.out hb5)
    clear hb5
    have HBW6 := Lib.hid (HB5.out.alloc HB5.out.size (.cells #[.int .u8 0, .int .i64 0, .string ⟨#[]⟩, .slice none 0 0, .slice none 0 0, .int .u8 0, .string ⟨#[]⟩, .bool false] 50))
    obtain ⟨⟨x0, x1, x2, x3, x4, x5, x6, x7⟩, -⟩ := blk8 (HX.out _ HBW6.out)
    go_wp2_with fail
    try rw [hW6]
    refine (HCK.out _ HBW6.out).mono ?_
    rw [hckv]
    rintro e7 w7 ⟨rfl, hb7⟩
    have HB7 := Lib.hid (HT.out _ _ HBW6.out hb7)
    have HQ7 := Lib.hid hb7
    clear hb7
    clear x0 x1 x2 x3 x4 x5 x6 x7
    go_wp2_with fail
    refine (HP2.out _ HB7.out).mono ?_
    rintro ea wa ⟨⟨x, hxin, hxc, hxt, rfl⟩ | rfl, hba⟩
    · cases x with
      | leaf => exact hxin.elim
      | mk xk xn xs xla xll xlc xL xfa xfl xfc xfn xF xe xkey xhk =>
      have HBa := Lib.hid (HT.out _ _ HB7.out hba)
      have HXI := Lib.hid hxin
      have HXC := Lib.hid hxc
      have HXT := Lib.hid hxt
      clear hba hxin hxc hxt
      simp only [VT.V.agg, VT.V.cells]
      obtain ⟨Wc, hWc⟩ : ∃ W, wa.alloc (.cells #[.int .u8 xk, .int .i64 xn, .string xs, .slice xla xll xlc, .slice xfa xfl xfc, .int .u8 xe, .string xkey, .bool xhk] 50) = W := ⟨_, rfl⟩
      have HXWc : Hid (∀ W, Below Wc.heap.size Wc W → W.heap[wa.heap.size]? = some (.cells #[.int .u8 xk, .int .i64 xn, .string xs, .slice xla xll xlc, .slice xfa xfl xfc, .int .u8 xe, .string xkey, .bool xhk] 50 (0, 0))) := fun W h => by
        have h0 : Wc.heap[wa.heap.size]? = some (.cells #[.int .u8 xk, .int .i64 xn, .string xs, .slice xla xll xlc, .slice xfa xfl xfc, .int .u8 xe, .string xkey, .bool xhk] 50 (0, 0)) := by rw [← hWc]; exact heap_alloc_new _ _
        exact (h.block _ (tr_lt_of_block h0)).trans h0
      have HBWc := Lib.hid (show Below Wb.heap.size Wb Wc by rw [← hWc]; exact HBa.out.alloc HBa.out.size _)
      have HBSWc := Lib.hid (show Below wa.heap.size wa Wc by rw [← hWc]; exact (Below.refl _ _).alloc (Nat.le_refl _) _)
      have HRWc := Lib.hid (Below.refl Wc.heap.size Wc)
      have hxw : VT.V.In Wc (.mk xk xn xs xla xll xlc xL xfa xfl xfc xfn xF xe xkey xhk) := HXI.out.below HBSWc.out
      have HK1 : Hid (Calls Tryz.prog 18 #[.agg #[.int .u8 xk, .int .i64 xn, .string xs, .slice xla xll xlc, .slice xfa xfl xfc, .int .u8 xe, .string xkey, .bool xhk]] Wc fun e w' => e = .returned (.bool true) ∧ Below Wc.heap.size Wc w') := by
        have := VT.check_any (.mk xk xn xs xla xll xlc xL xfa xfl xfc xfn xF xe xkey xhk) Wc hxw (HVT.out _ HBWc.out).1
        rw [HXC.out] at this
        exact Lib.hid this
      have HK2 : Hid (∀ W, Below Wc.heap.size Wc W → Calls Tryz.prog 13 #[.agg #[.int .u8 xk, .int .i64 xn, .string xs, .slice xla xll xlc, .slice xfa xfl xfc, .int .u8 xe, .string xkey, .bool xhk]] W fun e w' => e = .returned (.string z) ∧ Below W.heap.size W w') := fun W hW => by
        have hv := HVT.out W (HT.out _ _ HBWc.out hW)
        have := VT.text_any (.mk xk xn xs xla xll xlc xL xfa xfl xfc xfn xF xe xkey xhk) W (hxw.below hW) hv.1 hv.2.1 hv.2.2
        rw [HXT.out] at this
        exact this
      obtain ⟨⟨y0, y1, y2, y3, y4, y5, y6, y7⟩, -⟩ := blk8 (HXWc.out _ HRWc.out)
      clear hxw
      go_wp2_with fail
      try rw [hWc]
      refine HK1.out.mono ?_
      rintro eb wb' ⟨rfl, hbb⟩
      have HBb := Lib.hid hbb
      clear hbb y0 y1 y2 y3 y4 y5 y6 y7
      obtain ⟨⟨y0, y1, y2, y3, y4, y5, y6, y7⟩, -⟩ := blk8 (HXWc.out _ HBb.out)
      go_wp2_with fail
      refine (HK2.out _ HBb.out).mono ?_
      rintro ec wc' ⟨rfl, hbc⟩
      have HBc := Lib.hid (HT.out _ _ (HT.out _ _ HBWc.out HBb.out) hbc)
      clear hbc y0 y1 y2 y3 y4 y5 y6 y7
      go_wp2
      try go_ret
      exact ⟨rfl, HW.out _ HBc.out⟩
    · have HBa := Lib.hid (HT.out _ _ HB7.out hba)
      clear hba
      go_wp2
      try go_ret
      exact ⟨rfl, HW.out _ (HBa.out.alloc HBa.out.size _)⟩
set_option maxRecDepth 100000 in
set_option maxHeartbeats 16000000 in
theorem pback_B2 (k n : Int) (s : ByteArray) (la : Option Addr) (ll lc : Nat) (L : Nat → VT.V) (fa : Option Addr) (fl fc : Nat) (fn : Nat → ByteArray) (F : Nat → VT.V) (ee : Int) (key : ByteArray) (hk : Bool) (z : ByteArray) (w : World) (h : VT.V.In w (.mk k n s la ll lc L fa fl fc fn F ee key hk)) (ht : LTabs w) (hvt : VTabs w) (hz : z.size ≤ 140737488355328) (hck : VT.V.check (.mk k n s la ll lc L fa fl fc fn F ee key hk) = true) (hpl : VT.V.plain (.mk k n s la ll lc L fa fl fc fn F ee key hk) = false) :
    Calls Tryz.prog 6 #[.agg #[.int .u8 k, .int .i64 n, .string s, .slice la ll lc, .slice fa fl fc, .int .u8 ee, .string key, .bool hk], .string z] w fun e w' => e = .returned (.bool true) ∧ Below w.heap.size w w' := by
  obtain ⟨Wb, hWb⟩ : ∃ Wb, w.alloc (.cells #[.int .u8 k, .int .i64 n, .string s, .slice la ll lc, .slice fa fl fc, .int .u8 ee, .string key, .bool hk] 50) = Wb := ⟨_, rfl⟩
  have hx : Wb.heap[w.heap.size]? = some (.cells #[.int .u8 k, .int .i64 n, .string s, .slice la ll lc, .slice fa fl fc, .int .u8 ee, .string key, .bool hk] 50 (0, 0)) := by rw [← hWb]; exact heap_alloc_new _ _
  have hbb : Below w.heap.size w Wb := by rw [← hWb]; exact (Below.refl _ _).alloc (Nat.le_refl _) _
  have hzb : w.heap.size + 1 = Wb.heap.size := by rw [← hWb]; simp
  have HW : Hid (∀ W, Below Wb.heap.size Wb W → Below w.heap.size w W) := fun W h => hbb.trans (h.mono hbb.size)
  have HT : Hid (∀ W W' : World, Below Wb.heap.size Wb W → Below W.heap.size W W' → Below Wb.heap.size Wb W') := fun W W' h k => h.trans (k.mono h.size)
  have HX : Hid (∀ W, Below Wb.heap.size Wb W → W.heap[w.heap.size]? = some (.cells #[.int .u8 k, .int .i64 n, .string s, .slice la ll lc, .slice fa fl fc, .int .u8 ee, .string key, .bool hk] 50 (0, 0))) := fun W h => (h.block _ (by omega)).trans hx
  have HIN : Hid (∀ W, Below Wb.heap.size Wb W → VT.V.In W (.mk k n s la ll lc L fa fl fc fn F ee key hk)) := fun W hW => h.below (HW.out W hW)
  have HVT : Hid (∀ W, Below Wb.heap.size Wb W → VTabs W) := fun W hW => hvt.below (HW.out W hW)
  have HAl : Hid (∀ W, Below Wb.heap.size Wb W → Calls Tryz.prog 7 #[] W fun e w' => e = .returned (.bool true) ∧ Below W.heap.size W w') := fun W hW => alive_any W (ht.below (HW.out W hW) ht.gb) (hvt.below (HW.out W hW))
  obtain ⟨zz, hzz⟩ : ∃ zz, VT.V.vsz (.mk k n s la ll lc L fa fl fc fn F ee key hk) = zz := ⟨_, rfl⟩
  have hzr : -9223372036854775808 ≤ zz ∧ zz ≤ 9223372036854775807 := by rw [← hzz]; exact VT.vsz_range _
  have HSZ : Hid (∀ W, Below Wb.heap.size Wb W → Calls Tryz.prog 16 #[.agg #[.int .u8 k, .int .i64 n, .string s, .slice la ll lc, .slice fa fl fc, .int .u8 ee, .string key, .bool hk]] W fun e w' => e = .returned (.int .i64 zz) ∧ Below W.heap.size W w') := fun W hW => by rw [← hzz]; exact VT.valueSize_is (.mk k n s la ll lc L fa fl fc fn F ee key hk) W (HIN.out W hW)
  obtain ⟨bz, hbz⟩ : ∃ bz, VT.beyB 2 (twoZ zz (z.size : Int)) = bz := ⟨_, rfl⟩
  have HBY : Hid (∀ (W : World) (T : TypeId), Calls Tryz.prog 15 #[.slice (some ⟨W.heap.size, 0, none⟩) 2 2] (W.alloc (.cells #[.int .i64 zz, .int .i64 (z.size : Int)] T)) fun e w' => e = .returned (.bool bz) ∧ W.alloc (.cells #[.int .i64 zz, .int .i64 (z.size : Int)] T) = w') := fun W T => by rw [← hbz]; exact beyondZ W zz z.size hzr (by omega) T
  obtain ⟨tx, htx⟩ : ∃ tx, VT.V.text (.mk k n s la ll lc L fa fl fc fn F ee key hk) = tx := ⟨_, rfl⟩
  have HTX : Hid (∀ W, Below Wb.heap.size Wb W → Calls Tryz.prog 13 #[.agg #[.int .u8 k, .int .i64 n, .string s, .slice la ll lc, .slice fa fl fc, .int .u8 ee, .string key, .bool hk]] W fun e w' => e = .returned (.string tx) ∧ Below W.heap.size W w') := fun W hW => by
    have hv := HVT.out W hW
    rw [← htx]
    exact VT.text_any (.mk k n s la ll lc L fa fl fc fn F ee key hk) W (HIN.out W hW) hv.1 hv.2.1 hv.2.2
  have HCK : Hid (∀ W, Below Wb.heap.size Wb W → Calls Tryz.prog 18 #[.agg #[.int .u8 k, .int .i64 n, .string s, .slice la ll lc, .slice fa fl fc, .int .u8 ee, .string key, .bool hk]] W fun e w' => e = .returned (.bool (VT.V.check (.mk k n s la ll lc L fa fl fc fn F ee key hk))) ∧ Below W.heap.size W w') := fun W hW => VT.check_any (.mk k n s la ll lc L fa fl fc fn F ee key hk) W (HIN.out W hW) (HVT.out W hW).1
  have HPL : Hid (∀ W, Below Wb.heap.size Wb W → Calls Tryz.prog 19 #[.agg #[.int .u8 k, .int .i64 n, .string s, .slice la ll lc, .slice fa fl fc, .int .u8 ee, .string key, .bool hk]] W fun e w' => e = .returned (.bool (VT.V.plain (.mk k n s la ll lc L fa fl fc fn F ee key hk))) ∧ Below W.heap.size W w') := fun W hW => plainV_any (.mk k n s la ll lc L fa fl fc fn F ee key hk) W (HIN.out W hW)
  have HP1 : Hid (∀ W, Below Wb.heap.size Wb W → Calls Tryz.prog 17 #[.string tx] W fun e w' =>
      ((VT.V.check (.mk k n s la ll lc L fa fl fc fn F ee key hk) = true ∧ VT.V.plain (.mk k n s la ll lc L fa fl fc fn F ee key hk) = true ∧ ∃ u : VT.V, u.In w' ∧ u.same (.mk k n s la ll lc L fa fl fc fn F ee key hk) = true ∧ e = .returned (.tuple #[u.agg, .int .i64 0])) ∨ (¬ (VT.V.check (.mk k n s la ll lc L fa fl fc fn F ee key hk) = true ∧ VT.V.plain (.mk k n s la ll lc L fa fl fc fn F ee key hk) = true) ∧ e = .returned (.tuple #[.agg #[.int .u8 0, .int .i64 0, .string ⟨#[]⟩, .slice none 0 0, .slice none 0 0, .int .u8 0, .string ⟨#[]⟩, .bool false], .int .i64 5]))) ∧ Below W.heap.size W w') := fun W hW => by
    rw [← htx]
    exact back1 (.mk k n s la ll lc L fa fl fc fn F ee key hk) W (HIN.out W hW) (ht.below (HW.out W hW) ht.gb) (HVT.out W hW)
  have HP2 : Hid (∀ W, Below Wb.heap.size Wb W → Calls Tryz.prog 17 #[.string z] W fun e w' =>
      ((∃ x : VT.V, x.In w' ∧ x.check = true ∧ x.text = z ∧ e = .returned (.tuple #[x.agg, .int .i64 0])) ∨ e = .returned (.tuple #[.agg #[.int .u8 0, .int .i64 0, .string ⟨#[]⟩, .slice none 0 0, .slice none 0 0, .int .u8 0, .string ⟨#[]⟩, .bool false], .int .i64 5])) ∧ Below W.heap.size W w') := fun W hW =>
    back2 z W hz (ht.below (HW.out W hW) ht.gb) (HVT.out W hW)
  have HSM : Hid (∀ W (u : VT.V), Below Wb.heap.size Wb W → u.In W → u.same (.mk k n s la ll lc L fa fl fc fn F ee key hk) = true → Calls Tryz.prog 20 #[u.agg, .agg #[.int .u8 k, .int .i64 n, .string s, .slice la ll lc, .slice fa fl fc, .int .u8 ee, .string key, .bool hk]] W fun e w' => e = .returned (.bool true) ∧ Below W.heap.size W w') := fun W u hW hu hs => by
    have := VT.same_any u (.mk k n s la ll lc L fa fl fc fn F ee key hk) W hu (HIN.out W hW)
    rw [hs] at this
    exact this
  have HB0 := Lib.hid (Below.refl Wb.heap.size Wb)
  have gz : (0 : Int) ≤ (z.size : Int) := by omega
  have gz2 : (z.size : Int) ≤ 140737488355328 := by omega
  obtain ⟨⟨x0, x1, x2, x3, x4, x5, x6, x7⟩, -⟩ := blk8 hx
  clear h ht hvt hz hx hbb hzb htx hbz hzz hzr
  have hckv := hck
  have hplv := hpl
  have hno : ¬ (VT.V.check (.mk k n s la ll lc L fa fl fc fn F ee key hk) = true ∧ VT.V.plain (.mk k n s la ll lc L fa fl fc fn F ee key hk) = true) := fun h => by rw [hpl] at h; exact absurd h.2 (by decide)
  go_enter Tryz.func6, Tryz.ntmps6
  go_wp2_with fail
  refine (HAl.out _ HB0.out).mono ?_
  rintro e1 w1 ⟨rfl, hb1⟩
  have HB1 := Lib.hid hb1
  clear hb1 x0 x1 x2 x3 x4 x5 x6 x7
  obtain ⟨⟨x0, x1, x2, x3, x4, x5, x6, x7⟩, -⟩ := blk8 (HX.out _ HB1.out)
  go_wp2_with fail
  refine (HSZ.out _ HB1.out).mono ?_
  rintro e2 w2 ⟨rfl, hb2⟩
  have HB2 := Lib.hid (HT.out _ _ HB1.out hb2)
  clear hb2 x0 x1 x2 x3 x4 x5 x6 x7
  go_wp2_with fail
  refine (HBY.out w2 _).mono ?_
  rintro e3 w3 ⟨rfl, hw3⟩
  have HB3 := Lib.hid (show Below Wb.heap.size Wb w3 by rw [← hw3]; exact HB2.out.alloc HB2.out.size _)
  clear hw3
  cases bz
  case true =>
    go_wp2_with fail
    refine (HAl.out _ HB3.out).mono ?_
    rintro e4 w4 ⟨rfl, hb4⟩
    have HB4 := Lib.hid (HT.out _ _ HB3.out hb4)
    clear hb4
    go_wp2
    go_ret
    exact ⟨rfl, HW.out _ HB4.out⟩
  case false =>
    obtain ⟨⟨x0, x1, x2, x3, x4, x5, x6, x7⟩, -⟩ := blk8 (HX.out _ HB3.out)
    go_wp2_with fail
    refine (HTX.out _ HB3.out).mono ?_
    rintro e4 w4 ⟨rfl, hb4⟩
    have HB4 := Lib.hid (HT.out _ _ HB3.out hb4)
    clear hb4 x0 x1 x2 x3 x4 x5 x6 x7
    go_wp2_with fail
    refine (HP1.out _ HB4.out).mono ?_
    rintro e5 w5 ⟨⟨hy1, hy2, -⟩ | ⟨-, rfl⟩, hb5⟩
    · exact absurd ⟨hy1, hy2⟩ hno
    have HB5 := Lib.hid (HT.out _ _ HB4.out hb5)
    clear hb5
    have HBW6 := Lib.hid (HB5.out.alloc HB5.out.size (.cells #[.int .u8 0, .int .i64 0, .string ⟨#[]⟩, .slice none 0 0, .slice none 0 0, .int .u8 0, .string ⟨#[]⟩, .bool false] 50))
    obtain ⟨⟨x0, x1, x2, x3, x4, x5, x6, x7⟩, -⟩ := blk8 (HX.out _ HBW6.out)
    go_wp2_with fail
    try rw [hW6]
    refine (HCK.out _ HBW6.out).mono ?_
    rw [hckv]
    rintro e7 w7 ⟨rfl, hb7⟩
    have HB7 := Lib.hid (HT.out _ _ HBW6.out hb7)
    have HQ7 := Lib.hid hb7
    clear hb7
    clear x0 x1 x2 x3 x4 x5 x6 x7
    obtain ⟨⟨x0, x1, x2, x3, x4, x5, x6, x7⟩, -⟩ := blk8 (HX.out _ HB7.out)
    go_wp2_with fail
    refine (HPL.out _ HB7.out).mono ?_
    rw [hplv]
    rintro e8 w8 ⟨rfl, hb8⟩
    have HB8 := Lib.hid (HT.out _ _ HB7.out hb8)
    have HQ8 := Lib.hid (HQ7.out.trans (hb8.mono HQ7.out.size))
    clear hb8
    clear x0 x1 x2 x3 x4 x5 x6 x7
    go_wp2_with fail
    refine (HP2.out _ HB8.out).mono ?_
    rintro ea wa ⟨⟨x, hxin, hxc, hxt, rfl⟩ | rfl, hba⟩
    · cases x with
      | leaf => exact hxin.elim
      | mk xk xn xs xla xll xlc xL xfa xfl xfc xfn xF xe xkey xhk =>
      have HBa := Lib.hid (HT.out _ _ HB8.out hba)
      have HXI := Lib.hid hxin
      have HXC := Lib.hid hxc
      have HXT := Lib.hid hxt
      clear hba hxin hxc hxt
      simp only [VT.V.agg, VT.V.cells]
      obtain ⟨Wc, hWc⟩ : ∃ W, wa.alloc (.cells #[.int .u8 xk, .int .i64 xn, .string xs, .slice xla xll xlc, .slice xfa xfl xfc, .int .u8 xe, .string xkey, .bool xhk] 50) = W := ⟨_, rfl⟩
      have HXWc : Hid (∀ W, Below Wc.heap.size Wc W → W.heap[wa.heap.size]? = some (.cells #[.int .u8 xk, .int .i64 xn, .string xs, .slice xla xll xlc, .slice xfa xfl xfc, .int .u8 xe, .string xkey, .bool xhk] 50 (0, 0))) := fun W h => by
        have h0 : Wc.heap[wa.heap.size]? = some (.cells #[.int .u8 xk, .int .i64 xn, .string xs, .slice xla xll xlc, .slice xfa xfl xfc, .int .u8 xe, .string xkey, .bool xhk] 50 (0, 0)) := by rw [← hWc]; exact heap_alloc_new _ _
        exact (h.block _ (tr_lt_of_block h0)).trans h0
      have HBWc := Lib.hid (show Below Wb.heap.size Wb Wc by rw [← hWc]; exact HBa.out.alloc HBa.out.size _)
      have HBSWc := Lib.hid (show Below wa.heap.size wa Wc by rw [← hWc]; exact (Below.refl _ _).alloc (Nat.le_refl _) _)
      have HRWc := Lib.hid (Below.refl Wc.heap.size Wc)
      have hxw : VT.V.In Wc (.mk xk xn xs xla xll xlc xL xfa xfl xfc xfn xF xe xkey xhk) := HXI.out.below HBSWc.out
      have HK1 : Hid (Calls Tryz.prog 18 #[.agg #[.int .u8 xk, .int .i64 xn, .string xs, .slice xla xll xlc, .slice xfa xfl xfc, .int .u8 xe, .string xkey, .bool xhk]] Wc fun e w' => e = .returned (.bool true) ∧ Below Wc.heap.size Wc w') := by
        have := VT.check_any (.mk xk xn xs xla xll xlc xL xfa xfl xfc xfn xF xe xkey xhk) Wc hxw (HVT.out _ HBWc.out).1
        rw [HXC.out] at this
        exact Lib.hid this
      have HK2 : Hid (∀ W, Below Wc.heap.size Wc W → Calls Tryz.prog 13 #[.agg #[.int .u8 xk, .int .i64 xn, .string xs, .slice xla xll xlc, .slice xfa xfl xfc, .int .u8 xe, .string xkey, .bool xhk]] W fun e w' => e = .returned (.string z) ∧ Below W.heap.size W w') := fun W hW => by
        have hv := HVT.out W (HT.out _ _ HBWc.out hW)
        have := VT.text_any (.mk xk xn xs xla xll xlc xL xfa xfl xfc xfn xF xe xkey xhk) W (hxw.below hW) hv.1 hv.2.1 hv.2.2
        rw [HXT.out] at this
        exact this
      obtain ⟨⟨y0, y1, y2, y3, y4, y5, y6, y7⟩, -⟩ := blk8 (HXWc.out _ HRWc.out)
      clear hxw
      go_wp2_with fail
      try rw [hWc]
      refine HK1.out.mono ?_
      rintro eb wb' ⟨rfl, hbb⟩
      have HBb := Lib.hid hbb
      clear hbb y0 y1 y2 y3 y4 y5 y6 y7
      obtain ⟨⟨y0, y1, y2, y3, y4, y5, y6, y7⟩, -⟩ := blk8 (HXWc.out _ HBb.out)
      go_wp2_with fail
      refine (HK2.out _ HBb.out).mono ?_
      rintro ec wc' ⟨rfl, hbc⟩
      have HBc := Lib.hid (HT.out _ _ (HT.out _ _ HBWc.out HBb.out) hbc)
      clear hbc y0 y1 y2 y3 y4 y5 y6 y7
      go_wp2
      try go_ret
      exact ⟨rfl, HW.out _ HBc.out⟩
    · have HBa := Lib.hid (HT.out _ _ HB8.out hba)
      clear hba
      go_wp2
      try go_ret
      exact ⟨rfl, HW.out _ (HBa.out.alloc HBa.out.size _)⟩
theorem pback_any (v : VT.V) (z : ByteArray) (w : World) (h : v.In w) (ht : LTabs w) (hvt : VTabs w) (hz : z.size ≤ 140737488355328) :
    Calls Tryz.prog 6 #[v.agg, .string z] w fun e w' => e = .returned (.bool true) ∧ Below w.heap.size w w' := by
  cases v with
  | leaf => exact h.elim
  | mk k n s la ll lc L fa fl fc fn F e key hk =>
    cases hc : VT.V.check (.mk k n s la ll lc L fa fl fc fn F e key hk) with
    | false => exact pback_B1 k n s la ll lc L fa fl fc fn F e key hk z w h ht hvt hz hc
    | true =>
      cases hp : VT.V.plain (.mk k n s la ll lc L fa fl fc fn F e key hk) with
      | true => exact pback_A k n s la ll lc L fa fl fc fn F e key hk z w h ht hvt hz hc hp
      | false => exact pback_B2 k n s la ll lc L fa fl fc fn F e key hk z w h ht hvt hz hc hp
end Go.Proofs.YtdlmemalefhgmaaGreatDoor
