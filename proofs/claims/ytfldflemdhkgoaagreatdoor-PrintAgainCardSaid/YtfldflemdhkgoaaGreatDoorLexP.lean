/-
  Plain: the words of a text ('lex'), how a word is told and read again ('word_told', 'lex_join'), texts with a line's end between them ('lex_joins'), numbers ('numOf', 'refNum'). No program is imported.
  Conditions: none.
-/
import Derived.Lib.ParseIntBTie
import Derived.Lib.ItoaNum
namespace Go.Proofs.YtfldflemdhkgoaaGreatDoor.LX

def isDig (c : UInt8) : Bool := 48 ≤ c.toNat && c.toNat ≤ 57
def isLet (c : UInt8) : Bool := (97 ≤ c.toNat && c.toNat ≤ 122) || (65 ≤ c.toNat && c.toNat ≤ 90)
def isSign (c : UInt8) : Bool := c.toNat == 95 || c.toNat == 58 || c.toNat == 46 || c.toNat == 35 || c.toNat == 33 || c.toNat == 63
/-- A name's byte. -/
def isNB (c : UInt8) : Bool := isDig c || isLet c || c.toNat == 45 || isSign c
/-- The kind of a byte, as the program numbers them. -/
def kindN (c : UInt8) : Nat :=
  if isLet c then 8 else if isDig c then 6 else if c.toNat = 32 ∨ c.toNat = 9 ∨ c.toNat = 10 then 1 else if c.toNat = 59 then 2
  else if c.toNat = 40 then 3 else if c.toNat = 41 then 4 else if c.toNat = 34 then 5 else if c.toNat = 45 then 7 else if isSign c then 8 else 0
def isBlank (c : UInt8) : Bool := c.toNat == 32 || c.toNat == 9 || c.toNat == 10
/-- How many bytes are idle; within: in a remark. -/
def idleN : Bool → List UInt8 → Nat
  | _, [] => 0
  | true, c :: t => idleN (c.toNat != 10) t + 1
  | false, c :: t => if c.toNat = 59 then idleN true t + 1 else if isBlank c then idleN false t + 1 else 0
/-- How many bytes 10. -/
def cnt (l : List UInt8) : Nat := l.countP fun c => c.toNat == 10
def stands (c : UInt8) : Option UInt8 := if c.toNat = 34 ∨ c.toNat = 92 then some c else if c.toNat = 110 then some 10 else none
/-- Of a text behind its first quote: how many bytes are eaten, what they stand for. -/
def txt : Bool → List UInt8 → Nat × List UInt8
  | _, [] => (0, [])
  | true, c :: t => match stands c with
    | some d => ((txt false t).1 + 1, d :: (txt false t).2)
    | none => (0, [])
  | false, c :: t => if c.toNat = 92 then ((txt true t).1 + 1, (txt true t).2) else if c.toNat = 34 ∨ c.toNat = 10 then (0, []) else ((txt false t).1 + 1, c :: (txt false t).2)
/-- A word: its kind, text, number; its line. -/
structure LW where
  k : Nat
  s : List UInt8
  n : Int
  line : Nat
  deriving DecidableEq
/-- The number that a text is, as it would be told. -/
def numOf (l : List UInt8) : Option Int := match Lib.parseIntB 64 l with
  | .ok v => if Lib.itoa v = l then some v else none
  | _ => none
/-- Does a text of name's bytes begin a number? -/
def begNum : List UInt8 → Bool
  | [] => false
  | c :: t => isDig c || (c.toNat == 45 && (t.head?.map isDig).getD false)
/-- The word that a text begins with (without its line), and how many bytes it has. -/
def word : List UInt8 → Option (LW × Nat)
  | [] => none
  | c :: t =>
    if c.toNat = 40 then some (⟨4, [], 0, 0⟩, 1)
    else if c.toNat = 41 then some (⟨5, [], 0, 0⟩, 1)
    else if c.toNat = 34 then
      if (t.drop (txt false t).1).head? = some 34 ∧ (txt false t).2.length ≤ 4096 then some (⟨3, (txt false t).2, 0, 0⟩, (txt false t).1 + 2) else none
    else if isNB c then
      if begNum ((c :: t).takeWhile isNB) then
        match numOf ((c :: t).takeWhile isNB) with
        | some v => some (⟨2, [], v, 0⟩, ((c :: t).takeWhile isNB).length)
        | none => none
      else if ((c :: t).takeWhile isNB).length ≤ 4096 then some (⟨1, (c :: t).takeWhile isNB, 0, 0⟩, ((c :: t).takeWhile isNB).length) else none
    else none
inductive Res
  | err (line : Nat)
  | ok (ws : List LW)
def Res.cons (w : LW) : Res → Res
  | .err n => .err n
  | .ok ws => .ok (w :: ws)
def Res.app (l : List LW) : Res → Res
  | .err n => .err n
  | .ok ws => .ok (l ++ ws)
def lexN : Nat → Nat → List UInt8 → Res
  | 0, _, _ => .ok []
  | _ + 1, _, [] => .ok []
  | f + 1, line, c :: t =>
    if c.toNat = 10 then lexN f (line + 1) t
    else if c.toNat = 32 ∨ c.toNat = 9 then lexN f line t
    else if c.toNat = 59 then lexN f line (t.dropWhile fun b => b.toNat != 10)
    else match word (c :: t) with
      | none => .err line
      | some (w, m) => (lexN f line ((c :: t).drop m)).cons { w with line := line }
def lex (line : Nat) (l : List UInt8) : Res := lexN l.length line l

theorem word_pos {l : List UInt8} {w : LW} {m : Nat} (h : word l = some (w, m)) : 1 ≤ m := by
  cases l with
  | nil => simp [word] at h
  | cons c t =>
    simp only [word] at h
    split at h
    · simp at h; omega
    split at h
    · simp at h; omega
    split at h
    · split at h
      · simp at h; omega
      · simp at h
    split at h
    case isFalse => simp at h
    rename_i hn
    have hl : 1 ≤ ((c :: t).takeWhile isNB).length := by simp [hn]
    generalize (c :: t).takeWhile isNB = x at h hl
    split at h
    · split at h
      · simp at h; omega
      · simp at h
    split at h
    · simp at h; omega
    · simp at h

theorem dropWhile_le (p : UInt8 → Bool) (l : List UInt8) : (l.dropWhile p).length ≤ l.length := by
  induction l with
  | nil => simp
  | cons a t ih => rw [List.dropWhile_cons]; split <;> simp; omega

theorem lex_fuel : ∀ (f line : Nat) (l : List UInt8), l.length ≤ f → lexN f line l = lex line l := by
  have key : ∀ (f g line : Nat) (l : List UInt8), l.length ≤ f → l.length ≤ g → lexN f line l = lexN g line l := by
    intro f
    induction f with
    | zero =>
      intro g line l h1 h2
      cases l with
      | nil => cases g <;> rfl
      | cons c t => simp at h1
    | succ f ih =>
      intro g line l h1 h2
      cases l with
      | nil => cases g <;> rfl
      | cons c t =>
        cases g with
        | zero => simp at h2
        | succ g =>
          simp only [List.length_cons] at h1 h2
          simp only [lexN]
          split
          · exact ih _ _ _ (by omega) (by omega)
          split
          · exact ih _ _ _ (by omega) (by omega)
          split
          · have := dropWhile_le (fun b => b.toNat != 10) t
            exact ih _ _ _ (by omega) (by omega)
          split
          · rfl
          · rename_i w m hw
            have := word_pos hw
            rw [ih g line ((c :: t).drop m) (by simp; omega) (by simp; omega)]
  exact fun f line l h => key f l.length line l h (Nat.le_refl _)

theorem lex_nil (line : Nat) : lex line [] = .ok [] := rfl
theorem lex_nl (line : Nat) (c : UInt8) (t : List UInt8) (h : c.toNat = 10) : lex line (c :: t) = lex (line + 1) t := by
  show lexN (t.length + 1) line (c :: t) = _
  simp only [lexN, h, if_true]
  rfl
theorem lex_blank (line : Nat) (c : UInt8) (t : List UInt8) (h : c.toNat = 32 ∨ c.toNat = 9) : lex line (c :: t) = lex line t := by
  show lexN (t.length + 1) line (c :: t) = _
  have h1 : ¬ c.toNat = 10 := by omega
  simp only [lexN, h1, if_false, h, if_true]
  rfl
theorem lex_rem (line : Nat) (c : UInt8) (t : List UInt8) (h : c.toNat = 59) : lex line (c :: t) = lex line (t.dropWhile fun b => b.toNat != 10) := by
  show lexN (t.length + 1) line (c :: t) = _
  have h1 : ¬ c.toNat = 10 := by omega
  have h2 : ¬ (c.toNat = 32 ∨ c.toNat = 9) := by omega
  simp only [lexN, h, if_true]
  exact lex_fuel _ _ _ (dropWhile_le _ _)
def nonIdle (c : UInt8) : Prop := ¬ c.toNat = 10 ∧ ¬ (c.toNat = 32 ∨ c.toNat = 9) ∧ ¬ c.toNat = 59
theorem lex_err (line : Nat) (c : UInt8) (t : List UInt8) (h : nonIdle c) (hw : word (c :: t) = none) : lex line (c :: t) = .err line := by
  show lexN (t.length + 1) line (c :: t) = _
  obtain ⟨h1, h2, h3⟩ := h
  simp only [lexN, h1, if_false, h2, h3, hw]
theorem lex_word (line : Nat) (c : UInt8) (t : List UInt8) (w : LW) (m : Nat) (h : nonIdle c) (hw : word (c :: t) = some (w, m)) : lex line (c :: t) = (lex line ((c :: t).drop m)).cons { w with line := line } := by
  show lexN (t.length + 1) line (c :: t) = _
  obtain ⟨h1, h2, h3⟩ := h
  simp only [lexN, h1, if_false, h2, h3, hw]
  have := word_pos hw
  rw [lex_fuel _ _ _ (by simp; omega)]

/-- Every text is one of these. -/
theorem lex_cases {C : List UInt8 → Prop} (hnil : C []) (hnl : ∀ c t, c.toNat = 10 → C t → C (c :: t)) (hbl : ∀ c t, (c.toNat = 32 ∨ c.toNat = 9) → C t → C (c :: t))
    (hrem : ∀ c t, c.toNat = 59 → C (t.dropWhile fun b => b.toNat != 10) → C (c :: t)) (herr : ∀ c t, nonIdle c → word (c :: t) = none → C (c :: t))
    (hword : ∀ c t w m, nonIdle c → word (c :: t) = some (w, m) → C ((c :: t).drop m) → C (c :: t)) : ∀ l, C l := by
  have key : ∀ n l, l.length ≤ n → C l := by
    intro n
    induction n with
    | zero => intro l h; cases l with | nil => exact hnil | cons => simp at h
    | succ n ih =>
      intro l h
      cases l with
      | nil => exact hnil
      | cons c t =>
        simp only [List.length_cons] at h
        by_cases h1 : c.toNat = 10
        · exact hnl c t h1 (ih t (by omega))
        by_cases h2 : c.toNat = 32 ∨ c.toNat = 9
        · exact hbl c t h2 (ih t (by omega))
        by_cases h3 : c.toNat = 59
        · exact hrem c t h3 (ih _ (by have := dropWhile_le (fun b => b.toNat != 10) t; omega))
        cases hw : word (c :: t) with
        | none => exact herr c t ⟨h1, h2, h3⟩ hw
        | some x =>
          obtain ⟨w, m⟩ := x
          have := word_pos hw
          exact hword c t w m ⟨h1, h2, h3⟩ hw (ih _ (by simp; omega))
  exact fun l => key l.length l (Nat.le_refl _)

theorem cnt_cons (c : UInt8) (t : List UInt8) : cnt (c :: t) = cnt t + if c.toNat = 10 then 1 else 0 := by
  simp [cnt, List.countP_cons]
theorem cnt_append (a b : List UInt8) : cnt (a ++ b) = cnt a + cnt b := by simp [cnt]
theorem cnt_nil : cnt [] = 0 := rfl

theorem idleN_le (b : Bool) (l : List UInt8) : idleN b l ≤ l.length := by
  induction l generalizing b with
  | nil => cases b <;> simp [idleN]
  | cons c t ih =>
    cases b
    · simp only [idleN, List.length_cons]
      split
      · have := ih true; omega
      split
      · have := ih false; omega
      · omega
    · simp only [idleN, List.length_cons]
      have := ih (c.toNat != 10); omega

/-- In a remark: what is idle is all up to the byte 10, and what comes behind. -/
theorem idle_lex (line : Nat) (l : List UInt8) : lex (line + cnt (l.take (idleN false l))) (l.drop (idleN false l)) = lex line l ∧ lex (line + cnt (l.take (idleN true l))) (l.drop (idleN true l)) = lex line (l.dropWhile fun b => b.toNat != 10) := by
  induction l generalizing line with
  | nil => exact ⟨rfl, rfl⟩
  | cons c t ih =>
    refine ⟨?_, ?_⟩
    · simp only [idleN]
      split
      · rename_i h
        rw [List.take_succ_cons, List.drop_succ_cons, cnt_cons, if_neg (by omega), Nat.add_zero, (ih line).2, lex_rem _ _ _ h]
      split
      · rename_i h1 h
        rw [List.take_succ_cons, List.drop_succ_cons, cnt_cons]
        simp only [isBlank, Bool.or_eq_true, beq_iff_eq] at h
        by_cases h2 : c.toNat = 10
        · rw [if_pos h2, show line + (cnt (t.take (idleN false t)) + 1) = (line + 1) + cnt (t.take (idleN false t)) by omega, (ih (line + 1)).1, lex_nl _ _ _ h2]
        · rw [if_neg h2, Nat.add_zero, (ih line).1, lex_blank _ _ _ (by omega)]
      · rfl
    · simp only [idleN]
      rw [List.take_succ_cons, List.drop_succ_cons, cnt_cons, List.dropWhile_cons]
      by_cases h2 : c.toNat = 10
      · have e : (c.toNat != 10) = false := by simp [h2]
        rw [if_pos h2, e, show line + (cnt (t.take (idleN false t)) + 1) = (line + 1) + cnt (t.take (idleN false t)) by omega, (ih (line + 1)).1, if_neg (by simp), lex_nl _ _ _ h2]
      · have e : (c.toNat != 10) = true := by simp [h2]
        rw [if_neg h2, Nat.add_zero, e, (ih line).2, if_pos rfl]

/-- Behind what is idle stands nothing, or a byte that is not. -/
theorem idle_head (b : Bool) (l : List UInt8) : (l.drop (idleN b l) = []) ∨ ∃ c t, l.drop (idleN b l) = c :: t ∧ nonIdle c := by
  induction l generalizing b with
  | nil => left; cases b <;> rfl
  | cons c t ih =>
    cases b
    · simp only [idleN]
      split
      · rw [List.drop_succ_cons]; exact ih true
      split
      · rw [List.drop_succ_cons]; exact ih false
      · rename_i h1 h2
        right
        simp only [isBlank, Bool.or_eq_true, beq_iff_eq, not_or] at h2
        exact ⟨c, t, rfl, h2.2, by omega, h1⟩
    · simp only [idleN]
      rw [List.drop_succ_cons]; exact ih _
/-! ### Numbers -/
theorem pu_snoc (M : Nat) : ∀ (l : List UInt8) (acc a : Nat) (c : UInt8), Lib.parseUintM M acc l = .ok a → Lib.parseUintM M acc (l ++ [c]) = Lib.parseUintM M a [c]
  | [], acc, a, c, h => by
    simp only [Lib.parseUintM] at h
    injection h with h
    subst h; rfl
  | d :: t, acc, a, c, h => by
    simp only [List.cons_append, Lib.parseUintM] at h ⊢
    split at h
    · rename_i hd
      rw [if_pos hd]
      split at h
      · cases h
      rename_i h1
      rw [if_neg h1]
      split at h
      · cases h
      rename_i h2
      rw [if_neg h2]
      exact pu_snoc M t _ a c h
    · cases h
theorem pu_dec (u : Nat) (hu : u ≤ 18446744073709551615) : Lib.parseUintM 18446744073709551615 0 (Lib.decDigits u) = .ok u := by
  induction u using Nat.strongRecOn with
  | _ u ih =>
    by_cases h : u < 10
    · rw [Lib.decDigits, dif_pos h]
      have e : (UInt8.ofNat (48 + u)).toNat = 48 + u := by simp; omega
      simp only [Lib.parseUintM, e]
      rw [if_pos (by omega), if_neg (by omega), if_neg (by omega)]
      simp
    · rw [Lib.decDigits, dif_neg h, pu_snoc _ _ _ _ _ (ih (u / 10) (by omega) (by omega))]
      have e : (UInt8.ofNat (48 + u % 10)).toNat = 48 + u % 10 := by simp; omega
      simp only [Lib.parseUintM, e]
      rw [if_pos (by omega), if_neg (by omega), if_neg (by omega)]
      congr 1; omega
theorem dec_ne (u : Nat) : Lib.decDigits u ≠ [] := by
  intro h
  have := Lib.decDigits_length u
  rw [h] at this
  have := Lib.nDigits_pos u
  simp at *; omega
theorem isDig_dec : ∀ (u : Nat) (c : UInt8), c ∈ Lib.decDigits u → isDig c = true := by
  intro u
  induction u using Nat.strongRecOn with
  | _ u ih =>
    intro c hc
    by_cases h : u < 10
    · rw [Lib.decDigits, dif_pos h, List.mem_singleton] at hc
      have e : (UInt8.ofNat (48 + u)).toNat = 48 + u := by simp; omega
      simp [isDig, hc]; omega
    · rw [Lib.decDigits, dif_neg h, List.mem_append, List.mem_singleton] at hc
      rcases hc with hc | hc
      · exact ih _ (by omega) c hc
      · simp [isDig, hc]; omega
theorem parse_itoa (v : Int) (h1 : -9223372036854775808 ≤ v) (h2 : v < 9223372036854775808) : Lib.parseIntB 64 (Lib.itoa v) = .ok v := by
  by_cases hv : v < 0
  · have hu := pu_dec v.natAbs (by omega)
    have e : Lib.itoa v = 45 :: Lib.decDigits v.natAbs := by simp [Lib.itoa, hv]
    rw [e]
    have e2 : (45 : UInt8).toNat = 45 := rfl
    have e3 : Lib.parseUintB 64 (Lib.decDigits v.natAbs) = .ok v.natAbs := by
      rw [Lib.parseUintB, if_neg (dec_ne _)]; exact hu
    simp only [Lib.parseIntB, e2, or_true, if_true, e3, not_true, false_and, if_false, true_and]
    rw [if_neg (by omega)]
    congr 1; omega
  · have hu := pu_dec v.toNat (by omega)
    have e : Lib.itoa v = Lib.decDigits v.toNat := by simp [Lib.itoa, hv]
    rw [e]
    have hne := dec_ne v.toNat
    have hd := isDig_dec v.toNat
    generalize Lib.decDigits v.toNat = l at *
    cases l with
    | nil => exact absurd rfl hne
    | cons c t =>
      have hc : 48 ≤ c.toNat := by have := hd c (by simp); simp [isDig] at this; omega
      have e3 : Lib.parseUintB 64 (c :: t) = .ok v.toNat := by
        rw [Lib.parseUintB, if_neg hne]; exact hu
      have n1 : ¬ c.toNat = 43 := by omega
      have n2 : ¬ c.toNat = 45 := by omega
      simp only [Lib.parseIntB, n1, n2, or_self, if_false, e3, not_false_eq_true, true_and, false_and]
      rw [if_neg (by omega)]
      congr 1; omega
/-- A text is a number exactly if it is told as one. -/
theorem numOf_iff (l : List UInt8) (v : Int) : numOf l = some v ↔ (-9223372036854775808 ≤ v ∧ v < 9223372036854775808) ∧ l = Lib.itoa v := by
  constructor
  · intro h
    unfold numOf at h
    split at h
    · rename_i u hu
      split at h
      · injection h with h
        subst h
        rename_i e
        have := Lib.parseIntB_bounds hu
        exact ⟨by omega, e.symm⟩
      · cases h
    · cases h
  · rintro ⟨h, rfl⟩
    unfold numOf
    rw [parse_itoa v h.1 h.2]
    simp
theorem isNB_dig {c : UInt8} (h : isDig c = true) : isNB c = true := by simp [isNB, h]
theorem itoa_nb (v : Int) : ∀ c ∈ Lib.itoa v, isNB c = true := by
  intro c hc
  unfold Lib.itoa at hc
  split at hc
  · rcases List.mem_cons.1 hc with rfl | hc
    · rfl
    · exact isNB_dig (isDig_dec _ c hc)
  · exact isNB_dig (isDig_dec _ c hc)
theorem begNum_itoa (v : Int) : begNum (Lib.itoa v) = true := by
  unfold Lib.itoa
  split
  · have hne := dec_ne v.natAbs
    have hd := isDig_dec v.natAbs
    generalize Lib.decDigits v.natAbs = l at *
    cases l with
    | nil => exact absurd rfl hne
    | cons c t => simp [begNum, hd c (by simp)]
  · have hne := dec_ne v.toNat
    have hd := isDig_dec v.toNat
    generalize Lib.decDigits v.toNat = l at *
    cases l with
    | nil => exact absurd rfl hne
    | cons c t => simp [begNum, hd c (by simp)]
theorem itoa_ne (v : Int) : Lib.itoa v ≠ [] := by
  intro h
  have := begNum_itoa v
  rw [h] at this
  cases this

/-! ### Words as texts -/
def esc : List UInt8 → List UInt8
  | [] => []
  | c :: t => if c.toNat = 34 ∨ c.toNat = 92 then 92 :: c :: esc t else if c.toNat = 10 then 92 :: 110 :: esc t else c :: esc t
def quotedL (s : List UInt8) : List UInt8 := 34 :: (esc s ++ [34])
def toldW (w : LW) : List UInt8 := if w.k = 4 then [40] else if w.k = 5 then [41] else if w.k = 2 then Lib.itoa w.n else if w.k = 3 then quotedL w.s else w.s
/-- A word that a text can have. -/
def OkW (w : LW) : Prop :=
  (w.k = 4 ∧ w.s = [] ∧ w.n = 0) ∨ (w.k = 5 ∧ w.s = [] ∧ w.n = 0) ∨ (w.k = 3 ∧ w.n = 0 ∧ w.s.length ≤ 4096)
  ∨ (w.k = 2 ∧ w.s = [] ∧ -9223372036854775808 ≤ w.n ∧ w.n < 9223372036854775808)
  ∨ (w.k = 1 ∧ w.n = 0 ∧ w.s ≠ [] ∧ w.s.length ≤ 4096 ∧ begNum w.s = false ∧ ∀ c ∈ w.s, isNB c = true)
theorem takeWhile_mem {p : UInt8 → Bool} {l : List UInt8} : ∀ c ∈ l.takeWhile p, p c = true := by
  induction l with
  | nil => simp
  | cons a t ih =>
    intro c hc
    rw [List.takeWhile_cons] at hc
    split at hc
    · rcases List.mem_cons.1 hc with rfl | hc
      · assumption
      · exact ih c hc
    · cases hc
theorem word_ok {l : List UInt8} {w : LW} {m : Nat} (h : word l = some (w, m)) : OkW w ∧ w.line = 0 := by
  cases l with
  | nil => simp [word] at h
  | cons c t =>
    simp only [word] at h
    split at h
    · injection h with h; injection h with h1 h2; subst h1; exact ⟨.inl ⟨rfl, rfl, rfl⟩, rfl⟩
    split at h
    · injection h with h; injection h with h1 h2; subst h1; exact ⟨.inr (.inl ⟨rfl, rfl, rfl⟩), rfl⟩
    split at h
    · split at h
      · rename_i hx
        injection h with h; injection h with h1 h2; subst h1; exact ⟨.inr (.inr (.inl ⟨rfl, rfl, hx.2⟩)), rfl⟩
      · cases h
    split at h
    case isFalse => cases h
    rename_i hn
    have hl : ((c :: t).takeWhile isNB) ≠ [] := by simp [hn]
    have hm := takeWhile_mem (p := isNB) (l := c :: t)
    generalize (c :: t).takeWhile isNB = x at h hl hm
    split at h
    · split at h
      · rename_i v hv
        injection h with h; injection h with h1 h2; subst h1
        have := (numOf_iff _ _).1 hv
        exact ⟨.inr (.inr (.inr (.inl ⟨rfl, rfl, this.1⟩))), rfl⟩
      · cases h
    split at h
    · rename_i hb hx
      injection h with h; injection h with h1 h2; subst h1
      exact ⟨.inr (.inr (.inr (.inr ⟨rfl, rfl, hl, hx, by simpa using hb, hm⟩))), rfl⟩
    · cases h
theorem txt_esc (s : List UInt8) (r : List UInt8) : txt false (esc s ++ 34 :: r) = ((esc s).length, s) := by
  induction s with
  | nil => rfl
  | cons c t ih =>
    by_cases h1 : c.toNat = 34 ∨ c.toNat = 92
    · have e : esc (c :: t) = 92 :: c :: esc t := by simp only [esc, if_pos h1]
      rw [e]
      simp only [List.cons_append, txt, show (92 : UInt8).toNat = 92 from rfl, if_true, stands, h1, ih, List.length_cons]
    by_cases h2 : c.toNat = 10
    · have e : esc (c :: t) = 92 :: 110 :: esc t := by simp only [esc, if_neg h1, if_pos h2]
      have hc : c = 10 := by rw [← UInt8.toNat_inj]; exact h2
      rw [e]
      simp only [List.cons_append, txt, show (92 : UInt8).toNat = 92 from rfl, if_true, stands, ih, List.length_cons, show (110 : UInt8).toNat = 110 from rfl]
      simp [hc]
    · have e : esc (c :: t) = c :: esc t := by simp only [esc, if_neg h1, if_neg h2]
      rw [e]
      have n1 : ¬ c.toNat = 92 := by omega
      have n2 : ¬ (c.toNat = 34 ∨ c.toNat = 10) := by omega
      simp only [List.cons_append, txt, if_neg n1, if_neg n2, ih, List.length_cons]
theorem takeWhile_all {p : UInt8 → Bool} {l r : List UInt8} (h : ∀ c ∈ l, p c = true) (hr : ∀ c t, r = c :: t → p c = false) : (l ++ r).takeWhile p = l := by
  induction l with
  | nil =>
    cases r with
    | nil => rfl
    | cons c t => simp [hr c t rfl]
  | cons a t ih =>
    simp only [List.mem_cons, forall_eq_or_imp] at h
    simp only [List.cons_append, List.takeWhile_cons, h.1, if_true]
    rw [ih h.2]
theorem nb_not {c : UInt8} (h : isNB c = true) : nonIdle c ∧ ¬ c.toNat = 40 ∧ ¬ c.toNat = 41 ∧ ¬ c.toNat = 34 := by
  simp [isNB, isDig, isLet, isSign] at h
  unfold nonIdle
  omega
/-- A WORD IS READ AGAIN FROM WHAT IT IS TOLD AS, whatever stands behind it but a name's byte. -/
theorem word_told {w : LW} (hw : OkW w) (r : List UInt8) (hr : ∀ c t, r = c :: t → isNB c = false) : word (toldW w ++ r) = some ({ w with line := 0 }, (toldW w).length) := by
  obtain ⟨k, s, n, line⟩ := w
  rcases hw with ⟨rfl, rfl, rfl⟩ | ⟨rfl, rfl, rfl⟩ | ⟨rfl, rfl, hl⟩ | ⟨rfl, rfl, h1, h2⟩ | ⟨rfl, rfl, hne, hl, hb, hm⟩
  · rfl
  · rfl
  · have e : toldW ⟨3, s, 0, line⟩ = 34 :: (esc s ++ [34]) := rfl
    rw [e]
    simp only [List.cons_append, List.append_assoc, List.nil_append, word, show (34 : UInt8).toNat = 34 from rfl, txt_esc]
    simp only [List.drop_left, List.head?_cons, true_and]
    rw [if_pos hl]
    simp
  · have e : toldW ⟨2, [], n, line⟩ = Lib.itoa n := rfl
    rw [e]
    have hb := begNum_itoa n
    have hn := (numOf_iff (Lib.itoa n) n).2 ⟨⟨h1, h2⟩, rfl⟩
    have hm := itoa_nb n
    have ht := takeWhile_all hm hr
    have hne := itoa_ne n
    generalize Lib.itoa n = x at *
    cases x with
    | nil => exact absurd rfl hne
    | cons c t =>
      have := nb_not (hm c (by simp))
      have hc := hm c (by simp)
      simp only [List.cons_append] at ht
      simp only [List.cons_append, word, this.2.1, this.2.2.1, this.2.2.2, if_false, hc, if_true, ht, hb, hn]
  · have e : toldW ⟨1, s, 0, line⟩ = s := rfl
    rw [e]
    have ht := takeWhile_all hm hr
    cases s with
    | nil => exact absurd rfl hne
    | cons c t =>
      have := nb_not (hm c (by simp))
      have hc := hm c (by simp)
      simp only [List.cons_append] at ht
      simp only [List.cons_append, word, this.2.1, this.2.2.1, this.2.2.2, if_false, hc, if_true, ht, hb, hl]
      simp
instance (c : UInt8) : Decidable (nonIdle c) := by unfold nonIdle; infer_instance
theorem told_ne {w : LW} (hw : OkW w) : ∃ c t, toldW w = c :: t ∧ nonIdle c := by
  obtain ⟨k, s, n, line⟩ := w
  rcases hw with ⟨rfl, rfl, rfl⟩ | ⟨rfl, rfl, rfl⟩ | ⟨rfl, rfl, hl⟩ | ⟨rfl, rfl, h1, h2⟩ | ⟨rfl, rfl, hne, hl, hb, hm⟩
  · exact ⟨40, [], rfl, by decide⟩
  · exact ⟨41, [], rfl, by decide⟩
  · exact ⟨34, esc s ++ [34], rfl, by decide⟩
  · have hm := itoa_nb n
    have hne := itoa_ne n
    show ∃ c t, Lib.itoa n = c :: t ∧ nonIdle c
    generalize Lib.itoa n = x at *
    cases x with
    | nil => exact absurd rfl hne
    | cons c t => exact ⟨c, t, rfl, (nb_not (hm c (by simp))).1⟩
  · show ∃ c t, s = c :: t ∧ nonIdle c
    cases s with
    | nil => exact absurd rfl hne
    | cons c t => exact ⟨c, t, rfl, (nb_not (hm c (by simp))).1⟩
theorem lex_told (line : Nat) {w : LW} (hw : OkW w) (r : List UInt8) (hr : ∀ c t, r = c :: t → isNB c = false) : lex line (toldW w ++ r) = (lex line r).cons { w with line := line } := by
  have h := word_told hw r hr
  obtain ⟨c, t, e, hi⟩ := told_ne hw
  have h2 := h
  rw [e, List.cons_append] at h2
  rw [e, List.cons_append, lex_word _ _ _ _ _ hi h2, ← List.cons_append, ← e, List.drop_left]

/-! ### Words, and single blanks between them -/
def joinW : List LW → List UInt8
  | [] => []
  | w :: ws => toldW w ++ (ws.map fun x => 32 :: toldW x).flatten
theorem lex_blanks : ∀ (ws : List LW), (∀ w ∈ ws, OkW w) → lex 0 ((ws.map fun x => 32 :: toldW x).flatten) = .ok (ws.map fun w => { w with line := 0 })
  | [], _ => rfl
  | w :: ws, h => by
    simp only [List.map_cons, List.flatten_cons, List.cons_append]
    rw [lex_blank 0 32 _ (Or.inl rfl), lex_told 0 (h w (by simp)), lex_blanks ws fun x hx => h x (by simp [hx])]
    · rfl
    · intro c t e
      cases ws with
      | nil => cases e
      | cons y ys => simp at e; rw [← e.1]; rfl
theorem lex_join (ws : List LW) (h : ∀ w ∈ ws, OkW w) : lex 0 (joinW ws) = .ok (ws.map fun w => { w with line := 0 }) := by
  cases ws with
  | nil => rfl
  | cons w ws =>
    have hb := lex_blanks ws fun x hx => h x (by simp [hx])
    rw [joinW, lex_told 0 (h w (by simp)), hb]
    · rfl
    · intro c t e
      cases ws with
      | nil => cases e
      | cons y ys => simp at e; rw [← e.1]; rfl
theorem join_snoc (ws : List LW) (w : LW) : joinW (ws ++ [w]) = joinW ws ++ (if ws = [] then [] else [32]) ++ toldW w := by
  cases ws with
  | nil => simp [joinW]
  | cons x xs => simp [joinW]
/-- All words of a text are words; their lines don't fall. -/
theorem lex_sound (line : Nat) (l : List UInt8) (ws : List LW) (h : lex line l = .ok ws) : (∀ w ∈ ws, OkW w ∧ line ≤ w.line) ∧ ws.Pairwise (fun a b => a.line ≤ b.line) ∧ ws.length ≤ l.length := by
  induction l using lex_cases generalizing line ws with
  | hnil => injection h with h; subst h; simp
  | hnl c t hc ih =>
    rw [lex_nl _ _ _ hc] at h
    have := ih _ _ h
    exact ⟨fun w hw => ⟨(this.1 w hw).1, by have := (this.1 w hw).2; omega⟩, this.2.1, by simp; omega⟩
  | hbl c t hc ih =>
    rw [lex_blank _ _ _ hc] at h
    have := ih _ _ h
    exact ⟨this.1, this.2.1, by simp; omega⟩
  | hrem c t hc ih =>
    rw [lex_rem _ _ _ hc] at h
    have := ih _ _ h
    have hd := dropWhile_le (fun b => b.toNat != 10) t
    exact ⟨this.1, this.2.1, by simp; omega⟩
  | herr c t hi hw => rw [lex_err _ _ _ hi hw] at h; cases h
  | hword c t w m hi hw ih =>
    rw [lex_word _ _ _ _ _ hi hw] at h
    cases hr : lex line ((c :: t).drop m) with
    | err n => rw [hr] at h; cases h
    | ok us =>
      rw [hr] at h
      injection h with h
      subst h
      have := ih _ _ hr
      have hp := word_pos hw
      refine ⟨?_, ?_, ?_⟩
      · intro x hx
        rcases List.mem_cons.1 hx with rfl | hx
        · exact ⟨(word_ok hw).1, Nat.le_refl _⟩
        · exact this.1 x hx
      · rw [List.pairwise_cons]
        exact ⟨fun x hx => (this.1 x hx).2, this.2.1⟩
      · have := this.2.2
        simp at this ⊢
        omega

/-! ### Texts with a line's end between them -/
theorem lex_shift (k line : Nat) (l : List UInt8) : lex (line + k) l = (match lex line l with | .err n => .err (n + k) | .ok ws => .ok (ws.map fun w => { w with line := w.line + k })) := by
  induction l using lex_cases generalizing line with
  | hnil => rfl
  | hnl c t hc ih => rw [lex_nl _ _ _ hc, lex_nl _ _ _ hc, show line + k + 1 = line + 1 + k by omega, ih]
  | hbl c t hc ih => rw [lex_blank _ _ _ hc, lex_blank _ _ _ hc, ih]
  | hrem c t hc ih => rw [lex_rem _ _ _ hc, lex_rem _ _ _ hc, ih]
  | herr c t hi hw => rw [lex_err _ _ _ hi hw, lex_err _ _ _ hi hw]
  | hword c t w m hi hw ih =>
    rw [lex_word _ _ _ _ _ hi hw, lex_word _ _ _ _ _ hi hw, ih]
    cases lex line ((c :: t).drop m) <;> rfl
theorem txt_nl (l r : List UInt8) : ∀ b, txt b (l ++ 10 :: r) = txt b l ∧ (txt b l).1 ≤ l.length ∧ cnt (l.take (txt b l).1) = 0 := by
  induction l with
  | nil =>
    intro b
    cases b
    · exact ⟨rfl, Nat.le_refl _, rfl⟩
    · exact ⟨rfl, Nat.le_refl _, rfl⟩
  | cons c t ih =>
    intro b
    cases b
    · simp only [List.cons_append, txt]
      rw [(ih true).1, (ih false).1]
      split
      · rename_i h
        refine ⟨rfl, by have := (ih true).2.1; simp; omega, ?_⟩
        rw [List.take_succ_cons, cnt_cons, (ih true).2.2, if_neg (by omega)]
      split
      · exact ⟨rfl, by simp, rfl⟩
      · rename_i h1 h2
        refine ⟨rfl, by have := (ih false).2.1; simp; omega, ?_⟩
        rw [List.take_succ_cons, cnt_cons, (ih false).2.2, if_neg (by omega)]
    · simp only [List.cons_append, txt]
      rw [(ih false).1]
      split
      · rename_i d hd
        refine ⟨rfl, by have := (ih false).2.1; simp; omega, ?_⟩
        rw [List.take_succ_cons, cnt_cons, (ih false).2.2, if_neg (by
          intro h10
          simp [stands, h10] at hd)]
      · exact ⟨rfl, by simp, rfl⟩
theorem takeWhile_nl (l r : List UInt8) : (l ++ 10 :: r).takeWhile isNB = l.takeWhile isNB := by
  induction l with
  | nil => rfl
  | cons a t ih => simp only [List.cons_append, List.takeWhile_cons, ih]
theorem cnt_nb {l : List UInt8} (h : ∀ c ∈ l, isNB c = true) : cnt l = 0 := by
  induction l with
  | nil => rfl
  | cons a t ih =>
    rw [cnt_cons, ih fun c hc => h c (by simp [hc]), if_neg (nb_not (h a (by simp))).1.1]
theorem take_takeWhile (p : UInt8 → Bool) (l : List UInt8) : l.take (l.takeWhile p).length = l.takeWhile p := by
  induction l with
  | nil => rfl
  | cons a t ih =>
    rw [List.takeWhile_cons]
    split
    · rw [List.length_cons, List.take_succ_cons, ih]
    · rfl
theorem takeWhile_le (p : UInt8 → Bool) (l : List UInt8) : (l.takeWhile p).length ≤ l.length := by
  induction l with
  | nil => simp
  | cons a t ih => rw [List.takeWhile_cons]; split <;> simp; omega
theorem drop_head {l r : List UInt8} {n : Nat} (h : n ≤ l.length) : ((l ++ 10 :: r).drop n).head? = some 34 ↔ (l.drop n).head? = some 34 := by
  rw [List.drop_append_of_le_length h]
  cases l.drop n with
  | nil => simp
  | cons a t => simp
theorem word_nl (c : UInt8) (t r : List UInt8) : word (c :: (t ++ 10 :: r)) = word (c :: t) ∧ ∀ w m, word (c :: t) = some (w, m) → m ≤ (c :: t).length ∧ (nonIdle c → cnt ((c :: t).take m) = 0) := by
  have h1 := txt_nl t r false
  have h2 : (c :: (t ++ 10 :: r)).takeWhile isNB = (c :: t).takeWhile isNB := takeWhile_nl (c :: t) r
  have h3 := drop_head (r := r) h1.2.1
  constructor
  · simp only [word, h1.1, h2]
    split
    · rfl
    split
    · rfl
    split
    · by_cases h4 : (t.drop (txt false t).1).head? = some 34
      · simp only [h3.2 h4, h4]
      · have h5 : ¬ ((t ++ 10 :: r).drop (txt false t).1).head? = some 34 := fun h => h4 (h3.1 h)
        simp only [h5, h4, false_and]
    · rfl
  · intro w m h
    simp only [word] at h
    split at h
    · injection h with h; injection h with _ h; subst h
      exact ⟨by simp, fun hi => by rw [List.take_succ_cons, cnt_cons, if_neg hi.1]; rfl⟩
    split at h
    · injection h with h; injection h with _ h; subst h
      exact ⟨by simp, fun hi => by rw [List.take_succ_cons, cnt_cons, if_neg hi.1]; rfl⟩
    split at h
    · split at h
      · rename_i hx
        injection h with h; injection h with _ h; subst h
        have hlt : (txt false t).1 < t.length := by
          rcases Nat.lt_or_ge (txt false t).1 t.length with h | h
          · exact h
          · rw [List.drop_of_length_le h] at hx; simp at hx
        refine ⟨by simp; omega, fun hi => ?_⟩
        rw [show (txt false t).1 + 2 = ((txt false t).1 + 1) + 1 from rfl, List.take_succ_cons, cnt_cons, if_neg hi.1, List.take_succ_eq_append_getElem hlt, cnt_append, h1.2.2, cnt_cons, cnt_nil]
        have : t[(txt false t).1] = 34 := by
          have := hx.1
          rw [List.head?_drop, List.getElem?_eq_getElem hlt] at this
          injection this
        rw [this]
        rfl
      · cases h
    split at h
    case isFalse => cases h
    have hm : m = ((c :: t).takeWhile isNB).length := by
      generalize (c :: t).takeWhile isNB = x at h ⊢
      split at h
      · split at h
        · injection h with h; injection h with _ h; exact h.symm
        · cases h
      split at h
      · injection h with h; injection h with _ h; exact h.symm
      · cases h
    subst hm
    refine ⟨takeWhile_le _ _, fun _ => ?_⟩
    rw [take_takeWhile]
    exact cnt_nb takeWhile_mem
theorem dropWhile_nl (l r : List UInt8) : (l ++ 10 :: r).dropWhile (fun b => b.toNat != 10) = l.dropWhile (fun b => b.toNat != 10) ++ 10 :: r := by
  induction l with
  | nil => rfl
  | cons a t ih =>
    simp only [List.cons_append, List.dropWhile_cons, ih]
    split <;> simp
theorem cnt_dropWhile (l : List UInt8) : cnt (l.dropWhile (fun b => b.toNat != 10)) = cnt l := by
  induction l with
  | nil => rfl
  | cons a t ih =>
    rw [List.dropWhile_cons]
    split
    · rename_i h
      simp at h
      rw [ih, cnt_cons, if_neg h, Nat.add_zero]
    · rfl
/-- THE WORDS OF TWO TEXTS WITH A LINE'S END BETWEEN THEM. -/
theorem lex_joins (line : Nat) (a b : List UInt8) : lex line (a ++ 10 :: b) = (match lex line a with | .err n => .err n | .ok ws => (lex (line + cnt a + 1) b).app ws) := by
  induction a using lex_cases generalizing line with
  | hnil =>
    rw [List.nil_append, lex_nl _ _ _ rfl]
    show _ = (lex (line + 0 + 1) b).app []
    cases lex (line + 1) b <;> rfl
  | hnl c t hc ih => rw [List.cons_append, lex_nl _ _ _ hc, lex_nl _ _ _ hc, ih, cnt_cons, if_pos hc, show line + 1 + cnt t + 1 = line + (cnt t + 1) + 1 by omega]
  | hbl c t hc ih => rw [List.cons_append, lex_blank _ _ _ hc, lex_blank _ _ _ hc, ih, cnt_cons, if_neg (by omega)]; rfl
  | hrem c t hc ih => rw [List.cons_append, lex_rem _ _ _ hc, lex_rem _ _ _ hc, dropWhile_nl, ih, cnt_cons, if_neg (by omega), cnt_dropWhile]; rfl
  | herr c t hi hw => rw [List.cons_append, lex_err _ _ _ hi hw, lex_err _ _ _ hi ((word_nl c t b).1.trans hw)]
  | hword c t w m hi hw ih =>
    have h1 := (word_nl c t b).1.trans hw
    have h2 := (word_nl c t b).2 w m hw
    have hcnt : cnt ((c :: t).drop m) = cnt (c :: t) := by
      conv => rhs; rw [← List.take_append_drop m (c :: t), cnt_append, h2.2 hi, Nat.zero_add]
    rw [lex_word _ _ _ _ _ hi hw, List.cons_append, lex_word _ _ _ _ _ hi h1, ← List.cons_append, List.drop_append_of_le_length h2.1, ih, hcnt]
    cases lex line ((c :: t).drop m) with
    | err n => rfl
    | ok us => simp only [Res.cons]; cases lex (line + cnt (c :: t) + 1) b <;> rfl
/-! ### Numbers as the document's answer reads them -/
def refLoop : Nat → List UInt8 → Option Nat
  | n, [] => some n
  | n, c :: t => if isDig c = true ∧ n ≤ 922337203685477580 then refLoop (10 * n + (c.toNat - 48)) t else none
def isNeg (l : List UInt8) : Bool := match l with
  | [] => false
  | c :: _ => c.toNat == 45
def digitsOf (l : List UInt8) : List UInt8 := if isNeg l then l.tail else l
def zeroHead (l : List UInt8) : Bool := match l with
  | [] => false
  | c :: _ => c.toNat == 48
def refNum (l : List UInt8) : Option Int :=
  if digitsOf l = [] ∨ 20 < l.length ∨ (zeroHead (digitsOf l) = true ∧ (isNeg l = true ∨ 1 < l.length)) then none
  else match refLoop 0 (digitsOf l) with
    | none => none
    | some n => if isNeg l then (if n ≤ 9223372036854775808 then some (-(n : Int)) else none) else (if n ≤ 9223372036854775807 then some (n : Int) else none)
theorem dig_of {c : UInt8} (h : isDig c = true) : 48 ≤ c.toNat ∧ c.toNat ≤ 57 := by simpa [isDig] using h
theorem dec_cons (n : Nat) (c : UInt8) (hn : 1 ≤ n) (hc : isDig c = true) : Lib.decDigits (10 * n + (c.toNat - 48)) = Lib.decDigits n ++ [c] := by
  have := dig_of hc
  rw [Lib.decDigits, dif_neg (by omega), show (10 * n + (c.toNat - 48)) / 10 = n by omega, show 48 + (10 * n + (c.toNat - 48)) % 10 = c.toNat by omega]
  simp
theorem dec_one (c : UInt8) (hc : isDig c = true) : Lib.decDigits (c.toNat - 48) = [c] := by
  have := dig_of hc
  rw [Lib.decDigits, dif_pos (by omega), show 48 + (c.toNat - 48) = c.toNat by omega]
  simp
theorem refLoop_dec : ∀ (l : List UInt8) (n m : Nat), 1 ≤ n → refLoop n l = some m → Lib.decDigits m = Lib.decDigits n ++ l
  | [], n, m, _, h => by simp [refLoop] at h; simp [h]
  | c :: t, n, m, hn, h => by
    simp only [refLoop] at h
    split at h
    · rename_i hc
      rw [refLoop_dec t _ m (by omega) h, dec_cons n c hn hc.1, List.append_assoc]; rfl
    · cases h
theorem refLoop_snoc : ∀ (l : List UInt8) (n a : Nat) (c : UInt8), refLoop n l = some a → refLoop n (l ++ [c]) = refLoop a [c]
  | [], n, a, c, h => by simp [refLoop] at h; simp [h]
  | d :: t, n, a, c, h => by
    simp only [List.cons_append, refLoop] at h ⊢
    split at h
    · rename_i hd
      rw [if_pos hd]
      exact refLoop_snoc t _ a c h
    · cases h
theorem refLoop_of_dec (u : Nat) (hu : u ≤ 9223372036854775808) : refLoop 0 (Lib.decDigits u) = some u := by
  induction u using Nat.strongRecOn with
  | _ u ih =>
    by_cases h : u < 10
    · rw [Lib.decDigits, dif_pos h]
      have e : (UInt8.ofNat (48 + u)).toNat = 48 + u := by simp; omega
      have hd : isDig (UInt8.ofNat (48 + u)) = true := isDig_dec u _ (by rw [Lib.decDigits, dif_pos h]; simp)
      simp only [refLoop, hd, e]
      simp
    · rw [Lib.decDigits, dif_neg h, refLoop_snoc _ _ _ _ (ih (u / 10) (by omega) (by omega))]
      have e : (UInt8.ofNat (48 + u % 10)).toNat = 48 + u % 10 := by simp; omega
      have hd : isDig (UInt8.ofNat (48 + u % 10)) = true := isDig_dec u _ (by rw [Lib.decDigits, dif_neg h]; simp)
      simp only [refLoop, hd, e]
      rw [if_pos ⟨trivial, by omega⟩]
      congr 1; omega
theorem zeroHead_dec (u : Nat) (hu : 1 ≤ u) : zeroHead (Lib.decDigits u) = false := by
  induction u using Nat.strongRecOn with
  | _ u ih =>
    by_cases h : u < 10
    · rw [Lib.decDigits, dif_pos h]
      have e : (UInt8.ofNat (48 + u)).toNat = 48 + u := by simp; omega
      simp only [zeroHead, e]
      simp; omega
    · rw [Lib.decDigits, dif_neg h]
      have := ih (u / 10) (by omega) (by omega)
      have hne := dec_ne (u / 10)
      generalize Lib.decDigits (u / 10) = l at *
      cases l with
      | nil => exact absurd rfl hne
      | cons c t => simpa [zeroHead] using this
theorem nDigits_le : ∀ (k u : Nat), u < 10 ^ (k + 1) → Lib.nDigits u ≤ k + 1
  | 0, u, h => by rw [Lib.nDigits_small (by simpa using h)]; omega
  | k + 1, u, h => by
    by_cases h1 : u < 10
    · rw [Lib.nDigits_small h1]; omega
    · rw [Lib.nDigits_big h1]
      have := nDigits_le k (u / 10) (by rw [Nat.pow_succ] at h; omega)
      omega
theorem itoa_len (v : Int) (h1 : -9223372036854775808 ≤ v) (h2 : v < 9223372036854775808) : (Lib.itoa v).length ≤ 20 := by
  have k := nDigits_le 18
  unfold Lib.itoa
  split
  · rw [List.length_cons, Lib.decDigits_length]
    have := k v.natAbs (by omega)
    omega
  · rw [Lib.decDigits_length]
    have := k v.toNat (by omega)
    omega
theorem refNum_iff (l : List UInt8) (v : Int) : refNum l = some v ↔ (-9223372036854775808 ≤ v ∧ v < 9223372036854775808) ∧ l = Lib.itoa v := by
  constructor
  · intro h
    unfold refNum at h
    split at h
    · cases h
    rename_i hc
    simp only [not_or, not_and, Nat.not_lt] at hc
    obtain ⟨c1, c2, c3⟩ := hc
    split at h
    · cases h
    rename_i n hn
    have hd : Lib.decDigits n = digitsOf l ∧ (1 ≤ n ∨ digitsOf l = [48]) := by
      generalize hdl : digitsOf l = ds at *
      cases ds with
      | nil => exact absurd rfl c1
      | cons c t =>
        simp only [refLoop] at hn
        split at hn
        case isFalse => cases hn
        rename_i hc
        have hb := dig_of hc.1
        by_cases h0 : c.toNat = 48
        · have hz : zeroHead (c :: t) = true := by simp [zeroHead, h0]
          obtain ⟨a1, a2⟩ := c3 hz
          have hc48 : c = 48 := by rw [← UInt8.toNat_inj]; exact h0
          subst hc48
          cases t with
          | nil =>
            simp [refLoop] at hn
            subst hn
            exact ⟨by decide +kernel, Or.inr rfl⟩
          | cons d t =>
            exfalso
            have : l.length ≤ 1 := a2
            by_cases hg : isNeg l = true
            · exact a1 hg
            · have : digitsOf l = l := by simp [digitsOf, hg]
              rw [hdl] at this
              rw [← this] at a2
              simp at a2
        · have hn' : 1 ≤ 10 * 0 + (c.toNat - 48) := by omega
          have := refLoop_dec t _ n hn' hn
          rw [show 10 * 0 + (c.toNat - 48) = c.toNat - 48 by omega, dec_one c hc.1] at this
          refine ⟨this, Or.inl ?_⟩
          rcases Nat.eq_zero_or_pos n with h | h
          · subst h
            have h0' : Lib.decDigits 0 = [48] := by decide +kernel
            rw [h0'] at this
            simp at this
            exact absurd (by rw [← this.1]; rfl) h0
          · exact h
    by_cases hg : isNeg l = true
    · rw [if_pos hg] at h
      split at h
      · injection h with h
        have hl : l = 45 :: digitsOf l := by
          cases l with
          | nil => simp [isNeg] at hg
          | cons c t =>
            simp [isNeg] at hg
            have : c = 45 := by rw [← UInt8.toNat_inj]; exact hg
            subst this
            rfl
        have hn1 : 1 ≤ n := by
          rcases hd.2 with h | h
          · exact h
          · exact absurd hg (c3 (by rw [h]; rfl)).1
        refine ⟨by omega, ?_⟩
        rw [hl, ← hd.1, ← h]
        unfold Lib.itoa
        rw [if_pos (by omega)]
        simp
      · cases h
    · rw [if_neg hg] at h
      split at h
      · injection h with h
        have hl : digitsOf l = l := by simp [digitsOf, hg]
        refine ⟨by omega, ?_⟩
        rw [← hl, ← hd.1, ← h]
        unfold Lib.itoa
        rw [if_neg (by omega)]
        simp
      · cases h
  · rintro ⟨⟨h1, h2⟩, rfl⟩
    have hlen := itoa_len v h1 h2
    unfold refNum
    by_cases hv : v < 0
    · have e : Lib.itoa v = 45 :: Lib.decDigits v.natAbs := by simp [Lib.itoa, hv]
      rw [e] at hlen ⊢
      have en : isNeg (45 :: Lib.decDigits v.natAbs) = true := rfl
      have ed : digitsOf (45 :: Lib.decDigits v.natAbs) = Lib.decDigits v.natAbs := rfl
      rw [en, ed, zeroHead_dec _ (by omega), refLoop_of_dec _ (by omega), if_neg (by simp [dec_ne] at hlen ⊢; omega)]
      simp only [if_true]
      rw [if_pos (by omega)]
      congr 1; omega
    · have e : Lib.itoa v = Lib.decDigits v.toNat := by simp [Lib.itoa, hv]
      rw [e] at hlen ⊢
      have hds := isDig_dec v.toNat
      have hne := dec_ne v.toNat
      have en : isNeg (Lib.decDigits v.toNat) = false := by
        generalize Lib.decDigits v.toNat = l at *
        cases l with
        | nil => rfl
        | cons c t =>
          have := dig_of (hds c (by simp))
          simp [isNeg]; omega
      have ed : digitsOf (Lib.decDigits v.toNat) = Lib.decDigits v.toNat := by simp [digitsOf, en]
      have ez : ¬ (zeroHead (Lib.decDigits v.toNat) = true ∧ 1 < (Lib.decDigits v.toNat).length) := by
        rcases Nat.eq_zero_or_pos v.toNat with h | h
        · rw [h]; intro hx
          have := hx.2
          rw [show Lib.decDigits 0 = [48] by decide +kernel] at this
          simp at this
        · rw [zeroHead_dec _ h]; simp
      rw [en, ed, refLoop_of_dec _ (by omega), if_neg (by
        simp only [not_or]
        exact ⟨hne, by omega, by simpa using ez⟩)]
      simp only [Bool.false_eq_true, if_false]
      rw [if_pos (by omega)]
      congr 1; omega
/-- The two readings agree. -/
theorem refNum_eq (l : List UInt8) : refNum l = numOf l := by
  apply Option.ext
  intro v
  rw [refNum_iff, numOf_iff]
end Go.Proofs.YtfldflemdhkgoaaGreatDoor.LX
