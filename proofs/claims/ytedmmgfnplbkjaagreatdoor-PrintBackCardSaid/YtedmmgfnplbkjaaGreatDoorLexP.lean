/-
  Plain: the words of a text ('lex'), how a word is told and read again ('word_told', 'lex_join'), texts with a line's end between them ('lex_joins'), numbers ('numOf', 'refNum'). No program is imported.
  Conditions: none.
-/
import Derived.Lib.ParseIntBTie
import Derived.Lib.ItoaNum
namespace Go.Proofs.YtedmmgfnplbkjaaGreatDoor.LX
def isDig (c : UInt8) : Bool := 48 ≤ c.toNat && c.toNat ≤ 57
def isLet (c : UInt8) : Bool := (97 ≤ c.toNat && c.toNat ≤ 122) || (65 ≤ c.toNat && c.toNat ≤ 90)
def isSign (c : UInt8) : Bool := c.toNat == 95 || c.toNat == 58 || c.toNat == 46 || c.toNat == 35 || c.toNat == 33 || c.toNat == 63
def isNB (c : UInt8) : Bool := isDig c || isLet c || c.toNat == 45 || isSign c
def kindN (c : UInt8) : Nat :=
  if isLet c then 8 else if isDig c then 6 else if c.toNat = 32 ∨ c.toNat = 9 ∨ c.toNat = 10 then 1 else if c.toNat = 59 then 2
  else if c.toNat = 40 then 3 else if c.toNat = 41 then 4 else if c.toNat = 34 then 5 else if c.toNat = 45 then 7 else if isSign c then 8 else 0
def isBlank (c : UInt8) : Bool := c.toNat == 32 || c.toNat == 9 || c.toNat == 10
def idleN : Bool → List UInt8 → Nat
  | _, [] => 0
  | true, c :: t => idleN (c.toNat != 10) t + 1
  | false, c :: t => if c.toNat = 59 then idleN true t + 1 else if isBlank c then idleN false t + 1 else 0
def cnt (l : List UInt8) : Nat := l.countP fun c => c.toNat == 10
def stands (c : UInt8) : Option UInt8 := if c.toNat = 34 ∨ c.toNat = 92 then some c else if c.toNat = 110 then some 10 else none
def txt : Bool → List UInt8 → Nat × List UInt8
  | _, [] => (0, [])
  | true, c :: t => match stands c with
    | some d => ((txt false t).1 + 1, d :: (txt false t).2)
    | none => (0, [])
  | false, c :: t => if c.toNat = 92 then ((txt true t).1 + 1, (txt true t).2) else if c.toNat = 34 ∨ c.toNat = 10 then (0, []) else ((txt false t).1 + 1, c :: (txt false t).2)
structure LW where
  k : Nat
  s : List UInt8
  n : Int
  line : Nat
  deriving DecidableEq
def numOf (l : List UInt8) : Option Int := match Lib.parseIntB 64 l with
  | .ok v => if Lib.itoa v = l then some v else none
  | _ => none
def begNum : List UInt8 → Bool
  | [] => false
  | c :: t => isDig c || (c.toNat == 45 && (t.head?.map isDig).getD false)
def word : List UInt8 → Option (LW × Nat)
  | [] => none
  | c :: t =>
    if c.toNat = 40 then some (⟨4, [], 0, 0⟩, 1)
    else if c.toNat = 41 then some (⟨5, [], 0, 0⟩, 1)
    else if c.toNat = 34 then
      if (t.drop (txt false t).1).head? = some 34 ∧ (txt false t).2.length ≤ 4096 then some (⟨3, (txt false t).2, 0, 0⟩, (txt false t).1 + 2) else none
    else if isNB c then
      if begNum ((c :: t).takeWhile isNB) then
        match numOf ((c :: t).takeWhile isNB) with
        | some v => some (⟨2, [], v, 0⟩, ((c :: t).takeWhile isNB).length)
        | none => none
      else if ((c :: t).takeWhile isNB).length ≤ 4096 then some (⟨1, (c :: t).takeWhile isNB, 0, 0⟩, ((c :: t).takeWhile isNB).length) else none
    else none
inductive Res
  | err (line : Nat)
  | ok (ws : List LW)
def Res.cons (w : LW) : Res → Res
  | .err n => .err n
  | .ok ws => .ok (w :: ws)
def Res.app (l : List LW) : Res → Res
  | .err n => .err n
  | .ok ws => .ok (l ++ ws)
def lexN : Nat → Nat → List UInt8 → Res
  | 0, _, _ => .ok []
  | _ + 1, _, [] => .ok []
  | f + 1, line, c :: t =>
    if c.toNat = 10 then lexN f (line + 1) t
    else if c.toNat = 32 ∨ c.toNat = 9 then lexN f line t
    else if c.toNat = 59 then lexN f line (t.dropWhile fun b => b.toNat != 10)
    else match word (c :: t) with
      | none => .err line
      | some (w, m) => (lexN f line ((c :: t).drop m)).cons { w with line := line }
def lex (line : Nat) (l : List UInt8) : Res := lexN l.length line l
theorem word_pos {l : List UInt8} {w : LW} {m : Nat} (h : word l = some (w, m)) : 1 ≤ m := by
  cases l with
  | nil => simp [word] at h
  | cons c t =>
    simp only [word] at h
    split at h
    · simp at h; omega
    split at h
    · simp at h; omega
    split at h
    · split at h
      · simp at h; omega
      · simp at h
    split at h
    case isFalse => simp at h
    rename_i hn
    have hl : 1 ≤ ((c :: t).takeWhile isNB).length := by simp [hn]
    generalize (c :: t).takeWhile isNB = x at h hl
    split at h
    · split at h
      · simp at h; omega
      · simp at h
    split at h
    · simp at h; omega
    · simp at h
theorem dropWhile_le (p : UInt8 → Bool) (l : List UInt8) : (l.dropWhile p).length ≤ l.length := by
  induction l with
  | nil => simp
  | cons a t ih => rw [List.dropWhile_cons]; split <;> simp; omega
theorem lex_fuel : ∀ (f line : Nat) (l : List UInt8), l.length ≤ f → lexN f line l = lex line l := by
  have key : ∀ (f g line : Nat) (l : List UInt8), l.length ≤ f → l.length ≤ g → lexN f line l = lexN g line l := by
    intro f
    induction f with
    | zero =>
      intro g line l h1 h2
      cases l with
      | nil => cases g <;> rfl
      | cons c t => simp at h1
    | succ f ih =>
      intro g line l h1 h2
      cases l with
      | nil => cases g <;> rfl
      | cons c t =>
        cases g with
        | zero => simp at h2
        | succ g =>
          simp only [List.length_cons] at h1 h2
          simp only [lexN]
          split
          · exact ih _ _ _ (by omega) (by omega)
          split
          · exact ih _ _ _ (by omega) (by omega)
          split
          · have := dropWhile_le (fun b => b.toNat != 10) t
            exact ih _ _ _ (by omega) (by omega)
          split
          · rfl
          · rename_i w m hw
            have := word_pos hw
            rw [ih g line ((c :: t).drop m) (by simp; omega) (by simp; omega)]
  exact fun f line l h => key f l.length line l h (Nat.le_refl _)
theorem lex_nil (line : Nat) : lex line [] = .ok [] := rfl
theorem lex_nl (line : Nat) (c : UInt8) (t : List UInt8) (h : c.toNat = 10) : lex line (c :: t) = lex (line + 1) t := by
  show lexN (t.length + 1) line (c :: t) = _
  simp only [lexN, h, if_true]
  rfl
theorem lex_blank (line : Nat) (c : UInt8) (t : List UInt8) (h : c.toNat = 32 ∨ c.toNat = 9) : lex line (c :: t) = lex line t := by
  show lexN (t.length + 1) line (c :: t) = _
  have h1 : ¬ c.toNat = 10 := by omega
  simp only [lexN, h1, if_false, h, if_true]
  rfl
theorem lex_rem (line : Nat) (c : UInt8) (t : List UInt8) (h : c.toNat = 59) : lex line (c :: t) = lex line (t.dropWhile fun b => b.toNat != 10) := by
  show lexN (t.length + 1) line (c :: t) = _
  have h1 : ¬ c.toNat = 10 := by omega
  have h2 : ¬ (c.toNat = 32 ∨ c.toNat = 9) := by omega
  simp only [lexN, h, if_true]
  exact lex_fuel _ _ _ (dropWhile_le _ _)
def nonIdle (c : UInt8) : Prop := ¬ c.toNat = 10 ∧ ¬ (c.toNat = 32 ∨ c.toNat = 9) ∧ ¬ c.toNat = 59
theorem lex_err (line : Nat) (c : UInt8) (t : List UInt8) (h : nonIdle c) (hw : word (c :: t) = none) : lex line (c :: t) = .err line := by
  show lexN (t.length + 1) line (c :: t) = _
  obtain ⟨h1, h2, h3⟩ := h
  simp only [lexN, h1, if_false, h2, h3, hw]
theorem lex_word (line : Nat) (c : UInt8) (t : List UInt8) (w : LW) (m : Nat) (h : nonIdle c) (hw : word (c :: t) = some (w, m)) : lex line (c :: t) = (lex line ((c :: t).drop m)).cons { w with line := line } := by
  show lexN (t.length + 1) line (c :: t) = _
  obtain ⟨h1, h2, h3⟩ := h
  simp only [lexN, h1, if_false, h2, h3, hw]
  have := word_pos hw
  rw [lex_fuel _ _ _ (by simp; omega)]
theorem lex_cases {C : List UInt8 → Prop} (hnil : C []) (hnl : ∀ c t, c.toNat = 10 → C t → C (c :: t)) (hbl : ∀ c t, (c.toNat = 32 ∨ c.toNat = 9) → C t → C (c :: t))
    (hrem : ∀ c t, c.toNat = 59 → C (t.dropWhile fun b => b.toNat != 10) → C (c :: t)) (herr : ∀ c t, nonIdle c → word (c :: t) = none → C (c :: t))
    (hword : ∀ c t w m, nonIdle c → word (c :: t) = some (w, m) → C ((c :: t).drop m) → C (c :: t)) : ∀ l, C l := by
  have key : ∀ n l, l.length ≤ n → C l := by
    intro n
    induction n with
    | zero => intro l h; cases l with | nil => exact hnil | cons => simp at h
    | succ n ih =>
      intro l h
      cases l with
      | nil => exact hnil
      | cons c t =>
        simp only [List.length_cons] at h
        by_cases h1 : c.toNat = 10
        · exact hnl c t h1 (ih t (by omega))
        by_cases h2 : c.toNat = 32 ∨ c.toNat = 9
        · exact hbl c t h2 (ih t (by omega))
        by_cases h3 : c.toNat = 59
        · exact hrem c t h3 (ih _ (by have := dropWhile_le (fun b => b.toNat != 10) t; omega))
        cases hw : word (c :: t) with
        | none => exact herr c t ⟨h1, h2, h3⟩ hw
        | some x =>
          obtain ⟨w, m⟩ := x
          have := word_pos hw
          exact hword c t w m ⟨h1, h2, h3⟩ hw (ih _ (by simp; omega))
  exact fun l => key l.length l (Nat.le_refl _)
theorem cnt_cons (c : UInt8) (t : List UInt8) : cnt (c :: t) = cnt t + if c.toNat = 10 then 1 else 0 := by
  simp [cnt, List.countP_cons]
theorem cnt_append (a b : List UInt8) : cnt (a ++ b) = cnt a + cnt b := by simp [cnt]
theorem cnt_nil : cnt [] = 0 := rfl
theorem idleN_le (b : Bool) (l : List UInt8) : idleN b l ≤ l.length := by
  induction l generalizing b with
  | nil => cases b <;> simp [idleN]
  | cons c t ih =>
    cases b
    · simp only [idleN, List.length_cons]
      split
      · have := ih true; omega
      split
      · have := ih false; omega
      · omega
    · simp only [idleN, List.length_cons]
      have := ih (c.toNat != 10); omega
theorem idle_lex (line : Nat) (l : List UInt8) : lex (line + cnt (l.take (idleN false l))) (l.drop (idleN false l)) = lex line l ∧ lex (line + cnt (l.take (idleN true l))) (l.drop (idleN true l)) = lex line (l.dropWhile fun b => b.toNat != 10) := by
  induction l generalizing line with
  | nil => exact ⟨rfl, rfl⟩
  | cons c t ih =>
    refine ⟨?_, ?_⟩
    · simp only [idleN]
      split
      · rename_i h
        rw [List.take_succ_cons, List.drop_succ_cons, cnt_cons, if_neg (by omega), Nat.add_zero, (ih line).2, lex_rem _ _ _ h]
      split
      · rename_i h1 h
        rw [List.take_succ_cons, List.drop_succ_cons, cnt_cons]
        simp only [isBlank, Bool.or_eq_true, beq_iff_eq] at h
        by_cases h2 : c.toNat = 10
        · rw [if_pos h2, show line + (cnt (t.take (idleN false t)) + 1) = (line + 1) + cnt (t.take (idleN false t)) by omega, (ih (line + 1)).1, lex_nl _ _ _ h2]
        · rw [if_neg h2, Nat.add_zero, (ih line).1, lex_blank _ _ _ (by omega)]
      · rfl
    · simp only [idleN]
      rw [List.take_succ_cons, List.drop_succ_cons, cnt_cons, List.dropWhile_cons]
      by_cases h2 : c.toNat = 10
      · have e : (c.toNat != 10) = false := by simp [h2]
        rw [if_pos h2, e, show line + (cnt (t.take (idleN false t)) + 1) = (line + 1) + cnt (t.take (idleN false t)) by omega, (ih (line + 1)).1, if_neg (by simp), lex_nl _ _ _ h2]
      · have e : (c.toNat != 10) = true := by simp [h2]
        rw [if_neg h2, Nat.add_zero, e, (ih line).2, if_pos rfl]
theorem idle_head (b : Bool) (l : List UInt8) : (l.drop (idleN b l) = []) ∨ ∃ c t, l.drop (idleN b l) = c :: t ∧ nonIdle c := by
  induction l generalizing b with
  | nil => left; cases b <;> rfl
  | cons c t ih =>
    cases b
    · simp only [idleN]
      split
      · rw [List.drop_succ_cons]; exact ih true
      split
      · rw [List.drop_succ_cons]; exact ih false
      · rename_i h1 h2
        right
        simp only [isBlank, Bool.or_eq_true, beq_iff_eq, not_or] at h2
        exact ⟨c, t, rfl, h2.2, by omega, h1⟩
    · simp only [idleN]
      rw [List.drop_succ_cons]; exact ih _
theorem pu_snoc (M : Nat) : ∀ (l : List UInt8) (acc a : Nat) (c : UInt8), Lib.parseUintM M acc l = .ok a → Lib.parseUintM M acc (l ++ [c]) = Lib.parseUintM M a [c]
  | [], acc, a, c, h => by
    simp only [Lib.parseUintM] at h
    injection h with h
    subst h; rfl
  | d :: t, acc, a, c, h => by
    simp only [List.cons_append, Lib.parseUintM] at h ⊢
    split at h
    · rename_i hd
      rw [if_pos hd]
      split at h
      · cases h
      rename_i h1
      rw [if_neg h1]
      split at h
      · cases h
      rename_i h2
      rw [if_neg h2]
      exact pu_snoc M t _ a c h
    · cases h
theorem pu_dec (u : Nat) (hu : u ≤ 18446744073709551615) : Lib.parseUintM 18446744073709551615 0 (Lib.decDigits u) = .ok u := by
  induction u using Nat.strongRecOn with
  | _ u ih =>
    by_cases h : u < 10
    · rw [Lib.decDigits, dif_pos h]
      have e : (UInt8.ofNat (48 + u)).toNat = 48 + u := by simp; omega
      simp only [Lib.parseUintM, e]
      rw [if_pos (by omega), if_neg (by omega), if_neg (by omega)]
      simp
    · rw [Lib.decDigits, dif_neg h, pu_snoc _ _ _ _ _ (ih (u / 10) (by omega) (by omega))]
      have e : (UInt8.ofNat (48 + u % 10)).toNat = 48 + u % 10 := by simp; omega
      simp only [Lib.parseUintM, e]
      rw [if_pos (by omega), if_neg (by omega), if_neg (by omega)]
      congr 1; omega
theorem dec_ne (u : Nat) : Lib.decDigits u ≠ [] := by
  intro h
  have := Lib.decDigits_length u
  rw [h] at this
  have := Lib.nDigits_pos u
  simp at *; omega
theorem isDig_dec : ∀ (u : Nat) (c : UInt8), c ∈ Lib.decDigits u → isDig c = true := by
  intro u
  induction u using Nat.strongRecOn with
  | _ u ih =>
    intro c hc
    by_cases h : u < 10
    · rw [Lib.decDigits, dif_pos h, List.mem_singleton] at hc
      have e : (UInt8.ofNat (48 + u)).toNat = 48 + u := by simp; omega
      simp [isDig, hc]; omega
    · rw [Lib.decDigits, dif_neg h, List.mem_append, List.mem_singleton] at hc
      rcases hc with hc | hc
      · exact ih _ (by omega) c hc
      · simp [isDig, hc]; omega
theorem parse_itoa (v : Int) (h1 : -9223372036854775808 ≤ v) (h2 : v < 9223372036854775808) : Lib.parseIntB 64 (Lib.itoa v) = .ok v := by
  by_cases hv : v < 0
  · have hu := pu_dec v.natAbs (by omega)
    have e : Lib.itoa v = 45 :: Lib.decDigits v.natAbs := by simp [Lib.itoa, hv]
    rw [e]
    have e2 : (45 : UInt8).toNat = 45 := rfl
    have e3 : Lib.parseUintB 64 (Lib.decDigits v.natAbs) = .ok v.natAbs := by
      rw [Lib.parseUintB, if_neg (dec_ne _)]; exact hu
    simp only [Lib.parseIntB, e2, or_true, if_true, e3, not_true, false_and, if_false, true_and]
    rw [if_neg (by omega)]
    congr 1; omega
  · have hu := pu_dec v.toNat (by omega)
    have e : Lib.itoa v = Lib.decDigits v.toNat := by simp [Lib.itoa, hv]
    rw [e]
    have hne := dec_ne v.toNat
    have hd := isDig_dec v.toNat
    generalize Lib.decDigits v.toNat = l at *
    cases l with
    | nil => exact absurd rfl hne
    | cons c t =>
      have hc : 48 ≤ c.toNat := by have := hd c (by simp); simp [isDig] at this; omega
      have e3 : Lib.parseUintB 64 (c :: t) = .ok v.toNat := by
        rw [Lib.parseUintB, if_neg hne]; exact hu
      have n1 : ¬ c.toNat = 43 := by omega
      have n2 : ¬ c.toNat = 45 := by omega
      simp only [Lib.parseIntB, n1, n2, or_self, if_false, e3, not_false_eq_true, true_and, false_and]
      rw [if_neg (by omega)]
      congr 1; omega
theorem numOf_iff (l : List UInt8) (v : Int) : numOf l = some v ↔ (-9223372036854775808 ≤ v ∧ v < 9223372036854775808) ∧ l = Lib.itoa v := by
  constructor
  · intro h
    unfold numOf at h
    split at h
    · rename_i u hu
      split at h
      · injection h with h
        subst h
        rename_i e
        have := Lib.parseIntB_bounds hu
        exact ⟨by omega, e.symm⟩
      · cases h
    · cases h
  · rintro ⟨h, rfl⟩
    unfold numOf
    rw [parse_itoa v h.1 h.2]
    simp
theorem isNB_dig {c : UInt8} (h : isDig c = true) : isNB c = true := by simp [isNB, h]
theorem itoa_nb (v : Int) : ∀ c ∈ Lib.itoa v, isNB c = true := by
  intro c hc
  unfold Lib.itoa at hc
  split at hc
  · rcases List.mem_cons.1 hc with rfl | hc
    · rfl
    · exact isNB_dig (isDig_dec _ c hc)
  · exact isNB_dig (isDig_dec _ c hc)
theorem begNum_itoa (v : Int) : begNum (Lib.itoa v) = true := by
  unfold Lib.itoa
  split
  · have hne := dec_ne v.natAbs
    have hd := isDig_dec v.natAbs
    generalize Lib.decDigits v.natAbs = l at *
    cases l with
    | nil => exact absurd rfl hne
    | cons c t => simp [begNum, hd c (by simp)]
  · have hne := dec_ne v.toNat
    have hd := isDig_dec v.toNat
    generalize Lib.decDigits v.toNat = l at *
    cases l with
    | nil => exact absurd rfl hne
    | cons c t => simp [begNum, hd c (by simp)]
theorem itoa_ne (v : Int) : Lib.itoa v ≠ [] := by
  intro h
  have := begNum_itoa v
  rw [h] at this
  cases this
def esc : List UInt8 → List UInt8
  | [] => []
  | c :: t => if c.toNat = 34 ∨ c.toNat = 92 then 92 :: c :: esc t else if c.toNat = 10 then 92 :: 110 :: esc t else c :: esc t
def quotedL (s : List UInt8) : List UInt8 := 34 :: (esc s ++ [34])
def toldW (w : LW) : List UInt8 := if w.k = 4 then [40] else if w.k = 5 then [41] else if w.k = 2 then Lib.itoa w.n else if w.k = 3 then quotedL w.s else w.s
def OkW (w : LW) : Prop :=
  (w.k = 4 ∧ w.s = [] ∧ w.n = 0) ∨ (w.k = 5 ∧ w.s = [] ∧ w.n = 0) ∨ (w.k = 3 ∧ w.n = 0 ∧ w.s.length ≤ 4096)
  ∨ (w.k = 2 ∧ w.s = [] ∧ -9223372036854775808 ≤ w.n ∧ w.n < 9223372036854775808)
  ∨ (w.k = 1 ∧ w.n = 0 ∧ w.s ≠ [] ∧ w.s.length ≤ 4096 ∧ begNum w.s = false ∧ ∀ c ∈ w.s, isNB c = true)
theorem takeWhile_mem {p : UInt8 → Bool} {l : List UInt8} : ∀ c ∈ l.takeWhile p, p c = true := by
  induction l with
  | nil => simp
  | cons a t ih =>
    intro c hc
    rw [List.takeWhile_cons] at hc
    split at hc
    · rcases List.mem_cons.1 hc with rfl | hc
      · assumption
      · exact ih c hc
    · cases hc
theorem word_ok {l : List UInt8} {w : LW} {m : Nat} (h : word l = some (w, m)) : OkW w ∧ w.line = 0 := by
  cases l with
  | nil => simp [word] at h
  | cons c t =>
    simp only [word] at h
    split at h
    · injection h with h; injection h with h1 h2; subst h1; exact ⟨.inl ⟨rfl, rfl, rfl⟩, rfl⟩
    split at h
    · injection h with h; injection h with h1 h2; subst h1; exact ⟨.inr (.inl ⟨rfl, rfl, rfl⟩), rfl⟩
    split at h
    · split at h
      · rename_i hx
        injection h with h; injection h with h1 h2; subst h1; exact ⟨.inr (.inr (.inl ⟨rfl, rfl, hx.2⟩)), rfl⟩
      · cases h
    split at h
    case isFalse => cases h
    rename_i hn
    have hl : ((c :: t).takeWhile isNB) ≠ [] := by simp [hn]
    have hm := takeWhile_mem (p := isNB) (l := c :: t)
    generalize (c :: t).takeWhile isNB = x at h hl hm
    split at h
    · split at h
      · rename_i v hv
        injection h with h; injection h with h1 h2; subst h1
        have := (numOf_iff _ _).1 hv
        exact ⟨.inr (.inr (.inr (.inl ⟨rfl, rfl, this.1⟩))), rfl⟩
      · cases h
    split at h
    · rename_i hb hx
      injection h with h; injection h with h1 h2; subst h1
      exact ⟨.inr (.inr (.inr (.inr ⟨rfl, rfl, hl, hx, by simpa using hb, hm⟩))), rfl⟩
    · cases h
theorem txt_esc (s : List UInt8) (r : List UInt8) : txt false (esc s ++ 34 :: r) = ((esc s).length, s) := by
  induction s with
  | nil => rfl
  | cons c t ih =>
    by_cases h1 : c.toNat = 34 ∨ c.toNat = 92
    · have e : esc (c :: t) = 92 :: c :: esc t := by simp only [esc, if_pos h1]
      rw [e]
      simp only [List.cons_append, txt, show (92 : UInt8).toNat = 92 from rfl, if_true, stands, h1, ih, List.length_cons]
    by_cases h2 : c.toNat = 10
    · have e : esc (c :: t) = 92 :: 110 :: esc t := by simp only [esc, if_neg h1, if_pos h2]
      have hc : c = 10 := by rw [← UInt8.toNat_inj]; exact h2
      rw [e]
      simp only [List.cons_append, txt, show (92 : UInt8).toNat = 92 from rfl, if_true, stands, ih, List.length_cons, show (110 : UInt8).toNat = 110 from rfl]
      simp [hc]
    · have e : esc (c :: t) = c :: esc t := by simp only [esc, if_neg h1, if_neg h2]
      rw [e]
      have n1 : ¬ c.toNat = 92 := by omega
      have n2 : ¬ (c.toNat = 34 ∨ c.toNat = 10) := by omega
      simp only [List.cons_append, txt, if_neg n1, if_neg n2, ih, List.length_cons]
theorem takeWhile_all {p : UInt8 → Bool} {l r : List UInt8} (h : ∀ c ∈ l, p c = true) (hr : ∀ c t, r = c :: t → p c = false) : (l ++ r).takeWhile p = l := by
  induction l with
  | nil =>
    cases r with
    | nil => rfl
    | cons c t => simp [hr c t rfl]
  | cons a t ih =>
    simp only [List.mem_cons, forall_eq_or_imp] at h
    simp only [List.cons_append, List.takeWhile_cons, h.1, if_true]
    rw [ih h.2]
theorem nb_not {c : UInt8} (h : isNB c = true) : nonIdle c ∧ ¬ c.toNat = 40 ∧ ¬ c.toNat = 41 ∧ ¬ c.toNat = 34 := by
  simp [isNB, isDig, isLet, isSign] at h
  unfold nonIdle
  omega
theorem word_told {w : LW} (hw : OkW w) (r : List UInt8) (hr : ∀ c t, r = c :: t → isNB c = false) : word (toldW w ++ r) = some ({ w with line := 0 }, (toldW w).length) := by
  obtain ⟨k, s, n, line⟩ := w
  rcases hw with ⟨rfl, rfl, rfl⟩ | ⟨rfl, rfl, rfl⟩ | ⟨rfl, rfl, hl⟩ | ⟨rfl, rfl, h1, h2⟩ | ⟨rfl, rfl, hne, hl, hb, hm⟩
  · rfl
  · rfl
  · have e : toldW ⟨3, s, 0, line⟩ = 34 :: (esc s ++ [34]) := rfl
    rw [e]
    simp only [List.cons_append, List.append_assoc, List.nil_append, word, show (34 : UInt8).toNat = 34 from rfl, txt_esc]
    simp only [List.drop_left, List.head?_cons, true_and]
    rw [if_pos hl]
    simp
  · have e : toldW ⟨2, [], n, line⟩ = Lib.itoa n := rfl
    rw [e]
    have hb := begNum_itoa n
    have hn := (numOf_iff (Lib.itoa n) n).2 ⟨⟨h1, h2⟩, rfl⟩
    have hm := itoa_nb n
    have ht := takeWhile_all hm hr
    have hne := itoa_ne n
    generalize Lib.itoa n = x at *
    cases x with
    | nil => exact absurd rfl hne
    | cons c t =>
      have := nb_not (hm c (by simp))
      have hc := hm c (by simp)
      simp only [List.cons_append] at ht
      simp only [List.cons_append, word, this.2.1, this.2.2.1, this.2.2.2, if_false, hc, if_true, ht, hb, hn]
  · have e : toldW ⟨1, s, 0, line⟩ = s := rfl
    rw [e]
    have ht := takeWhile_all hm hr
    cases s with
    | nil => exact absurd rfl hne
    | cons c t =>
      have := nb_not (hm c (by simp))
      have hc := hm c (by simp)
      simp only [List.cons_append] at ht
      simp only [List.cons_append, word, this.2.1, this.2.2.1, this.2.2.2, if_false, hc, if_true, ht, hb, hl]
      simp
instance (c : UInt8) : Decidable (nonIdle c) := by unfold nonIdle; infer_instance
theorem told_ne {w : LW} (hw : OkW w) : ∃ c t, toldW w = c :: t ∧ nonIdle c := by
  obtain ⟨k, s, n, line⟩ := w
  rcases hw with ⟨rfl, rfl, rfl⟩ | ⟨rfl, rfl, rfl⟩ | ⟨rfl, rfl, hl⟩ | ⟨rfl, rfl, h1, h2⟩ | ⟨rfl, rfl, hne, hl, hb, hm⟩
  · exact ⟨40, [], rfl, by decide⟩
  · exact ⟨41, [], rfl, by decide⟩
  · exact ⟨34, esc s ++ [34], rfl, by decide⟩
  · have hm := itoa_nb n
    have hne := itoa_ne n
    show ∃ c t, Lib.itoa n = c :: t ∧ nonIdle c
    generalize Lib.itoa n = x at *
    cases x with
    | nil => exact absurd rfl hne
    | cons c t => exact ⟨c, t, rfl, (nb_not (hm c (by simp))).1⟩
  · show ∃ c t, s = c :: t ∧ nonIdle c
    cases s with
    | nil => exact absurd rfl hne
    | cons c t => exact ⟨c, t, rfl, (nb_not (hm c (by simp))).1⟩
theorem lex_told (line : Nat) {w : LW} (hw : OkW w) (r : List UInt8) (hr : ∀ c t, r = c :: t → isNB c = false) : lex line (toldW w ++ r) = (lex line r).cons { w with line := line } := by
  have h := word_told hw r hr
  obtain ⟨c, t, e, hi⟩ := told_ne hw
  have h2 := h
  rw [e, List.cons_append] at h2
  rw [e, List.cons_append, lex_word _ _ _ _ _ hi h2, ← List.cons_append, ← e, List.drop_left]
theorem lex_sound (line : Nat) (l : List UInt8) (ws : List LW) (h : lex line l = .ok ws) : (∀ w ∈ ws, OkW w ∧ line ≤ w.line) ∧ ws.Pairwise (fun a b => a.line ≤ b.line) ∧ ws.length ≤ l.length := by
  induction l using lex_cases generalizing line ws with
  | hnil => injection h with h; subst h; simp
  | hnl c t hc ih =>
    rw [lex_nl _ _ _ hc] at h
    have := ih _ _ h
    exact ⟨fun w hw => ⟨(this.1 w hw).1, by have := (this.1 w hw).2; omega⟩, this.2.1, by simp; omega⟩
  | hbl c t hc ih =>
    rw [lex_blank _ _ _ hc] at h
    have := ih _ _ h
    exact ⟨this.1, this.2.1, by simp; omega⟩
  | hrem c t hc ih =>
    rw [lex_rem _ _ _ hc] at h
    have := ih _ _ h
    have hd := dropWhile_le (fun b => b.toNat != 10) t
    exact ⟨this.1, this.2.1, by simp; omega⟩
  | herr c t hi hw => rw [lex_err _ _ _ hi hw] at h; cases h
  | hword c t w m hi hw ih =>
    rw [lex_word _ _ _ _ _ hi hw] at h
    cases hr : lex line ((c :: t).drop m) with
    | err n => rw [hr] at h; cases h
    | ok us =>
      rw [hr] at h
      injection h with h
      subst h
      have := ih _ _ hr
      have hp := word_pos hw
      refine ⟨?_, ?_, ?_⟩
      · intro x hx
        rcases List.mem_cons.1 hx with rfl | hx
        · exact ⟨(word_ok hw).1, Nat.le_refl _⟩
        · exact this.1 x hx
      · rw [List.pairwise_cons]
        exact ⟨fun x hx => (this.1 x hx).2, this.2.1⟩
      · have := this.2.2
        simp at this ⊢
        omega
theorem txt_nl (l r : List UInt8) : ∀ b, txt b (l ++ 10 :: r) = txt b l ∧ (txt b l).1 ≤ l.length ∧ cnt (l.take (txt b l).1) = 0 := by
  induction l with
  | nil =>
    intro b
    cases b
    · exact ⟨rfl, Nat.le_refl _, rfl⟩
    · exact ⟨rfl, Nat.le_refl _, rfl⟩
  | cons c t ih =>
    intro b
    cases b
    · simp only [List.cons_append, txt]
      rw [(ih true).1, (ih false).1]
      split
      · rename_i h
        refine ⟨rfl, by have := (ih true).2.1; simp; omega, ?_⟩
        rw [List.take_succ_cons, cnt_cons, (ih true).2.2, if_neg (by omega)]
      split
      · exact ⟨rfl, by simp, rfl⟩
      · rename_i h1 h2
        refine ⟨rfl, by have := (ih false).2.1; simp; omega, ?_⟩
        rw [List.take_succ_cons, cnt_cons, (ih false).2.2, if_neg (by omega)]
    · simp only [List.cons_append, txt]
      rw [(ih false).1]
      split
      · rename_i d hd
        refine ⟨rfl, by have := (ih false).2.1; simp; omega, ?_⟩
        rw [List.take_succ_cons, cnt_cons, (ih false).2.2, if_neg (by
          intro h10
          simp [stands, h10] at hd)]
      · exact ⟨rfl, by simp, rfl⟩
theorem take_takeWhile (p : UInt8 → Bool) (l : List UInt8) : l.take (l.takeWhile p).length = l.takeWhile p := by
  induction l with
  | nil => rfl
  | cons a t ih =>
    rw [List.takeWhile_cons]
    split
    · rw [List.length_cons, List.take_succ_cons, ih]
    · rfl
theorem takeWhile_le (p : UInt8 → Bool) (l : List UInt8) : (l.takeWhile p).length ≤ l.length := by
  induction l with
  | nil => simp
  | cons a t ih => rw [List.takeWhile_cons]; split <;> simp; omega
end Go.Proofs.YtedmmgfnplbkjaaGreatDoor.LX
