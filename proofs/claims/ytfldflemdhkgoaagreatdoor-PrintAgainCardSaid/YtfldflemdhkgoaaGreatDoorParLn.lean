/-
  Plain: words that end early: what begins with them is read the same, till they end ('Cu'). No program is imported.
  Conditions: none.
  Plain: where words are no program ('parse_lines'): each beginning up to the word told can be gone on with, and whatever stands behind that word it is told again. No program is imported.
  Conditions: none.
-/
import Derived.Test.YtfldflemdhkgoaaGreatDoorParA
namespace Go.Proofs.YtfldflemdhkgoaaGreatDoor.G
set_option linter.unusedVariables false
set_option linter.unusedSimpArgs false
open Go.Proofs.YtfldflemdhkgoaaGreatDoor

/-- What is read of the first i words. -/
def cut {α : Type} (i : Nat) : Rs α → Rs α
  | .bad t => .bad (min t (i + 1))
  | .ok x t d => if t ≤ i then .ok x t d else .bad (i + 1)
/-- r of all words, r' of the first i; reading began at s. -/
def Cu {α : Type} (n i s t d : Nat) (r r' : Rs α) : Prop := Adv n t d r ∧ (s ≤ i → r' = cut i r)
theorem cut_past {α : Type} {n i t d : Nat} {r : Rs α} (h : Adv n t d r) (hi : i < t) : cut i r = .bad (i + 1) := by
  cases r with
  | bad u => simp only [cut]; rw [Nat.min_eq_right]; have := h.1; omega
  | ok x u e => simp only [cut]; rw [if_neg]; have := h.1; omega
theorem Cu.bind {α β : Type} {n i s t d : Nat} {r r' : Rs α} {f f' : α → Nat → Nat → Rs β} (h : Cu n i s t d r r') (hf : ∀ x t' d', t ≤ t' → t' ≤ n → Cu n i t' t' d' (f x t' d') (f' x t' d')) : Cu n i s t d (r.bind f) (r'.bind f') := by
  refine ⟨h.1.bind fun x t' d' h1 h2 => (hf x t' d' h1 h2).1, fun hs => ?_⟩
  have hr := h.2 hs
  subst hr
  have ha := h.1
  cases r with
  | bad u => rfl
  | ok x u e =>
    obtain ⟨a, b, -⟩ := ha
    have hg := hf x u e a b
    simp only [cut, Rs.bind_ok]
    by_cases hu : u ≤ i
    · rw [if_pos hu, Rs.bind_ok]; exact hg.2 hu
    · rw [if_neg hu, Rs.bind_bad]; exact (cut_past hg.1 (by omega)).symm
theorem Cu.bind1 {α β : Type} {n i s t d : Nat} {r r' : Rs α} {f f' : α → Nat → Nat → Rs β} (h : Cu n i s (t + 1) d r r') (hf : ∀ x t' d', t + 1 ≤ t' → t' ≤ n → Cu n i t' t' (d' + 1) (f x t' d') (f' x t' d')) : Cu n i s t d (r.bind f) (r'.bind f') := by
  refine ⟨h.1.bind1 fun x t' d' h1 h2 => (hf x t' d' h1 h2).1, fun hs => ?_⟩
  have hr := h.2 hs
  subst hr
  have ha := h.1
  cases r with
  | bad u => rfl
  | ok x u e =>
    obtain ⟨a, b, -⟩ := ha
    have hg := hf x u e a b
    simp only [cut, Rs.bind_ok]
    by_cases hu : u ≤ i
    · rw [if_pos hu, Rs.bind_ok]; exact hg.2 hu
    · rw [if_neg hu, Rs.bind_bad]; exact (cut_past hg.1 (by omega)).symm
theorem Cu.mono {α : Type} {n i s t d t0 d0 : Nat} {r r' : Rs α} (h : Cu n i s t d r r') (ht : t0 ≤ t) (hd : d + t0 ≤ d0 + t) : Cu n i s t0 d0 r r' := ⟨h.1.mono ht hd, h.2⟩
theorem Cu.weak {α : Type} {n i s t d : Nat} {r r' : Rs α} (h : Cu n i s (t + 1) d r r') : Cu n i s t d r r' := h.mono (by omega) (by omega)
theorem cu_bad {α : Type} {n i t d : Nat} (h : t ≤ n + 1) : Cu n i t t d (.bad t : Rs α) (.bad t) := ⟨adv_bad h, fun hs => by simp only [cut]; rw [Nat.min_eq_left (by omega)]⟩
theorem cu_bad1 {α : Type} {n i t d : Nat} (h : t ≤ n) : Cu n i t (t + 1) d (.bad (t + 1) : Rs α) (.bad (t + 1)) := ⟨adv_bad (by omega), fun hs => by simp only [cut]; rw [Nat.min_eq_left (by omega)]⟩
theorem cu_ok {α : Type} {n i t d : Nat} (x : α) (h : t ≤ n) : Cu n i t t d (.ok x t d : Rs α) (.ok x t d) := ⟨adv_ok x h, fun hs => by simp only [cut]; rw [if_pos hs]⟩
theorem cu_ite {α : Type} {n i s t d : Nat} {p : Prop} [Decidable p] {a b a' b' : Rs α} (h1 : Cu n i s t d a a') (h2 : Cu n i s t d b b') : Cu n i s t d (if p then a else b) (if p then a' else b') := by
  split
  · exact h1
  · exact h2

section
variable {ws vs : List LX.LW} {n i : Nat} (hn : ws.length = n) (hv : vs = ws.take i)
include hn hv
theorem cu_lt {t : Nat} (h : t < i) : vs[t]? = ws[t]? := by
  have _h := hn
  rw [hv, List.getElem?_take_of_lt h]
theorem cu_end : vs[i]? = none := by rw [hv]; exact List.getElem?_eq_none (by simp; omega)
/-- The next word, and what it makes. -/
theorem cu_next {α : Type} {f f' : LX.LW → Rs α} {t d : Nat} (ht : t ≤ n) (hf : ∀ w, ws[t]? = some w → t + 1 ≤ n → Cu n i (t + 1) (t + 1) d (f w) (f' w)) :
    Cu n i t (t + 1) d (match ws[t]? with | none => .bad (t + 1) | some w => f w) (match vs[t]? with | none => .bad (t + 1) | some w => f' w) := by
  refine ⟨?_, fun hs => ?_⟩
  · cases h : ws[t]? with
    | none => exact adv_bad (by omega)
    | some w => exact (hf w h (get_lt hn h)).1
  · rcases Nat.lt_or_ge t i with hl | hl
    · rw [cu_lt hn hv hl]
      cases h : ws[t]? with
      | none => simp only [cut]; rw [Nat.min_eq_left (by omega)]
      | some w => exact (hf w h (get_lt hn h)).2 hl
    · obtain rfl : t = i := by omega
      rw [cu_end hn hv]
      cases h : ws[t]? with
      | none => simp only [cut]; rw [Nat.min_eq_left (by omega)]
      | some w => exact (cut_past (hf w h (get_lt hn h)).1 (by omega)).symm
theorem cu_kind (k t d : Nat) (ht : t ≤ n) : Cu n i t (t + 1) d (kindP ws k t d) (kindP vs k t d) :=
  cu_next hn hv ht fun w _ h => cu_ite (cu_ok _ h) (cu_bad (by omega))
theorem cu_name (t d : Nat) (ht : t ≤ n) : Cu n i t (t + 1) d (nameP ws t d) (nameP vs t d) :=
  cu_next hn hv ht fun w _ h => cu_ite (cu_ok _ h) (cu_bad (by omega))
omit hn hv in
/-- A word is looked at. -/
theorem cu_peek {α : Type} {p p' : Bool} {x : α} {r r' : Rs α} {t d : Nat} (hp : t < i → p' = p) (he : t = i → p' = false) (hl : p = true → t < n) (hr : Cu n i t (t + 1) d r r') (h0 : t = i → r' = .bad (i + 1)) :
    Cu n i t (t + 1) d (if p then .ok x (t + 1) d else r) (if p' then .ok x (t + 1) d else r') := by
  refine ⟨?_, fun hs => ?_⟩
  · cases p with
    | false => exact hr.1
    | true => exact adv_ok _ (hl rfl)
  · rcases Nat.lt_or_ge t i with hi | hi
    · rw [hp hi]
      cases p with
      | false => exact hr.2 hs
      | true => show Rs.ok x (t + 1) d = if t + 1 ≤ i then _ else _; rw [if_pos (show t + 1 ≤ i from hi)]
    · obtain rfl : t = i := by omega
      rw [he rfl]
      cases p with
      | false => exact hr.2 hs
      | true => show r' = if t + 1 ≤ t then _ else _; rw [if_neg (show ¬ t + 1 ≤ t by omega)]; exact h0 rfl
theorem cu_isShut {t : Nat} : (t < i → isShut vs t = isShut ws t) ∧ (t = i → isShut vs t = false) := by
  refine ⟨fun h => by simp only [isShut, cu_lt hn hv h], fun h => ?_⟩
  subst h
  simp only [isShut, cu_end hn hv]
theorem cu_isDash {t : Nat} : (t < i → isDash vs t = isDash ws t) ∧ (t = i → isDash vs t = false) := by
  refine ⟨fun h => by simp only [isDash, cu_lt hn hv h], fun h => ?_⟩
  subst h
  simp only [isDash, cu_end hn hv]
theorem cu_all {α : Type} {one two : Nat → Nat → Rs α} (ho : ∀ t d, t ≤ n → Cu n i t (t + 1) d (one t d) (two t d)) (h0 : ∀ d, two i d = .bad (i + 1)) : ∀ (m t d : Nat), t ≤ n → Cu n i t (t + 1) d (allP ws one m t d) (allP vs two m t d)
  | 0, t, d, ht => cu_bad1 ht
  | m + 1, t, d, ht => by
    simp only [allP]
    refine cu_peek (cu_isShut hn hv).1 (cu_isShut hn hv).2 (isShut_lt hn) ?_ ?_
    · exact (ho t d ht).bind fun x t1 d1 _ h1 => (cu_all ho h0 m t1 d1 h1).weak.bind fun l t2 d2 _ h2 => cu_ok _ h2
    · intro h
      subst h
      rw [h0, Rs.bind_bad]
theorem cu_within {α : Type} {one two : Nat → Nat → Rs α} (ho : ∀ t d, t ≤ n → Cu n i t (t + 1) d (one t d) (two t d)) (h0 : ∀ d, two i d = .bad (i + 1)) (t d : Nat) (ht : t ≤ n) : Cu n i t (t + 1) d (withinP ws one t d) (withinP vs two t d) :=
  (cu_kind hn hv 4 t d ht).bind fun _ t1 d1 _ h1 => (cu_all hn hv ho h0 _ t1 d1 h1).weak
omit hn hv in
theorem cu_times {α : Type} {one two : Nat → Nat → Rs α} (ho : ∀ t d, t ≤ n → Cu n i t (t + 1) d (one t d) (two t d)) : ∀ (m t d : Nat), t ≤ n → Cu n i t t d (timesP one m t d) (timesP two m t d)
  | 0, t, d, ht => cu_ok _ ht
  | m + 1, t, d, ht => (ho t d ht).weak.bind fun x t1 d1 _ h1 => (cu_times ho m t1 d1 h1).bind fun l t2 d2 _ h2 => cu_ok _ h2
omit hn hv in
theorem cu_plain (s : Str) (t d : Nat) (ht : t ≤ n) : Cu n i t t d (plainP s t d) (plainP s t d) := by
  unfold plainP
  refine cu_ite (cu_ok _ ht) ?_
  refine cu_ite (cu_ok _ ht) ?_
  refine cu_ite (cu_ok _ ht) ?_
  refine cu_ite (cu_bad (by omega)) ?_
  exact cu_ok _ ht
theorem kind_none (k d : Nat) : kindP vs k i d = .bad (i + 1) := by simp only [kindP, cu_end hn hv]
theorem pair_none {ey : Nat → Nat → Rs (List T)} (d : Nat) : pairP vs ey i d = .bad (i + 1) := by unfold pairP; rw [show openP vs i d = _ from kind_none hn hv 4 d, Rs.bind_bad]
theorem act_none {ey : Nat → Nat → Rs (List T)} (d : Nat) : actP vs ey i d = .bad (i + 1) := by unfold actP; rw [show openP vs i d = _ from kind_none hn hv 4 d, Rs.bind_bad]
theorem expr_none (c : Str) (f d : Nat) : exprP vs c f i d = .bad (i + 1) := by cases f <;> simp only [exprP, cu_end hn hv]
theorem stmt_none {ey : Nat → Nat → Rs (List T)} (f d : Nat) : stmtP vs ey f i d = .bad (i + 1) := by
  cases f with
  | zero => rfl
  | succ f => unfold stmtP; rw [show openP vs i d = _ from kind_none hn hv 4 d, Rs.bind_bad]
section
variable {ex ey : Nat → Nat → Rs (List T)} (he : ∀ t d, t ≤ n → Cu n i t (t + 1) d (ex t d) (ey t d)) (h0 : ∀ d, ey i d = .bad (i + 1))
include he h0
omit h0 in
theorem cu_pair (t d : Nat) (ht : t ≤ n) : Cu n i t (t + 1) d (pairP ws ex t d) (pairP vs ey t d) :=
  (cu_kind hn hv 4 t d ht).bind fun _ t1 d1 _ h1 => (cu_name hn hv t1 d1 h1).weak.bind fun _ t2 d2 _ h2 => (he t2 d2 h2).weak.bind fun _ t3 d3 _ h3 => (cu_kind hn hv 5 t3 d3 h3).weak.bind fun _ t4 d4 _ h4 => cu_ok _ h4
omit h0 in
theorem cu_act (t d : Nat) (ht : t ≤ n) : Cu n i t (t + 1) d (actP ws ex t d) (actP vs ey t d) :=
  (cu_kind hn hv 4 t d ht).bind fun _ t1 d1 _ h1 => (cu_name hn hv t1 d1 h1).weak.bind fun s t2 d2 _ h2 => by
    have tail : ∀ (f : List T → List T) t d, t ≤ n → Cu n i t t d ((ex t d).bind fun e t d => (shutP ws t d).bind fun _ t d => .ok (f e) t d) ((ey t d).bind fun e t d => (shutP vs t d).bind fun _ t d => .ok (f e) t d) := fun f t d ht =>
      (he t d ht).weak.bind fun _ t3 d3 _ h3 => (cu_kind hn hv 5 t3 d3 h3).weak.bind fun _ t4 d4 _ h4 => cu_ok _ h4
    refine cu_ite ((cu_name hn hv t2 d2 h2).weak.bind fun _ t3 d3 _ h3 => tail _ t3 d3 h3) ?_
    refine cu_ite (tail _ t2 d2 h2) ?_
    refine cu_ite (tail _ t2 d2 h2) ?_
    refine cu_ite ((cu_kind hn hv 5 t2 d2 h2).weak.bind fun _ t3 d3 _ h3 => cu_ok _ h3) ?_
    exact cu_bad (by omega)
theorem cu_key (t d : Nat) (ht : t ≤ n) : Cu n i t (t + 1) d (keyP ws ex t d) (keyP vs ey t d) := by
  unfold keyP
  refine cu_peek (cu_isDash hn hv).1 (cu_isDash hn hv).2 (isDash_lt hn) ?_ ?_
  · exact (he t d ht).bind fun _ t1 d1 _ h1 => cu_ok _ h1
  · intro h
    subst h
    rw [h0, Rs.bind_bad]
omit hn hv h0 in
theorem cu_pairsOf : ∀ (l : List Str) (t d : Nat), t ≤ n → Cu n i t t d (pairsOfP ex l t d) (pairsOfP ey l t d)
  | [], t, d, ht => cu_ok _ ht
  | s :: r, t, d, ht => (he t d ht).weak.bind fun _ t1 d1 _ h1 => (cu_pairsOf r t1 d1 h1).bind fun _ t2 d2 _ h2 => cu_ok _ h2
theorem cu_elem (k : Int) (t d : Nat) (ht : t ≤ n) : Cu n i t t d (elemP ws ex k t d) (elemP vs ey k t d) :=
  (cu_key hn hv he h0 t d ht).weak.bind fun key t1 d1 _ h1 => by
    have tail : ∀ (f : List (List T) → List T) t d, t ≤ n → Cu n i t t d ((allP ws ex FU t d).bind fun e t d => .ok (f e) t d) ((allP vs ey FU t d).bind fun e t d => .ok (f e) t d) := fun f t d ht =>
      (cu_all hn hv he h0 _ t d ht).weak.bind fun _ t3 d3 _ h3 => cu_ok _ h3
    refine cu_ite ((cu_name hn hv t1 d1 h1).weak.bind fun _ t2 d2 _ h2 => (cu_within hn hv (cu_pair hn hv he) (pair_none hn hv) t2 d2 h2).weak.bind fun _ t3 d3 _ h3 => tail _ t3 d3 h3) ?_
    refine cu_ite ((cu_name hn hv t1 d1 h1).weak.bind fun _ t2 d2 _ h2 => tail _ t2 d2 h2) ?_
    refine cu_ite ((cu_name hn hv t1 d1 h1).weak.bind fun _ t2 d2 _ h2 => (cu_pairsOf he _ t2 d2 h2).bind fun _ t3 d3 _ h3 => tail _ t3 d3 h3) ?_
    refine cu_ite ((cu_pairsOf he _ t1 d1 h1).bind fun _ t3 d3 _ h3 => tail _ t3 d3 h3) ?_
    refine cu_ite ((cu_pairsOf he _ t1 d1 h1).bind fun _ t3 d3 _ h3 => tail _ t3 d3 h3) ?_
    exact tail _ t1 d1 h1
theorem cu_compound (c s : Str) (t d : Nat) (ht : t ≤ n) : Cu n i t t (d + 1) (compoundP ws c ex s t d) (compoundP vs c ey s t d) := by
  have up : ∀ {r r' : Rs (List T)}, Cu n i t t d r r' → Cu n i t t (d + 1) r r' := fun h => h.mono (Nat.le_refl _) (by omega)
  have times : ∀ (f : List (List T) → List T) m t d, t ≤ n → Cu n i t t d ((timesP ex m t d).bind fun l t d => (shutP ws t d).bind fun _ t d => .ok (f l) t d) ((timesP ey m t d).bind fun l t d => (shutP vs t d).bind fun _ t d => .ok (f l) t d) := fun f m t d ht =>
    (cu_times he m t d ht).bind fun _ t3 d3 _ h3 => (cu_kind hn hv 5 t3 d3 h3).weak.bind fun _ t4 d4 _ h4 => cu_ok _ h4
  unfold compoundP
  refine cu_ite (up (times _ _ t d ht)) ?_
  refine cu_ite (up ((cu_name hn hv t d ht).weak.bind fun _ t2 d2 _ h2 => times _ _ t2 d2 h2)) ?_
  refine cu_ite (up (times _ _ t d ht)) ?_
  refine cu_ite (up (times _ _ t d ht)) ?_
  refine cu_ite (up ((cu_all hn hv (cu_pair hn hv he) (pair_none hn hv) _ t d ht).weak.bind fun _ t3 d3 _ h3 => cu_ok _ h3)) ?_
  refine cu_ite ((cu_all hn hv (cu_act hn hv he) (act_none hn hv) _ t (d + 1) ht).weak.bind fun _ t3 d3 _ h3 => cu_ok _ h3) ?_
  iterate 8 refine cu_ite (up (cu_elem hn hv he h0 _ t d ht)) ?_
  exact up ((cu_all hn hv he h0 _ t d ht).weak.bind fun _ t3 d3 _ h3 => cu_ok _ h3)
theorem cu_exprOf (c : Str) (w : LX.LW) (t d : Nat) (ht : t ≤ n) : Cu n i t t d (exprOfP ws c ex w t d) (exprOfP vs c ey w t d) := by
  unfold exprOfP
  refine cu_ite (cu_ok _ ht) ?_
  refine cu_ite (cu_ok _ ht) ?_
  refine cu_ite (cu_plain _ t d ht) ?_
  refine cu_ite ((cu_name hn hv t d ht).bind1 fun s t1 d1 _ h1 => cu_compound hn hv he h0 c s t1 d1 h1) ?_
  exact cu_bad (by omega)
end
theorem cu_expr (c : Str) : ∀ (f t d : Nat), t ≤ n → Cu n i t (t + 1) d (exprP ws c f t d) (exprP vs c f t d)
  | 0, t, d, ht => cu_bad1 ht
  | f + 1, t, d, ht => by
    simp only [exprP]
    exact cu_next hn hv ht fun w _ h => cu_exprOf hn hv (cu_expr c f) (expr_none hn hv c f) c w (t + 1) d h
section
variable {ex st ey su : Nat → Nat → Rs (List T)} (he : ∀ t d, t ≤ n → Cu n i t (t + 1) d (ex t d) (ey t d)) (h0 : ∀ d, ey i d = .bad (i + 1)) (hs : ∀ t d, t ≤ n → Cu n i t (t + 1) d (st t d) (su t d)) (h0s : ∀ d, su i d = .bad (i + 1))
include he h0
theorem cu_runs (k : Int) (t d : Nat) (ht : t ≤ n) : Cu n i t t d (runsP ws ex k t d) (runsP vs ey k t d) :=
  (cu_within hn hv he h0 t d ht).weak.bind fun _ t1 d1 _ h1 => (cu_within hn hv (cu_act hn hv he) (act_none hn hv) t1 d1 h1).weak.bind fun _ t2 d2 _ h2 =>
    (cu_within hn hv (cu_act hn hv he) (act_none hn hv) t2 d2 h2).weak.bind fun _ t3 d3 _ h3 => (cu_kind hn hv 5 t3 d3 h3).weak.bind fun _ t4 d4 _ h4 => cu_ok _ h4
include hs h0s
theorem cu_stmtOf (s : Str) (t d : Nat) (ht : t ≤ n) : Cu n i t t d (stmtOfP ws ex st s t d) (stmtOfP vs ey su s t d) := by
  unfold stmtOfP
  have tail : ∀ (f : List T → List T) t d, t ≤ n → Cu n i t t d ((ex t d).bind fun e t d => (shutP ws t d).bind fun _ t d => .ok (f e) t d) ((ey t d).bind fun e t d => (shutP vs t d).bind fun _ t d => .ok (f e) t d) := fun f t d ht =>
    (he t d ht).weak.bind fun _ t3 d3 _ h3 => (cu_kind hn hv 5 t3 d3 h3).weak.bind fun _ t4 d4 _ h4 => cu_ok _ h4
  refine cu_ite ((cu_name hn hv t d ht).weak.bind fun _ t2 d2 _ h2 => tail _ t2 d2 h2) ?_
  refine cu_ite ((cu_name hn hv t d ht).weak.bind fun _ t2 d2 _ h2 => tail _ t2 d2 h2) ?_
  refine cu_ite ((cu_name hn hv t d ht).weak.bind fun _ t1 d1 _ h1 => (cu_within hn hv he h0 t1 d1 h1).weak.bind fun _ t2 d2 _ h2 => tail _ t2 d2 h2) ?_
  refine cu_ite ((cu_name hn hv t d ht).weak.bind fun _ t1 d1 _ h1 => (cu_name hn hv t1 d1 h1).weak.bind fun _ t2 d2 _ h2 => (cu_kind hn hv 5 t2 d2 h2).weak.bind fun _ t4 d4 _ h4 => cu_ok _ h4) ?_
  refine cu_ite (cu_runs hn hv he h0 _ t d ht) ?_
  refine cu_ite (cu_runs hn hv he h0 _ t d ht) ?_
  refine cu_ite ((he t d ht).weak.bind fun _ t1 d1 _ h1 => (cu_all hn hv hs h0s _ t1 d1 h1).weak.bind fun _ t4 d4 _ h4 => cu_ok _ h4) ?_
  exact cu_bad (by omega)
end
section
variable {ex ey : Nat → Nat → Rs (List T)} (he : ∀ t d, t ≤ n → Cu n i t (t + 1) d (ex t d) (ey t d)) (h0 : ∀ d, ey i d = .bad (i + 1))
include he h0
theorem cu_stmt : ∀ (f t d : Nat), t ≤ n → Cu n i t (t + 1) d (stmtP ws ex f t d) (stmtP vs ey f t d)
  | 0, t, d, ht => cu_bad1 ht
  | f + 1, t, d, ht => (cu_kind hn hv 4 t d ht).bind fun _ t1 d1 _ h1 => (cu_name hn hv t1 d1 h1).weak.bind fun s t2 d2 _ h2 => cu_stmtOf hn hv he h0 (cu_stmt f) (stmt_none hn hv f) s t2 d2 h2
theorem cu_body : ∀ (m : Nat) (s : Str) (t d : Nat), t ≤ n → Cu n i t t d (bodyP ws ex m s t d) (bodyP vs ey m s t d)
  | 0, s, t, d, ht => (cu_bad1 ht : Cu n i t (t + 1) d _ _).weak
  | m + 1, s, t, d, ht => by
    simp only [bodyP]
    refine cu_ite ((he t d ht).weak.bind fun _ t1 d1 _ h1 => (cu_kind hn hv 5 t1 d1 h1).weak.bind fun _ t2 d2 _ h2 => (cu_kind hn hv 5 t2 d2 h2).weak.bind fun _ t3 d3 _ h3 => cu_ok _ h3) ?_
    exact (cu_stmtOf hn hv he h0 (cu_stmt hn hv he h0 _) (stmt_none hn hv _) s t d ht).bind fun _ t1 d1 _ h1 => (cu_kind hn hv 4 t1 d1 h1).weak.bind fun _ t2 d2 _ h2 => (cu_name hn hv t2 d2 h2).weak.bind fun s t3 d3 _ h3 =>
      (cu_body m s t3 d3 h3).bind fun _ t4 d4 _ h4 => cu_ok _ h4
end
end
end Go.Proofs.YtfldflemdhkgoaaGreatDoor.G
namespace Go.Proofs.YtfldflemdhkgoaaGreatDoor.G
set_option linter.unusedVariables false
set_option linter.unusedSimpArgs false
open Go.Proofs.YtfldflemdhkgoaaGreatDoor

section
variable {ws vs : List LX.LW} {n i : Nat} (hn : ws.length = n) (hv : vs = ws.take i)
include hn
theorem adv_component (t d : Nat) (ht : t ≤ n) : Adv n (t + 1) d (componentP ws t d) :=
  (adv_kind hn 4 t d ht).bind fun _ t1 d1 _ h1 => (adv_name hn t1 d1 h1).weak.bind fun s t2 d2 _ h2 =>
    adv_ite ((adv_name hn t2 d2 h2).weak.bind fun name t3 d3 _ h3 => (adv_name hn t3 d3 h3).weak.bind fun param t4 d4 _ h4 =>
      ((adv_kind hn 4 t4 0 h4).weak.bind fun _ t5 d5 _ h5 => (adv_name hn t5 d5 h5).weak.bind fun s t6 d6 _ h6 =>
        (adv_body hn (adv_expr hn name FU) FU s t6 d6 h6).bind fun p t7 d7 _ h7 => adv_ok _ h7).mono (Nat.le_refl _) (by omega)) (adv_bad (by omega))
theorem adv_program : ∀ (m t d : Nat), t ≤ n → Adv n t d (programP ws m t d)
  | 0, t, d, ht => (adv_bad (by omega) : Adv n (t + 1) d _).weak
  | m + 1, t, d, ht => by
    simp only [programP]
    exact adv_ite ((adv_component hn t d ht).weak.bind fun _ t1 d1 _ h1 => (adv_program m t1 d1 h1).bind fun _ t2 d2 _ h2 => adv_ok _ h2) (adv_ok _ ht)
include hv
theorem cu_component (t d : Nat) (ht : t ≤ n) : Cu n i t (t + 1) d (componentP ws t d) (componentP vs t d) :=
  (cu_kind hn hv 4 t d ht).bind fun _ t1 d1 _ h1 => (cu_name hn hv t1 d1 h1).weak.bind fun s t2 d2 _ h2 =>
    cu_ite ((cu_name hn hv t2 d2 h2).weak.bind fun name t3 d3 _ h3 => (cu_name hn hv t3 d3 h3).weak.bind fun param t4 d4 _ h4 =>
      ((cu_kind hn hv 4 t4 0 h4).weak.bind fun _ t5 d5 _ h5 => (cu_name hn hv t5 d5 h5).weak.bind fun s t6 d6 _ h6 =>
        (cu_body hn hv (cu_expr hn hv name FU) (expr_none hn hv name FU) FU s t6 d6 h6).bind fun p t7 d7 _ h7 => cu_ok _ h7).mono (Nat.le_refl _) (by omega)) (cu_bad (by omega))

/-- Of the first i words: it has ended, or ends too early; or it is left where all of them leave it. -/
def Early (i : Nat) (r : Rs (List (List T))) (r' : Rs (List (List T))) : Prop :=
  (∃ u, r = .bad u ∧ u ≤ i ∧ r' = .bad u) ∨ ((∀ u, r = .bad u → i < u) ∧ ((∃ l t d, r' = .ok l t d) ∨ r' = .bad (i + 1)))
omit hn hv in
theorem Early.bind {r r' : Rs (List (List T))} {x : List T} (h : Early i r r') : Early i (r.bind fun l t d => .ok (x :: l) t d) (r'.bind fun l t d => .ok (x :: l) t d) := by
  rcases h with ⟨u, rfl, h1, rfl⟩ | ⟨h1, h2⟩
  · exact .inl ⟨u, rfl, h1, rfl⟩
  · refine .inr ⟨fun u hu => ?_, ?_⟩
    · cases r with
      | bad v => exact h1 u hu
      | ok l t d => simp at hu
    · rcases h2 with ⟨l, t, d, rfl⟩ | rfl
      · exact .inl ⟨_, _, _, rfl⟩
      · exact .inr rfl
theorem early_program (hi : i ≤ n) : ∀ (m t d : Nat), t ≤ i → Early i (programP ws m t d) (programP vs m t d)
  | 0, t, d, ht => by
    simp only [programP]
    rcases Nat.lt_or_ge t i with h | h
    · exact .inl ⟨t + 1, rfl, h, rfl⟩
    · obtain rfl : t = i := by omega
      exact .inr ⟨fun u hu => by injection hu with hu; omega, .inr rfl⟩
  | m + 1, t, d, ht => by
    have hvl : vs.length = i := by rw [hv, List.length_take]; omega
    simp only [programP]
    rcases Nat.lt_or_ge t i with h | h
    · rw [if_pos (by omega), if_pos (by omega)]
      have hc := cu_component hn hv t d (by omega)
      have ha := hc.1
      rw [hc.2 ht]
      cases hr : componentP ws t d with
      | bad u =>
        simp only [cut, Rs.bind_bad]
        rcases Nat.lt_or_ge i u with hu | hu
        · exact .inr ⟨fun v hv => by injection hv with hv; omega, .inr (by rw [Nat.min_eq_right (by omega)])⟩
        · exact .inl ⟨u, rfl, hu, by rw [Nat.min_eq_left (by omega)]⟩
      | ok x t1 d1 =>
        rw [hr] at ha
        simp only [cut, Rs.bind_ok]
        by_cases h1 : t1 ≤ i
        · rw [if_pos h1, Rs.bind_ok]
          exact (early_program hi m t1 d1 h1).bind
        · rw [if_neg h1, Rs.bind_bad]
          refine .inr ⟨fun u hu => ?_, .inr rfl⟩
          have hb := adv_program hn m t1 d1 ha.2.1
          cases hp : programP ws m t1 d1 with
          | bad v => rw [hp] at hu hb; simp at hu; have := hb.1; omega
          | ok l t2 d2 => rw [hp] at hu; simp at hu
    · obtain rfl : t = i := by omega
      rw [if_neg (c := t < vs.length) (by omega)]
      refine .inr ⟨fun u hu => ?_, .inl ⟨_, _, _, rfl⟩⟩
      by_cases h1 : t < ws.length
      · rw [if_pos h1] at hu
        have hb : Adv n (t + 1) d _ := (adv_component hn t d (by omega)).bind fun x t1 d1 _ h1 => (adv_program hn m t1 d1 h1).bind fun l t2 d2 _ h2 => adv_ok (x :: l) h2
        rw [hu] at hb
        exact hb.1
      · rw [if_neg h1] at hu; cases hu
end

/-- Words each in a line of its own. -/
def Lined (ws : List LX.LW) : Prop := ∀ (k : Nat) (w : LX.LW), ws[k]? = some w → w.line = k
theorem Lined.take {ws : List LX.LW} (h : Lined ws) (i : Nat) : Lined (ws.take i) := fun k w hk => by
  rcases Nat.lt_or_ge k i with hl | hl
  · rw [List.getElem?_take_of_lt hl] at hk; exact h k w hk
  · rw [List.getElem?_eq_none (by simp; omega)] at hk; cases hk
theorem line_at {ws : List LX.LW} (h : Lined ws) {k : Nat} (hk : k < ws.length) : ((ws[k]?.map (·.line)).getD 0) = k := by
  rw [List.getElem?_eq_getElem hk]
  exact h k _ (List.getElem?_eq_getElem hk)

theorem program_succ (ws : List LX.LW) (m t d : Nat) : programP ws (m + 1) t d = if t < ws.length then (componentP ws t d).bind fun x t d => (programP ws m t d).bind fun l t d => .ok (x :: l) t d else .ok [] t d := rfl
theorem parse_ok_pos {ws : List LX.LW} {l : List (List T)} (h : parseP ws = .inr l) (hw : ws ≠ []) : 0 < l.length := by
  unfold parseP at h
  have hl : 0 < (ws.map nol).length := by rw [List.length_map]; exact List.length_pos_iff.2 hw
  cases hp : programP (ws.map nol) FU 0 0 with
  | bad u => rw [hp] at h; cases h
  | ok l' t d =>
    rw [hp] at h
    injection h with h
    subst h
    have e : FU = 65536 + 1 := rfl
    rw [e, program_succ] at hp
    rw [if_pos hl] at hp
    cases hc : componentP (ws.map nol) 0 0 with
    | bad u => rw [hc] at hp; cases hp
    | ok x t1 d1 =>
      rw [hc, Rs.bind_ok] at hp
      cases hq : programP (ws.map nol) 65536 t1 d1 with
      | bad u => rw [hq] at hp; cases hp
      | ok l2 t2 d2 => rw [hq, Rs.bind_ok] at hp; injection hp with hp; subst hp; simp
theorem parse_same {ws vs : List LX.LW} (h : ws.map nol = vs.map nol) : (∃ k, parseP ws = .inl k) ↔ (∃ k, parseP vs = .inl k) := by
  unfold parseP
  rw [h]
  cases programP (vs.map nol) FU 0 0 <;> simp
theorem parse_lines {ws : List LX.LW} (h : Lined ws) (hw : ws ≠ []) {ln : Nat} (hp : parseP ws = .inl ln) :
    ln < ws.length ∧ (∀ i, i ≤ ln → (∃ l, parseP (ws.take i) = .inr l) ∨ parseP (ws.take i) = .inl (i - 1)) ∧ (ln + 1 = ws.length ∨ ∀ w, parseP (ws.take (ln + 1) ++ [w]) = .inl ln) := by
  have hpos : 0 < ws.length := List.length_pos_iff.2 hw
  have hN : (ws.map nol).length = ws.length := List.length_map ..
  cases hq : programP (ws.map nol) FU 0 0 with
  | ok l t d => unfold parseP at hp; rw [hq] at hp; cases hp
  | bad u =>
    have hlast : ln = min u ws.length - 1 := by
      unfold parseP at hp
      rw [hq] at hp
      injection hp with hp
      rw [← hp]
      exact line_at h (by omega)
    have ha := adv_program hN FU 0 0 (Nat.zero_le _)
    have hu1 : 1 ≤ u := by
      have e : FU = 65536 + 1 := rfl
      rw [e, program_succ] at hq
      rw [if_pos (by omega)] at hq
      have hb : Adv ws.length (0 + 1) 0 _ := (adv_component hN 0 0 (by omega)).bind fun x t1 d1 _ h1 => (adv_program hN 65536 t1 d1 h1).bind fun l t2 d2 _ h2 => adv_ok (x :: l) h2
      rw [hq] at hb
      exact hb.1
    refine ⟨by omega, fun i hi => ?_, ?_⟩
    · have he := early_program (vs := (ws.map nol).take i) hN rfl (by omega) FU 0 0 (Nat.zero_le _)
      rw [hq] at he
      have hmap : (ws.take i).map nol = (ws.map nol).take i := by rw [List.map_take]
      have hil : (ws.take i).length = i := by rw [List.length_take]; omega
      unfold parseP
      rw [hmap]
      rcases he with ⟨v, hv, hvi, -⟩ | ⟨-, ⟨l, t, d, hr⟩ | hr⟩
      · injection hv with hv; omega
      · rw [hr]; exact .inl ⟨l, rfl⟩
      · rw [hr]
        dsimp only
        rw [hil, Nat.min_eq_right (by omega)]
        rcases Nat.eq_zero_or_pos i with h0 | h0
        · subst h0; exact .inr rfl
        · rw [line_at (h.take i) (by omega)]; exact .inr rfl
    · rcases Nat.lt_or_ge u ws.length with hlt | hge
      · refine .inr fun w => ?_
        have hu : ln + 1 = u := by omega
        rw [hu]
        have hk : (ws.take u).length = u := by rw [List.length_take]; omega
        have h1 := early_program (vs := (ws.map nol).take u) hN rfl (by omega) FU 0 0 (Nat.zero_le _)
        rw [hq] at h1
        have h1' : programP ((ws.map nol).take u) FU 0 0 = .bad u := by
          rcases h1 with ⟨v, hv, -, hr⟩ | ⟨hr, -⟩
          · injection hv with hv; subst hv; exact hr
          · exact absurd (hr u rfl) (by omega)
        have hlen : ((ws.take u ++ [w]).map nol).length = u + 1 := by rw [List.length_map, List.length_append, hk]; rfl
        have hpre : (ws.map nol).take u = ((ws.take u ++ [w]).map nol).take u := by
          rw [List.map_append, List.take_append_of_le_length (by rw [List.length_map, hk]; exact Nat.le_refl _), List.map_take, List.take_take, Nat.min_self]
        have h2 := early_program hlen hpre (by omega) FU 0 0 (Nat.zero_le _)
        rw [h1'] at h2
        have h3 : programP ((ws.take u ++ [w]).map nol) FU 0 0 = .bad u := by
          rcases h2 with ⟨v, hv, -, hr⟩ | ⟨-, ⟨l, t, d, hr⟩ | hr⟩
          · injection hr with hr; subst hr; exact hv
          · cases hr
          · injection hr with hr; omega
        unfold parseP
        rw [h3]
        dsimp only
        rw [List.length_append, hk, Nat.min_eq_left (by simp), List.getElem?_append_left (by omega), line_at (h.take u) (by omega)]
        have : ln = u - 1 := by omega
        rw [this]
      · exact .inl (by omega)
end Go.Proofs.YtfldflemdhkgoaaGreatDoor.G
