/-
  Plain: words that end early: what begins with them is read the same, till they end ('Cu'). No program is imported.
  Conditions: none.
  Plain: where words are no program ('parse_lines'): each beginning up to the word told can be gone on with, and whatever stands behind that word it is told again. No program is imported.
  Conditions: none.
-/
import Derived.Test.YtedmmgfnplbkjaaGreatDoorParA
namespace Go.Proofs.YtedmmgfnplbkjaaGreatDoor.G
set_option linter.unusedVariables false
set_option linter.unusedSimpArgs false
open Go.Proofs.YtedmmgfnplbkjaaGreatDoor
def cut {α : Type} (i : Nat) : Rs α → Rs α
  | .bad t => .bad (min t (i + 1))
  | .ok x t d => if t ≤ i then .ok x t d else .bad (i + 1)
def Cu {α : Type} (n i s t d : Nat) (r r' : Rs α) : Prop := Adv n t d r ∧ (s ≤ i → r' = cut i r)
theorem cut_past {α : Type} {n i t d : Nat} {r : Rs α} (h : Adv n t d r) (hi : i < t) : cut i r = .bad (i + 1) := by
  cases r with
  | bad u => simp only [cut]; rw [Nat.min_eq_right]; have := h.1; omega
  | ok x u e => simp only [cut]; rw [if_neg]; have := h.1; omega
theorem Cu.bind {α β : Type} {n i s t d : Nat} {r r' : Rs α} {f f' : α → Nat → Nat → Rs β} (h : Cu n i s t d r r') (hf : ∀ x t' d', t ≤ t' → t' ≤ n → Cu n i t' t' d' (f x t' d') (f' x t' d')) : Cu n i s t d (r.bind f) (r'.bind f') := by
  refine ⟨h.1.bind fun x t' d' h1 h2 => (hf x t' d' h1 h2).1, fun hs => ?_⟩
  have hr := h.2 hs
  subst hr
  have ha := h.1
  cases r with
  | bad u => rfl
  | ok x u e =>
    obtain ⟨a, b, -⟩ := ha
    have hg := hf x u e a b
    simp only [cut, Rs.bind_ok]
    by_cases hu : u ≤ i
    · rw [if_pos hu, Rs.bind_ok]; exact hg.2 hu
    · rw [if_neg hu, Rs.bind_bad]; exact (cut_past hg.1 (by omega)).symm
theorem Cu.bind1 {α β : Type} {n i s t d : Nat} {r r' : Rs α} {f f' : α → Nat → Nat → Rs β} (h : Cu n i s (t + 1) d r r') (hf : ∀ x t' d', t + 1 ≤ t' → t' ≤ n → Cu n i t' t' (d' + 1) (f x t' d') (f' x t' d')) : Cu n i s t d (r.bind f) (r'.bind f') := by
  refine ⟨h.1.bind1 fun x t' d' h1 h2 => (hf x t' d' h1 h2).1, fun hs => ?_⟩
  have hr := h.2 hs
  subst hr
  have ha := h.1
  cases r with
  | bad u => rfl
  | ok x u e =>
    obtain ⟨a, b, -⟩ := ha
    have hg := hf x u e a b
    simp only [cut, Rs.bind_ok]
    by_cases hu : u ≤ i
    · rw [if_pos hu, Rs.bind_ok]; exact hg.2 hu
    · rw [if_neg hu, Rs.bind_bad]; exact (cut_past hg.1 (by omega)).symm
theorem Cu.mono {α : Type} {n i s t d t0 d0 : Nat} {r r' : Rs α} (h : Cu n i s t d r r') (ht : t0 ≤ t) (hd : d + t0 ≤ d0 + t) : Cu n i s t0 d0 r r' := ⟨h.1.mono ht hd, h.2⟩
theorem Cu.weak {α : Type} {n i s t d : Nat} {r r' : Rs α} (h : Cu n i s (t + 1) d r r') : Cu n i s t d r r' := h.mono (by omega) (by omega)
end Go.Proofs.YtedmmgfnplbkjaaGreatDoor.G
namespace Go.Proofs.YtedmmgfnplbkjaaGreatDoor.G
set_option linter.unusedVariables false
set_option linter.unusedSimpArgs false
open Go.Proofs.YtedmmgfnplbkjaaGreatDoor
section
variable {ws vs : List LX.LW} {n i : Nat} (hn : ws.length = n) (hv : vs = ws.take i)
include hn
theorem adv_component (t d : Nat) (ht : t ≤ n) : Adv n (t + 1) d (componentP ws t d) :=
  (adv_kind hn 4 t d ht).bind fun _ t1 d1 _ h1 => (adv_name hn t1 d1 h1).weak.bind fun s t2 d2 _ h2 =>
    adv_ite ((adv_name hn t2 d2 h2).weak.bind fun name t3 d3 _ h3 => (adv_name hn t3 d3 h3).weak.bind fun param t4 d4 _ h4 =>
      ((adv_kind hn 4 t4 0 h4).weak.bind fun _ t5 d5 _ h5 => (adv_name hn t5 d5 h5).weak.bind fun s t6 d6 _ h6 =>
        (adv_body hn (adv_expr hn name FU) FU s t6 d6 h6).bind fun p t7 d7 _ h7 => adv_ok _ h7).mono (Nat.le_refl _) (by omega)) (adv_bad (by omega))
theorem adv_program : ∀ (m t d : Nat), t ≤ n → Adv n t d (programP ws m t d)
  | 0, t, d, ht => (adv_bad (by omega) : Adv n (t + 1) d _).weak
  | m + 1, t, d, ht => by
    simp only [programP]
    exact adv_ite ((adv_component hn t d ht).weak.bind fun _ t1 d1 _ h1 => (adv_program m t1 d1 h1).bind fun _ t2 d2 _ h2 => adv_ok _ h2) (adv_ok _ ht)
include hv
def Early (i : Nat) (r : Rs (List (List T))) (r' : Rs (List (List T))) : Prop :=
  (∃ u, r = .bad u ∧ u ≤ i ∧ r' = .bad u) ∨ ((∀ u, r = .bad u → i < u) ∧ ((∃ l t d, r' = .ok l t d) ∨ r' = .bad (i + 1)))
omit hn hv in
theorem Early.bind {r r' : Rs (List (List T))} {x : List T} (h : Early i r r') : Early i (r.bind fun l t d => .ok (x :: l) t d) (r'.bind fun l t d => .ok (x :: l) t d) := by
  rcases h with ⟨u, rfl, h1, rfl⟩ | ⟨h1, h2⟩
  · exact .inl ⟨u, rfl, h1, rfl⟩
  · refine .inr ⟨fun u hu => ?_, ?_⟩
    · cases r with
      | bad v => exact h1 u hu
      | ok l t d => simp at hu
    · rcases h2 with ⟨l, t, d, rfl⟩ | rfl
      · exact .inl ⟨_, _, _, rfl⟩
      · exact .inr rfl
end
def Lined (ws : List LX.LW) : Prop := ∀ (k : Nat) (w : LX.LW), ws[k]? = some w → w.line = k
theorem Lined.take {ws : List LX.LW} (h : Lined ws) (i : Nat) : Lined (ws.take i) := fun k w hk => by
  rcases Nat.lt_or_ge k i with hl | hl
  · rw [List.getElem?_take_of_lt hl] at hk; exact h k w hk
  · rw [List.getElem?_eq_none (by simp; omega)] at hk; cases hk
theorem program_succ (ws : List LX.LW) (m t d : Nat) : programP ws (m + 1) t d = if t < ws.length then (componentP ws t d).bind fun x t d => (programP ws m t d).bind fun l t d => .ok (x :: l) t d else .ok [] t d := rfl
end Go.Proofs.YtedmmgfnplbkjaaGreatDoor.G
