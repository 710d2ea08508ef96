/-
  Plain: how far reading goes ('Adv'): never back, never past the end by more than one; no more deeds than words. No program is imported.
  Conditions: none.
-/
import Derived.Test.YtedmmgfnplbkjaaGreatDoorParG
namespace Go.Proofs.YtedmmgfnplbkjaaGreatDoor.G
set_option linter.unusedVariables false
set_option linter.unusedSimpArgs false
open Go.Proofs.YtedmmgfnplbkjaaGreatDoor
def Adv {α : Type} (n t d : Nat) : Rs α → Prop
  | .bad t' => t ≤ t' ∧ t' ≤ n + 1
  | .ok _ t' d' => t ≤ t' ∧ t' ≤ n ∧ d' + t ≤ d + t'
theorem Adv.bind {α β : Type} {n t d : Nat} {r : Rs α} {f : α → Nat → Nat → Rs β} (h : Adv n t d r) (hf : ∀ x t' d', t ≤ t' → t' ≤ n → Adv n t' d' (f x t' d')) : Adv n t d (r.bind f) := by
  cases r with
  | bad t' => exact h
  | ok x t' d' =>
    obtain ⟨h1, h2, h3⟩ := h
    have := hf x t' d' h1 h2
    rw [Rs.bind_ok]
    cases hr : f x t' d' with
    | bad u => rw [hr] at this; exact ⟨Nat.le_trans h1 this.1, this.2⟩
    | ok y u e => rw [hr] at this; obtain ⟨a, b, c⟩ := this; exact ⟨by omega, b, by omega⟩
theorem Adv.bind1 {α β : Type} {n t d : Nat} {r : Rs α} {f : α → Nat → Nat → Rs β} (h : Adv n (t + 1) d r) (hf : ∀ x t' d', t + 1 ≤ t' → t' ≤ n → Adv n t' (d' + 1) (f x t' d')) : Adv n t d (r.bind f) := by
  cases r with
  | bad t' => exact ⟨Nat.le_trans (Nat.le_succ t) h.1, h.2⟩
  | ok x t' d' =>
    obtain ⟨h1, h2, h3⟩ := h
    have := hf x t' d' h1 h2
    rw [Rs.bind_ok]
    cases hr : f x t' d' with
    | bad u => rw [hr] at this; exact ⟨by have := this.1; omega, this.2⟩
    | ok y u e => rw [hr] at this; obtain ⟨a, b, c⟩ := this; exact ⟨by omega, b, by omega⟩
theorem Adv.mono {α : Type} {n t d t0 d0 : Nat} {r : Rs α} (h : Adv n t d r) (ht : t0 ≤ t) (hd : d + t0 ≤ d0 + t) : Adv n t0 d0 r := by
  cases r with
  | bad u => exact ⟨Nat.le_trans ht h.1, h.2⟩
  | ok y u e => obtain ⟨a, b, c⟩ := h; exact ⟨by omega, b, by omega⟩
theorem Adv.weak {α : Type} {n t d : Nat} {r : Rs α} (h : Adv n (t + 1) d r) : Adv n t d r := h.mono (by omega) (by omega)
theorem adv_bad {α : Type} {n t d : Nat} (h : t ≤ n + 1) : Adv n t d (.bad t : Rs α) := ⟨Nat.le_refl _, h⟩
theorem adv_ok {α : Type} {n t d : Nat} (x : α) (h : t ≤ n) : Adv n t d (.ok x t d : Rs α) := ⟨Nat.le_refl _, h, Nat.le_of_eq (Nat.add_comm d t ▸ rfl)⟩
theorem adv_ite {α : Type} {n t d : Nat} {p : Prop} [Decidable p] {a b : Rs α} (h1 : Adv n t d a) (h2 : Adv n t d b) : Adv n t d (if p then a else b) := by
  split
  · exact h1
  · exact h2
section
variable {ws : List LX.LW} {n : Nat} (hn : ws.length = n)
include hn
theorem get_lt {t : Nat} {w : LX.LW} (h : ws[t]? = some w) : t < n := by
  have := (List.getElem?_eq_some_iff.1 h).1
  omega
theorem adv_kind (k t d : Nat) (ht : t ≤ n) : Adv n (t + 1) d (kindP ws k t d) := by
  unfold kindP
  cases h : ws[t]? with
  | none => exact adv_bad (by omega)
  | some w =>
    have := get_lt hn h
    dsimp only
    split
    · exact adv_ok _ (by omega)
    · exact adv_bad (by omega)
theorem adv_name (t d : Nat) (ht : t ≤ n) : Adv n (t + 1) d (nameP ws t d) := by
  unfold nameP
  cases h : ws[t]? with
  | none => exact adv_bad (by omega)
  | some w =>
    have := get_lt hn h
    dsimp only
    split
    · exact adv_ok _ (by omega)
    · exact adv_bad (by omega)
theorem isShut_lt {t : Nat} (h : isShut ws t = true) : t < n := by
  unfold isShut at h
  cases h' : ws[t]? with
  | none => rw [h'] at h; simp at h
  | some w => exact get_lt hn h'
theorem isDash_lt {t : Nat} (h : isDash ws t = true) : t < n := by
  unfold isDash at h
  cases h' : ws[t]? with
  | none => rw [h'] at h; simp at h
  | some w => exact get_lt hn h'
theorem adv_all {α : Type} {one : Nat → Nat → Rs α} (ho : ∀ t d, t ≤ n → Adv n (t + 1) d (one t d)) : ∀ (m t d : Nat), t ≤ n → Adv n (t + 1) d (allP ws one m t d)
  | 0, t, d, ht => adv_bad (by omega)
  | m + 1, t, d, ht => by
    simp only [allP]
    split
    · rename_i h
      have := isShut_lt hn h
      exact adv_ok _ (by omega)
    · exact (ho t d ht).bind fun x t1 d1 _ h1 => (adv_all ho m t1 d1 h1).weak.bind fun l t2 d2 _ h2 => adv_ok _ h2
theorem adv_within {α : Type} {one : Nat → Nat → Rs α} (ho : ∀ t d, t ≤ n → Adv n (t + 1) d (one t d)) (t d : Nat) (ht : t ≤ n) : Adv n (t + 1) d (withinP ws one t d) :=
  (adv_kind hn 4 t d ht).bind fun _ t1 d1 _ h1 => (adv_all hn ho _ t1 d1 h1).weak
omit hn in
theorem adv_times {α : Type} {one : Nat → Nat → Rs α} (ho : ∀ t d, t ≤ n → Adv n (t + 1) d (one t d)) : ∀ (m t d : Nat), t ≤ n → Adv n t d (timesP one m t d)
  | 0, t, d, ht => adv_ok _ ht
  | m + 1, t, d, ht => (ho t d ht).weak.bind fun x t1 d1 _ h1 => (adv_times ho m t1 d1 h1).bind fun l t2 d2 _ h2 => adv_ok _ h2
omit hn in
theorem adv_plain (s : Str) (t d : Nat) (ht : t ≤ n) : Adv n t d (plainP s t d) := by
  unfold plainP
  refine adv_ite (adv_ok _ ht) ?_
  refine adv_ite (adv_ok _ ht) ?_
  refine adv_ite (adv_ok _ ht) ?_
  refine adv_ite (adv_bad (by omega)) ?_
  exact adv_ok _ ht
section
variable {ex : Nat → Nat → Rs (List T)} (he : ∀ t d, t ≤ n → Adv n (t + 1) d (ex t d))
include he
theorem adv_pair (t d : Nat) (ht : t ≤ n) : Adv n (t + 1) d (pairP ws ex t d) :=
  (adv_kind hn 4 t d ht).bind fun _ t1 d1 _ h1 => (adv_name hn t1 d1 h1).weak.bind fun _ t2 d2 _ h2 => (he t2 d2 h2).weak.bind fun _ t3 d3 _ h3 => (adv_kind hn 5 t3 d3 h3).weak.bind fun _ t4 d4 _ h4 => adv_ok _ h4
theorem adv_act (t d : Nat) (ht : t ≤ n) : Adv n (t + 1) d (actP ws ex t d) :=
  (adv_kind hn 4 t d ht).bind fun _ t1 d1 _ h1 => (adv_name hn t1 d1 h1).weak.bind fun s t2 d2 _ h2 => by
    have tail : ∀ (f : List T → List T) t d, t ≤ n → Adv n t d ((ex t d).bind fun e t d => (shutP ws t d).bind fun _ t d => .ok (f e) t d) := fun f t d ht =>
      (he t d ht).weak.bind fun _ t3 d3 _ h3 => (adv_kind hn 5 t3 d3 h3).weak.bind fun _ t4 d4 _ h4 => adv_ok _ h4
    refine adv_ite ((adv_name hn t2 d2 h2).weak.bind fun _ t3 d3 _ h3 => tail _ t3 d3 h3) ?_
    refine adv_ite (tail _ t2 d2 h2) ?_
    refine adv_ite (tail _ t2 d2 h2) ?_
    refine adv_ite ((adv_kind hn 5 t2 d2 h2).weak.bind fun _ t3 d3 _ h3 => adv_ok _ h3) ?_
    exact adv_bad (by omega)
theorem adv_key (t d : Nat) (ht : t ≤ n) : Adv n (t + 1) d (keyP ws ex t d) := by
  unfold keyP
  split
  · rename_i h
    have := isDash_lt hn h
    exact adv_ok _ (by omega)
  · exact (he t d ht).bind fun _ t1 d1 _ h1 => adv_ok _ h1
omit hn in
theorem adv_pairsOf : ∀ (l : List Str) (t d : Nat), t ≤ n → Adv n t d (pairsOfP ex l t d)
  | [], t, d, ht => adv_ok _ ht
  | s :: r, t, d, ht => (he t d ht).weak.bind fun _ t1 d1 _ h1 => (adv_pairsOf r t1 d1 h1).bind fun _ t2 d2 _ h2 => adv_ok _ h2
theorem adv_elem (k : Int) (t d : Nat) (ht : t ≤ n) : Adv n t d (elemP ws ex k t d) :=
  (adv_key hn he t d ht).weak.bind fun key t1 d1 _ h1 => by
    have tail : ∀ (f : List (List T) → List T) t d, t ≤ n → Adv n t d ((allP ws ex FU t d).bind fun e t d => .ok (f e) t d) := fun f t d ht =>
      (adv_all hn he _ t d ht).weak.bind fun _ t3 d3 _ h3 => adv_ok _ h3
    refine adv_ite ((adv_name hn t1 d1 h1).weak.bind fun _ t2 d2 _ h2 => (adv_within hn (adv_pair hn he) t2 d2 h2).weak.bind fun _ t3 d3 _ h3 => tail _ t3 d3 h3) ?_
    refine adv_ite ((adv_name hn t1 d1 h1).weak.bind fun _ t2 d2 _ h2 => tail _ t2 d2 h2) ?_
    refine adv_ite ((adv_name hn t1 d1 h1).weak.bind fun _ t2 d2 _ h2 => (adv_pairsOf he _ t2 d2 h2).bind fun _ t3 d3 _ h3 => tail _ t3 d3 h3) ?_
    refine adv_ite ((adv_pairsOf he _ t1 d1 h1).bind fun _ t3 d3 _ h3 => tail _ t3 d3 h3) ?_
    refine adv_ite ((adv_pairsOf he _ t1 d1 h1).bind fun _ t3 d3 _ h3 => tail _ t3 d3 h3) ?_
    exact tail _ t1 d1 h1
theorem adv_compound (c s : Str) (t d : Nat) (ht : t ≤ n) : Adv n t (d + 1) (compoundP ws c ex s t d) := by
  have up : ∀ {r : Rs (List T)}, Adv n t d r → Adv n t (d + 1) r := fun h => h.mono (Nat.le_refl _) (by omega)
  have times : ∀ (f : List (List T) → List T) m t d, t ≤ n → Adv n t d ((timesP ex m t d).bind fun l t d => (shutP ws t d).bind fun _ t d => .ok (f l) t d) := fun f m t d ht =>
    (adv_times he m t d ht).bind fun _ t3 d3 _ h3 => (adv_kind hn 5 t3 d3 h3).weak.bind fun _ t4 d4 _ h4 => adv_ok _ h4
  unfold compoundP
  refine adv_ite (up (times _ _ t d ht)) ?_
  refine adv_ite (up ((adv_name hn t d ht).weak.bind fun _ t2 d2 _ h2 => times _ _ t2 d2 h2)) ?_
  refine adv_ite (up (times _ _ t d ht)) ?_
  refine adv_ite (up (times _ _ t d ht)) ?_
  refine adv_ite (up ((adv_all hn (adv_pair hn he) _ t d ht).weak.bind fun _ t3 d3 _ h3 => adv_ok _ h3)) ?_
  refine adv_ite ((adv_all hn (adv_act hn he) _ t (d + 1) ht).weak.bind fun _ t3 d3 _ h3 => adv_ok _ h3) ?_
  iterate 8 refine adv_ite (up (adv_elem hn he _ t d ht)) ?_
  exact up ((adv_all hn he _ t d ht).weak.bind fun _ t3 d3 _ h3 => adv_ok _ h3)
theorem adv_exprOf (c : Str) (w : LX.LW) (t d : Nat) (ht : t ≤ n) : Adv n t d (exprOfP ws c ex w t d) := by
  unfold exprOfP
  refine adv_ite (adv_ok _ ht) ?_
  refine adv_ite (adv_ok _ ht) ?_
  refine adv_ite (adv_plain _ t d ht) ?_
  refine adv_ite ((adv_name hn t d ht).bind1 fun s t1 d1 _ h1 => adv_compound hn he c s t1 d1 h1) ?_
  exact adv_bad (by omega)
end
theorem adv_expr (c : Str) : ∀ (f t d : Nat), t ≤ n → Adv n (t + 1) d (exprP ws c f t d)
  | 0, t, d, ht => adv_bad (by omega)
  | f + 1, t, d, ht => by
    simp only [exprP]
    cases h : ws[t]? with
    | none => exact adv_bad (by omega)
    | some w =>
      have := get_lt hn h
      exact adv_exprOf hn (adv_expr c f) c w (t + 1) d (by omega)
section
variable {ex st : Nat → Nat → Rs (List T)} (he : ∀ t d, t ≤ n → Adv n (t + 1) d (ex t d)) (hs : ∀ t d, t ≤ n → Adv n (t + 1) d (st t d))
include he
theorem adv_runs (k : Int) (t d : Nat) (ht : t ≤ n) : Adv n t d (runsP ws ex k t d) :=
  (adv_within hn he t d ht).weak.bind fun _ t1 d1 _ h1 => (adv_within hn (adv_act hn he) t1 d1 h1).weak.bind fun _ t2 d2 _ h2 =>
    (adv_within hn (adv_act hn he) t2 d2 h2).weak.bind fun _ t3 d3 _ h3 => (adv_kind hn 5 t3 d3 h3).weak.bind fun _ t4 d4 _ h4 => adv_ok _ h4
include hs
theorem adv_stmtOf (s : Str) (t d : Nat) (ht : t ≤ n) : Adv n t d (stmtOfP ws ex st s t d) := by
  unfold stmtOfP
  have tail : ∀ (f : List T → List T) t d, t ≤ n → Adv n t d ((ex t d).bind fun e t d => (shutP ws t d).bind fun _ t d => .ok (f e) t d) := fun f t d ht =>
    (he t d ht).weak.bind fun _ t3 d3 _ h3 => (adv_kind hn 5 t3 d3 h3).weak.bind fun _ t4 d4 _ h4 => adv_ok _ h4
  refine adv_ite ((adv_name hn t d ht).weak.bind fun _ t2 d2 _ h2 => tail _ t2 d2 h2) ?_
  refine adv_ite ((adv_name hn t d ht).weak.bind fun _ t2 d2 _ h2 => tail _ t2 d2 h2) ?_
  refine adv_ite ((adv_name hn t d ht).weak.bind fun _ t1 d1 _ h1 => (adv_within hn he t1 d1 h1).weak.bind fun _ t2 d2 _ h2 => tail _ t2 d2 h2) ?_
  refine adv_ite ((adv_name hn t d ht).weak.bind fun _ t1 d1 _ h1 => (adv_name hn t1 d1 h1).weak.bind fun _ t2 d2 _ h2 => (adv_kind hn 5 t2 d2 h2).weak.bind fun _ t4 d4 _ h4 => adv_ok _ h4) ?_
  refine adv_ite (adv_runs hn he _ t d ht) ?_
  refine adv_ite (adv_runs hn he _ t d ht) ?_
  refine adv_ite ((he t d ht).weak.bind fun _ t1 d1 _ h1 => (adv_all hn hs _ t1 d1 h1).weak.bind fun _ t4 d4 _ h4 => adv_ok _ h4) ?_
  exact adv_bad (by omega)
end
section
variable {ex : Nat → Nat → Rs (List T)} (he : ∀ t d, t ≤ n → Adv n (t + 1) d (ex t d))
include he
theorem adv_stmt : ∀ (f t d : Nat), t ≤ n → Adv n (t + 1) d (stmtP ws ex f t d)
  | 0, t, d, ht => adv_bad (by omega)
  | f + 1, t, d, ht => (adv_kind hn 4 t d ht).bind fun _ t1 d1 _ h1 => (adv_name hn t1 d1 h1).weak.bind fun s t2 d2 _ h2 => adv_stmtOf hn he (adv_stmt f) s t2 d2 h2
theorem adv_body : ∀ (m : Nat) (s : Str) (t d : Nat), t ≤ n → Adv n t d (bodyP ws ex m s t d)
  | 0, s, t, d, ht => (adv_bad (by omega) : Adv n (t + 1) d _).weak
  | m + 1, s, t, d, ht => by
    simp only [bodyP]
    refine adv_ite ((he t d ht).weak.bind fun _ t1 d1 _ h1 => (adv_kind hn 5 t1 d1 h1).weak.bind fun _ t2 d2 _ h2 => (adv_kind hn 5 t2 d2 h2).weak.bind fun _ t3 d3 _ h3 => adv_ok _ h3) ?_
    exact (adv_stmtOf hn he (adv_stmt hn he _) s t d ht).bind fun _ t1 d1 _ h1 => (adv_kind hn 4 t1 d1 h1).weak.bind fun _ t2 d2 _ h2 => (adv_name hn t2 d2 h2).weak.bind fun s t3 d3 _ h3 =>
      (adv_body m s t3 d3 h3).bind fun _ t4 d4 _ h4 => adv_ok _ h4
end
end
end Go.Proofs.YtedmmgfnplbkjaaGreatDoor.G
