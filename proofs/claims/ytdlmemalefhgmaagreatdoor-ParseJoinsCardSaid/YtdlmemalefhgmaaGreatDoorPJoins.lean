/-
  Plain: words behind others are read the same, from there on ('Sh'); the programs of two lists of words ('parse_joins'). No program is imported.
  Conditions: none.
  Walks: SameProgram and what it calls, on one tree that lies twice: true ('same_program').
  Conditions: both lie in old memory, as the tree tells.
  Walks: ParseJoins returns true; old memory is as it was.
  Conditions: the package's variables hold what the program's text lays in them; the texts are no longer than the reach.
  ParseJoins: for any two texts the law returns true and leaves its arguments as they were: the program of two texts with a line's end between them is the components of both, one behind the other.
  Conditions: none beyond the row's own; the listed variables are tied to the program's text by the card.
-/
import Derived.Test.YtdlmemalefhgmaaGreatDoorParLn
import Derived.Test.YtdlmemalefhgmaaGreatDoorParWf
import Derived.Test.YtdlmemalefhgmaaGreatDoorParLw
import Derived.ChangeMaps5
import Derived.SizedLaws
import Derived.Test.YtdlmemalefhgmaaGreatDoorParDoor
namespace Go.Proofs.YtdlmemalefhgmaaGreatDoor.G
set_option linter.unusedVariables false
set_option linter.unusedSimpArgs false
open Go.Proofs.YtdlmemalefhgmaaGreatDoor

/-- z words stand ahead. -/
def sh {α : Type} (z : Nat) : Rs α → Rs α
  | .bad t => .bad (t + z)
  | .ok x t d => .ok x (t + z) d
def Sh {α : Type} (z : Nat) (r r' : Rs α) : Prop := r' = sh z r
theorem Sh.bind {α β : Type} {z : Nat} {r r' : Rs α} {f f' : α → Nat → Nat → Rs β} (h : Sh z r r') (hf : ∀ x t d, Sh z (f x t d) (f' x (t + z) d)) : Sh z (r.bind f) (r'.bind f') := by
  unfold Sh at h ⊢
  subst h
  cases r with
  | bad t => rfl
  | ok x t d => exact hf x t d
theorem sh_ok {α : Type} {z : Nat} (x : α) {t d : Nat} : Sh z (.ok x t d) (.ok x (t + z) d) := rfl
theorem sh_ok1 {α : Type} {z : Nat} (x : α) {t d : Nat} : Sh z (.ok x (t + 1) d) (.ok x (t + z + 1) d) := by unfold Sh sh; rw [Nat.add_right_comm]
theorem sh_bad {α : Type} {z t : Nat} : Sh z (.bad t : Rs α) (.bad (t + z)) := rfl
theorem sh_bad1 {α : Type} {z t : Nat} : Sh z (.bad (t + 1) : Rs α) (.bad (t + z + 1)) := by unfold Sh sh; rw [Nat.add_right_comm]
theorem sh_ite {α : Type} {z : Nat} {p : Prop} [Decidable p] {a b a' b' : Rs α} (h1 : Sh z a a') (h2 : Sh z b b') : Sh z (if p then a else b) (if p then a' else b') := by
  split
  · exact h1
  · exact h2

section
variable {ws vs : List LX.LW} {z : Nat} (hv : ∀ k, vs[k + z]? = ws[k]?)
include hv
theorem sh_next {α : Type} {f f' : LX.LW → Rs α} {t : Nat} (hf : ∀ w, Sh z (f w) (f' w)) :
    Sh z (match ws[t]? with | none => .bad (t + 1) | some w => f w) (match vs[t + z]? with | none => .bad (t + z + 1) | some w => f' w) := by
  rw [hv]
  cases ws[t]? with
  | none => exact sh_bad1
  | some w => exact hf w
theorem sh_kind (k t d : Nat) : Sh z (kindP ws k t d) (kindP vs k (t + z) d) := sh_next hv fun _ => sh_ite (sh_ok1 _) sh_bad1
theorem sh_name (t d : Nat) : Sh z (nameP ws t d) (nameP vs (t + z) d) := sh_next hv fun _ => sh_ite (sh_ok1 _) sh_bad1
theorem sh_isShut {t : Nat} : isShut vs (t + z) = isShut ws t := by unfold isShut; rw [hv]
theorem sh_isDash {t : Nat} : isDash vs (t + z) = isDash ws t := by unfold isDash; rw [hv]
theorem sh_all {α : Type} {one two : Nat → Nat → Rs α} (ho : ∀ t d, Sh z (one t d) (two (t + z) d)) : ∀ (m t d : Nat), Sh z (allP ws one m t d) (allP vs two m (t + z) d)
  | 0, t, d => sh_bad1
  | m + 1, t, d => by
    simp only [allP]
    rw [sh_isShut hv]
    refine sh_ite (sh_ok1 _) ?_
    exact (ho t d).bind fun x t1 d1 => (sh_all ho m t1 d1).bind fun l t2 d2 => sh_ok _
theorem sh_within {α : Type} {one two : Nat → Nat → Rs α} (ho : ∀ t d, Sh z (one t d) (two (t + z) d)) (t d : Nat) : Sh z (withinP ws one t d) (withinP vs two (t + z) d) :=
  (sh_kind hv 4 t d).bind fun _ t1 d1 => (sh_all hv ho _ t1 d1)
omit hv in
theorem sh_times {α : Type} {one two : Nat → Nat → Rs α} (ho : ∀ t d, Sh z (one t d) (two (t + z) d)) : ∀ (m t d : Nat), Sh z (timesP one m t d) (timesP two m (t + z) d)
  | 0, t, d => sh_ok _
  | m + 1, t, d => (ho t d).bind fun x t1 d1 => (sh_times ho m t1 d1).bind fun l t2 d2 => sh_ok _
omit hv in
theorem sh_plain (s : Str) (t d : Nat) : Sh z (plainP s t d) (plainP s (t + z) d) := by
  unfold plainP
  refine sh_ite (sh_ok _) ?_
  refine sh_ite (sh_ok _) ?_
  refine sh_ite (sh_ok _) ?_
  refine sh_ite (sh_bad) ?_
  exact sh_ok _
section
variable {ex ey : Nat → Nat → Rs (List T)} (he : ∀ t d, Sh z (ex t d) (ey (t + z) d))
include he
theorem sh_pair (t d : Nat) : Sh z (pairP ws ex t d) (pairP vs ey (t + z) d) :=
  (sh_kind hv 4 t d).bind fun _ t1 d1 => (sh_name hv t1 d1).bind fun _ t2 d2 => (he t2 d2).bind fun _ t3 d3 => (sh_kind hv 5 t3 d3).bind fun _ t4 d4 => sh_ok _
theorem sh_act (t d : Nat) : Sh z (actP ws ex t d) (actP vs ey (t + z) d) :=
  (sh_kind hv 4 t d).bind fun _ t1 d1 => (sh_name hv t1 d1).bind fun s t2 d2 => by
    have tail : ∀ (f : List T → List T) t d, Sh z ((ex t d).bind fun e t d => (shutP ws t d).bind fun _ t d => .ok (f e) t d) ((ey (t + z) d).bind fun e t d => (shutP vs t d).bind fun _ t d => .ok (f e) t d) := fun f t d =>
      (he t d).bind fun _ t3 d3 => (sh_kind hv 5 t3 d3).bind fun _ t4 d4 => sh_ok _
    refine sh_ite ((sh_name hv t2 d2).bind fun _ t3 d3 => tail _ t3 d3) ?_
    refine sh_ite (tail _ t2 d2) ?_
    refine sh_ite (tail _ t2 d2) ?_
    refine sh_ite ((sh_kind hv 5 t2 d2).bind fun _ t3 d3 => sh_ok _) ?_
    exact sh_bad
theorem sh_key (t d : Nat) : Sh z (keyP ws ex t d) (keyP vs ey (t + z) d) := by
  unfold keyP
  rw [sh_isDash hv]
  refine sh_ite (sh_ok1 _) ?_
  exact (he t d).bind fun _ t1 d1 => sh_ok _
omit hv in
theorem sh_pairsOf : ∀ (l : List Str) (t d : Nat), Sh z (pairsOfP ex l t d) (pairsOfP ey l (t + z) d)
  | [], t, d => sh_ok _
  | s :: r, t, d => (he t d).bind fun _ t1 d1 => (sh_pairsOf r t1 d1).bind fun _ t2 d2 => sh_ok _
theorem sh_elem (k : Int) (t d : Nat) : Sh z (elemP ws ex k t d) (elemP vs ey k (t + z) d) :=
  (sh_key hv he t d).bind fun key t1 d1 => by
    have tail : ∀ (f : List (List T) → List T) t d, Sh z ((allP ws ex FU t d).bind fun e t d => .ok (f e) t d) ((allP vs ey FU (t + z) d).bind fun e t d => .ok (f e) t d) := fun f t d =>
      (sh_all hv he _ t d).bind fun _ t3 d3 => sh_ok _
    refine sh_ite ((sh_name hv t1 d1).bind fun _ t2 d2 => (sh_within hv (sh_pair hv he) t2 d2).bind fun _ t3 d3 => tail _ t3 d3) ?_
    refine sh_ite ((sh_name hv t1 d1).bind fun _ t2 d2 => tail _ t2 d2) ?_
    refine sh_ite ((sh_name hv t1 d1).bind fun _ t2 d2 => (sh_pairsOf he _ t2 d2).bind fun _ t3 d3 => tail _ t3 d3) ?_
    refine sh_ite ((sh_pairsOf he _ t1 d1).bind fun _ t3 d3 => tail _ t3 d3) ?_
    refine sh_ite ((sh_pairsOf he _ t1 d1).bind fun _ t3 d3 => tail _ t3 d3) ?_
    exact tail _ t1 d1
theorem sh_compound (c s : Str) (t d : Nat) : Sh z (compoundP ws c ex s t d) (compoundP vs c ey s (t + z) d) := by
  have times : ∀ (f : List (List T) → List T) m t d, Sh z ((timesP ex m t d).bind fun l t d => (shutP ws t d).bind fun _ t d => .ok (f l) t d) ((timesP ey m (t + z) d).bind fun l t d => (shutP vs t d).bind fun _ t d => .ok (f l) t d) := fun f m t d =>
    (sh_times he m t d).bind fun _ t3 d3 => (sh_kind hv 5 t3 d3).bind fun _ t4 d4 => sh_ok _
  unfold compoundP
  refine sh_ite ((times _ _ t d)) ?_
  refine sh_ite (((sh_name hv t d).bind fun _ t2 d2 => times _ _ t2 d2)) ?_
  refine sh_ite ((times _ _ t d)) ?_
  refine sh_ite ((times _ _ t d)) ?_
  refine sh_ite (((sh_all hv (sh_pair hv he) _ t d).bind fun _ t3 d3 => sh_ok _)) ?_
  refine sh_ite ((sh_all hv (sh_act hv he) _ t (d + 1)).bind fun _ t3 d3 => sh_ok _) ?_
  iterate 8 refine sh_ite ((sh_elem hv he _ t d)) ?_
  exact ((sh_all hv he _ t d).bind fun _ t3 d3 => sh_ok _)
theorem sh_exprOf (c : Str) (w : LX.LW) (t d : Nat) : Sh z (exprOfP ws c ex w t d) (exprOfP vs c ey w (t + z) d) := by
  unfold exprOfP
  refine sh_ite (sh_ok _) ?_
  refine sh_ite (sh_ok _) ?_
  refine sh_ite (sh_plain _ t d) ?_
  refine sh_ite ((sh_name hv t d).bind fun s t1 d1 => sh_compound hv he c s t1 d1) ?_
  exact sh_bad
end
theorem sh_expr (c : Str) : ∀ (f t d : Nat), Sh z (exprP ws c f t d) (exprP vs c f (t + z) d)
  | 0, t, d => sh_bad1
  | f + 1, t, d => by
    simp only [exprP]
    refine sh_next hv fun w => ?_
    have h := sh_exprOf hv (sh_expr c f) c w (t + 1) d
    rwa [Nat.add_right_comm] at h
section
variable {ex st ey su : Nat → Nat → Rs (List T)} (he : ∀ t d, Sh z (ex t d) (ey (t + z) d)) (hs : ∀ t d, Sh z (st t d) (su (t + z) d))
include he
theorem sh_runs (k : Int) (t d : Nat) : Sh z (runsP ws ex k t d) (runsP vs ey k (t + z) d) :=
  (sh_within hv he t d).bind fun _ t1 d1 => (sh_within hv (sh_act hv he) t1 d1).bind fun _ t2 d2 =>
    (sh_within hv (sh_act hv he) t2 d2).bind fun _ t3 d3 => (sh_kind hv 5 t3 d3).bind fun _ t4 d4 => sh_ok _
include hs
theorem sh_stmtOf (s : Str) (t d : Nat) : Sh z (stmtOfP ws ex st s t d) (stmtOfP vs ey su s (t + z) d) := by
  unfold stmtOfP
  have tail : ∀ (f : List T → List T) t d, Sh z ((ex t d).bind fun e t d => (shutP ws t d).bind fun _ t d => .ok (f e) t d) ((ey (t + z) d).bind fun e t d => (shutP vs t d).bind fun _ t d => .ok (f e) t d) := fun f t d =>
    (he t d).bind fun _ t3 d3 => (sh_kind hv 5 t3 d3).bind fun _ t4 d4 => sh_ok _
  refine sh_ite ((sh_name hv t d).bind fun _ t2 d2 => tail _ t2 d2) ?_
  refine sh_ite ((sh_name hv t d).bind fun _ t2 d2 => tail _ t2 d2) ?_
  refine sh_ite ((sh_name hv t d).bind fun _ t1 d1 => (sh_within hv he t1 d1).bind fun _ t2 d2 => tail _ t2 d2) ?_
  refine sh_ite ((sh_name hv t d).bind fun _ t1 d1 => (sh_name hv t1 d1).bind fun _ t2 d2 => (sh_kind hv 5 t2 d2).bind fun _ t4 d4 => sh_ok _) ?_
  refine sh_ite (sh_runs hv he _ t d) ?_
  refine sh_ite (sh_runs hv he _ t d) ?_
  refine sh_ite ((he t d).bind fun _ t1 d1 => (sh_all hv hs _ t1 d1).bind fun _ t4 d4 => sh_ok _) ?_
  exact sh_bad
end
section
variable {ex ey : Nat → Nat → Rs (List T)} (he : ∀ t d, Sh z (ex t d) (ey (t + z) d))
include he
theorem sh_stmt : ∀ (f t d : Nat), Sh z (stmtP ws ex f t d) (stmtP vs ey f (t + z) d)
  | 0, t, d => sh_bad1
  | f + 1, t, d => (sh_kind hv 4 t d).bind fun _ t1 d1 => (sh_name hv t1 d1).bind fun s t2 d2 => sh_stmtOf hv he (sh_stmt f) s t2 d2
theorem sh_body : ∀ (m : Nat) (s : Str) (t d : Nat), Sh z (bodyP ws ex m s t d) (bodyP vs ey m s (t + z) d)
  | 0, s, t, d => (sh_bad1 : Sh z _ _)
  | m + 1, s, t, d => by
    simp only [bodyP]
    refine sh_ite ((he t d).bind fun _ t1 d1 => (sh_kind hv 5 t1 d1).bind fun _ t2 d2 => (sh_kind hv 5 t2 d2).bind fun _ t3 d3 => sh_ok _) ?_
    exact (sh_stmtOf hv he (sh_stmt hv he _) s t d).bind fun _ t1 d1 => (sh_kind hv 4 t1 d1).bind fun _ t2 d2 => (sh_name hv t2 d2).bind fun s t3 d3 =>
      (sh_body m s t3 d3).bind fun _ t4 d4 => sh_ok _
end
theorem sh_component (t d : Nat) : Sh z (componentP ws t d) (componentP vs (t + z) d) :=
  (sh_kind hv 4 t d).bind fun _ t1 d1 => (sh_name hv t1 d1).bind fun s t2 d2 =>
    sh_ite ((sh_name hv t2 d2).bind fun name t3 d3 => (sh_name hv t3 d3).bind fun param t4 d4 =>
      ((sh_kind hv 4 t4 0).bind fun _ t5 d5 => (sh_name hv t5 d5).bind fun s t6 d6 =>
        (sh_body hv (sh_expr hv name FU) FU s t6 d6).bind fun p t7 d7 => sh_ok _)) (sh_bad)

end

section
variable {ws vs : List LX.LW} {z : Nat} (hv : ∀ k, vs[k + z]? = ws[k]?) (hl : vs.length = ws.length + z)
include hv hl
theorem sh_program : ∀ (m t d : Nat), Sh z (programP ws m t d) (programP vs m (t + z) d)
  | 0, t, d => sh_bad1
  | m + 1, t, d => by
    simp only [programP]
    have e : (t + z < vs.length) = (t < ws.length) := by rw [hl]; exact propext ⟨fun h => by omega, fun h => by omega⟩
    simp only [e]
    exact sh_ite ((sh_component hv t d).bind fun x t1 d1 => (sh_program m t1 d1).bind fun l t2 d2 => sh_ok _) (sh_ok _)
end
/-- But for the deeds. -/
def fin {α : Type} : Rs α → Rs α
  | .bad t => .bad t
  | .ok x t _ => .ok x t 0
theorem name_d (ws : List LX.LW) (t d d' : Nat) : nameP ws t d = (nameP ws t d').bind fun s t _ => .ok s t d := by
  unfold nameP
  cases ws[t]? with
  | none => rfl
  | some w => dsimp only; split <;> rfl
theorem kind_d (ws : List LX.LW) (k t d d' : Nat) : kindP ws k t d = (kindP ws k t d').bind fun s t _ => .ok s t d := by
  unfold kindP
  cases ws[t]? with
  | none => rfl
  | some w => dsimp only; split <;> rfl
theorem bind_assoc {α β γ : Type} (r : Rs α) (f : α → Nat → Nat → Rs β) (g : β → Nat → Nat → Rs γ) : (r.bind f).bind g = r.bind fun x t d => (f x t d).bind g := by cases r <;> rfl
theorem bind_congr {α β : Type} {r : Rs α} {f g : α → Nat → Nat → Rs β} (h : ∀ x t d, r = .ok x t d → f x t d = g x t d) : r.bind f = r.bind g := by
  cases r with
  | bad t => rfl
  | ok x t d => exact h x t d rfl
theorem component_d (ws : List LX.LW) (t d d' : Nat) : componentP ws t d = componentP ws t d' := by
  have hk : ∀ {α : Type} (k t e : Nat) (f g : Unit → Nat → Nat → Rs α), (∀ x t a b, f x t a = g x t b) → (kindP ws k t d).bind f = (kindP ws k t e).bind g := fun k t e f g h => by
    rw [kind_d ws k t d e, bind_assoc]
    exact bind_congr fun x t a _ => h x t _ _
  have hn : ∀ {α : Type} (t a b : Nat) (f g : Str → Nat → Nat → Rs α), (∀ x t a b, f x t a = g x t b) → (nameP ws t a).bind f = (nameP ws t b).bind g := fun t a b f g h => by
    rw [name_d ws t a b, bind_assoc]
    exact bind_congr fun x t a _ => h x t _ _
  unfold componentP
  refine hk 4 t d' _ _ fun _ t a b => hn t a b _ _ fun s t a b => ?_
  by_cases hs : s = [99, 111, 109, 112]
  · rw [if_pos hs, if_pos hs]
    exact hn t a b _ _ fun name t a b => hn t a b _ _ fun param t _ _ => rfl
  · rw [if_neg hs, if_neg hs]
theorem program_fuel (ws : List LX.LW) : ∀ (m m' t d d' : Nat), t ≤ ws.length → ws.length < m + t → ws.length < m' + t → fin (programP ws m t d) = fin (programP ws m' t d')
  | 0, m', t, d, d', h1, h2, h3 => by omega
  | m + 1, 0, t, d, d', h1, h2, h3 => by omega
  | m + 1, m' + 1, t, d, d', h1, h2, h3 => by
    simp only [programP]
    by_cases ht : t < ws.length
    · rw [if_pos ht, if_pos ht, component_d ws t d d']
      have ha := adv_component rfl t d' h1
      cases hc : componentP ws t d' with
      | bad u => rfl
      | ok x t1 d1 =>
        rw [hc] at ha
        obtain ⟨a, b, -⟩ := ha
        have ih := program_fuel ws m m' t1 d1 d1 b (by omega) (by omega)
        simp only [Rs.bind_ok]
        cases h4 : programP ws m t1 d1 with
        | bad u =>
          cases h5 : programP ws m' t1 d1 with
          | bad v => rw [h4, h5] at ih; injection ih with ih; subst ih; rfl
          | ok q v e => rw [h4, h5] at ih; cases ih
        | ok p u f =>
          cases h5 : programP ws m' t1 d1 with
          | bad v => rw [h4, h5] at ih; cases ih
          | ok q v e => rw [h4, h5] at ih; injection ih with i1 i2; subst i1 i2; rfl
    · rw [if_neg ht, if_neg ht]
      rfl

theorem program_joins {zs ys : List LX.LW} : ∀ (m t d : Nat) (l : List (List T)) (t' d' : Nat), programP zs m t d = .ok l t' d' → t ≤ zs.length → ∀ M, zs.length + ys.length < M + t → ys.length < FU →
    fin (programP (zs ++ ys) M t d) = fin ((sh zs.length (programP ys FU 0 0)).bind fun q t d => .ok (l ++ q) t d) := by
  intro m
  induction m with
  | zero => intro t d l t' d' h; cases h
  | succ m ih =>
    intro t d l t' d' h ht M hM hf
    have hget : ∀ k, (zs ++ ys)[k + zs.length]? = ys[k]? := fun k => by rw [List.getElem?_append_right (by omega)]; congr 1; omega
    have hlen : (zs ++ ys).length = ys.length + zs.length := by rw [List.length_append]; omega
    simp only [programP] at h
    by_cases hlt : t < zs.length
    · rw [if_pos hlt] at h
      have hc := (cu_component (n := zs.length + ys.length) (i := zs.length) (ws := zs ++ ys) (vs := zs) List.length_append (by rw [List.take_left']; rfl) t d (by omega)).2 ht
      have ha := adv_component (n := zs.length) rfl t d ht
      cases hr : componentP zs t d with
      | bad u => rw [hr] at h; cases h
      | ok x t1 d1 =>
        rw [hr] at h hc ha
        rw [Rs.bind_ok] at h
        obtain ⟨a1, a2, -⟩ := ha
        have hw : componentP (zs ++ ys) t d = .ok x t1 d1 := by
          cases hq : componentP (zs ++ ys) t d with
          | bad v => rw [hq] at hc; cases hc
          | ok y v e =>
            rw [hq] at hc
            simp only [cut] at hc
            split at hc
            · exact hc.symm
            · cases hc
        cases hp : programP zs m t1 d1 with
        | bad u => rw [hp] at h; cases h
        | ok l2 t2 d2 =>
          rw [hp, Rs.bind_ok] at h
          injection h with h1 h2 h3
          subst h1
          cases M with
          | zero => omega
          | succ M =>
            have := ih t1 d1 l2 t2 d2 hp a2 M (by omega) hf
            rw [program_succ, if_pos (by omega), hw, Rs.bind_ok]
            cases h4 : programP (zs ++ ys) M t1 d1 with
            | bad u =>
              cases h5 : programP ys FU 0 0 with
              | bad v => rw [h4, h5] at this; exact this
              | ok q v e => rw [h4, h5] at this; cases this
            | ok p u f =>
              cases h5 : programP ys FU 0 0 with
              | bad v => rw [h4, h5] at this; cases this
              | ok q v e => rw [h4, h5] at this; injection this with i1 i2; subst i1 i2; rfl
    · rw [if_neg hlt] at h
      injection h with h1 h2 h3
      subst h1
      obtain rfl : t = zs.length := by omega
      have hs := sh_program hget hlen M 0 d
      rw [Nat.zero_add] at hs
      rw [hs]
      have hfu := program_fuel ys M FU 0 d 0 (by omega) (by omega) (by omega)
      cases h4 : programP ys M 0 d with
      | bad u =>
        cases h5 : programP ys FU 0 0 with
        | bad v => rw [h4, h5] at hfu; injection hfu with hfu; subst hfu; rfl
        | ok q v e => rw [h4, h5] at hfu; cases hfu
      | ok p u f =>
        cases h5 : programP ys FU 0 0 with
        | bad v => rw [h4, h5] at hfu; cases hfu
        | ok q v e => rw [h4, h5] at hfu; injection hfu with i1 i2; subst i1 i2; rfl
/-- TWO TEXTS' WORDS, one behind the other: the second's lines count for nothing. -/
theorem parse_joins {wa wb wc : List LX.LW} {p : List (List T)} (ha : parseP wa = .inr p) (hb : wb.map nol = wc.map nol) (hn : wa.length + wb.length < FU) :
    (∀ q, parseP wb = .inr q → parseP (wa ++ wc) = .inr (p ++ q)) ∧ (∀ k, parseP wb = .inl k → ∃ j, parseP (wa ++ wc) = .inl j) := by
  unfold parseP at ha ⊢
  rw [List.map_append, ← hb]
  cases h1 : programP (wa.map nol) FU 0 0 with
  | bad u => rw [h1] at ha; cases ha
  | ok l t d =>
    rw [h1] at ha
    injection ha with ha
    subst ha
    have hj := program_joins (zs := wa.map nol) (ys := wb.map nol) FU 0 0 l t d h1 (Nat.zero_le _) FU (by simp; omega) (by simp; omega)
    cases h2 : programP (wb.map nol) FU 0 0 with
    | bad u =>
      rw [h2] at hj
      cases h3 : programP (wa.map nol ++ wb.map nol) FU 0 0 with
      | bad v => exact ⟨fun q hq => (by cases hq), fun k _ => ⟨_, rfl⟩⟩
      | ok r v e => rw [h3] at hj; cases hj
    | ok q u e =>
      rw [h2] at hj
      cases h3 : programP (wa.map nol ++ wb.map nol) FU 0 0 with
      | bad v => rw [h3] at hj; cases hj
      | ok r v f =>
        rw [h3] at hj
        injection hj with i1 i2
        subst i1
        exact ⟨fun q' hq => (by injection hq with hq; subst hq; rfl), fun k hk => (by cases hk)⟩
end Go.Proofs.YtdlmemalefhgmaaGreatDoor.G
namespace Go.Proofs.YtdlmemalefhgmaaGreatDoor
set_option linter.unusedVariables false
set_option linter.unusedSimpArgs false
open Go.RowKit G
def cellsA (row : Nat → T) : List T := [row 0, row 1, row 2, row 3, row 4, row 5, row 6, row 7, row 8, row 9, row 10, row 11]
def cellsS (row : Nat → T) : List T := [row 0, row 1, row 2, row 3, row 4, row 5, row 6, row 7, row 8, row 9, row 10, row 11, row 12, row 13, row 14, row 15, row 16]
def cellsC (row : Nat → T) : List T := [row 0, row 1, row 2, row 3, row 4, row 5, row 6, row 7, row 8, row 9, row 10, row 11, row 12]
theorem twoE {row : Nat → T} {o : Nat} {w : World} {ok : Nat → Prop} {vs us : List Value} (hw : WE row o) (h : Row w ok (cellsE row o) vs) (k : Row w ok (cellsE row o) us) :
    ∃ (c0 : Int) (c1 : Int) (c2 : ByteArray) (a3 : Option Addr) (n3 p3 : Nat) (b3 : Option Addr) (m3 q3 : Nat) (a4 : Option Addr) (n4 p4 : Nat) (b4 : Option Addr) (m4 q4 : Nat) (a5 : Option Addr) (n5 p5 : Nat) (b5 : Option Addr) (m5 q5 : Nat) (c6 : Int) (a7 : Option Addr) (n7 p7 : Nat) (b7 : Option Addr) (m7 q7 : Nat) (a8 : Option Addr) (n8 p8 : Nat) (b8 : Option Addr) (m8 q8 : Nat) (c9 : ByteArray), vs = [.int .u8 c0, .int .i64 c1, .string c2, .slice a3 n3 p3, .slice a4 n4 p4, .slice a5 n5 p5, .int .u8 c6, .slice a7 n7 p7, .slice a8 n8 p8, .string c9] ∧ us = [.int .u8 c0, .int .i64 c1, .string c2, .slice b3 m3 q3, .slice b4 m4 q4, .slice b5 m5 q5, .int .u8 c6, .slice b7 m7 q7, .slice b8 m8 q8, .string c9] ∧ (row (o + 3)).Rep w ok (.slice a3 n3 p3) ∧ (row (o + 3)).Rep w ok (.slice b3 m3 q3) ∧ (row (o + 4)).Rep w ok (.slice a4 n4 p4) ∧ (row (o + 4)).Rep w ok (.slice b4 m4 q4) ∧ (row (o + 5)).Rep w ok (.slice a5 n5 p5) ∧ (row (o + 5)).Rep w ok (.slice b5 m5 q5) ∧ (row (o + 7)).Rep w ok (.slice a7 n7 p7) ∧ (row (o + 7)).Rep w ok (.slice b7 m7 q7) ∧ (row (o + 8)).Rep w ok (.slice a8 n8 p8) ∧ (row (o + 8)).Rep w ok (.slice b8 m8 q8) := by
  obtain ⟨h0, h1, h2, h3, h4, h5, h6, h7, h8, h9⟩ := hw
  obtain ⟨y0, _, rfl, g0, h⟩ := row_inv h
  obtain ⟨z0, _, rfl, k0, k⟩ := row_inv k
  obtain ⟨y1, _, rfl, g1, h⟩ := row_inv h
  obtain ⟨z1, _, rfl, k1, k⟩ := row_inv k
  obtain ⟨y2, _, rfl, g2, h⟩ := row_inv h
  obtain ⟨z2, _, rfl, k2, k⟩ := row_inv k
  obtain ⟨y3, _, rfl, g3, h⟩ := row_inv h
  obtain ⟨z3, _, rfl, k3, k⟩ := row_inv k
  obtain ⟨y4, _, rfl, g4, h⟩ := row_inv h
  obtain ⟨z4, _, rfl, k4, k⟩ := row_inv k
  obtain ⟨y5, _, rfl, g5, h⟩ := row_inv h
  obtain ⟨z5, _, rfl, k5, k⟩ := row_inv k
  obtain ⟨y6, _, rfl, g6, h⟩ := row_inv h
  obtain ⟨z6, _, rfl, k6, k⟩ := row_inv k
  obtain ⟨y7, _, rfl, g7, h⟩ := row_inv h
  obtain ⟨z7, _, rfl, k7, k⟩ := row_inv k
  obtain ⟨y8, _, rfl, g8, h⟩ := row_inv h
  obtain ⟨z8, _, rfl, k8, k⟩ := row_inv k
  obtain ⟨y9, _, rfl, g9, h⟩ := row_inv h
  obtain ⟨z9, _, rfl, k9, k⟩ := row_inv k
  cases h
  cases k
  obtain ⟨c0, rfl, e0⟩ := i8_rep h0 g0
  have hz0 := k0
  rw [e0] at hz0
  obtain rfl : z0 = _ := hz0
  obtain ⟨c1, rfl, e1⟩ := i64_rep h1 g1
  have hz1 := k1
  rw [e1] at hz1
  obtain rfl : z1 = _ := hz1
  obtain ⟨c2, rfl, e2⟩ := st_rep h2 g2
  have hz2 := k2
  rw [e2] at hz2
  obtain rfl : z2 = _ := hz2
  obtain ⟨a3, n3, p3, rfl⟩ := wf_rep h3 g3
  obtain ⟨b3, m3, q3, rfl⟩ := wf_rep h3 k3
  obtain ⟨a4, n4, p4, rfl⟩ := wf_rep h4 g4
  obtain ⟨b4, m4, q4, rfl⟩ := wf_rep h4 k4
  obtain ⟨a5, n5, p5, rfl⟩ := wf_rep h5 g5
  obtain ⟨b5, m5, q5, rfl⟩ := wf_rep h5 k5
  obtain ⟨c6, rfl, e6⟩ := i8_rep h6 g6
  have hz6 := k6
  rw [e6] at hz6
  obtain rfl : z6 = _ := hz6
  obtain ⟨a7, n7, p7, rfl⟩ := wf_rep h7 g7
  obtain ⟨b7, m7, q7, rfl⟩ := wf_rep h7 k7
  obtain ⟨a8, n8, p8, rfl⟩ := wf_rep h8 g8
  obtain ⟨b8, m8, q8, rfl⟩ := wf_rep h8 k8
  obtain ⟨c9, rfl, e9⟩ := st_rep h9 g9
  have hz9 := k9
  rw [e9] at hz9
  obtain rfl : z9 = _ := hz9
  exact ⟨c0, c1, c2, a3, n3, p3, b3, m3, q3, a4, n4, p4, b4, m4, q4, a5, n5, p5, b5, m5, q5, c6, a7, n7, p7, b7, m7, q7, a8, n8, p8, b8, m8, q8, c9, rfl, rfl, g3, k3, g4, k4, g5, k5, g7, k7, g8, k8⟩
theorem twoA {row : Nat → T} {w : World} {ok : Nat → Prop} {vs us : List Value} (hw : WA row) (h : Row w ok (cellsA row) vs) (k : Row w ok (cellsA row) us) :
    ∃ (c0 : Int) (c1 : ByteArray) (c2 : Int) (c3 : Int) (c4 : ByteArray) (a5 : Option Addr) (n5 p5 : Nat) (b5 : Option Addr) (m5 q5 : Nat) (a6 : Option Addr) (n6 p6 : Nat) (b6 : Option Addr) (m6 q6 : Nat) (a7 : Option Addr) (n7 p7 : Nat) (b7 : Option Addr) (m7 q7 : Nat) (c8 : Int) (a9 : Option Addr) (n9 p9 : Nat) (b9 : Option Addr) (m9 q9 : Nat) (a10 : Option Addr) (n10 p10 : Nat) (b10 : Option Addr) (m10 q10 : Nat) (c11 : ByteArray), vs = [.int .u8 c0, .string c1, .int .u8 c2, .int .i64 c3, .string c4, .slice a5 n5 p5, .slice a6 n6 p6, .slice a7 n7 p7, .int .u8 c8, .slice a9 n9 p9, .slice a10 n10 p10, .string c11] ∧ us = [.int .u8 c0, .string c1, .int .u8 c2, .int .i64 c3, .string c4, .slice b5 m5 q5, .slice b6 m6 q6, .slice b7 m7 q7, .int .u8 c8, .slice b9 m9 q9, .slice b10 m10 q10, .string c11] ∧ Row w ok (cellsE row 2) [.int .u8 c2, .int .i64 c3, .string c4, .slice a5 n5 p5, .slice a6 n6 p6, .slice a7 n7 p7, .int .u8 c8, .slice a9 n9 p9, .slice a10 n10 p10, .string c11] ∧ Row w ok (cellsE row 2) [.int .u8 c2, .int .i64 c3, .string c4, .slice b5 m5 q5, .slice b6 m6 q6, .slice b7 m7 q7, .int .u8 c8, .slice b9 m9 q9, .slice b10 m10 q10, .string c11] := by
  obtain ⟨h0, h1, h2, h3, h4, h5, h6, h7, h8, h9, h10, h11⟩ := hw
  obtain ⟨y0, _, rfl, g0, h⟩ := row_inv h
  obtain ⟨z0, _, rfl, k0, k⟩ := row_inv k
  obtain ⟨y1, _, rfl, g1, h⟩ := row_inv h
  obtain ⟨z1, _, rfl, k1, k⟩ := row_inv k
  obtain ⟨y2, _, rfl, g2, h⟩ := row_inv h
  obtain ⟨z2, _, rfl, k2, k⟩ := row_inv k
  obtain ⟨y3, _, rfl, g3, h⟩ := row_inv h
  obtain ⟨z3, _, rfl, k3, k⟩ := row_inv k
  obtain ⟨y4, _, rfl, g4, h⟩ := row_inv h
  obtain ⟨z4, _, rfl, k4, k⟩ := row_inv k
  obtain ⟨y5, _, rfl, g5, h⟩ := row_inv h
  obtain ⟨z5, _, rfl, k5, k⟩ := row_inv k
  obtain ⟨y6, _, rfl, g6, h⟩ := row_inv h
  obtain ⟨z6, _, rfl, k6, k⟩ := row_inv k
  obtain ⟨y7, _, rfl, g7, h⟩ := row_inv h
  obtain ⟨z7, _, rfl, k7, k⟩ := row_inv k
  obtain ⟨y8, _, rfl, g8, h⟩ := row_inv h
  obtain ⟨z8, _, rfl, k8, k⟩ := row_inv k
  obtain ⟨y9, _, rfl, g9, h⟩ := row_inv h
  obtain ⟨z9, _, rfl, k9, k⟩ := row_inv k
  obtain ⟨y10, _, rfl, g10, h⟩ := row_inv h
  obtain ⟨z10, _, rfl, k10, k⟩ := row_inv k
  obtain ⟨y11, _, rfl, g11, h⟩ := row_inv h
  obtain ⟨z11, _, rfl, k11, k⟩ := row_inv k
  cases h
  cases k
  obtain ⟨c0, rfl, e0⟩ := i8_rep h0 g0
  have hz0 := k0
  rw [e0] at hz0
  obtain rfl : z0 = _ := hz0
  obtain ⟨c1, rfl, e1⟩ := st_rep h1 g1
  have hz1 := k1
  rw [e1] at hz1
  obtain rfl : z1 = _ := hz1
  obtain ⟨c2, rfl, e2⟩ := i8_rep h2 g2
  have hz2 := k2
  rw [e2] at hz2
  obtain rfl : z2 = _ := hz2
  obtain ⟨c3, rfl, e3⟩ := i64_rep h3 g3
  have hz3 := k3
  rw [e3] at hz3
  obtain rfl : z3 = _ := hz3
  obtain ⟨c4, rfl, e4⟩ := st_rep h4 g4
  have hz4 := k4
  rw [e4] at hz4
  obtain rfl : z4 = _ := hz4
  obtain ⟨a5, n5, p5, rfl⟩ := wf_rep h5 g5
  obtain ⟨b5, m5, q5, rfl⟩ := wf_rep h5 k5
  obtain ⟨a6, n6, p6, rfl⟩ := wf_rep h6 g6
  obtain ⟨b6, m6, q6, rfl⟩ := wf_rep h6 k6
  obtain ⟨a7, n7, p7, rfl⟩ := wf_rep h7 g7
  obtain ⟨b7, m7, q7, rfl⟩ := wf_rep h7 k7
  obtain ⟨c8, rfl, e8⟩ := i8_rep h8 g8
  have hz8 := k8
  rw [e8] at hz8
  obtain rfl : z8 = _ := hz8
  obtain ⟨a9, n9, p9, rfl⟩ := wf_rep h9 g9
  obtain ⟨b9, m9, q9, rfl⟩ := wf_rep h9 k9
  obtain ⟨a10, n10, p10, rfl⟩ := wf_rep h10 g10
  obtain ⟨b10, m10, q10, rfl⟩ := wf_rep h10 k10
  obtain ⟨c11, rfl, e11⟩ := st_rep h11 g11
  have hz11 := k11
  rw [e11] at hz11
  obtain rfl : z11 = _ := hz11
  exact ⟨c0, c1, c2, c3, c4, a5, n5, p5, b5, m5, q5, a6, n6, p6, b6, m6, q6, a7, n7, p7, b7, m7, q7, c8, a9, n9, p9, b9, m9, q9, a10, n10, p10, b10, m10, q10, c11, rfl, rfl, .cons g2 (.cons g3 (.cons g4 (.cons g5 (.cons g6 (.cons g7 (.cons g8 (.cons g9 (.cons g10 (.cons g11 .nil))))))))), .cons k2 (.cons k3 (.cons k4 (.cons k5 (.cons k6 (.cons k7 (.cons k8 (.cons k9 (.cons k10 (.cons k11 .nil)))))))))⟩
theorem twoS {row : Nat → T} {w : World} {ok : Nat → Prop} {vs us : List Value} (hw : WS row) (h : Row w ok (cellsS row) vs) (k : Row w ok (cellsS row) us) :
    ∃ (c0 : Int) (c1 : ByteArray) (c2 : ByteArray) (c3 : Int) (c4 : Int) (c5 : ByteArray) (a6 : Option Addr) (n6 p6 : Nat) (b6 : Option Addr) (m6 q6 : Nat) (a7 : Option Addr) (n7 p7 : Nat) (b7 : Option Addr) (m7 q7 : Nat) (a8 : Option Addr) (n8 p8 : Nat) (b8 : Option Addr) (m8 q8 : Nat) (c9 : Int) (a10 : Option Addr) (n10 p10 : Nat) (b10 : Option Addr) (m10 q10 : Nat) (a11 : Option Addr) (n11 p11 : Nat) (b11 : Option Addr) (m11 q11 : Nat) (c12 : ByteArray) (a13 : Option Addr) (n13 p13 : Nat) (b13 : Option Addr) (m13 q13 : Nat) (a14 : Option Addr) (n14 p14 : Nat) (b14 : Option Addr) (m14 q14 : Nat) (a15 : Option Addr) (n15 p15 : Nat) (b15 : Option Addr) (m15 q15 : Nat) (a16 : Option Addr) (n16 p16 : Nat) (b16 : Option Addr) (m16 q16 : Nat), vs = [.int .u8 c0, .string c1, .string c2, .int .u8 c3, .int .i64 c4, .string c5, .slice a6 n6 p6, .slice a7 n7 p7, .slice a8 n8 p8, .int .u8 c9, .slice a10 n10 p10, .slice a11 n11 p11, .string c12, .slice a13 n13 p13, .slice a14 n14 p14, .slice a15 n15 p15, .slice a16 n16 p16] ∧ us = [.int .u8 c0, .string c1, .string c2, .int .u8 c3, .int .i64 c4, .string c5, .slice b6 m6 q6, .slice b7 m7 q7, .slice b8 m8 q8, .int .u8 c9, .slice b10 m10 q10, .slice b11 m11 q11, .string c12, .slice b13 m13 q13, .slice b14 m14 q14, .slice b15 m15 q15, .slice b16 m16 q16] ∧ Row w ok (cellsE row 3) [.int .u8 c3, .int .i64 c4, .string c5, .slice a6 n6 p6, .slice a7 n7 p7, .slice a8 n8 p8, .int .u8 c9, .slice a10 n10 p10, .slice a11 n11 p11, .string c12] ∧ Row w ok (cellsE row 3) [.int .u8 c3, .int .i64 c4, .string c5, .slice b6 m6 q6, .slice b7 m7 q7, .slice b8 m8 q8, .int .u8 c9, .slice b10 m10 q10, .slice b11 m11 q11, .string c12] ∧ (row 13).Rep w ok (.slice a13 n13 p13) ∧ (row 13).Rep w ok (.slice b13 m13 q13) ∧ (row 14).Rep w ok (.slice a14 n14 p14) ∧ (row 14).Rep w ok (.slice b14 m14 q14) ∧ (row 15).Rep w ok (.slice a15 n15 p15) ∧ (row 15).Rep w ok (.slice b15 m15 q15) ∧ (row 16).Rep w ok (.slice a16 n16 p16) ∧ (row 16).Rep w ok (.slice b16 m16 q16) := by
  obtain ⟨h0, h1, h2, ⟨h3, h4, h5, h6, h7, h8, h9, h10, h11, h12⟩, h13, h14, h15, h16⟩ := hw
  obtain ⟨y0, _, rfl, g0, h⟩ := row_inv h
  obtain ⟨z0, _, rfl, k0, k⟩ := row_inv k
  obtain ⟨y1, _, rfl, g1, h⟩ := row_inv h
  obtain ⟨z1, _, rfl, k1, k⟩ := row_inv k
  obtain ⟨y2, _, rfl, g2, h⟩ := row_inv h
  obtain ⟨z2, _, rfl, k2, k⟩ := row_inv k
  obtain ⟨y3, _, rfl, g3, h⟩ := row_inv h
  obtain ⟨z3, _, rfl, k3, k⟩ := row_inv k
  obtain ⟨y4, _, rfl, g4, h⟩ := row_inv h
  obtain ⟨z4, _, rfl, k4, k⟩ := row_inv k
  obtain ⟨y5, _, rfl, g5, h⟩ := row_inv h
  obtain ⟨z5, _, rfl, k5, k⟩ := row_inv k
  obtain ⟨y6, _, rfl, g6, h⟩ := row_inv h
  obtain ⟨z6, _, rfl, k6, k⟩ := row_inv k
  obtain ⟨y7, _, rfl, g7, h⟩ := row_inv h
  obtain ⟨z7, _, rfl, k7, k⟩ := row_inv k
  obtain ⟨y8, _, rfl, g8, h⟩ := row_inv h
  obtain ⟨z8, _, rfl, k8, k⟩ := row_inv k
  obtain ⟨y9, _, rfl, g9, h⟩ := row_inv h
  obtain ⟨z9, _, rfl, k9, k⟩ := row_inv k
  obtain ⟨y10, _, rfl, g10, h⟩ := row_inv h
  obtain ⟨z10, _, rfl, k10, k⟩ := row_inv k
  obtain ⟨y11, _, rfl, g11, h⟩ := row_inv h
  obtain ⟨z11, _, rfl, k11, k⟩ := row_inv k
  obtain ⟨y12, _, rfl, g12, h⟩ := row_inv h
  obtain ⟨z12, _, rfl, k12, k⟩ := row_inv k
  obtain ⟨y13, _, rfl, g13, h⟩ := row_inv h
  obtain ⟨z13, _, rfl, k13, k⟩ := row_inv k
  obtain ⟨y14, _, rfl, g14, h⟩ := row_inv h
  obtain ⟨z14, _, rfl, k14, k⟩ := row_inv k
  obtain ⟨y15, _, rfl, g15, h⟩ := row_inv h
  obtain ⟨z15, _, rfl, k15, k⟩ := row_inv k
  obtain ⟨y16, _, rfl, g16, h⟩ := row_inv h
  obtain ⟨z16, _, rfl, k16, k⟩ := row_inv k
  cases h
  cases k
  obtain ⟨c0, rfl, e0⟩ := i8_rep h0 g0
  have hz0 := k0
  rw [e0] at hz0
  obtain rfl : z0 = _ := hz0
  obtain ⟨c1, rfl, e1⟩ := st_rep h1 g1
  have hz1 := k1
  rw [e1] at hz1
  obtain rfl : z1 = _ := hz1
  obtain ⟨c2, rfl, e2⟩ := st_rep h2 g2
  have hz2 := k2
  rw [e2] at hz2
  obtain rfl : z2 = _ := hz2
  obtain ⟨c3, rfl, e3⟩ := i8_rep h3 g3
  have hz3 := k3
  rw [e3] at hz3
  obtain rfl : z3 = _ := hz3
  obtain ⟨c4, rfl, e4⟩ := i64_rep h4 g4
  have hz4 := k4
  rw [e4] at hz4
  obtain rfl : z4 = _ := hz4
  obtain ⟨c5, rfl, e5⟩ := st_rep h5 g5
  have hz5 := k5
  rw [e5] at hz5
  obtain rfl : z5 = _ := hz5
  obtain ⟨a6, n6, p6, rfl⟩ := wf_rep h6 g6
  obtain ⟨b6, m6, q6, rfl⟩ := wf_rep h6 k6
  obtain ⟨a7, n7, p7, rfl⟩ := wf_rep h7 g7
  obtain ⟨b7, m7, q7, rfl⟩ := wf_rep h7 k7
  obtain ⟨a8, n8, p8, rfl⟩ := wf_rep h8 g8
  obtain ⟨b8, m8, q8, rfl⟩ := wf_rep h8 k8
  obtain ⟨c9, rfl, e9⟩ := i8_rep h9 g9
  have hz9 := k9
  rw [e9] at hz9
  obtain rfl : z9 = _ := hz9
  obtain ⟨a10, n10, p10, rfl⟩ := wf_rep h10 g10
  obtain ⟨b10, m10, q10, rfl⟩ := wf_rep h10 k10
  obtain ⟨a11, n11, p11, rfl⟩ := wf_rep h11 g11
  obtain ⟨b11, m11, q11, rfl⟩ := wf_rep h11 k11
  obtain ⟨c12, rfl, e12⟩ := st_rep h12 g12
  have hz12 := k12
  rw [e12] at hz12
  obtain rfl : z12 = _ := hz12
  obtain ⟨a13, n13, p13, rfl⟩ := wf_rep h13 g13
  obtain ⟨b13, m13, q13, rfl⟩ := wf_rep h13 k13
  obtain ⟨a14, n14, p14, rfl⟩ := wf_rep h14 g14
  obtain ⟨b14, m14, q14, rfl⟩ := wf_rep h14 k14
  obtain ⟨a15, n15, p15, rfl⟩ := wf_rep h15 g15
  obtain ⟨b15, m15, q15, rfl⟩ := wf_rep h15 k15
  obtain ⟨a16, n16, p16, rfl⟩ := wf_rep h16 g16
  obtain ⟨b16, m16, q16, rfl⟩ := wf_rep h16 k16
  exact ⟨c0, c1, c2, c3, c4, c5, a6, n6, p6, b6, m6, q6, a7, n7, p7, b7, m7, q7, a8, n8, p8, b8, m8, q8, c9, a10, n10, p10, b10, m10, q10, a11, n11, p11, b11, m11, q11, c12, a13, n13, p13, b13, m13, q13, a14, n14, p14, b14, m14, q14, a15, n15, p15, b15, m15, q15, a16, n16, p16, b16, m16, q16, rfl, rfl, .cons g3 (.cons g4 (.cons g5 (.cons g6 (.cons g7 (.cons g8 (.cons g9 (.cons g10 (.cons g11 (.cons g12 .nil))))))))), .cons k3 (.cons k4 (.cons k5 (.cons k6 (.cons k7 (.cons k8 (.cons k9 (.cons k10 (.cons k11 (.cons k12 .nil))))))))), g13, k13, g14, k14, g15, k15, g16, k16⟩
theorem twoC {row : Nat → T} {w : World} {ok : Nat → Prop} {vs us : List Value} (hw : WC row) (h : Row w ok (cellsC row) vs) (k : Row w ok (cellsC row) us) :
    ∃ (c0 : ByteArray) (c1 : ByteArray) (a2 : Option Addr) (n2 p2 : Nat) (b2 : Option Addr) (m2 q2 : Nat) (c3 : Int) (c4 : Int) (c5 : ByteArray) (a6 : Option Addr) (n6 p6 : Nat) (b6 : Option Addr) (m6 q6 : Nat) (a7 : Option Addr) (n7 p7 : Nat) (b7 : Option Addr) (m7 q7 : Nat) (a8 : Option Addr) (n8 p8 : Nat) (b8 : Option Addr) (m8 q8 : Nat) (c9 : Int) (a10 : Option Addr) (n10 p10 : Nat) (b10 : Option Addr) (m10 q10 : Nat) (a11 : Option Addr) (n11 p11 : Nat) (b11 : Option Addr) (m11 q11 : Nat) (c12 : ByteArray), vs = [.string c0, .string c1, .slice a2 n2 p2, .int .u8 c3, .int .i64 c4, .string c5, .slice a6 n6 p6, .slice a7 n7 p7, .slice a8 n8 p8, .int .u8 c9, .slice a10 n10 p10, .slice a11 n11 p11, .string c12] ∧ us = [.string c0, .string c1, .slice b2 m2 q2, .int .u8 c3, .int .i64 c4, .string c5, .slice b6 m6 q6, .slice b7 m7 q7, .slice b8 m8 q8, .int .u8 c9, .slice b10 m10 q10, .slice b11 m11 q11, .string c12] ∧ Row w ok (cellsE row 3) [.int .u8 c3, .int .i64 c4, .string c5, .slice a6 n6 p6, .slice a7 n7 p7, .slice a8 n8 p8, .int .u8 c9, .slice a10 n10 p10, .slice a11 n11 p11, .string c12] ∧ Row w ok (cellsE row 3) [.int .u8 c3, .int .i64 c4, .string c5, .slice b6 m6 q6, .slice b7 m7 q7, .slice b8 m8 q8, .int .u8 c9, .slice b10 m10 q10, .slice b11 m11 q11, .string c12] ∧ (row 2).Rep w ok (.slice a2 n2 p2) ∧ (row 2).Rep w ok (.slice b2 m2 q2) := by
  obtain ⟨h0, h1, h2, h3, h4, h5, h6, h7, h8, h9, h10, h11, h12⟩ := hw
  obtain ⟨y0, _, rfl, g0, h⟩ := row_inv h
  obtain ⟨z0, _, rfl, k0, k⟩ := row_inv k
  obtain ⟨y1, _, rfl, g1, h⟩ := row_inv h
  obtain ⟨z1, _, rfl, k1, k⟩ := row_inv k
  obtain ⟨y2, _, rfl, g2, h⟩ := row_inv h
  obtain ⟨z2, _, rfl, k2, k⟩ := row_inv k
  obtain ⟨y3, _, rfl, g3, h⟩ := row_inv h
  obtain ⟨z3, _, rfl, k3, k⟩ := row_inv k
  obtain ⟨y4, _, rfl, g4, h⟩ := row_inv h
  obtain ⟨z4, _, rfl, k4, k⟩ := row_inv k
  obtain ⟨y5, _, rfl, g5, h⟩ := row_inv h
  obtain ⟨z5, _, rfl, k5, k⟩ := row_inv k
  obtain ⟨y6, _, rfl, g6, h⟩ := row_inv h
  obtain ⟨z6, _, rfl, k6, k⟩ := row_inv k
  obtain ⟨y7, _, rfl, g7, h⟩ := row_inv h
  obtain ⟨z7, _, rfl, k7, k⟩ := row_inv k
  obtain ⟨y8, _, rfl, g8, h⟩ := row_inv h
  obtain ⟨z8, _, rfl, k8, k⟩ := row_inv k
  obtain ⟨y9, _, rfl, g9, h⟩ := row_inv h
  obtain ⟨z9, _, rfl, k9, k⟩ := row_inv k
  obtain ⟨y10, _, rfl, g10, h⟩ := row_inv h
  obtain ⟨z10, _, rfl, k10, k⟩ := row_inv k
  obtain ⟨y11, _, rfl, g11, h⟩ := row_inv h
  obtain ⟨z11, _, rfl, k11, k⟩ := row_inv k
  obtain ⟨y12, _, rfl, g12, h⟩ := row_inv h
  obtain ⟨z12, _, rfl, k12, k⟩ := row_inv k
  cases h
  cases k
  obtain ⟨c0, rfl, e0⟩ := st_rep h0 g0
  have hz0 := k0
  rw [e0] at hz0
  obtain rfl : z0 = _ := hz0
  obtain ⟨c1, rfl, e1⟩ := st_rep h1 g1
  have hz1 := k1
  rw [e1] at hz1
  obtain rfl : z1 = _ := hz1
  obtain ⟨a2, n2, p2, rfl⟩ := wf_rep h2 g2
  obtain ⟨b2, m2, q2, rfl⟩ := wf_rep h2 k2
  obtain ⟨c3, rfl, e3⟩ := i8_rep h3 g3
  have hz3 := k3
  rw [e3] at hz3
  obtain rfl : z3 = _ := hz3
  obtain ⟨c4, rfl, e4⟩ := i64_rep h4 g4
  have hz4 := k4
  rw [e4] at hz4
  obtain rfl : z4 = _ := hz4
  obtain ⟨c5, rfl, e5⟩ := st_rep h5 g5
  have hz5 := k5
  rw [e5] at hz5
  obtain rfl : z5 = _ := hz5
  obtain ⟨a6, n6, p6, rfl⟩ := wf_rep h6 g6
  obtain ⟨b6, m6, q6, rfl⟩ := wf_rep h6 k6
  obtain ⟨a7, n7, p7, rfl⟩ := wf_rep h7 g7
  obtain ⟨b7, m7, q7, rfl⟩ := wf_rep h7 k7
  obtain ⟨a8, n8, p8, rfl⟩ := wf_rep h8 g8
  obtain ⟨b8, m8, q8, rfl⟩ := wf_rep h8 k8
  obtain ⟨c9, rfl, e9⟩ := i8_rep h9 g9
  have hz9 := k9
  rw [e9] at hz9
  obtain rfl : z9 = _ := hz9
  obtain ⟨a10, n10, p10, rfl⟩ := wf_rep h10 g10
  obtain ⟨b10, m10, q10, rfl⟩ := wf_rep h10 k10
  obtain ⟨a11, n11, p11, rfl⟩ := wf_rep h11 g11
  obtain ⟨b11, m11, q11, rfl⟩ := wf_rep h11 k11
  obtain ⟨c12, rfl, e12⟩ := st_rep h12 g12
  have hz12 := k12
  rw [e12] at hz12
  obtain rfl : z12 = _ := hz12
  exact ⟨c0, c1, a2, n2, p2, b2, m2, q2, c3, c4, c5, a6, n6, p6, b6, m6, q6, a7, n7, p7, b7, m7, q7, a8, n8, p8, b8, m8, q8, c9, a10, n10, p10, b10, m10, q10, a11, n11, p11, b11, m11, q11, c12, rfl, rfl, .cons g3 (.cons g4 (.cons g5 (.cons g6 (.cons g7 (.cons g8 (.cons g9 (.cons g10 (.cons g11 (.cons g12 .nil))))))))), .cons k3 (.cons k4 (.cons k5 (.cons k6 (.cons k7 (.cons k8 (.cons k9 (.cons k10 (.cons k11 (.cons k12 .nil))))))))), g2, k2⟩
def SE (w0 : World) (row : Nat → T) (o : Nat) : Prop := ∀ (W : World) (vs us : List Value), Below w0.heap.size w0 W → Row w0 (fun _ => True) (cellsE row o) vs → Row w0 (fun _ => True) (cellsE row o) us →
  Calls Tryz.prog 79 #[.agg vs.toArray, .agg us.toArray] W fun e W' => e = .returned (.bool true) ∧ Below W.heap.size W W'
def SA (w0 : World) (row : Nat → T) : Prop := ∀ (W : World) (vs us : List Value), Below w0.heap.size w0 W → Row w0 (fun _ => True) (cellsA row) vs → Row w0 (fun _ => True) (cellsA row) us →
  Calls Tryz.prog 114 #[.agg vs.toArray, .agg us.toArray] W fun e W' => e = .returned (.bool true) ∧ Below W.heap.size W W'
def SS (w0 : World) (row : Nat → T) : Prop := ∀ (W : World) (vs us : List Value), Below w0.heap.size w0 W → Row w0 (fun _ => True) (cellsS row) vs → Row w0 (fun _ => True) (cellsS row) us →
  Calls Tryz.prog 96 #[.agg vs.toArray, .agg us.toArray] W fun e W' => e = .returned (.bool true) ∧ Below W.heap.size W W'
def SC (w0 : World) (row : Nat → T) : Prop := ∀ (W : World) (vs us : List Value), Below w0.heap.size w0 W → Row w0 (fun _ => True) (cellsC row) vs → Row w0 (fun _ => True) (cellsC row) us →
  Calls Tryz.prog 55 #[.agg vs.toArray, .agg us.toArray] W fun e W' => e = .returned (.bool true) ∧ Below W.heap.size W W'
def LX0 (w0 : World) (t : T) : Prop := ∀ (W : World) (a b : Value), Below w0.heap.size w0 W → t.Rep w0 (fun _ => True) a → t.Rep w0 (fun _ => True) b →
  Calls Tryz.prog 97 #[a, b] W fun e W' => e = .returned (.bool true) ∧ Below W.heap.size W W'
def LX1 (w0 : World) (t : T) : Prop := ∀ (W : World) (a b : Value), Below w0.heap.size w0 W → t.Rep w0 (fun _ => True) a → t.Rep w0 (fun _ => True) b →
  Calls Tryz.prog 99 #[a, b] W fun e W' => e = .returned (.bool true) ∧ Below W.heap.size W W'
def LX2 (w0 : World) (t : T) : Prop := ∀ (W : World) (a b : Value), Below w0.heap.size w0 W → t.Rep w0 (fun _ => True) a → t.Rep w0 (fun _ => True) b →
  Calls Tryz.prog 78 #[a, b] W fun e W' => e = .returned (.bool true) ∧ Below W.heap.size W W'
def LX3 (w0 : World) (t : T) : Prop := ∀ (W : World) (a b : Value), Below w0.heap.size w0 W → t.Rep w0 (fun _ => True) a → t.Rep w0 (fun _ => True) b →
  Calls Tryz.prog 98 #[a, b] W fun e W' => e = .returned (.bool true) ∧ Below W.heap.size W W'
def LX4 (w0 : World) (t : T) : Prop := ∀ (W : World) (a b : Value), Below w0.heap.size w0 W → t.Rep w0 (fun _ => True) a → t.Rep w0 (fun _ => True) b →
  Calls Tryz.prog 26 #[a, b] W fun e W' => e = .returned (.bool true) ∧ Below W.heap.size W W'
set_option maxRecDepth 100000 in
set_option maxHeartbeats 16000000 in
theorem sameE_step (w0 : World) (row : Nat → T) (o : Nat) (hw : WE row o) (h3 : LX0 w0 (row (o + 3))) (h4 : LX3 w0 (row (o + 4))) (h5 : LX0 w0 (row (o + 5))) (h7 : LX0 w0 (row (o + 7))) (h8 : LX1 w0 (row (o + 8))) : SE w0 row o := by
  intro W vs us hb hr hs
  obtain ⟨c0, c1, c2, a3, n3, p3, b3, m3, q3, a4, n4, p4, b4, m4, q4, a5, n5, p5, b5, m5, q5, c6, a7, n7, p7, b7, m7, q7, a8, n8, p8, b8, m8, q8, c9, rfl, rfl, r3, k3, r4, k4, r5, k5, r7, k7, r8, k8⟩ := twoE hw hr hs
  obtain ⟨Wb, hWb⟩ : ∃ Wb, (W.alloc (.cells #[.int .u8 c0, .int .i64 c1, .string c2, .slice a3 n3 p3, .slice a4 n4 p4, .slice a5 n5 p5, .int .u8 c6, .slice a7 n7 p7, .slice a8 n8 p8, .string c9] 42)).alloc (.cells #[.int .u8 c0, .int .i64 c1, .string c2, .slice b3 m3 q3, .slice b4 m4 q4, .slice b5 m5 q5, .int .u8 c6, .slice b7 m7 q7, .slice b8 m8 q8, .string c9] 42) = Wb := ⟨_, rfl⟩
  have hx : Wb.heap[W.heap.size]? = some (.cells #[.int .u8 c0, .int .i64 c1, .string c2, .slice a3 n3 p3, .slice a4 n4 p4, .slice a5 n5 p5, .int .u8 c6, .slice a7 n7 p7, .slice a8 n8 p8, .string c9] 42 (0, 0)) := by rw [← hWb]; exact new2a _ _ _ _ _
  have hy : Wb.heap[W.heap.size + 1]? = some (.cells #[.int .u8 c0, .int .i64 c1, .string c2, .slice b3 m3 q3, .slice b4 m4 q4, .slice b5 m5 q5, .int .u8 c6, .slice b7 m7 q7, .slice b8 m8 q8, .string c9] 42 (0, 0)) := by rw [← hWb]; exact new2b _ _ _ _
  have hbb : Below W.heap.size W Wb := by rw [← hWb]; exact ((Below.refl _ _).alloc (Nat.le_refl _) _).alloc (by simp) _
  have hz : W.heap.size + 2 = Wb.heap.size := by rw [← hWb]; simp
  have hb0 : ∀ W', Below Wb.heap.size Wb W' → Below w0.heap.size w0 W' := fun W' h => (hb.trans (hbb.mono hb.size)).trans (h.mono (Nat.le_trans hb.size hbb.size))
  have HX : Hid (∀ W', Below Wb.heap.size Wb W' → W'.heap[W.heap.size]? = some (.cells #[.int .u8 c0, .int .i64 c1, .string c2, .slice a3 n3 p3, .slice a4 n4 p4, .slice a5 n5 p5, .int .u8 c6, .slice a7 n7 p7, .slice a8 n8 p8, .string c9] 42 (0, 0)) ∧ W'.heap[W.heap.size + 1]? = some (.cells #[.int .u8 c0, .int .i64 c1, .string c2, .slice b3 m3 q3, .slice b4 m4 q4, .slice b5 m5 q5, .int .u8 c6, .slice b7 m7 q7, .slice b8 m8 q8, .string c9] 42 (0, 0))) := fun W' h => ⟨(h.block _ (by omega)).trans hx, (h.block _ (by omega)).trans hy⟩
  have H3 : Hid (∀ W', Below Wb.heap.size Wb W' → Calls Tryz.prog 97 #[.slice a3 n3 p3, .slice b3 m3 q3] W' fun e W'' => e = .returned (.bool true) ∧ Below W'.heap.size W' W'') := fun W' h => h3 W' _ _ (hb0 W' h) r3 k3
  have H4 : Hid (∀ W', Below Wb.heap.size Wb W' → Calls Tryz.prog 98 #[.slice a4 n4 p4, .slice b4 m4 q4] W' fun e W'' => e = .returned (.bool true) ∧ Below W'.heap.size W' W'') := fun W' h => h4 W' _ _ (hb0 W' h) r4 k4
  have H5 : Hid (∀ W', Below Wb.heap.size Wb W' → Calls Tryz.prog 97 #[.slice a5 n5 p5, .slice b5 m5 q5] W' fun e W'' => e = .returned (.bool true) ∧ Below W'.heap.size W' W'') := fun W' h => h5 W' _ _ (hb0 W' h) r5 k5
  have H7 : Hid (∀ W', Below Wb.heap.size Wb W' → Calls Tryz.prog 97 #[.slice a7 n7 p7, .slice b7 m7 q7] W' fun e W'' => e = .returned (.bool true) ∧ Below W'.heap.size W' W'') := fun W' h => h7 W' _ _ (hb0 W' h) r7 k7
  have H8 : Hid (∀ W', Below Wb.heap.size Wb W' → Calls Tryz.prog 99 #[.slice a8 n8 p8, .slice b8 m8 q8] W' fun e W'' => e = .returned (.bool true) ∧ Below W'.heap.size W' W'') := fun W' h => h8 W' _ _ (hb0 W' h) r8 k8
  have HW := Lib.hid hbb
  have HB := Lib.hid (Below.refl Wb.heap.size Wb)
  clear hr hs hb hx hy hbb hz hb0 hw r3 k3 r4 k4 r5 k5 r7 k7 r8 k8 h3 h4 h5 h7 h8
  obtain ⟨hx2, hy2⟩ := HX.out _ HB.out
  obtain ⟨⟨x0, x1, x2, x3, x4, x5, x6, x7, x8, x9⟩, -⟩ := blk10 hx2
  obtain ⟨⟨y0, y1, y2, y3, y4, y5, y6, y7, y8, y9⟩, -⟩ := blk10 hy2
  clear hx2 hy2
  go_enter Tryz.func79, Tryz.ntmps79
  go_wp2_with (first
    | (go_at_call 97; (first | (with_reducible refine (H3.out _ HB.out).mono ?_) | (with_reducible refine (H5.out _ HB.out).mono ?_) | (with_reducible refine (H7.out _ HB.out).mono ?_)); rintro e1 w1 ⟨rfl, hb1⟩; replace HB := Lib.hid (HB.out.trans (hb1.mono HB.out.size)); clear hb1 x0 y0 x1 y1 x2 y2 x3 y3 x4 y4 x5 y5 x6 y6 x7 y7 x8 y8 x9 y9; obtain ⟨hx2, hy2⟩ := HX.out _ HB.out; obtain ⟨⟨x0, x1, x2, x3, x4, x5, x6, x7, x8, x9⟩, -⟩ := blk10 hx2; obtain ⟨⟨y0, y1, y2, y3, y4, y5, y6, y7, y8, y9⟩, -⟩ := blk10 hy2; clear hx2 hy2)
    | (go_at_call 98; (first | (with_reducible refine (H4.out _ HB.out).mono ?_)); rintro e1 w1 ⟨rfl, hb1⟩; replace HB := Lib.hid (HB.out.trans (hb1.mono HB.out.size)); clear hb1 x0 y0 x1 y1 x2 y2 x3 y3 x4 y4 x5 y5 x6 y6 x7 y7 x8 y8 x9 y9; obtain ⟨hx2, hy2⟩ := HX.out _ HB.out; obtain ⟨⟨x0, x1, x2, x3, x4, x5, x6, x7, x8, x9⟩, -⟩ := blk10 hx2; obtain ⟨⟨y0, y1, y2, y3, y4, y5, y6, y7, y8, y9⟩, -⟩ := blk10 hy2; clear hx2 hy2)
    | (go_at_call 99; (first | (with_reducible refine (H8.out _ HB.out).mono ?_)); rintro e1 w1 ⟨rfl, hb1⟩; replace HB := Lib.hid (HB.out.trans (hb1.mono HB.out.size)); clear hb1 x0 y0 x1 y1 x2 y2 x3 y3 x4 y4 x5 y5 x6 y6 x7 y7 x8 y8 x9 y9; obtain ⟨hx2, hy2⟩ := HX.out _ HB.out; obtain ⟨⟨x0, x1, x2, x3, x4, x5, x6, x7, x8, x9⟩, -⟩ := blk10 hx2; obtain ⟨⟨y0, y1, y2, y3, y4, y5, y6, y7, y8, y9⟩, -⟩ := blk10 hy2; clear hx2 hy2))
  try go_ret
  exact ⟨rfl, HW.out.trans (HB.out.mono HW.out.size)⟩
set_option maxRecDepth 100000 in
set_option maxHeartbeats 16000000 in
theorem sameA_step (w0 : World) (row : Nat → T) (hw : WA row) (hE : SE w0 row 2) : SA w0 row := by
  intro W vs us hb hr hs
  obtain ⟨c0, c1, c2, c3, c4, a5, n5, p5, b5, m5, q5, a6, n6, p6, b6, m6, q6, a7, n7, p7, b7, m7, q7, c8, a9, n9, p9, b9, m9, q9, a10, n10, p10, b10, m10, q10, c11, rfl, rfl, re, ke⟩ := twoA hw hr hs
  obtain ⟨Wb, hWb⟩ : ∃ Wb, (W.alloc (.cells #[.int .u8 c0, .string c1, .int .u8 c2, .int .i64 c3, .string c4, .slice a5 n5 p5, .slice a6 n6 p6, .slice a7 n7 p7, .int .u8 c8, .slice a9 n9 p9, .slice a10 n10 p10, .string c11] 68)).alloc (.cells #[.int .u8 c0, .string c1, .int .u8 c2, .int .i64 c3, .string c4, .slice b5 m5 q5, .slice b6 m6 q6, .slice b7 m7 q7, .int .u8 c8, .slice b9 m9 q9, .slice b10 m10 q10, .string c11] 68) = Wb := ⟨_, rfl⟩
  have hx : Wb.heap[W.heap.size]? = some (.cells #[.int .u8 c0, .string c1, .int .u8 c2, .int .i64 c3, .string c4, .slice a5 n5 p5, .slice a6 n6 p6, .slice a7 n7 p7, .int .u8 c8, .slice a9 n9 p9, .slice a10 n10 p10, .string c11] 68 (0, 0)) := by rw [← hWb]; exact new2a _ _ _ _ _
  have hy : Wb.heap[W.heap.size + 1]? = some (.cells #[.int .u8 c0, .string c1, .int .u8 c2, .int .i64 c3, .string c4, .slice b5 m5 q5, .slice b6 m6 q6, .slice b7 m7 q7, .int .u8 c8, .slice b9 m9 q9, .slice b10 m10 q10, .string c11] 68 (0, 0)) := by rw [← hWb]; exact new2b _ _ _ _
  have hbb : Below W.heap.size W Wb := by rw [← hWb]; exact ((Below.refl _ _).alloc (Nat.le_refl _) _).alloc (by simp) _
  have hz : W.heap.size + 2 = Wb.heap.size := by rw [← hWb]; simp
  have hb0 : ∀ W', Below Wb.heap.size Wb W' → Below w0.heap.size w0 W' := fun W' h => (hb.trans (hbb.mono hb.size)).trans (h.mono (Nat.le_trans hb.size hbb.size))
  have HX : Hid (∀ W', Below Wb.heap.size Wb W' → W'.heap[W.heap.size]? = some (.cells #[.int .u8 c0, .string c1, .int .u8 c2, .int .i64 c3, .string c4, .slice a5 n5 p5, .slice a6 n6 p6, .slice a7 n7 p7, .int .u8 c8, .slice a9 n9 p9, .slice a10 n10 p10, .string c11] 68 (0, 0)) ∧ W'.heap[W.heap.size + 1]? = some (.cells #[.int .u8 c0, .string c1, .int .u8 c2, .int .i64 c3, .string c4, .slice b5 m5 q5, .slice b6 m6 q6, .slice b7 m7 q7, .int .u8 c8, .slice b9 m9 q9, .slice b10 m10 q10, .string c11] 68 (0, 0))) := fun W' h => ⟨(h.block _ (by omega)).trans hx, (h.block _ (by omega)).trans hy⟩
  have HE : Hid (∀ W', Below Wb.heap.size Wb W' → Calls Tryz.prog 79 #[.agg #[.int .u8 c2, .int .i64 c3, .string c4, .slice a5 n5 p5, .slice a6 n6 p6, .slice a7 n7 p7, .int .u8 c8, .slice a9 n9 p9, .slice a10 n10 p10, .string c11], .agg #[.int .u8 c2, .int .i64 c3, .string c4, .slice b5 m5 q5, .slice b6 m6 q6, .slice b7 m7 q7, .int .u8 c8, .slice b9 m9 q9, .slice b10 m10 q10, .string c11]] W' fun e W'' => e = .returned (.bool true) ∧ Below W'.heap.size W' W'') := fun W' h => hE W' _ _ (hb0 W' h) re ke
  have HW := Lib.hid hbb
  have HB := Lib.hid (Below.refl Wb.heap.size Wb)
  clear hr hs hb hx hy hbb hz hb0 hw re ke hE
  obtain ⟨hx2, hy2⟩ := HX.out _ HB.out
  obtain ⟨⟨x0, x1, x2, x3, x4, x5, x6, x7, x8, x9, x10, x11⟩, -⟩ := blk12 hx2
  obtain ⟨⟨y0, y1, y2, y3, y4, y5, y6, y7, y8, y9, y10, y11⟩, -⟩ := blk12 hy2
  clear hx2 hy2
  go_enter Tryz.func114, Tryz.ntmps114
  go_wp2_with (first
    | (go_at_call 79; (first | (with_reducible refine (HE.out _ HB.out).mono ?_)); rintro e1 w1 ⟨rfl, hb1⟩; replace HB := Lib.hid (HB.out.trans (hb1.mono HB.out.size)); clear hb1 x0 y0 x1 y1 x2 y2 x3 y3 x4 y4 x5 y5 x6 y6 x7 y7 x8 y8 x9 y9 x10 y10 x11 y11; obtain ⟨hx2, hy2⟩ := HX.out _ HB.out; obtain ⟨⟨x0, x1, x2, x3, x4, x5, x6, x7, x8, x9, x10, x11⟩, -⟩ := blk12 hx2; obtain ⟨⟨y0, y1, y2, y3, y4, y5, y6, y7, y8, y9, y10, y11⟩, -⟩ := blk12 hy2; clear hx2 hy2))
  try go_ret
  exact ⟨rfl, HW.out.trans (HB.out.mono HW.out.size)⟩
set_option maxRecDepth 100000 in
set_option maxHeartbeats 16000000 in
theorem sameS_step (w0 : World) (row : Nat → T) (hw : WS row) (hE : SE w0 row 3) (h13 : LX0 w0 (row 13)) (h14 : LX1 w0 (row 14)) (h15 : LX1 w0 (row 15)) (h16 : LX2 w0 (row 16)) : SS w0 row := by
  intro W vs us hb hr hs
  obtain ⟨c0, c1, c2, c3, c4, c5, a6, n6, p6, b6, m6, q6, a7, n7, p7, b7, m7, q7, a8, n8, p8, b8, m8, q8, c9, a10, n10, p10, b10, m10, q10, a11, n11, p11, b11, m11, q11, c12, a13, n13, p13, b13, m13, q13, a14, n14, p14, b14, m14, q14, a15, n15, p15, b15, m15, q15, a16, n16, p16, b16, m16, q16, rfl, rfl, re, ke, r13, k13, r14, k14, r15, k15, r16, k16⟩ := twoS hw hr hs
  obtain ⟨Wb, hWb⟩ : ∃ Wb, (W.alloc (.cells #[.int .u8 c0, .string c1, .string c2, .int .u8 c3, .int .i64 c4, .string c5, .slice a6 n6 p6, .slice a7 n7 p7, .slice a8 n8 p8, .int .u8 c9, .slice a10 n10 p10, .slice a11 n11 p11, .string c12, .slice a13 n13 p13, .slice a14 n14 p14, .slice a15 n15 p15, .slice a16 n16 p16] 65)).alloc (.cells #[.int .u8 c0, .string c1, .string c2, .int .u8 c3, .int .i64 c4, .string c5, .slice b6 m6 q6, .slice b7 m7 q7, .slice b8 m8 q8, .int .u8 c9, .slice b10 m10 q10, .slice b11 m11 q11, .string c12, .slice b13 m13 q13, .slice b14 m14 q14, .slice b15 m15 q15, .slice b16 m16 q16] 65) = Wb := ⟨_, rfl⟩
  have hx : Wb.heap[W.heap.size]? = some (.cells #[.int .u8 c0, .string c1, .string c2, .int .u8 c3, .int .i64 c4, .string c5, .slice a6 n6 p6, .slice a7 n7 p7, .slice a8 n8 p8, .int .u8 c9, .slice a10 n10 p10, .slice a11 n11 p11, .string c12, .slice a13 n13 p13, .slice a14 n14 p14, .slice a15 n15 p15, .slice a16 n16 p16] 65 (0, 0)) := by rw [← hWb]; exact new2a _ _ _ _ _
  have hy : Wb.heap[W.heap.size + 1]? = some (.cells #[.int .u8 c0, .string c1, .string c2, .int .u8 c3, .int .i64 c4, .string c5, .slice b6 m6 q6, .slice b7 m7 q7, .slice b8 m8 q8, .int .u8 c9, .slice b10 m10 q10, .slice b11 m11 q11, .string c12, .slice b13 m13 q13, .slice b14 m14 q14, .slice b15 m15 q15, .slice b16 m16 q16] 65 (0, 0)) := by rw [← hWb]; exact new2b _ _ _ _
  have hbb : Below W.heap.size W Wb := by rw [← hWb]; exact ((Below.refl _ _).alloc (Nat.le_refl _) _).alloc (by simp) _
  have hz : W.heap.size + 2 = Wb.heap.size := by rw [← hWb]; simp
  have hb0 : ∀ W', Below Wb.heap.size Wb W' → Below w0.heap.size w0 W' := fun W' h => (hb.trans (hbb.mono hb.size)).trans (h.mono (Nat.le_trans hb.size hbb.size))
  have HX : Hid (∀ W', Below Wb.heap.size Wb W' → W'.heap[W.heap.size]? = some (.cells #[.int .u8 c0, .string c1, .string c2, .int .u8 c3, .int .i64 c4, .string c5, .slice a6 n6 p6, .slice a7 n7 p7, .slice a8 n8 p8, .int .u8 c9, .slice a10 n10 p10, .slice a11 n11 p11, .string c12, .slice a13 n13 p13, .slice a14 n14 p14, .slice a15 n15 p15, .slice a16 n16 p16] 65 (0, 0)) ∧ W'.heap[W.heap.size + 1]? = some (.cells #[.int .u8 c0, .string c1, .string c2, .int .u8 c3, .int .i64 c4, .string c5, .slice b6 m6 q6, .slice b7 m7 q7, .slice b8 m8 q8, .int .u8 c9, .slice b10 m10 q10, .slice b11 m11 q11, .string c12, .slice b13 m13 q13, .slice b14 m14 q14, .slice b15 m15 q15, .slice b16 m16 q16] 65 (0, 0))) := fun W' h => ⟨(h.block _ (by omega)).trans hx, (h.block _ (by omega)).trans hy⟩
  have HE : Hid (∀ W', Below Wb.heap.size Wb W' → Calls Tryz.prog 79 #[.agg #[.int .u8 c3, .int .i64 c4, .string c5, .slice a6 n6 p6, .slice a7 n7 p7, .slice a8 n8 p8, .int .u8 c9, .slice a10 n10 p10, .slice a11 n11 p11, .string c12], .agg #[.int .u8 c3, .int .i64 c4, .string c5, .slice b6 m6 q6, .slice b7 m7 q7, .slice b8 m8 q8, .int .u8 c9, .slice b10 m10 q10, .slice b11 m11 q11, .string c12]] W' fun e W'' => e = .returned (.bool true) ∧ Below W'.heap.size W' W'') := fun W' h => hE W' _ _ (hb0 W' h) re ke
  have H13 : Hid (∀ W', Below Wb.heap.size Wb W' → Calls Tryz.prog 97 #[.slice a13 n13 p13, .slice b13 m13 q13] W' fun e W'' => e = .returned (.bool true) ∧ Below W'.heap.size W' W'') := fun W' h => h13 W' _ _ (hb0 W' h) r13 k13
  have H14 : Hid (∀ W', Below Wb.heap.size Wb W' → Calls Tryz.prog 99 #[.slice a14 n14 p14, .slice b14 m14 q14] W' fun e W'' => e = .returned (.bool true) ∧ Below W'.heap.size W' W'') := fun W' h => h14 W' _ _ (hb0 W' h) r14 k14
  have H15 : Hid (∀ W', Below Wb.heap.size Wb W' → Calls Tryz.prog 99 #[.slice a15 n15 p15, .slice b15 m15 q15] W' fun e W'' => e = .returned (.bool true) ∧ Below W'.heap.size W' W'') := fun W' h => h15 W' _ _ (hb0 W' h) r15 k15
  have H16 : Hid (∀ W', Below Wb.heap.size Wb W' → Calls Tryz.prog 78 #[.slice a16 n16 p16, .slice b16 m16 q16] W' fun e W'' => e = .returned (.bool true) ∧ Below W'.heap.size W' W'') := fun W' h => h16 W' _ _ (hb0 W' h) r16 k16
  have HW := Lib.hid hbb
  have HB := Lib.hid (Below.refl Wb.heap.size Wb)
  clear hr hs hb hx hy hbb hz hb0 hw re ke r13 k13 r14 k14 r15 k15 r16 k16 hE h13 h14 h15 h16
  obtain ⟨hx2, hy2⟩ := HX.out _ HB.out
  obtain ⟨⟨x0, x1, x2, x3, x4, x5, x6, x7, x8, x9, x10, x11, x12, x13, x14, x15, x16⟩, -⟩ := blk17 hx2
  obtain ⟨⟨y0, y1, y2, y3, y4, y5, y6, y7, y8, y9, y10, y11, y12, y13, y14, y15, y16⟩, -⟩ := blk17 hy2
  clear hx2 hy2
  go_enter Tryz.func96, Tryz.ntmps96
  go_wp2_with (first
    | (go_at_call 79; (first | (with_reducible refine (HE.out _ HB.out).mono ?_)); rintro e1 w1 ⟨rfl, hb1⟩; replace HB := Lib.hid (HB.out.trans (hb1.mono HB.out.size)); clear hb1 x0 y0 x1 y1 x2 y2 x3 y3 x4 y4 x5 y5 x6 y6 x7 y7 x8 y8 x9 y9 x10 y10 x11 y11 x12 y12 x13 y13 x14 y14 x15 y15 x16 y16; obtain ⟨hx2, hy2⟩ := HX.out _ HB.out; obtain ⟨⟨x0, x1, x2, x3, x4, x5, x6, x7, x8, x9, x10, x11, x12, x13, x14, x15, x16⟩, -⟩ := blk17 hx2; obtain ⟨⟨y0, y1, y2, y3, y4, y5, y6, y7, y8, y9, y10, y11, y12, y13, y14, y15, y16⟩, -⟩ := blk17 hy2; clear hx2 hy2)
    | (go_at_call 97; (first | (with_reducible refine (H13.out _ HB.out).mono ?_)); rintro e1 w1 ⟨rfl, hb1⟩; replace HB := Lib.hid (HB.out.trans (hb1.mono HB.out.size)); clear hb1 x0 y0 x1 y1 x2 y2 x3 y3 x4 y4 x5 y5 x6 y6 x7 y7 x8 y8 x9 y9 x10 y10 x11 y11 x12 y12 x13 y13 x14 y14 x15 y15 x16 y16; obtain ⟨hx2, hy2⟩ := HX.out _ HB.out; obtain ⟨⟨x0, x1, x2, x3, x4, x5, x6, x7, x8, x9, x10, x11, x12, x13, x14, x15, x16⟩, -⟩ := blk17 hx2; obtain ⟨⟨y0, y1, y2, y3, y4, y5, y6, y7, y8, y9, y10, y11, y12, y13, y14, y15, y16⟩, -⟩ := blk17 hy2; clear hx2 hy2)
    | (go_at_call 99; (first | (with_reducible refine (H14.out _ HB.out).mono ?_) | (with_reducible refine (H15.out _ HB.out).mono ?_)); rintro e1 w1 ⟨rfl, hb1⟩; replace HB := Lib.hid (HB.out.trans (hb1.mono HB.out.size)); clear hb1 x0 y0 x1 y1 x2 y2 x3 y3 x4 y4 x5 y5 x6 y6 x7 y7 x8 y8 x9 y9 x10 y10 x11 y11 x12 y12 x13 y13 x14 y14 x15 y15 x16 y16; obtain ⟨hx2, hy2⟩ := HX.out _ HB.out; obtain ⟨⟨x0, x1, x2, x3, x4, x5, x6, x7, x8, x9, x10, x11, x12, x13, x14, x15, x16⟩, -⟩ := blk17 hx2; obtain ⟨⟨y0, y1, y2, y3, y4, y5, y6, y7, y8, y9, y10, y11, y12, y13, y14, y15, y16⟩, -⟩ := blk17 hy2; clear hx2 hy2)
    | (go_at_call 78; (first | (with_reducible refine (H16.out _ HB.out).mono ?_)); rintro e1 w1 ⟨rfl, hb1⟩; replace HB := Lib.hid (HB.out.trans (hb1.mono HB.out.size)); clear hb1 x0 y0 x1 y1 x2 y2 x3 y3 x4 y4 x5 y5 x6 y6 x7 y7 x8 y8 x9 y9 x10 y10 x11 y11 x12 y12 x13 y13 x14 y14 x15 y15 x16 y16; obtain ⟨hx2, hy2⟩ := HX.out _ HB.out; obtain ⟨⟨x0, x1, x2, x3, x4, x5, x6, x7, x8, x9, x10, x11, x12, x13, x14, x15, x16⟩, -⟩ := blk17 hx2; obtain ⟨⟨y0, y1, y2, y3, y4, y5, y6, y7, y8, y9, y10, y11, y12, y13, y14, y15, y16⟩, -⟩ := blk17 hy2; clear hx2 hy2))
  try go_ret
  exact ⟨rfl, HW.out.trans (HB.out.mono HW.out.size)⟩
set_option maxRecDepth 100000 in
set_option maxHeartbeats 16000000 in
theorem sameC_step (w0 : World) (row : Nat → T) (hw : WC row) (hE : SE w0 row 3) (h2 : LX2 w0 (row 2)) : SC w0 row := by
  intro W vs us hb hr hs
  obtain ⟨c0, c1, a2, n2, p2, b2, m2, q2, c3, c4, c5, a6, n6, p6, b6, m6, q6, a7, n7, p7, b7, m7, q7, a8, n8, p8, b8, m8, q8, c9, a10, n10, p10, b10, m10, q10, a11, n11, p11, b11, m11, q11, c12, rfl, rfl, re, ke, r2, k2⟩ := twoC hw hr hs
  obtain ⟨Wb, hWb⟩ : ∃ Wb, (W.alloc (.cells #[.string c0, .string c1, .slice a2 n2 p2, .int .u8 c3, .int .i64 c4, .string c5, .slice a6 n6 p6, .slice a7 n7 p7, .slice a8 n8 p8, .int .u8 c9, .slice a10 n10 p10, .slice a11 n11 p11, .string c12] 44)).alloc (.cells #[.string c0, .string c1, .slice b2 m2 q2, .int .u8 c3, .int .i64 c4, .string c5, .slice b6 m6 q6, .slice b7 m7 q7, .slice b8 m8 q8, .int .u8 c9, .slice b10 m10 q10, .slice b11 m11 q11, .string c12] 44) = Wb := ⟨_, rfl⟩
  have hx : Wb.heap[W.heap.size]? = some (.cells #[.string c0, .string c1, .slice a2 n2 p2, .int .u8 c3, .int .i64 c4, .string c5, .slice a6 n6 p6, .slice a7 n7 p7, .slice a8 n8 p8, .int .u8 c9, .slice a10 n10 p10, .slice a11 n11 p11, .string c12] 44 (0, 0)) := by rw [← hWb]; exact new2a _ _ _ _ _
  have hy : Wb.heap[W.heap.size + 1]? = some (.cells #[.string c0, .string c1, .slice b2 m2 q2, .int .u8 c3, .int .i64 c4, .string c5, .slice b6 m6 q6, .slice b7 m7 q7, .slice b8 m8 q8, .int .u8 c9, .slice b10 m10 q10, .slice b11 m11 q11, .string c12] 44 (0, 0)) := by rw [← hWb]; exact new2b _ _ _ _
  have hbb : Below W.heap.size W Wb := by rw [← hWb]; exact ((Below.refl _ _).alloc (Nat.le_refl _) _).alloc (by simp) _
  have hz : W.heap.size + 2 = Wb.heap.size := by rw [← hWb]; simp
  have hb0 : ∀ W', Below Wb.heap.size Wb W' → Below w0.heap.size w0 W' := fun W' h => (hb.trans (hbb.mono hb.size)).trans (h.mono (Nat.le_trans hb.size hbb.size))
  have HX : Hid (∀ W', Below Wb.heap.size Wb W' → W'.heap[W.heap.size]? = some (.cells #[.string c0, .string c1, .slice a2 n2 p2, .int .u8 c3, .int .i64 c4, .string c5, .slice a6 n6 p6, .slice a7 n7 p7, .slice a8 n8 p8, .int .u8 c9, .slice a10 n10 p10, .slice a11 n11 p11, .string c12] 44 (0, 0)) ∧ W'.heap[W.heap.size + 1]? = some (.cells #[.string c0, .string c1, .slice b2 m2 q2, .int .u8 c3, .int .i64 c4, .string c5, .slice b6 m6 q6, .slice b7 m7 q7, .slice b8 m8 q8, .int .u8 c9, .slice b10 m10 q10, .slice b11 m11 q11, .string c12] 44 (0, 0))) := fun W' h => ⟨(h.block _ (by omega)).trans hx, (h.block _ (by omega)).trans hy⟩
  have H2 : Hid (∀ W', Below Wb.heap.size Wb W' → Calls Tryz.prog 78 #[.slice a2 n2 p2, .slice b2 m2 q2] W' fun e W'' => e = .returned (.bool true) ∧ Below W'.heap.size W' W'') := fun W' h => h2 W' _ _ (hb0 W' h) r2 k2
  have HE : Hid (∀ W', Below Wb.heap.size Wb W' → Calls Tryz.prog 79 #[.agg #[.int .u8 c3, .int .i64 c4, .string c5, .slice a6 n6 p6, .slice a7 n7 p7, .slice a8 n8 p8, .int .u8 c9, .slice a10 n10 p10, .slice a11 n11 p11, .string c12], .agg #[.int .u8 c3, .int .i64 c4, .string c5, .slice b6 m6 q6, .slice b7 m7 q7, .slice b8 m8 q8, .int .u8 c9, .slice b10 m10 q10, .slice b11 m11 q11, .string c12]] W' fun e W'' => e = .returned (.bool true) ∧ Below W'.heap.size W' W'') := fun W' h => hE W' _ _ (hb0 W' h) re ke
  have HW := Lib.hid hbb
  have HB := Lib.hid (Below.refl Wb.heap.size Wb)
  clear hr hs hb hx hy hbb hz hb0 hw re ke r2 k2 hE h2
  obtain ⟨hx2, hy2⟩ := HX.out _ HB.out
  obtain ⟨⟨x0, x1, x2, x3, x4, x5, x6, x7, x8, x9, x10, x11, x12⟩, -⟩ := blk13 hx2
  obtain ⟨⟨y0, y1, y2, y3, y4, y5, y6, y7, y8, y9, y10, y11, y12⟩, -⟩ := blk13 hy2
  clear hx2 hy2
  go_enter Tryz.func55, Tryz.ntmps55
  go_wp2_with (first
    | (go_at_call 78; (first | (with_reducible refine (H2.out _ HB.out).mono ?_)); rintro e1 w1 ⟨rfl, hb1⟩; replace HB := Lib.hid (HB.out.trans (hb1.mono HB.out.size)); clear hb1 x0 y0 x1 y1 x2 y2 x3 y3 x4 y4 x5 y5 x6 y6 x7 y7 x8 y8 x9 y9 x10 y10 x11 y11 x12 y12; obtain ⟨hx2, hy2⟩ := HX.out _ HB.out; obtain ⟨⟨x0, x1, x2, x3, x4, x5, x6, x7, x8, x9, x10, x11, x12⟩, -⟩ := blk13 hx2; obtain ⟨⟨y0, y1, y2, y3, y4, y5, y6, y7, y8, y9, y10, y11, y12⟩, -⟩ := blk13 hy2; clear hx2 hy2)
    | (go_at_call 79; (first | (with_reducible refine (HE.out _ HB.out).mono ?_)); rintro e1 w1 ⟨rfl, hb1⟩; replace HB := Lib.hid (HB.out.trans (hb1.mono HB.out.size)); clear hb1 x0 y0 x1 y1 x2 y2 x3 y3 x4 y4 x5 y5 x6 y6 x7 y7 x8 y8 x9 y9 x10 y10 x11 y11 x12 y12; obtain ⟨hx2, hy2⟩ := HX.out _ HB.out; obtain ⟨⟨x0, x1, x2, x3, x4, x5, x6, x7, x8, x9, x10, x11, x12⟩, -⟩ := blk13 hx2; obtain ⟨⟨y0, y1, y2, y3, y4, y5, y6, y7, y8, y9, y10, y11, y12⟩, -⟩ := blk13 hy2; clear hx2 hy2))
  try go_ret
  exact ⟨rfl, HW.out.trans (HB.out.mono HW.out.size)⟩
theorem getE (row : Nat → T) : ∀ j, j < 10 → (cellsE row 0).getD j default = row j := fun j hj => match j, hj with
  | 0, _ => rfl
  | 1, _ => by show row (0 + 1) = row 1; rw [Nat.zero_add]
  | 2, _ => by show row (0 + 2) = row 2; rw [Nat.zero_add]
  | 3, _ => by show row (0 + 3) = row 3; rw [Nat.zero_add]
  | 4, _ => by show row (0 + 4) = row 4; rw [Nat.zero_add]
  | 5, _ => by show row (0 + 5) = row 5; rw [Nat.zero_add]
  | 6, _ => by show row (0 + 6) = row 6; rw [Nat.zero_add]
  | 7, _ => by show row (0 + 7) = row 7; rw [Nat.zero_add]
  | 8, _ => by show row (0 + 8) = row 8; rw [Nat.zero_add]
  | 9, _ => by show row (0 + 9) = row 9; rw [Nat.zero_add]
  | j + 10, h => absurd h (by omega)
set_option maxRecDepth 100000 in
set_option maxHeartbeats 16000000 in
theorem sameL0 (w0 : World) (n : Nat) (row : Nat → Nat → T) (hw : ∀ i, i < n → WE (row i) 0) (hE : ∀ i, i < n → SE w0 (row i) 0) : LX0 w0 (.ls n 10 row) := by
  intro W a b hb hr hs
  obtain ⟨la, lc, rfl, h1, h2, hel⟩ := hr
  obtain ⟨ma, mc, rfl, k1, k2, hem⟩ := hs
  have HEL := Lib.hid hel
  have HEM := Lib.hid hem
  have HWW := Lib.hid hw
  have HEE := Lib.hid hE
  have HB0 := Lib.hid hb
  unfold maxLen at h2 k2
  clear hb hel hem hw hE
  go_enter Tryz.func97, Tryz.ntmps97
  go_wp2
  go_loopw [5] (fun i wr => ∃ j : Nat, i = .int .i64 j ∧ j ≤ n ∧ Below W.heap.size W wr) (fun i _ => n - (intOf i).toNat)
  case atStart => exact ⟨0, rfl, Nat.zero_le _, Below.refl _ _⟩
  case round =>
    obtain ⟨j, rfl, hj, hbr⟩ := hrel
    have HBR := Lib.hid hbr
    clear hbr
    by_cases hlt : j < n
    · have g1 : (j : Int) < (n : Int) := by omega
      have g0 : (0 : Int) ≤ (j : Int) := by omega
      have g2 : j < lc := by omega
      have g3 : j < mc := by omega
      obtain ⟨bb1, oo1, rfl, -, hb1, hc1⟩ := HEL.out j hlt
      obtain ⟨bb2, oo2, rfl, -, hb2, hc2⟩ := HEM.out j hlt
      obtain ⟨vs, hr1, hat1, -⟩ := rep_row (n := 0) (i := j) (k := 10) (x := cellsE (row j) 0) rfl (fun q hq => by rw [getE _ q hq]; exact hc1 q hq)
      obtain ⟨us, hr2, hat2, -⟩ := rep_row (n := 0) (i := j) (k := 10) (x := cellsE (row j) 0) rfl (fun q hq => by rw [getE _ q hq]; exact hc2 q hq)
      obtain ⟨c0, c1, c2, a3, n3, p3, b3, m3, q3, a4, n4, p4, b4, m4, q4, a5, n5, p5, b5, m5, q5, c6, a7, n7, p7, b7, m7, q7, a8, n8, p8, b8, m8, q8, c9, rfl, rfl, -⟩ := twoE (row := row j) (o := 0) (HWW.out j hlt) hr1 hr2
      have HE : Hid (∀ W', Below W.heap.size W W' → Calls Tryz.prog 79 #[.agg #[.int .u8 c0, .int .i64 c1, .string c2, .slice a3 n3 p3, .slice a4 n4 p4, .slice a5 n5 p5, .int .u8 c6, .slice a7 n7 p7, .slice a8 n8 p8, .string c9], .agg #[.int .u8 c0, .int .i64 c1, .string c2, .slice b3 m3 q3, .slice b4 m4 q4, .slice b5 m5 q5, .int .u8 c6, .slice b7 m7 q7, .slice b8 m8 q8, .string c9]] W' fun e W'' => e = .returned (.bool true) ∧ Below W.heap.size W W'') := fun W' h =>
        (HEE.out j hlt W' _ _ (HB0.out.trans (h.mono HB0.out.size)) hr1 hr2).mono fun e W'' ⟨h1, h2⟩ => ⟨h1, h.trans (h2.mono h.size)⟩
      have KS : Hid (∀ W', Below W.heap.size W W' → (fun W' => Below W.heap.size W W' ∧ W'.cell? ⟨bb1, oo1 + j * 10, none⟩ = some (.int .u8 c0) ∧ W'.cell? ⟨bb1, oo1 + j * 10 + 1, none⟩ = some (.int .i64 c1) ∧ W'.cell? ⟨bb1, oo1 + j * 10 + 2, none⟩ = some (.string c2) ∧ W'.cell? ⟨bb1, oo1 + j * 10 + 3, none⟩ = some (.slice a3 n3 p3) ∧ W'.cell? ⟨bb1, oo1 + j * 10 + 4, none⟩ = some (.slice a4 n4 p4) ∧ W'.cell? ⟨bb1, oo1 + j * 10 + 5, none⟩ = some (.slice a5 n5 p5) ∧ W'.cell? ⟨bb1, oo1 + j * 10 + 6, none⟩ = some (.int .u8 c6) ∧ W'.cell? ⟨bb1, oo1 + j * 10 + 7, none⟩ = some (.slice a7 n7 p7) ∧ W'.cell? ⟨bb1, oo1 + j * 10 + 8, none⟩ = some (.slice a8 n8 p8) ∧ W'.cell? ⟨bb1, oo1 + j * 10 + 9, none⟩ = some (.string c9) ∧ W'.cell? ⟨bb2, oo2 + j * 10, none⟩ = some (.int .u8 c0) ∧ W'.cell? ⟨bb2, oo2 + j * 10 + 1, none⟩ = some (.int .i64 c1) ∧ W'.cell? ⟨bb2, oo2 + j * 10 + 2, none⟩ = some (.string c2) ∧ W'.cell? ⟨bb2, oo2 + j * 10 + 3, none⟩ = some (.slice b3 m3 q3) ∧ W'.cell? ⟨bb2, oo2 + j * 10 + 4, none⟩ = some (.slice b4 m4 q4) ∧ W'.cell? ⟨bb2, oo2 + j * 10 + 5, none⟩ = some (.slice b5 m5 q5) ∧ W'.cell? ⟨bb2, oo2 + j * 10 + 6, none⟩ = some (.int .u8 c6) ∧ W'.cell? ⟨bb2, oo2 + j * 10 + 7, none⟩ = some (.slice b7 m7 q7) ∧ W'.cell? ⟨bb2, oo2 + j * 10 + 8, none⟩ = some (.slice b8 m8 q8) ∧ W'.cell? ⟨bb2, oo2 + j * 10 + 9, none⟩ = some (.string c9)) W') := fun W' h => by
        have hlow := HB0.out.trans (h.mono HB0.out.size)
        have hk1 : ∀ q y, ([.int .u8 c0, .int .i64 c1, .string c2, .slice a3 n3 p3, .slice a4 n4 p4, .slice a5 n5 p5, .int .u8 c6, .slice a7 n7 p7, .slice a8 n8 p8, .string c9] : List Value)[q]? = some y → W'.cell? ⟨bb1, oo1 + j * 10 + q, none⟩ = some y := fun q y hy => by
          rw [hlow.cell (p := ⟨bb1, oo1 + j * 10 + q, none⟩) hb1, hat1 q (List.getElem?_eq_some_iff.1 hy).1]; exact hy
        have hk2 : ∀ q y, ([.int .u8 c0, .int .i64 c1, .string c2, .slice b3 m3 q3, .slice b4 m4 q4, .slice b5 m5 q5, .int .u8 c6, .slice b7 m7 q7, .slice b8 m8 q8, .string c9] : List Value)[q]? = some y → W'.cell? ⟨bb2, oo2 + j * 10 + q, none⟩ = some y := fun q y hy => by
          rw [hlow.cell (p := ⟨bb2, oo2 + j * 10 + q, none⟩) hb2, hat2 q (List.getElem?_eq_some_iff.1 hy).1]; exact hy
        exact ⟨h, hk1 0 _ rfl, hk1 1 _ rfl, hk1 2 _ rfl, hk1 3 _ rfl, hk1 4 _ rfl, hk1 5 _ rfl, hk1 6 _ rfl, hk1 7 _ rfl, hk1 8 _ rfl, hk1 9 _ rfl, hk2 0 _ rfl, hk2 1 _ rfl, hk2 2 _ rfl, hk2 3 _ rfl, hk2 4 _ rfl, hk2 5 _ rfl, hk2 6 _ rfl, hk2 7 _ rfl, hk2 8 _ rfl, hk2 9 _ rfl⟩
      clear hr1 hr2 hat1 hat2 hc1 hc2
      go_upto_region 6 with fail
      go_region_held3 (fun W' => Below W.heap.size W W' ∧ W'.cell? ⟨bb1, oo1 + j * 10, none⟩ = some (.int .u8 c0) ∧ W'.cell? ⟨bb1, oo1 + j * 10 + 1, none⟩ = some (.int .i64 c1) ∧ W'.cell? ⟨bb1, oo1 + j * 10 + 2, none⟩ = some (.string c2) ∧ W'.cell? ⟨bb1, oo1 + j * 10 + 3, none⟩ = some (.slice a3 n3 p3) ∧ W'.cell? ⟨bb1, oo1 + j * 10 + 4, none⟩ = some (.slice a4 n4 p4) ∧ W'.cell? ⟨bb1, oo1 + j * 10 + 5, none⟩ = some (.slice a5 n5 p5) ∧ W'.cell? ⟨bb1, oo1 + j * 10 + 6, none⟩ = some (.int .u8 c6) ∧ W'.cell? ⟨bb1, oo1 + j * 10 + 7, none⟩ = some (.slice a7 n7 p7) ∧ W'.cell? ⟨bb1, oo1 + j * 10 + 8, none⟩ = some (.slice a8 n8 p8) ∧ W'.cell? ⟨bb1, oo1 + j * 10 + 9, none⟩ = some (.string c9) ∧ W'.cell? ⟨bb2, oo2 + j * 10, none⟩ = some (.int .u8 c0) ∧ W'.cell? ⟨bb2, oo2 + j * 10 + 1, none⟩ = some (.int .i64 c1) ∧ W'.cell? ⟨bb2, oo2 + j * 10 + 2, none⟩ = some (.string c2) ∧ W'.cell? ⟨bb2, oo2 + j * 10 + 3, none⟩ = some (.slice b3 m3 q3) ∧ W'.cell? ⟨bb2, oo2 + j * 10 + 4, none⟩ = some (.slice b4 m4 q4) ∧ W'.cell? ⟨bb2, oo2 + j * 10 + 5, none⟩ = some (.slice b5 m5 q5) ∧ W'.cell? ⟨bb2, oo2 + j * 10 + 6, none⟩ = some (.int .u8 c6) ∧ W'.cell? ⟨bb2, oo2 + j * 10 + 7, none⟩ = some (.slice b7 m7 q7) ∧ W'.cell? ⟨bb2, oo2 + j * 10 + 8, none⟩ = some (.slice b8 m8 q8) ∧ W'.cell? ⟨bb2, oo2 + j * 10 + 9, none⟩ = some (.string c9))
        (first | (refine KS.out _ ?_; with_reducible exact HBR.out.drew) | (refine KS.out _ ?_; with_reducible assumption) | with_reducible assumption)
        (first
          | (go_at_call 79; refine (HE.out _ ?_).mono ?_; (go_split_ands; assumption); rintro x w3 ⟨rfl, hb3⟩))
      have HB3 := Lib.hid hb3
      clear KS HE
      go_wp2
      go_roundw
      case rel => exact ⟨j + 1, by go_num, by omega, HB3.out⟩
      case measure => simp [intOf]; try omega
    · have hn : ¬ (j : Int) < (n : Int) := by omega
      obtain rfl : n = j := by omega
      go_wp2
      try go_ret
      exact ⟨rfl, HBR.out⟩
theorem getA (row : Nat → T) : ∀ j, j < 12 → (cellsA row).getD j default = row j := fun j hj => match j, hj with
  | 0, _ => rfl
  | 1, _ => rfl
  | 2, _ => rfl
  | 3, _ => rfl
  | 4, _ => rfl
  | 5, _ => rfl
  | 6, _ => rfl
  | 7, _ => rfl
  | 8, _ => rfl
  | 9, _ => rfl
  | 10, _ => rfl
  | 11, _ => rfl
  | j + 12, h => absurd h (by omega)
set_option maxRecDepth 100000 in
set_option maxHeartbeats 16000000 in
theorem sameL1 (w0 : World) (n : Nat) (row : Nat → Nat → T) (hw : ∀ i, i < n → WA (row i)) (hE : ∀ i, i < n → SA w0 (row i)) : LX1 w0 (.ls n 12 row) := by
  intro W a b hb hr hs
  obtain ⟨la, lc, rfl, h1, h2, hel⟩ := hr
  obtain ⟨ma, mc, rfl, k1, k2, hem⟩ := hs
  have HEL := Lib.hid hel
  have HEM := Lib.hid hem
  have HWW := Lib.hid hw
  have HEE := Lib.hid hE
  have HB0 := Lib.hid hb
  unfold maxLen at h2 k2
  clear hb hel hem hw hE
  go_enter Tryz.func99, Tryz.ntmps99
  go_wp2
  go_loopw [5] (fun i wr => ∃ j : Nat, i = .int .i64 j ∧ j ≤ n ∧ Below W.heap.size W wr) (fun i _ => n - (intOf i).toNat)
  case atStart => exact ⟨0, rfl, Nat.zero_le _, Below.refl _ _⟩
  case round =>
    obtain ⟨j, rfl, hj, hbr⟩ := hrel
    have HBR := Lib.hid hbr
    clear hbr
    by_cases hlt : j < n
    · have g1 : (j : Int) < (n : Int) := by omega
      have g0 : (0 : Int) ≤ (j : Int) := by omega
      have g2 : j < lc := by omega
      have g3 : j < mc := by omega
      obtain ⟨bb1, oo1, rfl, -, hb1, hc1⟩ := HEL.out j hlt
      obtain ⟨bb2, oo2, rfl, -, hb2, hc2⟩ := HEM.out j hlt
      obtain ⟨vs, hr1, hat1, -⟩ := rep_row (n := 0) (i := j) (k := 12) (x := cellsA (row j)) rfl (fun q hq => by rw [getA _ q hq]; exact hc1 q hq)
      obtain ⟨us, hr2, hat2, -⟩ := rep_row (n := 0) (i := j) (k := 12) (x := cellsA (row j)) rfl (fun q hq => by rw [getA _ q hq]; exact hc2 q hq)
      obtain ⟨c0, c1, c2, c3, c4, a5, n5, p5, b5, m5, q5, a6, n6, p6, b6, m6, q6, a7, n7, p7, b7, m7, q7, c8, a9, n9, p9, b9, m9, q9, a10, n10, p10, b10, m10, q10, c11, rfl, rfl, -⟩ := twoA (row := row j) (HWW.out j hlt) hr1 hr2
      have HE : Hid (∀ W', Below W.heap.size W W' → Calls Tryz.prog 114 #[.agg #[.int .u8 c0, .string c1, .int .u8 c2, .int .i64 c3, .string c4, .slice a5 n5 p5, .slice a6 n6 p6, .slice a7 n7 p7, .int .u8 c8, .slice a9 n9 p9, .slice a10 n10 p10, .string c11], .agg #[.int .u8 c0, .string c1, .int .u8 c2, .int .i64 c3, .string c4, .slice b5 m5 q5, .slice b6 m6 q6, .slice b7 m7 q7, .int .u8 c8, .slice b9 m9 q9, .slice b10 m10 q10, .string c11]] W' fun e W'' => e = .returned (.bool true) ∧ Below W.heap.size W W'') := fun W' h =>
        (HEE.out j hlt W' _ _ (HB0.out.trans (h.mono HB0.out.size)) hr1 hr2).mono fun e W'' ⟨h1, h2⟩ => ⟨h1, h.trans (h2.mono h.size)⟩
      have KS : Hid (∀ W', Below W.heap.size W W' → (fun W' => Below W.heap.size W W' ∧ W'.cell? ⟨bb1, oo1 + j * 12, none⟩ = some (.int .u8 c0) ∧ W'.cell? ⟨bb1, oo1 + j * 12 + 1, none⟩ = some (.string c1) ∧ W'.cell? ⟨bb1, oo1 + j * 12 + 2, none⟩ = some (.int .u8 c2) ∧ W'.cell? ⟨bb1, oo1 + j * 12 + 3, none⟩ = some (.int .i64 c3) ∧ W'.cell? ⟨bb1, oo1 + j * 12 + 4, none⟩ = some (.string c4) ∧ W'.cell? ⟨bb1, oo1 + j * 12 + 5, none⟩ = some (.slice a5 n5 p5) ∧ W'.cell? ⟨bb1, oo1 + j * 12 + 6, none⟩ = some (.slice a6 n6 p6) ∧ W'.cell? ⟨bb1, oo1 + j * 12 + 7, none⟩ = some (.slice a7 n7 p7) ∧ W'.cell? ⟨bb1, oo1 + j * 12 + 8, none⟩ = some (.int .u8 c8) ∧ W'.cell? ⟨bb1, oo1 + j * 12 + 9, none⟩ = some (.slice a9 n9 p9) ∧ W'.cell? ⟨bb1, oo1 + j * 12 + 10, none⟩ = some (.slice a10 n10 p10) ∧ W'.cell? ⟨bb1, oo1 + j * 12 + 11, none⟩ = some (.string c11) ∧ W'.cell? ⟨bb2, oo2 + j * 12, none⟩ = some (.int .u8 c0) ∧ W'.cell? ⟨bb2, oo2 + j * 12 + 1, none⟩ = some (.string c1) ∧ W'.cell? ⟨bb2, oo2 + j * 12 + 2, none⟩ = some (.int .u8 c2) ∧ W'.cell? ⟨bb2, oo2 + j * 12 + 3, none⟩ = some (.int .i64 c3) ∧ W'.cell? ⟨bb2, oo2 + j * 12 + 4, none⟩ = some (.string c4) ∧ W'.cell? ⟨bb2, oo2 + j * 12 + 5, none⟩ = some (.slice b5 m5 q5) ∧ W'.cell? ⟨bb2, oo2 + j * 12 + 6, none⟩ = some (.slice b6 m6 q6) ∧ W'.cell? ⟨bb2, oo2 + j * 12 + 7, none⟩ = some (.slice b7 m7 q7) ∧ W'.cell? ⟨bb2, oo2 + j * 12 + 8, none⟩ = some (.int .u8 c8) ∧ W'.cell? ⟨bb2, oo2 + j * 12 + 9, none⟩ = some (.slice b9 m9 q9) ∧ W'.cell? ⟨bb2, oo2 + j * 12 + 10, none⟩ = some (.slice b10 m10 q10) ∧ W'.cell? ⟨bb2, oo2 + j * 12 + 11, none⟩ = some (.string c11)) W') := fun W' h => by
        have hlow := HB0.out.trans (h.mono HB0.out.size)
        have hk1 : ∀ q y, ([.int .u8 c0, .string c1, .int .u8 c2, .int .i64 c3, .string c4, .slice a5 n5 p5, .slice a6 n6 p6, .slice a7 n7 p7, .int .u8 c8, .slice a9 n9 p9, .slice a10 n10 p10, .string c11] : List Value)[q]? = some y → W'.cell? ⟨bb1, oo1 + j * 12 + q, none⟩ = some y := fun q y hy => by
          rw [hlow.cell (p := ⟨bb1, oo1 + j * 12 + q, none⟩) hb1, hat1 q (List.getElem?_eq_some_iff.1 hy).1]; exact hy
        have hk2 : ∀ q y, ([.int .u8 c0, .string c1, .int .u8 c2, .int .i64 c3, .string c4, .slice b5 m5 q5, .slice b6 m6 q6, .slice b7 m7 q7, .int .u8 c8, .slice b9 m9 q9, .slice b10 m10 q10, .string c11] : List Value)[q]? = some y → W'.cell? ⟨bb2, oo2 + j * 12 + q, none⟩ = some y := fun q y hy => by
          rw [hlow.cell (p := ⟨bb2, oo2 + j * 12 + q, none⟩) hb2, hat2 q (List.getElem?_eq_some_iff.1 hy).1]; exact hy
        exact ⟨h, hk1 0 _ rfl, hk1 1 _ rfl, hk1 2 _ rfl, hk1 3 _ rfl, hk1 4 _ rfl, hk1 5 _ rfl, hk1 6 _ rfl, hk1 7 _ rfl, hk1 8 _ rfl, hk1 9 _ rfl, hk1 10 _ rfl, hk1 11 _ rfl, hk2 0 _ rfl, hk2 1 _ rfl, hk2 2 _ rfl, hk2 3 _ rfl, hk2 4 _ rfl, hk2 5 _ rfl, hk2 6 _ rfl, hk2 7 _ rfl, hk2 8 _ rfl, hk2 9 _ rfl, hk2 10 _ rfl, hk2 11 _ rfl⟩
      clear hr1 hr2 hat1 hat2 hc1 hc2
      go_upto_region 6 with fail
      go_region_held3 (fun W' => Below W.heap.size W W' ∧ W'.cell? ⟨bb1, oo1 + j * 12, none⟩ = some (.int .u8 c0) ∧ W'.cell? ⟨bb1, oo1 + j * 12 + 1, none⟩ = some (.string c1) ∧ W'.cell? ⟨bb1, oo1 + j * 12 + 2, none⟩ = some (.int .u8 c2) ∧ W'.cell? ⟨bb1, oo1 + j * 12 + 3, none⟩ = some (.int .i64 c3) ∧ W'.cell? ⟨bb1, oo1 + j * 12 + 4, none⟩ = some (.string c4) ∧ W'.cell? ⟨bb1, oo1 + j * 12 + 5, none⟩ = some (.slice a5 n5 p5) ∧ W'.cell? ⟨bb1, oo1 + j * 12 + 6, none⟩ = some (.slice a6 n6 p6) ∧ W'.cell? ⟨bb1, oo1 + j * 12 + 7, none⟩ = some (.slice a7 n7 p7) ∧ W'.cell? ⟨bb1, oo1 + j * 12 + 8, none⟩ = some (.int .u8 c8) ∧ W'.cell? ⟨bb1, oo1 + j * 12 + 9, none⟩ = some (.slice a9 n9 p9) ∧ W'.cell? ⟨bb1, oo1 + j * 12 + 10, none⟩ = some (.slice a10 n10 p10) ∧ W'.cell? ⟨bb1, oo1 + j * 12 + 11, none⟩ = some (.string c11) ∧ W'.cell? ⟨bb2, oo2 + j * 12, none⟩ = some (.int .u8 c0) ∧ W'.cell? ⟨bb2, oo2 + j * 12 + 1, none⟩ = some (.string c1) ∧ W'.cell? ⟨bb2, oo2 + j * 12 + 2, none⟩ = some (.int .u8 c2) ∧ W'.cell? ⟨bb2, oo2 + j * 12 + 3, none⟩ = some (.int .i64 c3) ∧ W'.cell? ⟨bb2, oo2 + j * 12 + 4, none⟩ = some (.string c4) ∧ W'.cell? ⟨bb2, oo2 + j * 12 + 5, none⟩ = some (.slice b5 m5 q5) ∧ W'.cell? ⟨bb2, oo2 + j * 12 + 6, none⟩ = some (.slice b6 m6 q6) ∧ W'.cell? ⟨bb2, oo2 + j * 12 + 7, none⟩ = some (.slice b7 m7 q7) ∧ W'.cell? ⟨bb2, oo2 + j * 12 + 8, none⟩ = some (.int .u8 c8) ∧ W'.cell? ⟨bb2, oo2 + j * 12 + 9, none⟩ = some (.slice b9 m9 q9) ∧ W'.cell? ⟨bb2, oo2 + j * 12 + 10, none⟩ = some (.slice b10 m10 q10) ∧ W'.cell? ⟨bb2, oo2 + j * 12 + 11, none⟩ = some (.string c11))
        (first | (refine KS.out _ ?_; with_reducible exact HBR.out.drew) | (refine KS.out _ ?_; with_reducible assumption) | with_reducible assumption)
        (first
          | (go_at_call 114; refine (HE.out _ ?_).mono ?_; (go_split_ands; assumption); rintro x w3 ⟨rfl, hb3⟩))
      have HB3 := Lib.hid hb3
      clear KS HE
      go_wp2
      go_roundw
      case rel => exact ⟨j + 1, by go_num, by omega, HB3.out⟩
      case measure => simp [intOf]; try omega
    · have hn : ¬ (j : Int) < (n : Int) := by omega
      obtain rfl : n = j := by omega
      go_wp2
      try go_ret
      exact ⟨rfl, HBR.out⟩
theorem getS (row : Nat → T) : ∀ j, j < 17 → (cellsS row).getD j default = row j := fun j hj => match j, hj with
  | 0, _ => rfl
  | 1, _ => rfl
  | 2, _ => rfl
  | 3, _ => rfl
  | 4, _ => rfl
  | 5, _ => rfl
  | 6, _ => rfl
  | 7, _ => rfl
  | 8, _ => rfl
  | 9, _ => rfl
  | 10, _ => rfl
  | 11, _ => rfl
  | 12, _ => rfl
  | 13, _ => rfl
  | 14, _ => rfl
  | 15, _ => rfl
  | 16, _ => rfl
  | j + 17, h => absurd h (by omega)
set_option maxRecDepth 100000 in
set_option maxHeartbeats 16000000 in
theorem sameL2 (w0 : World) (n : Nat) (row : Nat → Nat → T) (hw : ∀ i, i < n → WS (row i)) (hE : ∀ i, i < n → SS w0 (row i)) : LX2 w0 (.ls n 17 row) := by
  intro W a b hb hr hs
  obtain ⟨la, lc, rfl, h1, h2, hel⟩ := hr
  obtain ⟨ma, mc, rfl, k1, k2, hem⟩ := hs
  have HEL := Lib.hid hel
  have HEM := Lib.hid hem
  have HWW := Lib.hid hw
  have HEE := Lib.hid hE
  have HB0 := Lib.hid hb
  unfold maxLen at h2 k2
  clear hb hel hem hw hE
  go_enter Tryz.func78, Tryz.ntmps78
  go_wp2
  go_loopw [5] (fun i wr => ∃ j : Nat, i = .int .i64 j ∧ j ≤ n ∧ Below W.heap.size W wr) (fun i _ => n - (intOf i).toNat)
  case atStart => exact ⟨0, rfl, Nat.zero_le _, Below.refl _ _⟩
  case round =>
    obtain ⟨j, rfl, hj, hbr⟩ := hrel
    have HBR := Lib.hid hbr
    clear hbr
    by_cases hlt : j < n
    · have g1 : (j : Int) < (n : Int) := by omega
      have g0 : (0 : Int) ≤ (j : Int) := by omega
      have g2 : j < lc := by omega
      have g3 : j < mc := by omega
      obtain ⟨bb1, oo1, rfl, -, hb1, hc1⟩ := HEL.out j hlt
      obtain ⟨bb2, oo2, rfl, -, hb2, hc2⟩ := HEM.out j hlt
      obtain ⟨vs, hr1, hat1, -⟩ := rep_row (n := 0) (i := j) (k := 17) (x := cellsS (row j)) rfl (fun q hq => by rw [getS _ q hq]; exact hc1 q hq)
      obtain ⟨us, hr2, hat2, -⟩ := rep_row (n := 0) (i := j) (k := 17) (x := cellsS (row j)) rfl (fun q hq => by rw [getS _ q hq]; exact hc2 q hq)
      obtain ⟨c0, c1, c2, c3, c4, c5, a6, n6, p6, b6, m6, q6, a7, n7, p7, b7, m7, q7, a8, n8, p8, b8, m8, q8, c9, a10, n10, p10, b10, m10, q10, a11, n11, p11, b11, m11, q11, c12, a13, n13, p13, b13, m13, q13, a14, n14, p14, b14, m14, q14, a15, n15, p15, b15, m15, q15, a16, n16, p16, b16, m16, q16, rfl, rfl, -⟩ := twoS (row := row j) (HWW.out j hlt) hr1 hr2
      have HE : Hid (∀ W', Below W.heap.size W W' → Calls Tryz.prog 96 #[.agg #[.int .u8 c0, .string c1, .string c2, .int .u8 c3, .int .i64 c4, .string c5, .slice a6 n6 p6, .slice a7 n7 p7, .slice a8 n8 p8, .int .u8 c9, .slice a10 n10 p10, .slice a11 n11 p11, .string c12, .slice a13 n13 p13, .slice a14 n14 p14, .slice a15 n15 p15, .slice a16 n16 p16], .agg #[.int .u8 c0, .string c1, .string c2, .int .u8 c3, .int .i64 c4, .string c5, .slice b6 m6 q6, .slice b7 m7 q7, .slice b8 m8 q8, .int .u8 c9, .slice b10 m10 q10, .slice b11 m11 q11, .string c12, .slice b13 m13 q13, .slice b14 m14 q14, .slice b15 m15 q15, .slice b16 m16 q16]] W' fun e W'' => e = .returned (.bool true) ∧ Below W.heap.size W W'') := fun W' h =>
        (HEE.out j hlt W' _ _ (HB0.out.trans (h.mono HB0.out.size)) hr1 hr2).mono fun e W'' ⟨h1, h2⟩ => ⟨h1, h.trans (h2.mono h.size)⟩
      have KS : Hid (∀ W', Below W.heap.size W W' → (fun W' => Below W.heap.size W W' ∧ W'.cell? ⟨bb1, oo1 + j * 17, none⟩ = some (.int .u8 c0) ∧ W'.cell? ⟨bb1, oo1 + j * 17 + 1, none⟩ = some (.string c1) ∧ W'.cell? ⟨bb1, oo1 + j * 17 + 2, none⟩ = some (.string c2) ∧ W'.cell? ⟨bb1, oo1 + j * 17 + 3, none⟩ = some (.int .u8 c3) ∧ W'.cell? ⟨bb1, oo1 + j * 17 + 4, none⟩ = some (.int .i64 c4) ∧ W'.cell? ⟨bb1, oo1 + j * 17 + 5, none⟩ = some (.string c5) ∧ W'.cell? ⟨bb1, oo1 + j * 17 + 6, none⟩ = some (.slice a6 n6 p6) ∧ W'.cell? ⟨bb1, oo1 + j * 17 + 7, none⟩ = some (.slice a7 n7 p7) ∧ W'.cell? ⟨bb1, oo1 + j * 17 + 8, none⟩ = some (.slice a8 n8 p8) ∧ W'.cell? ⟨bb1, oo1 + j * 17 + 9, none⟩ = some (.int .u8 c9) ∧ W'.cell? ⟨bb1, oo1 + j * 17 + 10, none⟩ = some (.slice a10 n10 p10) ∧ W'.cell? ⟨bb1, oo1 + j * 17 + 11, none⟩ = some (.slice a11 n11 p11) ∧ W'.cell? ⟨bb1, oo1 + j * 17 + 12, none⟩ = some (.string c12) ∧ W'.cell? ⟨bb1, oo1 + j * 17 + 13, none⟩ = some (.slice a13 n13 p13) ∧ W'.cell? ⟨bb1, oo1 + j * 17 + 14, none⟩ = some (.slice a14 n14 p14) ∧ W'.cell? ⟨bb1, oo1 + j * 17 + 15, none⟩ = some (.slice a15 n15 p15) ∧ W'.cell? ⟨bb1, oo1 + j * 17 + 16, none⟩ = some (.slice a16 n16 p16) ∧ W'.cell? ⟨bb2, oo2 + j * 17, none⟩ = some (.int .u8 c0) ∧ W'.cell? ⟨bb2, oo2 + j * 17 + 1, none⟩ = some (.string c1) ∧ W'.cell? ⟨bb2, oo2 + j * 17 + 2, none⟩ = some (.string c2) ∧ W'.cell? ⟨bb2, oo2 + j * 17 + 3, none⟩ = some (.int .u8 c3) ∧ W'.cell? ⟨bb2, oo2 + j * 17 + 4, none⟩ = some (.int .i64 c4) ∧ W'.cell? ⟨bb2, oo2 + j * 17 + 5, none⟩ = some (.string c5) ∧ W'.cell? ⟨bb2, oo2 + j * 17 + 6, none⟩ = some (.slice b6 m6 q6) ∧ W'.cell? ⟨bb2, oo2 + j * 17 + 7, none⟩ = some (.slice b7 m7 q7) ∧ W'.cell? ⟨bb2, oo2 + j * 17 + 8, none⟩ = some (.slice b8 m8 q8) ∧ W'.cell? ⟨bb2, oo2 + j * 17 + 9, none⟩ = some (.int .u8 c9) ∧ W'.cell? ⟨bb2, oo2 + j * 17 + 10, none⟩ = some (.slice b10 m10 q10) ∧ W'.cell? ⟨bb2, oo2 + j * 17 + 11, none⟩ = some (.slice b11 m11 q11) ∧ W'.cell? ⟨bb2, oo2 + j * 17 + 12, none⟩ = some (.string c12) ∧ W'.cell? ⟨bb2, oo2 + j * 17 + 13, none⟩ = some (.slice b13 m13 q13) ∧ W'.cell? ⟨bb2, oo2 + j * 17 + 14, none⟩ = some (.slice b14 m14 q14) ∧ W'.cell? ⟨bb2, oo2 + j * 17 + 15, none⟩ = some (.slice b15 m15 q15) ∧ W'.cell? ⟨bb2, oo2 + j * 17 + 16, none⟩ = some (.slice b16 m16 q16)) W') := fun W' h => by
        have hlow := HB0.out.trans (h.mono HB0.out.size)
        have hk1 : ∀ q y, ([.int .u8 c0, .string c1, .string c2, .int .u8 c3, .int .i64 c4, .string c5, .slice a6 n6 p6, .slice a7 n7 p7, .slice a8 n8 p8, .int .u8 c9, .slice a10 n10 p10, .slice a11 n11 p11, .string c12, .slice a13 n13 p13, .slice a14 n14 p14, .slice a15 n15 p15, .slice a16 n16 p16] : List Value)[q]? = some y → W'.cell? ⟨bb1, oo1 + j * 17 + q, none⟩ = some y := fun q y hy => by
          rw [hlow.cell (p := ⟨bb1, oo1 + j * 17 + q, none⟩) hb1, hat1 q (List.getElem?_eq_some_iff.1 hy).1]; exact hy
        have hk2 : ∀ q y, ([.int .u8 c0, .string c1, .string c2, .int .u8 c3, .int .i64 c4, .string c5, .slice b6 m6 q6, .slice b7 m7 q7, .slice b8 m8 q8, .int .u8 c9, .slice b10 m10 q10, .slice b11 m11 q11, .string c12, .slice b13 m13 q13, .slice b14 m14 q14, .slice b15 m15 q15, .slice b16 m16 q16] : List Value)[q]? = some y → W'.cell? ⟨bb2, oo2 + j * 17 + q, none⟩ = some y := fun q y hy => by
          rw [hlow.cell (p := ⟨bb2, oo2 + j * 17 + q, none⟩) hb2, hat2 q (List.getElem?_eq_some_iff.1 hy).1]; exact hy
        exact ⟨h, hk1 0 _ rfl, hk1 1 _ rfl, hk1 2 _ rfl, hk1 3 _ rfl, hk1 4 _ rfl, hk1 5 _ rfl, hk1 6 _ rfl, hk1 7 _ rfl, hk1 8 _ rfl, hk1 9 _ rfl, hk1 10 _ rfl, hk1 11 _ rfl, hk1 12 _ rfl, hk1 13 _ rfl, hk1 14 _ rfl, hk1 15 _ rfl, hk1 16 _ rfl, hk2 0 _ rfl, hk2 1 _ rfl, hk2 2 _ rfl, hk2 3 _ rfl, hk2 4 _ rfl, hk2 5 _ rfl, hk2 6 _ rfl, hk2 7 _ rfl, hk2 8 _ rfl, hk2 9 _ rfl, hk2 10 _ rfl, hk2 11 _ rfl, hk2 12 _ rfl, hk2 13 _ rfl, hk2 14 _ rfl, hk2 15 _ rfl, hk2 16 _ rfl⟩
      clear hr1 hr2 hat1 hat2 hc1 hc2
      go_upto_region 6 with fail
      go_region_held3 (fun W' => Below W.heap.size W W' ∧ W'.cell? ⟨bb1, oo1 + j * 17, none⟩ = some (.int .u8 c0) ∧ W'.cell? ⟨bb1, oo1 + j * 17 + 1, none⟩ = some (.string c1) ∧ W'.cell? ⟨bb1, oo1 + j * 17 + 2, none⟩ = some (.string c2) ∧ W'.cell? ⟨bb1, oo1 + j * 17 + 3, none⟩ = some (.int .u8 c3) ∧ W'.cell? ⟨bb1, oo1 + j * 17 + 4, none⟩ = some (.int .i64 c4) ∧ W'.cell? ⟨bb1, oo1 + j * 17 + 5, none⟩ = some (.string c5) ∧ W'.cell? ⟨bb1, oo1 + j * 17 + 6, none⟩ = some (.slice a6 n6 p6) ∧ W'.cell? ⟨bb1, oo1 + j * 17 + 7, none⟩ = some (.slice a7 n7 p7) ∧ W'.cell? ⟨bb1, oo1 + j * 17 + 8, none⟩ = some (.slice a8 n8 p8) ∧ W'.cell? ⟨bb1, oo1 + j * 17 + 9, none⟩ = some (.int .u8 c9) ∧ W'.cell? ⟨bb1, oo1 + j * 17 + 10, none⟩ = some (.slice a10 n10 p10) ∧ W'.cell? ⟨bb1, oo1 + j * 17 + 11, none⟩ = some (.slice a11 n11 p11) ∧ W'.cell? ⟨bb1, oo1 + j * 17 + 12, none⟩ = some (.string c12) ∧ W'.cell? ⟨bb1, oo1 + j * 17 + 13, none⟩ = some (.slice a13 n13 p13) ∧ W'.cell? ⟨bb1, oo1 + j * 17 + 14, none⟩ = some (.slice a14 n14 p14) ∧ W'.cell? ⟨bb1, oo1 + j * 17 + 15, none⟩ = some (.slice a15 n15 p15) ∧ W'.cell? ⟨bb1, oo1 + j * 17 + 16, none⟩ = some (.slice a16 n16 p16) ∧ W'.cell? ⟨bb2, oo2 + j * 17, none⟩ = some (.int .u8 c0) ∧ W'.cell? ⟨bb2, oo2 + j * 17 + 1, none⟩ = some (.string c1) ∧ W'.cell? ⟨bb2, oo2 + j * 17 + 2, none⟩ = some (.string c2) ∧ W'.cell? ⟨bb2, oo2 + j * 17 + 3, none⟩ = some (.int .u8 c3) ∧ W'.cell? ⟨bb2, oo2 + j * 17 + 4, none⟩ = some (.int .i64 c4) ∧ W'.cell? ⟨bb2, oo2 + j * 17 + 5, none⟩ = some (.string c5) ∧ W'.cell? ⟨bb2, oo2 + j * 17 + 6, none⟩ = some (.slice b6 m6 q6) ∧ W'.cell? ⟨bb2, oo2 + j * 17 + 7, none⟩ = some (.slice b7 m7 q7) ∧ W'.cell? ⟨bb2, oo2 + j * 17 + 8, none⟩ = some (.slice b8 m8 q8) ∧ W'.cell? ⟨bb2, oo2 + j * 17 + 9, none⟩ = some (.int .u8 c9) ∧ W'.cell? ⟨bb2, oo2 + j * 17 + 10, none⟩ = some (.slice b10 m10 q10) ∧ W'.cell? ⟨bb2, oo2 + j * 17 + 11, none⟩ = some (.slice b11 m11 q11) ∧ W'.cell? ⟨bb2, oo2 + j * 17 + 12, none⟩ = some (.string c12) ∧ W'.cell? ⟨bb2, oo2 + j * 17 + 13, none⟩ = some (.slice b13 m13 q13) ∧ W'.cell? ⟨bb2, oo2 + j * 17 + 14, none⟩ = some (.slice b14 m14 q14) ∧ W'.cell? ⟨bb2, oo2 + j * 17 + 15, none⟩ = some (.slice b15 m15 q15) ∧ W'.cell? ⟨bb2, oo2 + j * 17 + 16, none⟩ = some (.slice b16 m16 q16))
        (first | (refine KS.out _ ?_; with_reducible exact HBR.out.drew) | (refine KS.out _ ?_; with_reducible assumption) | with_reducible assumption)
        (first
          | (go_at_call 96; refine (HE.out _ ?_).mono ?_; (go_split_ands; assumption); rintro x w3 ⟨rfl, hb3⟩))
      have HB3 := Lib.hid hb3
      clear KS HE
      go_wp2
      go_roundw
      case rel => exact ⟨j + 1, by go_num, by omega, HB3.out⟩
      case measure => simp [intOf]; try omega
    · have hn : ¬ (j : Int) < (n : Int) := by omega
      obtain rfl : n = j := by omega
      go_wp2
      try go_ret
      exact ⟨rfl, HBR.out⟩
set_option maxRecDepth 100000 in
set_option maxHeartbeats 8000000 in
theorem sameL3 (w0 : World) (t : T) (hw : Wf 3 t) : LX3 w0 t := by
  intro W a b hb hr hs
  cases t with
  | sc v => exact hw.elim
  | ls n k row =>
  obtain ⟨rfl, hst⟩ := (wf3 _ _ _).1 hw
  obtain ⟨la, lc, rfl, h1, h2, hel⟩ := hr
  obtain ⟨ma, mc, rfl, k1, k2, hem⟩ := hs
  have HEL := Lib.hid hel
  have HEM := Lib.hid hem
  have HST := Lib.hid hst
  have HB0 := Lib.hid hb
  unfold maxLen at h2 k2
  clear hb hel hem hw hst
  go_enter Tryz.func98, Tryz.ntmps98
  go_wp2
  go_loopw [5] (fun i wr => ∃ j : Nat, i = .int .i64 j ∧ j ≤ n ∧ Below W.heap.size W wr) (fun i _ => n - (intOf i).toNat)
  case atStart => exact ⟨0, rfl, Nat.zero_le _, Below.refl _ _⟩
  case round =>
    obtain ⟨j, rfl, hj, hbr⟩ := hrel
    have HBR := Lib.hid hbr
    clear hbr
    by_cases hlt : j < n
    · have g1 : (j : Int) < (n : Int) := by omega
      have g0 : (0 : Int) ≤ (j : Int) := by omega
      have g2 : j < lc := by omega
      have g3 : j < mc := by omega
      obtain ⟨bb1, oo1, rfl, -, hb1, hc1⟩ := HEL.out j hlt
      obtain ⟨bb2, oo2, rfl, -, hb2, hc2⟩ := HEM.out j hlt
      obtain ⟨y, f0, g⟩ := hc1 0 (by decide)
      obtain ⟨z, f1, k⟩ := hc2 0 (by decide)
      obtain ⟨s, rfl, e⟩ := st_rep (HST.out j hlt) g
      rw [e] at k
      obtain rfl : z = _ := k
      have hlow := HB0.out.trans (HBR.out.mono HB0.out.size)
      have f0' : wr.cell? ⟨bb1, oo1 + j, none⟩ = some (.string s) := by rw [hlow.cell (p := ⟨bb1, oo1 + j, none⟩) hb1]; simpa using f0
      have f1' : wr.cell? ⟨bb2, oo2 + j, none⟩ = some (.string s) := by rw [hlow.cell (p := ⟨bb2, oo2 + j, none⟩) hb2]; simpa using f1
      clear f0 f1 g hlow hc1 hc2
      go_upto_region 6 with fail
      go_quiet (fail)
      go_wp2
      go_roundw
      case rel => exact ⟨j + 1, by go_num, by omega, HBR.out.trans ((below_drewNP _ _).mono HBR.out.size)⟩
      case measure => simp [intOf]; try omega
    · have hn : ¬ (j : Int) < (n : Int) := by omega
      obtain rfl : n = j := by omega
      go_wp2
      try go_ret
      exact ⟨rfl, HBR.out⟩
theorem getC (row : Nat → T) : ∀ j, j < 13 → (cellsC row).getD j default = row j := fun j hj => match j, hj with
  | 0, _ => rfl
  | 1, _ => rfl
  | 2, _ => rfl
  | 3, _ => rfl
  | 4, _ => rfl
  | 5, _ => rfl
  | 6, _ => rfl
  | 7, _ => rfl
  | 8, _ => rfl
  | 9, _ => rfl
  | 10, _ => rfl
  | 11, _ => rfl
  | 12, _ => rfl
  | j + 13, h => absurd h (by omega)
set_option maxRecDepth 100000 in
set_option maxHeartbeats 16000000 in
theorem sameL4 (w0 : World) (n : Nat) (row : Nat → Nat → T) (hw : ∀ i, i < n → WC (row i)) (hE : ∀ i, i < n → SC w0 (row i)) : LX4 w0 (.ls n 13 row) := by
  intro W a b hb hr hs
  obtain ⟨la, lc, rfl, h1, h2, hel⟩ := hr
  obtain ⟨ma, mc, rfl, k1, k2, hem⟩ := hs
  have HEL := Lib.hid hel
  have HEM := Lib.hid hem
  have HWW := Lib.hid hw
  have HEE := Lib.hid hE
  have HB0 := Lib.hid hb
  unfold maxLen at h2 k2
  clear hb hel hem hw hE
  go_enter Tryz.func26, Tryz.ntmps26
  go_wp2
  go_loopw [5] (fun i wr => ∃ j : Nat, i = .int .i64 j ∧ j ≤ n ∧ Below W.heap.size W wr) (fun i _ => n - (intOf i).toNat)
  case atStart => exact ⟨0, rfl, Nat.zero_le _, Below.refl _ _⟩
  case round =>
    obtain ⟨j, rfl, hj, hbr⟩ := hrel
    have HBR := Lib.hid hbr
    clear hbr
    by_cases hlt : j < n
    · have g1 : (j : Int) < (n : Int) := by omega
      have g0 : (0 : Int) ≤ (j : Int) := by omega
      have g2 : j < lc := by omega
      have g3 : j < mc := by omega
      obtain ⟨bb1, oo1, rfl, -, hb1, hc1⟩ := HEL.out j hlt
      obtain ⟨bb2, oo2, rfl, -, hb2, hc2⟩ := HEM.out j hlt
      obtain ⟨vs, hr1, hat1, -⟩ := rep_row (n := 0) (i := j) (k := 13) (x := cellsC (row j)) rfl (fun q hq => by rw [getC _ q hq]; exact hc1 q hq)
      obtain ⟨us, hr2, hat2, -⟩ := rep_row (n := 0) (i := j) (k := 13) (x := cellsC (row j)) rfl (fun q hq => by rw [getC _ q hq]; exact hc2 q hq)
      obtain ⟨c0, c1, a2, n2, p2, b2, m2, q2, c3, c4, c5, a6, n6, p6, b6, m6, q6, a7, n7, p7, b7, m7, q7, a8, n8, p8, b8, m8, q8, c9, a10, n10, p10, b10, m10, q10, a11, n11, p11, b11, m11, q11, c12, rfl, rfl, -⟩ := twoC (row := row j) (HWW.out j hlt) hr1 hr2
      have HE : Hid (∀ W', Below W.heap.size W W' → Calls Tryz.prog 55 #[.agg #[.string c0, .string c1, .slice a2 n2 p2, .int .u8 c3, .int .i64 c4, .string c5, .slice a6 n6 p6, .slice a7 n7 p7, .slice a8 n8 p8, .int .u8 c9, .slice a10 n10 p10, .slice a11 n11 p11, .string c12], .agg #[.string c0, .string c1, .slice b2 m2 q2, .int .u8 c3, .int .i64 c4, .string c5, .slice b6 m6 q6, .slice b7 m7 q7, .slice b8 m8 q8, .int .u8 c9, .slice b10 m10 q10, .slice b11 m11 q11, .string c12]] W' fun e W'' => e = .returned (.bool true) ∧ Below W.heap.size W W'') := fun W' h =>
        (HEE.out j hlt W' _ _ (HB0.out.trans (h.mono HB0.out.size)) hr1 hr2).mono fun e W'' ⟨h1, h2⟩ => ⟨h1, h.trans (h2.mono h.size)⟩
      have KS : Hid (∀ W', Below W.heap.size W W' → (fun W' => Below W.heap.size W W' ∧ W'.cell? ⟨bb1, oo1 + j * 13, none⟩ = some (.string c0) ∧ W'.cell? ⟨bb1, oo1 + j * 13 + 1, none⟩ = some (.string c1) ∧ W'.cell? ⟨bb1, oo1 + j * 13 + 2, none⟩ = some (.slice a2 n2 p2) ∧ W'.cell? ⟨bb1, oo1 + j * 13 + 3, none⟩ = some (.int .u8 c3) ∧ W'.cell? ⟨bb1, oo1 + j * 13 + 4, none⟩ = some (.int .i64 c4) ∧ W'.cell? ⟨bb1, oo1 + j * 13 + 5, none⟩ = some (.string c5) ∧ W'.cell? ⟨bb1, oo1 + j * 13 + 6, none⟩ = some (.slice a6 n6 p6) ∧ W'.cell? ⟨bb1, oo1 + j * 13 + 7, none⟩ = some (.slice a7 n7 p7) ∧ W'.cell? ⟨bb1, oo1 + j * 13 + 8, none⟩ = some (.slice a8 n8 p8) ∧ W'.cell? ⟨bb1, oo1 + j * 13 + 9, none⟩ = some (.int .u8 c9) ∧ W'.cell? ⟨bb1, oo1 + j * 13 + 10, none⟩ = some (.slice a10 n10 p10) ∧ W'.cell? ⟨bb1, oo1 + j * 13 + 11, none⟩ = some (.slice a11 n11 p11) ∧ W'.cell? ⟨bb1, oo1 + j * 13 + 12, none⟩ = some (.string c12) ∧ W'.cell? ⟨bb2, oo2 + j * 13, none⟩ = some (.string c0) ∧ W'.cell? ⟨bb2, oo2 + j * 13 + 1, none⟩ = some (.string c1) ∧ W'.cell? ⟨bb2, oo2 + j * 13 + 2, none⟩ = some (.slice b2 m2 q2) ∧ W'.cell? ⟨bb2, oo2 + j * 13 + 3, none⟩ = some (.int .u8 c3) ∧ W'.cell? ⟨bb2, oo2 + j * 13 + 4, none⟩ = some (.int .i64 c4) ∧ W'.cell? ⟨bb2, oo2 + j * 13 + 5, none⟩ = some (.string c5) ∧ W'.cell? ⟨bb2, oo2 + j * 13 + 6, none⟩ = some (.slice b6 m6 q6) ∧ W'.cell? ⟨bb2, oo2 + j * 13 + 7, none⟩ = some (.slice b7 m7 q7) ∧ W'.cell? ⟨bb2, oo2 + j * 13 + 8, none⟩ = some (.slice b8 m8 q8) ∧ W'.cell? ⟨bb2, oo2 + j * 13 + 9, none⟩ = some (.int .u8 c9) ∧ W'.cell? ⟨bb2, oo2 + j * 13 + 10, none⟩ = some (.slice b10 m10 q10) ∧ W'.cell? ⟨bb2, oo2 + j * 13 + 11, none⟩ = some (.slice b11 m11 q11) ∧ W'.cell? ⟨bb2, oo2 + j * 13 + 12, none⟩ = some (.string c12)) W') := fun W' h => by
        have hlow := HB0.out.trans (h.mono HB0.out.size)
        have hk1 : ∀ q y, ([.string c0, .string c1, .slice a2 n2 p2, .int .u8 c3, .int .i64 c4, .string c5, .slice a6 n6 p6, .slice a7 n7 p7, .slice a8 n8 p8, .int .u8 c9, .slice a10 n10 p10, .slice a11 n11 p11, .string c12] : List Value)[q]? = some y → W'.cell? ⟨bb1, oo1 + j * 13 + q, none⟩ = some y := fun q y hy => by
          rw [hlow.cell (p := ⟨bb1, oo1 + j * 13 + q, none⟩) hb1, hat1 q (List.getElem?_eq_some_iff.1 hy).1]; exact hy
        have hk2 : ∀ q y, ([.string c0, .string c1, .slice b2 m2 q2, .int .u8 c3, .int .i64 c4, .string c5, .slice b6 m6 q6, .slice b7 m7 q7, .slice b8 m8 q8, .int .u8 c9, .slice b10 m10 q10, .slice b11 m11 q11, .string c12] : List Value)[q]? = some y → W'.cell? ⟨bb2, oo2 + j * 13 + q, none⟩ = some y := fun q y hy => by
          rw [hlow.cell (p := ⟨bb2, oo2 + j * 13 + q, none⟩) hb2, hat2 q (List.getElem?_eq_some_iff.1 hy).1]; exact hy
        exact ⟨h, hk1 0 _ rfl, hk1 1 _ rfl, hk1 2 _ rfl, hk1 3 _ rfl, hk1 4 _ rfl, hk1 5 _ rfl, hk1 6 _ rfl, hk1 7 _ rfl, hk1 8 _ rfl, hk1 9 _ rfl, hk1 10 _ rfl, hk1 11 _ rfl, hk1 12 _ rfl, hk2 0 _ rfl, hk2 1 _ rfl, hk2 2 _ rfl, hk2 3 _ rfl, hk2 4 _ rfl, hk2 5 _ rfl, hk2 6 _ rfl, hk2 7 _ rfl, hk2 8 _ rfl, hk2 9 _ rfl, hk2 10 _ rfl, hk2 11 _ rfl, hk2 12 _ rfl⟩
      clear hr1 hr2 hat1 hat2 hc1 hc2
      go_upto_region 6 with fail
      go_region_held3 (fun W' => Below W.heap.size W W' ∧ W'.cell? ⟨bb1, oo1 + j * 13, none⟩ = some (.string c0) ∧ W'.cell? ⟨bb1, oo1 + j * 13 + 1, none⟩ = some (.string c1) ∧ W'.cell? ⟨bb1, oo1 + j * 13 + 2, none⟩ = some (.slice a2 n2 p2) ∧ W'.cell? ⟨bb1, oo1 + j * 13 + 3, none⟩ = some (.int .u8 c3) ∧ W'.cell? ⟨bb1, oo1 + j * 13 + 4, none⟩ = some (.int .i64 c4) ∧ W'.cell? ⟨bb1, oo1 + j * 13 + 5, none⟩ = some (.string c5) ∧ W'.cell? ⟨bb1, oo1 + j * 13 + 6, none⟩ = some (.slice a6 n6 p6) ∧ W'.cell? ⟨bb1, oo1 + j * 13 + 7, none⟩ = some (.slice a7 n7 p7) ∧ W'.cell? ⟨bb1, oo1 + j * 13 + 8, none⟩ = some (.slice a8 n8 p8) ∧ W'.cell? ⟨bb1, oo1 + j * 13 + 9, none⟩ = some (.int .u8 c9) ∧ W'.cell? ⟨bb1, oo1 + j * 13 + 10, none⟩ = some (.slice a10 n10 p10) ∧ W'.cell? ⟨bb1, oo1 + j * 13 + 11, none⟩ = some (.slice a11 n11 p11) ∧ W'.cell? ⟨bb1, oo1 + j * 13 + 12, none⟩ = some (.string c12) ∧ W'.cell? ⟨bb2, oo2 + j * 13, none⟩ = some (.string c0) ∧ W'.cell? ⟨bb2, oo2 + j * 13 + 1, none⟩ = some (.string c1) ∧ W'.cell? ⟨bb2, oo2 + j * 13 + 2, none⟩ = some (.slice b2 m2 q2) ∧ W'.cell? ⟨bb2, oo2 + j * 13 + 3, none⟩ = some (.int .u8 c3) ∧ W'.cell? ⟨bb2, oo2 + j * 13 + 4, none⟩ = some (.int .i64 c4) ∧ W'.cell? ⟨bb2, oo2 + j * 13 + 5, none⟩ = some (.string c5) ∧ W'.cell? ⟨bb2, oo2 + j * 13 + 6, none⟩ = some (.slice b6 m6 q6) ∧ W'.cell? ⟨bb2, oo2 + j * 13 + 7, none⟩ = some (.slice b7 m7 q7) ∧ W'.cell? ⟨bb2, oo2 + j * 13 + 8, none⟩ = some (.slice b8 m8 q8) ∧ W'.cell? ⟨bb2, oo2 + j * 13 + 9, none⟩ = some (.int .u8 c9) ∧ W'.cell? ⟨bb2, oo2 + j * 13 + 10, none⟩ = some (.slice b10 m10 q10) ∧ W'.cell? ⟨bb2, oo2 + j * 13 + 11, none⟩ = some (.slice b11 m11 q11) ∧ W'.cell? ⟨bb2, oo2 + j * 13 + 12, none⟩ = some (.string c12))
        (first | (refine KS.out _ ?_; with_reducible exact HBR.out.drew) | (refine KS.out _ ?_; with_reducible assumption) | with_reducible assumption)
        (first
          | (go_at_call 55; refine (HE.out _ ?_).mono ?_; (go_split_ands; assumption); rintro x w3 ⟨rfl, hb3⟩))
      have HB3 := Lib.hid hb3
      clear KS HE
      go_wp2
      go_roundw
      case rel => exact ⟨j + 1, by go_num, by omega, HB3.out⟩
      case measure => simp [intOf]; try omega
    · have hn : ¬ (j : Int) < (n : Int) := by omega
      obtain rfl : n = j := by omega
      go_wp2
      try go_ret
      exact ⟨rfl, HBR.out⟩
/-- All that lies in a tree. -/
theorem same_tree (w0 : World) : ∀ t : T, (Wf 0 t → LX0 w0 t) ∧ (Wf 1 t → LX1 w0 t) ∧ (Wf 2 t → LX2 w0 t) := by
  intro t
  induction t with
  | sc v => exact ⟨fun h => h.elim, fun h => h.elim, fun h => h.elim⟩
  | ls n k row ih =>
    have step : ∀ i o, WE (row i) o → SE w0 (row i) o := fun i o hw =>
      sameE_step w0 (row i) o hw ((ih i (o + 3)).1 hw.2.2.2.1) (sameL3 w0 _ hw.2.2.2.2.1) ((ih i (o + 5)).1 hw.2.2.2.2.2.1) ((ih i (o + 7)).1 hw.2.2.2.2.2.2.2.1) ((ih i (o + 8)).2.1 hw.2.2.2.2.2.2.2.2.1)
    refine ⟨fun hw => ?_, fun hw => ?_, fun hw => ?_⟩
    · obtain ⟨rfl, h⟩ := (wf0 _ _ _).1 hw
      exact sameL0 w0 n row h fun i hi => step i 0 (h i hi)
    · obtain ⟨rfl, h⟩ := (wf1 _ _ _).1 hw
      exact sameL1 w0 n row h fun i hi => sameA_step w0 (row i) (h i hi) (step i 2 (h i hi).2.2)
    · obtain ⟨rfl, h⟩ := (wf2 _ _ _).1 hw
      exact sameL2 w0 n row h fun i hi => sameS_step w0 (row i) (h i hi) (step i 3 (h i hi).2.2.2.1) ((ih i 13).1 (h i hi).2.2.2.2.1) ((ih i 14).2.1 (h i hi).2.2.2.2.2.1) ((ih i 15).2.1 (h i hi).2.2.2.2.2.2.1) ((ih i 16).2.2 (h i hi).2.2.2.2.2.2.2)
theorem sameE_any (w0 : World) (row : Nat → T) (o : Nat) (hw : WE row o) : SE w0 row o :=
  sameE_step w0 row o hw ((same_tree w0 _).1 hw.2.2.2.1) (sameL3 w0 _ hw.2.2.2.2.1) ((same_tree w0 _).1 hw.2.2.2.2.2.1) ((same_tree w0 _).1 hw.2.2.2.2.2.2.2.1) ((same_tree w0 _).2.1 hw.2.2.2.2.2.2.2.2.1)
theorem sameC_any (w0 : World) (row : Nat → T) (hw : WC row) : SC w0 row := sameC_step w0 row hw (sameE_any w0 row 3 hw.2.2.2) ((same_tree w0 _).2.2 hw.2.2.1)
theorem components_any (w0 : World) (n : Nat) (row : Nat → Nat → T) (hw : ∀ i, i < n → WC (row i)) : LX4 w0 (.ls n 13 row) := sameL4 w0 n row hw fun i hi => sameC_any w0 (row i) (hw i hi)
set_option maxRecDepth 100000 in
theorem same_program (w0 : World) (n : Nat) (row : Nat → Nat → T) (hw : ∀ i, i < n → WC (row i)) (W : World) (a b : Value) (hb : Below w0.heap.size w0 W) (hr : (T.ls n 13 row).Rep w0 (fun _ => True) a) (hs : (T.ls n 13 row).Rep w0 (fun _ => True) b) :
    Calls Tryz.prog 10 #[a, b] W fun e W' => e = .returned (.bool true) ∧ Below W.heap.size W W' := by
  have H := Lib.hid (components_any w0 n row hw W a b hb hr hs)
  clear hr hs hb hw
  go_enter Tryz.func10, Tryz.ntmps10
  go_wp2_with (go_at_call 26; (with_reducible refine H.out.mono ?_); rintro e1 w1 ⟨rfl, hb1⟩; have HB := Lib.hid hb1; clear hb1)
  try go_ret
  exact ⟨rfl, HB.out⟩
end Go.Proofs.YtdlmemalefhgmaaGreatDoor
namespace Go.Proofs.YtdlmemalefhgmaaGreatDoor
set_option linter.unusedVariables false
set_option linter.unusedSimpArgs false
open Go.RowKit G

theorem cat_list (a b : ByteArray) : (a ++ b).data.toList = a.data.toList ++ b.data.toList := by
  cases a; cases b; simp
/-- What Words answers, but for its words. -/
theorem words_out (s : ByteArray) (W : World) (hs : s.size ≤ 65536) (ht : LTabs W) {n h : Int} (hr : match LX.lex 0 s.data.toList with | .err k => n = k ∧ h = 4 | .ok _ => n = 0 ∧ h = 0) :
    Calls Tryz.prog 9 #[.string s] W fun e w' => ∃ v, e = .returned (.tuple #[v, .int .i64 n, .int .i64 h]) ∧ Below W.heap.size W w' := by
  refine (words_any s W hs ht).mono fun e w' hp => ?_
  unfold PostWords at hp
  cases hl : LX.lex 0 s.data.toList with
  | err k =>
    rw [hl] at hp hr
    obtain ⟨rfl, rfl⟩ := hr
    exact ⟨_, hp.1, hp.2⟩
  | ok ws =>
    rw [hl] at hp hr
    obtain ⟨rfl, rfl⟩ := hr
    obtain ⟨⟨v, he, -⟩, hb⟩ := hp
    exact ⟨v, he, hb⟩
/-- What Parse answers, where it is none. -/
theorem parse_none (s : ByteArray) (W : World) (hs : s.size ≤ 65536) (ht : LTabs W) {n e : Int} (hr : match LX.lex 0 s.data.toList with | .err k => n = k ∧ e = 4 | .ok ws => match parseP ws with | .inl k => n = k ∧ e = 5 | .inr _ => False) :
    Calls Tryz.prog 8 #[.string s] W fun x w' => x = .returned (.tuple #[.slice none 0 0, .int .i64 n, .int .i64 e]) ∧ Below W.heap.size W w' := by
  refine (parse_any s W hs ht).mono fun x w' hp => ?_
  unfold PostParse at hp
  cases hl : LX.lex 0 s.data.toList with
  | err k =>
    rw [hl] at hp hr
    obtain ⟨rfl, rfl⟩ := hr
    exact hp
  | ok ws =>
    rw [hl] at hp hr
    dsimp only at hp hr
    cases hq : parseP ws with
    | inl k =>
      rw [hq] at hp hr
      obtain ⟨rfl, rfl⟩ := hr
      exact hp
    | inr l => rw [hq] at hr; exact hr.elim
/-- Where it is a program. -/
theorem parse_some (s : ByteArray) (W : World) (hs : s.size ≤ 65536) (ht : LTabs W) {ws : List LX.LW} {l : List (List T)} (hl : LX.lex 0 s.data.toList = .ok ws) (hq : parseP ws = .inr l) :
    Calls Tryz.prog 8 #[.string s] W fun x w' => ∃ v, x = .returned (.tuple #[v, .int .i64 0, .int .i64 0]) ∧ FSl ShC 44 13 W.heap.size l v w' ∧ Below W.heap.size W w' := by
  refine (parse_any s W hs ht).mono fun x w' hp => ?_
  unfold PostParse at hp
  rw [hl] at hp
  dsimp only at hp
  rw [hq] at hp
  obtain ⟨⟨v, he, hf⟩, hb⟩ := hp
  exact ⟨v, he, hf, hb⟩
/-- Whatever it is. -/
theorem parse_what (s : ByteArray) (hs : s.size ≤ 65536) : ∃ n e : Int, (e = 0 ∨ e = 4 ∨ e = 5) ∧ ∀ W, LTabs W → Calls Tryz.prog 8 #[.string s] W fun x w' => ∃ v, x = .returned (.tuple #[v, .int .i64 n, .int .i64 e]) ∧ Below W.heap.size W w' := by
  cases hl : LX.lex 0 s.data.toList with
  | err k => exact ⟨k, 4, by omega, fun W ht => (parse_none s W hs ht (n := k) (e := 4) (by rw [hl]; exact ⟨rfl, rfl⟩)).mono fun x w' ⟨h1, h2⟩ => ⟨_, h1, h2⟩⟩
  | ok ws =>
    cases hq : parseP ws with
    | inl k => exact ⟨k, 5, by omega, fun W ht => (parse_none s W hs ht (n := k) (e := 5) (by rw [hl]; dsimp only; rw [hq]; exact ⟨rfl, rfl⟩)).mono fun x w' ⟨h1, h2⟩ => ⟨_, h1, h2⟩⟩
    | inr l => exact ⟨0, 0, by omega, fun W ht => (parse_some s W hs ht hl hq).mono fun x w' ⟨v, h1, _, h2⟩ => ⟨v, h1, h2⟩⟩
theorem parse_word (s : ByteArray) (hs : s.size ≤ 65536) {ws : List LX.LW} (hl : LX.lex 0 s.data.toList = .ok ws) : ∃ n e : Int, (e = 0 ∨ e = 5) ∧ ∀ W, LTabs W → Calls Tryz.prog 8 #[.string s] W fun x w' => ∃ v, x = .returned (.tuple #[v, .int .i64 n, .int .i64 e]) ∧ Below W.heap.size W w' := by
  cases hq : parseP ws with
  | inl k => exact ⟨k, 5, by omega, fun W ht => (parse_none s W hs ht (n := k) (e := 5) (by rw [hl]; dsimp only; rw [hq]; exact ⟨rfl, rfl⟩)).mono fun x w' ⟨h1, h2⟩ => ⟨_, h1, h2⟩⟩
  | inr l => exact ⟨0, 0, by omega, fun W ht => (parse_some s W hs ht hl hq).mono fun x w' ⟨v, h1, _, h2⟩ => ⟨v, h1, h2⟩⟩

set_option maxRecDepth 100000 in
set_option maxHeartbeats 8000000 in
theorem pj_big (a b : ByteArray) (w : World) (ht : LTabs w) (hv : VTabs w) (ha : a.size ≤ 140737488355328) (hb : b.size ≤ 140737488355328) (hs : 65535 < a.size + b.size) :
    Calls Tryz.prog 3 #[.string a, .string b] w fun e w' => e = .returned (.bool true) ∧ Below w.heap.size w w' := by
  have H1 := Lib.hid (alive_any w ht hv)
  have H2 := Lib.hid (fun W (h : Below w.heap.size w W) => alive_any W (ht.below h ht.gb) (hv.below h))
  have HT : Hid (∀ W W', Below w.heap.size w W → Below W.heap.size W W' → Below w.heap.size w W') := fun W W' h k => h.trans (k.mono h.size)
  have g1 : (0 : Int) ≤ (a.size : Int) := by omega
  have g2 : (a.size : Int) ≤ 140737488355328 := by omega
  have g3 : (0 : Int) ≤ (b.size : Int) := by omega
  have g4 : (b.size : Int) ≤ 140737488355328 := by omega
  have g5 : (65535 : Int) < (a.size : Int) + (b.size : Int) := by omega
  clear ht ha hb hs hv
  go_enter Tryz.func3, Tryz.ntmps3
  go_wp2_with fail
  refine H1.out.mono ?_
  rintro e w1 ⟨rfl, hb1⟩
  have HB := Lib.hid hb1
  clear hb1
  go_wp2_with fail
  refine (H2.out _ HB.out).mono ?_
  rintro e w2 ⟨rfl, hb2⟩
  have HC := Lib.hid (HT.out _ _ HB.out hb2)
  clear hb2
  go_wp2
  go_ret
  exact ⟨rfl, HC.out⟩
set_option maxRecDepth 100000 in
set_option maxHeartbeats 8000000 in
/-- The first text is none of words. -/
theorem pj_w1a (a b ab : ByteArray) (w : World) (ht : LTabs w) (hv : VTabs w) (hs : a.size + b.size ≤ 65535) (hab : (a ++ (⟨#[10]⟩ : ByteArray)) ++ b = ab) (n nb f k : Int) (hk : (0 : Int) ≤ k)
    (hA : ∀ W, LTabs W → Calls Tryz.prog 8 #[.string a] W fun x w' => ∃ v, x = .returned (.tuple #[v, .int .i64 n, .int .i64 4]) ∧ Below W.heap.size W w')
    (hB : ∀ W, LTabs W → Calls Tryz.prog 8 #[.string b] W fun x w' => ∃ v, x = .returned (.tuple #[v, .int .i64 nb, .int .i64 f]) ∧ Below W.heap.size W w')
    (hC : ∀ W, LTabs W → Calls Tryz.prog 8 #[.string ab] W fun x w' => ∃ v, x = .returned (.tuple #[v, .int .i64 n, .int .i64 4]) ∧ Below W.heap.size W w')
    (hD : ∀ W, LTabs W → Calls Tryz.prog 9 #[.string b] W fun x w' => ∃ v, x = .returned (.tuple #[v, .int .i64 k, .int .i64 0]) ∧ Below W.heap.size W w') :
    Calls Tryz.prog 3 #[.string a, .string b] w fun e w' => e = .returned (.bool true) ∧ Below w.heap.size w w' := by
  have HAl := Lib.hid (alive_any w ht hv)
  obtain ⟨a1, ha1⟩ : ∃ x, a ++ (⟨#[10]⟩ : ByteArray) = x := ⟨_, rfl⟩
  rw [ha1] at hab
  have za1 : a1.size = a.size + 1 := by rw [← ha1]; simp; rfl
  have K1 : ∀ W, (Op.stringOp .add a ⟨#[10]⟩).run Tryz.prog W = .ok (.string a1) W := fun W => by rw [← ha1]; exact run_string_add_sum W _ _ (by show _ + 1 ≤ _; omega)
  have K2' : ∀ W, (Op.stringOp .add a1 b).run Tryz.prog W = .ok (.string ab) W := fun W => by rw [← hab]; exact run_string_add_sum W _ _ (by omega)
  have HT : Hid (∀ W W', Below w.heap.size w W → Below W.heap.size W W' → Below w.heap.size w W') := fun W W' h k => h.trans (k.mono h.size)
  have HA := Lib.hid (fun W (h : Below w.heap.size w W) => hA W (ht.below h ht.gb))
  have HB := Lib.hid (fun W (h : Below w.heap.size w W) => hB W (ht.below h ht.gb))
  have HC := Lib.hid (fun W (h : Below w.heap.size w W) => hC W (ht.below h ht.gb))
  have HD := Lib.hid (fun W (h : Below w.heap.size w W) => hD W (ht.below h ht.gb))
  have g1 : (0 : Int) ≤ (a.size : Int) := by omega
  have g2 : (a.size : Int) ≤ 65535 := by omega
  have g3 : (0 : Int) ≤ (b.size : Int) := by omega
  have g4 : (b.size : Int) ≤ 65535 := by omega
  have g5 : ¬ (65535 : Int) < (a.size : Int) + (b.size : Int) := by omega
  clear ht hv hs ha1 hab za1 hA hB hC hD
  go_enter Tryz.func3, Tryz.ntmps3
  go_wp2_with fail
  refine HAl.out.mono ?_
  rintro e w1 ⟨rfl, hb1⟩
  have HB1 := Lib.hid hb1
  clear hb1
  go_wp2_with fail
  refine (HA.out _ HB1.out).mono ?_
  rintro e w2 ⟨v1, rfl, hb2⟩
  have HB2 := Lib.hid (HT.out _ _ HB1.out hb2)
  clear hb2
  go_wp2_with fail
  refine (HB.out _ HB2.out).mono ?_
  rintro e w3 ⟨v2, rfl, hb3⟩
  have HB3 := Lib.hid (HT.out _ _ HB2.out hb3)
  clear hb3
  go_wp2_with fail
  refine (HC.out _ HB3.out).mono ?_
  rintro e w4 ⟨v3, rfl, hb4⟩
  have HB4 := Lib.hid (HT.out _ _ HB3.out hb4)
  clear hb4
  go_wp2_with fail
  refine (HD.out _ HB4.out).mono ?_
  rintro e w5 ⟨v4, rfl, hb5⟩
  have HB5 := Lib.hid (HT.out _ _ HB4.out hb5)
  clear hb5 HAl HA HB HC HD
  go_wp2
  go_ret
  exact ⟨rfl, HB5.out⟩
set_option maxRecDepth 100000 in
set_option maxHeartbeats 8000000 in
/-- The first text is none of words. -/
theorem pj_w1b (a b ab : ByteArray) (w : World) (ht : LTabs w) (hv : VTabs w) (hs : a.size + b.size ≤ 65535) (hab : (a ++ (⟨#[10]⟩ : ByteArray)) ++ b = ab) (n nb f k : Int) (hk : (0 : Int) ≤ k)
    (hA : ∀ W, LTabs W → Calls Tryz.prog 8 #[.string a] W fun x w' => ∃ v, x = .returned (.tuple #[v, .int .i64 n, .int .i64 4]) ∧ Below W.heap.size W w')
    (hB : ∀ W, LTabs W → Calls Tryz.prog 8 #[.string b] W fun x w' => ∃ v, x = .returned (.tuple #[v, .int .i64 nb, .int .i64 f]) ∧ Below W.heap.size W w')
    (hC : ∀ W, LTabs W → Calls Tryz.prog 8 #[.string ab] W fun x w' => ∃ v, x = .returned (.tuple #[v, .int .i64 n, .int .i64 4]) ∧ Below W.heap.size W w')
    (hD : ∀ W, LTabs W → Calls Tryz.prog 9 #[.string b] W fun x w' => ∃ v, x = .returned (.tuple #[v, .int .i64 k, .int .i64 4]) ∧ Below W.heap.size W w') :
    Calls Tryz.prog 3 #[.string a, .string b] w fun e w' => e = .returned (.bool true) ∧ Below w.heap.size w w' := by
  have HAl := Lib.hid (alive_any w ht hv)
  obtain ⟨a1, ha1⟩ : ∃ x, a ++ (⟨#[10]⟩ : ByteArray) = x := ⟨_, rfl⟩
  rw [ha1] at hab
  have za1 : a1.size = a.size + 1 := by rw [← ha1]; simp; rfl
  have K1 : ∀ W, (Op.stringOp .add a ⟨#[10]⟩).run Tryz.prog W = .ok (.string a1) W := fun W => by rw [← ha1]; exact run_string_add_sum W _ _ (by show _ + 1 ≤ _; omega)
  have K2' : ∀ W, (Op.stringOp .add a1 b).run Tryz.prog W = .ok (.string ab) W := fun W => by rw [← hab]; exact run_string_add_sum W _ _ (by omega)
  have HT : Hid (∀ W W', Below w.heap.size w W → Below W.heap.size W W' → Below w.heap.size w W') := fun W W' h k => h.trans (k.mono h.size)
  have HA := Lib.hid (fun W (h : Below w.heap.size w W) => hA W (ht.below h ht.gb))
  have HB := Lib.hid (fun W (h : Below w.heap.size w W) => hB W (ht.below h ht.gb))
  have HC := Lib.hid (fun W (h : Below w.heap.size w W) => hC W (ht.below h ht.gb))
  have HD := Lib.hid (fun W (h : Below w.heap.size w W) => hD W (ht.below h ht.gb))
  have g1 : (0 : Int) ≤ (a.size : Int) := by omega
  have g2 : (a.size : Int) ≤ 65535 := by omega
  have g3 : (0 : Int) ≤ (b.size : Int) := by omega
  have g4 : (b.size : Int) ≤ 65535 := by omega
  have g5 : ¬ (65535 : Int) < (a.size : Int) + (b.size : Int) := by omega
  clear ht hv hs ha1 hab za1 hA hB hC hD
  go_enter Tryz.func3, Tryz.ntmps3
  go_wp2_with fail
  refine HAl.out.mono ?_
  rintro e w1 ⟨rfl, hb1⟩
  have HB1 := Lib.hid hb1
  clear hb1
  go_wp2_with fail
  refine (HA.out _ HB1.out).mono ?_
  rintro e w2 ⟨v1, rfl, hb2⟩
  have HB2 := Lib.hid (HT.out _ _ HB1.out hb2)
  clear hb2
  go_wp2_with fail
  refine (HB.out _ HB2.out).mono ?_
  rintro e w3 ⟨v2, rfl, hb3⟩
  have HB3 := Lib.hid (HT.out _ _ HB2.out hb3)
  clear hb3
  go_wp2_with fail
  refine (HC.out _ HB3.out).mono ?_
  rintro e w4 ⟨v3, rfl, hb4⟩
  have HB4 := Lib.hid (HT.out _ _ HB3.out hb4)
  clear hb4
  go_wp2_with fail
  refine (HD.out _ HB4.out).mono ?_
  rintro e w5 ⟨v4, rfl, hb5⟩
  have HB5 := Lib.hid (HT.out _ _ HB4.out hb5)
  clear hb5 HAl HA HB HC HD
  go_wp2
  go_ret
  exact ⟨rfl, HB5.out⟩
set_option maxRecDepth 100000 in
set_option maxHeartbeats 8000000 in
/-- The second is none of words. -/
theorem pj_w2a (a b ab : ByteArray) (w : World) (ht : LTabs w) (hv : VTabs w) (hs : a.size + b.size ≤ 65535) (hab : (a ++ (⟨#[10]⟩ : ByteArray)) ++ b = ab) (n nb f m k : Int) (hk : (0 : Int) ≤ k)
    (hA : ∀ W, LTabs W → Calls Tryz.prog 8 #[.string a] W fun x w' => ∃ v, x = .returned (.tuple #[v, .int .i64 n, .int .i64 0]) ∧ Below W.heap.size W w')
    (hB : ∀ W, LTabs W → Calls Tryz.prog 8 #[.string b] W fun x w' => ∃ v, x = .returned (.tuple #[v, .int .i64 nb, .int .i64 f]) ∧ Below W.heap.size W w')
    (hC : ∀ W, LTabs W → Calls Tryz.prog 8 #[.string ab] W fun x w' => ∃ v, x = .returned (.tuple #[v, .int .i64 m, .int .i64 4]) ∧ Below W.heap.size W w')
    (hD : ∀ W, LTabs W → Calls Tryz.prog 9 #[.string b] W fun x w' => ∃ v, x = .returned (.tuple #[v, .int .i64 k, .int .i64 4]) ∧ Below W.heap.size W w') :
    Calls Tryz.prog 3 #[.string a, .string b] w fun e w' => e = .returned (.bool true) ∧ Below w.heap.size w w' := by
  have HAl := Lib.hid (alive_any w ht hv)
  obtain ⟨a1, ha1⟩ : ∃ x, a ++ (⟨#[10]⟩ : ByteArray) = x := ⟨_, rfl⟩
  rw [ha1] at hab
  have za1 : a1.size = a.size + 1 := by rw [← ha1]; simp; rfl
  have K1 : ∀ W, (Op.stringOp .add a ⟨#[10]⟩).run Tryz.prog W = .ok (.string a1) W := fun W => by rw [← ha1]; exact run_string_add_sum W _ _ (by show _ + 1 ≤ _; omega)
  have K2' : ∀ W, (Op.stringOp .add a1 b).run Tryz.prog W = .ok (.string ab) W := fun W => by rw [← hab]; exact run_string_add_sum W _ _ (by omega)
  have HT : Hid (∀ W W', Below w.heap.size w W → Below W.heap.size W W' → Below w.heap.size w W') := fun W W' h k => h.trans (k.mono h.size)
  have HA := Lib.hid (fun W (h : Below w.heap.size w W) => hA W (ht.below h ht.gb))
  have HB := Lib.hid (fun W (h : Below w.heap.size w W) => hB W (ht.below h ht.gb))
  have HC := Lib.hid (fun W (h : Below w.heap.size w W) => hC W (ht.below h ht.gb))
  have HD := Lib.hid (fun W (h : Below w.heap.size w W) => hD W (ht.below h ht.gb))
  have g1 : (0 : Int) ≤ (a.size : Int) := by omega
  have g2 : (a.size : Int) ≤ 65535 := by omega
  have g3 : (0 : Int) ≤ (b.size : Int) := by omega
  have g4 : (b.size : Int) ≤ 65535 := by omega
  have g5 : ¬ (65535 : Int) < (a.size : Int) + (b.size : Int) := by omega
  clear ht hv hs ha1 hab za1 hA hB hC hD
  go_enter Tryz.func3, Tryz.ntmps3
  go_wp2_with fail
  refine HAl.out.mono ?_
  rintro e w1 ⟨rfl, hb1⟩
  have HB1 := Lib.hid hb1
  clear hb1
  go_wp2_with fail
  refine (HA.out _ HB1.out).mono ?_
  rintro e w2 ⟨v1, rfl, hb2⟩
  have HB2 := Lib.hid (HT.out _ _ HB1.out hb2)
  clear hb2
  go_wp2_with fail
  refine (HB.out _ HB2.out).mono ?_
  rintro e w3 ⟨v2, rfl, hb3⟩
  have HB3 := Lib.hid (HT.out _ _ HB2.out hb3)
  clear hb3
  go_wp2_with fail
  refine (HC.out _ HB3.out).mono ?_
  rintro e w4 ⟨v3, rfl, hb4⟩
  have HB4 := Lib.hid (HT.out _ _ HB3.out hb4)
  clear hb4
  go_wp2_with fail
  refine (HD.out _ HB4.out).mono ?_
  rintro e w5 ⟨v4, rfl, hb5⟩
  have HB5 := Lib.hid (HT.out _ _ HB4.out hb5)
  clear hb5 HAl HA HB HC HD
  go_wp2
  go_ret
  exact ⟨rfl, HB5.out⟩
set_option maxRecDepth 100000 in
set_option maxHeartbeats 8000000 in
/-- The second is none of words. -/
theorem pj_w2b (a b ab : ByteArray) (w : World) (ht : LTabs w) (hv : VTabs w) (hs : a.size + b.size ≤ 65535) (hab : (a ++ (⟨#[10]⟩ : ByteArray)) ++ b = ab) (n nb f m k : Int) (hk : (0 : Int) ≤ k)
    (hA : ∀ W, LTabs W → Calls Tryz.prog 8 #[.string a] W fun x w' => ∃ v, x = .returned (.tuple #[v, .int .i64 n, .int .i64 5]) ∧ Below W.heap.size W w')
    (hB : ∀ W, LTabs W → Calls Tryz.prog 8 #[.string b] W fun x w' => ∃ v, x = .returned (.tuple #[v, .int .i64 nb, .int .i64 f]) ∧ Below W.heap.size W w')
    (hC : ∀ W, LTabs W → Calls Tryz.prog 8 #[.string ab] W fun x w' => ∃ v, x = .returned (.tuple #[v, .int .i64 m, .int .i64 4]) ∧ Below W.heap.size W w')
    (hD : ∀ W, LTabs W → Calls Tryz.prog 9 #[.string b] W fun x w' => ∃ v, x = .returned (.tuple #[v, .int .i64 k, .int .i64 4]) ∧ Below W.heap.size W w') :
    Calls Tryz.prog 3 #[.string a, .string b] w fun e w' => e = .returned (.bool true) ∧ Below w.heap.size w w' := by
  have HAl := Lib.hid (alive_any w ht hv)
  obtain ⟨a1, ha1⟩ : ∃ x, a ++ (⟨#[10]⟩ : ByteArray) = x := ⟨_, rfl⟩
  rw [ha1] at hab
  have za1 : a1.size = a.size + 1 := by rw [← ha1]; simp; rfl
  have K1 : ∀ W, (Op.stringOp .add a ⟨#[10]⟩).run Tryz.prog W = .ok (.string a1) W := fun W => by rw [← ha1]; exact run_string_add_sum W _ _ (by show _ + 1 ≤ _; omega)
  have K2' : ∀ W, (Op.stringOp .add a1 b).run Tryz.prog W = .ok (.string ab) W := fun W => by rw [← hab]; exact run_string_add_sum W _ _ (by omega)
  have HT : Hid (∀ W W', Below w.heap.size w W → Below W.heap.size W W' → Below w.heap.size w W') := fun W W' h k => h.trans (k.mono h.size)
  have HA := Lib.hid (fun W (h : Below w.heap.size w W) => hA W (ht.below h ht.gb))
  have HB := Lib.hid (fun W (h : Below w.heap.size w W) => hB W (ht.below h ht.gb))
  have HC := Lib.hid (fun W (h : Below w.heap.size w W) => hC W (ht.below h ht.gb))
  have HD := Lib.hid (fun W (h : Below w.heap.size w W) => hD W (ht.below h ht.gb))
  have g1 : (0 : Int) ≤ (a.size : Int) := by omega
  have g2 : (a.size : Int) ≤ 65535 := by omega
  have g3 : (0 : Int) ≤ (b.size : Int) := by omega
  have g4 : (b.size : Int) ≤ 65535 := by omega
  have g5 : ¬ (65535 : Int) < (a.size : Int) + (b.size : Int) := by omega
  clear ht hv hs ha1 hab za1 hA hB hC hD
  go_enter Tryz.func3, Tryz.ntmps3
  go_wp2_with fail
  refine HAl.out.mono ?_
  rintro e w1 ⟨rfl, hb1⟩
  have HB1 := Lib.hid hb1
  clear hb1
  go_wp2_with fail
  refine (HA.out _ HB1.out).mono ?_
  rintro e w2 ⟨v1, rfl, hb2⟩
  have HB2 := Lib.hid (HT.out _ _ HB1.out hb2)
  clear hb2
  go_wp2_with fail
  refine (HB.out _ HB2.out).mono ?_
  rintro e w3 ⟨v2, rfl, hb3⟩
  have HB3 := Lib.hid (HT.out _ _ HB2.out hb3)
  clear hb3
  go_wp2_with fail
  refine (HC.out _ HB3.out).mono ?_
  rintro e w4 ⟨v3, rfl, hb4⟩
  have HB4 := Lib.hid (HT.out _ _ HB3.out hb4)
  clear hb4
  go_wp2_with fail
  refine (HD.out _ HB4.out).mono ?_
  rintro e w5 ⟨v4, rfl, hb5⟩
  have HB5 := Lib.hid (HT.out _ _ HB4.out hb5)
  clear hb5 HAl HA HB HC HD
  go_wp2
  go_ret
  exact ⟨rfl, HB5.out⟩
set_option maxRecDepth 100000 in
set_option maxHeartbeats 8000000 in
/-- The first is no program. -/
theorem pj_p1 (a b ab : ByteArray) (w : World) (ht : LTabs w) (hv : VTabs w) (hs : a.size + b.size ≤ 65535) (hab : (a ++ (⟨#[10]⟩ : ByteArray)) ++ b = ab) (n nb f m g k : Int) (hk : (0 : Int) ≤ k)
    (hA : ∀ W, LTabs W → Calls Tryz.prog 8 #[.string a] W fun x w' => ∃ v, x = .returned (.tuple #[v, .int .i64 n, .int .i64 5]) ∧ Below W.heap.size W w')
    (hB : ∀ W, LTabs W → Calls Tryz.prog 8 #[.string b] W fun x w' => ∃ v, x = .returned (.tuple #[v, .int .i64 nb, .int .i64 f]) ∧ Below W.heap.size W w')
    (hC : ∀ W, LTabs W → Calls Tryz.prog 8 #[.string ab] W fun x w' => ∃ v, x = .returned (.tuple #[v, .int .i64 m, .int .i64 g]) ∧ Below W.heap.size W w')
    (hD : ∀ W, LTabs W → Calls Tryz.prog 9 #[.string b] W fun x w' => ∃ v, x = .returned (.tuple #[v, .int .i64 k, .int .i64 0]) ∧ Below W.heap.size W w') :
    Calls Tryz.prog 3 #[.string a, .string b] w fun e w' => e = .returned (.bool true) ∧ Below w.heap.size w w' := by
  have HAl := Lib.hid (alive_any w ht hv)
  obtain ⟨a1, ha1⟩ : ∃ x, a ++ (⟨#[10]⟩ : ByteArray) = x := ⟨_, rfl⟩
  rw [ha1] at hab
  have za1 : a1.size = a.size + 1 := by rw [← ha1]; simp; rfl
  have K1 : ∀ W, (Op.stringOp .add a ⟨#[10]⟩).run Tryz.prog W = .ok (.string a1) W := fun W => by rw [← ha1]; exact run_string_add_sum W _ _ (by show _ + 1 ≤ _; omega)
  have K2' : ∀ W, (Op.stringOp .add a1 b).run Tryz.prog W = .ok (.string ab) W := fun W => by rw [← hab]; exact run_string_add_sum W _ _ (by omega)
  have HT : Hid (∀ W W', Below w.heap.size w W → Below W.heap.size W W' → Below w.heap.size w W') := fun W W' h k => h.trans (k.mono h.size)
  have HA := Lib.hid (fun W (h : Below w.heap.size w W) => hA W (ht.below h ht.gb))
  have HB := Lib.hid (fun W (h : Below w.heap.size w W) => hB W (ht.below h ht.gb))
  have HC := Lib.hid (fun W (h : Below w.heap.size w W) => hC W (ht.below h ht.gb))
  have HD := Lib.hid (fun W (h : Below w.heap.size w W) => hD W (ht.below h ht.gb))
  have g1 : (0 : Int) ≤ (a.size : Int) := by omega
  have g2 : (a.size : Int) ≤ 65535 := by omega
  have g3 : (0 : Int) ≤ (b.size : Int) := by omega
  have g4 : (b.size : Int) ≤ 65535 := by omega
  have g5 : ¬ (65535 : Int) < (a.size : Int) + (b.size : Int) := by omega
  clear ht hv hs ha1 hab za1 hA hB hC hD
  go_enter Tryz.func3, Tryz.ntmps3
  go_wp2_with fail
  refine HAl.out.mono ?_
  rintro e w1 ⟨rfl, hb1⟩
  have HB1 := Lib.hid hb1
  clear hb1
  go_wp2_with fail
  refine (HA.out _ HB1.out).mono ?_
  rintro e w2 ⟨v1, rfl, hb2⟩
  have HB2 := Lib.hid (HT.out _ _ HB1.out hb2)
  clear hb2
  go_wp2_with fail
  refine (HB.out _ HB2.out).mono ?_
  rintro e w3 ⟨v2, rfl, hb3⟩
  have HB3 := Lib.hid (HT.out _ _ HB2.out hb3)
  clear hb3
  go_wp2_with fail
  refine (HC.out _ HB3.out).mono ?_
  rintro e w4 ⟨v3, rfl, hb4⟩
  have HB4 := Lib.hid (HT.out _ _ HB3.out hb4)
  clear hb4
  go_wp2_with fail
  refine (HD.out _ HB4.out).mono ?_
  rintro e w5 ⟨v4, rfl, hb5⟩
  have HB5 := Lib.hid (HT.out _ _ HB4.out hb5)
  clear hb5 HAl HA HB HC HD
  go_wp2
  go_ret
  exact ⟨rfl, HB5.out⟩
set_option maxRecDepth 100000 in
set_option maxHeartbeats 8000000 in
/-- The second is no program. -/
theorem pj_p2 (a b ab : ByteArray) (w : World) (ht : LTabs w) (hv : VTabs w) (hs : a.size + b.size ≤ 65535) (hab : (a ++ (⟨#[10]⟩ : ByteArray)) ++ b = ab) (n nb m k : Int) (hk : (0 : Int) ≤ k)
    (hA : ∀ W, LTabs W → Calls Tryz.prog 8 #[.string a] W fun x w' => ∃ v, x = .returned (.tuple #[v, .int .i64 n, .int .i64 0]) ∧ Below W.heap.size W w')
    (hB : ∀ W, LTabs W → Calls Tryz.prog 8 #[.string b] W fun x w' => ∃ v, x = .returned (.tuple #[v, .int .i64 nb, .int .i64 5]) ∧ Below W.heap.size W w')
    (hC : ∀ W, LTabs W → Calls Tryz.prog 8 #[.string ab] W fun x w' => x = .returned (.tuple #[(.slice none 0 0), .int .i64 m, .int .i64 5]) ∧ Below W.heap.size W w')
    (hD : ∀ W, LTabs W → Calls Tryz.prog 9 #[.string b] W fun x w' => ∃ v, x = .returned (.tuple #[v, .int .i64 k, .int .i64 0]) ∧ Below W.heap.size W w') :
    Calls Tryz.prog 3 #[.string a, .string b] w fun e w' => e = .returned (.bool true) ∧ Below w.heap.size w w' := by
  have HAl := Lib.hid (alive_any w ht hv)
  obtain ⟨a1, ha1⟩ : ∃ x, a ++ (⟨#[10]⟩ : ByteArray) = x := ⟨_, rfl⟩
  rw [ha1] at hab
  have za1 : a1.size = a.size + 1 := by rw [← ha1]; simp; rfl
  have K1 : ∀ W, (Op.stringOp .add a ⟨#[10]⟩).run Tryz.prog W = .ok (.string a1) W := fun W => by rw [← ha1]; exact run_string_add_sum W _ _ (by show _ + 1 ≤ _; omega)
  have K2' : ∀ W, (Op.stringOp .add a1 b).run Tryz.prog W = .ok (.string ab) W := fun W => by rw [← hab]; exact run_string_add_sum W _ _ (by omega)
  have HT : Hid (∀ W W', Below w.heap.size w W → Below W.heap.size W W' → Below w.heap.size w W') := fun W W' h k => h.trans (k.mono h.size)
  have HA := Lib.hid (fun W (h : Below w.heap.size w W) => hA W (ht.below h ht.gb))
  have HB := Lib.hid (fun W (h : Below w.heap.size w W) => hB W (ht.below h ht.gb))
  have HC := Lib.hid (fun W (h : Below w.heap.size w W) => hC W (ht.below h ht.gb))
  have HD := Lib.hid (fun W (h : Below w.heap.size w W) => hD W (ht.below h ht.gb))
  have g1 : (0 : Int) ≤ (a.size : Int) := by omega
  have g2 : (a.size : Int) ≤ 65535 := by omega
  have g3 : (0 : Int) ≤ (b.size : Int) := by omega
  have g4 : (b.size : Int) ≤ 65535 := by omega
  have g5 : ¬ (65535 : Int) < (a.size : Int) + (b.size : Int) := by omega
  clear ht hv hs ha1 hab za1 hA hB hC hD
  go_enter Tryz.func3, Tryz.ntmps3
  go_wp2_with fail
  refine HAl.out.mono ?_
  rintro e w1 ⟨rfl, hb1⟩
  have HB1 := Lib.hid hb1
  clear hb1
  go_wp2_with fail
  refine (HA.out _ HB1.out).mono ?_
  rintro e w2 ⟨v1, rfl, hb2⟩
  have HB2 := Lib.hid (HT.out _ _ HB1.out hb2)
  clear hb2
  go_wp2_with fail
  refine (HB.out _ HB2.out).mono ?_
  rintro e w3 ⟨v2, rfl, hb3⟩
  have HB3 := Lib.hid (HT.out _ _ HB2.out hb3)
  clear hb3
  go_wp2_with fail
  refine (HC.out _ HB3.out).mono ?_
  rintro e w4 ⟨rfl, hb4⟩
  have HB4 := Lib.hid (HT.out _ _ HB3.out hb4)
  clear hb4
  go_wp2_with fail
  refine (HD.out _ HB4.out).mono ?_
  rintro e w5 ⟨v4, rfl, hb5⟩
  have HB5 := Lib.hid (HT.out _ _ HB4.out hb5)
  clear hb5 HAl HA HB HC HD
  go_wp2
  go_ret
  exact ⟨rfl, HB5.out⟩
theorem shC_len {vs : List Value} (h : ShC vs) : ∀ u ∈ vs, u.oneCell' = true := (shC_one h).1
/-- append(p, q...): the components of both. -/
theorem append_P {p q : List (List T)} {B1 B2 : Nat} {v1 v2 : Value} {W : World} (h1 : FRows ShC 44 13 B1 p v1 W) (h2 : FRows ShC 44 13 B2 q v2 W) (hB1 : B1 ≤ W.heap.size) (hd : ∀ g, v1.ownBlock = some g → g < B2) (hp : p.length ≤ 65537) (hq : q.length ≤ 65537)
    {ops : Array Oper} {rest : List Oper} {o : Oper} {a : Act} {Q : Exit → Act → World → Prop} (hwd : Region.wanted o (yielded ops a.tmps) = true) (s x : Operand) (ho : o.op = .call { callee := .builtin .append, args := #[s, x], argTypes := #[24, 24] }) (hs : a.eval s = v1) (hx : a.eval x = v2)
    (hK : ∀ v' W', (ofRows 13 (p ++ q)).Rep W' (fun _ => True) v' → W.grownBy W' v1.ownBlock → wpList Tryz.prog ops Q rest (a.put o.dst v') W') : wpList Tryz.prog ops Q (o :: rest) a W := by
  obtain ⟨i0, hi, hz0, hz1, hz2⟩ := info_parts infC
  have hsl : Tryz.prog.underlying 24 = some (.slice 44) := Tryz.underlying24
  obtain ⟨a2, c2, e2, h2a, h2b⟩ := h2.shape
  refine wpList_step fun K hK' => ?_
  rw [if_pos hwd]
  cases hq0 : q with
  | nil =>
    subst hq0
    obtain ⟨a1, c1, e1, h1a, h1b⟩ := h1.shape
    have hrun : (Builtin.append_ #[24, 24] o.type #[v1, v2]).run Tryz.prog W = .ok v1 W := by
      rw [e1, e2]
      cases a1 <;> cases a2 <;> simp [Builtin.append_, run_underlying hsl, sizeOf, typeInfo, hi, Builtin.lenOf, Builtin.firstCells, loadCells, loadCellsFrom, h1a, storeCells]
    unfold Oper.wp
    simp [execOp, ho, resolve, invoke, builtin, hs, hx, hrun, Result.andThen]
    refine hK' _ _ (hK v1 W ?_ (grown_refl _ _))
    rw [List.append_nil]
    exact h1.rep.keep (Nat.le_refl _) (fun _ _ _ => trivial) (fun _ _ _ => rfl)
  | cons r0 q0 =>
    have hqp : 0 < q.length := by rw [hq0]; simp
    obtain ⟨vss1, o1, r1, s1⟩ := h1
    obtain ⟨vss2, o2, r2, s2⟩ := h2
    rcases o2.2 with ⟨hv, hn⟩ | ⟨g2, cap2, cur2, hv, hg2, hw2, k1, k2, k3, k4⟩
    · omega
    · have hcells : ∀ j u, vss2.flatten[j]? = some u → W.cell? ((⟨g2, 0, none⟩ : Addr).add j) = some u := fun j u hj => by subst hv; exact o2.cells (g := g2) rfl j u hj
      have hone : ∀ u ∈ vss2.flatten, u.oneCell' = true := fun u hu => by
        obtain ⟨vs, hvs, hu⟩ := List.mem_flatten.1 hu
        exact shC_len (s2 vs hvs) u hu
      obtain ⟨v', w', hrun, hown, h3⟩ := append_twoP (P := Tryz.prog) W B1 24 o.type 44 i0 _ 13 232 hsl hi hz0 hz1 hz2 rfl (by decide) v1 p.length _ o1 ⟨g2, 0, none⟩ q.length cap2 vss2.flatten r2.flat.1 hcells hone hqp (by unfold maxLen; omega) (by omega) hB1
      have hgr : W.grownBy w' v1.ownBlock := by
        rcases h3 with ⟨g, cap, e1, -, hg⟩ | ⟨hg, -⟩
        · subst e1; exact hg
        · exact ⟨hg.os, hg.tape, hg.output, hg.size, fun b hb _ => hg.block b hb (by simp)⟩
      have hrep : (ofRows 13 (p ++ q)).Rep w' (fun _ => True) v' := by
        have hr : Rows2 w' (fun _ => True) 13 (p ++ q) (vss1 ++ vss2) := All2.append
          (r1.keep hgr.size (fun _ _ _ => trivial) (fun b h5 h6 => hgr.block b h6 (fun e => h5.2 e)))
          (r2.keep hgr.size (fun _ _ _ => trivial) (fun b h5 h6 => hgr.block b h6 (fun e => by have := hd b e.symm; omega)))
        refine rep_of_own (base := B1) (k := 13) (ty := 44) (vss := vss1 ++ vss2) ?_ hr (fun _ _ _ => trivial) (fun _ _ => trivial)
        rw [List.length_append, List.flatten_append]
        exact hown
      unfold Oper.wp
      subst hv
      simp only [execOp, ho, resolve, invoke, builtin, Sem.run_bind, Sem.run_pure, Result.andThen_ok, List.map_toArray, List.map_cons, List.map_nil, hs, hx, hrun]
      exact hK' _ _ (hK v' w' hrep hgr)

set_option maxRecDepth 100000 in
set_option maxHeartbeats 16000000 in
theorem pj_ok (a b ab : ByteArray) (w : World) (ht : LTabs w) (hv : VTabs w) (hs : a.size + b.size ≤ 65535) (hab : (a ++ (⟨#[10]⟩ : ByteArray)) ++ b = ab) (p q : List (List T)) (hw : ∀ x ∈ p ++ q, WC (at_ x))
    (hA : ∀ W, LTabs W → Calls Tryz.prog 8 #[.string a] W fun x w' => ∃ v, x = .returned (.tuple #[v, .int .i64 0, .int .i64 0]) ∧ FSl ShC 44 13 W.heap.size p v w' ∧ Below W.heap.size W w')
    (hB : ∀ W, LTabs W → Calls Tryz.prog 8 #[.string b] W fun x w' => ∃ v, x = .returned (.tuple #[v, .int .i64 0, .int .i64 0]) ∧ FSl ShC 44 13 W.heap.size q v w' ∧ Below W.heap.size W w')
    (hC : ∀ W, LTabs W → Calls Tryz.prog 8 #[.string ab] W fun x w' => ∃ v, x = .returned (.tuple #[v, .int .i64 0, .int .i64 0]) ∧ FSl ShC 44 13 W.heap.size (p ++ q) v w' ∧ Below W.heap.size W w')
    (hD : ∀ W, LTabs W → Calls Tryz.prog 9 #[.string b] W fun x w' => ∃ v, x = .returned (.tuple #[v, .int .i64 0, .int .i64 0]) ∧ Below W.heap.size W w') :
    Calls Tryz.prog 3 #[.string a, .string b] w fun e w' => e = .returned (.bool true) ∧ Below w.heap.size w w' := by
  have HAl := Lib.hid (alive_any w ht hv)
  obtain ⟨a1, ha1⟩ : ∃ x, a ++ (⟨#[10]⟩ : ByteArray) = x := ⟨_, rfl⟩
  rw [ha1] at hab
  have za1 : a1.size = a.size + 1 := by rw [← ha1]; simp; rfl
  have K1 : ∀ W, (Op.stringOp .add a ⟨#[10]⟩).run Tryz.prog W = .ok (.string a1) W := fun W => by rw [← ha1]; exact run_string_add_sum W _ _ (by show _ + 1 ≤ _; omega)
  have K2' : ∀ W, (Op.stringOp .add a1 b).run Tryz.prog W = .ok (.string ab) W := fun W => by rw [← hab]; exact run_string_add_sum W _ _ (by omega)
  have HT : Hid (∀ W W', Below w.heap.size w W → Below W.heap.size W W' → Below w.heap.size w W') := fun W W' h k => h.trans (k.mono h.size)
  have HA := Lib.hid (fun W (h : Below w.heap.size w W) => hA W (ht.below h ht.gb))
  have HB := Lib.hid (fun W (h : Below w.heap.size w W) => hB W (ht.below h ht.gb))
  have HC := Lib.hid (fun W (h : Below w.heap.size w W) => hC W (ht.below h ht.gb))
  have HD := Lib.hid (fun W (h : Below w.heap.size w W) => hD W (ht.below h ht.gb))
  have HWC := Lib.hid hw
  have g1 : (0 : Int) ≤ (a.size : Int) := by omega
  have g2 : (a.size : Int) ≤ 65535 := by omega
  have g3 : (0 : Int) ≤ (b.size : Int) := by omega
  have g4 : (b.size : Int) ≤ 65535 := by omega
  have g5 : ¬ (65535 : Int) < (a.size : Int) + (b.size : Int) := by omega
  clear ht hv hs ha1 hab za1 hA hB hC hD hw
  go_enter Tryz.func3, Tryz.ntmps3
  go_wp2_with fail
  refine HAl.out.mono ?_
  rintro e w1 ⟨rfl, hb1⟩
  have HB1 := Lib.hid hb1
  clear hb1
  go_wp2_with fail
  refine (HA.out _ HB1.out).mono ?_
  rintro e w2 ⟨v1, rfl, hf1, hb2⟩
  have HF1 := Lib.hid hf1
  have HL2 := Lib.hid hb2
  have HB2 := Lib.hid (HT.out _ _ HB1.out hb2)
  clear hb2 hf1
  go_wp2_with fail
  refine (HB.out _ HB2.out).mono ?_
  rintro e w3 ⟨v2, rfl, hf2, hb3⟩
  have HF2 := Lib.hid hf2
  have HL3 := Lib.hid hb3
  have HB3 := Lib.hid (HT.out _ _ HB2.out hb3)
  clear hb3 hf2
  go_wp2_with fail
  refine (HC.out _ HB3.out).mono ?_
  rintro e w4 ⟨v3, rfl, hf3, hb4⟩
  have HF3 := Lib.hid hf3
  have HL4 := Lib.hid hb4
  have HB4 := Lib.hid (HT.out _ _ HB3.out hb4)
  clear hb4 hf3
  go_wp2_with fail
  refine (HD.out _ HB4.out).mono ?_
  rintro e w5 ⟨v4, rfl, hb5⟩
  have HL5 := Lib.hid hb5
  have HB5 := Lib.hid (HT.out _ _ HB4.out hb5)
  clear hb5 HAl HA HB HC HD
  obtain ⟨a1', n1, c1, rfl, f1, hn1, l1⟩ := HF1.out
  obtain ⟨a2', n2, c2, rfl, f2, hn2, l2⟩ := HF2.out
  obtain ⟨a3', n3, c3, rfl, f3, hn3, l3⟩ := HF3.out
  have s2 := HL2.out.size
  have s3 := HL3.out.size
  have s4 := HL4.out.size
  have s5 := HL5.out.size
  have b35 : Below w3.heap.size w3 w5 := HL4.out.trans (HL5.out.mono s4)
  have b25 : Below w2.heap.size w2 w5 := HL3.out.trans (b35.mono s3)
  have G1 := Lib.hid (f1.keepB b25)
  have G2 := Lib.hid (f2.keepB b35)
  have G3 := Lib.hid ((f3.keepB HL5.out).rep)
  have HS1 : Hid (w1.heap.size ≤ w5.heap.size) := by show _ ≤ _; omega
  have HD1 : Hid (∀ g, (Value.slice a1' n1 c1).ownBlock = some g → g < w2.heap.size ∧ w1.heap.size ≤ g) := fun g e => ⟨(f1.own e).2, (f1.own e).1⟩
  have HP := Lib.hid l1
  have HQ := Lib.hid l2
  have H23 : Hid (w2.heap.size ≤ w3.heap.size) := s3
  have H01 := Lib.hid HB1.out.size
  clear f1 f2 f3 l1 l2 l3 s2 s3 s4 s5 b35 b25 hn1 hn2 hn3
  go_wp2_with (first
    | (at_builtin; go_loud (refine append_P G1.out G2.out HS1.out (fun g e => (HD1.out g e).1) HP.out HQ.out (by rfl) _ _ rfl rfl rfl ?_); intro v6 w6 hr6 hg6; have HR6 := Lib.hid hr6; have HG6 := Lib.hid hg6; clear hr6 hg6)
    | (go_at_call 10;
       have HX := same_program w6 (p ++ q).length (fun i j => ((p ++ q).getD i []).getD j default) (fun i hi => HWC.out _ (getD_mem _ i hi)) w6 (.slice a3' n3 c3) v6 (Below.refl _ _) (G3.out.keep HG6.out.size (fun _ _ _ => trivial) (fun b h1 h2 => HG6.out.block b h2 (fun e => by have := HD1.out b e.symm; have := H23.out; omega))) HR6.out;
       (refine HX.mono ?_); rintro e7 w7 ⟨rfl, hb7⟩; have HB7 := Lib.hid hb7; clear hb7 HX))
  try go_ret
  refine ⟨rfl, ?_⟩
  have h6 : Below w.heap.size w w6 := HB5.out.grown HG6.out HB5.out.size (fun g e => by have := HD1.out g e; have := H01.out; omega)
  exact h6.trans (HB7.out.mono h6.size)

theorem pj_any (a b : ByteArray) (w : World) (ht : LTabs w) (hv : VTabs w) (ha : a.size ≤ 140737488355328) (hb : b.size ≤ 140737488355328) :
    Calls Tryz.prog 3 #[.string a, .string b] w fun e w' => e = .returned (.bool true) ∧ Below w.heap.size w w' := by
  rcases Nat.lt_or_ge 65535 (a.size + b.size) with hs | hs
  · exact pj_big a b w ht hv ha hb hs
  · obtain ⟨ab, hab⟩ : ∃ ab, (a ++ (⟨#[10]⟩ : ByteArray)) ++ b = ab := ⟨_, rfl⟩
    have lab : ab.data.toList = a.data.toList ++ 10 :: b.data.toList := by rw [← hab, cat_list, cat_list]; simp
    have hz : ab.size ≤ 65536 := by
      have h1 : ab.data.toList.length = ab.size := by simp
      have h2 : a.data.toList.length = a.size := by simp
      have h3 : b.data.toList.length = b.size := by simp
      rw [← h1, lab, List.length_append, List.length_cons]
      omega
    have hj := LX.lex_joins 0 a.data.toList b.data.toList
    rw [← lab] at hj
    have hsh := LX.lex_shift (LX.cnt a.data.toList + 1) 0 b.data.toList
    rw [← Nat.add_assoc] at hsh
    rw [hsh] at hj
    cases hla : LX.lex 0 a.data.toList with
    | err n1 =>
      rw [hla] at hj
      have hj : LX.lex 0 ab.data.toList = .err n1 := hj
      obtain ⟨nb, f, -, hB⟩ := parse_what b (by omega)
      have hA : ∀ W, LTabs W → Calls Tryz.prog 8 #[.string a] W fun x w' => ∃ v, x = .returned (.tuple #[v, .int .i64 (n1 : Int), .int .i64 4]) ∧ Below W.heap.size W w' := fun W h => (parse_none a W (by omega) h (n := n1) (e := 4) (by rw [hla]; exact ⟨rfl, rfl⟩)).mono fun x w' ⟨h1, h2⟩ => ⟨_, h1, h2⟩
      have hC : ∀ W, LTabs W → Calls Tryz.prog 8 #[.string ab] W fun x w' => ∃ v, x = .returned (.tuple #[v, .int .i64 (n1 : Int), .int .i64 4]) ∧ Below W.heap.size W w' := fun W h => (parse_none ab W hz h (n := n1) (e := 4) (by rw [hj]; exact ⟨rfl, rfl⟩)).mono fun x w' ⟨h1, h2⟩ => ⟨_, h1, h2⟩
      cases hlb : LX.lex 0 b.data.toList with
      | err n2 => exact pj_w1b a b ab w ht hv hs hab n1 nb f n2 (by omega) hA hB hC (fun W h => words_out b W (by omega) h (by rw [hlb]; exact ⟨rfl, rfl⟩))
      | ok wb => exact pj_w1a a b ab w ht hv hs hab n1 nb f 0 (by omega) hA hB hC (fun W h => words_out b W (by omega) h (by rw [hlb]; exact ⟨rfl, rfl⟩))
    | ok wa =>
      rw [hla] at hj
      obtain ⟨n, e, he, hA⟩ := parse_word a (by omega) hla
      cases hlb : LX.lex 0 b.data.toList with
      | err n2 =>
        rw [hlb] at hj
        have hj : LX.lex 0 ab.data.toList = .err (n2 + (LX.cnt a.data.toList + 1)) := hj
        obtain ⟨nb, f, -, hB⟩ := parse_what b (by omega)
        have hC : ∀ W, LTabs W → Calls Tryz.prog 8 #[.string ab] W fun x w' => ∃ v, x = .returned (.tuple #[v, .int .i64 ((n2 + (LX.cnt a.data.toList + 1) : Nat) : Int), .int .i64 4]) ∧ Below W.heap.size W w' := fun W h => (parse_none ab W hz h (n := ((n2 + (LX.cnt a.data.toList + 1) : Nat) : Int)) (e := 4) (by rw [hj]; exact ⟨rfl, rfl⟩)).mono fun x w' ⟨h1, h2⟩ => ⟨_, h1, h2⟩
        rcases he with rfl | rfl
        · exact pj_w2a a b ab w ht hv hs hab n nb f _ n2 (by omega) hA hB hC (fun W h => words_out b W (by omega) h (by rw [hlb]; exact ⟨rfl, rfl⟩))
        · exact pj_w2b a b ab w ht hv hs hab n nb f _ n2 (by omega) hA hB hC (fun W h => words_out b W (by omega) h (by rw [hlb]; exact ⟨rfl, rfl⟩))
      | ok wb =>
        rw [hlb] at hj
        have hj : LX.lex 0 ab.data.toList = .ok (wa ++ wb.map fun w => { w with line := w.line + (LX.cnt a.data.toList + 1) }) := hj
        have hD : ∀ W, LTabs W → Calls Tryz.prog 9 #[.string b] W fun x w' => ∃ v, x = .returned (.tuple #[v, .int .i64 0, .int .i64 0]) ∧ Below W.heap.size W w' := fun W h => words_out b W (by omega) h (by rw [hlb]; exact ⟨rfl, rfl⟩)
        obtain ⟨m, g, -, hC⟩ := parse_what ab hz
        obtain ⟨nb, f, -, hB⟩ := parse_what b (by omega)
        cases hpa : parseP wa with
        | inl ka =>
          have hA : ∀ W, LTabs W → Calls Tryz.prog 8 #[.string a] W fun x w' => ∃ v, x = .returned (.tuple #[v, .int .i64 (ka : Int), .int .i64 5]) ∧ Below W.heap.size W w' := fun W h => (parse_none a W (by omega) h (n := ka) (e := 5) (by rw [hla]; dsimp only; rw [hpa]; exact ⟨rfl, rfl⟩)).mono fun x w' ⟨h1, h2⟩ => ⟨_, h1, h2⟩
          exact pj_p1 a b ab w ht hv hs hab ka nb f m g 0 (by omega) hA hB hC hD
        | inr p =>
          have hwl := LX.lex_sound 0 _ _ hla
          have hul := LX.lex_sound 0 _ _ hlb
          have za : a.data.toList.length = a.size := by simp
          have zb : b.data.toList.length = b.size := by simp
          have hw1 := hwl.2.2
          have hu1 := hul.2.2
          have hm : wb.map nol = (wb.map fun w => { w with line := w.line + (LX.cnt a.data.toList + 1) }).map nol := by
            rw [List.map_map]
            rfl
          have hpj := parse_joins hpa hm (by have : FU = 65537 := rfl; omega)
          have hA1 : ∀ W, LTabs W → _ := fun W h => parse_some a W (by omega) h hla hpa
          cases hpb : parseP wb with
          | inl kb =>
            obtain ⟨j, hj2⟩ := hpj.2 kb hpb
            have hA : ∀ W, LTabs W → Calls Tryz.prog 8 #[.string a] W fun x w' => ∃ v, x = .returned (.tuple #[v, .int .i64 0, .int .i64 0]) ∧ Below W.heap.size W w' := fun W h => (hA1 W h).mono fun x w' ⟨v, h1, _, h2⟩ => ⟨v, h1, h2⟩
            have hB : ∀ W, LTabs W → Calls Tryz.prog 8 #[.string b] W fun x w' => ∃ v, x = .returned (.tuple #[v, .int .i64 (kb : Int), .int .i64 5]) ∧ Below W.heap.size W w' := fun W h => (parse_none b W (by omega) h (n := kb) (e := 5) (by rw [hlb]; dsimp only; rw [hpb]; exact ⟨rfl, rfl⟩)).mono fun x w' ⟨h1, h2⟩ => ⟨_, h1, h2⟩
            exact pj_p2 a b ab w ht hv hs hab 0 kb j 0 (by omega) hA hB (fun W h => parse_none ab W hz h (n := j) (e := 5) (by rw [hj]; dsimp only; rw [hj2]; exact ⟨rfl, rfl⟩)) hD
          | inr q =>
            have hq := hpj.1 q hpb
            have hc1 := parse_comps (fun w hw => okw_len (hwl.1 w hw).1) hpa
            have hc2 := parse_comps (fun w hw => okw_len (hul.1 w hw).1) hpb
            refine pj_ok a b ab w ht hv hs hab p q (fun x hx => ?_) hA1 (fun W h => parse_some b W (by omega) h hlb hpb) (fun W h => parse_some ab W hz h hj hq) hD
            rcases List.mem_append.1 hx with hx | hx
            · exact (hc1 x hx).2.1
            · exact (hc2 x hx).2.1
end Go.Proofs.YtdlmemalefhgmaaGreatDoor
namespace Go.Proofs.YtdlmemalefhgmaaGreatDoor
open Go.ChangeShapes Go.ChangeMaps Go.WideShapes Go.ChangeAt Go.RowKit

theorem pjoins_reads (os : Os) {H : Type} (enc : TypeId × Value → H) : ∃ places, DataW.whole enc Tryz.prog ((laidWorld os).forCall (fun _ _ => 0) ⟨#[], #[.string ⟨#[]⟩, .string ⟨#[]⟩], []⟩).memory Tryz.f3.params.toList Rows.parseJoinsSpec.vars false #[Value.string ⟨#[]⟩, .string ⟨#[]⟩].toList 8 = some ([.lit (.string []), .lit (.string [])], [], places) :=
  ⟨[], by kernel_rfl⟩

theorem reach_le : reachBytes ≤ 140737488355328 := by decide

set_option maxRecDepth 100000 in
theorem pjoins_contract (H : Type) (enc : TypeId × Value → H) (W : World) (base : Nat) (args : Array Value) (ds gs : List (DataW H)) (before : List MemPlace)
    (hval0 : ∀ (j : Nat) t v, Tryz.f3.params[j]? = some t → args[j]? = some v → Value.okWide Tryz.prog W .any base t v)
    (hW : DataW.Whole enc Tryz.prog Tryz.f3.params.toList Rows.parseJoinsSpec.vars false W args.toList ds gs before) (ht : LTabs W) (hvt : VTabs W)
    (hwt : (DataW.weightsEach Tryz.prog (Tryz.f3.params.toList ++ (OpenSpec.ofChange Rows.parseJoinsSpec).bare.plain.varTypes Tryz.prog) (ds ++ gs)).all (· ≤ reachBytes) = true) :
    Calls Tryz.prog 3 args W fun e W' => ∃ v, e = .returned v ∧ Rows.parseJoinsSpec.post enc Tryz.prog Tryz.f3 false true false false W args v W' := by
  have hval := hval0
  have hW' := hW
  obtain ⟨p, q, hA0, hV, rfl, _, _⟩ := hW
  have hA : DataW.TrodAll enc Tryz.prog W 0 (fun _ => true) true Tryz.f3.params.toList args.toList ds p := hA0
  rw [Tryz.params3] at hA hval hwt
  obtain ⟨v0, v1, d0, d1, p0, p1, rfl, rfl, rfl, h0, h1⟩ := trodAll_two hA
  obtain ⟨rfl, rfl⟩ := trodVars_none hV
  obtain ⟨x0, rfl, rfl, rfl, w0⟩ := open_string Tryz.underlying9 (hval 0 9 v0 rfl rfl) h0
  obtain ⟨x1, rfl, rfl, rfl, w1⟩ := open_string Tryz.underlying9 (hval 1 9 v1 rfl rfl) h1
  clear hA0 hval0 hA
  simp only [List.append_nil] at hW'
  have q0 : x0.size ≤ 140737488355328 := Nat.le_trans (sized_string hwt (j := 0) (bytes := x0.data.toList) rfl rfl) reach_le
  have q1 : x1.size ≤ 140737488355328 := Nat.le_trans (sized_string hwt (j := 1) (bytes := x1.data.toList) rfl rfl) reach_le
  refine (pj_any x0 x1 W ht hvt q0 q1).mono fun e W' ⟨he, hb⟩ => ?_
  subst he
  refine ⟨_, rfl, [.lit (.string x0.data.toList), .lit (.string x1.data.toList)], [], [], [], [], [], hW', ?_, ?_, rfl, hb.frame _, fun h => by cases h⟩
  · exact trodAll_mk1 (shut_bool Tryz.underlying4 true)
  · exact trodAll_cons_mk (p' := []) (shut_string Tryz.underlying9 w0) (trodAll_cons_mk (p' := []) (shut_string Tryz.underlying9 w1) trodAll_mk0)

set_option maxRecDepth 100000 in
theorem pjoins_lifted (os : Os) (started : os.Started) (H : Type) (enc : TypeId × Value → H) (F : Stop.Interp) :
    ReturnsInHanded {} Tryz.checked os 3 .any ((OpenSpec.ofChange Rows.parseJoinsSpec).preRow enc Tryz.prog Tryz.f3 Rows.parseJoinsRow.domain false Rows.parseJoinsRow.laid) (((OpenSpec.ofChange Rows.parseJoinsSpec).at F).post enc Tryz.prog Tryz.f3 false true false false) := by
  obtain ⟨places, hx⟩ := pjoins_reads os enc
  refine returnsInHanded_of_row (C := Tryz.checked) (s := OpenSpec.ofChange Rows.parseJoinsSpec) Tryz.own started (by kernel_rfl) Tryz.func3
    (witness_row_at (enc := enc) (C := Tryz.checked) false (laidWorld os) #[.string ⟨#[]⟩, .string ⟨#[]⟩] rfl (by kernel_rfl) (by kernel_rfl) (by kernel_rfl)
      (OpenSpec.preRow_of_cond 8 hx (by kernel_rfl) (fun k hk => by cases hk) (by kernel_rfl) (laid_met os _))) ?_
  intro W base args ds gs before hval hW _ _ hwt hL _ _
  exact pjoins_contract H enc W base args ds gs before hval hW (ltabs_of_laid rfl hL) (vtabs_of_laid rfl hL) hwt

theorem pjoins_said : Rows.ParseJoinsSaid :=
  OpenClaim.holds_of_cond 3 Tryz.f3 rfl rfl rfl rfl rfl rfl rfl ⟨rfl, rfl, rfl, rfl, rfl⟩ rfl rfl rfl rfl rfl (by kernel_rfl) Tryz.func3 (by kernel_rfl)
    (of_decide_eq_true (by kernel_rfl)) (by unfold Func.isWrapper; first | (rw [if_pos (by decide +kernel)]; kernel_rfl) | (rw [if_neg (by decide +kernel)]; exact ⟨rfl, rfl⟩))
    (fun os started H enc _ F => by rw [OpenClaim.pre_eq_preRow]; exact pjoins_lifted os started H enc F)

theorem pjoins_plain (f : FuncId) (fn : Func) (hf : Tryz.pinned.checked.prog.funcNamed "tapestry/tapestrylaw04.ParseJoins" = some f) (hfn : Tryz.pinned.checked.prog.funcs[f]? = some fn) :
    true = Tryz.pinned.checked.prog.looks [] ∧ ∀ (j : Nat) t, fn.params[j]? = some t → Tryz.pinned.checked.prog.wantsStandIn t = false := by
  obtain rfl : f = 3 := Option.some.inj ((show Tryz.prog.funcNamed "tapestry/tapestrylaw04.ParseJoins" = some 3 by kernel_rfl).symm.trans hf) |>.symm
  obtain rfl : fn = Tryz.f3 := (Option.some.inj (Tryz.func3.symm.trans hfn)).symm
  refine ⟨by kernel_rfl, fun j t ht => ?_⟩
  rw [Tryz.params3] at ht
  have hm := Array.mem_of_getElem? ht
  simp at hm
  subst hm
  first
  | exact (show Tryz.prog.wantsStandIn 9 = false by kernel_rfl)

theorem pjoins_card : Rows.ParseJoinsCardSaid :=
  Claim7.holds_tied_plain_at .later [] _ _ _ _ pjoins_said (fun _ h => by cases h) (by kernel_rfl) (fun _ h => by cases h) parseJoins_row_tie rfl ⟨rfl, rfl⟩ (by kernel_rfl) rfl pjoins_plain (by kernel_rfl)

#print axioms pjoins_card
end Go.Proofs.YtdlmemalefhgmaaGreatDoor
