/-
  Plain: where words are no program ('parse_lines'): each beginning up to the word told can be gone on with, and whatever stands behind that word it is told again. No program is imported.
  Conditions: none.
-/
import Derived.Test.YtdlmemalefhgmaaGreatDoorParC
namespace Go.Proofs.YtdlmemalefhgmaaGreatDoor.G
set_option linter.unusedVariables false
set_option linter.unusedSimpArgs false
open Go.Proofs.YtdlmemalefhgmaaGreatDoor

section
variable {ws vs : List LX.LW} {n i : Nat} (hn : ws.length = n) (hv : vs = ws.take i)
include hn
theorem adv_component (t d : Nat) (ht : t ≤ n) : Adv n (t + 1) d (componentP ws t d) :=
  (adv_kind hn 4 t d ht).bind fun _ t1 d1 _ h1 => (adv_name hn t1 d1 h1).weak.bind fun s t2 d2 _ h2 =>
    adv_ite ((adv_name hn t2 d2 h2).weak.bind fun name t3 d3 _ h3 => (adv_name hn t3 d3 h3).weak.bind fun param t4 d4 _ h4 =>
      ((adv_kind hn 4 t4 0 h4).weak.bind fun _ t5 d5 _ h5 => (adv_name hn t5 d5 h5).weak.bind fun s t6 d6 _ h6 =>
        (adv_body hn (adv_expr hn name FU) FU s t6 d6 h6).bind fun p t7 d7 _ h7 => adv_ok _ h7).mono (Nat.le_refl _) (by omega)) (adv_bad (by omega))
theorem adv_program : ∀ (m t d : Nat), t ≤ n → Adv n t d (programP ws m t d)
  | 0, t, d, ht => (adv_bad (by omega) : Adv n (t + 1) d _).weak
  | m + 1, t, d, ht => by
    simp only [programP]
    exact adv_ite ((adv_component hn t d ht).weak.bind fun _ t1 d1 _ h1 => (adv_program m t1 d1 h1).bind fun _ t2 d2 _ h2 => adv_ok _ h2) (adv_ok _ ht)
include hv
theorem cu_component (t d : Nat) (ht : t ≤ n) : Cu n i t (t + 1) d (componentP ws t d) (componentP vs t d) :=
  (cu_kind hn hv 4 t d ht).bind fun _ t1 d1 _ h1 => (cu_name hn hv t1 d1 h1).weak.bind fun s t2 d2 _ h2 =>
    cu_ite ((cu_name hn hv t2 d2 h2).weak.bind fun name t3 d3 _ h3 => (cu_name hn hv t3 d3 h3).weak.bind fun param t4 d4 _ h4 =>
      ((cu_kind hn hv 4 t4 0 h4).weak.bind fun _ t5 d5 _ h5 => (cu_name hn hv t5 d5 h5).weak.bind fun s t6 d6 _ h6 =>
        (cu_body hn hv (cu_expr hn hv name FU) (expr_none hn hv name FU) FU s t6 d6 h6).bind fun p t7 d7 _ h7 => cu_ok _ h7).mono (Nat.le_refl _) (by omega)) (cu_bad (by omega))

/-- Of the first i words: it has ended, or ends too early; or it is left where all of them leave it. -/
def Early (i : Nat) (r : Rs (List (List T))) (r' : Rs (List (List T))) : Prop :=
  (∃ u, r = .bad u ∧ u ≤ i ∧ r' = .bad u) ∨ ((∀ u, r = .bad u → i < u) ∧ ((∃ l t d, r' = .ok l t d) ∨ r' = .bad (i + 1)))
omit hn hv in
theorem Early.bind {r r' : Rs (List (List T))} {x : List T} (h : Early i r r') : Early i (r.bind fun l t d => .ok (x :: l) t d) (r'.bind fun l t d => .ok (x :: l) t d) := by
  rcases h with ⟨u, rfl, h1, rfl⟩ | ⟨h1, h2⟩
  · exact .inl ⟨u, rfl, h1, rfl⟩
  · refine .inr ⟨fun u hu => ?_, ?_⟩
    · cases r with
      | bad v => exact h1 u hu
      | ok l t d => simp at hu
    · rcases h2 with ⟨l, t, d, rfl⟩ | rfl
      · exact .inl ⟨_, _, _, rfl⟩
      · exact .inr rfl
theorem early_program (hi : i ≤ n) : ∀ (m t d : Nat), t ≤ i → Early i (programP ws m t d) (programP vs m t d)
  | 0, t, d, ht => by
    simp only [programP]
    rcases Nat.lt_or_ge t i with h | h
    · exact .inl ⟨t + 1, rfl, h, rfl⟩
    · obtain rfl : t = i := by omega
      exact .inr ⟨fun u hu => by injection hu with hu; omega, .inr rfl⟩
  | m + 1, t, d, ht => by
    have hvl : vs.length = i := by rw [hv, List.length_take]; omega
    simp only [programP]
    rcases Nat.lt_or_ge t i with h | h
    · rw [if_pos (by omega), if_pos (by omega)]
      have hc := cu_component hn hv t d (by omega)
      have ha := hc.1
      rw [hc.2 ht]
      cases hr : componentP ws t d with
      | bad u =>
        simp only [cut, Rs.bind_bad]
        rcases Nat.lt_or_ge i u with hu | hu
        · exact .inr ⟨fun v hv => by injection hv with hv; omega, .inr (by rw [Nat.min_eq_right (by omega)])⟩
        · exact .inl ⟨u, rfl, hu, by rw [Nat.min_eq_left (by omega)]⟩
      | ok x t1 d1 =>
        rw [hr] at ha
        simp only [cut, Rs.bind_ok]
        by_cases h1 : t1 ≤ i
        · rw [if_pos h1, Rs.bind_ok]
          exact (early_program hi m t1 d1 h1).bind
        · rw [if_neg h1, Rs.bind_bad]
          refine .inr ⟨fun u hu => ?_, .inr rfl⟩
          have hb := adv_program hn m t1 d1 ha.2.1
          cases hp : programP ws m t1 d1 with
          | bad v => rw [hp] at hu hb; simp at hu; have := hb.1; omega
          | ok l t2 d2 => rw [hp] at hu; simp at hu
    · obtain rfl : t = i := by omega
      rw [if_neg (c := t < vs.length) (by omega)]
      refine .inr ⟨fun u hu => ?_, .inl ⟨_, _, _, rfl⟩⟩
      by_cases h1 : t < ws.length
      · rw [if_pos h1] at hu
        have hb : Adv n (t + 1) d _ := (adv_component hn t d (by omega)).bind fun x t1 d1 _ h1 => (adv_program hn m t1 d1 h1).bind fun l t2 d2 _ h2 => adv_ok (x :: l) h2
        rw [hu] at hb
        exact hb.1
      · rw [if_neg h1] at hu; cases hu
end

/-- Words each in a line of its own. -/
def Lined (ws : List LX.LW) : Prop := ∀ (k : Nat) (w : LX.LW), ws[k]? = some w → w.line = k
theorem Lined.take {ws : List LX.LW} (h : Lined ws) (i : Nat) : Lined (ws.take i) := fun k w hk => by
  rcases Nat.lt_or_ge k i with hl | hl
  · rw [List.getElem?_take_of_lt hl] at hk; exact h k w hk
  · rw [List.getElem?_eq_none (by simp; omega)] at hk; cases hk
theorem line_at {ws : List LX.LW} (h : Lined ws) {k : Nat} (hk : k < ws.length) : ((ws[k]?.map (·.line)).getD 0) = k := by
  rw [List.getElem?_eq_getElem hk]
  exact h k _ (List.getElem?_eq_getElem hk)

theorem program_succ (ws : List LX.LW) (m t d : Nat) : programP ws (m + 1) t d = if t < ws.length then (componentP ws t d).bind fun x t d => (programP ws m t d).bind fun l t d => .ok (x :: l) t d else .ok [] t d := rfl
theorem parse_ok_pos {ws : List LX.LW} {l : List (List T)} (h : parseP ws = .inr l) (hw : ws ≠ []) : 0 < l.length := by
  unfold parseP at h
  have hl : 0 < (ws.map nol).length := by rw [List.length_map]; exact List.length_pos_iff.2 hw
  cases hp : programP (ws.map nol) FU 0 0 with
  | bad u => rw [hp] at h; cases h
  | ok l' t d =>
    rw [hp] at h
    injection h with h
    subst h
    have e : FU = 65536 + 1 := rfl
    rw [e, program_succ] at hp
    rw [if_pos hl] at hp
    cases hc : componentP (ws.map nol) 0 0 with
    | bad u => rw [hc] at hp; cases hp
    | ok x t1 d1 =>
      rw [hc, Rs.bind_ok] at hp
      cases hq : programP (ws.map nol) 65536 t1 d1 with
      | bad u => rw [hq] at hp; cases hp
      | ok l2 t2 d2 => rw [hq, Rs.bind_ok] at hp; injection hp with hp; subst hp; simp
theorem parse_same {ws vs : List LX.LW} (h : ws.map nol = vs.map nol) : (∃ k, parseP ws = .inl k) ↔ (∃ k, parseP vs = .inl k) := by
  unfold parseP
  rw [h]
  cases programP (vs.map nol) FU 0 0 <;> simp
theorem parse_lines {ws : List LX.LW} (h : Lined ws) (hw : ws ≠ []) {ln : Nat} (hp : parseP ws = .inl ln) :
    ln < ws.length ∧ (∀ i, i ≤ ln → (∃ l, parseP (ws.take i) = .inr l) ∨ parseP (ws.take i) = .inl (i - 1)) ∧ (ln + 1 = ws.length ∨ ∀ w, parseP (ws.take (ln + 1) ++ [w]) = .inl ln) := by
  have hpos : 0 < ws.length := List.length_pos_iff.2 hw
  have hN : (ws.map nol).length = ws.length := List.length_map ..
  cases hq : programP (ws.map nol) FU 0 0 with
  | ok l t d => unfold parseP at hp; rw [hq] at hp; cases hp
  | bad u =>
    have hlast : ln = min u ws.length - 1 := by
      unfold parseP at hp
      rw [hq] at hp
      injection hp with hp
      rw [← hp]
      exact line_at h (by omega)
    have ha := adv_program hN FU 0 0 (Nat.zero_le _)
    have hu1 : 1 ≤ u := by
      have e : FU = 65536 + 1 := rfl
      rw [e, program_succ] at hq
      rw [if_pos (by omega)] at hq
      have hb : Adv ws.length (0 + 1) 0 _ := (adv_component hN 0 0 (by omega)).bind fun x t1 d1 _ h1 => (adv_program hN 65536 t1 d1 h1).bind fun l t2 d2 _ h2 => adv_ok (x :: l) h2
      rw [hq] at hb
      exact hb.1
    refine ⟨by omega, fun i hi => ?_, ?_⟩
    · have he := early_program (vs := (ws.map nol).take i) hN rfl (by omega) FU 0 0 (Nat.zero_le _)
      rw [hq] at he
      have hmap : (ws.take i).map nol = (ws.map nol).take i := by rw [List.map_take]
      have hil : (ws.take i).length = i := by rw [List.length_take]; omega
      unfold parseP
      rw [hmap]
      rcases he with ⟨v, hv, hvi, -⟩ | ⟨-, ⟨l, t, d, hr⟩ | hr⟩
      · injection hv with hv; omega
      · rw [hr]; exact .inl ⟨l, rfl⟩
      · rw [hr]
        dsimp only
        rw [hil, Nat.min_eq_right (by omega)]
        rcases Nat.eq_zero_or_pos i with h0 | h0
        · subst h0; exact .inr rfl
        · rw [line_at (h.take i) (by omega)]; exact .inr rfl
    · rcases Nat.lt_or_ge u ws.length with hlt | hge
      · refine .inr fun w => ?_
        have hu : ln + 1 = u := by omega
        rw [hu]
        have hk : (ws.take u).length = u := by rw [List.length_take]; omega
        have h1 := early_program (vs := (ws.map nol).take u) hN rfl (by omega) FU 0 0 (Nat.zero_le _)
        rw [hq] at h1
        have h1' : programP ((ws.map nol).take u) FU 0 0 = .bad u := by
          rcases h1 with ⟨v, hv, -, hr⟩ | ⟨hr, -⟩
          · injection hv with hv; subst hv; exact hr
          · exact absurd (hr u rfl) (by omega)
        have hlen : ((ws.take u ++ [w]).map nol).length = u + 1 := by rw [List.length_map, List.length_append, hk]; rfl
        have hpre : (ws.map nol).take u = ((ws.take u ++ [w]).map nol).take u := by
          rw [List.map_append, List.take_append_of_le_length (by rw [List.length_map, hk]; exact Nat.le_refl _), List.map_take, List.take_take, Nat.min_self]
        have h2 := early_program hlen hpre (by omega) FU 0 0 (Nat.zero_le _)
        rw [h1'] at h2
        have h3 : programP ((ws.take u ++ [w]).map nol) FU 0 0 = .bad u := by
          rcases h2 with ⟨v, hv, -, hr⟩ | ⟨-, ⟨l, t, d, hr⟩ | hr⟩
          · injection hr with hr; subst hr; exact hv
          · cases hr
          · injection hr with hr; omega
        unfold parseP
        rw [h3]
        dsimp only
        rw [List.length_append, hk, Nat.min_eq_left (by simp), List.getElem?_append_left (by omega), line_at (h.take u) (by omega)]
        have : ln = u - 1 := by omega
        rw [this]
      · exact .inl (by omega)
end Go.Proofs.YtdlmemalefhgmaaGreatDoor.G
