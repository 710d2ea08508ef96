/-
  Plain: the sites of what is read ('exprS', 'bodyS'), and that they count on ('si_..'). No program is imported.
  Conditions: none.
  Plain: what is read is made of numbers, texts and slices where each belongs ('Wf', 'parse_wf'); a component has no more sites than the text words ('parse_sites'). No program is imported.
  Conditions: none.
  Walks: lists of texts that grow ('FL', 'Ap'); the cells of an expression, wherever they stand ('at_expr').
  Conditions: none.
-/
import Derived.Test.YtedmmgfnplbkjaaGreatDoorParLn
import Derived.Test.YtedmmgfnplbkjaaGreatDoorParPa
namespace Go.Proofs.YtedmmgfnplbkjaaGreatDoor.G
set_option linter.unusedVariables false
set_option linter.unusedSimpArgs false
open Go.Proofs.YtedmmgfnplbkjaaGreatDoor
def num : T → Int
  | .sc (.int _ n) => n
  | _ => 0
def val : T → Value
  | .sc v => v
  | _ => undef
def ownS (row : Nat → T) (o : Nat) : List Value := if num (row o) = 12 then [val (row (o + 9))] else []
def colS : Nat → T → List Value
  | _, .sc _ => []
  | o, .ls n _ row => (List.range n).flatMap fun i => ownS (row i) o ++ (colS 0 (row i (o + 7)) ++ (colS 0 (row i (o + 5)) ++ (colS 0 (row i (o + 3)) ++ colS 2 (row i (o + 8)))))
def rowS (row : Nat → T) (o : Nat) : List Value := ownS row o ++ (colS 0 (row (o + 7)) ++ (colS 0 (row (o + 5)) ++ (colS 0 (row (o + 3)) ++ colS 2 (row (o + 8)))))
theorem colS_ls (o n k : Nat) (row : Nat → Nat → T) : colS o (.ls n k row) = (List.range n).flatMap fun i => rowS (row i) o := rfl
def at_ (l : List T) (j : Nat) : T := l.getD j default
abbrev exprS (e : List T) : List Value := rowS (at_ e) 0
abbrev actS (a : List T) : List Value := rowS (at_ a) 2
def bodyS : T → List Value
  | .sc _ => []
  | .ls n _ row => (List.range n).flatMap fun i => colS 0 (row i 13) ++ (rowS (row i) 3 ++ (colS 2 (row i 14) ++ (colS 2 (row i 15) ++ bodyS (row i 16))))
def stmtS (s : List T) : List Value := colS 0 (at_ s 13) ++ (rowS (at_ s) 3 ++ (colS 2 (at_ s 14) ++ (colS 2 (at_ s 15) ++ bodyS (at_ s 16))))
def compS (p : List T) : List Value := bodyS (at_ p 2) ++ rowS (at_ p) 3
theorem range_rows {β : Type} (l : List (List T)) (f : (Nat → T) → List β) : ((List.range l.length).flatMap fun i => f (fun j => (l.getD i []).getD j default)) = l.flatMap fun x => f (at_ x) := by
  induction l with
  | nil => rfl
  | cons a l ih =>
    rw [List.length_cons, List.range_succ_eq_map, List.flatMap_cons, List.flatMap_map, List.flatMap_cons]
    congr 1
theorem col_rows (o k : Nat) (l : List (List T)) : colS o (ofRows k l) = l.flatMap fun x => rowS (at_ x) o := by
  unfold ofRows
  rw [colS_ls]
  exact range_rows l (fun r => rowS r o)
theorem body_rows (k : Nat) (l : List (List T)) : bodyS (ofRows k l) = l.flatMap stmtS :=
  range_rows l (fun row => colS 0 (row 13) ++ (rowS row 3 ++ (colS 2 (row 14) ++ (colS 2 (row 15) ++ bodyS (row 16)))))
theorem e_S (k n : Int) (s : Str) (args names vals : List (List T)) (el : Int) (key acts : List (List T)) (site : Str) :
    exprS (eCols k n s args names vals el key acts site) = (if k = 12 then [str site] else []) ++ (key.flatMap exprS ++ (vals.flatMap exprS ++ (args.flatMap exprS ++ acts.flatMap actS))) := by
  show (if k = 12 then [str site] else []) ++ (colS 0 (ofRows 10 key) ++ (colS 0 (ofRows 10 vals) ++ (colS 0 (ofRows 10 args) ++ colS 2 (ofRows 12 acts)))) = _
  rw [col_rows, col_rows, col_rows, col_rows]
theorem a_S (k : Int) (name : Str) (e : List T) : actS (aCols k name e) = exprS e := by
  simp only [actS, rowS, ownS, at_, aCols, List.getD_cons_zero, List.getD_cons_succ, Nat.zero_add]
theorem none_S : exprS eNone = [] := by simp only [eNone, e_S]; rfl
section
variable (c : Str)
def run (d d' : Nat) : List Value := (List.range' d (d' - d)).map fun k => str (siteS c k)
theorem run_self (d : Nat) : run c d d = [] := by simp [run]
theorem run_add {d e f : Nat} (h1 : d ≤ e) (h2 : e ≤ f) : run c d e ++ run c e f = run c d f := by
  unfold run
  rw [← List.map_append]
  congr 1
  have : e = d + 1 * (e - d) := by omega
  have h : List.range' e (f - e) = List.range' (d + 1 * (e - d)) (f - e) := by rw [← this]
  rw [h, List.range'_append]
  congr 1
  omega
theorem run_cons {d e : Nat} (h : d + 1 ≤ e) : str (siteS c d) :: run c (d + 1) e = run c d e := by
  unfold run
  have : e - d = (e - (d + 1)) + 1 := by omega
  rw [this, List.range'_succ]
  rfl
def Si {α : Type} (S : α → List Value) (d : Nat) : Rs α → Prop
  | .bad _ => True
  | .ok x _ d' => d ≤ d' ∧ S x = run c d d'
variable {c}
theorem Si.bind {α β : Type} {S : α → List Value} {S' : β → List Value} {d : Nat} {r : Rs α} {f : α → Nat → Nat → Rs β} (h : Si c S d r) (hf : ∀ x t' d', S x = run c d d' → d ≤ d' → Si c S' d (f x t' d')) : Si c S' d (r.bind f) := by
  cases r with
  | bad t => trivial
  | ok x t d' => exact hf x t d' h.2 h.1
theorem Si.ite {α : Type} {S : α → List Value} {d : Nat} {p : Prop} [Decidable p] {a b : Rs α} (h1 : Si c S d a) (h2 : Si c S d b) : Si c S d (if p then a else b) := by
  split
  · exact h1
  · exact h2
variable {ws : List LX.LW}
theorem quiet_kind {β : Type} {S' : β → List Value} {d : Nat} (k t e : Nat) {f : Unit → Nat → Nat → Rs β} (hf : ∀ x t', Si c S' d (f x t' e)) : Si c S' d ((kindP ws k t e).bind f) := by
  unfold kindP
  cases ws[t]? with
  | none => trivial
  | some w =>
    dsimp only
    split
    · exact hf _ _
    · trivial
theorem quiet_name {β : Type} {S' : β → List Value} {d : Nat} (t e : Nat) {f : Str → Nat → Nat → Rs β} (hf : ∀ x t', Si c S' d (f x t' e)) : Si c S' d ((nameP ws t e).bind f) := by
  unfold nameP
  cases ws[t]? with
  | none => trivial
  | some w =>
    dsimp only
    split
    · exact hf _ _
    · trivial
theorem Si.more {α β : Type} {S : α → List Value} {S' : β → List Value} {d e : Nat} {pre : List Value} {r : Rs α} {f : α → Nat → Nat → Rs β} (hpre : pre = run c d e) (hde : d ≤ e) (h : Si c S e r)
    (hf : ∀ x t' d', pre ++ S x = run c d d' → d ≤ d' → Si c S' d (f x t' d')) : Si c S' d (r.bind f) := by
  cases r with
  | bad t => trivial
  | ok x t d' =>
    obtain ⟨h1, h2⟩ := h
    exact hf x t d' (by rw [hpre, h2, run_add c hde h1]) (Nat.le_trans hde h1)
theorem si_all {α : Type} {S : α → List Value} {one : Nat → Nat → Rs α} (ho : ∀ t d, Si c S d (one t d)) : ∀ (m t d : Nat), Si c (fun l => l.flatMap S) d (allP ws one m t d)
  | 0, t, d => trivial
  | m + 1, t, d => by
    simp only [allP]
    refine Si.ite ⟨Nat.le_refl _, (run_self c d).symm⟩ ?_
    exact (ho t d).bind fun x t1 d1 h1 g1 => Si.more h1 g1 (si_all ho m t1 d1) fun l t2 d2 h2 g2 => ⟨g2, by show List.flatMap S (x :: l) = _; rw [List.flatMap_cons, h2]⟩
theorem si_within {α : Type} {S : α → List Value} {one : Nat → Nat → Rs α} (ho : ∀ t d, Si c S d (one t d)) (t d : Nat) : Si c (fun l => l.flatMap S) d (withinP ws one t d) :=
  quiet_kind 4 t d fun _ t1 => si_all ho _ t1 d
theorem si_times {α : Type} {S : α → List Value} {one : Nat → Nat → Rs α} (ho : ∀ t d, Si c S d (one t d)) : ∀ (m t d : Nat), Si c (fun l => l.flatMap S) d (timesP one m t d)
  | 0, t, d => ⟨Nat.le_refl _, (run_self c d).symm⟩
  | m + 1, t, d => (ho t d).bind fun x t1 d1 h1 g1 => Si.more h1 g1 (si_times ho m t1 d1) fun l t2 d2 h2 g2 => ⟨g2, by show List.flatMap S (x :: l) = _; rw [List.flatMap_cons, h2]⟩
theorem si_none {β : Type} {S : β → List Value} {x : β} (t d : Nat) (h : S x = []) : Si c S d (.ok x t d) := ⟨Nat.le_refl _, by rw [h, run_self]⟩
theorem si_plain (s : Str) (t d : Nat) : Si c exprS d (plainP s t d) := by
  unfold plainP
  refine Si.ite (si_none t d (by rw [e_S]; rfl)) ?_
  refine Si.ite (si_none t d (by rw [e_S]; rfl)) ?_
  refine Si.ite (si_none t d none_S) ?_
  refine Si.ite trivial ?_
  exact si_none t d (by rw [e_S]; rfl)
theorem shut_ok {β : Type} {S' : β → List Value} {x : β} {d d' t : Nat} (g : d ≤ d') (h : S' x = run c d d') : Si c S' d ((shutP ws t d').bind fun _ t d => .ok x t d) := by
  unfold shutP kindP
  cases ws[t]? with
  | none => trivial
  | some w =>
    dsimp only
    split
    · exact ⟨g, h⟩
    · trivial
section
variable {ex : Nat → Nat → Rs (List T)} (he : ∀ t d, Si c exprS d (ex t d))
include he
theorem si_pair (t d : Nat) : Si c (fun p => exprS (p.drop 1)) d (pairP ws ex t d) :=
  quiet_kind 4 t d fun _ t1 => quiet_name t1 d fun _ t2 => (he t2 d).bind fun e t3 d3 h3 g3 => shut_ok g3 h3
theorem si_act (t d : Nat) : Si c actS d (actP ws ex t d) :=
  quiet_kind 4 t d fun _ t1 => quiet_name t1 d fun s t2 => by
    have tail : ∀ (k : Int) (n : Str) t, Si c actS d ((ex t d).bind fun e t d => (shutP ws t d).bind fun _ t d => .ok (aCols k n e) t d) := fun k n t =>
      (he t d).bind fun e t3 d3 h3 g3 => shut_ok g3 (by rw [a_S, h3])
    refine Si.ite (quiet_name t2 d fun _ t3 => tail _ _ t3) ?_
    refine Si.ite (tail _ _ t2) ?_
    refine Si.ite (tail _ _ t2) ?_
    refine Si.ite (quiet_kind 5 t2 d fun _ t3 => si_none t3 d (by rw [a_S, none_S])) ?_
    trivial
theorem si_key (t d : Nat) : Si c (fun l => l.flatMap exprS) d (keyP ws ex t d) := by
  unfold keyP
  refine Si.ite (si_none (t + 1) d rfl) ?_
  exact (he t d).bind fun e t3 d3 h3 g3 => ⟨g3, by show [e].flatMap exprS = _; rw [List.flatMap_cons, List.flatMap_nil, List.append_nil, h3]⟩
theorem si_pairsOf : ∀ (l : List Str) (t d : Nat), Si c (fun l => l.flatMap fun p => exprS (p.drop 1)) d (pairsOfP ex l t d)
  | [], t, d => si_none t d rfl
  | s :: r, t, d => (he t d).bind fun e t1 d1 h1 g1 => Si.more h1 g1 (si_pairsOf r t1 d1) fun l t2 d2 h2 g2 => ⟨g2, by
      show List.flatMap (fun p => exprS (p.drop 1)) ((.sc (str s) :: e) :: l) = _
      rw [List.flatMap_cons]; exact h2⟩
omit he in
theorem vals_S (l : List (List T)) : (l.map (·.drop 1)).flatMap exprS = l.flatMap fun p => exprS (p.drop 1) := by rw [List.flatMap_map]
theorem si_elem (k : Int) (t d : Nat) : Si c exprS d (elemP ws ex k t d) := by
  unfold elemP
  refine (si_key he t d).bind fun key t1 d1 h1 g1 => ?_
  have tail : ∀ (s : Str) (names : List (List T)) (l : List (List T)) (t e : Nat), (key.flatMap exprS ++ l.flatMap fun p => exprS (p.drop 1)) = run c d e → d ≤ e →
      Si c exprS d ((allP ws ex FU t e).bind fun args t d => .ok (eCols 11 0 s args names (l.map (·.drop 1)) k key [] []) t d) := fun s names l t e h g =>
    Si.more h g (si_all he _ t e) fun args t4 d4 h4 g4 => ⟨g4, by rw [e_S, vals_S]; simpa using h4⟩
  refine Si.ite ?_ ?_
  · exact quiet_name t1 d1 fun s t2 => Si.more h1 g1 (si_within (si_pair he) t2 d1) fun l t3 d3 h3 g3 => tail s (l.map (·.take 1)) l t3 d3 h3 g3
  refine Si.ite ?_ ?_
  · exact quiet_name t1 d1 fun s t2 => tail s [] [] t2 d1 (by simpa using h1) g1
  refine Si.ite ?_ ?_
  · exact quiet_name t1 d1 fun s t2 => Si.more h1 g1 (si_pairsOf he _ t2 d1) fun l t3 d3 h3 g3 => tail s (l.map (·.take 1)) l t3 d3 h3 g3
  refine Si.ite ?_ ?_
  · exact Si.more h1 g1 (si_pairsOf he _ t1 d1) fun l t3 d3 h3 g3 => tail [] (l.map (·.take 1)) l t3 d3 h3 g3
  refine Si.ite ?_ ?_
  · exact Si.more h1 g1 (si_pairsOf he _ t1 d1) fun l t3 d3 h3 g3 => tail [] (l.map (·.take 1)) l t3 d3 h3 g3
  · exact tail [] [] [] t1 d1 (by simpa using h1) g1
theorem si_compound (s : Str) (t d : Nat) : Si c exprS d (compoundP ws c ex s t d) := by
  have times : ∀ (k : Int) (n : Str) m t, k ≠ 12 → Si c exprS d ((timesP ex m t d).bind fun l t d => (shutP ws t d).bind fun _ t d => .ok (eCols k 0 n l [] [] 0 [] [] []) t d) := fun k n m t hk =>
    (si_times he m t d).bind fun l t3 d3 h3 g3 => shut_ok g3 (by rw [e_S, if_neg hk]; simpa using h3)
  unfold compoundP
  refine Si.ite (times _ _ _ t (by decide)) ?_
  refine Si.ite (quiet_name t d fun _ t2 => times _ _ _ t2 (by decide)) ?_
  refine Si.ite (times _ _ _ t (by decide)) ?_
  refine Si.ite (times _ _ _ t (by decide)) ?_
  refine Si.ite ((si_all (si_pair he) _ t d).bind fun l t3 d3 h3 g3 => ⟨g3, by rw [e_S, vals_S, if_neg (by decide)]; simpa using h3⟩) ?_
  refine Si.ite ?_ ?_
  · have h := si_all (ws := ws) (si_act (ws := ws) he) FU t (d + 1)
    cases hr : allP ws (actP ws ex) FU t (d + 1) with
    | bad u => trivial
    | ok l u d' =>
      rw [hr] at h
      obtain ⟨h1, h2⟩ := h
      refine ⟨by omega, ?_⟩
      rw [e_S, if_pos rfl, ← run_cons c h1, ← h2]
      simp
  iterate 8 refine Si.ite (si_elem he _ t d) ?_
  exact (si_all he _ t d).bind fun l t3 d3 h3 g3 => ⟨g3, by rw [e_S, if_neg (by decide)]; simpa using h3⟩
theorem si_exprOf (w : LX.LW) (t d : Nat) : Si c exprS d (exprOfP ws c ex w t d) := by
  unfold exprOfP
  refine Si.ite (si_none t d (by rw [e_S]; rfl)) ?_
  refine Si.ite (si_none t d (by rw [e_S]; rfl)) ?_
  refine Si.ite (si_plain _ t d) ?_
  refine Si.ite (quiet_name t d fun s t2 => si_compound he s t2 d) ?_
  trivial
end
theorem si_expr : ∀ (f t d : Nat), Si c exprS d (exprP ws c f t d)
  | 0, t, d => trivial
  | f + 1, t, d => by
    simp only [exprP]
    cases ws[t]? with
    | none => trivial
    | some w => exact si_exprOf (si_expr f) w (t + 1) d
theorem s_S (k : Int) (name ctx : Str) (e : List T) (he : e.length = 10) (deps acts undo body : List (List T)) :
    stmtS (sCols k name ctx e deps acts undo body) = deps.flatMap exprS ++ (exprS e ++ (acts.flatMap actS ++ (undo.flatMap actS ++ body.flatMap stmtS))) := by
  match e, he with
  | [e0, e1, e2, e3, e4, e5, e6, e7, e8, e9], _ =>
    show colS 0 (ofRows 10 deps) ++ (_ ++ (colS 2 (ofRows 12 acts) ++ (colS 2 (ofRows 12 undo) ++ bodyS (ofRows 17 body)))) = _
    rw [col_rows, col_rows, col_rows, body_rows]
    rfl
theorem c_S (name param : Str) (e : List T) (body : List (List T)) : compS (cCols name param body e) = body.flatMap stmtS ++ exprS e := by
  show bodyS (ofRows 17 body) ++ _ = _
  rw [body_rows]
  rfl
end
def Ln {α : Type} (L : α → Prop) : Rs α → Prop
  | .bad _ => True
  | .ok x _ _ => L x
theorem Ln.bind {α β : Type} {L : α → Prop} {L' : β → Prop} {r : Rs α} {f : α → Nat → Nat → Rs β} (h : Ln L r) (hf : ∀ x t' d', L x → Ln L' (f x t' d')) : Ln L' (r.bind f) := by
  cases r with
  | bad t => trivial
  | ok x t d' => exact hf x t d' h
theorem Ln.any {α : Type} (r : Rs α) : Ln (fun _ => True) r := by cases r <;> trivial
theorem Ln.ite {α : Type} {L : α → Prop} {p : Prop} [Decidable p] {a b : Rs α} (h1 : Ln L a) (h2 : Ln L b) : Ln L (if p then a else b) := by
  split
  · exact h1
  · exact h2
abbrev L10 (e : List T) : Prop := e.length = 10
theorem ln_compound (ws : List LX.LW) (c : Str) (ex : Nat → Nat → Rs (List T)) (s : Str) (t d : Nat) : Ln L10 (compoundP ws c ex s t d) := by
  have el : ∀ k, Ln L10 (elemP ws ex k t d) := fun k => by
    unfold elemP
    refine (Ln.any _).bind fun key t1 d1 _ => ?_
    refine Ln.ite ((Ln.any _).bind fun _ _ _ _ => (Ln.any _).bind fun _ _ _ _ => (Ln.any _).bind fun _ _ _ _ => rfl) ?_
    refine Ln.ite ((Ln.any _).bind fun _ _ _ _ => (Ln.any _).bind fun _ _ _ _ => rfl) ?_
    refine Ln.ite ((Ln.any _).bind fun _ _ _ _ => (Ln.any _).bind fun _ _ _ _ => (Ln.any _).bind fun _ _ _ _ => rfl) ?_
    refine Ln.ite ((Ln.any _).bind fun _ _ _ _ => (Ln.any _).bind fun _ _ _ _ => rfl) ?_
    refine Ln.ite ((Ln.any _).bind fun _ _ _ _ => (Ln.any _).bind fun _ _ _ _ => rfl) ?_
    exact (Ln.any _).bind fun _ _ _ _ => rfl
  unfold compoundP
  refine Ln.ite ((Ln.any _).bind fun _ _ _ _ => (Ln.any _).bind fun _ _ _ _ => rfl) ?_
  refine Ln.ite ((Ln.any _).bind fun _ _ _ _ => (Ln.any _).bind fun _ _ _ _ => (Ln.any _).bind fun _ _ _ _ => rfl) ?_
  refine Ln.ite ((Ln.any _).bind fun _ _ _ _ => (Ln.any _).bind fun _ _ _ _ => rfl) ?_
  refine Ln.ite ((Ln.any _).bind fun _ _ _ _ => (Ln.any _).bind fun _ _ _ _ => rfl) ?_
  refine Ln.ite ((Ln.any _).bind fun _ _ _ _ => rfl) ?_
  refine Ln.ite ((Ln.any _).bind fun _ _ _ _ => rfl) ?_
  iterate 8 refine Ln.ite (el _) ?_
  exact (Ln.any _).bind fun _ _ _ _ => rfl
theorem ln_exprOf (ws : List LX.LW) (c : Str) (ex : Nat → Nat → Rs (List T)) (w : LX.LW) (t d : Nat) : Ln L10 (exprOfP ws c ex w t d) := by
  unfold exprOfP
  refine Ln.ite rfl ?_
  refine Ln.ite rfl ?_
  refine Ln.ite (by unfold plainP; exact Ln.ite rfl (Ln.ite rfl (Ln.ite rfl (Ln.ite trivial rfl)))) ?_
  refine Ln.ite ((Ln.any _).bind fun _ _ _ _ => ln_compound _ _ _ _ _ _) ?_
  trivial
theorem ln_expr (ws : List LX.LW) (c : Str) : ∀ (f t d : Nat), Ln L10 (exprP ws c f t d)
  | 0, t, d => trivial
  | f + 1, t, d => by
    simp only [exprP]
    cases ws[t]? with
    | none => trivial
    | some w => exact ln_exprOf ws c (exprP ws c f) w (t + 1) d
section
variable {c : Str} {ws : List LX.LW} {ex : Nat → Nat → Rs (List T)} (he : ∀ t d, Si c exprS d (ex t d)) (hl : ∀ t d, Ln L10 (ex t d))
include he hl
theorem si_ten {β : Type} {S' : β → List Value} {d e : Nat} {pre : List Value} (t : Nat) {f : List T → Nat → Nat → Rs β} (hpre : pre = run c d e) (hde : d ≤ e)
    (hf : ∀ x t' d', x.length = 10 → pre ++ exprS x = run c d d' → d ≤ d' → Si c S' d (f x t' d')) : Si c S' d ((ex t e).bind f) := by
  have h1 := he t e
  have h2 := hl t e
  cases hr : ex t e with
  | bad u => trivial
  | ok x u d' =>
    rw [hr] at h1 h2
    exact hf x u d' h2 (by rw [hpre, h1.2, run_add c hde h1.1]) (Nat.le_trans hde h1.1)
omit he hl in
theorem nil_run (d : Nat) : ([] : List Value) = run c d d := (run_self c d).symm
theorem si_runs (k : Int) (t d : Nat) : Si c stmtS d (runsP ws ex k t d) := by
  have _h := hl
  exact (si_within he t d).bind fun deps t1 d1 h1 g1 => Si.more h1 g1 (si_within (si_act he) t1 d1) fun acts t2 d2 h2 g2 => Si.more h2 g2 (si_within (si_act he) t2 d2) fun undo t3 d3 h3 g3 => shut_ok g3 (by
    rw [s_S _ _ _ _ rfl, none_S]; simpa using h3)
theorem si_stmtOf {st : Nat → Nat → Rs (List T)} (hs : ∀ t d, Si c stmtS d (st t d)) (s : Str) (t d : Nat) : Si c stmtS d (stmtOfP ws ex st s t d) := by
  unfold stmtOfP
  refine Si.ite (quiet_name t d fun n t1 => si_ten he hl t1 (nil_run d) (Nat.le_refl _) fun e t2 d2 l2 h2 g2 => shut_ok g2 (by rw [s_S _ _ _ _ l2]; simpa using h2)) ?_
  refine Si.ite (quiet_name t d fun n t1 => si_ten he hl t1 (nil_run d) (Nat.le_refl _) fun e t2 d2 l2 h2 g2 => shut_ok g2 (by rw [s_S _ _ _ _ l2]; simpa using h2)) ?_
  refine Si.ite (quiet_name t d fun n t1 => (si_within he t1 d).bind fun deps t2 d2 h2 g2 => si_ten he hl t2 h2 g2 fun e t3 d3 l3 h3 g3 => shut_ok g3 (by rw [s_S _ _ _ _ l3]; simpa using h3)) ?_
  refine Si.ite (quiet_name t d fun n t1 => quiet_name t1 d fun m t2 => shut_ok (Nat.le_refl _) (by rw [s_S _ _ _ _ rfl, none_S, run_self]; rfl)) ?_
  refine Si.ite (si_runs he hl _ t d) ?_
  refine Si.ite (si_runs he hl _ t d) ?_
  refine Si.ite (si_ten he hl t (nil_run d) (Nat.le_refl _) fun e t1 d1 l1 h1 g1 => Si.more h1 g1 (si_all hs _ t1 d1) fun body t2 d2 h2 g2 => ⟨g2, by rw [s_S _ _ _ _ l1]; simpa using h2⟩) ?_
  trivial
theorem si_stmt : ∀ (f t d : Nat), Si c stmtS d (stmtP ws ex f t d)
  | 0, t, d => trivial
  | f + 1, t, d => quiet_kind 4 t d fun _ t1 => quiet_name t1 d fun s t2 => si_stmtOf he hl (si_stmt f) s t2 d
theorem si_body : ∀ (m : Nat) (s : Str) (t d : Nat), Si c (fun p => p.1.flatMap stmtS ++ exprS p.2) d (bodyP ws ex m s t d)
  | 0, s, t, d => trivial
  | m + 1, s, t, d => by
    simp only [bodyP]
    refine Si.ite ?_ ?_
    · exact (he t d).bind fun e t1 d1 h1 g1 => quiet_kind 5 t1 d1 fun _ t2 => shut_ok g1 h1
    · exact (si_stmtOf he hl (si_stmt he hl _) s t d).bind fun x t1 d1 h1 g1 => quiet_kind 4 t1 d1 fun _ t2 => quiet_name t2 d1 fun s t3 => Si.more h1 g1 (si_body m s t3 d1) fun p t4 d4 h4 g4 => ⟨g4, by
        show (x :: p.1).flatMap stmtS ++ exprS p.2 = _
        rw [List.flatMap_cons, List.append_assoc, h4]⟩
end
end Go.Proofs.YtedmmgfnplbkjaaGreatDoor.G
namespace Go.Proofs.YtedmmgfnplbkjaaGreatDoor.G
set_option linter.unusedVariables false
set_option linter.unusedSimpArgs false
open Go.Proofs.YtedmmgfnplbkjaaGreatDoor
def I8 (t : T) : Prop := ∃ n : Int, t = .sc (.int .u8 n)
def I64 (t : T) : Prop := ∃ n : Int, t = .sc (.int .i64 n)
def St (t : T) : Prop := ∃ s : ByteArray, t = .sc (.string s)
def Wf : Nat → T → Prop
  | _, .sc _ => False
  | 0, .ls n k row => k = 10 ∧ ∀ i, i < n → I8 (row i 0) ∧ I64 (row i 1) ∧ St (row i 2) ∧ Wf 0 (row i 3) ∧ Wf 3 (row i 4) ∧ Wf 0 (row i 5) ∧ I8 (row i 6) ∧ Wf 0 (row i 7) ∧ Wf 1 (row i 8) ∧ St (row i 9)
  | 1, .ls n k row => k = 12 ∧ ∀ i, i < n → I8 (row i 0) ∧ St (row i 1) ∧ I8 (row i 2) ∧ I64 (row i 3) ∧ St (row i 4) ∧ Wf 0 (row i 5) ∧ Wf 3 (row i 6) ∧ Wf 0 (row i 7) ∧ I8 (row i 8) ∧ Wf 0 (row i 9) ∧ Wf 1 (row i 10) ∧ St (row i 11)
  | 2, .ls n k row => k = 17 ∧ ∀ i, i < n → I8 (row i 0) ∧ St (row i 1) ∧ St (row i 2) ∧ (I8 (row i 3) ∧ I64 (row i 4) ∧ St (row i 5) ∧ Wf 0 (row i 6) ∧ Wf 3 (row i 7) ∧ Wf 0 (row i 8) ∧ I8 (row i 9) ∧ Wf 0 (row i 10) ∧ Wf 1 (row i 11) ∧ St (row i 12)) ∧ Wf 0 (row i 13) ∧ Wf 1 (row i 14) ∧ Wf 1 (row i 15) ∧ Wf 2 (row i 16)
  | _ + 3, .ls n k row => k = 1 ∧ ∀ i, i < n → St (row i 0)
def WE (row : Nat → T) (o : Nat) : Prop := I8 (row o) ∧ I64 (row (o + 1)) ∧ St (row (o + 2)) ∧ Wf 0 (row (o + 3)) ∧ Wf 3 (row (o + 4)) ∧ Wf 0 (row (o + 5)) ∧ I8 (row (o + 6)) ∧ Wf 0 (row (o + 7)) ∧ Wf 1 (row (o + 8)) ∧ St (row (o + 9))
def WA (row : Nat → T) : Prop := I8 (row 0) ∧ St (row 1) ∧ WE row 2
def WS (row : Nat → T) : Prop := I8 (row 0) ∧ St (row 1) ∧ St (row 2) ∧ WE row 3 ∧ Wf 0 (row 13) ∧ Wf 1 (row 14) ∧ Wf 1 (row 15) ∧ Wf 2 (row 16)
def WC (row : Nat → T) : Prop := St (row 0) ∧ St (row 1) ∧ Wf 2 (row 2) ∧ WE row 3
theorem wf0 (n k : Nat) (row : Nat → Nat → T) : Wf 0 (.ls n k row) ↔ k = 10 ∧ ∀ i, i < n → WE (row i) 0 := Iff.rfl
theorem wf1 (n k : Nat) (row : Nat → Nat → T) : Wf 1 (.ls n k row) ↔ k = 12 ∧ ∀ i, i < n → WA (row i) := Iff.rfl
theorem wf2 (n k : Nat) (row : Nat → Nat → T) : Wf 2 (.ls n k row) ↔ k = 17 ∧ ∀ i, i < n → WS (row i) := Iff.rfl
theorem wf3 (n k : Nat) (row : Nat → Nat → T) : Wf 3 (.ls n k row) ↔ k = 1 ∧ ∀ i, i < n → St (row i 0) := Iff.rfl
theorem getD_mem (l : List (List T)) (i : Nat) (h : i < l.length) : l.getD i [] ∈ l := by
  rw [List.getD_eq_getElem?_getD, List.getElem?_eq_getElem h]
  exact List.getElem_mem h
theorem wfE {l : List (List T)} (h : ∀ x ∈ l, WE (at_ x) 0) : Wf 0 (ofRows 10 l) := (wf0 _ _ _).2 ⟨rfl, fun i hi => h _ (getD_mem l i hi)⟩
theorem wfA {l : List (List T)} (h : ∀ x ∈ l, WA (at_ x)) : Wf 1 (ofRows 12 l) := (wf1 _ _ _).2 ⟨rfl, fun i hi => h _ (getD_mem l i hi)⟩
theorem wfS {l : List (List T)} (h : ∀ x ∈ l, WS (at_ x)) : Wf 2 (ofRows 17 l) := (wf2 _ _ _).2 ⟨rfl, fun i hi => h _ (getD_mem l i hi)⟩
theorem wfN {l : List (List T)} (h : ∀ x ∈ l, St (at_ x 0)) : Wf 3 (ofRows 1 l) := (wf3 _ _ _).2 ⟨rfl, fun i hi => h _ (getD_mem l i hi)⟩
theorem no_rows {p : List T → Prop} : ∀ x ∈ ([] : List (List T)), p x := fun x hx => by cases hx
theorem e_W {k n : Int} {s : Str} {args names vals : List (List T)} {el : Int} {key acts : List (List T)} {site : Str} (h1 : ∀ x ∈ args, WE (at_ x) 0) (h2 : ∀ x ∈ names, St (at_ x 0)) (h3 : ∀ x ∈ vals, WE (at_ x) 0) (h4 : ∀ x ∈ key, WE (at_ x) 0) (h5 : ∀ x ∈ acts, WA (at_ x)) :
    WE (at_ (eCols k n s args names vals el key acts site)) 0 :=
  ⟨⟨_, rfl⟩, ⟨_, rfl⟩, ⟨_, rfl⟩, wfE h1, wfN h2, wfE h3, ⟨_, rfl⟩, wfE h4, wfA h5, ⟨_, rfl⟩⟩
theorem none_W : WE (at_ eNone) 0 := e_W no_rows no_rows no_rows no_rows no_rows
theorem a_W {k : Int} {name : Str} {e : List T} (h : WE (at_ e) 0) : WA (at_ (aCols k name e)) := ⟨⟨_, rfl⟩, ⟨_, rfl⟩, h⟩
theorem s_W {k : Int} {name ctx : Str} {e : List T} (he : e.length = 10) (h : WE (at_ e) 0) {deps acts undo body : List (List T)} (h1 : ∀ x ∈ deps, WE (at_ x) 0) (h2 : ∀ x ∈ acts, WA (at_ x)) (h3 : ∀ x ∈ undo, WA (at_ x)) (h4 : ∀ x ∈ body, WS (at_ x)) :
    WS (at_ (sCols k name ctx e deps acts undo body)) := by
  match e, he with
  | [e0, e1, e2, e3, e4, e5, e6, e7, e8, e9], _ => exact ⟨⟨_, rfl⟩, ⟨_, rfl⟩, ⟨_, rfl⟩, h, wfE h1, wfA h2, wfA h3, wfS h4⟩
theorem c_W {name param : Str} {body : List (List T)} {e : List T} (h : ∀ x ∈ body, WS (at_ x)) (he : WE (at_ e) 0) : WC (at_ (cCols name param body e)) := ⟨⟨_, rfl⟩, ⟨_, rfl⟩, wfS h, he⟩
def EX (e : List T) : Prop := e.length = 10 ∧ WE (at_ e) 0
theorem ex_cols {k n : Int} {s : Str} {args names vals : List (List T)} {el : Int} {key acts : List (List T)} {site : Str} (h1 : ∀ x ∈ args, EX x) (h2 : ∀ x ∈ names, St (at_ x 0)) (h3 : ∀ x ∈ vals, EX x) (h4 : ∀ x ∈ key, EX x) (h5 : ∀ x ∈ acts, WA (at_ x)) :
    EX (eCols k n s args names vals el key acts site) := ⟨rfl, e_W (fun x h => (h1 x h).2) h2 (fun x h => (h3 x h).2) (fun x h => (h4 x h).2) h5⟩
theorem exW {l : List (List T)} (h : ∀ x ∈ l, EX x) : ∀ x ∈ l, WE (at_ x) 0 := fun x hx => (h x hx).2
theorem ex_none : EX eNone := ⟨rfl, none_W⟩
def PX (p : List T) : Prop := ∃ s e, p = .sc (str s) :: e ∧ EX e
theorem px_names {l : List (List T)} (h : ∀ x ∈ l, PX x) : ∀ x ∈ l.map (·.take 1), St (at_ x 0) := fun x hx => by
  obtain ⟨p, hp, rfl⟩ := List.mem_map.1 hx
  obtain ⟨s, e, rfl, _⟩ := h p hp
  exact ⟨_, rfl⟩
theorem px_vals {l : List (List T)} (h : ∀ x ∈ l, PX x) : ∀ x ∈ l.map (·.drop 1), EX x := fun x hx => by
  obtain ⟨p, hp, rfl⟩ := List.mem_map.1 hx
  obtain ⟨s, e, rfl, he⟩ := h p hp
  exact he
section
variable {ws : List LX.LW}
theorem ln_all {α : Type} {L : α → Prop} {one : Nat → Nat → Rs α} (ho : ∀ t d, Ln L (one t d)) : ∀ (m t d : Nat), Ln (fun l => ∀ x ∈ l, L x) (allP ws one m t d)
  | 0, t, d => trivial
  | m + 1, t, d => by
    simp only [allP]
    refine Ln.ite (fun x hx => by cases hx) ?_
    exact (ho t d).bind fun x t1 d1 h => (ln_all ho m t1 d1).bind fun l t2 d2 hl y hy => (List.mem_cons.1 hy).elim (fun e => e ▸ h) (hl y)
theorem ln_within {α : Type} {L : α → Prop} {one : Nat → Nat → Rs α} (ho : ∀ t d, Ln L (one t d)) (t d : Nat) : Ln (fun l => ∀ x ∈ l, L x) (withinP ws one t d) :=
  (Ln.any _).bind fun _ t1 d1 _ => ln_all ho _ t1 d1
theorem ln_times {α : Type} {L : α → Prop} {one : Nat → Nat → Rs α} (ho : ∀ t d, Ln L (one t d)) : ∀ (m t d : Nat), Ln (fun l => ∀ x ∈ l, L x) (timesP one m t d)
  | 0, t, d => fun x hx => by cases hx
  | m + 1, t, d => (ho t d).bind fun x t1 d1 h => (ln_times ho m t1 d1).bind fun l t2 d2 hl y hy => (List.mem_cons.1 hy).elim (fun e => e ▸ h) (hl y)
section
variable {ex : Nat → Nat → Rs (List T)} (he : ∀ t d, Ln EX (ex t d))
include he
theorem wf_pair (t d : Nat) : Ln PX (pairP ws ex t d) :=
  (Ln.any _).bind fun _ t1 d1 _ => (Ln.any _).bind fun s t2 d2 _ => (he t2 d2).bind fun e t3 d3 h => (Ln.any _).bind fun _ _ _ _ => ⟨s, e, rfl, h⟩
theorem wf_act (t d : Nat) : Ln (fun x => WA (at_ x)) (actP ws ex t d) :=
  (Ln.any _).bind fun _ t1 d1 _ => (Ln.any _).bind fun s t2 d2 _ => by
    refine Ln.ite ((Ln.any _).bind fun n t3 d3 _ => (he t3 d3).bind fun e _ _ h => (Ln.any _).bind fun _ _ _ _ => a_W h.2) ?_
    refine Ln.ite ((he t2 d2).bind fun e _ _ h => (Ln.any _).bind fun _ _ _ _ => a_W h.2) ?_
    refine Ln.ite ((he t2 d2).bind fun e _ _ h => (Ln.any _).bind fun _ _ _ _ => a_W h.2) ?_
    refine Ln.ite ((Ln.any _).bind fun _ _ _ _ => a_W none_W) ?_
    trivial
theorem wf_key (t d : Nat) : Ln (fun l => ∀ x ∈ l, EX x) (keyP ws ex t d) := by
  unfold keyP
  refine Ln.ite (fun x hx => by cases hx) ?_
  exact (he t d).bind fun e _ _ h x hx => by rw [List.mem_singleton.1 hx]; exact h
theorem wf_pairsOf : ∀ (l : List Str) (t d : Nat), Ln (fun l => ∀ x ∈ l, PX x) (pairsOfP ex l t d)
  | [], t, d => fun x hx => by cases hx
  | s :: r, t, d => (he t d).bind fun e t1 d1 h => (wf_pairsOf r t1 d1).bind fun l _ _ hl y hy => (List.mem_cons.1 hy).elim (fun e' => ⟨s, e, e', h⟩) (hl y)
theorem wf_elem (k : Int) (t d : Nat) : Ln EX (elemP ws ex k t d) := by
  unfold elemP
  refine (wf_key he t d).bind fun key t1 d1 hk => ?_
  have tail : ∀ (s : Str) (names vals : List (List T)) (t e : Nat), (∀ x ∈ names, St (at_ x 0)) → (∀ x ∈ vals, EX x) → Ln EX ((allP ws ex FU t e).bind fun args t d => .ok (eCols 11 0 s args names vals k key [] []) t d) := fun s names vals t e hn hv =>
    (ln_all he _ t e).bind fun args _ _ ha => ex_cols ha hn hv hk no_rows
  refine Ln.ite ((Ln.any _).bind fun s t2 d2 _ => (ln_within (wf_pair he) t2 d2).bind fun l t3 d3 hl => tail s _ _ t3 d3 (px_names hl) (px_vals hl)) ?_
  refine Ln.ite ((Ln.any _).bind fun s t2 d2 _ => tail s _ _ t2 d2 no_rows no_rows) ?_
  refine Ln.ite ((Ln.any _).bind fun s t2 d2 _ => (wf_pairsOf he _ t2 d2).bind fun l t3 d3 hl => tail s _ _ t3 d3 (px_names hl) (px_vals hl)) ?_
  refine Ln.ite ((wf_pairsOf he _ t1 d1).bind fun l t3 d3 hl => tail _ _ _ t3 d3 (px_names hl) (px_vals hl)) ?_
  refine Ln.ite ((wf_pairsOf he _ t1 d1).bind fun l t3 d3 hl => tail _ _ _ t3 d3 (px_names hl) (px_vals hl)) ?_
  exact tail _ _ _ t1 d1 no_rows no_rows
theorem wf_compound (c s : Str) (t d : Nat) : Ln EX (compoundP ws c ex s t d) := by
  have times : ∀ (k : Int) (n : Str) m t d, Ln EX ((timesP ex m t d).bind fun l t d => (shutP ws t d).bind fun _ t d => .ok (eCols k 0 n l [] [] 0 [] [] []) t d) := fun k n m t d =>
    (ln_times he m t d).bind fun l _ _ hl => (Ln.any _).bind fun _ _ _ _ => ex_cols hl no_rows no_rows no_rows no_rows
  unfold compoundP
  refine Ln.ite (times _ _ _ t d) ?_
  refine Ln.ite ((Ln.any _).bind fun _ t2 d2 _ => times _ _ _ t2 d2) ?_
  refine Ln.ite (times _ _ _ t d) ?_
  refine Ln.ite (times _ _ _ t d) ?_
  refine Ln.ite ((ln_all (wf_pair he) _ t d).bind fun l _ _ hl => ex_cols no_rows (px_names hl) (px_vals hl) no_rows no_rows) ?_
  refine Ln.ite ((ln_all (wf_act he) _ t _).bind fun l _ _ hl => ex_cols no_rows no_rows no_rows no_rows hl) ?_
  iterate 8 refine Ln.ite (wf_elem he _ t d) ?_
  exact (ln_all he _ t d).bind fun l _ _ hl => ex_cols hl no_rows no_rows no_rows no_rows
theorem wf_exprOf (c : Str) (w : LX.LW) (t d : Nat) : Ln EX (exprOfP ws c ex w t d) := by
  have flat : ∀ (k n : Int) (s : Str), EX (eCols k n s [] [] [] 0 [] [] []) := fun k n s => ex_cols no_rows no_rows no_rows no_rows no_rows
  unfold exprOfP
  refine Ln.ite (flat _ _ _) ?_
  refine Ln.ite (flat _ _ _) ?_
  refine Ln.ite (by unfold plainP; exact Ln.ite (flat _ _ _) (Ln.ite (flat _ _ _) (Ln.ite ex_none (Ln.ite trivial (flat _ _ _))))) ?_
  refine Ln.ite ((Ln.any _).bind fun s t1 d1 _ => wf_compound he c s t1 d1) ?_
  trivial
end
theorem wf_expr (c : Str) : ∀ (f t d : Nat), Ln EX (exprP ws c f t d)
  | 0, t, d => trivial
  | f + 1, t, d => by
    simp only [exprP]
    cases ws[t]? with
    | none => trivial
    | some w => exact wf_exprOf (wf_expr c f) c w (t + 1) d
section
variable {ex : Nat → Nat → Rs (List T)} (he : ∀ t d, Ln EX (ex t d))
include he
theorem wf_runs (k : Int) (t d : Nat) : Ln (fun x => WS (at_ x)) (runsP ws ex k t d) :=
  (ln_within he t d).bind fun deps t1 d1 h1 => (ln_within (wf_act he) t1 d1).bind fun acts t2 d2 h2 => (ln_within (wf_act he) t2 d2).bind fun undo t3 d3 h3 => (Ln.any _).bind fun _ _ _ _ =>
    s_W rfl none_W (exW h1) h2 h3 no_rows
theorem wf_stmtOf {st : Nat → Nat → Rs (List T)} (hs : ∀ t d, Ln (fun x => WS (at_ x)) (st t d)) (s : Str) (t d : Nat) : Ln (fun x => WS (at_ x)) (stmtOfP ws ex st s t d) := by
  unfold stmtOfP
  refine Ln.ite ((Ln.any _).bind fun n t1 d1 _ => (he t1 d1).bind fun e _ _ h => (Ln.any _).bind fun _ _ _ _ => s_W h.1 h.2 no_rows no_rows no_rows no_rows) ?_
  refine Ln.ite ((Ln.any _).bind fun n t1 d1 _ => (he t1 d1).bind fun e _ _ h => (Ln.any _).bind fun _ _ _ _ => s_W h.1 h.2 no_rows no_rows no_rows no_rows) ?_
  refine Ln.ite ((Ln.any _).bind fun n t1 d1 _ => (ln_within he t1 d1).bind fun deps t2 d2 h2 => (he t2 d2).bind fun e _ _ h => (Ln.any _).bind fun _ _ _ _ => s_W h.1 h.2 (exW h2) no_rows no_rows no_rows) ?_
  refine Ln.ite ((Ln.any _).bind fun n t1 d1 _ => (Ln.any _).bind fun m _ _ _ => (Ln.any _).bind fun _ _ _ _ => s_W rfl none_W no_rows no_rows no_rows no_rows) ?_
  refine Ln.ite (wf_runs he _ t d) ?_
  refine Ln.ite (wf_runs he _ t d) ?_
  refine Ln.ite ((he t d).bind fun e t1 d1 h => (ln_all hs _ t1 d1).bind fun body _ _ h2 => s_W h.1 h.2 no_rows no_rows no_rows h2) ?_
  trivial
theorem wf_stmt : ∀ (f t d : Nat), Ln (fun x => WS (at_ x)) (stmtP ws ex f t d)
  | 0, t, d => trivial
  | f + 1, t, d => (Ln.any _).bind fun _ t1 d1 _ => (Ln.any _).bind fun s t2 d2 _ => wf_stmtOf he (wf_stmt f) s t2 d2
theorem wf_body : ∀ (m : Nat) (s : Str) (t d : Nat), Ln (fun p => (∀ x ∈ p.1, WS (at_ x)) ∧ WE (at_ p.2) 0) (bodyP ws ex m s t d)
  | 0, s, t, d => trivial
  | m + 1, s, t, d => by
    simp only [bodyP]
    refine Ln.ite ?_ ?_
    · exact (he t d).bind fun e t1 d1 h => (Ln.any _).bind fun _ _ _ _ => (Ln.any _).bind fun _ _ _ _ => ⟨no_rows, h.2⟩
    · exact (wf_stmtOf he (wf_stmt he _) s t d).bind fun x t1 d1 h => (Ln.any _).bind fun _ t2 d2 _ => (Ln.any _).bind fun s t3 d3 _ => (wf_body m s t3 d3).bind fun p _ _ hp =>
        ⟨fun y hy => (List.mem_cons.1 hy).elim (fun e => e ▸ h) (hp.1 y), hp.2⟩
end
end
def Comp (n : Nat) (p : List T) : Prop := p.length = 13 ∧ WC (at_ p) ∧ ∃ name m, m ≤ n ∧ name.length ≤ 70000 ∧ at_ p 0 = .sc (str name) ∧ compS p = run name 0 m
theorem ten_body {ws : List LX.LW} {ex : Nat → Nat → Rs (List T)} (hl : ∀ t d, Ln L10 (ex t d)) : ∀ (m : Nat) (s : Str) (t d : Nat), Ln (fun p => p.2.length = 10) (bodyP ws ex m s t d)
  | 0, s, t, d => trivial
  | m + 1, s, t, d => by
    simp only [bodyP]
    refine Ln.ite ?_ ?_
    · exact (hl t d).bind fun e t1 d1 h => (Ln.any _).bind fun _ _ _ _ => (Ln.any _).bind fun _ _ _ _ => h
    · exact (Ln.any _).bind fun x t1 d1 _ => (Ln.any _).bind fun _ t2 d2 _ => (Ln.any _).bind fun s t3 d3 _ => (ten_body hl m s t3 d3).bind fun p _ _ hp => hp
theorem name_le {ws : List LX.LW} {t d : Nat} {x : Str} {t' d' : Nat} (h : nameP ws t d = .ok x t' d') : t' ≤ ws.length ∧ d' = d := by
  unfold nameP at h
  cases hw : ws[t]? with
  | none => rw [hw] at h; cases h
  | some w =>
    rw [hw] at h
    have := (List.getElem?_eq_some_iff.1 hw).1
    dsimp only at h
    split at h
    · cases h; exact ⟨by omega, rfl⟩
    · cases h
theorem kind_d0 {ws : List LX.LW} {k t d : Nat} {x : Unit} {t' d' : Nat} (h : kindP ws k t d = .ok x t' d') : d' = d := by
  unfold kindP at h
  cases hw : ws[t]? with
  | none => rw [hw] at h; cases h
  | some w =>
    rw [hw] at h
    dsimp only at h
    split at h
    · cases h; rfl
    · cases h
theorem name_len {ws : List LX.LW} (hw : ∀ w ∈ ws, w.s.length ≤ 70000) (t d : Nat) : Ln (fun s => s.length ≤ 70000) (nameP ws t d) := by
  unfold nameP
  cases h : ws[t]? with
  | none => trivial
  | some w =>
    dsimp only
    split
    · exact hw w (List.mem_of_getElem? h)
    · trivial
theorem comp_component (ws : List LX.LW) (hw : ∀ w ∈ ws, w.s.length ≤ 70000) (t d : Nat) : Ln (Comp ws.length) (componentP ws t d) := by
  unfold componentP
  refine (Ln.any _).bind fun _ t1 d1 _ => (Ln.any _).bind fun s t2 d2 _ => Ln.ite ?_ trivial
  refine (name_len hw t2 d2).bind fun name t3 d3 hname => (Ln.any _).bind fun param t4 d4 _ => ?_
  cases hk : openP ws t4 0 with
  | bad u => trivial
  | ok x5 t5 d5 =>
    simp only [Rs.bind_ok]
    cases hn : nameP ws t5 d5 with
    | bad u => trivial
    | ok s t6 d6 =>
      simp only [Rs.bind_ok]
      have hd : d6 = 0 := (name_le hn).2.trans (kind_d0 hk)
      subst hd
      have h1 := si_body (ws := ws) (si_expr (ws := ws) (c := name) FU) (ln_expr ws name FU) FU s t6 0
      have h2 := wf_body (ws := ws) (wf_expr (ws := ws) name FU) FU s t6 0
      have h3 := ten_body (ws := ws) (ln_expr ws name FU) FU s t6 0
      have h4 := adv_body (n := ws.length) (ws := ws) rfl (fun t d ht => adv_expr (n := ws.length) (ws := ws) rfl name FU t d ht) FU s t6 0 (name_le hn).1
      cases hb : bodyP ws (exprP ws name FU) FU s t6 0 with
      | bad u => trivial
      | ok p t7 d7 =>
        rw [hb] at h1 h2 h3 h4
        simp only [Rs.bind_ok]
        refine ⟨?_, c_W h2.1 h2.2, name, d7, ?_, hname, rfl, (c_S _ _ _ _).trans h1.2⟩
        · have h3' : p.2.length = 10 := h3
          simp only [cCols, List.length_cons, h3']
        · obtain ⟨a1, a2, a3⟩ := h4
          omega
theorem comp_program (ws : List LX.LW) (hw : ∀ w ∈ ws, w.s.length ≤ 70000) : ∀ (m t d : Nat), Ln (fun l => ∀ p ∈ l, Comp ws.length p) (programP ws m t d)
  | 0, t, d => trivial
  | m + 1, t, d => by
    simp only [programP]
    refine Ln.ite ?_ (fun p hp => by cases hp)
    exact (comp_component ws hw t d).bind fun x t1 d1 h1 => (comp_program ws hw m t1 d1).bind fun l t2 d2 h2 => fun p hp => by
      rcases List.mem_cons.1 hp with rfl | hp
      · exact h1
      · exact h2 p hp
theorem parse_comps {ws : List LX.LW} {l : List (List T)} (hw : ∀ w ∈ ws, w.s.length ≤ 70000) (h : parseP ws = .inr l) : ∀ p ∈ l, Comp ws.length p := by
  unfold parseP at h
  have := comp_program (ws.map nol) (fun w hm => by obtain ⟨u, hu, rfl⟩ := List.mem_map.1 hm; exact hw u hu) FU 0 0
  cases hp : programP (ws.map nol) FU 0 0 with
  | bad u => rw [hp] at h; cases h
  | ok l' t d =>
    rw [hp] at h this
    injection h with h
    subst h
    have h3 : ∀ p ∈ l', Comp (ws.map nol).length p := this
    rw [List.length_map] at h3
    exact h3
end Go.Proofs.YtedmmgfnplbkjaaGreatDoor.G
namespace Go.Proofs.YtedmmgfnplbkjaaGreatDoor
set_option linter.unusedVariables false
set_option linter.unusedSimpArgs false
open Go.RowKit G
def FL (B : Nat) (xs : List Value) (v : Value) (W : World) : Prop := FRows ShT 9 1 B (xs.map fun u => [T.sc u]) v W
structure Ap (B : Nat) (W : World) (v : Value) (xs ys : List Value) (v' : Value) (W' : World) : Prop where
  rows : FL B (xs ++ ys) v' W'
  grow : W.grownBy W' v.ownBlock
  own : ∀ g, v'.ownBlock = some g → v.ownBlock = some g ∨ W.heap.size ≤ g
theorem FRows.keepB {Sh : List Value → Prop} {ty : TypeId} {k B : Nat} {l : List (List T)} {v : Value} {W W' : World} (h : FRows Sh ty k B l v W) (hb : Below W.heap.size W W') : FRows Sh ty k B l v W' := by
  obtain ⟨vss, h1, h2, h3⟩ := h
  refine ⟨vss, ⟨h1.1, ?_⟩, h2.keep hb.size (fun _ _ h => h) (fun b _ h5 => hb.block b h5), h3⟩
  rcases h1.2 with h | ⟨g, cap, cur, hv, hb', hw, r⟩
  · exact .inl h
  · exact .inr ⟨g, cap, cur, hv, hb', by rw [hb.block g (tr_lt_of_block hw)]; exact hw, r⟩
theorem FL.keepB {B : Nat} {xs : List Value} {v : Value} {W W' : World} (h : FL B xs v W) (hb : Below W.heap.size W W') : FL B xs v W' := FRows.keepB h hb
theorem FL.own {B : Nat} {xs : List Value} {v : Value} {W : World} (h : FL B xs v W) {g : Nat} (e : v.ownBlock = some g) : B ≤ g ∧ g < W.heap.size := FRows.own h e
theorem grown_refl (W : World) (r : Option Nat) : W.grownBy W r := ⟨rfl, rfl, rfl, Nat.le_refl _, fun _ _ _ => rfl⟩
theorem Ap.refl {B : Nat} {W : World} {v : Value} {xs : List Value} (h : FL B xs v W) : Ap B W v xs [] v W := ⟨by rw [List.append_nil]; exact h, grown_refl _ _, fun g e => .inl e⟩
theorem Ap.trans {B : Nat} {W W1 W2 : World} {v v1 v2 : Value} {xs ys zs : List Value} (h : Ap B W v xs ys v1 W1) (k : Ap B W1 v1 (xs ++ ys) zs v2 W2) : Ap B W v xs (ys ++ zs) v2 W2 := by
  refine ⟨by rw [← List.append_assoc]; exact k.rows, ⟨k.grow.os.trans h.grow.os, k.grow.tape.trans h.grow.tape, k.grow.output.trans h.grow.output, Nat.le_trans h.grow.size k.grow.size, fun i hi hne => ?_⟩, fun g e => ?_⟩
  · rw [k.grow.block i (Nat.lt_of_lt_of_le hi h.grow.size) (fun e => ?_), h.grow.block i hi hne]
    rcases h.own i e.symm with h1 | h1
    · exact hne h1.symm
    · omega
  · have := h.grow.size
    rcases k.own g e with h1 | h1
    · exact h.own g h1
    · exact .inr (by omega)
theorem Ap.low {B : Nat} {w0 W W' : World} {v v' : Value} {xs ys : List Value} (h : Ap B W v xs ys v' W') (hl : FL B xs v W) (hb : Below B w0 W) (hs : B ≤ W.heap.size) : Below B w0 W' := hb.grown h.grow hs (fun k e => (hl.own e).1)
theorem Ap.al {B : Nat} {W W' : World} {v v' : Value} {xs ys : List Value} {o : Obj} (h : Ap B (W.alloc o) v xs ys v' W') : Ap B W v xs ys v' W' :=
  ⟨h.rows, grow_al h.grow, fun g e => (h.own g e).imp id fun h => by simp at h; omega⟩
def pre (f : Nat → List Value) (k : Nat) : List Value := (List.range k).flatMap f
def cellsE (row : Nat → T) (o : Nat) : List T := [row o, row (o + 1), row (o + 2), row (o + 3), row (o + 4), row (o + 5), row (o + 6), row (o + 7), row (o + 8), row (o + 9)]
theorem i8_rep {t : T} {w : World} {ok : Nat → Prop} {x : Value} (h : I8 t) (r : t.Rep w ok x) : ∃ n : Int, x = .int .u8 n ∧ t = .sc (.int .u8 n) := by
  obtain ⟨n, rfl⟩ := h
  exact ⟨n, r, rfl⟩
theorem i64_rep {t : T} {w : World} {ok : Nat → Prop} {x : Value} (h : I64 t) (r : t.Rep w ok x) : ∃ n : Int, x = .int .i64 n ∧ t = .sc (.int .i64 n) := by
  obtain ⟨n, rfl⟩ := h
  exact ⟨n, r, rfl⟩
theorem st_rep {t : T} {w : World} {ok : Nat → Prop} {x : Value} (h : St t) (r : t.Rep w ok x) : ∃ s : ByteArray, x = .string s ∧ t = .sc (.string s) := by
  obtain ⟨n, rfl⟩ := h
  exact ⟨n, r, rfl⟩
theorem wf_rep {g : Nat} {t : T} {w : World} {ok : Nat → Prop} {x : Value} (h : Wf g t) (r : t.Rep w ok x) : ∃ a n c, x = .slice a n c := by
  cases t with
  | sc v => cases g <;> exact h.elim
  | ls n k row =>
    obtain ⟨a, c, e, -⟩ := r
    exact ⟨a, n, c, e⟩
theorem all2_inv {α β : Type} {R : α → β → Prop} {a : α} {l : List α} {m : List β} (h : All2 R (a :: l) m) : ∃ b n, m = b :: n ∧ R a b ∧ All2 R l n := by
  cases h with
  | cons h k => exact ⟨_, _, rfl, h, k⟩
theorem row_inv {w : World} {ok : Nat → Prop} {a : T} {l : List T} {vs : List Value} (h : Row w ok (a :: l) vs) : ∃ b m, vs = b :: m ∧ a.Rep w ok b ∧ Row w ok l m := all2_inv h
theorem e_open {row : Nat → T} {o : Nat} {w : World} {ok : Nat → Prop} {vs : List Value} (hw : WE row o) (h : Row w ok (cellsE row o) vs) :
    ∃ (k n : Int) (s : ByteArray) (a3 : Option Addr) (n3 c3 : Nat) (a4 : Option Addr) (n4 c4 : Nat) (a5 : Option Addr) (n5 c5 : Nat) (e : Int) (a7 : Option Addr) (n7 c7 : Nat) (a8 : Option Addr) (n8 c8 : Nat) (t : ByteArray), vs = [.int .u8 k, .int .i64 n, .string s, .slice a3 n3 c3, .slice a4 n4 c4, .slice a5 n5 c5, .int .u8 e, .slice a7 n7 c7, .slice a8 n8 c8, .string t] ∧ row o = .sc (.int .u8 k) ∧ row (o + 1) = .sc (.int .i64 n) ∧ row (o + 2) = .sc (.string s) ∧ row (o + 6) = .sc (.int .u8 e) ∧ row (o + 9) = .sc (.string t) ∧ (row (o + 3)).Rep w ok (.slice a3 n3 c3) ∧ (row (o + 4)).Rep w ok (.slice a4 n4 c4) ∧ (row (o + 5)).Rep w ok (.slice a5 n5 c5) ∧ (row (o + 7)).Rep w ok (.slice a7 n7 c7) ∧ (row (o + 8)).Rep w ok (.slice a8 n8 c8) := by
  obtain ⟨h0, h1, h2, h3, h4, h5, h6, h7, h8, h9⟩ := hw
  obtain ⟨y0, _, rfl, g0, h⟩ := row_inv h
  obtain ⟨y1, _, rfl, g1, h⟩ := row_inv h
  obtain ⟨y2, _, rfl, g2, h⟩ := row_inv h
  obtain ⟨y3, _, rfl, g3, h⟩ := row_inv h
  obtain ⟨y4, _, rfl, g4, h⟩ := row_inv h
  obtain ⟨y5, _, rfl, g5, h⟩ := row_inv h
  obtain ⟨y6, _, rfl, g6, h⟩ := row_inv h
  obtain ⟨y7, _, rfl, g7, h⟩ := row_inv h
  obtain ⟨y8, _, rfl, g8, h⟩ := row_inv h
  obtain ⟨y9, _, rfl, g9, h⟩ := row_inv h
  cases h
  obtain ⟨k, rfl, e0⟩ := i8_rep h0 g0
  obtain ⟨n, rfl, e1⟩ := i64_rep h1 g1
  obtain ⟨s, rfl, e2⟩ := st_rep h2 g2
  obtain ⟨a3, n3, c3, rfl⟩ := wf_rep h3 g3
  obtain ⟨a4, n4, c4, rfl⟩ := wf_rep h4 g4
  obtain ⟨a5, n5, c5, rfl⟩ := wf_rep h5 g5
  obtain ⟨e, rfl, e6⟩ := i8_rep h6 g6
  obtain ⟨a7, n7, c7, rfl⟩ := wf_rep h7 g7
  obtain ⟨a8, n8, c8, rfl⟩ := wf_rep h8 g8
  obtain ⟨t, rfl, e9⟩ := st_rep h9 g9
  exact ⟨k, n, s, a3, n3, c3, a4, n4, c4, a5, n5, c5, e, a7, n7, c7, a8, n8, c8, t, rfl, e0, e1, e2, e6, e9, g3, g4, g5, g7, g8⟩
theorem sl_open {g : Nat} {t : T} {w : World} {ok : Nat → Prop} {a : Option Addr} {n c : Nat} (hw : Wf g t) (h : t.Rep w ok (.slice a n c)) :
    ∃ k row, t = .ls n k row ∧ n ≤ c ∧ c ≤ 9223372036854775807 ∧ ∀ i, i < n → ∃ b o, a = some ⟨b, o, none⟩ ∧ b < w.heap.size ∧ ∀ j, j < k → ∃ y, w.cell? ⟨b, o + i * k + j, none⟩ = some y ∧ (row i j).Rep w ok y := by
  cases t with
  | sc v => cases g <;> exact hw.elim
  | ls n' k row =>
    obtain ⟨a', c', e, h1, h2, h3⟩ := h
    injection e with e1 e2 e3
    subst e1 e2 e3
    exact ⟨k, row, rfl, h1, h2, fun i hi => by obtain ⟨b, o, e, -, hb, hc⟩ := h3 i hi; exact ⟨b, o, e, hb, hc⟩⟩
end Go.Proofs.YtedmmgfnplbkjaaGreatDoor
