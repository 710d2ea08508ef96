/-
  Plain: numbers of what was read are in range ('Rg', 'parse_rg').
  Walks: expressions of the teller of programs, in whole: 'xe_any', 'acts_any'.
  Conditions: what is told lies in old memory, as the tree tells; its numbers are in range.
  Walks: statements and components of the teller of programs.
  Conditions: what is told lies in old memory, as the tree tells; its numbers are in range.
  Walks: components, Text of package print: 'text_any'.
  Conditions: the program lies in old memory, as the tree tells; its numbers are in range; the library's tables hold what the program's text lays in them.
-/
import Derived.Test.YtedmmgfnplbkjaaGreatDoorPrX
import Derived.WalkMore
namespace Go.Proofs.YtedmmgfnplbkjaaGreatDoor.G
set_option linter.unusedVariables false
set_option linter.unusedSimpArgs false
open Go.Proofs.YtedmmgfnplbkjaaGreatDoor
abbrev R64 (n : Int) : Prop := -9223372036854775808 ≤ n ∧ n ≤ 9223372036854775807
def Rg : T → Prop
  | .sc v => ∀ n, v = .int .i64 n → R64 n
  | .ls n k row => ∀ i, i < n → ∀ j, j < k → Rg (row i j)
def RL (x : List T) : Prop := ∀ t ∈ x, Rg t
theorem rg_dflt : Rg default := fun n h => by cases h
theorem rg_getD {x : List T} (h : RL x) (j : Nat) : Rg (x.getD j default) := by
  rw [List.getD_eq_getElem?_getD]
  cases e : x[j]? with
  | none => exact rg_dflt
  | some t => exact h t (List.mem_of_getElem? e)
theorem rg_rows {k : Nat} {l : List (List T)} (h : ∀ x ∈ l, RL x) : Rg (ofRows k l) := fun i hi j _ => rg_getD (h _ (getD_mem l i hi)) j
theorem rg_str (s : Str) : Rg (.sc (str s)) := fun n h => by cases h
theorem rg_u8 (k : Int) : Rg (.sc (.int .u8 k)) := fun n h => by cases h
theorem rg_i64 {n : Int} (h : R64 n) : Rg (.sc (.int .i64 n)) := fun m e => by injection e with _ e; subst e; exact h
theorem rl_cons {t : T} {x : List T} (h : Rg t) (k : RL x) : RL (t :: x) := fun u hu => by
  rcases List.mem_cons.1 hu with rfl | hu
  · exact h
  · exact k u hu
theorem rl_nil : RL [] := fun u hu => by cases hu
theorem rl_app {x y : List T} (h : RL x) (k : RL y) : RL (x ++ y) := fun u hu => (List.mem_append.1 hu).elim (h u) (k u)
theorem no_rl : ∀ x ∈ ([] : List (List T)), RL x := fun x hx => by cases hx
theorem rl_cols {k n : Int} {s : Str} {args names vals : List (List T)} {el : Int} {key acts : List (List T)} {site : Str} (hn : R64 n) (h1 : ∀ x ∈ args, RL x) (h2 : ∀ x ∈ names, RL x) (h3 : ∀ x ∈ vals, RL x) (h4 : ∀ x ∈ key, RL x) (h5 : ∀ x ∈ acts, RL x) : RL (eCols k n s args names vals el key acts site) :=
  rl_cons (rg_u8 _) (rl_cons (rg_i64 hn) (rl_cons (rg_str _) (rl_cons (rg_rows h1) (rl_cons (rg_rows h2) (rl_cons (rg_rows h3) (rl_cons (rg_u8 _) (rl_cons (rg_rows h4) (rl_cons (rg_rows h5) (rl_cons (rg_str _) rl_nil)))))))))
theorem z64 : R64 0 := by decide
theorem rl_none : RL eNone := rl_cols z64 no_rl no_rl no_rl no_rl no_rl
theorem rl_acols {k : Int} {n : Str} {e : List T} (h : RL e) : RL (aCols k n e) := rl_cons (rg_u8 _) (rl_cons (rg_str _) h)
theorem rl_scols {k : Int} {n m : Str} {e : List T} {deps acts undo body : List (List T)} (h : RL e) (h1 : ∀ x ∈ deps, RL x) (h2 : ∀ x ∈ acts, RL x) (h3 : ∀ x ∈ undo, RL x) (h4 : ∀ x ∈ body, RL x) : RL (sCols k n m e deps acts undo body) :=
  rl_cons (rg_u8 _) (rl_cons (rg_str _) (rl_cons (rg_str _) (rl_app h (rl_cons (rg_rows h1) (rl_cons (rg_rows h2) (rl_cons (rg_rows h3) (rl_cons (rg_rows h4) rl_nil)))))))
theorem rl_take {l : List (List T)} (h : ∀ x ∈ l, RL x) : ∀ x ∈ l.map (·.take 1), RL x := fun x hx => by
  obtain ⟨y, hy, rfl⟩ := List.mem_map.1 hx
  exact fun t ht => h y hy t (List.mem_of_mem_take ht)
theorem rl_drop {l : List (List T)} (h : ∀ x ∈ l, RL x) : ∀ x ∈ l.map (·.drop 1), RL x := fun x hx => by
  obtain ⟨y, hy, rfl⟩ := List.mem_map.1 hx
  exact fun t ht => h y hy t (List.mem_of_mem_drop ht)
section
variable {ws : List LX.LW} {ex : Nat → Nat → Rs (List T)} (he : ∀ t d, Ln RL (ex t d))
include he
theorem rg_pair (t d : Nat) : Ln RL (pairP ws ex t d) :=
  (Ln.any _).bind fun _ t1 d1 _ => (Ln.any _).bind fun s t2 d2 _ => (he t2 d2).bind fun e t3 d3 h => (Ln.any _).bind fun _ t4 d4 _ => rl_cons (rg_str _) h
theorem rg_act (t d : Nat) : Ln RL (actP ws ex t d) := by
  unfold actP
  refine (Ln.any _).bind fun _ t1 d1 _ => (Ln.any _).bind fun s t2 d2 _ => ?_
  refine Ln.ite ((Ln.any _).bind fun n t3 d3 _ => (he t3 d3).bind fun e t4 d4 h => (Ln.any _).bind fun _ t5 d5 _ => rl_acols h) ?_
  refine Ln.ite ((he t2 d2).bind fun e t4 d4 h => (Ln.any _).bind fun _ t5 d5 _ => rl_acols h) ?_
  refine Ln.ite ((he t2 d2).bind fun e t4 d4 h => (Ln.any _).bind fun _ t5 d5 _ => rl_acols h) ?_
  exact Ln.ite ((Ln.any _).bind fun _ t5 d5 _ => rl_acols rl_none) trivial
theorem rg_key (t d : Nat) : Ln (fun l => ∀ x ∈ l, RL x) (keyP ws ex t d) := by
  unfold keyP
  refine Ln.ite no_rl ((he t d).bind fun e t1 d1 h => fun x hx => ?_)
  rcases List.mem_cons.1 hx with rfl | hx
  · exact h
  · cases hx
omit he in
theorem rg_cons {y : List T} {l : List (List T)} (h : RL y) (k : ∀ x ∈ l, RL x) : ∀ x ∈ y :: l, RL x := fun x hx => by
  rcases List.mem_cons.1 hx with rfl | hx
  · exact h
  · exact k x hx
theorem rg_pairsOf : ∀ (l : List Str) (t d : Nat), Ln (fun l => ∀ x ∈ l, RL x) (pairsOfP ex l t d)
  | [], t, d => no_rl
  | s :: r, t, d => (he t d).bind fun e t1 d1 h => (rg_pairsOf r t1 d1).bind fun l t2 d2 k => rg_cons (rl_cons (rg_str _) h) k
theorem rg_elem (k : Int) (t d : Nat) : Ln RL (elemP ws ex k t d) := by
  unfold elemP
  refine (rg_key he t d).bind fun key t1 d1 hk => ?_
  refine Ln.ite ((Ln.any _).bind fun s t2 d2 _ => (ln_within (rg_pair he) t2 d2).bind fun l t3 d3 hl => (ln_all he FU t3 d3).bind fun args t4 d4 ha => rl_cols z64 ha (rl_take hl) (rl_drop hl) hk no_rl) ?_
  refine Ln.ite ((Ln.any _).bind fun s t2 d2 _ => (ln_all he FU t2 d2).bind fun args t4 d4 ha => rl_cols z64 ha no_rl no_rl hk no_rl) ?_
  refine Ln.ite ((Ln.any _).bind fun s t2 d2 _ => (rg_pairsOf he _ t2 d2).bind fun l t3 d3 hl => (ln_all he FU t3 d3).bind fun args t4 d4 ha => rl_cols z64 ha (rl_take hl) (rl_drop hl) hk no_rl) ?_
  refine Ln.ite ((rg_pairsOf he _ t1 d1).bind fun l t3 d3 hl => (ln_all he FU t3 d3).bind fun args t4 d4 ha => rl_cols z64 ha (rl_take hl) (rl_drop hl) hk no_rl) ?_
  refine Ln.ite ((rg_pairsOf he _ t1 d1).bind fun l t3 d3 hl => (ln_all he FU t3 d3).bind fun args t4 d4 ha => rl_cols z64 ha (rl_take hl) (rl_drop hl) hk no_rl) ?_
  exact (ln_all he FU t1 d1).bind fun args t4 d4 ha => rl_cols z64 ha no_rl no_rl hk no_rl
theorem rg_compound (c s : Str) (t d : Nat) : Ln RL (compoundP ws c ex s t d) := by
  unfold compoundP
  refine Ln.ite ((ln_times he 3 t d).bind fun l t1 d1 h => (Ln.any _).bind fun _ _ _ _ => rl_cols z64 h no_rl no_rl no_rl no_rl) ?_
  refine Ln.ite ((Ln.any _).bind fun n t1 d1 _ => (ln_times he 2 t1 d1).bind fun l t1 d1 h => (Ln.any _).bind fun _ _ _ _ => rl_cols z64 h no_rl no_rl no_rl no_rl) ?_
  refine Ln.ite ((ln_times he 1 t d).bind fun l t1 d1 h => (Ln.any _).bind fun _ _ _ _ => rl_cols z64 h no_rl no_rl no_rl no_rl) ?_
  refine Ln.ite ((ln_times he 1 t d).bind fun l t1 d1 h => (Ln.any _).bind fun _ _ _ _ => rl_cols z64 h no_rl no_rl no_rl no_rl) ?_
  refine Ln.ite ((ln_all (rg_pair he) FU t d).bind fun l t1 d1 h => rl_cols z64 no_rl (rl_take h) (rl_drop h) no_rl no_rl) ?_
  refine Ln.ite ((ln_all (rg_act he) FU t (d + 1)).bind fun l t1 d1 h => rl_cols z64 no_rl no_rl no_rl no_rl h) ?_
  refine Ln.ite (rg_elem he _ t d) (Ln.ite (rg_elem he _ t d) (Ln.ite (rg_elem he _ t d) (Ln.ite (rg_elem he _ t d) (Ln.ite (rg_elem he _ t d) (Ln.ite (rg_elem he _ t d) (Ln.ite (rg_elem he _ t d) (Ln.ite (rg_elem he _ t d) ?_)))))))
  exact (ln_all he FU t d).bind fun l t1 d1 h => rl_cols z64 h no_rl no_rl no_rl no_rl
theorem rg_exprOf (c : Str) (w : LX.LW) (hw : R64 w.n) (t d : Nat) : Ln RL (exprOfP ws c ex w t d) := by
  unfold exprOfP
  refine Ln.ite (rl_cols hw no_rl no_rl no_rl no_rl no_rl) (Ln.ite (rl_cols z64 no_rl no_rl no_rl no_rl no_rl) (Ln.ite ?_ (Ln.ite ?_ trivial)))
  · unfold plainP
    exact Ln.ite (rl_cols (by decide) no_rl no_rl no_rl no_rl no_rl) (Ln.ite (rl_cols z64 no_rl no_rl no_rl no_rl no_rl) (Ln.ite rl_none (Ln.ite trivial (rl_cols z64 no_rl no_rl no_rl no_rl no_rl))))
  · exact (Ln.any _).bind fun s t1 d1 _ => rg_compound he c s t1 d1
end
section
variable {ws : List LX.LW} (hw : ∀ w ∈ ws, R64 w.n)
include hw
theorem rg_expr (c : Str) : ∀ (f t d : Nat), Ln RL (exprP ws c f t d)
  | 0, t, d => trivial
  | f + 1, t, d => by
    simp only [exprP]
    cases h : ws[t]? with
    | none => trivial
    | some w => exact rg_exprOf (rg_expr c f) c w (hw w (List.mem_of_getElem? h)) (t + 1) d
end
section
variable {ws : List LX.LW} {ex : Nat → Nat → Rs (List T)} (he : ∀ t d, Ln RL (ex t d))
include he
theorem rg_runs (k : Int) (t d : Nat) : Ln RL (runsP ws ex k t d) :=
  (ln_within he t d).bind fun deps t1 d1 h1 => (ln_within (rg_act he) t1 d1).bind fun acts t2 d2 h2 => (ln_within (rg_act he) t2 d2).bind fun undo t3 d3 h3 => (Ln.any _).bind fun _ _ _ _ => rl_scols rl_none h1 h2 h3 no_rl
theorem rg_stmtOf {st : Nat → Nat → Rs (List T)} (hs : ∀ t d, Ln RL (st t d)) (s : Str) (t d : Nat) : Ln RL (stmtOfP ws ex st s t d) := by
  unfold stmtOfP
  refine Ln.ite ((Ln.any _).bind fun n t1 d1 _ => (he t1 d1).bind fun e t2 d2 h => (Ln.any _).bind fun _ _ _ _ => rl_scols h no_rl no_rl no_rl no_rl) ?_
  refine Ln.ite ((Ln.any _).bind fun n t1 d1 _ => (he t1 d1).bind fun e t2 d2 h => (Ln.any _).bind fun _ _ _ _ => rl_scols h no_rl no_rl no_rl no_rl) ?_
  refine Ln.ite ((Ln.any _).bind fun n t1 d1 _ => (ln_within he t1 d1).bind fun deps t2 d2 h2 => (he t2 d2).bind fun e t2 d2 h => (Ln.any _).bind fun _ _ _ _ => rl_scols h h2 no_rl no_rl no_rl) ?_
  refine Ln.ite ((Ln.any _).bind fun n t1 d1 _ => (Ln.any _).bind fun m t2 d2 _ => (Ln.any _).bind fun _ _ _ _ => rl_scols rl_none no_rl no_rl no_rl no_rl) ?_
  refine Ln.ite (rg_runs he _ t d) (Ln.ite (rg_runs he _ t d) (Ln.ite ?_ trivial))
  exact (he t d).bind fun e t1 d1 h => (ln_all hs FU t1 d1).bind fun body t2 d2 hb => rl_scols h no_rl no_rl no_rl hb
theorem rg_stmt : ∀ (f t d : Nat), Ln RL (stmtP ws ex f t d)
  | 0, t, d => trivial
  | f + 1, t, d => (Ln.any _).bind fun _ t1 d1 _ => (Ln.any _).bind fun s t2 d2 _ => rg_stmtOf he (rg_stmt f) s t2 d2
theorem rg_body : ∀ (m : Nat) (s : Str) (t d : Nat), Ln (fun p => (∀ x ∈ p.1, RL x) ∧ RL p.2) (bodyP ws ex m s t d)
  | 0, s, t, d => trivial
  | m + 1, s, t, d => by
    simp only [bodyP]
    refine Ln.ite ((he t d).bind fun e t1 d1 h => (Ln.any _).bind fun _ _ _ _ => (Ln.any _).bind fun _ _ _ _ => ⟨no_rl, h⟩) ?_
    exact (rg_stmtOf he (rg_stmt he FU) s t d).bind fun x t1 d1 h => (Ln.any _).bind fun _ t2 d2 _ => (Ln.any _).bind fun s t3 d3 _ => (rg_body m s t3 d3).bind fun p t4 d4 k => ⟨rg_cons h k.1, k.2⟩
end
section
variable {ws : List LX.LW} (hw : ∀ w ∈ ws, R64 w.n)
include hw
theorem rg_component (t d : Nat) : Ln RL (componentP ws t d) := by
  unfold componentP
  refine (Ln.any _).bind fun _ t1 d1 _ => (Ln.any _).bind fun s t2 d2 _ => Ln.ite ?_ trivial
  refine (Ln.any _).bind fun name t3 d3 _ => (Ln.any _).bind fun param t4 d4 _ => (Ln.any _).bind fun _ t5 d5 _ => (Ln.any _).bind fun s t6 d6 _ => (rg_body (rg_expr hw name FU) FU s t6 d6).bind fun p t7 d7 h => ?_
  exact rl_cons (rg_str _) (rl_cons (rg_str _) (rl_cons (rg_rows h.1) h.2))
theorem rg_program : ∀ (m t d : Nat), Ln (fun l => ∀ x ∈ l, RL x) (programP ws m t d)
  | 0, t, d => trivial
  | m + 1, t, d => by
    simp only [programP]
    exact Ln.ite ((rg_component hw t d).bind fun x t1 d1 h => (rg_program m t1 d1).bind fun l t2 d2 k => rg_cons h k) no_rl
end
theorem parse_rg {ws : List LX.LW} {l : List (List T)} (hw : ∀ w ∈ ws, LX.OkW w) (h : parseP ws = .inr l) : ∀ x ∈ l, RL x := by
  have hc : ∀ w ∈ ws.map nol, R64 w.n := fun w hm => by
    obtain ⟨v, hv, rfl⟩ := List.mem_map.1 hm
    show R64 v.n
    rcases hw v hv with ⟨-, -, h⟩ | ⟨-, -, h⟩ | ⟨-, h, -⟩ | ⟨-, -, h1, h2⟩ | ⟨-, h, -⟩
    · rw [h]; decide
    · rw [h]; decide
    · rw [h]; decide
    · exact ⟨h1, by omega⟩
    · rw [h]; decide
  have := rg_program hc FU 0 0
  unfold parseP at h
  cases hp : programP (ws.map nol) FU 0 0 with
  | bad u => rw [hp] at h; cases h
  | ok l' t d => rw [hp] at h this; injection h with h; subst h; exact this
end Go.Proofs.YtedmmgfnplbkjaaGreatDoor.G
namespace Go.Proofs.YtedmmgfnplbkjaaGreatDoor.PR
set_option linter.unusedVariables false
set_option linter.unusedSimpArgs false
open Go.Proofs.YtedmmgfnplbkjaaGreatDoor Go.RowKit G
section
variable {w0 : World} {pt : Obj} {c : Str} {row : Nat → T} {q b p : Nat} (X : EX w0 pt c row q b p)
include X
set_option maxRecDepth 100000 in
set_option maxHeartbeats 8000000 in
theorem expr_any (hn : Rg (row (q + 1))) (l : Str) (bs : Bool) (d : Nat) (W : World) (h : TS w0 pt l bs c d W) :
    Calls Tryz.prog 45 #[tp w0, .pointer (some ⟨b, p, none⟩)] W (PostT w0 pt l bs c (exprT c row q d)) := by
  obtain ⟨k, n, s, a3, n3, c3, a4, n4, c4, a5, n5, c5, e, a7, n7, c7, a8, n8, c8, t, hy, h0, h1, h2, h6, h9, h3, h4, h5, h7, h8, p3, p4, p5, p7, p8⟩ := X.cells
  obtain ⟨y0, y1, y2, y3, y4, y5, y6, y7, y8, y9⟩ := hy W h.low
  have HY := Lib.hid hy
  have hr64 : R64 n := by
    obtain ⟨n', hn'⟩ := X.hw.2.1
    rw [hn'] at h1 hn
    rw [← h1]
    exact hn n' rfl
  have HD := Lib.hid (fun n => TS.keep h (below_drewNP W n))
  have HF := Lib.hid (fieldsX X h.low)
  have HN := Lib.hid (fun (W : World) => nmE_any k W)
  obtain ⟨v1, hv1⟩ : ∃ v, fvE row q = v := ⟨_, rfl⟩
  obtain ⟨v2, hv2⟩ : ∃ v, nmE k = v := ⟨_, rfl⟩
  have hfit := fitE_is k row q
  have HR : Hid (exprT c row q d = if fitE (namedE k) row q = false then none
    else if k = 0 then oneT (wN [110, 111, 110, 101]) d
    else if k = 1 then oneT (wI n) d
    else if k = 2 then truthT n d
    else if k = 3 then textT s d
    else if k = 4 then nameT s d
    else if k = 11 then elemT row (subs c row) q d
    else compoundT c row (subs c row) q d) := by
    rw [Hid, ← h0, ← h1, ← h2]
    rfl
  rw [HR.out]
  rw [hv1] at HF hfit
  rw [hv2] at HN hfit
  obtain ⟨fx, hfx⟩ : ∃ x, fitE (namedE k) row q = x := ⟨_, rfl⟩
  rw [hfx] at hfit ⊢
  replace hfit : (bits BinOp.andNot IntKind.u64 v1 v2 != 0) = !fx := hfit
  have HW0 := Lib.hid (fun l bs d (W : World) (h : TS w0 pt l bs c d W) => word_told (wN [110, 111, 110, 101]) ⟨#[110, 111, 110, 101]⟩ W (by decide) (by simp [wN]) rfl h)
  have HFI : Hid (∀ l bs d (W : World), True → TS w0 pt l bs c d W → Calls Tryz.prog 75 #[.int .i64 n, .int .i64 10] W fun e w' => e = .returned (.string ⟨(Lib.itoa n).toArray⟩) ∧ TS w0 pt l bs c d w') := fun l bs d W _ h =>
    (Tryz.strconv_FormatInt_10 n hr64.1 hr64.2 W (X.tabs.below h.low X.tabs.gb).1).mono fun e w' ⟨he, kk, os, hw⟩ => ⟨he, by rw [hw]; exact h.keep (Lib.below_grow _ _ (Nat.le_refl _) _ _)⟩
  have hil := Lib.itoa_length_le n hr64.1 (by omega)
  have HW1 := Lib.hid (fun l bs d (W : World) (h : TS w0 pt l bs c d W) => word_told (wI n) ⟨(Lib.itoa n).toArray⟩ W (by show (Lib.itoa n).length ≤ _; omega) (by simp [wI]) (by simp [wI, LX.toldW]) h)
  have HT := Lib.hid (fun l bs d (W : World) (h : TS w0 pt l bs c d W) => truth_any n W h)
  have HQ : Hid (∀ l bs d (W : World), TS w0 pt l bs c d W → Calls Tryz.prog 77 #[tp w0, .string ⟨s.toArray⟩] W (PostT w0 pt l bs c (textT s d))) := fun l bs d W h => by
    have := quoted_any ⟨s.toArray⟩ W h
    have e : (⟨s.toArray⟩ : ByteArray).data.toList = s := by simp
    rwa [e] at this
  have HM := Lib.hid (fun l bs d s (W : World) (h : TS w0 pt l bs c d W) => name_any s W X.tabs h)
  have HEL := Lib.hid (fun l bs d (W : World) (h : TS w0 pt l bs c d W) => elem_any X l bs d W h)
  have HCO := Lib.hid (fun l bs d (W : World) (h : TS w0 pt l bs c d W) => compound_any X l bs d W h)
  clear HR hfx h hy p3 p4 p5 p7 p8 h0 h1 h2 h3 h4 h5 h6 h7 h8 h9 hv1 hv2 hil hr64
  cases fx with
  | false =>
    rw [if_pos rfl]
    go_enter Tryz.func45, Tryz.ntmps45
    go_wp2
    go_quiet (first
      | (go_at_call 73; exact HF.out _)
      | (go_at_call 74; exact Calls.quiet_of_same (HN.out _)))
    have hts := HD.out nq
    obtain ⟨y0, y1, y2, y3, y4, y5, y6, y7, y8, y9⟩ := HY.out _ (TS.low hts)
    go_wp2
    go_ret
    exact .inr ⟨rfl, rfl, hts.low⟩
  | true =>
    rw [if_neg (by simp)]
    by_cases e0 : k = 0
    · subst e0
      rw [if_pos rfl]
      go_enter Tryz.func45, Tryz.ntmps45
      go_wp2
      go_quiet (first
        | (go_at_call 73; exact HF.out _)
        | (go_at_call 74; exact Calls.quiet_of_same (HN.out _)))
      have hts := HD.out nq
      obtain ⟨y0, y1, y2, y3, y4, y5, y6, y7, y8, y9⟩ := HY.out _ (TS.low hts)
      go_wp2_with (first
        | (go_at_call 67; (with_reducible refine (HW0.out _ _ _ _ (by assumption)).mono ?_); rintro e1 w1 (⟨u1, d1, hu1, rfl, hts⟩ | ⟨hu1, rfl, hb1⟩)))
      all_goals go_ret
      all_goals (first
          | exact .inl ⟨_, _, (by first | assumption | rfl), rfl, (by assumption)⟩
          | exact .inr ⟨(by first | assumption | rfl), rfl, (by assumption)⟩
          | (cases hu1; done))
    rw [if_neg e0]
    have f0 : (k == 0) = false := by simpa using e0
    by_cases e1 : k = 1
    · subst e1
      rw [if_pos rfl]
      go_enter Tryz.func45, Tryz.ntmps45
      go_wp2
      go_quiet (first
        | (go_at_call 73; exact HF.out _)
        | (go_at_call 74; exact Calls.quiet_of_same (HN.out _)))
      have hts := HD.out nq
      obtain ⟨y0, y1, y2, y3, y4, y5, y6, y7, y8, y9⟩ := HY.out _ (TS.low hts)
      go_wp2_with (first
        | (go_at_call 75; refine (HFI.out _ _ _ _ trivial (by assumption)).mono ?_; rintro e1 w1 ⟨rfl, hts⟩)
        | (go_at_call 67; (with_reducible refine (HW1.out _ _ _ _ (by assumption)).mono ?_); rintro e1 w1 (⟨u1, d1, hu1, rfl, hts⟩ | ⟨hu1, rfl, hb1⟩)))
      all_goals go_ret
      all_goals (first
          | exact .inl ⟨_, _, (by first | assumption | rfl), rfl, (by assumption)⟩
          | exact .inr ⟨(by first | assumption | rfl), rfl, (by assumption)⟩
          | (cases hu1; done))
    rw [if_neg e1]
    have f1 : (k == 1) = false := by simpa using e1
    by_cases e2 : k = 2
    · subst e2
      rw [if_pos rfl]
      go_enter Tryz.func45, Tryz.ntmps45
      go_wp2
      go_quiet (first
        | (go_at_call 73; exact HF.out _)
        | (go_at_call 74; exact Calls.quiet_of_same (HN.out _)))
      have hts := HD.out nq
      obtain ⟨y0, y1, y2, y3, y4, y5, y6, y7, y8, y9⟩ := HY.out _ (TS.low hts)
      go_wp2_with (first
        | (go_at_call 76; (with_reducible refine (HT.out _ _ _ _ (by assumption)).mono ?_); rintro e1 w1 (⟨u1, d1, hu1, rfl, hts⟩ | ⟨hu1, rfl, hb1⟩)))
      all_goals go_ret
      all_goals (first
          | exact .inl ⟨_, _, (by first | assumption | rfl), rfl, (by assumption)⟩
          | exact .inr ⟨(by first | assumption | rfl), rfl, (by assumption)⟩
          | (cases hu1; done))
    rw [if_neg e2]
    have f2 : (k == 2) = false := by simpa using e2
    by_cases e3 : k = 3
    · subst e3
      rw [if_pos rfl]
      go_enter Tryz.func45, Tryz.ntmps45
      go_wp2
      go_quiet (first
        | (go_at_call 73; exact HF.out _)
        | (go_at_call 74; exact Calls.quiet_of_same (HN.out _)))
      have hts := HD.out nq
      obtain ⟨y0, y1, y2, y3, y4, y5, y6, y7, y8, y9⟩ := HY.out _ (TS.low hts)
      go_wp2_with (first
        | (go_at_call 77; (with_reducible refine (HQ.out _ _ _ _ (by assumption)).mono ?_); rintro e1 w1 (⟨u1, d1, hu1, rfl, hts⟩ | ⟨hu1, rfl, hb1⟩)))
      all_goals go_ret
      all_goals (first
          | exact .inl ⟨_, _, (by first | assumption | rfl), rfl, (by assumption)⟩
          | exact .inr ⟨(by first | assumption | rfl), rfl, (by assumption)⟩
          | (cases hu1; done))
    rw [if_neg e3]
    have f3 : (k == 3) = false := by simpa using e3
    by_cases e4 : k = 4
    · subst e4
      rw [if_pos rfl]
      go_enter Tryz.func45, Tryz.ntmps45
      go_wp2
      go_quiet (first
        | (go_at_call 73; exact HF.out _)
        | (go_at_call 74; exact Calls.quiet_of_same (HN.out _)))
      have hts := HD.out nq
      obtain ⟨y0, y1, y2, y3, y4, y5, y6, y7, y8, y9⟩ := HY.out _ (TS.low hts)
      go_wp2_with (first
        | (go_at_call 42; (with_reducible refine (HM.out _ _ _ _ _ (by assumption)).mono ?_); rintro e1 w1 (⟨u1, d1, hu1, rfl, hts⟩ | ⟨hu1, rfl, hb1⟩)))
      all_goals go_ret
      all_goals (first
          | exact .inl ⟨_, _, (by first | assumption | rfl), rfl, (by assumption)⟩
          | exact .inr ⟨(by first | assumption | rfl), rfl, (by assumption)⟩
          | (cases hu1; done))
    rw [if_neg e4]
    have f4 : (k == 4) = false := by simpa using e4
    by_cases e11 : k = 11
    · subst e11
      rw [if_pos rfl]
      go_enter Tryz.func45, Tryz.ntmps45
      go_wp2
      go_quiet (first
        | (go_at_call 73; exact HF.out _)
        | (go_at_call 74; exact Calls.quiet_of_same (HN.out _)))
      have hts := HD.out nq
      obtain ⟨y0, y1, y2, y3, y4, y5, y6, y7, y8, y9⟩ := HY.out _ (TS.low hts)
      go_wp2_with (first
        | (go_at_call 78; (with_reducible refine (HEL.out _ _ _ _ (by assumption)).mono ?_); rintro e1 w1 (⟨u1, d1, hu1, rfl, hts⟩ | ⟨hu1, rfl, hb1⟩)))
      all_goals go_ret
      all_goals (first
          | exact .inl ⟨_, _, (by first | assumption | rfl), rfl, (by assumption)⟩
          | exact .inr ⟨(by first | assumption | rfl), rfl, (by assumption)⟩
          | (cases hu1; done))
    rw [if_neg e11]
    have f11 : (k == 11) = false := by simpa using e11
    go_enter Tryz.func45, Tryz.ntmps45
    go_wp2
    go_quiet (first
      | (go_at_call 73; exact HF.out _)
      | (go_at_call 74; exact Calls.quiet_of_same (HN.out _)))
    have hts := HD.out nq
    obtain ⟨y0, y1, y2, y3, y4, y5, y6, y7, y8, y9⟩ := HY.out _ (TS.low hts)
    go_wp2_with (first
      | (go_at_call 79; (with_reducible refine (HCO.out _ _ _ _ (by assumption)).mono ?_); rintro e1 w1 (⟨u1, d1, hu1, rfl, hts⟩ | ⟨hu1, rfl, hb1⟩)))
    all_goals go_ret
    all_goals (first
        | exact .inl ⟨_, _, (by first | assumption | rfl), rfl, (by assumption)⟩
        | exact .inr ⟨(by first | assumption | rfl), rfl, (by assumption)⟩
        | (cases hu1; done))
end
theorem xe_step {w0 : World} {pt : Obj} {c : Str} (ht : LTabs w0) (hcl : c.length ≤ 70000) {row : Nat → T} {q : Nat} (hw : WE row q) (hn : Rg (row (q + 1))) (h3 : EL0 w0 pt c (row (q + 3))) (h5 : EL0 w0 pt c (row (q + 5))) (h7 : EL0 w0 pt c (row (q + 7))) (h8 : EL1 w0 pt c (row (q + 8))) : XE w0 pt c row q :=
  fun b p l bs d W hep h => expr_any ⟨hw, hep, h3, h5, h7, h8, ht, hcl⟩ hn l bs d W h
theorem xe_tree {w0 : World} {pt : Obj} {c : Str} (ht : LTabs w0) (hcl : c.length ≤ 70000) : ∀ t : T, Rg t → (Wf 0 t → EL0 w0 pt c t) ∧ (Wf 1 t → EL1 w0 pt c t) := by
  intro t
  induction t with
  | sc v => exact fun _ => ⟨fun h => h.elim, fun h => h.elim⟩
  | ls n k row ih =>
    intro hr
    refine ⟨fun h => ?_, fun h => ?_⟩
    · obtain ⟨rfl, hwa⟩ := (wf0 _ _ _).1 h
      intro n' row' e i hi
      injection e with e1 e2 e3
      subst e1 e3
      have hw := hwa i hi
      exact xe_step ht hcl hw (hr i hi 1 (by decide)) ((ih i 3 (hr i hi 3 (by decide))).1 hw.2.2.2.1) ((ih i 5 (hr i hi 5 (by decide))).1 hw.2.2.2.2.2.1) ((ih i 7 (hr i hi 7 (by decide))).1 hw.2.2.2.2.2.2.2.1) ((ih i 8 (hr i hi 8 (by decide))).2 hw.2.2.2.2.2.2.2.2.1)
    · obtain ⟨rfl, hwa⟩ := (wf1 _ _ _).1 h
      intro n' row' e i hi
      injection e with e1 e2 e3
      subst e1 e3
      have hw := (hwa i hi).2.2
      exact xe_step ht hcl hw (hr i hi 3 (by decide)) ((ih i 5 (hr i hi 5 (by decide))).1 hw.2.2.2.1) ((ih i 7 (hr i hi 7 (by decide))).1 hw.2.2.2.2.2.1) ((ih i 9 (hr i hi 9 (by decide))).1 hw.2.2.2.2.2.2.2.1) ((ih i 10 (hr i hi 10 (by decide))).2 hw.2.2.2.2.2.2.2.2.1)
theorem xe_any {w0 : World} {pt : Obj} {c : Str} (ht : LTabs w0) (hcl : c.length ≤ 70000) {row : Nat → T} {q : Nat} (hw : WE row q) (hr : ∀ j, j < 10 → Rg (row (q + j))) : XE w0 pt c row q :=
  xe_step ht hcl hw (hr 1 (by decide)) ((xe_tree ht hcl _ (hr 3 (by decide))).1 hw.2.2.2.1) ((xe_tree ht hcl _ (hr 5 (by decide))).1 hw.2.2.2.2.2.1) ((xe_tree ht hcl _ (hr 7 (by decide))).1 hw.2.2.2.2.2.2.2.1) ((xe_tree ht hcl _ (hr 8 (by decide))).2 hw.2.2.2.2.2.2.2.2.1)
end Go.Proofs.YtedmmgfnplbkjaaGreatDoor.PR
namespace Go.Proofs.YtedmmgfnplbkjaaGreatDoor.PR
set_option linter.unusedVariables false
set_option linter.unusedSimpArgs false
open Go.Proofs.YtedmmgfnplbkjaaGreatDoor Go.RowKit G
def SP (w0 : World) (row : Nat → T) (b p : Nat) : Prop := ∀ j, j < 17 → ∃ y, w0.cell? ⟨b, p + j, none⟩ = some y ∧ (row j).Rep w0 yes y
theorem SP.cells {w0 : World} {row : Nat → T} {b p : Nat} (hw : WS row) (h : SP w0 row b p) : ∃ (k : Int) (s m : Str) (a4 : Option Addr) (n4 c4 : Nat) (a5 : Option Addr) (n5 c5 : Nat) (a6 : Option Addr) (n6 c6 : Nat) (a7 : Option Addr) (n7 c7 : Nat),
    num (row 0) = k ∧ strT (row 1) = s ∧ strT (row 2) = m ∧ EP w0 row 3 b (p + 3) ∧ (row 13).Rep w0 yes (.slice a4 n4 c4) ∧ (row 14).Rep w0 yes (.slice a5 n5 c5) ∧ (row 15).Rep w0 yes (.slice a6 n6 c6) ∧ (row 16).Rep w0 yes (.slice a7 n7 c7) ∧ ∀ W, Below w0.heap.size w0 W → W.cell? ⟨b, p, none⟩ = some (.int .u8 k) ∧ W.cell? ⟨b, p + 1, none⟩ = some (.string ⟨s.toArray⟩) ∧ W.cell? ⟨b, p + 2, none⟩ = some (.string ⟨m.toArray⟩) ∧ W.cell? ⟨b, p + 13, none⟩ = some (.slice a4 n4 c4) ∧ W.cell? ⟨b, p + 14, none⟩ = some (.slice a5 n5 c5) ∧ W.cell? ⟨b, p + 15, none⟩ = some (.slice a6 n6 c6) ∧ W.cell? ⟨b, p + 16, none⟩ = some (.slice a7 n7 c7) ∧ SCells W b p row := by
  obtain ⟨⟨k, hk⟩, ⟨s, hs⟩, ⟨m, hm⟩, hwe, w4, w5, w6, w7⟩ := hw
  obtain ⟨y0, f0, g0⟩ := h 0 (by decide)
  obtain ⟨y1, f1, g1⟩ := h 1 (by decide)
  obtain ⟨y2, f2, g2⟩ := h 2 (by decide)
  obtain ⟨y4, f4, g4⟩ := h 13 (by decide)
  obtain ⟨y5, f5, g5⟩ := h 14 (by decide)
  obtain ⟨y6, f6, g6⟩ := h 15 (by decide)
  obtain ⟨y7, f7, g7⟩ := h 16 (by decide)
  have hep : EP w0 row 3 b (p + 3) := fun j hj => by
    obtain ⟨y, f, g⟩ := h (3 + j) (by omega)
    exact ⟨y, by rw [Nat.add_assoc]; exact f, g⟩
  have hlt : b < w0.heap.size := World.block_lt_of_cell? _ _ f0
  rw [hk] at g0
  rw [hs] at g1
  rw [hm] at g2
  have e0 : y0 = .int .u8 k := g0
  have e1 : y1 = .string s := g1
  have e2 : y2 = .string m := g2
  subst e0 e1 e2
  obtain ⟨a4, n4, c4, rfl⟩ := wf_rep w4 g4
  obtain ⟨a5, n5, c5, rfl⟩ := wf_rep w5 g5
  obtain ⟨a6, n6, c6, rfl⟩ := wf_rep w6 g6
  obtain ⟨a7, n7, c7, rfl⟩ := wf_rep w7 g7
  refine ⟨k, s.data.toList, m.data.toList, a4, n4, c4, a5, n5, c5, a6, n6, c6, a7, n7, c7, by rw [hk]; rfl, by rw [hs]; rfl, by rw [hm]; rfl, hep, g4, g5, g6, g7, fun W hb => ?_⟩
  have hc : ∀ o y, w0.cell? ⟨b, o, none⟩ = some y → W.cell? ⟨b, o, none⟩ = some y := fun o y h => by rw [hb.cell (p := ⟨b, o, none⟩) hlt]; exact h
  have es : (⟨s.data.toList.toArray⟩ : ByteArray) = s := by simp
  have em : (⟨m.data.toList.toArray⟩ : ByteArray) = m := by simp
  exact ⟨hc _ _ f0, by rw [es]; exact hc _ _ f1, by rw [em]; exact hc _ _ f2, hc _ _ f4, hc _ _ f5, hc _ _ f6, hc _ _ f7, k, s, m, a4, n4, c4, a5, n5, c5, a6, n6, c6, a7, n7, c7, hc _ _ f0, hc _ _ f1, hc _ _ f2, hep.cells hwe hb, hc _ _ f4, hc _ _ f5, hc _ _ f6, hc _ _ f7, hk, hs, hm, (len_of w4 g4).2, (len_of w5 g5).2, (len_of w6 g6).2, (len_of w7 g7).2⟩
def XS (w0 : World) (pt : Obj) (c : Str) (row : Nat → T) : Prop := ∀ (b p : Nat) (l : Str) (bs : Bool) (d : Nat) (W : World), SP w0 row b p → TS w0 pt l bs c d W →
  Calls Tryz.prog 44 #[tp w0, .pointer (some ⟨b, p, none⟩)] W (PostT w0 pt l bs c (stmtT c row d))
def EL2 (w0 : World) (pt : Obj) (c : Str) (t : T) : Prop := ∀ n row, t = .ls n 17 row → ∀ i, i < n → XS w0 pt c (row i)
set_option maxRecDepth 100000 in
set_option maxHeartbeats 4000000 in
theorem withinE_any {w0 : World} {pt : Obj} {c : Str} {row : Nat → T} {j : Nat} {a : Value} (hC : ∀ l bs d (W : World), TS w0 pt l bs c d W → Calls Tryz.prog 118 #[a, .func (.func 45) #[tp w0] #[]] W (PostT w0 pt l bs c (colT row (subs c row) j 0 d))) (l : Str) (bs : Bool) (d : Nat) (W : World) (h : TS w0 pt l bs c d W) :
    Calls Tryz.prog 71 #[tp w0, a, .func (.func 45) #[tp w0] #[]] W (PostT w0 pt l bs c (withinT row (subs c row) j 0 d)) := by
  have HO := Lib.hid (fun l bs d (W : World) (h : TS w0 pt l bs c d W) => open_any W h)
  have HS := Lib.hid (fun l bs d (W : World) (h : TS w0 pt l bs c d W) => shut_any W h)
  have HC := Lib.hid hC
  have hts := h
  unfold withinT
  clear h hC
  go_enter Tryz.func71, Tryz.ntmps71
  go_wp2_with (first
    | (go_at_call 66; (with_reducible refine (HO.out _ _ _ _ (by assumption)).mono ?_); rintro e1 w1 ⟨rfl, hts⟩)
    | (go_at_call 46; (with_reducible refine (HS.out _ _ _ _ (by assumption)).mono ?_); rintro e1 w1 ⟨rfl, hts⟩)
    | (go_at_call 118; (with_reducible refine (HC.out _ _ _ _ (by assumption)).mono ?_); rintro e1 w1 (⟨u1, d1, hu1, rfl, hts⟩ | ⟨hu1, rfl, hb1⟩)))
  all_goals go_ret
  all_goals (first
    | exact PostT.step (by first | assumption | rfl) (PostT.step (by first | assumption | rfl) (PostT.step (by first | assumption | rfl) (PostT.done rfl (by assumption))))
    | exact PostT.step (by first | assumption | rfl) (PostT.step (by first | assumption | rfl) (PostT.step (by first | assumption | rfl) (PostT.stop (by assumption) rfl (by assumption))))
    | exact PostT.step (by first | assumption | rfl) (PostT.step (by first | assumption | rfl) (PostT.done rfl (by assumption)))
    | exact PostT.step (by first | assumption | rfl) (PostT.step (by first | assumption | rfl) (PostT.stop (by assumption) rfl (by assumption)))
    | exact PostT.step (by first | assumption | rfl) (PostT.done rfl (by assumption))
    | exact PostT.step (by first | assumption | rfl) (PostT.stop (by assumption) rfl (by assumption))
    | exact PostT.done rfl (by assumption)
    | exact PostT.stop (by assumption) rfl (by assumption))
set_option maxRecDepth 100000 in
set_option maxHeartbeats 4000000 in
theorem withinA_any {w0 : World} {pt : Obj} {c : Str} {row : Nat → T} {j : Nat} {a : Value} (hC : ∀ l bs d (W : World), TS w0 pt l bs c d W → Calls Tryz.prog 135 #[a, .func (.func 120) #[tp w0] #[]] W (PostT w0 pt l bs c (colT row (subs c row) j 1 d))) (l : Str) (bs : Bool) (d : Nat) (W : World) (h : TS w0 pt l bs c d W) :
    Calls Tryz.prog 119 #[tp w0, a, .func (.func 120) #[tp w0] #[]] W (PostT w0 pt l bs c (withinT row (subs c row) j 1 d)) := by
  have HO := Lib.hid (fun l bs d (W : World) (h : TS w0 pt l bs c d W) => open_any W h)
  have HS := Lib.hid (fun l bs d (W : World) (h : TS w0 pt l bs c d W) => shut_any W h)
  have HC := Lib.hid hC
  have hts := h
  unfold withinT
  clear h hC
  go_enter Tryz.func119, Tryz.ntmps119
  go_wp2_with (first
    | (go_at_call 66; (with_reducible refine (HO.out _ _ _ _ (by assumption)).mono ?_); rintro e1 w1 ⟨rfl, hts⟩)
    | (go_at_call 46; (with_reducible refine (HS.out _ _ _ _ (by assumption)).mono ?_); rintro e1 w1 ⟨rfl, hts⟩)
    | (go_at_call 135; (with_reducible refine (HC.out _ _ _ _ (by assumption)).mono ?_); rintro e1 w1 (⟨u1, d1, hu1, rfl, hts⟩ | ⟨hu1, rfl, hb1⟩)))
  all_goals go_ret
  all_goals (first
    | exact PostT.step (by first | assumption | rfl) (PostT.step (by first | assumption | rfl) (PostT.step (by first | assumption | rfl) (PostT.done rfl (by assumption))))
    | exact PostT.step (by first | assumption | rfl) (PostT.step (by first | assumption | rfl) (PostT.step (by first | assumption | rfl) (PostT.stop (by assumption) rfl (by assumption))))
    | exact PostT.step (by first | assumption | rfl) (PostT.step (by first | assumption | rfl) (PostT.done rfl (by assumption)))
    | exact PostT.step (by first | assumption | rfl) (PostT.step (by first | assumption | rfl) (PostT.stop (by assumption) rfl (by assumption)))
    | exact PostT.step (by first | assumption | rfl) (PostT.done rfl (by assumption))
    | exact PostT.step (by first | assumption | rfl) (PostT.stop (by assumption) rfl (by assumption))
    | exact PostT.done rfl (by assumption)
    | exact PostT.stop (by assumption) rfl (by assumption))
set_option maxRecDepth 100000 in
set_option maxHeartbeats 4000000 in
theorem eachS_any {w0 : World} {pt : Obj} {c : Str} (t : T) (hw : Wf 2 t) (hX : ∀ n row, t = .ls n 17 row → ∀ i, i < n → XS w0 pt c (row i)) (a : Value) (l : Str) (bs : Bool) (d : Nat) (W : World) (hr : t.Rep w0 yes a) (h : TS w0 pt l bs c d W) :
    Calls Tryz.prog 43 #[a, .func (.func 44) #[tp w0] #[]] W (PostT w0 pt l bs c (eachT (tellC c 2 t) (lenT t) d)) := by
  obtain ⟨la, n, lc, rfl⟩ := wf_rep hw hr
  obtain ⟨kk, row, rfl, h1, h2, hel⟩ := sl_open hw hr
  obtain ⟨rfl, hwa⟩ := (wf2 _ _ _).1 hw
  obtain ⟨f, hf⟩ : ∃ f, tellC c 2 (.ls n 17 row) = f := ⟨_, rfl⟩
  have HEL := Lib.hid hel
  have HX := Lib.hid (hX n row rfl)
  have HFI : Hid (∀ i d, f i d = stmtT c (row i) d) := fun i d => by rw [← hf]; rfl
  have HT := Lib.hid h
  have hc1 : n ≤ lc := h1
  have hlen : lenT (.ls n 17 row) = n := rfl
  rw [hlen, hf]
  obtain ⟨r, hrr⟩ : ∃ r, eachT f n d = r := ⟨_, rfl⟩
  have HR := Lib.hid hrr
  rw [hrr]
  clear hw hr hel hX hf h hlen hrr h1
  go_enter Tryz.func43, Tryz.ntmps43
  go_wp2
  go_loopw [8] (fun i wr => ∃ (j : Nat) (u : List LX.LW) (d' : Nat), i = .int .i64 j ∧ j ≤ n ∧ eachT f j d = some (u, d') ∧ TS w0 pt (l ++ lay bs u) (aft bs u) c d' wr) (fun i _ => n - (intOf i).toNat)
  case atStart => exact ⟨0, [], d, rfl, Nat.zero_le _, rfl, by rw [show lay bs [] = [] from rfl, List.append_nil]; exact HT.out⟩
  case round =>
    obtain ⟨j, u, d', rfl, hj, hu, hts⟩ := hrel
    have HTS := Lib.hid hts
    have HU := Lib.hid hu
    clear hts hu
    by_cases hlt : j < n
    · have g1 : (j : Int) < (n : Int) := by omega
      have g0 : (0 : Int) ≤ (j : Int) := by omega
      have g2 : j < lc := by omega
      obtain ⟨b, o, rfl, hb, hcells⟩ := HEL.out j hlt
      have HC := Lib.hid (HX.out j hlt b (o + j * 17) (l ++ lay bs u) (aft bs u) d' wr (by intro i hi; exact hcells i hi) HTS.out)
      clear hcells
      go_wp2_with (go_at_call 44; (with_reducible refine HC.out.mono ?_); rintro e1 w1 (⟨v, d2, hv, rfl, hts⟩ | ⟨hv, rfl, hb⟩))
      · go_roundw
        case rel =>
          refine ⟨j + 1, u ++ v, d2, by go_num, by omega, ?_, ?_⟩
          · refine seq_some HU.out ?_
            rw [HFI.out]
            exact hv
          · rw [lay_append, aft_append, ← List.append_assoc]
            exact hts
        case measure => simp [intOf]; omega
      · go_ret
        refine .inr ⟨?_, rfl, hb⟩
        rw [← HR.out]
        refine eachT_bad (m := j + 1) ?_ n (by omega)
        refine seq_bad HU.out ?_
        rw [HFI.out]
        exact hv
    · obtain rfl : n = j := by omega
      go_wp2
      go_ret
      exact .inl ⟨u, d', HR.out.symm.trans HU.out, rfl, HTS.out⟩
section
variable {w0 : World} {pt : Obj} {c : Str} (ht : LTabs w0) (hcl : c.length ≤ 70000) {row : Nat → T} (hw : WS row) (hr : ∀ j, j < 17 → Rg (row j)) (hX : EL2 w0 pt c (row 16)) {b p : Nat} (hp : SP w0 row b p)
include ht hcl hw hr hp
set_option maxRecDepth 100000 in
set_option maxHeartbeats 4000000 in
theorem runs_any (l : Str) (bs : Bool) (d : Nat) (W : World) (h : TS w0 pt l bs c d W) :
    Calls Tryz.prog 72 #[tp w0, .pointer (some ⟨b, p, none⟩)] W (PostT w0 pt l bs c (runsT row (subs c row) d)) := by
  obtain ⟨k, s, m, a4, n4, c4, a5, n5, c5, a6, n6, c6, a7, n7, c7, hk, hs, hm, hep, p4, p5, p6, p7, hy⟩ := hp.cells hw
  obtain ⟨y0, y1, y2, y4, y5, y6, y7, hsc⟩ := hy W h.low
  have HY := Lib.hid hy
  have HDE := Lib.hid (withinE_any (pt := pt) (row := row) (j := 13) (fun l bs d W h => colE_any hw.2.2.2.2.1 ((xe_tree ht hcl _ (hr 13 (by decide))).1 hw.2.2.2.2.1) p4 l bs d W h))
  have HDO := Lib.hid (withinA_any (pt := pt) (row := row) (j := 14) (fun l bs d W h => eachA_any ht (row 14) hw.2.2.2.2.2.1 ((xe_tree ht hcl _ (hr 14 (by decide))).2 hw.2.2.2.2.2.1) _ l bs d W p5 h))
  have HUN := Lib.hid (withinA_any (pt := pt) (row := row) (j := 15) (fun l bs d W h => eachA_any ht (row 15) hw.2.2.2.2.2.2.1 ((xe_tree ht hcl _ (hr 15 (by decide))).2 hw.2.2.2.2.2.2.1) _ l bs d W p6 h))
  have hts := h
  unfold runsT
  clear h hy hep p4 p5 p6 p7 hk hs hm hp hw hr ht hcl
  go_enter Tryz.func72, Tryz.ntmps72
  go_wp2_with (first
    | (go_at_call 71; (with_reducible refine (HDE.out _ _ _ _ (by assumption)).mono ?_); rintro e1 w1 (⟨u1, d1, hu1, rfl, hts⟩ | ⟨hu1, rfl, hb1⟩); obtain ⟨y0, y1, y2, y4, y5, y6, y7, hsc⟩ := HY.out _ (TS.low hts))
    | (go_at_call 119; (with_reducible refine (HDO.out _ _ _ _ (by assumption)).mono ?_); rintro e1 w1 (⟨u1, d1, hu1, rfl, hts⟩ | ⟨hu1, rfl, hb1⟩); obtain ⟨y0, y1, y2, y4, y5, y6, y7, hsc⟩ := HY.out _ (TS.low hts))
    | (go_at_call 119; (with_reducible refine (HUN.out _ _ _ _ (by assumption)).mono ?_); rintro e1 w1 (⟨u1, d1, hu1, rfl, hts⟩ | ⟨hu1, rfl, hb1⟩); obtain ⟨y0, y1, y2, y4, y5, y6, y7, hsc⟩ := HY.out _ (TS.low hts)))
  all_goals go_ret
  all_goals (first
    | exact PostT.step (by first | assumption | rfl) (PostT.step (by first | assumption | rfl) (PostT.step (by first | assumption | rfl) (PostT.done rfl (by assumption))))
    | exact PostT.step (by first | assumption | rfl) (PostT.step (by first | assumption | rfl) (PostT.step (by first | assumption | rfl) (PostT.stop (by assumption) rfl (by assumption))))
    | exact PostT.step (by first | assumption | rfl) (PostT.step (by first | assumption | rfl) (PostT.done rfl (by assumption)))
    | exact PostT.step (by first | assumption | rfl) (PostT.step (by first | assumption | rfl) (PostT.stop (by assumption) rfl (by assumption)))
    | exact PostT.step (by first | assumption | rfl) (PostT.done rfl (by assumption))
    | exact PostT.step (by first | assumption | rfl) (PostT.stop (by assumption) rfl (by assumption))
    | exact PostT.done rfl (by assumption)
    | exact PostT.stop (by assumption) rfl (by assumption))
include hX
set_option maxRecDepth 100000 in
set_option maxHeartbeats 8000000 in
theorem stmt_any (l : Str) (bs : Bool) (d : Nat) (W : World) (h : TS w0 pt l bs c d W) :
    Calls Tryz.prog 44 #[tp w0, .pointer (some ⟨b, p, none⟩)] W (PostT w0 pt l bs c (stmtT c row d)) := by
  obtain ⟨k, s, m, a4, n4, c4, a5, n5, c5, a6, n6, c6, a7, n7, c7, hk, hs, hm, hep, p4, p5, p6, p7, hy⟩ := hp.cells hw
  obtain ⟨y0, y1, y2, y4, y5, y6, y7, hsc⟩ := hy W h.low
  have HY := Lib.hid hy
  have HDE := Lib.hid (withinE_any (pt := pt) (row := row) (j := 13) (fun l bs d W h => colE_any hw.2.2.2.2.1 ((xe_tree ht hcl _ (hr 13 (by decide))).1 hw.2.2.2.2.1) p4 l bs d W h))
  have HDO := Lib.hid (withinA_any (pt := pt) (row := row) (j := 14) (fun l bs d W h => eachA_any ht (row 14) hw.2.2.2.2.2.1 ((xe_tree ht hcl _ (hr 14 (by decide))).2 hw.2.2.2.2.2.1) _ l bs d W p5 h))
  have HUN := Lib.hid (withinA_any (pt := pt) (row := row) (j := 15) (fun l bs d W h => eachA_any ht (row 15) hw.2.2.2.2.2.2.1 ((xe_tree ht hcl _ (hr 15 (by decide))).2 hw.2.2.2.2.2.2.1) _ l bs d W p6 h))
  have HD := Lib.hid (fun n => TS.keep h (below_drewNP W n))
  have HF : Hid (∀ n, Calls Tryz.prog 69 #[.pointer (some ⟨b, p, none⟩)] (W.drewN n) fun e w' => e = .returned (.int .u64 (fvS row)) ∧ ∃ m, w' = W.drewN m) := fun n =>
    (fieldsS_any (W := W.drewN n) hsc).mono fun e w' ⟨he, m, hm⟩ => ⟨he, n + m, by rw [hm, drew_add]⟩
  have HN := Lib.hid (fun (W : World) => nmS_any k W)
  obtain ⟨v1, hv1⟩ : ∃ v, fvS row = v := ⟨_, rfl⟩
  obtain ⟨v2, hv2⟩ : ∃ v, nmS k = v := ⟨_, rfl⟩
  have hfit := fitS_is row
  rw [hk] at hfit
  have HR : Hid (stmtT c row d = if fitS row = false then none
    else if k = 1 then seqL [opensT [108, 101, 116], nameT s, exprF c row (subs c row) 3, shutT] d
    else if k = 2 then seqL [opensT [115, 116, 97, 116, 101], nameT s, exprF c row (subs c row) 3, shutT] d
    else if k = 3 then seqL [opensT [109, 101, 109, 111], nameT s, withinT row (subs c row) 13 0, exprF c row (subs c row) 3, shutT] d
    else if k = 4 then seqL [opensT [117, 115, 101], nameT s, nameT m, shutT] d
    else if k = 5 then seqL [opensT [108, 97, 121, 111, 117, 116], runsT row (subs c row), shutT] d
    else if k = 6 then seqL [opensT [101, 102, 102, 101, 99, 116], runsT row (subs c row), shutT] d
    else if k = 7 then seqL [opensT [119, 104, 101, 110], exprF c row (subs c row) 3, colT row (subs c row) 16 2, shutT] d
    else none) := by
    rw [Hid, ← hk, ← hs, ← hm]
    rfl
  rw [HR.out]
  rw [hv1] at HF hfit
  rw [hv2] at HN hfit
  obtain ⟨fx, hfx⟩ : ∃ x, fitS row = x := ⟨_, rfl⟩
  rw [hfx] at hfit ⊢
  replace hfit : (bits BinOp.andNot IntKind.u64 v1 v2 != 0) = !fx := hfit
  have HEX : Hid (∀ l bs d (W : World), TS w0 pt l bs c d W → Calls Tryz.prog 45 #[tp w0, .pointer (some ⟨b, p + 3, none⟩)] W (PostT w0 pt l bs c (exprF c row (subs c row) 3 d))) := fun l bs d W h =>
    xe_any ht hcl hw.2.2.2.1 (fun j hj => hr (3 + j) (by omega)) b (p + 3) l bs d W hep h
  have HS := Lib.hid (fun l bs d (W : World) (h : TS w0 pt l bs c d W) => shut_any W h)
  have HM := Lib.hid (fun l bs d s (W : World) (h : TS w0 pt l bs c d W) => name_any s W ht h)
  have HRU := Lib.hid (fun l bs d (W : World) (h : TS w0 pt l bs c d W) => runs_any ht hcl hw hr hp l bs d W h)
  have HBO : Hid (∀ l bs d (W : World), TS w0 pt l bs c d W → Calls Tryz.prog 43 #[.slice a7 n7 c7, .func (.func 44) #[tp w0] #[]] W (PostT w0 pt l bs c (colT row (subs c row) 16 2 d))) := fun l bs d W h =>
    eachS_any (row 16) hw.2.2.2.2.2.2.2 hX _ l bs d W p7 h
  clear HR hfx h hy hep p4 p5 p6 p7 hk hs hm hp hw hr ht hcl hX hv1 hv2
  cases fx with
  | false =>
    rw [if_pos rfl]
    go_enter Tryz.func44, Tryz.ntmps44
    go_wp2
    go_quiet (first
      | (go_at_call 69; exact HF.out _)
      | (go_at_call 70; exact Calls.quiet_of_same (HN.out _)))
    have hts := HD.out nq
    obtain ⟨y0, y1, y2, y4, y5, y6, y7, hsc⟩ := HY.out _ (TS.low hts)
    go_wp2
    go_ret
    exact .inr ⟨rfl, rfl, hts.low⟩
  | true =>
    rw [if_neg (by simp)]
    by_cases e1 : k = 1
    · subst e1
      rw [if_pos rfl]
      have HW : Hid (∀ l bs d (W : World), TS w0 pt l bs c d W → Calls Tryz.prog 41 #[tp w0, .string ⟨#[108, 101, 116]⟩] W fun e w' => e = .returned (.bool true) ∧ TS w0 pt (l ++ lay bs [wO, wN [108, 101, 116]]) true c d w') := fun l bs d W h => opens_any ⟨#[108, 101, 116]⟩ W (by decide) h
      go_enter Tryz.func44, Tryz.ntmps44
      go_wp2
      go_quiet (first
        | (go_at_call 69; exact HF.out _)
        | (go_at_call 70; exact Calls.quiet_of_same (HN.out _)))
      have hts := HD.out nq
      obtain ⟨y0, y1, y2, y4, y5, y6, y7, hsc⟩ := HY.out _ (TS.low hts)
      go_wp2_with (first
        | (go_at_call 41; (with_reducible refine (HW.out _ _ _ _ (by assumption)).mono ?_); rintro e1 w1 ⟨rfl, hts⟩; obtain ⟨y0, y1, y2, y4, y5, y6, y7, hsc⟩ := HY.out _ (TS.low hts))
        | (go_at_call 46; (with_reducible refine (HS.out _ _ _ _ (by assumption)).mono ?_); rintro e1 w1 ⟨rfl, hts⟩; obtain ⟨y0, y1, y2, y4, y5, y6, y7, hsc⟩ := HY.out _ (TS.low hts))
        | (go_at_call 42; (with_reducible refine (HM.out _ _ _ _ _ (by assumption)).mono ?_); rintro e1 w1 (⟨u1, d1, hu1, rfl, hts⟩ | ⟨hu1, rfl, hb1⟩); obtain ⟨y0, y1, y2, y4, y5, y6, y7, hsc⟩ := HY.out _ (TS.low hts))
        | (go_at_call 45; (with_reducible refine (HEX.out _ _ _ _ (by assumption)).mono ?_); rintro e1 w1 (⟨u1, d1, hu1, rfl, hts⟩ | ⟨hu1, rfl, hb1⟩); obtain ⟨y0, y1, y2, y4, y5, y6, y7, hsc⟩ := HY.out _ (TS.low hts)))
      all_goals go_ret
      all_goals (first
          | exact PostT.step (by first | assumption | rfl) (PostT.step (by first | assumption | rfl) (PostT.step (by first | assumption | rfl) (PostT.step (by first | assumption | rfl) (PostT.step (by first | assumption | rfl) (PostT.done rfl (by assumption))))))
          | exact PostT.step (by first | assumption | rfl) (PostT.step (by first | assumption | rfl) (PostT.step (by first | assumption | rfl) (PostT.step (by first | assumption | rfl) (PostT.step (by first | assumption | rfl) (PostT.stop (by assumption) rfl (by assumption))))))
          | exact PostT.step (by first | assumption | rfl) (PostT.step (by first | assumption | rfl) (PostT.step (by first | assumption | rfl) (PostT.step (by first | assumption | rfl) (PostT.done rfl (by assumption)))))
          | exact PostT.step (by first | assumption | rfl) (PostT.step (by first | assumption | rfl) (PostT.step (by first | assumption | rfl) (PostT.step (by first | assumption | rfl) (PostT.stop (by assumption) rfl (by assumption)))))
          | exact PostT.step (by first | assumption | rfl) (PostT.step (by first | assumption | rfl) (PostT.step (by first | assumption | rfl) (PostT.done rfl (by assumption))))
          | exact PostT.step (by first | assumption | rfl) (PostT.step (by first | assumption | rfl) (PostT.step (by first | assumption | rfl) (PostT.stop (by assumption) rfl (by assumption))))
          | exact PostT.step (by first | assumption | rfl) (PostT.step (by first | assumption | rfl) (PostT.done rfl (by assumption)))
          | exact PostT.step (by first | assumption | rfl) (PostT.step (by first | assumption | rfl) (PostT.stop (by assumption) rfl (by assumption)))
          | exact PostT.step (by first | assumption | rfl) (PostT.done rfl (by assumption))
          | exact PostT.step (by first | assumption | rfl) (PostT.stop (by assumption) rfl (by assumption))
          | exact PostT.done rfl (by assumption)
          | exact PostT.stop (by assumption) rfl (by assumption))
    rw [if_neg e1]
    have f1 : (k == 1) = false := by simpa using e1
    by_cases e2 : k = 2
    · subst e2
      rw [if_pos rfl]
      have HW : Hid (∀ l bs d (W : World), TS w0 pt l bs c d W → Calls Tryz.prog 41 #[tp w0, .string ⟨#[115, 116, 97, 116, 101]⟩] W fun e w' => e = .returned (.bool true) ∧ TS w0 pt (l ++ lay bs [wO, wN [115, 116, 97, 116, 101]]) true c d w') := fun l bs d W h => opens_any ⟨#[115, 116, 97, 116, 101]⟩ W (by decide) h
      go_enter Tryz.func44, Tryz.ntmps44
      go_wp2
      go_quiet (first
        | (go_at_call 69; exact HF.out _)
        | (go_at_call 70; exact Calls.quiet_of_same (HN.out _)))
      have hts := HD.out nq
      obtain ⟨y0, y1, y2, y4, y5, y6, y7, hsc⟩ := HY.out _ (TS.low hts)
      go_wp2_with (first
        | (go_at_call 41; (with_reducible refine (HW.out _ _ _ _ (by assumption)).mono ?_); rintro e1 w1 ⟨rfl, hts⟩; obtain ⟨y0, y1, y2, y4, y5, y6, y7, hsc⟩ := HY.out _ (TS.low hts))
        | (go_at_call 46; (with_reducible refine (HS.out _ _ _ _ (by assumption)).mono ?_); rintro e1 w1 ⟨rfl, hts⟩; obtain ⟨y0, y1, y2, y4, y5, y6, y7, hsc⟩ := HY.out _ (TS.low hts))
        | (go_at_call 42; (with_reducible refine (HM.out _ _ _ _ _ (by assumption)).mono ?_); rintro e1 w1 (⟨u1, d1, hu1, rfl, hts⟩ | ⟨hu1, rfl, hb1⟩); obtain ⟨y0, y1, y2, y4, y5, y6, y7, hsc⟩ := HY.out _ (TS.low hts))
        | (go_at_call 45; (with_reducible refine (HEX.out _ _ _ _ (by assumption)).mono ?_); rintro e1 w1 (⟨u1, d1, hu1, rfl, hts⟩ | ⟨hu1, rfl, hb1⟩); obtain ⟨y0, y1, y2, y4, y5, y6, y7, hsc⟩ := HY.out _ (TS.low hts)))
      all_goals go_ret
      all_goals (first
          | exact PostT.step (by first | assumption | rfl) (PostT.step (by first | assumption | rfl) (PostT.step (by first | assumption | rfl) (PostT.step (by first | assumption | rfl) (PostT.step (by first | assumption | rfl) (PostT.done rfl (by assumption))))))
          | exact PostT.step (by first | assumption | rfl) (PostT.step (by first | assumption | rfl) (PostT.step (by first | assumption | rfl) (PostT.step (by first | assumption | rfl) (PostT.step (by first | assumption | rfl) (PostT.stop (by assumption) rfl (by assumption))))))
          | exact PostT.step (by first | assumption | rfl) (PostT.step (by first | assumption | rfl) (PostT.step (by first | assumption | rfl) (PostT.step (by first | assumption | rfl) (PostT.done rfl (by assumption)))))
          | exact PostT.step (by first | assumption | rfl) (PostT.step (by first | assumption | rfl) (PostT.step (by first | assumption | rfl) (PostT.step (by first | assumption | rfl) (PostT.stop (by assumption) rfl (by assumption)))))
          | exact PostT.step (by first | assumption | rfl) (PostT.step (by first | assumption | rfl) (PostT.step (by first | assumption | rfl) (PostT.done rfl (by assumption))))
          | exact PostT.step (by first | assumption | rfl) (PostT.step (by first | assumption | rfl) (PostT.step (by first | assumption | rfl) (PostT.stop (by assumption) rfl (by assumption))))
          | exact PostT.step (by first | assumption | rfl) (PostT.step (by first | assumption | rfl) (PostT.done rfl (by assumption)))
          | exact PostT.step (by first | assumption | rfl) (PostT.step (by first | assumption | rfl) (PostT.stop (by assumption) rfl (by assumption)))
          | exact PostT.step (by first | assumption | rfl) (PostT.done rfl (by assumption))
          | exact PostT.step (by first | assumption | rfl) (PostT.stop (by assumption) rfl (by assumption))
          | exact PostT.done rfl (by assumption)
          | exact PostT.stop (by assumption) rfl (by assumption))
    rw [if_neg e2]
    have f2 : (k == 2) = false := by simpa using e2
    by_cases e3 : k = 3
    · subst e3
      rw [if_pos rfl]
      have HW : Hid (∀ l bs d (W : World), TS w0 pt l bs c d W → Calls Tryz.prog 41 #[tp w0, .string ⟨#[109, 101, 109, 111]⟩] W fun e w' => e = .returned (.bool true) ∧ TS w0 pt (l ++ lay bs [wO, wN [109, 101, 109, 111]]) true c d w') := fun l bs d W h => opens_any ⟨#[109, 101, 109, 111]⟩ W (by decide) h
      go_enter Tryz.func44, Tryz.ntmps44
      go_wp2
      go_quiet (first
        | (go_at_call 69; exact HF.out _)
        | (go_at_call 70; exact Calls.quiet_of_same (HN.out _)))
      have hts := HD.out nq
      obtain ⟨y0, y1, y2, y4, y5, y6, y7, hsc⟩ := HY.out _ (TS.low hts)
      go_wp2_with (first
        | (go_at_call 41; (with_reducible refine (HW.out _ _ _ _ (by assumption)).mono ?_); rintro e1 w1 ⟨rfl, hts⟩; obtain ⟨y0, y1, y2, y4, y5, y6, y7, hsc⟩ := HY.out _ (TS.low hts))
        | (go_at_call 46; (with_reducible refine (HS.out _ _ _ _ (by assumption)).mono ?_); rintro e1 w1 ⟨rfl, hts⟩; obtain ⟨y0, y1, y2, y4, y5, y6, y7, hsc⟩ := HY.out _ (TS.low hts))
        | (go_at_call 42; (with_reducible refine (HM.out _ _ _ _ _ (by assumption)).mono ?_); rintro e1 w1 (⟨u1, d1, hu1, rfl, hts⟩ | ⟨hu1, rfl, hb1⟩); obtain ⟨y0, y1, y2, y4, y5, y6, y7, hsc⟩ := HY.out _ (TS.low hts))
        | (go_at_call 71; (with_reducible refine (HDE.out _ _ _ _ (by assumption)).mono ?_); rintro e1 w1 (⟨u1, d1, hu1, rfl, hts⟩ | ⟨hu1, rfl, hb1⟩); obtain ⟨y0, y1, y2, y4, y5, y6, y7, hsc⟩ := HY.out _ (TS.low hts))
        | (go_at_call 45; (with_reducible refine (HEX.out _ _ _ _ (by assumption)).mono ?_); rintro e1 w1 (⟨u1, d1, hu1, rfl, hts⟩ | ⟨hu1, rfl, hb1⟩); obtain ⟨y0, y1, y2, y4, y5, y6, y7, hsc⟩ := HY.out _ (TS.low hts)))
      all_goals go_ret
      all_goals (first
          | exact PostT.step (by first | assumption | rfl) (PostT.step (by first | assumption | rfl) (PostT.step (by first | assumption | rfl) (PostT.step (by first | assumption | rfl) (PostT.step (by first | assumption | rfl) (PostT.done rfl (by assumption))))))
          | exact PostT.step (by first | assumption | rfl) (PostT.step (by first | assumption | rfl) (PostT.step (by first | assumption | rfl) (PostT.step (by first | assumption | rfl) (PostT.step (by first | assumption | rfl) (PostT.stop (by assumption) rfl (by assumption))))))
          | exact PostT.step (by first | assumption | rfl) (PostT.step (by first | assumption | rfl) (PostT.step (by first | assumption | rfl) (PostT.step (by first | assumption | rfl) (PostT.done rfl (by assumption)))))
          | exact PostT.step (by first | assumption | rfl) (PostT.step (by first | assumption | rfl) (PostT.step (by first | assumption | rfl) (PostT.step (by first | assumption | rfl) (PostT.stop (by assumption) rfl (by assumption)))))
          | exact PostT.step (by first | assumption | rfl) (PostT.step (by first | assumption | rfl) (PostT.step (by first | assumption | rfl) (PostT.done rfl (by assumption))))
          | exact PostT.step (by first | assumption | rfl) (PostT.step (by first | assumption | rfl) (PostT.step (by first | assumption | rfl) (PostT.stop (by assumption) rfl (by assumption))))
          | exact PostT.step (by first | assumption | rfl) (PostT.step (by first | assumption | rfl) (PostT.done rfl (by assumption)))
          | exact PostT.step (by first | assumption | rfl) (PostT.step (by first | assumption | rfl) (PostT.stop (by assumption) rfl (by assumption)))
          | exact PostT.step (by first | assumption | rfl) (PostT.done rfl (by assumption))
          | exact PostT.step (by first | assumption | rfl) (PostT.stop (by assumption) rfl (by assumption))
          | exact PostT.done rfl (by assumption)
          | exact PostT.stop (by assumption) rfl (by assumption))
    rw [if_neg e3]
    have f3 : (k == 3) = false := by simpa using e3
    by_cases e4 : k = 4
    · subst e4
      rw [if_pos rfl]
      have HW : Hid (∀ l bs d (W : World), TS w0 pt l bs c d W → Calls Tryz.prog 41 #[tp w0, .string ⟨#[117, 115, 101]⟩] W fun e w' => e = .returned (.bool true) ∧ TS w0 pt (l ++ lay bs [wO, wN [117, 115, 101]]) true c d w') := fun l bs d W h => opens_any ⟨#[117, 115, 101]⟩ W (by decide) h
      go_enter Tryz.func44, Tryz.ntmps44
      go_wp2
      go_quiet (first
        | (go_at_call 69; exact HF.out _)
        | (go_at_call 70; exact Calls.quiet_of_same (HN.out _)))
      have hts := HD.out nq
      obtain ⟨y0, y1, y2, y4, y5, y6, y7, hsc⟩ := HY.out _ (TS.low hts)
      go_wp2_with (first
        | (go_at_call 41; (with_reducible refine (HW.out _ _ _ _ (by assumption)).mono ?_); rintro e1 w1 ⟨rfl, hts⟩; obtain ⟨y0, y1, y2, y4, y5, y6, y7, hsc⟩ := HY.out _ (TS.low hts))
        | (go_at_call 46; (with_reducible refine (HS.out _ _ _ _ (by assumption)).mono ?_); rintro e1 w1 ⟨rfl, hts⟩; obtain ⟨y0, y1, y2, y4, y5, y6, y7, hsc⟩ := HY.out _ (TS.low hts))
        | (go_at_call 42; (with_reducible refine (HM.out _ _ _ _ _ (by assumption)).mono ?_); rintro e1 w1 (⟨u1, d1, hu1, rfl, hts⟩ | ⟨hu1, rfl, hb1⟩); obtain ⟨y0, y1, y2, y4, y5, y6, y7, hsc⟩ := HY.out _ (TS.low hts)))
      all_goals go_ret
      all_goals (first
          | exact PostT.step (by first | assumption | rfl) (PostT.step (by first | assumption | rfl) (PostT.step (by first | assumption | rfl) (PostT.step (by first | assumption | rfl) (PostT.step (by first | assumption | rfl) (PostT.done rfl (by assumption))))))
          | exact PostT.step (by first | assumption | rfl) (PostT.step (by first | assumption | rfl) (PostT.step (by first | assumption | rfl) (PostT.step (by first | assumption | rfl) (PostT.step (by first | assumption | rfl) (PostT.stop (by assumption) rfl (by assumption))))))
          | exact PostT.step (by first | assumption | rfl) (PostT.step (by first | assumption | rfl) (PostT.step (by first | assumption | rfl) (PostT.step (by first | assumption | rfl) (PostT.done rfl (by assumption)))))
          | exact PostT.step (by first | assumption | rfl) (PostT.step (by first | assumption | rfl) (PostT.step (by first | assumption | rfl) (PostT.step (by first | assumption | rfl) (PostT.stop (by assumption) rfl (by assumption)))))
          | exact PostT.step (by first | assumption | rfl) (PostT.step (by first | assumption | rfl) (PostT.step (by first | assumption | rfl) (PostT.done rfl (by assumption))))
          | exact PostT.step (by first | assumption | rfl) (PostT.step (by first | assumption | rfl) (PostT.step (by first | assumption | rfl) (PostT.stop (by assumption) rfl (by assumption))))
          | exact PostT.step (by first | assumption | rfl) (PostT.step (by first | assumption | rfl) (PostT.done rfl (by assumption)))
          | exact PostT.step (by first | assumption | rfl) (PostT.step (by first | assumption | rfl) (PostT.stop (by assumption) rfl (by assumption)))
          | exact PostT.step (by first | assumption | rfl) (PostT.done rfl (by assumption))
          | exact PostT.step (by first | assumption | rfl) (PostT.stop (by assumption) rfl (by assumption))
          | exact PostT.done rfl (by assumption)
          | exact PostT.stop (by assumption) rfl (by assumption))
    rw [if_neg e4]
    have f4 : (k == 4) = false := by simpa using e4
    by_cases e5 : k = 5
    · subst e5
      rw [if_pos rfl]
      have HW : Hid (∀ l bs d (W : World), TS w0 pt l bs c d W → Calls Tryz.prog 41 #[tp w0, .string ⟨#[108, 97, 121, 111, 117, 116]⟩] W fun e w' => e = .returned (.bool true) ∧ TS w0 pt (l ++ lay bs [wO, wN [108, 97, 121, 111, 117, 116]]) true c d w') := fun l bs d W h => opens_any ⟨#[108, 97, 121, 111, 117, 116]⟩ W (by decide) h
      go_enter Tryz.func44, Tryz.ntmps44
      go_wp2
      go_quiet (first
        | (go_at_call 69; exact HF.out _)
        | (go_at_call 70; exact Calls.quiet_of_same (HN.out _)))
      have hts := HD.out nq
      obtain ⟨y0, y1, y2, y4, y5, y6, y7, hsc⟩ := HY.out _ (TS.low hts)
      go_wp2_with (first
        | (go_at_call 41; (with_reducible refine (HW.out _ _ _ _ (by assumption)).mono ?_); rintro e1 w1 ⟨rfl, hts⟩; obtain ⟨y0, y1, y2, y4, y5, y6, y7, hsc⟩ := HY.out _ (TS.low hts))
        | (go_at_call 46; (with_reducible refine (HS.out _ _ _ _ (by assumption)).mono ?_); rintro e1 w1 ⟨rfl, hts⟩; obtain ⟨y0, y1, y2, y4, y5, y6, y7, hsc⟩ := HY.out _ (TS.low hts))
        | (go_at_call 72; (with_reducible refine (HRU.out _ _ _ _ (by assumption)).mono ?_); rintro e1 w1 (⟨u1, d1, hu1, rfl, hts⟩ | ⟨hu1, rfl, hb1⟩); obtain ⟨y0, y1, y2, y4, y5, y6, y7, hsc⟩ := HY.out _ (TS.low hts)))
      all_goals go_ret
      all_goals (first
          | exact PostT.step (by first | assumption | rfl) (PostT.step (by first | assumption | rfl) (PostT.step (by first | assumption | rfl) (PostT.step (by first | assumption | rfl) (PostT.step (by first | assumption | rfl) (PostT.done rfl (by assumption))))))
          | exact PostT.step (by first | assumption | rfl) (PostT.step (by first | assumption | rfl) (PostT.step (by first | assumption | rfl) (PostT.step (by first | assumption | rfl) (PostT.step (by first | assumption | rfl) (PostT.stop (by assumption) rfl (by assumption))))))
          | exact PostT.step (by first | assumption | rfl) (PostT.step (by first | assumption | rfl) (PostT.step (by first | assumption | rfl) (PostT.step (by first | assumption | rfl) (PostT.done rfl (by assumption)))))
          | exact PostT.step (by first | assumption | rfl) (PostT.step (by first | assumption | rfl) (PostT.step (by first | assumption | rfl) (PostT.step (by first | assumption | rfl) (PostT.stop (by assumption) rfl (by assumption)))))
          | exact PostT.step (by first | assumption | rfl) (PostT.step (by first | assumption | rfl) (PostT.step (by first | assumption | rfl) (PostT.done rfl (by assumption))))
          | exact PostT.step (by first | assumption | rfl) (PostT.step (by first | assumption | rfl) (PostT.step (by first | assumption | rfl) (PostT.stop (by assumption) rfl (by assumption))))
          | exact PostT.step (by first | assumption | rfl) (PostT.step (by first | assumption | rfl) (PostT.done rfl (by assumption)))
          | exact PostT.step (by first | assumption | rfl) (PostT.step (by first | assumption | rfl) (PostT.stop (by assumption) rfl (by assumption)))
          | exact PostT.step (by first | assumption | rfl) (PostT.done rfl (by assumption))
          | exact PostT.step (by first | assumption | rfl) (PostT.stop (by assumption) rfl (by assumption))
          | exact PostT.done rfl (by assumption)
          | exact PostT.stop (by assumption) rfl (by assumption))
    rw [if_neg e5]
    have f5 : (k == 5) = false := by simpa using e5
    by_cases e6 : k = 6
    · subst e6
      rw [if_pos rfl]
      have HW : Hid (∀ l bs d (W : World), TS w0 pt l bs c d W → Calls Tryz.prog 41 #[tp w0, .string ⟨#[101, 102, 102, 101, 99, 116]⟩] W fun e w' => e = .returned (.bool true) ∧ TS w0 pt (l ++ lay bs [wO, wN [101, 102, 102, 101, 99, 116]]) true c d w') := fun l bs d W h => opens_any ⟨#[101, 102, 102, 101, 99, 116]⟩ W (by decide) h
      go_enter Tryz.func44, Tryz.ntmps44
      go_wp2
      go_quiet (first
        | (go_at_call 69; exact HF.out _)
        | (go_at_call 70; exact Calls.quiet_of_same (HN.out _)))
      have hts := HD.out nq
      obtain ⟨y0, y1, y2, y4, y5, y6, y7, hsc⟩ := HY.out _ (TS.low hts)
      go_wp2_with (first
        | (go_at_call 41; (with_reducible refine (HW.out _ _ _ _ (by assumption)).mono ?_); rintro e1 w1 ⟨rfl, hts⟩; obtain ⟨y0, y1, y2, y4, y5, y6, y7, hsc⟩ := HY.out _ (TS.low hts))
        | (go_at_call 46; (with_reducible refine (HS.out _ _ _ _ (by assumption)).mono ?_); rintro e1 w1 ⟨rfl, hts⟩; obtain ⟨y0, y1, y2, y4, y5, y6, y7, hsc⟩ := HY.out _ (TS.low hts))
        | (go_at_call 72; (with_reducible refine (HRU.out _ _ _ _ (by assumption)).mono ?_); rintro e1 w1 (⟨u1, d1, hu1, rfl, hts⟩ | ⟨hu1, rfl, hb1⟩); obtain ⟨y0, y1, y2, y4, y5, y6, y7, hsc⟩ := HY.out _ (TS.low hts)))
      all_goals go_ret
      all_goals (first
          | exact PostT.step (by first | assumption | rfl) (PostT.step (by first | assumption | rfl) (PostT.step (by first | assumption | rfl) (PostT.step (by first | assumption | rfl) (PostT.step (by first | assumption | rfl) (PostT.done rfl (by assumption))))))
          | exact PostT.step (by first | assumption | rfl) (PostT.step (by first | assumption | rfl) (PostT.step (by first | assumption | rfl) (PostT.step (by first | assumption | rfl) (PostT.step (by first | assumption | rfl) (PostT.stop (by assumption) rfl (by assumption))))))
          | exact PostT.step (by first | assumption | rfl) (PostT.step (by first | assumption | rfl) (PostT.step (by first | assumption | rfl) (PostT.step (by first | assumption | rfl) (PostT.done rfl (by assumption)))))
          | exact PostT.step (by first | assumption | rfl) (PostT.step (by first | assumption | rfl) (PostT.step (by first | assumption | rfl) (PostT.step (by first | assumption | rfl) (PostT.stop (by assumption) rfl (by assumption)))))
          | exact PostT.step (by first | assumption | rfl) (PostT.step (by first | assumption | rfl) (PostT.step (by first | assumption | rfl) (PostT.done rfl (by assumption))))
          | exact PostT.step (by first | assumption | rfl) (PostT.step (by first | assumption | rfl) (PostT.step (by first | assumption | rfl) (PostT.stop (by assumption) rfl (by assumption))))
          | exact PostT.step (by first | assumption | rfl) (PostT.step (by first | assumption | rfl) (PostT.done rfl (by assumption)))
          | exact PostT.step (by first | assumption | rfl) (PostT.step (by first | assumption | rfl) (PostT.stop (by assumption) rfl (by assumption)))
          | exact PostT.step (by first | assumption | rfl) (PostT.done rfl (by assumption))
          | exact PostT.step (by first | assumption | rfl) (PostT.stop (by assumption) rfl (by assumption))
          | exact PostT.done rfl (by assumption)
          | exact PostT.stop (by assumption) rfl (by assumption))
    rw [if_neg e6]
    have f6 : (k == 6) = false := by simpa using e6
    by_cases e7 : k = 7
    · subst e7
      rw [if_pos rfl]
      have HW : Hid (∀ l bs d (W : World), TS w0 pt l bs c d W → Calls Tryz.prog 41 #[tp w0, .string ⟨#[119, 104, 101, 110]⟩] W fun e w' => e = .returned (.bool true) ∧ TS w0 pt (l ++ lay bs [wO, wN [119, 104, 101, 110]]) true c d w') := fun l bs d W h => opens_any ⟨#[119, 104, 101, 110]⟩ W (by decide) h
      go_enter Tryz.func44, Tryz.ntmps44
      go_wp2
      go_quiet (first
        | (go_at_call 69; exact HF.out _)
        | (go_at_call 70; exact Calls.quiet_of_same (HN.out _)))
      have hts := HD.out nq
      obtain ⟨y0, y1, y2, y4, y5, y6, y7, hsc⟩ := HY.out _ (TS.low hts)
      go_wp2_with (first
        | (go_at_call 41; (with_reducible refine (HW.out _ _ _ _ (by assumption)).mono ?_); rintro e1 w1 ⟨rfl, hts⟩; obtain ⟨y0, y1, y2, y4, y5, y6, y7, hsc⟩ := HY.out _ (TS.low hts))
        | (go_at_call 46; (with_reducible refine (HS.out _ _ _ _ (by assumption)).mono ?_); rintro e1 w1 ⟨rfl, hts⟩; obtain ⟨y0, y1, y2, y4, y5, y6, y7, hsc⟩ := HY.out _ (TS.low hts))
        | (go_at_call 45; (with_reducible refine (HEX.out _ _ _ _ (by assumption)).mono ?_); rintro e1 w1 (⟨u1, d1, hu1, rfl, hts⟩ | ⟨hu1, rfl, hb1⟩); obtain ⟨y0, y1, y2, y4, y5, y6, y7, hsc⟩ := HY.out _ (TS.low hts))
        | (go_at_call 43; (with_reducible refine (HBO.out _ _ _ _ (by assumption)).mono ?_); rintro e1 w1 (⟨u1, d1, hu1, rfl, hts⟩ | ⟨hu1, rfl, hb1⟩); obtain ⟨y0, y1, y2, y4, y5, y6, y7, hsc⟩ := HY.out _ (TS.low hts)))
      all_goals go_ret
      all_goals (first
          | exact PostT.step (by first | assumption | rfl) (PostT.step (by first | assumption | rfl) (PostT.step (by first | assumption | rfl) (PostT.step (by first | assumption | rfl) (PostT.step (by first | assumption | rfl) (PostT.done rfl (by assumption))))))
          | exact PostT.step (by first | assumption | rfl) (PostT.step (by first | assumption | rfl) (PostT.step (by first | assumption | rfl) (PostT.step (by first | assumption | rfl) (PostT.step (by first | assumption | rfl) (PostT.stop (by assumption) rfl (by assumption))))))
          | exact PostT.step (by first | assumption | rfl) (PostT.step (by first | assumption | rfl) (PostT.step (by first | assumption | rfl) (PostT.step (by first | assumption | rfl) (PostT.done rfl (by assumption)))))
          | exact PostT.step (by first | assumption | rfl) (PostT.step (by first | assumption | rfl) (PostT.step (by first | assumption | rfl) (PostT.step (by first | assumption | rfl) (PostT.stop (by assumption) rfl (by assumption)))))
          | exact PostT.step (by first | assumption | rfl) (PostT.step (by first | assumption | rfl) (PostT.step (by first | assumption | rfl) (PostT.done rfl (by assumption))))
          | exact PostT.step (by first | assumption | rfl) (PostT.step (by first | assumption | rfl) (PostT.step (by first | assumption | rfl) (PostT.stop (by assumption) rfl (by assumption))))
          | exact PostT.step (by first | assumption | rfl) (PostT.step (by first | assumption | rfl) (PostT.done rfl (by assumption)))
          | exact PostT.step (by first | assumption | rfl) (PostT.step (by first | assumption | rfl) (PostT.stop (by assumption) rfl (by assumption)))
          | exact PostT.step (by first | assumption | rfl) (PostT.done rfl (by assumption))
          | exact PostT.step (by first | assumption | rfl) (PostT.stop (by assumption) rfl (by assumption))
          | exact PostT.done rfl (by assumption)
          | exact PostT.stop (by assumption) rfl (by assumption))
    rw [if_neg e7]
    have f7 : (k == 7) = false := by simpa using e7
    go_enter Tryz.func44, Tryz.ntmps44
    go_wp2
    go_quiet (first
      | (go_at_call 69; exact HF.out _)
      | (go_at_call 70; exact Calls.quiet_of_same (HN.out _)))
    have hts := HD.out nq
    obtain ⟨y0, y1, y2, y4, y5, y6, y7, hsc⟩ := HY.out _ (TS.low hts)
    go_wp2
    go_ret
    exact .inr ⟨rfl, rfl, hts.low⟩
end
theorem xs_tree {w0 : World} {pt : Obj} {c : Str} (ht : LTabs w0) (hcl : c.length ≤ 70000) : ∀ t : T, Rg t → Wf 2 t → EL2 w0 pt c t := by
  intro t
  induction t with
  | sc v => exact fun _ h => h.elim
  | ls n k row ih =>
    intro hr h
    obtain ⟨rfl, hwa⟩ := (wf2 _ _ _).1 h
    intro n' row' e i hi
    injection e with e1 e2 e3
    subst e1 e3
    exact fun b p l bs d W hp h => stmt_any ht hcl (hwa i hi) (fun j hj => hr i hi j hj) (ih i 16 (hr i hi 16 (by decide)) (hwa i hi).2.2.2.2.2.2.2) hp l bs d W h
end Go.Proofs.YtedmmgfnplbkjaaGreatDoor.PR
namespace Go.Proofs.YtedmmgfnplbkjaaGreatDoor.PR
set_option linter.unusedVariables false
set_option linter.unusedSimpArgs false
open Go.Proofs.YtedmmgfnplbkjaaGreatDoor Go.RowKit G
def CP (w0 : World) (row : Nat → T) (b p : Nat) : Prop := ∀ j, j < 13 → ∃ y, w0.cell? ⟨b, p + j, none⟩ = some y ∧ (row j).Rep w0 yes y
theorem CP.cells {w0 : World} {row : Nat → T} {b p : Nat} (hw : WC row) (h : CP w0 row b p) : ∃ (s m : Str) (a : Option Addr) (n c : Nat), strT (row 0) = s ∧ strT (row 1) = m ∧ EP w0 row 3 b (p + 3) ∧ (row 2).Rep w0 yes (.slice a n c) ∧ ∀ W, Below w0.heap.size w0 W → W.cell? ⟨b, p, none⟩ = some (.string ⟨s.toArray⟩) ∧ W.cell? ⟨b, p + 1, none⟩ = some (.string ⟨m.toArray⟩) ∧ W.cell? ⟨b, p + 2, none⟩ = some (.slice a n c) := by
  obtain ⟨⟨s, hs⟩, ⟨m, hm⟩, w2, hwe⟩ := hw
  obtain ⟨y0, f0, g0⟩ := h 0 (by decide)
  obtain ⟨y1, f1, g1⟩ := h 1 (by decide)
  obtain ⟨y2, f2, g2⟩ := h 2 (by decide)
  have hep : EP w0 row 3 b (p + 3) := fun j hj => by
    obtain ⟨y, f, g⟩ := h (3 + j) (by omega)
    exact ⟨y, by rw [Nat.add_assoc]; exact f, g⟩
  have hlt : b < w0.heap.size := World.block_lt_of_cell? _ _ f0
  rw [hs] at g0
  rw [hm] at g1
  have e0 : y0 = .string s := g0
  have e1 : y1 = .string m := g1
  subst e0 e1
  obtain ⟨a, n, c, rfl⟩ := wf_rep w2 g2
  refine ⟨s.data.toList, m.data.toList, a, n, c, by rw [hs]; rfl, by rw [hm]; rfl, hep, g2, fun W hb => ?_⟩
  have hc : ∀ o y, w0.cell? ⟨b, o, none⟩ = some y → W.cell? ⟨b, o, none⟩ = some y := fun o y h => by rw [hb.cell (p := ⟨b, o, none⟩) hlt]; exact h
  have es : (⟨s.data.toList.toArray⟩ : ByteArray) = s := by simp
  have em : (⟨m.data.toList.toArray⟩ : ByteArray) = m := by simp
  exact ⟨by rw [es]; exact hc _ _ f0, by rw [em]; exact hc _ _ f1, hc _ _ f2⟩
theorem wr_zero : wr 0 = 0 := by decide
section
variable {w0 : World} {pt : Obj} (ht : LTabs w0) {row : Nat → T} (hw : WC row) (hr : ∀ j, j < 13 → Rg (row j)) {b p : Nat} (hp : CP w0 row b p)
include ht hw hr hp
omit hr in
set_option maxRecDepth 100000 in
set_option maxHeartbeats 4000000 in
theorem opening_any (l : Str) (bs : Bool) (c : Str) (d : Nat) (W : World) (h : TS w0 pt l bs c d W) :
    Calls Tryz.prog 27 #[tp w0, .pointer (some ⟨b, p, none⟩)] W (PostT w0 pt l bs (strT (row 0)) (openingT row 0)) := by
  obtain ⟨s, m, a, n, cap, hs, hm, hep, p2, hy⟩ := hp.cells hw
  obtain ⟨y0, y1, y2⟩ := hy W h.low
  have HY := Lib.hid hy
  have hcs := h.cells
  obtain ⟨⟨-, -, c4, c5⟩, -, -, f4, f5⟩ := hcs
  have h1 := h.setC ⟨s.toArray⟩
  have e1 : (⟨s.toArray⟩ : ByteArray).data.toList = s := by simp
  rw [e1] at h1
  have hcs := h1.cells
  obtain ⟨⟨-, -, -, d5⟩, -, -, -, g5⟩ := hcs
  have h2 := h1.setD 0
  rw [wr_zero] at h2
  have hts := h2
  obtain ⟨W2, hW2⟩ : ∃ W2, (W.setCell ⟨w0.heap.size, 4, none⟩ (.string ⟨s.toArray⟩)).setCell ⟨w0.heap.size, 5, none⟩ (.int .i64 0) = W2 := ⟨_, rfl⟩
  rw [hW2] at hts h2
  obtain ⟨z0, z1, z2⟩ := hy W2 hts.low
  have HW : Hid (∀ l bs d (W : World), TS w0 pt l bs s d W → Calls Tryz.prog 41 #[tp w0, .string ⟨#[99, 111, 109, 112]⟩] W fun e w' => e = .returned (.bool true) ∧ TS w0 pt (l ++ lay bs [wO, wN [99, 111, 109, 112]]) true s d w') := fun l bs d W h => opens_any ⟨#[99, 111, 109, 112]⟩ W (by decide) h
  have HM := Lib.hid (fun l bs d x (W : World) (h : TS w0 pt l bs s d W) => name_any x W ht h)
  unfold openingT
  rw [hs, hm]
  clear h h1 h2 hy hep p2 hs hm hp hw ht
  go_enter Tryz.func27, Tryz.ntmps27
  go_wp2_with (first
    | (go_at_call 41; (with_reducible refine (HW.out _ _ _ _ (by assumption)).mono ?_); rintro e1 w1 ⟨rfl, hts⟩; obtain ⟨y0, y1, y2⟩ := HY.out _ (TS.low hts))
    | (go_at_call 42; (with_reducible refine (HM.out _ _ _ _ _ (by assumption)).mono ?_); rintro e1 w1 (⟨u1, d1, hu1, rfl, hts⟩ | ⟨hu1, rfl, hb1⟩); obtain ⟨y0, y1, y2⟩ := HY.out _ (TS.low hts)))
  all_goals go_ret
  all_goals (first
    | exact PostT.step (by first | assumption | rfl) (PostT.step (by first | assumption | rfl) (PostT.step (by first | assumption | rfl) (PostT.done rfl (by assumption))))
    | exact PostT.step (by first | assumption | rfl) (PostT.step (by first | assumption | rfl) (PostT.step (by first | assumption | rfl) (PostT.stop (by assumption) rfl (by assumption))))
    | exact PostT.step (by first | assumption | rfl) (PostT.step (by first | assumption | rfl) (PostT.done rfl (by assumption)))
    | exact PostT.step (by first | assumption | rfl) (PostT.step (by first | assumption | rfl) (PostT.stop (by assumption) rfl (by assumption)))
    | exact PostT.step (by first | assumption | rfl) (PostT.done rfl (by assumption))
    | exact PostT.step (by first | assumption | rfl) (PostT.stop (by assumption) rfl (by assumption))
    | exact PostT.done rfl (by assumption)
    | exact PostT.stop (by assumption) rfl (by assumption))
set_option maxRecDepth 100000 in
set_option maxHeartbeats 4000000 in
theorem body_any (hcl : (strT (row 0)).length ≤ 70000) (l : Str) (bs : Bool) (d : Nat) (W : World) (h : TS w0 pt l bs (strT (row 0)) d W) :
    Calls Tryz.prog 28 #[tp w0, .pointer (some ⟨b, p, none⟩)] W (PostT w0 pt l bs (strT (row 0)) (bodyT row d)) := by
  obtain ⟨s, m, a, n, cap, hs, hm, hep, p2, hy⟩ := hp.cells hw
  obtain ⟨y0, y1, y2⟩ := hy W h.low
  have HB : Hid (Calls Tryz.prog 43 #[.slice a n cap, .func (.func 44) #[tp w0] #[]] W (PostT w0 pt l bs (strT (row 0)) (bodyT row d))) :=
    eachS_any (row 2) hw.2.2.1 (xs_tree ht hcl _ (hr 2 (by decide)) hw.2.2.1) _ l bs d W p2 h
  obtain ⟨r, hrr⟩ : ∃ r, bodyT row d = r := ⟨_, rfl⟩
  rw [hrr] at HB ⊢
  clear h hy hep p2 hs hm hp hw hr ht hrr
  go_enter Tryz.func28, Tryz.ntmps28
  go_wp2_with (go_at_call 43; (with_reducible refine HB.out.mono ?_); rintro e1 w1 (⟨u1, d1, hu1, rfl, hts⟩ | ⟨hu1, rfl, hb1⟩))
  all_goals go_ret
  all_goals (first
    | exact .inl ⟨_, _, (by first | assumption | rfl), rfl, (by assumption)⟩
    | exact .inr ⟨(by first | assumption | rfl), rfl, (by assumption)⟩
    | (cases hu1; done))
def PostC (w0 : World) (pt : Obj) (l : Str) (b : Bool) (c : Str) (r : Tl) (e : Ending) (W : World) : Prop :=
  (∃ u d, r = some (u, d) ∧ e = .returned (.bool true) ∧ TS w0 pt (l ++ lay b u ++ [10]) false c d W) ∨ (r = none ∧ e = .returned (.bool false) ∧ Below w0.heap.size w0 W)
set_option maxRecDepth 100000 in
set_option maxHeartbeats 4000000 in
theorem showing_any (hcl : (strT (row 0)).length ≤ 70000) (l : Str) (bs : Bool) (d : Nat) (W : World) (h : TS w0 pt l bs (strT (row 0)) d W) :
    Calls Tryz.prog 29 #[tp w0, .pointer (some ⟨b, p, none⟩)] W (PostC w0 pt l bs (strT (row 0)) (showT row d)) := by
  obtain ⟨s, m, a, n, cap, hs, hm, hep, p2, hy⟩ := hp.cells hw
  obtain ⟨c, hc⟩ : ∃ c, strT (row 0) = c := ⟨_, rfl⟩
  have HEX : Hid (∀ l bs d (W : World), TS w0 pt l bs c d W → Calls Tryz.prog 45 #[tp w0, .pointer (some ⟨b, p + 3, none⟩)] W (PostT w0 pt l bs c (exprT c row 3 d))) := fun l bs d W h => by
    subst hc
    exact xe_any ht hcl hw.2.2.2 (fun j hj => hr (3 + j) (by omega)) b (p + 3) l bs d W hep h
  have HS := Lib.hid (fun l bs d (W : World) (h : TS w0 pt l bs c d W) => shut_any W h)
  have HEND := Lib.hid (fun l bs d (W : World) (h : TS w0 pt l bs c d W) => end_any W h)
  have HW : Hid (∀ l bs d (W : World), TS w0 pt l bs c d W → Calls Tryz.prog 41 #[tp w0, .string ⟨#[115, 104, 111, 119]⟩] W fun e w' => e = .returned (.bool true) ∧ TS w0 pt (l ++ lay bs [wO, wN [115, 104, 111, 119]]) true c d w') := fun l bs d W h => opens_any ⟨#[115, 104, 111, 119]⟩ W (by decide) h
  have HSH : Hid (showT row d = seqL [opensT [115, 104, 111, 119], exprT c row 3, shutT, shutT] d) := by rw [Hid, ← hc]; rfl
  have HGO : Hid (∀ (e : Ending) w', PostT w0 pt l bs c (seqL [opensT [115, 104, 111, 119], exprT c row 3, shutT, shutT] d) e w' → (∃ u d2, showT row d = some (u, d2) ∧ e = .returned (.bool true) ∧ TS w0 pt (l ++ lay bs u) (aft bs u) c d2 w') ∨ (showT row d = none ∧ e = .returned (.bool false) ∧ Below w0.heap.size w0 w')) := by
    intro e w' h
    rw [HSH.out]
    exact h
  have HGOOD : Hid (∀ u d2 w', showT row d = some (u, d2) → TS w0 pt ((l ++ lay bs u) ++ [10]) false c d2 w' → PostC w0 pt l bs c (showT row d) (.returned (.bool true)) w') := fun u d2 w' h1 h2 => .inl ⟨u, d2, h1, rfl, h2⟩
  have HBAD : Hid (∀ (e : Ending) w', PostT w0 pt l bs c (seqL [opensT [115, 104, 111, 119], exprT c row 3, shutT, shutT] d) (.returned (.bool false)) w' → PostC w0 pt l bs c (showT row d) (.returned (.bool false)) w') := fun e w' h => by
    rcases HGO.out _ _ h with ⟨u, d2, -, h2, -⟩ | ⟨h1, h2, h3⟩
    · cases h2
    · exact .inr ⟨h1, rfl, h3⟩
  have HTRUE : Hid (∀ w', PostT w0 pt l bs c (seqL [opensT [115, 104, 111, 119], exprT c row 3, shutT, shutT] d) (.returned (.bool true)) w' → ∃ u d2, showT row d = some (u, d2) ∧ TS w0 pt (l ++ lay bs u) (aft bs u) c d2 w') := fun w' h => by
    rcases HGO.out _ _ h with ⟨u, d2, h1, -, h2⟩ | ⟨h1, h2, h3⟩
    · exact ⟨u, d2, h1, h2⟩
    · cases h2
  rw [hc] at h ⊢
  have hts := h
  obtain ⟨r, hrr⟩ : ∃ r, PostC w0 pt l bs c (showT row d) = r := ⟨_, rfl⟩
  rw [hrr] at HGOOD HBAD ⊢
  clear h hy hep p2 hs hm hp hw hr ht hc HSH HGO hrr
  go_enter Tryz.func29, Tryz.ntmps29
  go_wp2_with (first
    | (go_at_call 41; (with_reducible refine (HW.out _ _ _ _ (by assumption)).mono ?_); rintro e1 w1 ⟨rfl, hts⟩)
    | (go_at_call 46; (with_reducible refine (HS.out _ _ _ _ (by assumption)).mono ?_); rintro e1 w1 ⟨rfl, hts⟩)
    | (go_at_call 45; (with_reducible refine (HEX.out _ _ _ _ (by assumption)).mono ?_); rintro e1 w1 (⟨u1, d1, hu1, rfl, hts⟩ | ⟨hu1, rfl, hb1⟩)))
  · obtain ⟨u, d2, h1, h2⟩ := HTRUE.out _ (PostT.step rfl (PostT.step (by assumption) (PostT.step rfl (PostT.step rfl (PostT.done rfl (by assumption))))))
    refine (HEND.out _ _ _ _ h2).mono ?_
    rintro e2 w2 ⟨rfl, h3⟩
    have HG := Lib.hid (HGOOD.out _ _ _ h1 h3)
    clear h1 h2 h3
    go_wp2
    exact HG.out
  · exact HBAD.out (.returned (.bool false)) _ (PostT.step rfl (PostT.stop (by assumption) rfl (by assumption)))
end
def PS (w0 : World) (pt : Obj) (row : Nat → T) (L : Str) (k : Nat) (W : World) : Prop := match k with
  | 0 => ∃ c d, TS w0 pt L false c d W
  | 1 => ∃ u d, openingT row 0 = some (u, d) ∧ TS w0 pt (L ++ lay false u) (aft false u) (strT (row 0)) d W
  | 2 => ∃ u d v d2, openingT row 0 = some (u, d) ∧ bodyT row d = some (v, d2) ∧ TS w0 pt (L ++ lay false u ++ lay (aft false u) v) (aft (aft false u) v) (strT (row 0)) d2 W
  | _ => ∃ u d c, compT row = some (u, d) ∧ TS w0 pt (L ++ (lay false u ++ [10])) false c d W
theorem PS.low {w0 : World} {pt : Obj} {row : Nat → T} {L : Str} {k : Nat} {W : World} (h : PS w0 pt row L k W) : ∃ l b c d, TS w0 pt l b c d W := by
  match k, h with
  | 0, ⟨c, d, h⟩ => exact ⟨_, _, _, _, h⟩
  | 1, ⟨u, d, _, h⟩ => exact ⟨_, _, _, _, h⟩
  | 2, ⟨u, d, v, d2, _, _, h⟩ => exact ⟨_, _, _, _, h⟩
  | k + 3, ⟨u, d, c, _, h⟩ => exact ⟨_, _, _, _, h⟩
theorem opening_name {row : Nat → T} {u : List LX.LW} {d : Nat} (h : openingT row 0 = some (u, d)) : (strT (row 0)).length ≤ 70000 := by
  by_cases hn : nameOk (strT (row 0)) = true
  · unfold nameOk at hn
    simp at hn
    omega
  · have e : openingT row 0 = none := by
      unfold openingT
      have : nameT (strT (row 0)) 0 = none := name_no (by simpa using hn) 0
      show Tl.seq (opensT _ 0) _ = none
      exact seq_bad rfl (by show Tl.seq _ _ = none; rw [this]; rfl)
    rw [e] at h
    cases h
def PostS (w0 : World) (pt : Obj) (row : Nat → T) (L : Str) (k : Nat) (e : Ending) (W : World) : Prop :=
  (e = .returned (.bool true) ∧ PS w0 pt row L (k + 1) W) ∨ (e = .returned (.bool false) ∧ compT row = none ∧ Below w0.heap.size w0 W)
section
variable {w0 : World} {pt : Obj} (ht : LTabs w0) {row : Nat → T} (hw : WC row) (hr : ∀ j, j < 13 → Rg (row j)) {b p : Nat} (hp : CP w0 row b p) {L : Str} {W : World}
include ht hw hr hp
omit hr in
theorem part0 (h : PS w0 pt row L 0 W) : Calls Tryz.prog 27 #[tp w0, .pointer (some ⟨b, p, none⟩)] W (PostS w0 pt row L 0) := by
  obtain ⟨c, d, h⟩ := h
  refine (opening_any ht hw hp L false c d W h).mono fun e w' hh => ?_
  rcases hh with ⟨u, d', hu, he, h2⟩ | ⟨hu, he, hb⟩
  · exact .inl ⟨he, u, d', hu, h2⟩
  · exact .inr ⟨he, by show Tl.seq (openingT row 0) _ = none; rw [hu]; rfl, hb⟩
theorem part1 (h : PS w0 pt row L 1 W) : Calls Tryz.prog 28 #[tp w0, .pointer (some ⟨b, p, none⟩)] W (PostS w0 pt row L 1) := by
  obtain ⟨u, d, h1, h⟩ := h
  refine (body_any ht hw hr hp (opening_name h1) _ _ d W h).mono fun e w' hh => ?_
  rcases hh with ⟨v, d', hu, he, h2⟩ | ⟨hu, he, hb⟩
  · exact .inl ⟨he, u, d, v, d', h1, hu, h2⟩
  · exact .inr ⟨he, seq_bad h1 (by show Tl.seq (bodyT row d) _ = none; rw [hu]; rfl), hb⟩
theorem part2 (h : PS w0 pt row L 2 W) : Calls Tryz.prog 29 #[tp w0, .pointer (some ⟨b, p, none⟩)] W (PostS w0 pt row L 2) := by
  obtain ⟨u, d, v, d2, h1, h2, h⟩ := h
  refine (showing_any ht hw hr hp (opening_name h1) _ _ d2 W h).mono fun e w' hh => ?_
  rcases hh with ⟨x, d', hu, he, h3⟩ | ⟨hu, he, hb⟩
  · refine .inl ⟨he, u ++ (v ++ (x ++ [])), d', strT (row 0), seq_some h1 (seq_some h2 (seq_some hu rfl)), ?_⟩
    rw [List.append_nil, lay_append, lay_append]
    simpa [List.append_assoc] using h3
  · exact .inr ⟨he, seq_bad h1 (seq_bad h2 (by show Tl.seq (showT row d2) _ = none; rw [hu]; rfl)), hb⟩
end
theorem progW_bad {f : Nat → Nat → T} {m : Nat} (h : progW f m = none) : ∀ n, m ≤ n → progW f n = none := by
  intro n hn
  induction n with
  | zero => obtain rfl : m = 0 := by omega
            exact h
  | succ n ih =>
    rcases Nat.lt_or_ge n m with h1 | h1
    · obtain rfl : m = n + 1 := by omega
      exact h
    · simp only [progW, ih h1]
theorem progW_some {f : Nat → Nat → T} {m d : Nat} {us : List (List LX.LW)} {u : List LX.LW} (h : progW f m = some us) (k : compT (f m) = some (u, d)) : progW f (m + 1) = some (us ++ [u]) := by simp only [progW, h, k]
theorem progW_none {f : Nat → Nat → T} {m : Nat} (k : compT (f m) = none) : progW f (m + 1) = none := by
  simp only [progW, k]
  cases progW f m <;> rfl
def PostText (w0 : World) (r : Option (List (List LX.LW))) (e : Ending) (W : World) : Prop := Below w0.heap.size w0 W ∧ match r with
  | none => e = .returned (.tuple #[.string ⟨#[]⟩, .int .i64 1])
  | some us => if 65536 < (lines us).length then e = .returned (.tuple #[.string ⟨#[]⟩, .int .i64 3]) else e = .returned (.tuple #[.string ⟨(lines us).toArray⟩, .int .i64 0])
def parts (w0 : World) : Obj := .cells #[.func (.func 27) #[tp w0] #[], .func (.func 28) #[tp w0] #[], .func (.func 29) #[tp w0] #[]] 72 (0, 0)
theorem ts_new (w0 : World) : TS w0 (parts w0) [] false [] 0 ((w0.alloc (.cells #[.pointer none, .slice none 0 0, .bool false, .bool false, .string ⟨#[]⟩, .int .i64 0] 71)).alloc (.cells #[.func (.func 27) #[tp w0] #[], .func (.func 28) #[tp w0] #[], .func (.func 29) #[tp w0] #[]] 72)) := by
  refine ⟨⟨[], fun _ => rfl, by decide, .inl ⟨.slice none 0 0, ?_, World.ownsRow_nil _ _ _ _⟩, by simp⟩, ?_, ?_⟩
  · rw [wr_zero]
    exact new2a _ _ _ _ _
  · exact new2b _ _ _ _
  · exact ((Below.refl _ _).alloc (Nat.le_refl _) _).alloc (by simp) _
set_option maxRecDepth 100000 in
set_option maxHeartbeats 8000000 in
theorem text_any (w0 : World) (ht : LTabs w0) (n : Nat) (row : Nat → Nat → T) (hw : ∀ i, i < n → WC (row i)) (hr : ∀ i, i < n → ∀ j, j < 13 → Rg (row i j)) (v : Value) (hv : (T.ls n 13 row).Rep w0 yes v) :
    Calls Tryz.prog 11 #[v] w0 (PostText w0 (progW row n)) := by
  obtain ⟨a, cap, rfl, h1, h2, hel⟩ := hv
  have HN := Lib.hid (ts_new w0)
  have HP : Hid (∀ i, i < n → ∃ b p, a = some ⟨b, p, none⟩ ∧ CP w0 (row i) b (p + i * 13)) := fun i hi => by
    obtain ⟨b, o, e, -, hb, hc⟩ := hel i hi
    exact ⟨b, o, e, hc⟩
  obtain ⟨r, hrr⟩ : ∃ r, progW row n = r := ⟨_, rfl⟩
  have HR := Lib.hid hrr
  rw [hrr]
  have HC : Hid (∀ i, i < n → ∀ b p, CP w0 (row i) b p → ∀ L W, (PS w0 (parts w0) (row i) L 0 W → Calls Tryz.prog 27 #[tp w0, .pointer (some ⟨b, p, none⟩)] W (PostS w0 (parts w0) (row i) L 0)) ∧ (PS w0 (parts w0) (row i) L 1 W → Calls Tryz.prog 28 #[tp w0, .pointer (some ⟨b, p, none⟩)] W (PostS w0 (parts w0) (row i) L 1)) ∧ (PS w0 (parts w0) (row i) L 2 W → Calls Tryz.prog 29 #[tp w0, .pointer (some ⟨b, p, none⟩)] W (PostS w0 (parts w0) (row i) L 2))) := fun i hi b p hp L W =>
    ⟨part0 ht (hw i hi) hp, part1 ht (hw i hi) (hr i hi) hp, part2 ht (hw i hi) (hr i hi) hp⟩
  have hc1 : n ≤ cap := h1
  have hc2 : cap ≤ 9223372036854775807 := by unfold maxLen at h2; exact h2
  obtain ⟨WI, hWI⟩ : ∃ WI, ((w0.alloc (.cells #[.pointer none, .slice none 0 0, .bool false, .bool false, .string ⟨#[]⟩, .int .i64 0] 71)).alloc (.cells #[.func (.func 27) #[tp w0] #[], .func (.func 28) #[tp w0] #[], .func (.func 29) #[tp w0] #[]] 72)) = WI := ⟨_, rfl⟩
  have HB0 : Hid (WI.heap[w0.heap.size]? = some (.cells (Value.pointer none :: Value.slice none 0 0 :: [.bool false, .bool false, .string ⟨#[]⟩, .int .i64 0]).toArray 71 (0, 0))) := by
    rw [Hid, ← hWI]
    exact new2a _ _ _ _ _
  rw [hWI] at HN
  clear hel hw hr hrr ht h1 h2
  go_enter Tryz.func11, Tryz.ntmps11
  go_wp2
  go_step3
  go_wp2
  go_step3
  go_wp2
  go_loopw [6, 21] (fun t6 i wr => ∃ (j : Nat) (us : List (List LX.LW)), t6 = .bool true ∧ i = .int .i64 j ∧ j ≤ n ∧ progW row j = some us ∧ PS w0 (parts w0) (row j) (lines us) 0 wr ∧ (j = 0 → wr = WI)) (fun _ i _ => n - (intOf i).toNat)
  case atStart => exact ⟨0, [], rfl, rfl, Nat.zero_le _, rfl, ⟨[], 0, HN.out⟩, fun _ => rfl⟩
  case round =>
    obtain ⟨j, us, rfl, rfl, hj, hu, hps, hzero⟩ := hrel
    have HZ := Lib.hid hzero
    clear hzero
    have HU := Lib.hid hu
    have HPS := Lib.hid hps
    clear hu hps
    by_cases hlt : j < n
    · have g1 : (j : Int) < (n : Int) := by omega
      have g0 : (0 : Int) ≤ (j : Int) := by omega
      have g2 : j < cap := by omega
      obtain ⟨b, p, rfl, hcp⟩ := HP.out j hlt
      have HCJ := Lib.hid (HC.out j hlt b (p + j * 13) hcp (lines us))
      clear hcp
      go_wp2
      go_loopw [6, 26] (fun t6 i wr => ∃ k : Nat, t6 = .bool true ∧ i = .int .i64 k ∧ k ≤ 3 ∧ PS w0 (parts w0) (row j) (lines us) k wr) (fun _ i _ => 3 - (intOf i).toNat)
      case atStart => exact ⟨0, rfl, rfl, by omega, HPS.out⟩
      case round =>
        obtain ⟨k, rfl, rfl, hk, hps⟩ := hrel
        rcases (show k = 0 ∨ k = 1 ∨ k = 2 ∨ k = 3 by omega) with rfl | rfl | rfl | rfl
        · obtain ⟨l', b', c', d', hts'⟩ := PS.low hps
          have hcell : wr.cell? ⟨w0.heap.size + 1, 0, none⟩ = some (.func (.func 27) #[.pointer (some ⟨w0.heap.size, 0, none⟩)] #[]) := by
            rw [Lib.cell_of_heap (show wr.heap[w0.heap.size + 1]? = some (.cells #[.func (.func 27) #[tp w0] #[], .func (.func 28) #[tp w0] #[], .func (.func 29) #[tp w0] #[]] 72 (0, 0)) from hts'.2.1)]; rfl
          have HCK := Lib.hid ((HCJ.out wr).1 hps)
          clear hts' hps
          go_wp2_with (go_at_call 27; (with_reducible refine HCK.out.mono ?_); rintro e1 w1 (⟨rfl, hps1⟩ | ⟨rfl, hcn, hb⟩))
          · go_roundw
            case rel => exact ⟨0 + 1, rfl, by go_num, by omega, hps1⟩
            case measure => simp [intOf]
          · have HN2 := Lib.hid (HR.out.symm.trans (progW_bad (progW_none hcn) n (by omega)))
            rw [Exit.noGoto_ret]
            go_ret2
            exact ⟨hb, by rw [HN2.out]; rfl⟩
        · obtain ⟨l', b', c', d', hts'⟩ := PS.low hps
          have hcell : wr.cell? ⟨w0.heap.size + 1, 1, none⟩ = some (.func (.func 28) #[.pointer (some ⟨w0.heap.size, 0, none⟩)] #[]) := by
            rw [Lib.cell_of_heap (show wr.heap[w0.heap.size + 1]? = some (.cells #[.func (.func 27) #[tp w0] #[], .func (.func 28) #[tp w0] #[], .func (.func 29) #[tp w0] #[]] 72 (0, 0)) from hts'.2.1)]; rfl
          have HCK := Lib.hid ((HCJ.out wr).2.1 hps)
          clear hts' hps
          go_wp2_with (go_at_call 28; (with_reducible refine HCK.out.mono ?_); rintro e1 w1 (⟨rfl, hps1⟩ | ⟨rfl, hcn, hb⟩))
          · go_roundw
            case rel => exact ⟨1 + 1, rfl, by go_num, by omega, hps1⟩
            case measure => simp [intOf]
          · have HN2 := Lib.hid (HR.out.symm.trans (progW_bad (progW_none hcn) n (by omega)))
            rw [Exit.noGoto_ret]
            go_ret2
            exact ⟨hb, by rw [HN2.out]; rfl⟩
        · obtain ⟨l', b', c', d', hts'⟩ := PS.low hps
          have hcell : wr.cell? ⟨w0.heap.size + 1, 2, none⟩ = some (.func (.func 29) #[.pointer (some ⟨w0.heap.size, 0, none⟩)] #[]) := by
            rw [Lib.cell_of_heap (show wr.heap[w0.heap.size + 1]? = some (.cells #[.func (.func 27) #[tp w0] #[], .func (.func 28) #[tp w0] #[], .func (.func 29) #[tp w0] #[]] 72 (0, 0)) from hts'.2.1)]; rfl
          have HCK := Lib.hid ((HCJ.out wr).2.2 hps)
          clear hts' hps
          go_wp2_with (go_at_call 29; (with_reducible refine HCK.out.mono ?_); rintro e1 w1 (⟨rfl, hps1⟩ | ⟨rfl, hcn, hb⟩))
          · go_roundw
            case rel => exact ⟨2 + 1, rfl, by go_num, by omega, hps1⟩
            case measure => simp [intOf]
          · have HN2 := Lib.hid (HR.out.symm.trans (progW_bad (progW_none hcn) n (by omega)))
            rw [Exit.noGoto_ret]
            go_ret2
            exact ⟨hb, by rw [HN2.out]; rfl⟩
        · obtain ⟨u, d, c, hcu, hts'⟩ := hps
          go_wp2
          go_roundw
          case rel => exact ⟨j + 1, us ++ [u], rfl, by go_num, by omega, progW_some HU.out hcu, ⟨c, d, by rw [lines_snoc]; exact hts'⟩, fun h => absurd h (Nat.succ_ne_zero j)⟩
          case measure => simp [intOf]; omega
    · obtain rfl : n = j := by omega
      obtain ⟨c, d, hts'⟩ := HPS.out
      have hrr := HR.out.symm.trans HU.out
      have HB := Lib.hid hts'.low
      have c2 := hts'.cells.1.1
      by_cases hlong : 65536 < (lines us).length
      · have e1 : decide (65536 < (lines us).length) = true := by simpa using hlong
        rw [e1] at c2
        have HE : Hid (PostText w0 r (.returned (.tuple #[.string ⟨#[]⟩, .int .i64 3])) wr) := by
          refine ⟨HB.out, ?_⟩
          rw [hrr]
          show if 65536 < (lines us).length then _ else _
          rw [if_pos hlong]
        clear hts' hrr e1 hlong
        go_wp2
        try rw [Exit.noGoto_ret]
        go_ret2
        exact HE.out
      · have e1 : decide (65536 < (lines us).length) = false := by simpa using hlong
        rw [e1] at c2
        have HE : Hid (∀ w', Below w0.heap.size w0 w' → PostText w0 r (.returned (.tuple #[.string ⟨(lines us).toArray⟩, .int .i64 0])) w') := by
          intro w' hb
          refine ⟨hb, ?_⟩
          rw [hrr]
          show if 65536 < (lines us).length then _ else _
          rw [if_neg hlong]
        have HS : Hid (Calls Tryz.prog 30 #[.pointer (some ⟨w0.heap.size, 0, none⟩)] wr fun e w' => e = .returned (.string ⟨(lines us).toArray⟩) ∧ Below w0.heap.size w0 w') := by
          rcases Nat.eq_zero_or_pos n with hz | hz
          · subst hz
            have hu := HU.out
            injection hu with hu
            subst hu
            obtain rfl := HZ.out rfl
            refine (PB.string_nil (K := w0.heap.size + 2) _ _ HB0.out).mono ?_
            rintro e w' ⟨he, hb⟩
            exact ⟨he, HB.out.trans (hb.mono (by omega))⟩
          · have hne : lines us ≠ [] := by
              obtain ⟨m, rfl⟩ : ∃ m, n = m + 1 := ⟨n - 1, by omega⟩
              have hu := HU.out
              simp only [progW] at hu
              cases h1 : progW row m with
              | none => rw [h1] at hu; cases hu
              | some l =>
                rw [h1] at hu
                simp only [] at hu
                cases h2 : compT (row m) with
                | none => rw [h2] at hu; cases hu
                | some q =>
                  rw [h2] at hu
                  injection hu with hu
                  rw [← hu, lines_snoc]
                  simp
            obtain ⟨⟨l', h1, h2, h3⟩, -, -⟩ := hts'
            obtain rfl := h1 (by omega)
            refine (PB.string_any _ _ h3 hne).mono ?_
            rintro e w' ⟨he, hb⟩
            exact ⟨he, HB.out.trans (hb.mono (by omega))⟩
        clear hts' hrr e1 hlong
        go_wp2_with (go_at_call 30; (with_reducible refine HS.out.mono ?_); rintro e1 w1 ⟨rfl, hb1⟩)
        try rw [Exit.noGoto_ret]
        go_ret2
        exact HE.out _ hb1
end Go.Proofs.YtedmmgfnplbkjaaGreatDoor.PR
