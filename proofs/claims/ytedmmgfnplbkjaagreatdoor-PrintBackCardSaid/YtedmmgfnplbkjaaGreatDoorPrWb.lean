/-
  Plain, THE WAY BACK, first part: what is told by words is read from them again. 'Le': whatever lies as the one tree lies as the other; 'Bk': a reader reads what a teller told. No program is imported.
  Conditions: none.
  Plain, THE WAY BACK, second part: expressions and acts ('bk_expr', 'bk_act'). No program is imported.
  Conditions: none.
  Plain, THE WAY BACK, third part: pairs, and the compounds ('bk_compound'). No program is imported.
  Conditions: no more words than a text has.
  Plain, THE WAY BACK, fourth part: compounds, elements, expressions ('bk_expr'), acts ('bk_act'). No program is imported.
  Conditions: no more words than a text has.
  Plain, THE WAY BACK, fifth part: elements, expressions ('bk_expr'), acts ('bk_act'). No program is imported.
  Conditions: no more words than a text has.
  Plain, THE WAY BACK, sixth part: acts, statements, all that lies in a tree ('tree_back'). No program is imported.
  Conditions: no more words than a text has.
  Plain, THE WAY BACK, seventh part: components and programs ('comp_back', 'prog_back'). No program is imported.
  Conditions: no more words than a text has.
  Plain: the words that a program is told by are such as texts have ('comp_ca', 'prog_ca'). No program is imported.
  Conditions: numbers in range.
-/
import Derived.Test.YtedmmgfnplbkjaaGreatDoorPrL
import Derived.Test.YtedmmgfnplbkjaaGreatDoorPrT
namespace Go.Proofs.YtedmmgfnplbkjaaGreatDoor.G
set_option linter.unusedVariables false
set_option linter.unusedSimpArgs false
open Go.Proofs.YtedmmgfnplbkjaaGreatDoor
def Le (a b : T) : Prop := ∀ (w : World) (ok : Nat → Prop) (v : Value), a.Rep w ok v → b.Rep w ok v
theorem Le.refl (a : T) : Le a a := fun _ _ _ h => h
def LeL (k : Nat) (row : Nat → T) (q : Nat) (x : List T) : Prop := x.length = k ∧ ∀ j, j < k → Le (row (q + j)) (x.getD j default)
theorem le_rows {n k : Nat} {row : Nat → Nat → T} {l : List (List T)} (hn : l.length = n) (h : ∀ i, i < n → LeL k (row i) 0 (l.getD i [])) : Le (.ls n k row) (ofRows k l) := by
  subst hn
  rintro w ok v ⟨la, cap, rfl, h1, h2, hel⟩
  refine ⟨la, cap, rfl, h1, h2, fun i hi => ?_⟩
  obtain ⟨b, o, hla, hok, hb, hc⟩ := hel i hi
  refine ⟨b, o, hla, hok, hb, fun j hj => ?_⟩
  obtain ⟨y, hy, hr⟩ := hc j hj
  have := (h i hi).2 j hj
  rw [Nat.zero_add] at this
  exact ⟨y, hy, this _ _ _ hr⟩
theorem le_none {n k : Nat} {row : Nat → Nat → T} (hn : n = 0) : Le (.ls n k row) (ofRows k []) := le_rows hn.symm fun i hi => absurd hi (by omega)
theorem z_i8 {t : T} (h : I8 t) (z : zB t = true) : t = .sc (.int .u8 0) := by
  obtain ⟨n, rfl⟩ := h
  simp [zB] at z
  rw [z]
theorem z_i64 {t : T} (h : I64 t) (z : zB t = true) : t = .sc (.int .i64 0) := by
  obtain ⟨n, rfl⟩ := h
  simp [zB] at z
  rw [z]
theorem st_str {t : T} (h : St t) : t = .sc (str (strT t)) := by
  obtain ⟨s, rfl⟩ := h
  simp [strT, str]
theorem z_st {t : T} (h : St t) (z : zB t = true) : t = .sc (str []) := by
  rw [st_str h]
  obtain ⟨s, rfl⟩ := h
  simp [zB] at z
  simp [strT, z]
def Bk {α : Type} (ws : List LX.LW) (m : Nat) (P : Nat → Nat → Rs α) (S : Nat → Tl) (Q : α → Prop) : Prop :=
  ∀ (t d : Nat) (u : List LX.LW) (e : Nat) (r : List LX.LW), ws.drop t = u ++ r → S d = some (u, e) → u.length ≤ m → d ≤ t → ∃ x, P t d = .ok x (t + u.length) e ∧ e ≤ t + u.length ∧ Q x
theorem drop_more {ws u r : List LX.LW} {t : Nat} (h : ws.drop t = u ++ r) : ws.drop (t + u.length) = r := by
  rw [← List.drop_drop, h, List.drop_left]
theorem Tl.cases {r : Tl} {f : Nat → Tl} {u : List LX.LW} {e : Nat} (h : r.seq f = some (u, e)) : ∃ a d b, r = some (a, d) ∧ f d = some (b, e) ∧ u = a ++ b := by
  cases r with
  | none => cases h
  | some p =>
    obtain ⟨a, d⟩ := p
    simp only [Tl.seq] at h
    cases hf : f d with
    | none => rw [hf] at h; cases h
    | some p =>
      obtain ⟨b, e'⟩ := p
      rw [hf] at h
      simp only [Option.some.injEq, Prod.mk.injEq] at h
      obtain ⟨rfl, rfl⟩ := h
      exact ⟨a, d, b, rfl, hf, rfl⟩
theorem Bk.bind {α β : Type} {ws : List LX.LW} {m : Nat} {P : Nat → Nat → Rs α} {S S' : Nat → Tl} {Q : α → Prop} {P' : α → Nat → Nat → Rs β} {Q' : β → Prop} (h : Bk ws m P S Q) (g : ∀ x, Q x → Bk ws m (P' x) S' Q') :
    Bk ws m (fun t d => (P t d).bind P') (fun d => (S d).seq S') Q' := by
  intro t d u e r hd hs hm hdt
  obtain ⟨a, d1, b, h1, h2, rfl⟩ := Tl.cases hs
  rw [List.append_assoc] at hd
  rw [List.length_append] at hm ⊢
  obtain ⟨x, e1, l1, q1⟩ := h t d a d1 (b ++ r) hd h1 (by omega) hdt
  obtain ⟨y, e2, l2, q2⟩ := g x q1 (t + a.length) d1 b e r (drop_more hd) h2 (by omega) l1
  refine ⟨y, ?_, by omega, q2⟩
  show (P t d).bind P' = _
  rw [e1, Rs.bind_ok, e2, Nat.add_assoc]
theorem Bk.mono {α : Type} {ws : List LX.LW} {m m' : Nat} {P : Nat → Nat → Rs α} {S : Nat → Tl} {Q Q' : α → Prop} (h : Bk ws m P S Q) (hm : m' ≤ m) (g : ∀ x, Q x → Q' x) : Bk ws m' P S Q' := by
  intro t d u e r hd hs hl hdt
  obtain ⟨x, e1, l1, q1⟩ := h t d u e r hd hs (by omega) hdt
  exact ⟨x, e1, l1, g x q1⟩
theorem Bk.done {α : Type} {ws : List LX.LW} {m : Nat} {Q : α → Prop} {x : α} (h : Q x) : Bk ws m (fun t d => .ok x t d) (fun d => some ([], d)) Q := by
  intro t d u e r hd hs hl hdt
  simp only [Option.some.injEq, Prod.mk.injEq] at hs
  obtain ⟨rfl, rfl⟩ := hs
  exact ⟨x, rfl, hdt, h⟩
theorem Bk.map {α β : Type} {ws : List LX.LW} {m : Nat} {P : Nat → Nat → Rs α} {S : Nat → Tl} {Q : α → Prop} {f : α → β} {Q' : β → Prop} (h : Bk ws m P S Q) (g : ∀ x, Q x → Q' (f x)) : Bk ws m (fun t d => (P t d).bind fun x t d => .ok (f x) t d) S Q' := by
  have := Bk.bind (P' := fun x t d => .ok (f x) t d) h fun x hx => Bk.done (g x hx)
  intro t d u e r hd hs
  exact this t d u e r hd (by show (S d).seq _ = _; rw [seq_nil, hs])
theorem head_at {ws r : List LX.LW} {w : LX.LW} {t : Nat} (h : ws.drop t = [w] ++ r) : ws[t]? = some w := by
  have h0 : (ws.drop t)[0]? = some w := by rw [h]; rfl
  simpa using h0
theorem bk_kind {ws : List LX.LW} (m k : Nat) (s : Str) (n : Int) (l : Nat) : Bk ws m (kindP ws k) (oneT ⟨k, s, n, l⟩) (fun _ => True) := by
  intro t d u e r hd hs hl hdt
  simp only [oneT, Option.some.injEq, Prod.mk.injEq] at hs
  obtain ⟨rfl, rfl⟩ := hs
  refine ⟨(), ?_, by simp; omega, trivial⟩
  unfold kindP
  rw [head_at hd]
  simp
theorem bk_open {ws : List LX.LW} (m : Nat) : Bk ws m (openP ws) (oneT wO) (fun _ => True) := bk_kind m 4 _ _ _
theorem bk_shut {ws : List LX.LW} (m : Nat) : Bk ws m (shutP ws) shutT (fun _ => True) := bk_kind m 5 _ _ _
theorem nameOk_res {s : Str} (h : nameOk s = true) : resB s = false := by
  unfold nameOk at h
  cases hr : resB s with
  | false => rfl
  | true => rw [hr] at h; simp at h
theorem isName_of {s : Str} (h : resB s = false) : isName (wN s) = true := by
  unfold resB at h
  unfold isName wN
  rw [h]
  rfl
theorem bk_wn {ws : List LX.LW} (m : Nat) {s : Str} (h : resB s = false) : Bk ws m (nameP ws) (oneT (wN s)) (fun x => x = s) := by
  intro t d u e r hd hs hl hdt
  simp only [oneT, Option.some.injEq, Prod.mk.injEq] at hs
  obtain ⟨rfl, rfl⟩ := hs
  refine ⟨s, ?_, by simp; omega, rfl⟩
  unfold nameP
  rw [head_at hd]
  show (if isName (wN s) then Rs.ok (wN s).s (t + 1) d else .bad (t + 1)) = _
  rw [if_pos (isName_of h)]
  rfl
theorem bk_name {ws : List LX.LW} (m : Nat) (s : Str) : Bk ws m (nameP ws) (nameT s) (fun x => x = s ∧ nameOk s = true) := by
  intro t d u e r hd hs hl hdt
  unfold nameT at hs
  split at hs
  · next ho =>
    obtain ⟨x, h1, h2, h3⟩ := bk_wn m (nameOk_res ho) t d u e r hd hs hl hdt
    exact ⟨x, h1, h2, h3, ho⟩
  · cases hs
theorem eachT_cons (S : Nat → Nat → Tl) : ∀ n d, eachT S (n + 1) d = (S 0 d).seq (eachT (fun i => S (i + 1)) n)
  | 0, d => by
    show Tl.seq (some ([], d)) (S 0) = _
    rw [nil_seq]
    exact (seq_nil _).symm
  | n + 1, d => by
    show (eachT S (n + 1) d).seq (S (n + 1)) = _
    rw [eachT_cons S n d, seq_assoc]
    rfl
theorem bk_times {α : Type} {ws : List LX.LW} {m : Nat} {one : Nat → Nat → Rs α} (dflt : α) : ∀ (n : Nat) (S : Nat → Nat → Tl) (Q : Nat → α → Prop), (∀ i, i < n → Bk ws m one (S i) (Q i)) → Bk ws m (timesP one n) (eachT S n) (fun l => l.length = n ∧ ∀ i, i < n → Q i (l.getD i dflt))
  | 0, S, Q, h => Bk.done ⟨rfl, fun i hi => absurd hi (Nat.not_lt_zero _)⟩
  | n + 1, S, Q, h => by
    have := Bk.bind (P' := fun x t d => (timesP one n t d).bind fun l t d => .ok (x :: l) t d) (h 0 (by omega)) (Q' := fun l => l.length = n + 1 ∧ ∀ i, i < n + 1 → Q i (l.getD i dflt)) fun x hx =>
      Bk.map (f := fun l => x :: l) (bk_times dflt n (fun i => S (i + 1)) (fun i => Q (i + 1)) fun i hi => h (i + 1) (by omega)) fun l hl => ⟨by simp [hl.1], fun i hi => by
        cases i with
        | zero => exact hx
        | succ i => exact hl.2 i (by omega)⟩
    intro t d u e r hd hs
    exact this t d u e r hd (by rw [← hs, eachT_cons])
def Bg (u : List LX.LW) : Prop := ∃ w v, u = w :: v ∧ w.k ≠ 5 ∧ ¬ (w.k = 1 ∧ w.s = [45])
theorem isShut_not {ws u r : List LX.LW} {t : Nat} (h : ws.drop t = u ++ r) (hb : Bg u) : isShut ws t = false := by
  obtain ⟨w, v, rfl, h1, -⟩ := hb
  unfold isShut
  rw [head_at (r := v ++ r) (by simpa using h)]
  simpa using h1
theorem isDash_not {ws u r : List LX.LW} {t : Nat} (h : ws.drop t = u ++ r) (hb : Bg u) : isDash ws t = false := by
  obtain ⟨w, v, rfl, -, h1⟩ := hb
  unfold isDash
  rw [head_at (r := v ++ r) (by simpa using h)]
  simpa using h1
theorem bk_allF {α : Type} {ws : List LX.LW} {m : Nat} {one : Nat → Nat → Rs α} (dflt : α) : ∀ (F n : Nat) (S : Nat → Nat → Tl) (Q : Nat → α → Prop), (∀ i, i < n → Bk ws m one (S i) (Q i)) → (∀ i, i < n → ∀ d u e, S i d = some (u, e) → Bg u) →
    ∀ (t d : Nat) (u : List LX.LW) (e : Nat) (r : List LX.LW), ws.drop t = u ++ r → (eachT S n d).seq shutT = some (u, e) → u.length ≤ m → d ≤ t → u.length ≤ F → ∃ l, allP ws one F t d = .ok l (t + u.length) e ∧ e ≤ t + u.length ∧ l.length = n ∧ ∀ i, i < n → Q i (l.getD i dflt)
  | 0, n, S, Q, h, hb => by
    intro t d u e r hd hs hl hdt hF
    obtain ⟨a, d1, b, -, h2, rfl⟩ := Tl.cases hs
    simp only [oneT, Option.some.injEq, Prod.mk.injEq] at h2
    obtain ⟨rfl, rfl⟩ := h2
    simp at hF
  | F + 1, 0, S, Q, h, hb => by
    intro t d u e r hd hs hl hdt hF
    have hs : Tl.seq (some ([], d)) shutT = some (u, e) := hs
    rw [nil_seq] at hs
    simp only [oneT, Option.some.injEq, Prod.mk.injEq] at hs
    obtain ⟨rfl, rfl⟩ := hs
    have h1 : isShut ws t = true := by
      unfold isShut
      rw [head_at hd]
      rfl
    refine ⟨[], ?_, by simp; omega, rfl, fun i hi => absurd hi (Nat.not_lt_zero _)⟩
    unfold allP
    rw [if_pos h1]
    rfl
  | F + 1, n + 1, S, Q, h, hb => by
    intro t d u e r hd hs hl hdt hF
    rw [eachT_cons, seq_assoc] at hs
    obtain ⟨a, d1, b, h1, h2, rfl⟩ := Tl.cases hs
    have hbg := hb 0 (by omega) _ _ _ h1
    have ha : 1 ≤ a.length := by
      obtain ⟨w, v, rfl, -⟩ := hbg
      simp
    rw [List.append_assoc] at hd
    rw [List.length_append] at hl hF ⊢
    have hns := isShut_not hd hbg
    obtain ⟨x, e1, l1, q1⟩ := h 0 (by omega) t d a d1 (b ++ r) hd h1 (by omega) hdt
    obtain ⟨l, e2, l2, q2, q3⟩ := bk_allF dflt F n (fun i => S (i + 1)) (fun i => Q (i + 1)) (fun i hi => h (i + 1) (by omega)) (fun i hi => hb (i + 1) (by omega)) (t + a.length) d1 b e r (drop_more hd) h2 (by omega) l1 (by omega)
    refine ⟨x :: l, ?_, by omega, by simp [q2], fun i hi => ?_⟩
    · unfold allP
      rw [hns]
      simp only [Bool.false_eq_true, if_false]
      rw [e1, Rs.bind_ok, e2, Rs.bind_ok, Nat.add_assoc]
    · cases i with
      | zero => exact q1
      | succ i => exact q3 i (by omega)
theorem bk_all {α : Type} {ws : List LX.LW} {m n : Nat} {one : Nat → Nat → Rs α} (dflt : α) {S : Nat → Nat → Tl} {Q : Nat → α → Prop} (hm : m ≤ FU) (h : ∀ i, i < n → Bk ws m one (S i) (Q i)) (hb : ∀ i, i < n → ∀ d u e, S i d = some (u, e) → Bg u) :
    Bk ws m (allP ws one FU) (fun d => (eachT S n d).seq shutT) (fun l => l.length = n ∧ ∀ i, i < n → Q i (l.getD i dflt)) := fun t d u e r hd hs hl hdt => bk_allF dflt FU n S Q h hb t d u e r hd hs hl hdt (by omega)
theorem bk_key {ws : List LX.LW} {m n : Nat} {ex : Nat → Nat → Rs (List T)} {S : Nat → Nat → Tl} {Q : Nat → List T → Prop} (h : ∀ i, i < n → Bk ws m ex (S i) (Q i)) (hb : ∀ i, i < n → ∀ d u e, S i d = some (u, e) → Bg u) :
    Bk ws m (keyP ws ex) (fun d => if n = 0 then oneT (wN [45]) d else if n = 1 then eachT S 1 d else none) (fun l => l.length = n ∧ ∀ i, i < n → Q i (l.getD i [])) := by
  intro t d u e r hd hs hl hdt
  dsimp only at hs
  split at hs
  · next h0 =>
    subst h0
    simp only [oneT, Option.some.injEq, Prod.mk.injEq] at hs
    obtain ⟨rfl, rfl⟩ := hs
    have h1 : isDash ws t = true := by
      unfold isDash
      rw [head_at hd]
      rfl
    refine ⟨[], ?_, by simp; omega, rfl, fun i hi => absurd hi (Nat.not_lt_zero _)⟩
    unfold keyP
    rw [if_pos h1]
    rfl
  · split at hs
    · next h1 =>
      subst h1
      rw [eachT_cons] at hs
      have hs : ((S 0 d).seq fun d => some ([], d)) = some (u, e) := hs
      rw [seq_nil] at hs
      obtain ⟨x, e1, l1, q1⟩ := h 0 (by omega) t d u e r hd hs hl hdt
      refine ⟨[x], ?_, l1, rfl, fun i hi => ?_⟩
      · unfold keyP
        rw [isDash_not hd (hb 0 (by omega) _ _ _ hs)]
        simp only [Bool.false_eq_true, if_false]
        rw [e1, Rs.bind_ok]
      · obtain rfl : i = 0 := by omega
        exact q1
    · cases hs
end Go.Proofs.YtedmmgfnplbkjaaGreatDoor.G
namespace Go.Proofs.YtedmmgfnplbkjaaGreatDoor.G
set_option linter.unusedVariables false
set_option linter.unusedSimpArgs false
open Go.Proofs.YtedmmgfnplbkjaaGreatDoor
theorem Bk.congr {α : Type} {ws : List LX.LW} {m : Nat} {P : Nat → Nat → Rs α} {S S' : Nat → Tl} {Q : α → Prop} (h : Bk ws m P S Q) (g : ∀ d, S' d = S d) : Bk ws m P S' Q := fun t d u e r hd hs => h t d u e r hd (by rw [← g]; exact hs)
theorem bg_one {w : LX.LW} (h1 : w.k ≠ 5) (h2 : ¬ (w.k = 1 ∧ w.s = [45])) {d e : Nat} {u : List LX.LW} (h : oneT w d = some (u, e)) : Bg u := by
  simp only [oneT, Option.some.injEq, Prod.mk.injEq] at h
  obtain ⟨rfl, rfl⟩ := h
  exact ⟨w, [], rfl, h1, h2⟩
theorem bg_seq {r : Tl} {f : Nat → Tl} (h : ∀ a d, r = some (a, d) → Bg a) {u : List LX.LW} {e : Nat} (hs : r.seq f = some (u, e)) : Bg u := by
  obtain ⟨a, d, b, h1, -, rfl⟩ := Tl.cases hs
  obtain ⟨w, v, rfl, h2⟩ := h a d h1
  exact ⟨w, v ++ b, rfl, h2⟩
theorem bg_wO {d e : Nat} {u : List LX.LW} (h : oneT wO d = some (u, e)) : Bg u := bg_one (by decide) (by decide) h
theorem bg_opens {s : Str} {d e : Nat} {u : List LX.LW} (h : opensT s d = some (u, e)) : Bg u := by
  simp only [opensT, Option.some.injEq, Prod.mk.injEq] at h
  obtain ⟨rfl, rfl⟩ := h
  exact ⟨wO, _, rfl, by decide, by decide⟩
theorem bg_name {s : Str} {d e : Nat} {u : List LX.LW} (h : nameT s d = some (u, e)) : Bg u := by
  unfold nameT at h
  split at h
  · next ho =>
    refine bg_one (w := wN s) (by decide : (1 : Nat) ≠ 5) (fun ⟨_, h2⟩ => ?_) h
    have h3 := nameOk_res ho
    have h2 : s = [45] := h2
    subst h2
    exact absurd h3 (by decide)
  · cases h
section
variable {c : Str} {row : Nat → T} {sub : Nat → Nat → Nat → Nat → Tl}
theorem bg_elemOf {q : Nat} {w : Str} {own : Nat → Tl} {d e : Nat} {u : List LX.LW} (h : elemOf row sub q w own d = some (u, e)) : Bg u := bg_seq (fun _ _ => bg_opens) h
theorem bg_elem {q d e : Nat} {u : List LX.LW} (h : elemT row sub q d = some (u, e)) : Bg u := by
  unfold elemT at h
  repeat' split at h
  all_goals first | cases h | exact bg_elemOf h
theorem bg_compound {q d e : Nat} {u : List LX.LW} (h : compoundT c row sub q d = some (u, e)) : Bg u := by
  unfold compoundT at h
  repeat' split at h
  all_goals first | (exact absurd h (by simp; done)) | exact bg_seq (fun _ _ => bg_opens) h | exact bg_seq (fun _ _ => bg_wO) h
theorem bg_exprF {q d e : Nat} {u : List LX.LW} (h : exprF c row sub q d = some (u, e)) : Bg u := by
  unfold exprF at h
  split at h
  · cases h
  split at h
  · exact bg_one (by decide) (by decide) h
  split at h
  · exact bg_one (by decide : (2 : Nat) ≠ 5) (fun h => absurd h.1 (by decide : ¬ (2 : Nat) = 1)) h
  split at h
  · unfold truthT at h
    repeat' split at h
    · exact bg_one (by decide) (by decide) h
    · exact bg_one (by decide) (by decide) h
    · cases h
  split at h
  · unfold textT at h
    split at h
    · exact bg_one (by decide : (3 : Nat) ≠ 5) (fun h => absurd h.1 (by decide : ¬ (3 : Nat) = 1)) h
    · cases h
  split at h
  · exact bg_name h
  split at h
  · exact bg_elem h
  · exact bg_compound h
theorem bg_actF {d e : Nat} {u : List LX.LW} (h : actF c row sub d = some (u, e)) : Bg u := by
  unfold actF at h
  repeat' split at h
  all_goals first | (exact absurd h (by simp; done)) | exact bg_seq (fun _ _ => bg_opens) h
theorem bg_stmtF {d e : Nat} {u : List LX.LW} (h : stmtF c row sub d = some (u, e)) : Bg u := by
  unfold stmtF at h
  repeat' split at h
  all_goals first | (exact absurd h (by simp; done)) | exact bg_seq (fun _ _ => bg_opens) h
end
theorem bg_tell {c : Str} : ∀ {o : Nat} {t : T} {i d e : Nat} {u : List LX.LW}, tellC c o t i d = some (u, e) → Bg u
  | o, .sc _, i, d, e, u, h => by cases h
  | 0, .ls n k row, i, d, e, u, h => bg_exprF h
  | 1, .ls n k row, i, d, e, u, h => bg_actF h
  | o + 2, .ls n k row, i, d, e, u, h => bg_stmtF h
def rowsOf : T → Nat → Nat → T
  | .ls _ _ row => row
  | .sc _ => fun _ _ => default
theorem wf_len {o : Nat} {t : T} (h : Wf o t) : ∃ n k row, t = .ls n k row := by
  cases t with
  | sc v => cases o <;> first | exact h.elim | (rename_i o; cases o <;> first | exact h.elim | (rename_i o; cases o <;> exact h.elim))
  | ls n k row => exact ⟨n, k, row, rfl⟩
theorem le_col {k : Nat} {t : T} {l : List (List T)} (ht : ∃ n row, t = .ls n k row) (h : l.length = lenT t ∧ ∀ i, i < lenT t → LeL k (rowsOf t i) 0 (l.getD i [])) : Le t (ofRows k l) := by
  obtain ⟨n, row, rfl⟩ := ht
  exact le_rows h.1 h.2
theorem c10 {t : T} (h : Wf 0 t) : ∃ n row, t = .ls n 10 row := by
  obtain ⟨n, k, row, rfl⟩ := wf_len h
  obtain ⟨rfl, -⟩ := (wf0 _ _ _).1 h
  exact ⟨n, row, rfl⟩
theorem c12 {t : T} (h : Wf 1 t) : ∃ n row, t = .ls n 12 row := by
  obtain ⟨n, k, row, rfl⟩ := wf_len h
  obtain ⟨rfl, -⟩ := (wf1 _ _ _).1 h
  exact ⟨n, row, rfl⟩
theorem c17 {t : T} (h : Wf 2 t) : ∃ n row, t = .ls n 17 row := by
  obtain ⟨n, k, row, rfl⟩ := wf_len h
  obtain ⟨rfl, -⟩ := (wf2 _ _ _).1 h
  exact ⟨n, row, rfl⟩
theorem c1 {t : T} (h : Wf 3 t) : ∃ n row, t = .ls n 1 row ∧ ∀ i, i < n → St (row i 0) := by
  obtain ⟨n, k, row, rfl⟩ := wf_len h
  obtain ⟨rfl, hs⟩ := (wf3 _ _ _).1 h
  exact ⟨n, row, rfl, hs⟩
theorem z0 {k : Nat} {t : T} (ht : ∃ n row, t = .ls n k row) (z : zB t = true) : Le t (ofRows k []) := by
  obtain ⟨n, row, rfl⟩ := ht
  simp [zB] at z
  exact le_none z
theorem le_e {row : Nat → T} {q : Nat} {k n : Int} {s : Str} {args names vals : List (List T)} {el : Int} {key acts : List (List T)} {site : Str} (h0 : Le (row q) (.sc (.int .u8 k))) (h1 : Le (row (q + 1)) (.sc (.int .i64 n))) (h2 : Le (row (q + 2)) (.sc (str s)))
    (h3 : Le (row (q + 3)) (ofRows 10 args)) (h4 : Le (row (q + 4)) (ofRows 1 names)) (h5 : Le (row (q + 5)) (ofRows 10 vals)) (h6 : Le (row (q + 6)) (.sc (.int .u8 el))) (h7 : Le (row (q + 7)) (ofRows 10 key)) (h8 : Le (row (q + 8)) (ofRows 12 acts)) (h9 : Le (row (q + 9)) (.sc (str site))) :
    LeL 10 row q (eCols k n s args names vals el key acts site) := ⟨rfl, fun j hj => match j, hj with
      | 0, _ => h0 | 1, _ => h1 | 2, _ => h2 | 3, _ => h3 | 4, _ => h4 | 5, _ => h5 | 6, _ => h6 | 7, _ => h7 | 8, _ => h8 | 9, _ => h9
      | n + 10, h => absurd h (by omega)⟩
def SubE (ws : List LX.LW) (m : Nat) (ex : Nat → Nat → Rs (List T)) (c : Str) (row : Nat → T) : Prop :=
  (∀ j, Wf 0 (row j) → ∀ i, i < lenT (row j) → Bk ws m ex (subs c row j 0 i) (LeL 10 (rowsOf (row j) i) 0)) ∧
  (∀ j, Wf 1 (row j) → ∀ i, i < lenT (row j) → Bk ws m (actP ws ex) (subs c row j 1 i) (LeL 12 (rowsOf (row j) i) 0))
section
variable {ws : List LX.LW} {m : Nat} {ex : Nat → Nat → Rs (List T)} {c : Str} {row : Nat → T} (hs : SubE ws m ex c row) (hm : m ≤ FU)
include hs hm
theorem bk_col {j : Nat} (h : Wf 0 (row j)) : Bk ws m (allP ws ex FU) (seqL [colT row (subs c row) j 0, shutT]) (fun l => Le (row j) (ofRows 10 l)) :=
  (bk_all [] hm (hs.1 j h) fun i hi d u e hu => bg_tell hu).mono (Nat.le_refl _) fun l hl => le_col (c10 h) hl
theorem bk_acts {j : Nat} (h : Wf 1 (row j)) : Bk ws m (allP ws (actP ws ex) FU) (seqL [colT row (subs c row) j 1, shutT]) (fun l => Le (row j) (ofRows 12 l)) :=
  (bk_all [] hm (hs.2 j h) fun i hi d u e hu => bg_tell hu).mono (Nat.le_refl _) fun l hl => le_col (c12 h) hl
omit hm in
theorem bk_timesT {j n : Nat} (h : Wf 0 (row j)) : Bk ws m (timesP ex n) (timesT row (subs c row) n j) (fun l => Le (row j) (ofRows 10 l)) := by
  intro t d u e r hd hu
  unfold timesT at hu
  split at hu
  · next hn =>
    subst hn
    exact ((bk_times [] _ _ _ (hs.1 j h)).mono (Nat.le_refl _) fun l hl => le_col (c10 h) hl) t d u e r hd hu
  · cases hu
omit hm in
theorem bk_keyT {j : Nat} (h : Wf 0 (row j)) : Bk ws m (keyP ws ex) (keyT row (subs c row) j) (fun l => Le (row j) (ofRows 10 l)) := by
  refine ((bk_key (hs.1 j h) fun i hi d u e hu => bg_tell hu).mono (Nat.le_refl _) fun l hl => le_col (c10 h) hl).congr fun d => ?_
  unfold keyT timesT
  split
  · rfl
  · split
    · next h1 => unfold colT; rw [h1]
    · rfl
end
end Go.Proofs.YtedmmgfnplbkjaaGreatDoor.G
namespace Go.Proofs.YtedmmgfnplbkjaaGreatDoor.G
set_option linter.unusedVariables false
set_option linter.unusedSimpArgs false
open Go.Proofs.YtedmmgfnplbkjaaGreatDoor
theorem le_of_eq {a b : T} (h : a = b) : Le a b := h ▸ Le.refl a
theorem i8_num {t : T} {k : Int} (h : I8 t) (hk : num t = k) : Le t (.sc (.int .u8 k)) := by
  obtain ⟨n, rfl⟩ := h
  simp only [num] at hk
  exact le_of_eq (by rw [hk])
theorem i64_num {t : T} {k : Int} (h : I64 t) (hk : num t = k) : Le t (.sc (.int .i64 k)) := by
  obtain ⟨n, rfl⟩ := h
  simp only [num] at hk
  exact le_of_eq (by rw [hk])
theorem st_le {t : T} {s : Str} (h : St t) (hk : strT t = s) : Le t (.sc (str s)) := le_of_eq (by rw [st_str h, ← hk, ← st_str h])
theorem fit_z {named : Nat → Bool} {row : Nat → T} {q : Nat} (h : fitE named row q = true) : ∀ j, 1 ≤ j → j ≤ 9 → named j = false → zB (row (q + j)) = true := by
  unfold fitE at h
  simp only [Bool.and_eq_true, Bool.or_eq_true] at h
  obtain ⟨h1, h2, h3, h4, h5, h6, h7, h8, h9⟩ := h
  intro j a b hn
  have g : ∀ {n : Nat}, named n = true ∨ zB (row (q + n)) = true → named n = false → zB (row (q + n)) = true := fun o hn => by
    rcases o with o | o
    · rw [hn] at o; cases o
    · exact o
  match j, a, b, hn with
  | 1, _, _, hn => exact g h1 hn
  | 2, _, _, hn => exact g h2 hn
  | 3, _, _, hn => exact g h3 hn
  | 4, _, _, hn => exact g h4 hn
  | 5, _, _, hn => exact g h5 hn
  | 6, _, _, hn => exact g h6 hn
  | 7, _, _, hn => exact g h7 hn
  | 8, _, _, hn => exact g h8 hn
  | 9, _, _, hn => exact g h9 hn
  | n + 10, _, h, _ => exact absurd h (by omega)
section
variable {named : Nat → Bool} {row : Nat → T} {q : Nat} (hw : WE row q) (hf : fitE named row q = true)
include hw hf
theorem ez1 (h : named 1 = false) : Le (row (q + 1)) (.sc (.int .i64 0)) := le_of_eq (z_i64 hw.2.1 (fit_z hf 1 (by decide) (by decide) h))
theorem ez2 (h : named 2 = false) : Le (row (q + 2)) (.sc (str [])) := le_of_eq (z_st hw.2.2.1 (fit_z hf 2 (by decide) (by decide) h))
theorem ez3 (h : named 3 = false) : Le (row (q + 3)) (ofRows 10 []) := z0 (c10 hw.2.2.2.1) (fit_z hf 3 (by decide) (by decide) h)
theorem ez4 (h : named 4 = false) : Le (row (q + 4)) (ofRows 1 []) := z0 (by obtain ⟨n, r, e, -⟩ := c1 hw.2.2.2.2.1; exact ⟨n, r, e⟩) (fit_z hf 4 (by decide) (by decide) h)
theorem ez5 (h : named 5 = false) : Le (row (q + 5)) (ofRows 10 []) := z0 (c10 hw.2.2.2.2.2.1) (fit_z hf 5 (by decide) (by decide) h)
theorem ez6 (h : named 6 = false) : Le (row (q + 6)) (.sc (.int .u8 0)) := le_of_eq (z_i8 hw.2.2.2.2.2.2.1 (fit_z hf 6 (by decide) (by decide) h))
theorem ez7 (h : named 7 = false) : Le (row (q + 7)) (ofRows 10 []) := z0 (c10 hw.2.2.2.2.2.2.2.1) (fit_z hf 7 (by decide) (by decide) h)
theorem ez8 (h : named 8 = false) : Le (row (q + 8)) (ofRows 12 []) := z0 (c12 hw.2.2.2.2.2.2.2.2.1) (fit_z hf 8 (by decide) (by decide) h)
theorem ez9 (h : named 9 = false) : Le (row (q + 9)) (.sc (str [])) := le_of_eq (z_st hw.2.2.2.2.2.2.2.2.2 (fit_z hf 9 (by decide) (by decide) h))
end
def PairQ (a b : T) (l : List (List T)) : Prop := l.length = lenT a ∧ lenT b = lenT a ∧ ∀ i, i < lenT a → ∃ s e, l.getD i [] = .sc (str s) :: e ∧ s = nthS a i ∧ LeL 10 (rowsOf b i) 0 e
theorem pairs_le {a b : T} (ha : Wf 3 a) (hb : Wf 0 b) {l : List (List T)} (h : PairQ a b l) : Le a (ofRows 1 (l.map (·.take 1))) ∧ Le b (ofRows 10 (l.map (·.drop 1))) := by
  obtain ⟨n, row, rfl, hs⟩ := c1 ha
  obtain ⟨n', row', rfl⟩ := c10 hb
  obtain ⟨h1, h2, h3⟩ := h
  simp only [lenT] at h1 h2 h3
  subst h2
  have hg : ∀ (f : List T → List T) i, i < n' → (l.map f).getD i [] = f (l.getD i []) := fun f i hi => by
    rw [List.getD_eq_getElem?_getD, List.getD_eq_getElem?_getD, List.getElem?_map, List.getElem?_eq_getElem (by omega)]
    rfl
  refine ⟨le_rows (by simp [h1]) fun i hi => ?_, le_rows (by simp [h1]) fun i hi => ?_⟩
  · obtain ⟨s, e, h4, h5, h6⟩ := h3 i hi
    rw [hg _ i hi, h4]
    refine ⟨rfl, fun j hj => ?_⟩
    obtain rfl : j = 0 := by omega
    exact st_le (hs i hi) h5.symm
  · obtain ⟨s, e, h4, h5, h6⟩ := h3 i hi
    rw [hg _ i hi, h4]
    exact h6
section
variable {ws : List LX.LW} {m : Nat} {ex : Nat → Nat → Rs (List T)} {c : Str} {row : Nat → T} (hs : SubE ws m ex c row) (hm : m ≤ FU)
include hs
theorem bk_pair {j k i : Nat} (h : Wf 0 (row k)) (hi : i < lenT (row k)) : Bk ws m (pairP ws ex) (seqL [oneT wO, nameT (nthS (row j) i), subs c row k 0 i, shutT]) (fun x => ∃ s e, x = .sc (str s) :: e ∧ s = nthS (row j) i ∧ LeL 10 (rowsOf (row k) i) 0 e) :=
  Bk.bind (bk_open m) fun _ _ => Bk.bind (bk_name m _) fun s h1 => Bk.bind (hs.1 k h i hi) fun e h2 => Bk.bind (bk_shut m) fun _ _ => Bk.done ⟨s, e, rfl, h1.1, h2⟩
include hm in
theorem bk_pairs {j k : Nat} (h : Wf 0 (row k)) : Bk ws m (allP ws (pairP ws ex) FU) (seqL [pairsT row (subs c row) j k, shutT]) (PairQ (row j) (row k)) := by
  intro t d u e r hd hu
  by_cases hn : lenT (row j) = lenT (row k)
  · have hu : (eachT (fun i => seqL [oneT wO, nameT (nthS (row j) i), subs c row k 0 i, shutT]) (lenT (row j)) d).seq shutT = some (u, e) := by
      rw [← hu]
      show _ = (pairsT row (subs c row) j k d).seq shutT
      rw [pairsT, if_pos hn]
    exact ((bk_all [] hm (fun i hi => bk_pair hs (j := j) h (hn ▸ hi)) fun i hi d u e hu => bg_seq (fun _ _ => bg_wO) hu).mono (Nat.le_refl _) fun l hl => (⟨hl.1, hn.symm, hl.2⟩ : PairQ (row j) (row k) l)) t d u e r hd hu
  · exfalso
    have hu : (pairsT row (subs c row) j k d).seq shutT = some (u, e) := hu
    rw [pairsT, if_neg hn] at hu
    cases hu
omit hs in
theorem bk_pairsOf {ws : List LX.LW} {m : Nat} {ex : Nat → Nat → Rs (List T)} : ∀ (names : List Str) (S : Nat → Nat → Tl) (Q : Nat → List T → Prop), (∀ i, i < names.length → Bk ws m ex (S i) (Q i)) →
    Bk ws m (pairsOfP ex names) (eachT S names.length) (fun l => l.length = names.length ∧ ∀ i, i < names.length → ∃ e, l.getD i [] = .sc (str (names.getD i [])) :: e ∧ Q i e)
  | [], S, Q, h => Bk.done ⟨rfl, fun i hi => absurd hi (Nat.not_lt_zero _)⟩
  | s :: names, S, Q, h => by
    have := Bk.bind (P' := fun x t d => (pairsOfP ex names t d).bind fun l t d => .ok ((.sc (str s) :: x) :: l) t d) (h 0 (by simp)) (Q' := fun l => l.length = names.length + 1 ∧ ∀ i, i < names.length + 1 → ∃ e, l.getD i [] = .sc (str ((s :: names).getD i [])) :: e ∧ Q i e) fun x hx =>
      Bk.map (f := fun l => (.sc (str s) :: x) :: l) (bk_pairsOf names (fun i => S (i + 1)) (fun i => Q (i + 1)) fun i hi => h (i + 1) (by simpa using hi)) fun l hl => ⟨by simp [hl.1], fun i hi => by
        cases i with
        | zero => exact ⟨x, rfl, hx⟩
        | succ i => exact hl.2 i (by omega)⟩
    intro t d u e r hd hu
    exact this t d u e r hd (by rw [← hu]; exact (eachT_cons S names.length d).symm)
theorem bk_vals {q : Nat} (names : List Str) (h : Wf 0 (row (q + 5))) : Bk ws m (pairsOfP ex names) (valsT row (subs c row) names q) (PairQ (row (q + 4)) (row (q + 5))) := by
  intro t d u e r hd hu
  unfold valsT at hu
  split at hu
  · next ha =>
    unfold areB at ha
    simp only [Bool.and_eq_true, beq_iff_eq, List.all_eq_true, List.mem_range] at ha
    unfold timesT at hu
    split at hu
    · next hn =>
      have hu : eachT (subs c row (q + 5) 0) names.length d = some (u, e) := by rw [← hu, ← hn]; rfl
      exact ((bk_pairsOf names _ _ fun i hi => hs.1 (q + 5) h i (by omega)).mono (Nat.le_refl _) fun l hl => (⟨by omega, by omega, fun i hi => by
        obtain ⟨e, h1, h2⟩ := hl.2 i (by omega)
        exact ⟨_, e, h1, (ha.2 i (by omega)).symm, h2⟩⟩ : PairQ (row (q + 4)) (row (q + 5)) l)) t d u e r hd hu
    · cases hu
  · cases hu
end
section
variable {ws : List LX.LW} {m f : Nat} {c : Str} {row : Nat → T} {q : Nat}
theorem bk_first {w : LX.LW} {S' : Nat → Tl} {Q : List T → Prop} (h : Bk ws m (exprOfP ws c (exprP ws c f) w) S' Q) : Bk ws (m + 1) (exprP ws c (f + 1)) (fun d => (oneT w d).seq S') Q := by
  intro t d u e r hd hu hl hdt
  obtain ⟨a, d1, b, h1, h2, rfl⟩ := Tl.cases hu
  simp only [oneT, Option.some.injEq, Prod.mk.injEq] at h1
  obtain ⟨rfl, rfl⟩ := h1
  rw [List.append_assoc] at hd
  have hl' : b.length ≤ m := by simpa using hl
  obtain ⟨x, e1, l1, q1⟩ := h (t + 1) d b e r (drop_more (u := [w]) hd) h2 hl' (by omega)
  refine ⟨x, ?_, by simp; omega, q1⟩
  unfold exprP
  rw [head_at hd]
  show exprOfP ws c (exprP ws c f) w (t + 1) d = _
  rw [e1]
  congr 1
  simp
  omega
theorem bk_open1 {S' : Nat → Tl} {Q : List T → Prop} (h : Bk ws m (fun t d => (nameP ws t d).bind fun s t d => compoundP ws c (exprP ws c f) s t d) S' Q) : Bk ws (m + 1) (exprP ws c (f + 1)) (fun d => (oneT wO d).seq S') Q := bk_first h
theorem bk_kw {s : Str} (hr : resB s = false) {S' : Nat → Tl} {Q : List T → Prop} (h : Bk ws m (compoundP ws c (exprP ws c f) s) S' Q) : Bk ws (m + 1) (exprP ws c (f + 1)) (fun d => (opensT s d).seq S') Q :=
  (bk_open1 (Bk.bind (bk_wn m hr) fun x hx => (hx ▸ h : Bk ws m (compoundP ws c (exprP ws c f) x) S' Q))).congr fun d => by
    show _ = (oneT wO d).seq fun d => (oneT (wN s) d).seq S'
    rw [← seq_assoc]
    rfl
end
end Go.Proofs.YtedmmgfnplbkjaaGreatDoor.G
namespace Go.Proofs.YtedmmgfnplbkjaaGreatDoor.G
set_option linter.unusedVariables false
set_option linter.unusedSimpArgs false
open Go.Proofs.YtedmmgfnplbkjaaGreatDoor
section
variable {ws : List LX.LW} {c : Str} {ex : Nat → Nat → Rs (List T)}
theorem cp_if : compoundP ws c ex [105, 102] = fun t d => (timesP ex 3 t d).bind fun l t d => (shutP ws t d).bind fun _ t d => .ok (eCols 6 0 [] l [] [] 0 [] [] []) t d := rfl
theorem cp_each : compoundP ws c ex [101, 97, 99, 104] = fun t d => (nameP ws t d).bind fun n t d => (timesP ex 2 t d).bind fun l t d => (shutP ws t d).bind fun _ t d => .ok (eCols 7 0 n l [] [] 0 [] [] []) t d := rfl
theorem cp_read : compoundP ws c ex [114, 101, 97, 100] = fun t d => (timesP ex 1 t d).bind fun l t d => (shutP ws t d).bind fun _ t d => .ok (eCols 8 0 [] l [] [] 0 [] [] []) t d := rfl
theorem cp_throw : compoundP ws c ex [116, 104, 114, 111, 119] = fun t d => (timesP ex 1 t d).bind fun l t d => (shutP ws t d).bind fun _ t d => .ok (eCols 9 0 [] l [] [] 0 [] [] []) t d := rfl
theorem cp_rec : compoundP ws c ex [114, 101, 99] = fun t d => (allP ws (pairP ws ex) FU t d).bind fun l t d => .ok (eCols 10 0 [] [] (l.map (·.take 1)) (l.map (·.drop 1)) 0 [] [] []) t d := rfl
theorem cp_do : compoundP ws c ex [100, 111] = fun t d => (allP ws (actP ws ex) FU t (d + 1)).bind fun l t d' => .ok (eCols 12 0 [] [] [] [] 0 [] l (siteS c d)) t d' := rfl
theorem cp_host : compoundP ws c ex [104, 111, 115, 116] = elemP ws ex 1 := rfl
theorem cp_new : compoundP ws c ex [110, 101, 119] = elemP ws ex 2 := rfl
theorem cp_pure : compoundP ws c ex [112, 117, 114, 101] = elemP ws ex 3 := rfl
theorem cp_frag : compoundP ws c ex [102, 114, 97, 103] = elemP ws ex 4 := rfl
theorem cp_portal : compoundP ws c ex [112, 111, 114, 116, 97, 108] = elemP ws ex 5 := rfl
theorem cp_give : compoundP ws c ex [103, 105, 118, 101] = elemP ws ex 6 := rfl
theorem cp_guard : compoundP ws c ex [103, 117, 97, 114, 100] = elemP ws ex 7 := rfl
theorem cp_wait : compoundP ws c ex [119, 97, 105, 116] = elemP ws ex 8 := rfl
theorem cp_op {s : Str} (h : keyB s = false) : compoundP ws c ex s = fun t d => (allP ws ex FU t d).bind fun l t d => .ok (eCols 5 0 s l [] [] 0 [] [] []) t d := by
  unfold keyB at h
  simp only [Bool.or_eq_false_iff, beq_eq_false_iff_ne, ne_eq] at h
  obtain ⟨⟨⟨⟨⟨⟨⟨⟨⟨⟨⟨⟨⟨h1, h2⟩, h3⟩, h4⟩, h5⟩, h6⟩, h7⟩, h8⟩, h9⟩, h10⟩, h11⟩, h12⟩, h13⟩, h14⟩ := h
  funext t d
  unfold compoundP
  rw [if_neg h1, if_neg h2, if_neg h3, if_neg h4, if_neg h5, if_neg h6, if_neg h7, if_neg h8, if_neg h9, if_neg h10, if_neg h11, if_neg h12, if_neg h13, if_neg h14]
end
section
variable {ws : List LX.LW} {m f : Nat} {c : Str} {row : Nat → T} {q : Nat} (hw : WE row q) (hs : SubE ws m (exprP ws c f) c row) (hm : m ≤ FU)
include hw hs
theorem bk_if (hk : num (row q) = 6) (hf : fitE (namedE 6) row q = true) : Bk ws (m + 1) (exprP ws c (f + 1)) (seqL [opensT [105, 102], timesT row (subs c row) 3 (q + 3), shutT]) (LeL 10 row q) :=
  (bk_kw (m := m) (f := f) (c := c) (s := [105, 102]) rfl (cp_if ▸ Bk.bind (bk_timesT hs (n := 3) hw.2.2.2.1) fun l hl => Bk.bind (bk_shut m) fun _ _ => Bk.done (le_e (i8_num hw.1 hk) (ez1 hw hf rfl) (ez2 hw hf rfl) hl (ez4 hw hf rfl) (ez5 hw hf rfl) (ez6 hw hf rfl) (ez7 hw hf rfl) (ez8 hw hf rfl) (ez9 hw hf rfl)))).congr fun d => rfl
theorem bk_each (hk : num (row q) = 7) (hf : fitE (namedE 7) row q = true) : Bk ws (m + 1) (exprP ws c (f + 1)) (seqL [opensT [101, 97, 99, 104], nameT (strT (row (q + 2))), timesT row (subs c row) 2 (q + 3), shutT]) (LeL 10 row q) :=
  (bk_kw (m := m) (f := f) (c := c) (s := [101, 97, 99, 104]) rfl (cp_each ▸ Bk.bind (bk_name m _) fun s h2 => Bk.bind (bk_timesT hs (n := 2) hw.2.2.2.1) fun l hl => Bk.bind (bk_shut m) fun _ _ => Bk.done (le_e (i8_num hw.1 hk) (ez1 hw hf rfl) (st_le hw.2.2.1 h2.1.symm) hl (ez4 hw hf rfl) (ez5 hw hf rfl) (ez6 hw hf rfl) (ez7 hw hf rfl) (ez8 hw hf rfl) (ez9 hw hf rfl)))).congr fun d => rfl
theorem bk_read (hk : num (row q) = 8) (hf : fitE (namedE 8) row q = true) : Bk ws (m + 1) (exprP ws c (f + 1)) (seqL [opensT [114, 101, 97, 100], timesT row (subs c row) 1 (q + 3), shutT]) (LeL 10 row q) :=
  (bk_kw (m := m) (f := f) (c := c) (s := [114, 101, 97, 100]) rfl (cp_read ▸ Bk.bind (bk_timesT hs (n := 1) hw.2.2.2.1) fun l hl => Bk.bind (bk_shut m) fun _ _ => Bk.done (le_e (i8_num hw.1 hk) (ez1 hw hf rfl) (ez2 hw hf rfl) hl (ez4 hw hf rfl) (ez5 hw hf rfl) (ez6 hw hf rfl) (ez7 hw hf rfl) (ez8 hw hf rfl) (ez9 hw hf rfl)))).congr fun d => rfl
theorem bk_throw (hk : num (row q) = 9) (hf : fitE (namedE 9) row q = true) : Bk ws (m + 1) (exprP ws c (f + 1)) (seqL [opensT [116, 104, 114, 111, 119], timesT row (subs c row) 1 (q + 3), shutT]) (LeL 10 row q) :=
  (bk_kw (m := m) (f := f) (c := c) (s := [116, 104, 114, 111, 119]) rfl (cp_throw ▸ Bk.bind (bk_timesT hs (n := 1) hw.2.2.2.1) fun l hl => Bk.bind (bk_shut m) fun _ _ => Bk.done (le_e (i8_num hw.1 hk) (ez1 hw hf rfl) (ez2 hw hf rfl) hl (ez4 hw hf rfl) (ez5 hw hf rfl) (ez6 hw hf rfl) (ez7 hw hf rfl) (ez8 hw hf rfl) (ez9 hw hf rfl)))).congr fun d => rfl
include hm
theorem bk_rec (hk : num (row q) = 10) (hf : fitE (namedE 10) row q = true) : Bk ws (m + 1) (exprP ws c (f + 1)) (seqL [opensT [114, 101, 99], pairsT row (subs c row) (q + 4) (q + 5), shutT]) (LeL 10 row q) :=
  (bk_kw (m := m) (f := f) (c := c) (s := [114, 101, 99]) rfl (cp_rec ▸ Bk.map (f := fun l => eCols 10 0 [] [] (l.map (·.take 1)) (l.map (·.drop 1)) 0 [] [] []) (bk_pairs hs hm (j := q + 4) hw.2.2.2.2.2.1) fun l hl =>
    have hp := pairs_le hw.2.2.2.2.1 hw.2.2.2.2.2.1 hl
    le_e (i8_num hw.1 hk) (ez1 hw hf rfl) (ez2 hw hf rfl) (ez3 hw hf rfl) hp.1 hp.2 (ez6 hw hf rfl) (ez7 hw hf rfl) (ez8 hw hf rfl) (ez9 hw hf rfl))).congr fun d => rfl
theorem bk_op (hk : num (row q) = 5) (hf : fitE (namedE 5) row q = true) : Bk ws (m + 1) (exprP ws c (f + 1)) (seqL [oneT wO, opT (strT (row (q + 2))), colT row (subs c row) (q + 3) 0, shutT]) (LeL 10 row q) := by
  by_cases hkey : keyB (strT (row (q + 2))) = true
  · intro t d u e r hd hu
    exfalso
    obtain ⟨a, d1, b, -, h2, -⟩ := Tl.cases (show (oneT wO d).seq (seqL [opT (strT (row (q + 2))), colT row (subs c row) (q + 3) 0, shutT]) = some (u, e) from hu)
    obtain ⟨a2, d2, b2, h3, -, -⟩ := Tl.cases (show (opT (strT (row (q + 2))) d1).seq (seqL [colT row (subs c row) (q + 3) 0, shutT]) = some (b, e) from h2)
    rw [opT, if_pos hkey] at h3
    cases h3
  · have hkey : keyB (strT (row (q + 2))) = false := by simpa using hkey
    refine (bk_open1 (m := m) (f := f) (c := c) (Bk.bind (bk_name m (strT (row (q + 2)))) (S' := seqL [colT row (subs c row) (q + 3) 0, shutT]) (Q' := LeL 10 row q) fun s h2 => ?_)).congr fun d => ?_
    · obtain ⟨rfl, -⟩ := h2
      rw [cp_op hkey]
      exact Bk.map (f := fun l => eCols 5 0 (strT (row (q + 2))) l [] [] 0 [] [] []) (bk_col hs hm (j := q + 3) hw.2.2.2.1) fun l hl => le_e (i8_num hw.1 hk) (ez1 hw hf rfl) (st_le hw.2.2.1 rfl) hl (ez4 hw hf rfl) (ez5 hw hf rfl) (ez6 hw hf rfl) (ez7 hw hf rfl) (ez8 hw hf rfl) (ez9 hw hf rfl)
    · show (oneT wO d).seq (fun d => (opT (strT (row (q + 2))) d).seq _) = _
      have : opT (strT (row (q + 2))) = nameT (strT (row (q + 2))) := by funext d; rw [opT, hkey]; rfl
      rw [this]
theorem bk_do (hN : ws.length ≤ 4611686018427387904) (hk : num (row q) = 12) (hf : fitE (namedE 12) row q = true) : Bk ws (m + 1) (exprP ws c (f + 1)) (fun d => if strT (row (q + 9)) = siteW c d then seqL [opensT [100, 111], colT row (subs c row) (q + 8) 1, shutT] (d + 1) else none) (LeL 10 row q) := by
  intro t d u e r hd hu hl hdt
  dsimp only at hu
  split at hu
  · next hsite =>
    obtain ⟨a, d1, b, h1, h2, rfl⟩ := Tl.cases (show (opensT [100, 111] (d + 1)).seq (seqL [colT row (subs c row) (q + 8) 1, shutT]) = some (u, e) from hu)
    simp only [opensT, Option.some.injEq, Prod.mk.injEq] at h1
    obtain ⟨rfl, rfl⟩ := h1
    have ht : t < ws.length := by
      have := congrArg List.length hd
      simp at this
      omega
    have hwr : siteW c d = siteS c d := by
      unfold siteW siteS
      rw [wr_small (by omega)]
    have hd0 : ws.drop t = [wO] ++ ([wN [100, 111]] ++ (b ++ r)) := by rw [hd]; simp
    have hd1 := drop_more (u := [wO]) hd0
    obtain ⟨x, e1, -, hx⟩ := bk_wn 1 (s := [100, 111]) rfl (t + 1) d [wN [100, 111]] d (b ++ r) hd1 rfl (Nat.le_refl _) (by omega)
    have hd2 := drop_more (u := [wN [100, 111]]) hd1
    have hl' : b.length ≤ m := by simp at hl; omega
    obtain ⟨l, e2, l2, q2⟩ := bk_acts hs hm (j := q + 8) hw.2.2.2.2.2.2.2.2.1 (t + 1 + 1) (d + 1) b e r hd2 h2 hl' (by omega)
    refine ⟨eCols 12 0 [] [] [] [] 0 [] l (siteS c d), ?_, by simp; omega, le_e (i8_num hw.1 hk) (ez1 hw hf rfl) (ez2 hw hf rfl) (ez3 hw hf rfl) (ez4 hw hf rfl) (ez5 hw hf rfl) (ez6 hw hf rfl) (ez7 hw hf rfl) q2 (st_le hw.2.2.2.2.2.2.2.2.2 (hsite.trans hwr))⟩
    unfold exprP
    rw [head_at hd0]
    show (nameP ws (t + 1) d).bind (fun s t d => compoundP ws c (exprP ws c f) s t d) = _
    rw [e1, Rs.bind_ok, hx, cp_do]
    show (allP ws (actP ws (exprP ws c f)) FU (t + 1 + 1) (d + 1)).bind _ = _
    rw [e2, Rs.bind_ok]
    congr 1
    simp
    omega
  · cases hu
theorem bk_tagged {Q' : List T → Prop} {k : Int} (hfin : ∀ key s l args, Le (row (q + 7)) (ofRows 10 key) → s = strT (row (q + 2)) → PairQ (row (q + 4)) (row (q + 5)) l → Le (row (q + 3)) (ofRows 10 args) → Q' (eCols 11 0 s args (l.map (·.take 1)) (l.map (·.drop 1)) k key [] [])) :
    Bk ws m (fun t d => (keyP ws (exprP ws c f) t d).bind fun key t d => (nameP ws t d).bind fun s t d => (withinP ws (pairP ws (exprP ws c f)) t d).bind fun l t d => (allP ws (exprP ws c f) FU t d).bind fun args t d => .ok (eCols 11 0 s args (l.map (·.take 1)) (l.map (·.drop 1)) k key [] []) t d)
      (seqL [keyT row (subs c row) (q + 7), taggedT row (subs c row) q, colT row (subs c row) (q + 3) 0, shutT]) Q' := by
  refine (Bk.bind (bk_keyT hs hw.2.2.2.2.2.2.2.1) (S' := fun d => (nameT (strT (row (q + 2))) d).seq fun d => (Tl.seq ((oneT wO d).seq (seqL [pairsT row (subs c row) (q + 4) (q + 5), shutT])) (seqL [colT row (subs c row) (q + 3) 0, shutT]))) fun key hkey => Bk.bind (bk_name m _) fun s h2 =>
    Bk.bind (Bk.bind (bk_open m) fun _ _ => bk_pairs hs hm (j := q + 4) hw.2.2.2.2.2.1) fun l hl => Bk.map (f := fun args => eCols 11 0 s args (l.map (·.take 1)) (l.map (·.drop 1)) k key [] []) (bk_col hs hm (j := q + 3) hw.2.2.2.1) fun args ha => hfin key s l args hkey h2.1 hl ha).congr fun d => ?_
  show (keyT row (subs c row) (q + 7) d).seq _ = _
  congr 1
  funext d
  show (taggedT row (subs c row) q d).seq _ = _
  exact seq_assoc _ _ _
end
end Go.Proofs.YtedmmgfnplbkjaaGreatDoor.G
namespace Go.Proofs.YtedmmgfnplbkjaaGreatDoor.G
set_option linter.unusedVariables false
set_option linter.unusedSimpArgs false
open Go.Proofs.YtedmmgfnplbkjaaGreatDoor
section
variable {ws : List LX.LW} {m f : Nat} {c : Str} {row : Nat → T} {q : Nat} (hw : WE row q) (hs : SubE ws m (exprP ws c f) c row) (hm : m ≤ FU)
include hw hs hm
theorem bk_elemTag {k : Int} (h123 : k = 1 ∨ k = 2 ∨ k = 3) (hk : num (row q) = 11) (hl : num (row (q + 6)) = k) (hf : fitE (namedL k) row q = true) :
    Bk ws m (elemP ws (exprP ws c f) k) (seqL [keyT row (subs c row) (q + 7), taggedT row (subs c row) q, colT row (subs c row) (q + 3) 0, shutT]) (LeL 10 row q) := by
  have hn : namedL k 1 = false ∧ namedL k 8 = false ∧ namedL k 9 = false := by rcases h123 with rfl | rfl | rfl <;> exact ⟨rfl, rfl, rfl⟩
  have h0 : elemP ws (exprP ws c f) k = fun t d => (keyP ws (exprP ws c f) t d).bind fun key t d => (nameP ws t d).bind fun s t d => (withinP ws (pairP ws (exprP ws c f)) t d).bind fun l t d => (allP ws (exprP ws c f) FU t d).bind fun args t d => .ok (eCols 11 0 s args (l.map (·.take 1)) (l.map (·.drop 1)) k key [] []) t d := by
    rcases h123 with rfl | rfl | rfl <;> rfl
  rw [h0]
  exact bk_tagged hw hs hm fun key s l args hkey h2 hp ha =>
    have hp := pairs_le hw.2.2.2.2.1 hw.2.2.2.2.2.1 hp
    le_e (i8_num hw.1 hk) (ez1 hw hf hn.1) (st_le hw.2.2.1 h2.symm) ha hp.1 hp.2 (i8_num hw.2.2.2.2.2.2.1 hl) hkey (ez8 hw hf hn.2.1) (ez9 hw hf hn.2.2)
theorem bk_frag (hk : num (row q) = 11) (hl : num (row (q + 6)) = 4) (hf : fitE (namedL 4) row q = true) :
    Bk ws m (elemP ws (exprP ws c f) 4) (seqL [keyT row (subs c row) (q + 7), fun d => some ([], d), colT row (subs c row) (q + 3) 0, shutT]) (LeL 10 row q) := by
  have h0 : elemP ws (exprP ws c f) 4 = fun t d => (keyP ws (exprP ws c f) t d).bind fun key t d => (allP ws (exprP ws c f) FU t d).bind fun args t d => .ok (eCols 11 0 [] args [] [] 4 key [] []) t d := rfl
  rw [h0]
  refine (Bk.bind (bk_keyT hs hw.2.2.2.2.2.2.2.1) (S' := seqL [colT row (subs c row) (q + 3) 0, shutT]) (Q' := LeL 10 row q) fun key hkey => Bk.map (f := fun args => eCols 11 0 [] args [] [] 4 key [] []) (bk_col hs hm (j := q + 3) hw.2.2.2.1) fun args ha =>
    le_e (i8_num hw.1 hk) (ez1 hw hf rfl) (ez2 hw hf rfl) ha (ez4 hw hf rfl) (ez5 hw hf rfl) (i8_num hw.2.2.2.2.2.2.1 hl) hkey (ez8 hw hf rfl) (ez9 hw hf rfl)).congr fun d => ?_
  show (keyT row (subs c row) (q + 7) d).seq _ = _
  congr 1
  funext d
  exact nil_seq d _
theorem bk_portal (hk : num (row q) = 11) (hl : num (row (q + 6)) = 5) (hf : fitE (namedL 5) row q = true) :
    Bk ws m (elemP ws (exprP ws c f) 5) (seqL [keyT row (subs c row) (q + 7), nameT (strT (row (q + 2))), colT row (subs c row) (q + 3) 0, shutT]) (LeL 10 row q) := by
  have h0 : elemP ws (exprP ws c f) 5 = fun t d => (keyP ws (exprP ws c f) t d).bind fun key t d => (nameP ws t d).bind fun s t d => (allP ws (exprP ws c f) FU t d).bind fun args t d => .ok (eCols 11 0 s args [] [] 5 key [] []) t d := rfl
  rw [h0]
  exact (Bk.bind (bk_keyT hs hw.2.2.2.2.2.2.2.1) (S' := seqL [nameT (strT (row (q + 2))), colT row (subs c row) (q + 3) 0, shutT]) (Q' := LeL 10 row q) fun key hkey => Bk.bind (bk_name m _) fun s h2 => Bk.map (f := fun args => eCols 11 0 s args [] [] 5 key [] []) (bk_col hs hm (j := q + 3) hw.2.2.2.1) fun args ha =>
    le_e (i8_num hw.1 hk) (ez1 hw hf rfl) (st_le hw.2.2.1 h2.1.symm) ha (ez4 hw hf rfl) (ez5 hw hf rfl) (i8_num hw.2.2.2.2.2.2.1 hl) hkey (ez8 hw hf rfl) (ez9 hw hf rfl)).congr fun d => rfl
theorem bk_give (hk : num (row q) = 11) (hl : num (row (q + 6)) = 6) (hf : fitE (namedL 6) row q = true) :
    Bk ws m (elemP ws (exprP ws c f) 6) (seqL [keyT row (subs c row) (q + 7), givesT row (subs c row) q, colT row (subs c row) (q + 3) 0, shutT]) (LeL 10 row q) := by
  have h0 : elemP ws (exprP ws c f) 6 = fun t d => (keyP ws (exprP ws c f) t d).bind fun key t d => (nameP ws t d).bind fun s t d => (pairsOfP (exprP ws c f) [[118, 97, 108, 117, 101]] t d).bind fun l t d => (allP ws (exprP ws c f) FU t d).bind fun args t d => .ok (eCols 11 0 s args (l.map (·.take 1)) (l.map (·.drop 1)) 6 key [] []) t d := rfl
  rw [h0]
  refine (Bk.bind (bk_keyT hs hw.2.2.2.2.2.2.2.1) (S' := fun d => (nameT (strT (row (q + 2))) d).seq fun d => (valsT row (subs c row) [[118, 97, 108, 117, 101]] q d).seq (seqL [colT row (subs c row) (q + 3) 0, shutT])) (Q' := LeL 10 row q) fun key hkey => Bk.bind (bk_name m _) fun s h2 => Bk.bind (bk_vals hs _ hw.2.2.2.2.2.1) fun l hp =>
    have hp := pairs_le hw.2.2.2.2.1 hw.2.2.2.2.2.1 hp
    Bk.map (f := fun args => eCols 11 0 s args (l.map (·.take 1)) (l.map (·.drop 1)) 6 key [] []) (bk_col hs hm (j := q + 3) hw.2.2.2.1) fun args ha =>
    le_e (i8_num hw.1 hk) (ez1 hw hf rfl) (st_le hw.2.2.1 h2.1.symm) ha hp.1 hp.2 (i8_num hw.2.2.2.2.2.2.1 hl) hkey (ez8 hw hf rfl) (ez9 hw hf rfl)).congr fun d => ?_
  show (keyT row (subs c row) (q + 7) d).seq _ = _
  congr 1
  funext d
  show (givesT row (subs c row) q d).seq _ = _
  unfold givesT
  show ((nameT (strT (row (q + 2))) d).seq (fun d => (valsT row (subs c row) [[118, 97, 108, 117, 101]] q d).seq fun d => some ([], d))).seq _ = _
  rw [seq_assoc]
  congr 1
  funext d
  rw [seq_nil]
theorem bk_valsEl {k : Int} {names : List Str} (h0 : elemP ws (exprP ws c f) k = fun t d => (keyP ws (exprP ws c f) t d).bind fun key t d => (pairsOfP (exprP ws c f) names t d).bind fun l t d => (allP ws (exprP ws c f) FU t d).bind fun args t d => .ok (eCols 11 0 [] args (l.map (·.take 1)) (l.map (·.drop 1)) k key [] []) t d)
    (hn : namedL k 1 = false ∧ namedL k 2 = false ∧ namedL k 8 = false ∧ namedL k 9 = false) (hk : num (row q) = 11) (hl : num (row (q + 6)) = k) (hf : fitE (namedL k) row q = true) :
    Bk ws m (elemP ws (exprP ws c f) k) (seqL [keyT row (subs c row) (q + 7), valsT row (subs c row) names q, colT row (subs c row) (q + 3) 0, shutT]) (LeL 10 row q) := by
  rw [h0]
  exact (Bk.bind (bk_keyT hs hw.2.2.2.2.2.2.2.1) (S' := seqL [valsT row (subs c row) names q, colT row (subs c row) (q + 3) 0, shutT]) (Q' := LeL 10 row q) fun key hkey => Bk.bind (bk_vals hs _ hw.2.2.2.2.2.1) fun l hp =>
    have hp := pairs_le hw.2.2.2.2.1 hw.2.2.2.2.2.1 hp
    Bk.map (f := fun args => eCols 11 0 [] args (l.map (·.take 1)) (l.map (·.drop 1)) k key [] []) (bk_col hs hm (j := q + 3) hw.2.2.2.1) fun args ha =>
    le_e (i8_num hw.1 hk) (ez1 hw hf hn.1) (ez2 hw hf hn.2.1) ha hp.1 hp.2 (i8_num hw.2.2.2.2.2.2.1 hl) hkey (ez8 hw hf hn.2.2.1) (ez9 hw hf hn.2.2.2)).congr fun d => rfl
theorem bk_elem (hk : num (row q) = 11) : Bk ws (m + 1) (exprP ws c (f + 1)) (elemT row (subs c row) q) (LeL 10 row q) := by
  intro t d u e r hd hu hl hdt
  unfold elemT at hu
  split at hu
  · cases hu
  · next hf =>
    have hf : fitE (namedL (num (row (q + 6)))) row q = true := by simpa using hf
    split at hu
    · next h => rw [h] at hf; exact (bk_kw (m := m) (f := f) (c := c) (s := [104, 111, 115, 116]) rfl (cp_host ▸ bk_elemTag hw hs hm (.inl rfl) hk h hf)) t d u e r hd hu hl hdt
    split at hu
    · next h => rw [h] at hf; exact (bk_kw (m := m) (f := f) (c := c) (s := [110, 101, 119]) rfl (cp_new ▸ bk_elemTag hw hs hm (.inr (.inl rfl)) hk h hf)) t d u e r hd hu hl hdt
    split at hu
    · next h => rw [h] at hf; exact (bk_kw (m := m) (f := f) (c := c) (s := [112, 117, 114, 101]) rfl (cp_pure ▸ bk_elemTag hw hs hm (.inr (.inr rfl)) hk h hf)) t d u e r hd hu hl hdt
    split at hu
    · next h => rw [h] at hf; exact (bk_kw (m := m) (f := f) (c := c) (s := [102, 114, 97, 103]) rfl (cp_frag ▸ bk_frag hw hs hm hk h hf)) t d u e r hd hu hl hdt
    split at hu
    · next h => rw [h] at hf; exact (bk_kw (m := m) (f := f) (c := c) (s := [112, 111, 114, 116, 97, 108]) rfl (cp_portal ▸ bk_portal hw hs hm hk h hf)) t d u e r hd hu hl hdt
    split at hu
    · next h => rw [h] at hf; exact (bk_kw (m := m) (f := f) (c := c) (s := [103, 105, 118, 101]) rfl (cp_give ▸ bk_give hw hs hm hk h hf)) t d u e r hd hu hl hdt
    split at hu
    · next h => rw [h] at hf; exact (bk_kw (m := m) (f := f) (c := c) (s := [103, 117, 97, 114, 100]) rfl (cp_guard ▸ bk_valsEl hw hs hm rfl ⟨rfl, rfl, rfl, rfl⟩ hk h hf)) t d u e r hd hu hl hdt
    split at hu
    · next h => rw [h] at hf; exact (bk_kw (m := m) (f := f) (c := c) (s := [119, 97, 105, 116]) rfl (cp_wait ▸ bk_valsEl hw hs hm rfl ⟨rfl, rfl, rfl, rfl⟩ hk h hf)) t d u e r hd hu hl hdt
    · cases hu
theorem bk_compound (hN : ws.length ≤ 4611686018427387904) (hf : fitE (namedE (num (row q))) row q = true) : Bk ws (m + 1) (exprP ws c (f + 1)) (compoundT c row (subs c row) q) (LeL 10 row q) := by
  intro t d u e r hd hu hl hdt
  unfold compoundT at hu
  split at hu
  · next h => rw [h] at hf; exact bk_op hw hs hm h hf t d u e r hd hu hl hdt
  split at hu
  · next h => rw [h] at hf; exact bk_if hw hs h hf t d u e r hd hu hl hdt
  split at hu
  · next h => rw [h] at hf; exact bk_each hw hs h hf t d u e r hd hu hl hdt
  split at hu
  · next h => rw [h] at hf; exact bk_read hw hs h hf t d u e r hd hu hl hdt
  split at hu
  · next h => rw [h] at hf; exact bk_throw hw hs h hf t d u e r hd hu hl hdt
  split at hu
  · next h => rw [h] at hf; exact bk_rec hw hs hm h hf t d u e r hd hu hl hdt
  split at hu
  · next h => rw [h] at hf; exact bk_do hw hs hm hN h hf t d u e r hd hu hl hdt
  · cases hu
omit hs hm hw in
theorem bk_word {w : LX.LW} {x : List T} {Q : List T → Prop} (h : exprOfP ws c (exprP ws c f) w = fun t d => .ok x t d) (hq : Q x) : Bk ws (m + 1) (exprP ws c (f + 1)) (oneT w) Q :=
  (bk_first (m := m) (f := f) (c := c) (w := w) (S' := fun d => some ([], d)) (Q := Q) (h ▸ Bk.done hq)).congr fun d => (seq_nil _).symm
theorem bk_expr (hN : ws.length ≤ 4611686018427387904) : Bk ws (m + 1) (exprP ws c (f + 1)) (exprT c row q) (LeL 10 row q) := by
  intro t d u e r hd hu hl hdt
  unfold exprT exprF at hu
  split at hu
  · cases hu
  · next hf =>
    have hf : fitE (namedE (num (row q))) row q = true := by simpa using hf
    split at hu
    · next h =>
      rw [h] at hf
      exact bk_word (x := eNone) rfl (le_e (i8_num hw.1 h) (ez1 hw hf rfl) (ez2 hw hf rfl) (ez3 hw hf rfl) (ez4 hw hf rfl) (ez5 hw hf rfl) (ez6 hw hf rfl) (ez7 hw hf rfl) (ez8 hw hf rfl) (ez9 hw hf rfl)) t d u e r hd hu hl hdt
    split at hu
    · next h =>
      rw [h] at hf
      exact bk_word (x := eCols 1 (num (row (q + 1))) [] [] [] [] 0 [] [] []) rfl (le_e (i8_num hw.1 h) (i64_num hw.2.1 rfl) (ez2 hw hf rfl) (ez3 hw hf rfl) (ez4 hw hf rfl) (ez5 hw hf rfl) (ez6 hw hf rfl) (ez7 hw hf rfl) (ez8 hw hf rfl) (ez9 hw hf rfl)) t d u e r hd hu hl hdt
    split at hu
    · next h =>
      rw [h] at hf
      unfold truthT at hu
      split at hu
      · next h1 => exact bk_word (x := eCols 2 1 [] [] [] [] 0 [] [] []) rfl (le_e (i8_num hw.1 h) (i64_num hw.2.1 h1) (ez2 hw hf rfl) (ez3 hw hf rfl) (ez4 hw hf rfl) (ez5 hw hf rfl) (ez6 hw hf rfl) (ez7 hw hf rfl) (ez8 hw hf rfl) (ez9 hw hf rfl)) t d u e r hd hu hl hdt
      split at hu
      · next h1 => exact bk_word (x := eCols 2 0 [] [] [] [] 0 [] [] []) rfl (le_e (i8_num hw.1 h) (i64_num hw.2.1 h1) (ez2 hw hf rfl) (ez3 hw hf rfl) (ez4 hw hf rfl) (ez5 hw hf rfl) (ez6 hw hf rfl) (ez7 hw hf rfl) (ez8 hw hf rfl) (ez9 hw hf rfl)) t d u e r hd hu hl hdt
      · cases hu
    split at hu
    · next h =>
      rw [h] at hf
      unfold textT at hu
      split at hu
      · exact bk_word (x := eCols 3 0 (strT (row (q + 2))) [] [] [] 0 [] [] []) rfl (le_e (i8_num hw.1 h) (ez1 hw hf rfl) (st_le hw.2.2.1 rfl) (ez3 hw hf rfl) (ez4 hw hf rfl) (ez5 hw hf rfl) (ez6 hw hf rfl) (ez7 hw hf rfl) (ez8 hw hf rfl) (ez9 hw hf rfl)) t d u e r hd hu hl hdt
      · cases hu
    split at hu
    · next h =>
      rw [h] at hf
      unfold nameT at hu
      split at hu
      · next ho =>
        have hr := nameOk_res ho
        unfold resB at hr
        simp only [Bool.or_eq_false_iff, beq_eq_false_iff_ne, ne_eq] at hr
        obtain ⟨⟨⟨h1, h2⟩, h3⟩, h4⟩ := hr
        refine bk_word (x := eCols 4 0 (strT (row (q + 2))) [] [] [] 0 [] [] []) ?_ (le_e (i8_num hw.1 h) (ez1 hw hf rfl) (st_le hw.2.2.1 rfl) (ez3 hw hf rfl) (ez4 hw hf rfl) (ez5 hw hf rfl) (ez6 hw hf rfl) (ez7 hw hf rfl) (ez8 hw hf rfl) (ez9 hw hf rfl)) t d u e r hd hu hl hdt
        funext t d
        show plainP (strT (row (q + 2))) t d = _
        unfold plainP
        rw [if_neg h1, if_neg h2, if_neg h3, if_neg h4]
      · cases hu
    split at hu
    · next h => exact bk_elem hw hs hm h t d u e r hd hu hl hdt
    · exact bk_compound hw hs hm hN hf t d u e r hd hu hl hdt
end
end Go.Proofs.YtedmmgfnplbkjaaGreatDoor.G
namespace Go.Proofs.YtedmmgfnplbkjaaGreatDoor.G
set_option linter.unusedVariables false
set_option linter.unusedSimpArgs false
open Go.Proofs.YtedmmgfnplbkjaaGreatDoor
theorem Bk.none0 {α : Type} {ws : List LX.LW} {P : Nat → Nat → Rs α} {S : Nat → Tl} {Q : α → Prop} (h : ∀ d u e, S d = some (u, e) → Bg u) : Bk ws 0 P S Q := by
  intro t d u e r hd hu hl hdt
  obtain ⟨w, v, rfl, -⟩ := h d u e hu
  simp at hl
theorem bk_kwA {α : Type} {ws : List LX.LW} {m : Nat} {s : Str} (hr : resB s = false) {K : Str → Nat → Nat → Rs α} {S' : Nat → Tl} {Q : α → Prop} (h : Bk ws m (K s) S' Q) :
    Bk ws m (fun t d => (openP ws t d).bind fun _ t d => (nameP ws t d).bind fun s t d => K s t d) (fun d => (opensT s d).seq S') Q :=
  (Bk.bind (bk_open m) fun _ _ => Bk.bind (bk_wn m hr) fun x hx => (hx ▸ h : Bk ws m (K x) S' Q)).congr fun d => by
    show _ = (oneT wO d).seq fun d => (oneT (wN s) d).seq S'
    rw [← seq_assoc]
    rfl
theorem bk_kw2 {α : Type} {ws : List LX.LW} {m : Nat} {s : Str} (hr : resB s = false) {K : Str → Nat → Nat → Rs α} {S' : Nat → Tl} {Q : α → Prop} (h : Bk ws m (K s) S' Q) :
    Bk ws (m + 2) (fun t d => (openP ws t d).bind fun _ t d => (nameP ws t d).bind fun s t d => K s t d) (fun d => (opensT s d).seq S') Q := by
  intro t d u e r hd hu hl hdt
  obtain ⟨a, d1, b, h1, h2, rfl⟩ := Tl.cases hu
  simp only [opensT, Option.some.injEq, Prod.mk.injEq] at h1
  obtain ⟨rfl, rfl⟩ := h1
  have hd0 : ws.drop t = [wO] ++ ([wN s] ++ (b ++ r)) := by rw [hd]; simp
  have hd1 := drop_more (u := [wO]) hd0
  have hd2 := drop_more (u := [wN s]) hd1
  obtain ⟨x, e1, -, -⟩ := bk_open 1 t d [wO] d _ hd0 rfl (Nat.le_refl _) hdt
  obtain ⟨y, e2, -, hy⟩ := bk_wn 1 hr (t + 1) d [wN s] d _ hd1 rfl (Nat.le_refl _) (by omega)
  have hl' : b.length ≤ m := by simp at hl; omega
  obtain ⟨z, e3, l3, q3⟩ := h (t + 1 + 1) d b e r hd2 h2 hl' (by omega)
  refine ⟨z, ?_, by simp; omega, q3⟩
  show (openP ws t d).bind _ = _
  rw [e1, Rs.bind_ok]
  show (nameP ws (t + 1) d).bind _ = _
  rw [e2, Rs.bind_ok, hy]
  show K s (t + 1 + 1) d = _
  rw [e3]
  congr 1
  simp
  omega
section
variable {ws : List LX.LW} {c : Str} {row : Nat → T}
def AllSub (ws : List LX.LW) (c : Str) (row : Nat → T) : Prop := ∀ f m, m ≤ f → m ≤ FU → SubE ws m (exprP ws c f) c row
theorem SubE.less {m m' : Nat} {ex : Nat → Nat → Rs (List T)} (h : SubE ws m ex c row) (hm : m' ≤ m) : SubE ws m' ex c row :=
  ⟨fun j hj i hi => (h.1 j hj i hi).mono hm fun _ h => h, fun j hj i hi => (h.2 j hj i hi).mono hm fun _ h => h⟩
variable (hA : AllSub ws c row) (hN : ws.length ≤ 4611686018427387904)
include hA hN
theorem expr_all {q : Nat} (hw : WE row q) : ∀ f m, m ≤ f → m ≤ FU → Bk ws m (exprP ws c f) (exprT c row q) (LeL 10 row q)
  | f, 0, _, _ => Bk.none0 fun d u e hu => bg_exprF hu
  | 0, m + 1, h, _ => absurd h (by omega)
  | f + 1, m + 1, h, hm => bk_expr hw (hA f m (by omega) (by omega)) (by omega) hN
omit hA hN in
theorem zero_e {q : Nat} (hw : WE row q) (h : zeroE row q = true) : LeL 10 row q eNone := by
  unfold zeroE at h
  simp only [Bool.and_eq_true, beq_iff_eq] at h
  obtain ⟨h0, hf⟩ := h
  exact le_e (i8_num hw.1 h0) (ez1 hw hf rfl) (ez2 hw hf rfl) (ez3 hw hf rfl) (ez4 hw hf rfl) (ez5 hw hf rfl) (ez6 hw hf rfl) (ez7 hw hf rfl) (ez8 hw hf rfl) (ez9 hw hf rfl)
omit hA hN in
theorem le_a {k : Int} {n : Str} {e : List T} (h0 : Le (row 0) (.sc (.int .u8 k))) (h1 : Le (row 1) (.sc (str n))) (he : LeL 10 row 2 e) : LeL 12 row 0 (aCols k n e) := by
  refine ⟨by simp [aCols, he.1], fun j hj => ?_⟩
  match j, hj with
  | 0, _ => exact h0
  | 1, _ => exact h1
  | j + 2, hj =>
    have := he.2 j (by omega)
    have e0 : 0 + (j + 2) = 2 + j := by omega
    show Le (row (0 + (j + 2))) (e.getD j default)
    rw [e0]
    exact this
theorem act_all (hw : WA row) (f m : Nat) (hfm : m ≤ f) (hm : m ≤ FU) : Bk ws m (actP ws (exprP ws c f)) (actT c row) (LeL 12 row 0) := by
  intro t d u e r hd hu hl hdt
  have hx := expr_all hA hN hw.2.2 f m hfm hm
  unfold actT actF at hu
  split at hu
  · cases hu
  · next hf =>
    have hf : fitA row = true := by simpa using hf
    unfold fitA at hf
    split at hu
    · next h =>
      exact (bk_kwA (m := m) (s := [115, 101, 116]) rfl (K := fun s t d => if s = [115, 101, 116] then (nameP ws t d).bind fun n t d => (exprP ws c f t d).bind fun e t d => (shutP ws t d).bind fun _ t d => .ok (aCols 1 n e) t d
        else if s = [108, 111, 103] then (exprP ws c f t d).bind fun e t d => (shutP ws t d).bind fun _ t d => .ok (aCols 2 [] e) t d
        else if s = [102, 97, 105, 108] then (exprP ws c f t d).bind fun e t d => (shutP ws t d).bind fun _ t d => .ok (aCols 3 [] e) t d
        else if s = [115, 116, 111, 112] then (shutP ws t d).bind fun _ t d => .ok (aCols 4 [] eNone) t d
        else .bad t) (S' := seqL [nameT (strT (row 1)), exprF c row (subs c row) 2, shutT]) (Q := LeL 12 row 0)
        (show Bk ws m (fun t d => (nameP ws t d).bind fun n t d => (exprP ws c f t d).bind fun e t d => (shutP ws t d).bind fun _ t d => .ok (aCols 1 n e) t d) _ _ from
          Bk.bind (bk_name m _) fun n h1 => Bk.bind hx fun e he => Bk.bind (bk_shut m) fun _ _ => Bk.done (le_a (i8_num hw.1 h) (st_le hw.2.1 h1.1.symm) he))) t d u e r hd hu hl hdt
    rename_i hn1
    rw [if_neg hn1] at hf
    split at hu
    · next h =>
      rw [if_pos (.inl h)] at hf
      exact (bk_kwA (m := m) (s := [108, 111, 103]) rfl (K := fun s t d => if s = [115, 101, 116] then (nameP ws t d).bind fun n t d => (exprP ws c f t d).bind fun e t d => (shutP ws t d).bind fun _ t d => .ok (aCols 1 n e) t d
        else if s = [108, 111, 103] then (exprP ws c f t d).bind fun e t d => (shutP ws t d).bind fun _ t d => .ok (aCols 2 [] e) t d
        else if s = [102, 97, 105, 108] then (exprP ws c f t d).bind fun e t d => (shutP ws t d).bind fun _ t d => .ok (aCols 3 [] e) t d
        else if s = [115, 116, 111, 112] then (shutP ws t d).bind fun _ t d => .ok (aCols 4 [] eNone) t d
        else .bad t) (S' := seqL [exprF c row (subs c row) 2, shutT]) (Q := LeL 12 row 0)
        (show Bk ws m (fun t d => (exprP ws c f t d).bind fun e t d => (shutP ws t d).bind fun _ t d => .ok (aCols 2 [] e) t d) _ _ from
          Bk.bind hx fun e he => Bk.bind (bk_shut m) fun _ _ => Bk.done (le_a (i8_num hw.1 h) (le_of_eq (z_st hw.2.1 hf)) he))) t d u e r hd hu hl hdt
    rename_i hn2
    split at hu
    · next h =>
      rw [if_pos (.inr h)] at hf
      exact (bk_kwA (m := m) (s := [102, 97, 105, 108]) rfl (K := fun s t d => if s = [115, 101, 116] then (nameP ws t d).bind fun n t d => (exprP ws c f t d).bind fun e t d => (shutP ws t d).bind fun _ t d => .ok (aCols 1 n e) t d
        else if s = [108, 111, 103] then (exprP ws c f t d).bind fun e t d => (shutP ws t d).bind fun _ t d => .ok (aCols 2 [] e) t d
        else if s = [102, 97, 105, 108] then (exprP ws c f t d).bind fun e t d => (shutP ws t d).bind fun _ t d => .ok (aCols 3 [] e) t d
        else if s = [115, 116, 111, 112] then (shutP ws t d).bind fun _ t d => .ok (aCols 4 [] eNone) t d
        else .bad t) (S' := seqL [exprF c row (subs c row) 2, shutT]) (Q := LeL 12 row 0)
        (show Bk ws m (fun t d => (exprP ws c f t d).bind fun e t d => (shutP ws t d).bind fun _ t d => .ok (aCols 3 [] e) t d) _ _ from
          Bk.bind hx fun e he => Bk.bind (bk_shut m) fun _ _ => Bk.done (le_a (i8_num hw.1 h) (le_of_eq (z_st hw.2.1 hf)) he))) t d u e r hd hu hl hdt
    rename_i hn3
    rw [if_neg fun h => h.elim hn2 hn3] at hf
    simp only [Bool.and_eq_true] at hf
    split at hu
    · next h =>
      exact (bk_kwA (m := m) (s := [115, 116, 111, 112]) rfl (K := fun s t d => if s = [115, 101, 116] then (nameP ws t d).bind fun n t d => (exprP ws c f t d).bind fun e t d => (shutP ws t d).bind fun _ t d => .ok (aCols 1 n e) t d
        else if s = [108, 111, 103] then (exprP ws c f t d).bind fun e t d => (shutP ws t d).bind fun _ t d => .ok (aCols 2 [] e) t d
        else if s = [102, 97, 105, 108] then (exprP ws c f t d).bind fun e t d => (shutP ws t d).bind fun _ t d => .ok (aCols 3 [] e) t d
        else if s = [115, 116, 111, 112] then (shutP ws t d).bind fun _ t d => .ok (aCols 4 [] eNone) t d
        else .bad t) (S' := seqL [shutT]) (Q := LeL 12 row 0)
        (show Bk ws m (fun t d => (shutP ws t d).bind fun _ t d => .ok (aCols 4 [] eNone) t d) _ _ from
          Bk.bind (bk_shut m) fun _ _ => Bk.done (le_a (i8_num hw.1 h) (le_of_eq (z_st hw.2.1 hf.1)) (zero_e hw.2.2 hf.2)))) t d u e r hd hu hl hdt
    · cases hu
omit hA hN in
theorem le_s {k : Int} {n x : Str} {e : List T} {deps acts undo body : List (List T)} (h0 : Le (row 0) (.sc (.int .u8 k))) (h1 : Le (row 1) (.sc (str n))) (h2 : Le (row 2) (.sc (str x))) (he : LeL 10 row 3 e)
    (h13 : Le (row 13) (ofRows 10 deps)) (h14 : Le (row 14) (ofRows 12 acts)) (h15 : Le (row 15) (ofRows 12 undo)) (h16 : Le (row 16) (ofRows 17 body)) : LeL 17 row 0 (sCols k n x e deps acts undo body) := by
  obtain ⟨hl, hc⟩ := he
  match e, hl, hc with
  | [e0, e1, e2, e3, e4, e5, e6, e7, e8, e9], _, hc =>
    refine ⟨rfl, fun j hj => ?_⟩
    rw [Nat.zero_add]
    exact match j, hj with
      | 0, _ => h0 | 1, _ => h1 | 2, _ => h2 | 3, _ => hc 0 (by decide) | 4, _ => hc 1 (by decide) | 5, _ => hc 2 (by decide) | 6, _ => hc 3 (by decide) | 7, _ => hc 4 (by decide) | 8, _ => hc 5 (by decide) | 9, _ => hc 6 (by decide) | 10, _ => hc 7 (by decide) | 11, _ => hc 8 (by decide) | 12, _ => hc 9 (by decide)
      | 13, _ => h13 | 14, _ => h14 | 15, _ => h15 | 16, _ => h16
      | n + 17, h => absurd h (by omega)
omit hA hN in
theorem fit_s (h : fitS row = true) : (∀ (hn : namedS (num (row 0)) 1 = false), zB (row 1) = true) ∧ (∀ (hn : namedS (num (row 0)) 2 = false), zB (row 2) = true) ∧ (∀ (hn : namedS (num (row 0)) 3 = false), zeroE row 3 = true) ∧
    (∀ (hn : namedS (num (row 0)) 4 = false), zB (row 13) = true) ∧ (∀ (hn : namedS (num (row 0)) 5 = false), zB (row 14) = true) ∧ (∀ (hn : namedS (num (row 0)) 6 = false), zB (row 15) = true) ∧ (∀ (hn : namedS (num (row 0)) 7 = false), zB (row 16) = true) := by
  unfold fitS at h
  simp only [Bool.and_eq_true, Bool.or_eq_true] at h
  obtain ⟨h1, h2, h3, h4, h5, h6, h7⟩ := h
  have g : ∀ {a b : Bool}, a = true ∨ b = true → a = false → b = true := fun o hn => by
    rcases o with o | o
    · rw [hn] at o; cases o
    · exact o
  exact ⟨g h1, g h2, g h3, g h4, g h5, g h6, g h7⟩
omit hN in
theorem within0 {m f : Nat} (hfm : m ≤ f) (hm : m ≤ FU) {j : Nat} (h : Wf 0 (row j)) : Bk ws m (withinP ws (exprP ws c f)) (withinT row (subs c row) j 0) (fun l => Le (row j) (ofRows 10 l)) :=
  (Bk.bind (bk_open m) fun _ _ => bk_col (hA f m hfm hm) hm h).congr fun d => rfl
omit hN in
theorem within1 {m f : Nat} (hfm : m ≤ f) (hm : m ≤ FU) {j : Nat} (h : Wf 1 (row j)) : Bk ws m (withinP ws (actP ws (exprP ws c f))) (withinT row (subs c row) j 1) (fun l => Le (row j) (ofRows 12 l)) :=
  (Bk.bind (bk_open m) fun _ _ => bk_acts (hA f m hfm hm) hm h).congr fun d => rfl
omit hN in
theorem runs_all {m f : Nat} (hfm : m ≤ f) (hm : m ≤ FU) (hw : WS row) (hf : fitS row = true) {k : Int} (hk : num (row 0) = k) (h56 : k = 5 ∨ k = 6) :
    Bk ws m (runsP ws (exprP ws c f) k) (seqL [runsT row (subs c row), shutT]) (LeL 17 row 0) := by
  obtain ⟨z1, z2, z3, z4, z5, z6, z7⟩ := fit_s hf
  rw [hk] at z1 z2 z3 z4 z5 z6 z7
  have hn : namedS k 1 = false ∧ namedS k 2 = false ∧ namedS k 3 = false ∧ namedS k 7 = false := by rcases h56 with rfl | rfl <;> exact ⟨rfl, rfl, rfl, rfl⟩
  refine (Bk.bind (within0 hA hfm hm (j := 13) hw.2.2.2.2.1) (S' := fun d => (withinT row (subs c row) 14 1 d).seq fun d => (withinT row (subs c row) 15 1 d).seq (seqL [shutT])) (Q' := LeL 17 row 0) fun deps h1 => Bk.bind (within1 hA hfm hm (j := 14) hw.2.2.2.2.2.1) fun acts h2 => Bk.bind (within1 hA hfm hm (j := 15) hw.2.2.2.2.2.2.1) fun undo h3 => Bk.bind (bk_shut m) fun _ _ => Bk.done
    (le_s (i8_num hw.1 hk) (le_of_eq (z_st hw.2.1 (z1 hn.1))) (le_of_eq (z_st hw.2.2.1 (z2 hn.2.1))) (zero_e hw.2.2.2.1 (z3 hn.2.2.1)) h1 h2 h3 (z0 (c17 hw.2.2.2.2.2.2.2) (z7 hn.2.2.2)))).congr fun d => ?_
  show (runsT row (subs c row) d).seq (seqL [shutT]) = _
  unfold runsT
  show ((withinT row (subs c row) 13 0 d).seq fun d => (withinT row (subs c row) 14 1 d).seq fun d => (withinT row (subs c row) 15 1 d).seq fun d => some ([], d)).seq _ = _
  rw [seq_assoc]
  congr 1
  funext d
  rw [seq_assoc]
  congr 1
  funext d
  rw [seq_nil]
theorem stmt_body {m f : Nat} (hfm : m ≤ f) (hm : m ≤ FU) (hw : WS row) {st : Nat → Nat → Rs (List T)} (hst : Bk ws m (allP ws st FU) (seqL [colT row (subs c row) 16 2, shutT]) (fun l => Le (row 16) (ofRows 17 l))) {d : Nat} {r : List LX.LW × Nat} (hd : stmtT c row d = some r) :
    ∃ (s : Str) (S' : Nat → Tl), resB s = false ∧ s ≠ [115, 104, 111, 119] ∧ (∀ d, stmtT c row d = (opensT s d).seq S') ∧ Bk ws m (stmtOfP ws (exprP ws c f) st s) S' (LeL 17 row 0) := by
  have hx := expr_all hA hN hw.2.2.2.1 f m hfm hm
  unfold stmtT stmtF at hd
  split at hd
  · cases hd
  · next hf0 =>
    have hf : fitS row = true := by simpa using hf0
    obtain ⟨z1, z2, z3, z4, z5, z6, z7⟩ := fit_s hf
    have hun : ∀ d, stmtT c row d = stmtF c row (subs c row) d := fun d => rfl
    have h7 := hw.2.2.2.2.2.2.2
    have h6 := hw.2.2.2.2.2.2.1
    have h5 := hw.2.2.2.2.2.1
    have h4 := hw.2.2.2.2.1
    split at hd
    · next h =>
      rw [h] at z1 z2 z3 z4 z5 z6 z7
      refine ⟨[108, 101, 116], seqL [nameT (strT (row 1)), exprF c row (subs c row) 3, shutT], rfl, by decide, fun d => by rw [hun, stmtF, if_neg hf0, if_pos h]; rfl, ?_⟩
      show Bk ws m (fun t d => (nameP ws t d).bind fun n t d => (exprP ws c f t d).bind fun e t d => (shutP ws t d).bind fun _ t d => .ok (sCols 1 n [] e [] [] [] []) t d) _ _
      exact Bk.bind (bk_name m _) fun n h1 => Bk.bind hx fun e he => Bk.bind (bk_shut m) fun _ _ => Bk.done (le_s (i8_num hw.1 h) (st_le hw.2.1 h1.1.symm) (le_of_eq (z_st hw.2.2.1 (z2 rfl))) he (z0 (c10 h4) (z4 rfl)) (z0 (c12 h5) (z5 rfl)) (z0 (c12 h6) (z6 rfl)) (z0 (c17 h7) (z7 rfl)))
    rename_i n1
    split at hd
    · next h =>
      rw [h] at z1 z2 z3 z4 z5 z6 z7
      refine ⟨[115, 116, 97, 116, 101], seqL [nameT (strT (row 1)), exprF c row (subs c row) 3, shutT], rfl, by decide, fun d => by rw [hun, stmtF, if_neg hf0, if_neg n1, if_pos h]; rfl, ?_⟩
      show Bk ws m (fun t d => (nameP ws t d).bind fun n t d => (exprP ws c f t d).bind fun e t d => (shutP ws t d).bind fun _ t d => .ok (sCols 2 n [] e [] [] [] []) t d) _ _
      exact Bk.bind (bk_name m _) fun n h1 => Bk.bind hx fun e he => Bk.bind (bk_shut m) fun _ _ => Bk.done (le_s (i8_num hw.1 h) (st_le hw.2.1 h1.1.symm) (le_of_eq (z_st hw.2.2.1 (z2 rfl))) he (z0 (c10 h4) (z4 rfl)) (z0 (c12 h5) (z5 rfl)) (z0 (c12 h6) (z6 rfl)) (z0 (c17 h7) (z7 rfl)))
    rename_i n2
    split at hd
    · next h =>
      rw [h] at z1 z2 z3 z4 z5 z6 z7
      refine ⟨[109, 101, 109, 111], seqL [nameT (strT (row 1)), withinT row (subs c row) 13 0, exprF c row (subs c row) 3, shutT], rfl, by decide, fun d => by rw [hun, stmtF, if_neg hf0, if_neg n1, if_neg n2, if_pos h]; rfl, ?_⟩
      show Bk ws m (fun t d => (nameP ws t d).bind fun n t d => (withinP ws (exprP ws c f) t d).bind fun deps t d => (exprP ws c f t d).bind fun e t d => (shutP ws t d).bind fun _ t d => .ok (sCols 3 n [] e deps [] [] []) t d) _ _
      exact Bk.bind (bk_name m _) fun n h1 => Bk.bind (within0 hA hfm hm h4) fun deps hdp => Bk.bind hx fun e he => Bk.bind (bk_shut m) fun _ _ => Bk.done (le_s (i8_num hw.1 h) (st_le hw.2.1 h1.1.symm) (le_of_eq (z_st hw.2.2.1 (z2 rfl))) he hdp (z0 (c12 h5) (z5 rfl)) (z0 (c12 h6) (z6 rfl)) (z0 (c17 h7) (z7 rfl)))
    rename_i n3
    split at hd
    · next h =>
      rw [h] at z1 z2 z3 z4 z5 z6 z7
      refine ⟨[117, 115, 101], seqL [nameT (strT (row 1)), nameT (strT (row 2)), shutT], rfl, by decide, fun d => by rw [hun, stmtF, if_neg hf0, if_neg n1, if_neg n2, if_neg n3, if_pos h]; rfl, ?_⟩
      show Bk ws m (fun t d => (nameP ws t d).bind fun n t d => (nameP ws t d).bind fun x t d => (shutP ws t d).bind fun _ t d => .ok (sCols 4 n x eNone [] [] [] []) t d) _ _
      exact Bk.bind (bk_name m _) fun n h1 => Bk.bind (bk_name m _) fun x h2 => Bk.bind (bk_shut m) fun _ _ => Bk.done (le_s (i8_num hw.1 h) (st_le hw.2.1 h1.1.symm) (st_le hw.2.2.1 h2.1.symm) (zero_e hw.2.2.2.1 (z3 rfl)) (z0 (c10 h4) (z4 rfl)) (z0 (c12 h5) (z5 rfl)) (z0 (c12 h6) (z6 rfl)) (z0 (c17 h7) (z7 rfl)))
    rename_i n4
    split at hd
    · next h => exact ⟨[108, 97, 121, 111, 117, 116], seqL [runsT row (subs c row), shutT], rfl, by decide, fun d => by rw [hun, stmtF, if_neg hf0, if_neg n1, if_neg n2, if_neg n3, if_neg n4, if_pos h]; rfl, runs_all hA hfm hm hw hf h (.inl rfl)⟩
    rename_i n5
    split at hd
    · next h => exact ⟨[101, 102, 102, 101, 99, 116], seqL [runsT row (subs c row), shutT], rfl, by decide, fun d => by rw [hun, stmtF, if_neg hf0, if_neg n1, if_neg n2, if_neg n3, if_neg n4, if_neg n5, if_pos h]; rfl, runs_all hA hfm hm hw hf h (.inr rfl)⟩
    rename_i n6
    split at hd
    · next h =>
      rw [h] at z1 z2 z3 z4 z5 z6 z7
      refine ⟨[119, 104, 101, 110], seqL [exprF c row (subs c row) 3, colT row (subs c row) 16 2, shutT], rfl, by decide, fun d => by rw [hun, stmtF, if_neg hf0, if_neg n1, if_neg n2, if_neg n3, if_neg n4, if_neg n5, if_neg n6, if_pos h]; rfl, ?_⟩
      show Bk ws m (fun t d => (exprP ws c f t d).bind fun e t d => (allP ws st FU t d).bind fun body t d => .ok (sCols 7 [] [] e [] [] [] body) t d) _ _
      exact Bk.bind hx fun e he => Bk.map (f := fun body => sCols 7 [] [] e [] [] [] body) hst fun body hb => le_s (i8_num hw.1 h) (le_of_eq (z_st hw.2.1 (z1 rfl))) (le_of_eq (z_st hw.2.2.1 (z2 rfl))) he (z0 (c10 h4) (z4 rfl)) (z0 (c12 h5) (z5 rfl)) (z0 (c12 h6) (z6 rfl)) hb
    · cases hd
end
theorem tree_ea {ws : List LX.LW} {c : Str} (hN : ws.length ≤ 4611686018427387904) : ∀ t : T,
    (Wf 0 t → ∀ f m, m ≤ f → m ≤ FU → ∀ i, i < lenT t → Bk ws m (exprP ws c f) (tellC c 0 t i) (LeL 10 (rowsOf t i) 0)) ∧
    (Wf 1 t → ∀ f m, m ≤ f → m ≤ FU → ∀ i, i < lenT t → Bk ws m (actP ws (exprP ws c f)) (tellC c 1 t i) (LeL 12 (rowsOf t i) 0)) := by
  intro t
  induction t with
  | sc v => exact ⟨fun h => h.elim, fun h => h.elim⟩
  | ls n k row ih =>
    have hA : ∀ i, AllSub ws c (row i) := fun i f m hfm hm => ⟨fun j hj i' hi' => (ih i j).1 hj f m hfm hm i' hi', fun j hj i' hi' => (ih i j).2 hj f m hfm hm i' hi'⟩
    exact ⟨fun hw f m hfm hm i hi => expr_all (hA i) hN ((wf0 _ _ _).1 hw |>.2 i hi) f m hfm hm, fun hw f m hfm hm i hi => act_all (hA i) hN ((wf1 _ _ _).1 hw |>.2 i hi) f m hfm hm⟩
theorem sub_all {ws : List LX.LW} {c : Str} (hN : ws.length ≤ 4611686018427387904) (row : Nat → T) : AllSub ws c row := fun f m hfm hm =>
  ⟨fun j hj i hi => (tree_ea hN (row j)).1 hj f m hfm hm i hi, fun j hj i hi => (tree_ea hN (row j)).2 hj f m hfm hm i hi⟩
theorem tree_s {ws : List LX.LW} {c : Str} (hN : ws.length ≤ 4611686018427387904) {f : Nat} : ∀ t : T, Wf 2 t → ∀ g m, m ≤ g → m ≤ f → m ≤ FU → ∀ i, i < lenT t → Bk ws m (stmtP ws (exprP ws c f) g) (tellC c 2 t i) (LeL 17 (rowsOf t i) 0) := by
  intro t
  induction t with
  | sc v => exact fun h => h.elim
  | ls n k row ih =>
    intro hw g m hg hf hm i hi
    match g, m, hg with
    | g, 0, _ => exact Bk.none0 fun d u e hu => bg_tell hu
    | 0, m + 1, h => exact absurd h (by omega)
    | g + 1, m + 1, hg =>
      have hwS := (wf2 _ _ _).1 hw |>.2 i hi
      intro t d u e r hd hu hl hdt
      have hst : Bk ws m (allP ws (stmtP ws (exprP ws c f) g) FU) (seqL [colT (row i) (subs c (row i)) 16 2, shutT]) (fun l => Le (row i 16) (ofRows 17 l)) :=
        (bk_all [] (by omega) (fun i' hi' => ih i 16 hwS.2.2.2.2.2.2.2 g m (by omega) (by omega) (by omega) i' hi') fun i' hi' d u e hu => bg_tell hu).mono (Nat.le_refl _) fun l hl => le_col (c17 hwS.2.2.2.2.2.2.2) hl
      obtain ⟨s, S', hr, -, hS, hB⟩ := stmt_body (sub_all hN (row i)) hN (f := f) (m := m) (by omega) (by omega) hwS hst (show stmtT c (row i) d = some (u, e) from hu)
      have hu2 : (opensT s d).seq S' = some (u, e) := by rw [← hS]; exact hu
      exact ((bk_kw2 hr (K := fun s => stmtOfP ws (exprP ws c f) (stmtP ws (exprP ws c f) g) s) hB).mono (by omega) fun _ h => h) t d u e r hd hu2 hl hdt
theorem body_back {ws : List LX.LW} {c : Str} (hN : ws.length ≤ 4611686018427387904) {row : Nat → T} (hwe : WE row 3) {m : Nat} (hm : m ≤ FU) : ∀ (F n : Nat) (el : Nat → Nat → T), (∀ i, i < n → WS (el i)) →
    ∀ (t d : Nat) (u : List LX.LW) (e : Nat) (r : List LX.LW), ws.drop t = u ++ r → (eachT (fun i d => stmtT c (el i) d) n d).seq (seqL [opensT [115, 104, 111, 119], exprT c row 3, shutT, shutT]) = some (u, e) → u.length ≤ m → d ≤ t → u.length ≤ F →
      ∃ p, ((openP ws t d).bind fun _ t d => (nameP ws t d).bind fun s t d => bodyP ws (exprP ws c FU) F s t d) = .ok p (t + u.length) e ∧ p.1.length = n ∧ (∀ i, i < n → LeL 17 (el i) 0 (p.1.getD i [])) ∧ LeL 10 row 3 p.2
  | 0, n, el, hs => by
    intro t d u e r hd hu hl hdt hF
    exfalso
    have : u = [] := List.length_eq_zero_iff.1 (by omega)
    subst this
    obtain ⟨a, d1, b, h1, h2, h3⟩ := Tl.cases hu
    obtain ⟨a2, d2, b2, h4, h5, h6⟩ := Tl.cases (show (opensT [115, 104, 111, 119] d1).seq (seqL [exprT c row 3, shutT, shutT]) = some (b, e) from h2)
    simp only [opensT, Option.some.injEq, Prod.mk.injEq] at h4
    obtain ⟨rfl, rfl⟩ := h4
    subst h6
    simp at h3
  | F + 1, 0, el, hs => by
    intro t d u e r hd hu hl hdt hF
    have hu : (opensT [115, 104, 111, 119] d).seq (seqL [exprT c row 3, shutT, shutT]) = some (u, e) := by
      rw [← hu]
      show _ = Tl.seq (some ([], d)) _
      rw [nil_seq]
      rfl
    have hx := expr_all (sub_all (c := c) hN row) hN hwe FU m hm hm
    have hk : Bk ws m (fun t d => bodyP ws (exprP ws c FU) (F + 1) [115, 104, 111, 119] t d) (seqL [exprT c row 3, shutT, shutT]) (fun p => p.1.length = 0 ∧ (∀ i, i < 0 → LeL 17 (el i) 0 (p.1.getD i [])) ∧ LeL 10 row 3 p.2) := by
      show Bk ws m (fun t d => (exprP ws c FU t d).bind fun e t d => (shutP ws t d).bind fun _ t d => (shutP ws t d).bind fun _ t d => .ok ([], e) t d) _ _
      exact Bk.bind hx fun e he => Bk.bind (bk_shut m) fun _ _ => Bk.bind (bk_shut m) fun _ _ => Bk.done ⟨rfl, fun i hi => absurd hi (Nat.not_lt_zero _), he⟩
    obtain ⟨p, e1, -, q1⟩ := bk_kwA (K := fun s t d => bodyP ws (exprP ws c FU) (F + 1) s t d) (s := [115, 104, 111, 119]) rfl hk t d u e r hd hu hl hdt
    exact ⟨p, e1, q1⟩
  | F + 1, n + 1, el, hs => by
    intro t d u e r hd hu hl hdt hF
    rw [eachT_cons, seq_assoc] at hu
    obtain ⟨a, d1, b, h1, h2, rfl⟩ := Tl.cases hu
    have hwS := hs 0 (by omega)
    have hst : Bk ws m (allP ws (stmtP ws (exprP ws c FU) FU) FU) (seqL [colT (el 0) (subs c (el 0)) 16 2, shutT]) (fun l => Le (el 0 16) (ofRows 17 l)) :=
      (bk_all [] hm (fun i' hi' => tree_s hN (el 0 16) hwS.2.2.2.2.2.2.2 FU m hm hm hm i' hi') fun i' hi' d u e hu => bg_tell hu).mono (Nat.le_refl _) fun l hl => le_col (c17 hwS.2.2.2.2.2.2.2) hl
    obtain ⟨s, S', hr, hns, hS, hB⟩ := stmt_body (sub_all hN (el 0)) hN (f := FU) hm hm hwS hst h1
    rw [hS] at h1
    obtain ⟨a1, d2, a2, h3, h4, rfl⟩ := Tl.cases h1
    simp only [opensT, Option.some.injEq, Prod.mk.injEq] at h3
    obtain ⟨rfl, rfl⟩ := h3
    have hd0 : ws.drop t = [wO] ++ ([wN s] ++ (a2 ++ (b ++ r))) := by rw [hd]; simp
    have hd1 := drop_more (u := [wO]) hd0
    have hd2 := drop_more (u := [wN s]) hd1
    obtain ⟨x, e1, -, -⟩ := bk_open 1 t d [wO] d _ hd0 rfl (Nat.le_refl _) hdt
    obtain ⟨y, e2, -, hy⟩ := bk_wn 1 hr (t + 1) d [wN s] d _ hd1 rfl (Nat.le_refl _) (by omega)
    have hl' : a2.length ≤ m := by simp at hl; omega
    obtain ⟨z, e3, l3, q3⟩ := hB (t + 1 + 1) d a2 d1 (b ++ r) hd2 h4 hl' (by omega)
    have hd3 := drop_more hd2
    obtain ⟨p, e4, q4, q5, q6⟩ := body_back hN hwe hm F n (fun i => el (i + 1)) (fun i hi => hs (i + 1) (by omega)) (t + 1 + 1 + a2.length) d1 b e r hd3 h2 (by simp at hl; omega) l3 (by simp at hF; omega)
    refine ⟨(z :: p.1, p.2), ?_, by simp [q4], fun i hi => ?_, q6⟩
    · rw [e1, Rs.bind_ok]
      show (nameP ws (t + 1) d).bind _ = _
      rw [e2, Rs.bind_ok, hy]
      show bodyP ws (exprP ws c FU) (F + 1) s (t + 1 + 1) d = _
      unfold bodyP
      rw [if_neg hns]
      rw [e3, Rs.bind_ok]
      have e4' : ((openP ws (t + 1 + 1 + a2.length) d1).bind fun _ t d => (nameP ws t d).bind fun s t d => (bodyP ws (exprP ws c FU) F s t d).bind fun p t d => .ok (z :: p.1, p.2) t d) = (((openP ws (t + 1 + 1 + a2.length) d1).bind fun _ t d => (nameP ws t d).bind fun s t d => bodyP ws (exprP ws c FU) F s t d).bind fun p t d => Rs.ok (z :: p.1, p.2) t d) := by
        cases openP ws (t + 1 + 1 + a2.length) d1 with
        | bad _ => rfl
        | ok _ t3 d3 =>
          simp only [Rs.bind_ok]
          cases nameP ws t3 d3 with
          | bad _ => rfl
          | ok _ t4 d4 => rfl
      rw [e4', e4, Rs.bind_ok]
      congr 1
      simp
      omega
    · cases i with
      | zero => exact q3
      | succ i => exact q5 i (by omega)
end Go.Proofs.YtedmmgfnplbkjaaGreatDoor.G
namespace Go.Proofs.YtedmmgfnplbkjaaGreatDoor.G
set_option linter.unusedVariables false
set_option linter.unusedSimpArgs false
open Go.Proofs.YtedmmgfnplbkjaaGreatDoor
theorem le_c {row : Nat → T} {n p : Str} {body : List (List T)} {e : List T} (h0 : Le (row 0) (.sc (str n))) (h1 : Le (row 1) (.sc (str p))) (h2 : Le (row 2) (ofRows 17 body)) (he : LeL 10 row 3 e) : LeL 13 row 0 (cCols n p body e) := by
  refine ⟨by simp [cCols, he.1], fun j hj => ?_⟩
  match j, hj with
  | 0, _ => exact h0
  | 1, _ => exact h1
  | 2, _ => exact h2
  | j + 3, hj =>
    have := he.2 j (by omega)
    have e0 : 0 + (j + 3) = 3 + j := by omega
    show Le (row (0 + (j + 3))) (e.getD j default)
    rw [e0]
    exact this
theorem comp_back {ws : List LX.LW} (hN : ws.length ≤ 65536) {row : Nat → T} (hw : WC row) {t d : Nat} {u r : List LX.LW} {e : Nat} (hd : ws.drop t = u ++ r) (hu : compT row = some (u, e)) :
    ∃ x, componentP ws t d = .ok x (t + u.length) e ∧ LeL 13 row 0 x := by
  obtain ⟨a, d1, b, h1, h2, rfl⟩ := Tl.cases (show (openingT row 0).seq (seqL [bodyT row, showT row]) = some (u, e) from hu)
  obtain ⟨a1, d2, a2, h3, h4, rfl⟩ := Tl.cases (show (opensT [99, 111, 109, 112] 0).seq (seqL [nameT (strT (row 0)), nameT (strT (row 1))]) = some (a, d1) from h1)
  obtain ⟨a3, d3, a4, h5, h6, rfl⟩ := Tl.cases (show (nameT (strT (row 0)) d2).seq (seqL [nameT (strT (row 1))]) = some (a2, d1) from h4)
  have h6 : nameT (strT (row 1)) d3 = some (a4, d1) := by rw [← h6]; exact (seq_nil _).symm
  simp only [opensT, Option.some.injEq, Prod.mk.injEq] at h3
  obtain ⟨rfl, rfl⟩ := h3
  obtain ⟨rfl, rfl⟩ := name_some h5
  obtain ⟨rfl, rfl⟩ := name_some h6
  have ok1 : nameOk (strT (row 0)) = true := by
    unfold nameT at h5
    split at h5
    · assumption
    · cases h5
  have ok2 : nameOk (strT (row 1)) = true := by
    unfold nameT at h6
    split at h6
    · assumption
    · cases h6
  have hd0 : ws.drop t = [wO] ++ ([wN [99, 111, 109, 112]] ++ ([wN (strT (row 0))] ++ ([wN (strT (row 1))] ++ (b ++ r)))) := by rw [hd]; simp
  have hd1 : ws.drop (t + 1) = _ := drop_more (u := [wO]) hd0
  have hd2 : ws.drop (t + 1 + 1) = _ := drop_more (u := [wN _]) hd1
  have hd3 : ws.drop (t + 1 + 1 + 1) = _ := drop_more (u := [wN _]) hd2
  have hd4 : ws.drop (t + 1 + 1 + 1 + 1) = _ := drop_more (u := [wN _]) hd3
  have hlen : b.length ≤ FU := by
    have := congrArg List.length hd4
    simp at this
    unfold FU
    omega
  have n1 : ∀ {t d : Nat} {s : Str} {r : List LX.LW}, resB s = false → ws.drop t = [wN s] ++ r → nameP ws t d = .ok s (t + 1) d := fun {t d s r} hs h => by
    unfold nameP
    rw [head_at h]
    show (if isName (wN s) then Rs.ok (wN s).s (t + 1) d else .bad (t + 1)) = _
    rw [if_pos (isName_of hs)]
    rfl
  have o1 : openP ws t d = .ok () (t + 1) d := by
    show kindP ws 4 t d = _
    unfold kindP
    rw [head_at hd0]
    rfl
  obtain ⟨n, brow, hb2⟩ := c17 hw.2.2.1
  have hwb : ∀ i, i < n → WS (brow i) := by
    have := hw.2.2.1
    rw [hb2] at this
    exact ((wf2 _ _ _).1 this).2
  have hsum : (eachT (fun i d => stmtT (strT (row 0)) (brow i) d) n 0).seq (seqL [opensT [115, 104, 111, 119], exprT (strT (row 0)) row 3, shutT, shutT]) = some (b, e) := by
    obtain ⟨a, d1, b', g1, g2, rfl⟩ := Tl.cases (show (bodyT row 0).seq (seqL [showT row]) = some (b, e) from h2)
    have g2 : showT row d1 = some (b', e) := by rw [← g2]; exact (seq_nil _).symm
    have g1 : eachT (fun i d => stmtT (strT (row 0)) (brow i) d) n 0 = some (a, d1) := by
      rw [← g1]
      unfold bodyT colT subs
      rw [hb2]
      rfl
    exact seq_some g1 g2
  obtain ⟨p, e1, q1, q2, q3⟩ := body_back (by omega : ws.length ≤ 4611686018427387904) hw.2.2.2 (Nat.le_refl FU) FU n brow hwb (t + 1 + 1 + 1 + 1) 0 b e r hd4 hsum hlen (Nat.zero_le _) hlen
  refine ⟨cCols (strT (row 0)) (strT (row 1)) p.1 p.2, ?_, le_c (st_le hw.1 rfl) (st_le hw.2.1 rfl) (le_col (c17 hw.2.2.1) ?_) q3⟩
  · unfold componentP
    rw [o1, Rs.bind_ok, n1 (by decide) hd1, Rs.bind_ok, if_pos rfl, n1 (nameOk_res ok1) hd2, Rs.bind_ok, n1 (nameOk_res ok2) hd3, Rs.bind_ok]
    have e1' : ((openP ws (t + 1 + 1 + 1 + 1) 0).bind fun _ t d => (nameP ws t d).bind fun s t d => (bodyP ws (exprP ws (strT (row 0)) FU) FU s t d).bind fun p t d => Rs.ok (cCols (strT (row 0)) (strT (row 1)) p.1 p.2) t d) = (((openP ws (t + 1 + 1 + 1 + 1) 0).bind fun _ t d => (nameP ws t d).bind fun s t d => bodyP ws (exprP ws (strT (row 0)) FU) FU s t d).bind fun p t d => Rs.ok (cCols (strT (row 0)) (strT (row 1)) p.1 p.2) t d) := by
      cases openP ws (t + 1 + 1 + 1 + 1) 0 with
      | bad _ => rfl
      | ok _ t3 d3 =>
        simp only [Rs.bind_ok]
        cases nameP ws t3 d3 with
        | bad _ => rfl
        | ok _ t4 d4 => rfl
    rw [e1', e1, Rs.bind_ok]
    congr 1
    simp
    omega
  · rw [hb2]
    exact ⟨q1, q2⟩
theorem progW_get : ∀ (k : Nat) (f : Nat → Nat → T) (l : List (List LX.LW)), progW f k = some l → l.length = k ∧ ∀ i, i < k → ∃ e, compT (f i) = some (l.getD i [], e)
  | 0, f, l, h => by
    cases h
    exact ⟨rfl, fun i hi => absurd hi (Nat.not_lt_zero _)⟩
  | k + 1, f, l, h => by
    unfold progW at h
    cases hp : progW f k with
    | none => rw [hp] at h; cases h
    | some l0 =>
      rw [hp] at h
      dsimp only at h
      cases hc : compT (f k) with
      | none => rw [hc] at h; cases h
      | some ue =>
        obtain ⟨u, e⟩ := ue
        rw [hc] at h
        dsimp only at h
        injection h with h
        subst h
        obtain ⟨h1, h2⟩ := progW_get k f l0 hp
        refine ⟨by simp [h1], fun i hi => ?_⟩
        by_cases hik : i < k
        · obtain ⟨e', he⟩ := h2 i hik
          refine ⟨e', ?_⟩
          rw [he, List.getD_eq_getElem?_getD, List.getD_eq_getElem?_getD, List.getElem?_append_left (by omega)]
        · obtain rfl : i = k := by omega
          refine ⟨e, ?_⟩
          rw [hc, List.getD_eq_getElem?_getD, List.getElem?_append_right (by omega), h1]
          simp
theorem bg_comp {row : Nat → T} {u : List LX.LW} {e : Nat} (h : compT row = some (u, e)) : Bg u := bg_seq (fun a d h => bg_seq (fun _ _ => bg_opens) (show (opensT [99, 111, 109, 112] 0).seq (seqL [nameT (strT (row 0)), nameT (strT (row 1))]) = some (a, d) from h)) (show (openingT row 0).seq (seqL [bodyT row, showT row]) = some (u, e) from h)
theorem prog_list {ws : List LX.LW} (hN : ws.length ≤ 65536) : ∀ (l : List (List LX.LW)) (f : Nat → Nat → T), (∀ i, i < l.length → WC (f i)) → (∀ i, i < l.length → ∃ e, compT (f i) = some (l.getD i [], e)) → ∀ (F t d : Nat), ws.drop t = l.flatten → l.length < F →
    ∃ (x : List (List T)) (t' d' : Nat), programP ws F t d = .ok x t' d' ∧ x.length = l.length ∧ ∀ i, i < l.length → LeL 13 (f i) 0 (x.getD i [])
  | _, _, _, _, 0, _, _, _, h => absurd h (by omega)
  | [], f, hw, hc, F + 1, t, d, hd, hF => by
    have hlt : ¬ t < ws.length := by
      have := congrArg List.length hd
      simp at this
      omega
    exact ⟨[], t, d, by unfold programP; rw [if_neg hlt], rfl, fun i hi => absurd hi (Nat.not_lt_zero _)⟩
  | u :: l, f, hw, hc, F + 1, t, d, hd, hF => by
    obtain ⟨e, h0⟩ := hc 0 (by simp)
    have h0 : compT (f 0) = some (u, e) := h0
    have hlt : t < ws.length := by
      obtain ⟨w, v, rfl, -⟩ := bg_comp h0
      have := congrArg List.length hd
      simp at this
      omega
    have hd : ws.drop t = u ++ l.flatten := by rw [hd]; rfl
    obtain ⟨x, e1, q1⟩ := comp_back hN (hw 0 (by simp)) (d := d) hd h0
    obtain ⟨y, t', d', e2, q2, q3⟩ := prog_list hN l (fun i => f (i + 1)) (fun i hi => hw (i + 1) (by simpa using hi)) (fun i hi => hc (i + 1) (by simpa using hi)) F (t + u.length) e (drop_more hd) (by simpa using hF)
    refine ⟨x :: y, t', d', ?_, by simp [q2], fun i hi => ?_⟩
    · unfold programP
      rw [if_pos hlt, e1, Rs.bind_ok, e2, Rs.bind_ok]
    · cases i with
      | zero => exact q1
      | succ i => exact q3 i (by simpa using hi)
theorem flat_len : ∀ l : List (List LX.LW), (∀ u ∈ l, Bg u) → l.length ≤ l.flatten.length
  | [], _ => Nat.le_refl _
  | u :: l, h => by
    obtain ⟨w, v, rfl, -⟩ := h u (by simp)
    have := flat_len l fun x hx => h x (by simp [hx])
    simp only [List.flatten_cons, List.length_append, List.length_cons]
    omega
theorem prog_back (k : Nat) (f : Nat → Nat → T) (l : List (List LX.LW)) (hw : ∀ i, i < k → WC (f i)) (h : progW f k = some l) (hN : l.flatten.length ≤ 65536) :
    ∃ (x : List (List T)) (t' d' : Nat), programP l.flatten FU 0 0 = .ok x t' d' ∧ Le (.ls k 13 f) (ofRows 13 x) := by
  obtain ⟨h1, h2⟩ := progW_get k f l h
  subst h1
  have hb : l.length ≤ l.flatten.length := flat_len l fun u hu => by
    obtain ⟨i, hi, rfl⟩ := List.mem_iff_getElem.1 hu
    obtain ⟨e, he⟩ := h2 i hi
    have : l.getD i [] = l[i] := by rw [List.getD_eq_getElem?_getD, List.getElem?_eq_getElem hi]; rfl
    rw [this] at he
    exact bg_comp he
  obtain ⟨x, t', d', e1, q1, q2⟩ := prog_list hN l f hw h2 FU 0 0 rfl (by unfold FU; omega)
  exact ⟨x, t', d', e1, le_rows q1 q2⟩
end Go.Proofs.YtedmmgfnplbkjaaGreatDoor.G
namespace Go.Proofs.YtedmmgfnplbkjaaGreatDoor.G
set_option linter.unusedVariables false
set_option linter.unusedSimpArgs false
open Go.Proofs.YtedmmgfnplbkjaaGreatDoor
def Cs (S : Nat → Tl) : Prop := ∀ d u e, S d = some (u, e) → ∀ w ∈ u, Ca w
theorem cs_one {w : LX.LW} (h : Ca w) : Cs (oneT w) := by
  intro d u e hu
  simp only [oneT, Option.some.injEq, Prod.mk.injEq] at hu
  obtain ⟨rfl, rfl⟩ := hu
  intro x hx
  obtain rfl := List.mem_singleton.1 hx
  exact h
theorem cs_none : Cs (fun d => some ([], d)) := by
  intro d u e hu
  simp only [Option.some.injEq, Prod.mk.injEq] at hu
  obtain ⟨rfl, rfl⟩ := hu
  intro x hx
  cases hx
theorem cs_cons {f : Nat → Tl} {g : Nat → Tl} (hf : Cs f) (hg : Cs g) : Cs (fun d => (f d).seq g) := by
  intro d u e hu
  obtain ⟨a, d1, b, h1, h2, rfl⟩ := Tl.cases hu
  intro x hx
  rcases List.mem_append.1 hx with h | h
  · exact hf _ _ _ h1 x h
  · exact hg _ _ _ h2 x h
theorem cs_each {S : Nat → Nat → Tl} : ∀ n, (∀ i, i < n → Cs (S i)) → Cs (eachT S n)
  | 0, _ => cs_none
  | n + 1, h => cs_cons (cs_each n fun i hi => h i (by omega)) (h n (by omega))
theorem ca_wO : Ca wO := ⟨.inl ⟨rfl, rfl, rfl⟩, rfl⟩
theorem ca_wC : Ca wC := ⟨.inr (.inl ⟨rfl, rfl, rfl⟩), rfl⟩
theorem ca_wN {s : Str} (h : nameOk s = true) : Ca (wN s) := by
  unfold nameOk at h
  simp only [Bool.and_eq_true] at h
  obtain ⟨-, -, h⟩ := h
  split at h
  · next w hl =>
    simp only [Bool.and_eq_true, beq_iff_eq] at h
    obtain ⟨hk, hs⟩ := h
    have hw := ((LX.lex_sound 0 _ _ hl).1 w (by simp)).1
    refine ⟨?_, rfl⟩
    rcases hw with ⟨a, -⟩ | ⟨a, -⟩ | ⟨a, -⟩ | ⟨a, -⟩ | ⟨a, b, c, d, e, f⟩
    · rw [hk] at a; cases a
    · rw [hk] at a; cases a
    · rw [hk] at a; cases a
    · rw [hk] at a; cases a
    · rw [hs] at c d e f
      exact .inr (.inr (.inr (.inr ⟨rfl, rfl, c, d, e, f⟩)))
  · cases h
theorem ca_key {s : Str} (h1 : s ≠ []) (h2 : s.length ≤ 4096) (h3 : LX.begNum s = false) (h4 : s.all LX.isNB = true) : Ca (wN s) := ⟨.inr (.inr (.inr (.inr ⟨rfl, rfl, h1, h2, h3, List.all_eq_true.1 h4⟩))), rfl⟩
theorem cs_name (s : Str) : Cs (nameT s) := by
  intro d u e hu
  unfold nameT at hu
  split at hu
  · next h => exact cs_one (ca_wN h) _ _ _ hu
  · cases hu
theorem cs_opens {s : Str} (h : Ca (wN s)) : Cs (opensT s) := by
  intro d u e hu
  simp only [opensT, Option.some.injEq, Prod.mk.injEq] at hu
  obtain ⟨rfl, rfl⟩ := hu
  intro x hx
  rcases List.mem_cons.1 hx with rfl | hx
  · exact ca_wO
  · obtain rfl := List.mem_singleton.1 hx
    exact h
theorem cs_seqL : ∀ l : List (Nat → Tl), (∀ f ∈ l, Cs f) → Cs (seqL l)
  | [], _ => cs_none
  | f :: l, h => cs_cons (h f (by simp)) (cs_seqL l fun g hg => h g (by simp [hg]))
theorem cs_if {p : Prop} [Decidable p] {a b : Nat → Tl} (ha : p → Cs a) (hb : ¬ p → Cs b) : Cs (fun d => if p then a d else b d) := by
  intro d u e hu
  dsimp only at hu
  split at hu
  · next h => exact ha h _ _ _ hu
  · next h => exact hb h _ _ _ hu
theorem cs_no : Cs (fun _ => none) := fun d u e h => by cases h
section
variable {c : Str} {row : Nat → T} (h0 : ∀ j, Wf 0 (row j) → Rg (row j) → ∀ i, i < lenT (row j) → Cs (subs c row j 0 i)) (h1 : ∀ j, Wf 1 (row j) → Rg (row j) → ∀ i, i < lenT (row j) → Cs (subs c row j 1 i))
include h0
theorem cs_col {j : Nat} (h : Wf 0 (row j)) (g : Rg (row j)) : Cs (colT row (subs c row) j 0) := cs_each _ (h0 j h g)
theorem cs_times {n j : Nat} (h : Wf 0 (row j)) (g : Rg (row j)) : Cs (timesT row (subs c row) n j) := cs_if (fun _ => cs_col h0 h g) fun _ => cs_no
theorem cs_pairs {j k : Nat} (h : Wf 0 (row k)) (g : Rg (row k)) : Cs (pairsT row (subs c row) j k) := cs_if (fun he => cs_each _ fun i hi => cs_seqL _ fun f hf => by
  simp only [List.mem_cons, List.not_mem_nil, or_false] at hf
  rcases hf with rfl | rfl | rfl | rfl
  · exact cs_one ca_wO
  · exact cs_name _
  · exact h0 k h g i (by omega)
  · exact cs_one ca_wC) fun _ => cs_no
theorem cs_key {j : Nat} (h : Wf 0 (row j)) (g : Rg (row j)) : Cs (keyT row (subs c row) j) := cs_if (fun _ => cs_one (ca_key (by decide) (by decide) (by decide) (by decide))) fun _ => cs_times h0 h g
theorem cs_vals {l : List Str} {q : Nat} (h : Wf 0 (row (q + 5))) (g : Rg (row (q + 5))) : Cs (valsT row (subs c row) l q) := cs_if (fun _ => cs_times h0 h g) fun _ => cs_no
theorem cs_elemOf {q : Nat} {w : Str} (hw : Ca (wN w)) {own : Nat → Tl} (ho : Cs own) (h3 : Wf 0 (row (q + 3))) (g3 : Rg (row (q + 3))) (h7 : Wf 0 (row (q + 7))) (g7 : Rg (row (q + 7))) : Cs (elemOf row (subs c row) q w own) :=
  cs_cons (cs_opens hw) (cs_cons (cs_key h0 h7 g7) (cs_cons ho (cs_cons (cs_col h0 h3 g3) (cs_cons (cs_one ca_wC) cs_none))))
include h1
theorem cs_expr {q : Nat} (hw : WE row q) (hg : ∀ j, j < 10 → Rg (row (q + j))) : Cs (exprT c row q) := by
  intro d u e hu
  have k : ∀ {s : Str}, s ≠ [] → s.length ≤ 4096 → LX.begNum s = false → s.all LX.isNB = true → Ca (wN s) := ca_key
  have g3 := hg 3 (by decide)
  have g5 := hg 5 (by decide)
  have g7 := hg 7 (by decide)
  have g8 := hg 8 (by decide)
  have w3 := hw.2.2.2.1
  have w5 := hw.2.2.2.2.2.1
  have w7 := hw.2.2.2.2.2.2.2.1
  have w8 := hw.2.2.2.2.2.2.2.2.1
  have sh := cs_cons (cs_one ca_wC) cs_none
  unfold exprT exprF at hu
  split at hu
  · cases hu
  split at hu
  · exact cs_one (k (by decide) (by decide) (by decide) (by decide)) _ _ _ hu
  split at hu
  · obtain ⟨n, hn⟩ := hw.2.1
    rw [hn] at hu
    have hr : R64 n := by have := hg 1 (by decide); rw [hn] at this; exact this n rfl
    exact cs_one (w := wI n) ⟨.inr (.inr (.inr (.inl ⟨rfl, rfl, hr.1, by show n < _; have := hr.2; omega⟩))), rfl⟩ _ _ _ hu
  split at hu
  · unfold truthT at hu
    split at hu
    · exact cs_one (k (by decide) (by decide) (by decide) (by decide)) _ _ _ hu
    split at hu
    · exact cs_one (k (by decide) (by decide) (by decide) (by decide)) _ _ _ hu
    · cases hu
  split at hu
  · unfold textT at hu
    split at hu
    · next hl => exact cs_one (w := wT _) ⟨.inr (.inr (.inl ⟨rfl, rfl, hl⟩)), rfl⟩ _ _ _ hu
    · cases hu
  split at hu
  · exact cs_name _ _ _ _ hu
  split at hu
  · have tg : Cs (taggedT row (subs c row) q) := cs_cons (cs_name _) (cs_cons (cs_one ca_wO) (cs_cons (cs_pairs h0 w5 g5) sh))
    unfold elemT at hu
    split at hu
    · cases hu
    split at hu
    · exact cs_elemOf h0 (k (by decide) (by decide) (by decide) (by decide)) tg w3 g3 w7 g7 _ _ _ hu
    split at hu
    · exact cs_elemOf h0 (k (by decide) (by decide) (by decide) (by decide)) tg w3 g3 w7 g7 _ _ _ hu
    split at hu
    · exact cs_elemOf h0 (k (by decide) (by decide) (by decide) (by decide)) tg w3 g3 w7 g7 _ _ _ hu
    split at hu
    · exact cs_elemOf h0 (k (by decide) (by decide) (by decide) (by decide)) cs_none w3 g3 w7 g7 _ _ _ hu
    split at hu
    · exact cs_elemOf h0 (k (by decide) (by decide) (by decide) (by decide)) (cs_name _) w3 g3 w7 g7 _ _ _ hu
    split at hu
    · exact cs_elemOf h0 (k (by decide) (by decide) (by decide) (by decide)) (cs_cons (cs_name _) (cs_cons (cs_vals h0 w5 g5) cs_none)) w3 g3 w7 g7 _ _ _ hu
    split at hu
    · exact cs_elemOf h0 (k (by decide) (by decide) (by decide) (by decide)) (cs_vals h0 w5 g5) w3 g3 w7 g7 _ _ _ hu
    split at hu
    · exact cs_elemOf h0 (k (by decide) (by decide) (by decide) (by decide)) (cs_vals h0 w5 g5) w3 g3 w7 g7 _ _ _ hu
    · cases hu
  · unfold compoundT at hu
    split at hu
    · exact cs_cons (cs_one ca_wO) (cs_cons (cs_if (fun _ => cs_no) fun _ => cs_name _) (cs_cons (cs_col h0 w3 g3) sh)) _ _ _ hu
    split at hu
    · exact cs_cons (cs_opens (k (by decide) (by decide) (by decide) (by decide))) (cs_cons (cs_times h0 w3 g3) sh) _ _ _ hu
    split at hu
    · exact cs_cons (cs_opens (k (by decide) (by decide) (by decide) (by decide))) (cs_cons (cs_name _) (cs_cons (cs_times h0 w3 g3) sh)) _ _ _ hu
    split at hu
    · exact cs_cons (cs_opens (k (by decide) (by decide) (by decide) (by decide))) (cs_cons (cs_times h0 w3 g3) sh) _ _ _ hu
    split at hu
    · exact cs_cons (cs_opens (k (by decide) (by decide) (by decide) (by decide))) (cs_cons (cs_times h0 w3 g3) sh) _ _ _ hu
    split at hu
    · exact cs_cons (cs_opens (k (by decide) (by decide) (by decide) (by decide))) (cs_cons (cs_pairs h0 w5 g5) sh) _ _ _ hu
    split at hu
    · split at hu
      · exact cs_cons (cs_opens (k (by decide) (by decide) (by decide) (by decide))) (cs_cons (cs_each _ (h1 _ w8 g8)) sh) _ _ _ hu
      · cases hu
    · cases hu
theorem cs_act (hw : WA row) (hg : ∀ j, j < 12 → Rg (row j)) : Cs (actT c row) := by
  intro d u e hu
  have k : ∀ {s : Str}, s ≠ [] → s.length ≤ 4096 → LX.begNum s = false → s.all LX.isNB = true → Ca (wN s) := ca_key
  have hx : Cs (exprF c row (subs c row) 2) := cs_expr h0 h1 hw.2.2 fun j hj => hg (2 + j) (by omega)
  have sh := cs_cons (cs_one ca_wC) cs_none
  unfold actT actF at hu
  split at hu
  · cases hu
  split at hu
  · exact cs_cons (cs_opens (k (by decide) (by decide) (by decide) (by decide))) (cs_cons (cs_name _) (cs_cons hx sh)) _ _ _ hu
  split at hu
  · exact cs_cons (cs_opens (k (by decide) (by decide) (by decide) (by decide))) (cs_cons hx sh) _ _ _ hu
  split at hu
  · exact cs_cons (cs_opens (k (by decide) (by decide) (by decide) (by decide))) (cs_cons hx sh) _ _ _ hu
  split at hu
  · exact cs_cons (cs_opens (k (by decide) (by decide) (by decide) (by decide))) sh _ _ _ hu
  · cases hu
theorem cs_stmt (hw : WS row) (hg : ∀ j, j < 17 → Rg (row j)) (h2 : ∀ i, i < lenT (row 16) → Cs (subs c row 16 2 i)) : Cs (stmtT c row) := by
  intro d u e hu
  have k : ∀ {s : Str}, s ≠ [] → s.length ≤ 4096 → LX.begNum s = false → s.all LX.isNB = true → Ca (wN s) := ca_key
  have hx : Cs (exprF c row (subs c row) 3) := cs_expr h0 h1 hw.2.2.2.1 fun j hj => hg (3 + j) (by omega)
  have sh := cs_cons (cs_one ca_wC) cs_none
  have w13 : Cs (withinT row (subs c row) 13 0) := cs_cons (cs_one ca_wO) (cs_cons (cs_col h0 hw.2.2.2.2.1 (hg 13 (by decide))) sh)
  have w14 : Cs (withinT row (subs c row) 14 1) := cs_cons (cs_one ca_wO) (cs_cons (cs_each _ (h1 14 hw.2.2.2.2.2.1 (hg 14 (by decide)))) sh)
  have w15 : Cs (withinT row (subs c row) 15 1) := cs_cons (cs_one ca_wO) (cs_cons (cs_each _ (h1 15 hw.2.2.2.2.2.2.1 (hg 15 (by decide)))) sh)
  have rn : Cs (runsT row (subs c row)) := cs_cons w13 (cs_cons w14 (cs_cons w15 cs_none))
  unfold stmtT stmtF at hu
  split at hu
  · cases hu
  split at hu
  · exact cs_cons (cs_opens (k (by decide) (by decide) (by decide) (by decide))) (cs_cons (cs_name _) (cs_cons hx sh)) _ _ _ hu
  split at hu
  · exact cs_cons (cs_opens (k (by decide) (by decide) (by decide) (by decide))) (cs_cons (cs_name _) (cs_cons hx sh)) _ _ _ hu
  split at hu
  · exact cs_cons (cs_opens (k (by decide) (by decide) (by decide) (by decide))) (cs_cons (cs_name _) (cs_cons w13 (cs_cons hx sh))) _ _ _ hu
  split at hu
  · exact cs_cons (cs_opens (k (by decide) (by decide) (by decide) (by decide))) (cs_cons (cs_name _) (cs_cons (cs_name _) sh)) _ _ _ hu
  split at hu
  · exact cs_cons (cs_opens (k (by decide) (by decide) (by decide) (by decide))) (cs_cons rn sh) _ _ _ hu
  split at hu
  · exact cs_cons (cs_opens (k (by decide) (by decide) (by decide) (by decide))) (cs_cons rn sh) _ _ _ hu
  split at hu
  · exact cs_cons (cs_opens (k (by decide) (by decide) (by decide) (by decide))) (cs_cons hx (cs_cons (cs_each _ h2) sh)) _ _ _ hu
  · cases hu
end
theorem cs_tree {c : Str} : ∀ t : T, (Wf 0 t → Rg t → ∀ i, i < lenT t → Cs (tellC c 0 t i)) ∧ (Wf 1 t → Rg t → ∀ i, i < lenT t → Cs (tellC c 1 t i)) ∧ (Wf 2 t → Rg t → ∀ i, i < lenT t → Cs (tellC c 2 t i)) := by
  intro t
  induction t with
  | sc v => exact ⟨fun h => h.elim, fun h => h.elim, fun h => h.elim⟩
  | ls n k row ih =>
    refine ⟨fun hw hg i hi => ?_, fun hw hg i hi => ?_, fun hw hg i hi => ?_⟩
    · obtain ⟨rfl, hx⟩ := (wf0 _ _ _).1 hw
      exact cs_expr (fun j hj g => (ih i j).1 hj g) (fun j hj g => (ih i j).2.1 hj g) (hx i hi) fun j hj => by rw [Nat.zero_add]; exact hg i hi j hj
    · obtain ⟨rfl, hx⟩ := (wf1 _ _ _).1 hw
      exact cs_act (fun j hj g => (ih i j).1 hj g) (fun j hj g => (ih i j).2.1 hj g) (hx i hi) fun j hj => hg i hi j hj
    · obtain ⟨rfl, hx⟩ := (wf2 _ _ _).1 hw
      exact cs_stmt (fun j hj g => (ih i j).1 hj g) (fun j hj g => (ih i j).2.1 hj g) (hx i hi) (fun j hj => hg i hi j hj) ((ih i 16).2.2 (hx i hi).2.2.2.2.2.2.2 (hg i hi 16 (by decide)))
theorem comp_ca {row : Nat → T} (hw : WC row) (hg : ∀ j, j < 13 → Rg (row j)) {u : List LX.LW} {e : Nat} (h : compT row = some (u, e)) : ∀ w ∈ u, Ca w := by
  have k : ∀ {s : Str}, s ≠ [] → s.length ≤ 4096 → LX.begNum s = false → s.all LX.isNB = true → Ca (wN s) := ca_key
  have sh := cs_cons (cs_one ca_wC) cs_none
  have h1 : Cs (openingT row) := cs_cons (cs_opens (k (by decide) (by decide) (by decide) (by decide))) (cs_cons (cs_name _) (cs_cons (cs_name _) cs_none))
  have h2 : Cs (bodyT row) := cs_each _ ((cs_tree (row 2)).2.2 hw.2.2.1 (hg 2 (by decide)))
  have h3 : Cs (exprT (strT (row 0)) row 3) := cs_expr (fun j hj g => (cs_tree (row j)).1 hj g) (fun j hj g => (cs_tree (row j)).2.1 hj g) hw.2.2.2 fun j hj => hg (3 + j) (by omega)
  have h4 : Cs (showT row) := cs_cons (cs_opens (k (by decide) (by decide) (by decide) (by decide))) (cs_cons h3 (cs_cons (cs_one ca_wC) sh))
  exact cs_cons h1 (cs_cons h2 (cs_cons h4 cs_none)) 0 u e h
theorem text_comes {k : Nat} {f : Nat → Nat → T} {us : List (List LX.LW)} (hw : ∀ i, i < k → WC (f i)) (hg : ∀ i, i < k → ∀ j, j < 13 → Rg (f i j)) (h : progW f k = some us) (hN : (lines us).length ≤ 65536) :
    ∃ vs x, LX.lex 0 (lines us) = .ok vs ∧ parseP vs = .inr x ∧ Le (.ls k 13 f) (ofRows 13 x) := by
  obtain ⟨h1, h2⟩ := progW_get k f us h
  have hc : ∀ u ∈ us, ∀ w ∈ u, Ca w := fun u hu => by
    obtain ⟨i, hi, rfl⟩ := List.mem_iff_getElem.1 hu
    obtain ⟨e, he⟩ := h2 i (by omega)
    have : us.getD i [] = us[i] := by rw [List.getD_eq_getElem?_getD, List.getElem?_eq_getElem hi]; rfl
    rw [this] at he
    exact comp_ca (hw i (by omega)) (hg i (by omega)) he
  obtain ⟨vs, h3, h4⟩ := lex_text 0 us hc
  have hl : us.flatten.length ≤ 65536 := by
    rw [← h4, List.length_map]
    have := (LX.lex_sound 0 _ _ h3).2.2
    omega
  obtain ⟨x, t', d', e1, e2⟩ := prog_back k f us hw h hl
  refine ⟨vs, x, h3, ?_, e2⟩
  unfold parseP
  rw [h4, e1]
end Go.Proofs.YtedmmgfnplbkjaaGreatDoor.G
