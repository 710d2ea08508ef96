/-
  Plain: the words that a program is told by ('exprT', 'stmtF', 'compT'), or none if it is no text's; and that what was read is told by just the words that were taken ('ts_..'). No program is imported.
  Conditions: none.
  Plain: what was read is told by just the words that were taken ('ts_..', 'parse_told'). No program is imported.
  Conditions: the words are such as texts have.
  Plain: how words are laid out ('lay'), and that the words of a program's text are the words it is told by ('lex_text', 'text_back'). No program is imported.
  Conditions: the words are such as texts have.
-/
import Derived.Test.YtedmmgfnplbkjaaGreatDoorParWf
namespace Go.Proofs.YtedmmgfnplbkjaaGreatDoor.G
set_option linter.unusedVariables false
set_option linter.unusedSimpArgs false
open Go.Proofs.YtedmmgfnplbkjaaGreatDoor
abbrev Tl := Option (List LX.LW × Nat)
def Tl.seq (r : Tl) (f : Nat → Tl) : Tl := match r with
  | none => none
  | some (a, d) => match f d with
    | none => none
    | some (b, e) => some (a ++ b, e)
@[simp] theorem seq_none (f : Nat → Tl) : Tl.seq none f = none := rfl
theorem seq_some {r : Tl} {f : Nat → Tl} {a b : List LX.LW} {d e : Nat} (h : r = some (a, d)) (g : f d = some (b, e)) : r.seq f = some (a ++ b, e) := by
  subst h
  simp only [Tl.seq, g]
theorem seq_bad {r : Tl} {f : Nat → Tl} {a : List LX.LW} {d : Nat} (h : r = some (a, d)) (g : f d = none) : r.seq f = none := by
  subst h
  simp only [Tl.seq, g]
theorem seq_assoc (r : Tl) (f g : Nat → Tl) : (r.seq f).seq g = r.seq fun d => (f d).seq g := by
  cases r with
  | none => rfl
  | some p =>
    obtain ⟨a, d⟩ := p
    simp only [Tl.seq]
    cases h : f d with
    | none => rfl
    | some p =>
      obtain ⟨b, e⟩ := p
      simp only []
      cases g e with
      | none => rfl
      | some p => simp [List.append_assoc]
theorem seq_nil (r : Tl) : (r.seq fun d => some ([], d)) = r := by
  cases r with
  | none => rfl
  | some p => obtain ⟨a, d⟩ := p; simp [Tl.seq]
theorem nil_seq (d : Nat) (f : Nat → Tl) : Tl.seq (some ([], d)) f = f d := by
  simp only [Tl.seq]
  cases f d with
  | none => rfl
  | some p => rfl
def seqL : List (Nat → Tl) → Nat → Tl
  | [], d => some ([], d)
  | f :: l, d => (f d).seq (seqL l)
def wO : LX.LW := ⟨4, [], 0, 0⟩
def wC : LX.LW := ⟨5, [], 0, 0⟩
def wN (s : Str) : LX.LW := ⟨1, s, 0, 0⟩
def wI (n : Int) : LX.LW := ⟨2, [], n, 0⟩
def wT (s : Str) : LX.LW := ⟨3, s, 0, 0⟩
def oneT (w : LX.LW) (d : Nat) : Tl := some ([w], d)
abbrev shutT := oneT wC
def wr (d : Nat) : Int := IntKind.i64.wrap d
def siteW (c : Str) (d : Nat) : Str := c ++ 35 :: Lib.itoa (wr d)
def opensT (s : Str) (d : Nat) : Tl := some ([wO, wN s], d)
def resB (s : Str) : Bool := s == [121, 101, 115] || s == [110, 111] || s == [110, 111, 110, 101] || s == [45]
def nameOk (s : Str) : Bool := !resB s && (decide (s.length ≤ 65536) && (match LX.lex 0 s with
  | .ok [w] => w.k == 1 && w.s == s
  | _ => false))
def nameT (s : Str) (d : Nat) : Tl := if nameOk s then oneT (wN s) d else none
def keyB (s : Str) : Bool := s == [105, 102] || s == [101, 97, 99, 104] || s == [114, 101, 97, 100] || s == [116, 104, 114, 111, 119] || s == [114, 101, 99] || s == [100, 111] || s == [104, 111, 115, 116] || s == [110, 101, 119] || s == [112, 117, 114, 101] || s == [102, 114, 97, 103] || s == [112, 111, 114, 116, 97, 108] || s == [103, 105, 118, 101] || s == [103, 117, 97, 114, 100] || s == [119, 97, 105, 116]
def opT (s : Str) (d : Nat) : Tl := if keyB s then none else nameT s d
def truthT (n : Int) (d : Nat) : Tl := if n = 1 then oneT (wN [121, 101, 115]) d else if n = 0 then oneT (wN [110, 111]) d else none
def textT (s : Str) (d : Nat) : Tl := if s.length ≤ 4096 then oneT (wT s) d else none
def eachT (f : Nat → Nat → Tl) : Nat → Nat → Tl
  | 0, d => some ([], d)
  | m + 1, d => (eachT f m d).seq (f m)
def lenT : T → Nat
  | .sc _ => 0
  | .ls n _ _ => n
def strT : T → Str
  | .sc (.string s) => s.data.toList
  | _ => []
def zB : T → Bool
  | .sc (.int _ n) => n == 0
  | .sc (.string s) => s.data.toList.isEmpty
  | .sc _ => true
  | .ls n _ _ => n == 0
def nthS : T → Nat → Str
  | .sc _, _ => []
  | .ls _ _ row, i => strT (row i 0)
def namedE (k : Int) (j : Nat) : Bool :=
  if k = 1 ∨ k = 2 then j == 1 else if k = 3 ∨ k = 4 then j == 2 else if k = 5 ∨ k = 7 then j == 2 || j == 3 else if k = 6 ∨ k = 8 ∨ k = 9 then j == 3
  else if k = 10 then j == 4 || j == 5 else if k = 11 then j == 2 || j == 3 || j == 4 || j == 5 || j == 6 || j == 7 else if k = 12 then j == 8 || j == 9 else false
def namedL (k : Int) (j : Nat) : Bool :=
  if k = 1 ∨ k = 2 ∨ k = 3 ∨ k = 6 then j == 2 || j == 3 || j == 4 || j == 5 || j == 6 || j == 7 else if k = 4 then j == 3 || j == 6 || j == 7 else if k = 5 then j == 2 || j == 3 || j == 6 || j == 7
  else if k = 7 ∨ k = 8 then j == 3 || j == 4 || j == 5 || j == 6 || j == 7 else false
def fitE (named : Nat → Bool) (row : Nat → T) (q : Nat) : Bool := (named 1 || zB (row (q + 1))) && ((named 2 || zB (row (q + 2))) && ((named 3 || zB (row (q + 3))) && ((named 4 || zB (row (q + 4))) && ((named 5 || zB (row (q + 5))) && ((named 6 || zB (row (q + 6))) && ((named 7 || zB (row (q + 7))) && ((named 8 || zB (row (q + 8))) && (named 9 || zB (row (q + 9))))))))))
def zeroE (row : Nat → T) (q : Nat) : Bool := num (row q) == 0 && fitE (fun _ => false) row q
section
variable (c : Str) (row : Nat → T) (sub : Nat → Nat → Nat → Nat → Tl)
def colT (j o : Nat) (d : Nat) : Tl := eachT (sub j o) (lenT (row j)) d
def withinT (j o : Nat) (d : Nat) : Tl := seqL [oneT wO, colT row sub j o, shutT] d
def timesT (n : Nat) (j : Nat) (d : Nat) : Tl := if lenT (row j) = n then colT row sub j 0 d else none
def pairsT (j k : Nat) (d : Nat) : Tl := if lenT (row j) = lenT (row k) then eachT (fun i => seqL [oneT wO, nameT (nthS (row j) i), sub k 0 i, shutT]) (lenT (row j)) d else none
def keyT (j : Nat) (d : Nat) : Tl := if lenT (row j) = 0 then oneT (wN [45]) d else timesT row sub 1 j d
def areB (j : Nat) (l : List Str) : Bool := lenT (row j) == l.length && (List.range l.length).all fun i => nthS (row j) i == l.getD i []
def valsT (l : List Str) (q : Nat) (d : Nat) : Tl := if areB row (q + 4) l then timesT row sub l.length (q + 5) d else none
def elemOf (q : Nat) (w : Str) (own : Nat → Tl) (d : Nat) : Tl := seqL [opensT w, keyT row sub (q + 7), own, colT row sub (q + 3) 0, shutT] d
def taggedT (q : Nat) (d : Nat) : Tl := seqL [nameT (strT (row (q + 2))), oneT wO, pairsT row sub (q + 4) (q + 5), shutT] d
def givesT (q : Nat) (d : Nat) : Tl := seqL [nameT (strT (row (q + 2))), valsT row sub [[118, 97, 108, 117, 101]] q] d
def elemT (q : Nat) (d : Nat) : Tl := if fitE (namedL (num (row (q + 6)))) row q = false then none
  else if num (row (q + 6)) = 1 then elemOf row sub q [104, 111, 115, 116] (taggedT row sub q) d
  else if num (row (q + 6)) = 2 then elemOf row sub q [110, 101, 119] (taggedT row sub q) d
  else if num (row (q + 6)) = 3 then elemOf row sub q [112, 117, 114, 101] (taggedT row sub q) d
  else if num (row (q + 6)) = 4 then elemOf row sub q [102, 114, 97, 103] (fun d => some ([], d)) d
  else if num (row (q + 6)) = 5 then elemOf row sub q [112, 111, 114, 116, 97, 108] (nameT (strT (row (q + 2)))) d
  else if num (row (q + 6)) = 6 then elemOf row sub q [103, 105, 118, 101] (givesT row sub q) d
  else if num (row (q + 6)) = 7 then elemOf row sub q [103, 117, 97, 114, 100] (valsT row sub [[97, 103, 97, 105, 110], [101, 108, 115, 101]] q) d
  else if num (row (q + 6)) = 8 then elemOf row sub q [119, 97, 105, 116] (valsT row sub [[101, 108, 115, 101]] q) d
  else none
def compoundT (q : Nat) (d : Nat) : Tl :=
  if num (row q) = 5 then seqL [oneT wO, opT (strT (row (q + 2))), colT row sub (q + 3) 0, shutT] d
  else if num (row q) = 6 then seqL [opensT [105, 102], timesT row sub 3 (q + 3), shutT] d
  else if num (row q) = 7 then seqL [opensT [101, 97, 99, 104], nameT (strT (row (q + 2))), timesT row sub 2 (q + 3), shutT] d
  else if num (row q) = 8 then seqL [opensT [114, 101, 97, 100], timesT row sub 1 (q + 3), shutT] d
  else if num (row q) = 9 then seqL [opensT [116, 104, 114, 111, 119], timesT row sub 1 (q + 3), shutT] d
  else if num (row q) = 10 then seqL [opensT [114, 101, 99], pairsT row sub (q + 4) (q + 5), shutT] d
  else if num (row q) = 12 then (if strT (row (q + 9)) = siteW c d then seqL [opensT [100, 111], colT row sub (q + 8) 1, shutT] (d + 1) else none)
  else none
def exprF (q : Nat) (d : Nat) : Tl := if fitE (namedE (num (row q))) row q = false then none
  else if num (row q) = 0 then oneT (wN [110, 111, 110, 101]) d
  else if num (row q) = 1 then oneT (wI (num (row (q + 1)))) d
  else if num (row q) = 2 then truthT (num (row (q + 1))) d
  else if num (row q) = 3 then textT (strT (row (q + 2))) d
  else if num (row q) = 4 then nameT (strT (row (q + 2))) d
  else if num (row q) = 11 then elemT row sub q d
  else compoundT c row sub q d
def fitA : Bool := if num (row 0) = 1 then true else if num (row 0) = 2 ∨ num (row 0) = 3 then zB (row 1) else zB (row 1) && zeroE row 2
def actF (d : Nat) : Tl := if fitA row = false then none
  else if num (row 0) = 1 then seqL [opensT [115, 101, 116], nameT (strT (row 1)), exprF c row sub 2, shutT] d
  else if num (row 0) = 2 then seqL [opensT [108, 111, 103], exprF c row sub 2, shutT] d
  else if num (row 0) = 3 then seqL [opensT [102, 97, 105, 108], exprF c row sub 2, shutT] d
  else if num (row 0) = 4 then seqL [opensT [115, 116, 111, 112], shutT] d
  else none
def namedS (k : Int) (j : Nat) : Bool := if k = 1 ∨ k = 2 then j == 1 || j == 3 else if k = 3 then j == 1 || j == 3 || j == 4 else if k = 4 then j == 1 || j == 2 else if k = 5 ∨ k = 6 then j == 4 || j == 5 || j == 6 else if k = 7 then j == 3 || j == 7 else false
def fitS : Bool := (namedS (num (row 0)) 1 || zB (row 1)) && ((namedS (num (row 0)) 2 || zB (row 2)) && ((namedS (num (row 0)) 3 || zeroE row 3) && ((namedS (num (row 0)) 4 || zB (row 13)) && ((namedS (num (row 0)) 5 || zB (row 14)) && ((namedS (num (row 0)) 6 || zB (row 15)) && (namedS (num (row 0)) 7 || zB (row 16)))))))
def runsT (d : Nat) : Tl := seqL [withinT row sub 13 0, withinT row sub 14 1, withinT row sub 15 1] d
def stmtF (d : Nat) : Tl := if fitS row = false then none
  else if num (row 0) = 1 then seqL [opensT [108, 101, 116], nameT (strT (row 1)), exprF c row sub 3, shutT] d
  else if num (row 0) = 2 then seqL [opensT [115, 116, 97, 116, 101], nameT (strT (row 1)), exprF c row sub 3, shutT] d
  else if num (row 0) = 3 then seqL [opensT [109, 101, 109, 111], nameT (strT (row 1)), withinT row sub 13 0, exprF c row sub 3, shutT] d
  else if num (row 0) = 4 then seqL [opensT [117, 115, 101], nameT (strT (row 1)), nameT (strT (row 2)), shutT] d
  else if num (row 0) = 5 then seqL [opensT [108, 97, 121, 111, 117, 116], runsT row sub, shutT] d
  else if num (row 0) = 6 then seqL [opensT [101, 102, 102, 101, 99, 116], runsT row sub, shutT] d
  else if num (row 0) = 7 then seqL [opensT [119, 104, 101, 110], exprF c row sub 3, colT row sub 16 2, shutT] d
  else none
def rowF (o : Nat) (d : Nat) : Tl := match o with
  | 0 => exprF c row sub 0 d
  | 1 => actF c row sub d
  | _ => stmtF c row sub d
end
def tellC (c : Str) : Nat → T → Nat → Nat → Tl
  | _, .sc _, _, _ => none
  | o, .ls n k row, i, d => rowF c (row i) (fun j o' => tellC c o' (row i j)) o d
def subs (c : Str) (row : Nat → T) : Nat → Nat → Nat → Nat → Tl := fun j o => tellC c o (row j)
def exprT (c : Str) (row : Nat → T) (q : Nat) (d : Nat) : Tl := exprF c row (subs c row) q d
def actT (c : Str) (row : Nat → T) (d : Nat) : Tl := actF c row (subs c row) d
def stmtT (c : Str) (row : Nat → T) (d : Nat) : Tl := stmtF c row (subs c row) d
def openingT (row : Nat → T) (d : Nat) : Tl := seqL [opensT [99, 111, 109, 112], nameT (strT (row 0)), nameT (strT (row 1))] d
def bodyT (row : Nat → T) (d : Nat) : Tl := colT row (subs (strT (row 0)) row) 2 2 d
def showT (row : Nat → T) (d : Nat) : Tl := seqL [opensT [115, 104, 111, 119], exprT (strT (row 0)) row 3, shutT, shutT] d
def compT (row : Nat → T) : Tl := seqL [openingT row, bodyT row, showT row] 0
def progW (f : Nat → Nat → T) : Nat → Option (List (List LX.LW))
  | 0 => some []
  | m + 1 => match progW f m with
    | none => none
    | some l => match compT (f m) with
      | none => none
      | some (u, _) => some (l ++ [u])
end Go.Proofs.YtedmmgfnplbkjaaGreatDoor.G
namespace Go.Proofs.YtedmmgfnplbkjaaGreatDoor.G
set_option linter.unusedVariables false
set_option linter.unusedSimpArgs false
open Go.Proofs.YtedmmgfnplbkjaaGreatDoor
def Ca (w : LX.LW) : Prop := LX.OkW w ∧ w.line = 0
def Gd (ws : List LX.LW) (t d : Nat) : Prop := d ≤ t ∧ t ≤ ws.length
def Tr {α : Type} (ws : List LX.LW) (S : α → Tl) (pre : List LX.LW) (t : Nat) : Rs α → Prop
  | .bad _ => True
  | .ok x t' d' => ∃ u, S x = some (pre ++ u, d') ∧ ws.drop t = u ++ ws.drop t' ∧ Gd ws t' d'
def Ts {α : Type} (ws : List LX.LW) (S : α → Nat → Tl) (t d : Nat) (r : Rs α) : Prop := Gd ws t d → Tr ws (fun x => S x d) [] t r
theorem Tr.bind {α β : Type} {ws : List LX.LW} {S : α → Nat → Tl} {S' : β → Tl} {pre : List LX.LW} {t d : Nat} {r : Rs α} {f : α → Nat → Nat → Rs β} (h : Ts ws S t d r) (g : Gd ws t d)
    (hf : ∀ x t' d' u, S x d = some (u, d') → Gd ws t' d' → Tr ws S' (pre ++ u) t' (f x t' d')) : Tr ws S' pre t (r.bind f) := by
  cases r with
  | bad _ => trivial
  | ok x t' d' =>
    obtain ⟨u, h1, h2, h0⟩ := h g
    have h3 := hf x t' d' u h1 h0
    rw [Rs.bind_ok]
    revert h3
    cases f x t' d' with
    | bad _ => exact fun _ => trivial
    | ok y t2 d2 =>
      rintro ⟨v, h4, h5, h6⟩
      exact ⟨u ++ v, by rw [h4, List.append_assoc], by rw [h2, h5, List.append_assoc], h6⟩
theorem Ts.bind {α β : Type} {ws : List LX.LW} {S : α → Nat → Tl} {S' : β → Nat → Tl} {t d : Nat} {r : Rs α} {f : α → Nat → Nat → Rs β} (h : Ts ws S t d r)
    (hf : ∀ x t' d' u, S x d = some (u, d') → Gd ws t' d' → Tr ws (fun y => S' y d) u t' (f x t' d')) : Ts ws S' t d (r.bind f) := fun g => Tr.bind (pre := []) h g hf
theorem Tr.ok {α : Type} {ws : List LX.LW} {S : α → Tl} {pre : List LX.LW} {x : α} {t d : Nat} (g : Gd ws t d) (h : S x = some (pre, d)) : Tr ws S pre t (.ok x t d) := ⟨[], by rw [List.append_nil]; exact h, rfl, g⟩
theorem Tr.ite {α : Type} {ws : List LX.LW} {S : α → Tl} {pre : List LX.LW} {t : Nat} {p : Prop} [Decidable p] {a b : Rs α} (h1 : p → Tr ws S pre t a) (h2 : ¬ p → Tr ws S pre t b) : Tr ws S pre t (if p then a else b) := by
  split
  · next h => exact h1 h
  · next h => exact h2 h
theorem drop_get {ws : List LX.LW} {t : Nat} {w : LX.LW} (h : ws[t]? = some w) : ws.drop t = [w] ++ ws.drop (t + 1) := by
  obtain ⟨hl, rfl⟩ := List.getElem?_eq_some_iff.1 h
  exact List.drop_eq_getElem_cons hl
theorem gd_next {ws : List LX.LW} {t d : Nat} {w : LX.LW} (g : Gd ws t d) (h : ws[t]? = some w) : Gd ws (t + 1) d := by
  obtain ⟨hl, -⟩ := List.getElem?_eq_some_iff.1 h
  exact ⟨Nat.le_succ_of_le g.1, hl⟩
section
variable {ws : List LX.LW} (hc : ∀ w ∈ ws, Ca w)
include hc
theorem ca_at {t : Nat} {w : LX.LW} (h : ws[t]? = some w) : Ca w := hc w (List.mem_of_getElem? h)
omit hc in
theorem name_ok {w : LX.LW} (h1 : Ca w) (e : isName w = true) : w = wN w.s ∧ nameOk w.s = true := by
  obtain ⟨k, s, n, l⟩ := w
  obtain ⟨h1, h2⟩ := h1
  simp only [isName, Bool.and_eq_true, beq_iff_eq] at e h2
  obtain ⟨rfl, e⟩ := e
  subst h2
  have h0 := h1
  rcases h1 with ⟨a, b, c⟩ | ⟨a, b, c⟩ | ⟨a, b, c⟩ | ⟨a, b, c⟩ | ⟨-, b, hn, hl, -, -⟩
  · cases a
  · cases a
  · cases a
  · cases a
  simp only at b hn hl
  subst b
  refine ⟨rfl, ?_⟩
  have h3 := LX.lex_told 0 (w := ⟨1, s, 0, 0⟩) h0 [] (fun c t h => by cases h)
  rw [List.append_nil] at h3
  have h4 : LX.toldW ⟨1, s, 0, 0⟩ = s := rfl
  rw [h4, LX.lex_nil] at h3
  unfold nameOk
  rw [h3]
  simp only [resB, LX.Res.cons, beq_self_eq_true, Bool.and_self, Bool.and_true, Bool.and_eq_true, decide_eq_true_eq]
  exact ⟨e, by omega⟩
def eS (c : Str) (e : List T) (d : Nat) : Tl := if e.length = 10 then exprT c (at_ e) 0 d else none
omit hc in
theorem getD_at {l : List (List T)} {i : Nat} (hi : i < l.length) : l.getD i [] = l[i] := by
  simp [List.getD_eq_getElem?_getD, List.getElem?_eq_getElem hi]
variable {c : Str} {ex : Nat → Nat → Rs (List T)} (he : ∀ t d, Ts ws (eS c) t d (ex t d))
include he
omit hc he in
theorem name_some {s : Str} {d e : Nat} {u : List LX.LW} (h : nameT s d = some (u, e)) : u = [wN s] ∧ e = d := by
  unfold nameT at h
  split at h
  · injection h with h; injection h with h1 h2; exact ⟨h1.symm, h2.symm⟩
  · cases h
omit hc he in
theorem wr_small {d : Nat} (h : d < 9223372036854775808) : wr d = d := by
  unfold wr IntKind.wrap
  simp [IntKind.bits, IntKind.signed]
  omega
variable (hN : ws.length ≤ 4611686018427387904)
include hN
omit he hN in
theorem Tr.name {β : Type} {S' : β → Tl} {pre : List LX.LW} {t d : Nat} {f : Str → Nat → Nat → Rs β} (g : Gd ws t d) (hf : ∀ s, nameOk s = true → Gd ws (t + 1) d → Tr ws S' (pre ++ [wN s]) (t + 1) (f s (t + 1) d)) : Tr ws S' pre t ((nameP ws t d).bind f) := by
  unfold nameP
  cases h : ws[t]? with
  | none => trivial
  | some w =>
    show Tr ws _ _ _ ((if isName w then Rs.ok w.s (t + 1) d else .bad (t + 1)).bind f)
    split
    · next e =>
      obtain ⟨h1, h2⟩ := name_ok (ca_at hc h) e
      have h3 := hf w.s h2 (gd_next g h)
      rw [Rs.bind_ok]
      revert h3
      cases f w.s (t + 1) d with
      | bad _ => exact fun _ => trivial
      | ok y t2 d2 =>
        rintro ⟨v, h4, h5, h6⟩
        refine ⟨[wN w.s] ++ v, by rw [h4, List.append_assoc], ?_, h6⟩
        rw [drop_get h, h5, ← h1, List.append_assoc]
    · trivial
end
end Go.Proofs.YtedmmgfnplbkjaaGreatDoor.G
namespace Go.Proofs.YtedmmgfnplbkjaaGreatDoor.G
set_option linter.unusedVariables false
set_option linter.unusedSimpArgs false
open Go.Proofs.YtedmmgfnplbkjaaGreatDoor
def lay : Bool → List LX.LW → Str
  | _, [] => []
  | b, w :: ws => (if w.k ≠ 5 ∧ b = true then [32] else []) ++ (LX.toldW w ++ lay (w.k != 4) ws)
def aft : Bool → List LX.LW → Bool
  | b, [] => b
  | _, w :: ws => aft (w.k != 4) ws
theorem lay_append (b : Bool) (u v : List LX.LW) : lay b (u ++ v) = lay b u ++ lay (aft b u) v := by
  induction u generalizing b with
  | nil => rfl
  | cons w u ih => simp only [List.cons_append, lay, aft, ih, List.append_assoc]
theorem aft_append (b : Bool) (u v : List LX.LW) : aft b (u ++ v) = aft (aft b u) v := by
  induction u generalizing b with
  | nil => rfl
  | cons w u ih => simp only [List.cons_append, aft, ih]
theorem lex_open (line : Nat) (r : Str) : LX.lex line (40 :: r) = (LX.lex line r).cons { wO with line := line } := by
  rw [LX.lex_word line 40 r ⟨4, [], 0, 0⟩ 1 (by decide) rfl]
  rfl
theorem res_app (a b : List LX.LW) (r : LX.Res) : (r.app b).app a = r.app (a ++ b) := by
  cases r with
  | err n => rfl
  | ok ws => simp [LX.Res.app]
theorem res_cons (w : LX.LW) (r : LX.Res) : r.cons w = r.app [w] := by
  cases r with
  | err n => rfl
  | ok ws => rfl
theorem lay_head {b : Bool} {ws : List LX.LW} (hc : ∀ w ∈ ws, Ca w) (r : Str) (hb : b = true) : ∀ c t, lay b ws ++ 10 :: r = c :: t → LX.isNB c = false := by
  intro c t h
  cases ws with
  | nil => simp only [lay, List.nil_append] at h; injection h with h _; subst h; decide
  | cons w ws =>
    subst hb
    by_cases h5 : w.k = 5
    · have e : LX.toldW w = [41] := by unfold LX.toldW; rw [h5]; rfl
      simp only [lay, h5, e] at h
      injection h with h _
      subst h
      decide
    · simp only [lay] at h
      rw [if_pos ⟨h5, trivial⟩] at h
      injection h with h _
      subst h
      decide
theorem lex_lay (line : Nat) (ws : List LX.LW) (hc : ∀ w ∈ ws, Ca w) (b : Bool) (r : Str) : LX.lex line (lay b ws ++ 10 :: r) = (LX.lex (line + 1) r).app (ws.map fun w => { w with line := line }) := by
  induction ws generalizing b with
  | nil =>
    show LX.lex line (10 :: r) = _
    rw [LX.lex_nl _ _ _ rfl]
    cases LX.lex (line + 1) r <;> rfl
  | cons w ws ih =>
    have hw := hc w (by simp)
    have ih := ih (fun x hx => hc x (by simp [hx]))
    have h0 : LX.lex line (lay b (w :: ws) ++ 10 :: r) = LX.lex line (LX.toldW w ++ (lay (w.k != 4) ws ++ 10 :: r)) := by
      simp only [lay]
      split
      · rw [List.append_assoc, List.append_assoc, List.singleton_append, LX.lex_blank _ _ _ (.inl rfl)]
      · rw [List.nil_append, List.append_assoc]
    rw [h0]
    have h1 : LX.lex line (LX.toldW w ++ (lay (w.k != 4) ws ++ 10 :: r)) = (LX.lex line (lay (w.k != 4) ws ++ 10 :: r)).cons { w with line := line } := by
      by_cases h4 : w.k = 4
      · obtain ⟨hk, hl⟩ := hw
        obtain ⟨k, s, n, l⟩ := w
        simp only at h4 hl
        subst h4 hl
        obtain ⟨h1, h2⟩ : s = [] ∧ n = 0 := by
          rcases hk with ⟨a, b, c⟩ | ⟨a, b, c⟩ | ⟨a, b, c⟩ | ⟨a, b, c⟩ | ⟨a, b, c⟩ <;> first | (exfalso; dsimp only at a; omega) | exact ⟨b, c⟩
        subst h1 h2
        exact lex_open line _
      · exact LX.lex_told line hw.1 _ (lay_head (fun x hx => hc x (by simp [hx])) r (by simpa using h4))
    rw [h1, ih, res_cons, res_app]
    rfl
def lines (us : List (List LX.LW)) : Str := (us.map fun u => lay false u ++ [10]).flatten
theorem lines_cons (u : List LX.LW) (us : List (List LX.LW)) : lines (u :: us) = lay false u ++ 10 :: lines us := by
  simp [lines]
theorem lines_snoc (us : List (List LX.LW)) (u : List LX.LW) : lines (us ++ [u]) = lines us ++ (lay false u ++ [10]) := by
  simp [lines]
theorem lex_text (line : Nat) (us : List (List LX.LW)) (hc : ∀ u ∈ us, ∀ w ∈ u, Ca w) : ∃ ws, LX.lex line (lines us) = .ok ws ∧ ws.map nol = us.flatten := by
  induction us generalizing line with
  | nil => exact ⟨[], rfl, rfl⟩
  | cons u us ih =>
    obtain ⟨ws, h1, h2⟩ := ih (line + 1) (fun v hv => hc v (by simp [hv]))
    refine ⟨u.map (fun w => { w with line := line }) ++ ws, ?_, ?_⟩
    · rw [lines_cons, lex_lay line u (hc u (by simp)), h1]
      rfl
    · rw [List.map_append, h2, List.flatten_cons, List.map_map]
      congr 1
      refine (List.map_congr_left (fun w hw => ?_)).trans (List.map_id u)
      have := (hc u (by simp) w hw).2
      obtain ⟨k, s, n, l⟩ := w
      simp only at this
      subst this
      rfl
end Go.Proofs.YtedmmgfnplbkjaaGreatDoor.G
