/-
  Plain: the words that a program is told by ('exprT', 'stmtF', 'compT'), or none if it is no text's; and that what was read is told by just the words that were taken ('ts_..'). No program is imported.
  Conditions: none.
  Plain: what was read is told by just the words that were taken ('ts_..', 'parse_told'). No program is imported.
  Conditions: the words are such as texts have.
  Plain: how words are laid out ('lay'), and that the words of a program's text are the words it is told by ('lex_text', 'text_back'). No program is imported.
  Conditions: the words are such as texts have.
-/
import Derived.Test.YtfldflemdhkgoaaGreatDoorParWf
namespace Go.Proofs.YtfldflemdhkgoaaGreatDoor.G
set_option linter.unusedVariables false
set_option linter.unusedSimpArgs false
open Go.Proofs.YtfldflemdhkgoaaGreatDoor

/-- What telling comes to: the words, and how many deeds have been told behind it; or it is no text's. -/
abbrev Tl := Option (List LX.LW × Nat)
def Tl.seq (r : Tl) (f : Nat → Tl) : Tl := match r with
  | none => none
  | some (a, d) => match f d with
    | none => none
    | some (b, e) => some (a ++ b, e)
@[simp] theorem seq_none (f : Nat → Tl) : Tl.seq none f = none := rfl
theorem seq_some {r : Tl} {f : Nat → Tl} {a b : List LX.LW} {d e : Nat} (h : r = some (a, d)) (g : f d = some (b, e)) : r.seq f = some (a ++ b, e) := by
  subst h
  simp only [Tl.seq, g]
theorem seq_bad {r : Tl} {f : Nat → Tl} {a : List LX.LW} {d : Nat} (h : r = some (a, d)) (g : f d = none) : r.seq f = none := by
  subst h
  simp only [Tl.seq, g]
theorem seq_assoc (r : Tl) (f g : Nat → Tl) : (r.seq f).seq g = r.seq fun d => (f d).seq g := by
  cases r with
  | none => rfl
  | some p =>
    obtain ⟨a, d⟩ := p
    simp only [Tl.seq]
    cases h : f d with
    | none => rfl
    | some p =>
      obtain ⟨b, e⟩ := p
      simp only []
      cases g e with
      | none => rfl
      | some p => simp [List.append_assoc]
theorem seq_nil (r : Tl) : (r.seq fun d => some ([], d)) = r := by
  cases r with
  | none => rfl
  | some p => obtain ⟨a, d⟩ := p; simp [Tl.seq]
theorem nil_seq (d : Nat) (f : Nat → Tl) : Tl.seq (some ([], d)) f = f d := by
  simp only [Tl.seq]
  cases f d with
  | none => rfl
  | some p => rfl
/-- One behind the other. -/
def seqL : List (Nat → Tl) → Nat → Tl
  | [], d => some ([], d)
  | f :: l, d => (f d).seq (seqL l)

def wO : LX.LW := ⟨4, [], 0, 0⟩
def wC : LX.LW := ⟨5, [], 0, 0⟩
def wN (s : Str) : LX.LW := ⟨1, s, 0, 0⟩
def wI (n : Int) : LX.LW := ⟨2, [], n, 0⟩
def wT (s : Str) : LX.LW := ⟨3, s, 0, 0⟩
def oneT (w : LX.LW) (d : Nat) : Tl := some ([w], d)
abbrev shutT := oneT wC
/-- A count of deeds, as it is held. -/
def wr (d : Nat) : Int := IntKind.i64.wrap d
def siteW (c : Str) (d : Nat) : Str := c ++ 35 :: Lib.itoa (wr d)
def opensT (s : Str) (d : Nat) : Tl := some ([wO, wN s], d)
def resB (s : Str) : Bool := s == [121, 101, 115] || s == [110, 111] || s == [110, 111, 110, 101] || s == [45]
def nameOk (s : Str) : Bool := !resB s && (decide (s.length ≤ 65536) && (match LX.lex 0 s with
  | .ok [w] => w.k == 1 && w.s == s
  | _ => false))
def nameT (s : Str) (d : Nat) : Tl := if nameOk s then oneT (wN s) d else none
def keyB (s : Str) : Bool := s == [105, 102] || s == [101, 97, 99, 104] || s == [114, 101, 97, 100] || s == [116, 104, 114, 111, 119] || s == [114, 101, 99] || s == [100, 111] || s == [104, 111, 115, 116] || s == [110, 101, 119] || s == [112, 117, 114, 101] || s == [102, 114, 97, 103] || s == [112, 111, 114, 116, 97, 108] || s == [103, 105, 118, 101] || s == [103, 117, 97, 114, 100] || s == [119, 97, 105, 116]
def opT (s : Str) (d : Nat) : Tl := if keyB s then none else nameT s d
def truthT (n : Int) (d : Nat) : Tl := if n = 1 then oneT (wN [121, 101, 115]) d else if n = 0 then oneT (wN [110, 111]) d else none
def textT (s : Str) (d : Nat) : Tl := if s.length ≤ 4096 then oneT (wT s) d else none
/-- The first m things. -/
def eachT (f : Nat → Nat → Tl) : Nat → Nat → Tl
  | 0, d => some ([], d)
  | m + 1, d => (eachT f m d).seq (f m)
def lenT : T → Nat
  | .sc _ => 0
  | .ls n _ _ => n
def strT : T → Str
  | .sc (.string s) => s.data.toList
  | _ => []
/-- Is it zero? -/
def zB : T → Bool
  | .sc (.int _ n) => n == 0
  | .sc (.string s) => s.data.toList.isEmpty
  | .sc _ => true
  | .ls n _ _ => n == 0
/-- The i-th of texts. -/
def nthS : T → Nat → Str
  | .sc _, _ => []
  | .ls _ _ row, i => strT (row i 0)
/-- Which fields of an expression its kind's row names. -/
def namedE (k : Int) (j : Nat) : Bool :=
  if k = 1 ∨ k = 2 then j == 1 else if k = 3 ∨ k = 4 then j == 2 else if k = 5 ∨ k = 7 then j == 2 || j == 3 else if k = 6 ∨ k = 8 ∨ k = 9 then j == 3
  else if k = 10 then j == 4 || j == 5 else if k = 11 then j == 2 || j == 3 || j == 4 || j == 5 || j == 6 || j == 7 else if k = 12 then j == 8 || j == 9 else false
def namedL (k : Int) (j : Nat) : Bool :=
  if k = 1 ∨ k = 2 ∨ k = 3 ∨ k = 6 then j == 2 || j == 3 || j == 4 || j == 5 || j == 6 || j == 7 else if k = 4 then j == 3 || j == 6 || j == 7 else if k = 5 then j == 2 || j == 3 || j == 6 || j == 7
  else if k = 7 ∨ k = 8 then j == 3 || j == 4 || j == 5 || j == 6 || j == 7 else false
def fitE (named : Nat → Bool) (row : Nat → T) (q : Nat) : Bool := (named 1 || zB (row (q + 1))) && ((named 2 || zB (row (q + 2))) && ((named 3 || zB (row (q + 3))) && ((named 4 || zB (row (q + 4))) && ((named 5 || zB (row (q + 5))) && ((named 6 || zB (row (q + 6))) && ((named 7 || zB (row (q + 7))) && ((named 8 || zB (row (q + 8))) && (named 9 || zB (row (q + 9))))))))))
def zeroE (row : Nat → T) (q : Nat) : Bool := num (row q) == 0 && fitE (fun _ => false) row q
section
variable (c : Str) (row : Nat → T) (sub : Nat → Nat → Nat → Nat → Tl)
/-- All things of a column. -/
def colT (j o : Nat) (d : Nat) : Tl := eachT (sub j o) (lenT (row j)) d
def withinT (j o : Nat) (d : Nat) : Tl := seqL [oneT wO, colT row sub j o, shutT] d
/-- So many expressions. -/
def timesT (n : Nat) (j : Nat) (d : Nat) : Tl := if lenT (row j) = n then colT row sub j 0 d else none
def pairsT (j k : Nat) (d : Nat) : Tl := if lenT (row j) = lenT (row k) then eachT (fun i => seqL [oneT wO, nameT (nthS (row j) i), sub k 0 i, shutT]) (lenT (row j)) d else none
def keyT (j : Nat) (d : Nat) : Tl := if lenT (row j) = 0 then oneT (wN [45]) d else timesT row sub 1 j d
/-- Are the texts of column j just these? -/
def areB (j : Nat) (l : List Str) : Bool := lenT (row j) == l.length && (List.range l.length).all fun i => nthS (row j) i == l.getD i []
def valsT (l : List Str) (q : Nat) (d : Nat) : Tl := if areB row (q + 4) l then timesT row sub l.length (q + 5) d else none
def elemOf (q : Nat) (w : Str) (own : Nat → Tl) (d : Nat) : Tl := seqL [opensT w, keyT row sub (q + 7), own, colT row sub (q + 3) 0, shutT] d
def taggedT (q : Nat) (d : Nat) : Tl := seqL [nameT (strT (row (q + 2))), oneT wO, pairsT row sub (q + 4) (q + 5), shutT] d
def givesT (q : Nat) (d : Nat) : Tl := seqL [nameT (strT (row (q + 2))), valsT row sub [[118, 97, 108, 117, 101]] q] d
def elemT (q : Nat) (d : Nat) : Tl := if fitE (namedL (num (row (q + 6)))) row q = false then none
  else if num (row (q + 6)) = 1 then elemOf row sub q [104, 111, 115, 116] (taggedT row sub q) d
  else if num (row (q + 6)) = 2 then elemOf row sub q [110, 101, 119] (taggedT row sub q) d
  else if num (row (q + 6)) = 3 then elemOf row sub q [112, 117, 114, 101] (taggedT row sub q) d
  else if num (row (q + 6)) = 4 then elemOf row sub q [102, 114, 97, 103] (fun d => some ([], d)) d
  else if num (row (q + 6)) = 5 then elemOf row sub q [112, 111, 114, 116, 97, 108] (nameT (strT (row (q + 2)))) d
  else if num (row (q + 6)) = 6 then elemOf row sub q [103, 105, 118, 101] (givesT row sub q) d
  else if num (row (q + 6)) = 7 then elemOf row sub q [103, 117, 97, 114, 100] (valsT row sub [[97, 103, 97, 105, 110], [101, 108, 115, 101]] q) d
  else if num (row (q + 6)) = 8 then elemOf row sub q [119, 97, 105, 116] (valsT row sub [[101, 108, 115, 101]] q) d
  else none
def compoundT (q : Nat) (d : Nat) : Tl :=
  if num (row q) = 5 then seqL [oneT wO, opT (strT (row (q + 2))), colT row sub (q + 3) 0, shutT] d
  else if num (row q) = 6 then seqL [opensT [105, 102], timesT row sub 3 (q + 3), shutT] d
  else if num (row q) = 7 then seqL [opensT [101, 97, 99, 104], nameT (strT (row (q + 2))), timesT row sub 2 (q + 3), shutT] d
  else if num (row q) = 8 then seqL [opensT [114, 101, 97, 100], timesT row sub 1 (q + 3), shutT] d
  else if num (row q) = 9 then seqL [opensT [116, 104, 114, 111, 119], timesT row sub 1 (q + 3), shutT] d
  else if num (row q) = 10 then seqL [opensT [114, 101, 99], pairsT row sub (q + 4) (q + 5), shutT] d
  else if num (row q) = 12 then (if strT (row (q + 9)) = siteW c d then seqL [opensT [100, 111], colT row sub (q + 8) 1, shutT] (d + 1) else none)
  else none
def exprF (q : Nat) (d : Nat) : Tl := if fitE (namedE (num (row q))) row q = false then none
  else if num (row q) = 0 then oneT (wN [110, 111, 110, 101]) d
  else if num (row q) = 1 then oneT (wI (num (row (q + 1)))) d
  else if num (row q) = 2 then truthT (num (row (q + 1))) d
  else if num (row q) = 3 then textT (strT (row (q + 2))) d
  else if num (row q) = 4 then nameT (strT (row (q + 2))) d
  else if num (row q) = 11 then elemT row sub q d
  else compoundT c row sub q d
/-- Which fields of an act: a name, an expression. -/
def fitA : Bool := if num (row 0) = 1 then true else if num (row 0) = 2 ∨ num (row 0) = 3 then zB (row 1) else zB (row 1) && zeroE row 2
def actF (d : Nat) : Tl := if fitA row = false then none
  else if num (row 0) = 1 then seqL [opensT [115, 101, 116], nameT (strT (row 1)), exprF c row sub 2, shutT] d
  else if num (row 0) = 2 then seqL [opensT [108, 111, 103], exprF c row sub 2, shutT] d
  else if num (row 0) = 3 then seqL [opensT [102, 97, 105, 108], exprF c row sub 2, shutT] d
  else if num (row 0) = 4 then seqL [opensT [115, 116, 111, 112], shutT] d
  else none
/-- Of a statement, 1: its name, 2: its context, 3: its expression, 4 to 7: what it hangs on, does, undoes, its body. -/
def namedS (k : Int) (j : Nat) : Bool := if k = 1 ∨ k = 2 then j == 1 || j == 3 else if k = 3 then j == 1 || j == 3 || j == 4 else if k = 4 then j == 1 || j == 2 else if k = 5 ∨ k = 6 then j == 4 || j == 5 || j == 6 else if k = 7 then j == 3 || j == 7 else false
def fitS : Bool := (namedS (num (row 0)) 1 || zB (row 1)) && ((namedS (num (row 0)) 2 || zB (row 2)) && ((namedS (num (row 0)) 3 || zeroE row 3) && ((namedS (num (row 0)) 4 || zB (row 13)) && ((namedS (num (row 0)) 5 || zB (row 14)) && ((namedS (num (row 0)) 6 || zB (row 15)) && (namedS (num (row 0)) 7 || zB (row 16)))))))
def runsT (d : Nat) : Tl := seqL [withinT row sub 13 0, withinT row sub 14 1, withinT row sub 15 1] d
def stmtF (d : Nat) : Tl := if fitS row = false then none
  else if num (row 0) = 1 then seqL [opensT [108, 101, 116], nameT (strT (row 1)), exprF c row sub 3, shutT] d
  else if num (row 0) = 2 then seqL [opensT [115, 116, 97, 116, 101], nameT (strT (row 1)), exprF c row sub 3, shutT] d
  else if num (row 0) = 3 then seqL [opensT [109, 101, 109, 111], nameT (strT (row 1)), withinT row sub 13 0, exprF c row sub 3, shutT] d
  else if num (row 0) = 4 then seqL [opensT [117, 115, 101], nameT (strT (row 1)), nameT (strT (row 2)), shutT] d
  else if num (row 0) = 5 then seqL [opensT [108, 97, 121, 111, 117, 116], runsT row sub, shutT] d
  else if num (row 0) = 6 then seqL [opensT [101, 102, 102, 101, 99, 116], runsT row sub, shutT] d
  else if num (row 0) = 7 then seqL [opensT [119, 104, 101, 110], exprF c row sub 3, colT row sub 16 2, shutT] d
  else none
def rowF (o : Nat) (d : Nat) : Tl := match o with
  | 0 => exprF c row sub 0 d
  | 1 => actF c row sub d
  | _ => stmtF c row sub d
end
/-- The i-th thing of a column: of expressions (0), of acts (1), of statements (2). -/
def tellC (c : Str) : Nat → T → Nat → Nat → Tl
  | _, .sc _, _, _ => none
  | o, .ls n k row, i, d => rowF c (row i) (fun j o' => tellC c o' (row i j)) o d
def subs (c : Str) (row : Nat → T) : Nat → Nat → Nat → Nat → Tl := fun j o => tellC c o (row j)
theorem tellC_ls (c : Str) (o n k : Nat) (row : Nat → Nat → T) (i d : Nat) : tellC c o (.ls n k row) i d = rowF c (row i) (subs c (row i)) o d := rfl
def exprT (c : Str) (row : Nat → T) (q : Nat) (d : Nat) : Tl := exprF c row (subs c row) q d
def actT (c : Str) (row : Nat → T) (d : Nat) : Tl := actF c row (subs c row) d
def stmtT (c : Str) (row : Nat → T) (d : Nat) : Tl := stmtF c row (subs c row) d
def openingT (row : Nat → T) (d : Nat) : Tl := seqL [opensT [99, 111, 109, 112], nameT (strT (row 0)), nameT (strT (row 1))] d
def bodyT (row : Nat → T) (d : Nat) : Tl := colT row (subs (strT (row 0)) row) 2 2 d
def showT (row : Nat → T) (d : Nat) : Tl := seqL [opensT [115, 104, 111, 119], exprT (strT (row 0)) row 3, shutT, shutT] d
def compT (row : Nat → T) : Tl := seqL [openingT row, bodyT row, showT row] 0
/-- The words of components, each by each. -/
def progW (f : Nat → Nat → T) : Nat → Option (List (List LX.LW))
  | 0 => some []
  | m + 1 => match progW f m with
    | none => none
    | some l => match compT (f m) with
      | none => none
      | some (u, _) => some (l ++ [u])

/-! ### Of lists -/
def eachL {α : Type} (S : α → Nat → Tl) : List α → Nat → Tl
  | [], d => some ([], d)
  | x :: l, d => (S x d).seq (eachL S l)
theorem eachL_snoc {α : Type} (S : α → Nat → Tl) (l : List α) (x : α) (d : Nat) : eachL S (l ++ [x]) d = (eachL S l d).seq (S x) := by
  induction l generalizing d with
  | nil =>
    show (S x d).seq (eachL S []) = Tl.seq (some ([], d)) (S x)
    rw [nil_seq]
    exact seq_nil _
  | cons y l ih =>
    show (S y d).seq (eachL S (l ++ [x])) = ((S y d).seq (eachL S l)).seq (S x)
    rw [seq_assoc]
    congr 1
    funext e
    exact ih e
theorem eachT_take {α : Type} (S : α → Nat → Tl) (dflt : α) (l : List α) : ∀ m, m ≤ l.length → ∀ d, eachT (fun i => S (l.getD i dflt)) m d = eachL S (l.take m) d
  | 0, _, d => rfl
  | m + 1, h, d => by
    show (eachT (fun i => S (l.getD i dflt)) m d).seq _ = _
    rw [eachT_take S dflt l m (by omega) d, List.take_succ_eq_append_getElem (by omega), eachL_snoc]
    congr 1
    simp [List.getD_eq_getElem?_getD, List.getElem?_eq_getElem (show m < l.length by omega)]
theorem eachT_list {α : Type} (S : α → Nat → Tl) (dflt : α) (l : List α) (d : Nat) : eachT (fun i => S (l.getD i dflt)) l.length d = eachL S l d := by
  rw [eachT_take S dflt l _ (Nat.le_refl _) d, List.take_length]
theorem col_list (c : Str) (row : Nat → T) (j o k : Nat) (l : List (List T)) (h : row j = ofRows k l) (d : Nat) : colT row (subs c row) j o d = eachL (fun x => rowF c (at_ x) (subs c (at_ x)) o) l d := by
  show eachT (subs c row j o) (lenT (row j)) d = _
  simp only [subs]
  rw [h]
  exact eachT_list (fun x => rowF c (at_ x) (subs c (at_ x)) o) [] l d
end Go.Proofs.YtfldflemdhkgoaaGreatDoor.G
namespace Go.Proofs.YtfldflemdhkgoaaGreatDoor.G
set_option linter.unusedVariables false
set_option linter.unusedSimpArgs false
open Go.Proofs.YtfldflemdhkgoaaGreatDoor

/-- A word that a text can have, without its line. -/
def Ca (w : LX.LW) : Prop := LX.OkW w ∧ w.line = 0
/-- So much has been told of what is read, and so many words are left. -/
def Gd (ws : List LX.LW) (t d : Nat) : Prop := d ≤ t ∧ t ≤ ws.length
def Tr {α : Type} (ws : List LX.LW) (S : α → Tl) (pre : List LX.LW) (t : Nat) : Rs α → Prop
  | .bad _ => True
  | .ok x t' d' => ∃ u, S x = some (pre ++ u, d') ∧ ws.drop t = u ++ ws.drop t' ∧ Gd ws t' d'
def Ts {α : Type} (ws : List LX.LW) (S : α → Nat → Tl) (t d : Nat) (r : Rs α) : Prop := Gd ws t d → Tr ws (fun x => S x d) [] t r
theorem Tr.bind {α β : Type} {ws : List LX.LW} {S : α → Nat → Tl} {S' : β → Tl} {pre : List LX.LW} {t d : Nat} {r : Rs α} {f : α → Nat → Nat → Rs β} (h : Ts ws S t d r) (g : Gd ws t d)
    (hf : ∀ x t' d' u, S x d = some (u, d') → Gd ws t' d' → Tr ws S' (pre ++ u) t' (f x t' d')) : Tr ws S' pre t (r.bind f) := by
  cases r with
  | bad _ => trivial
  | ok x t' d' =>
    obtain ⟨u, h1, h2, h0⟩ := h g
    have h3 := hf x t' d' u h1 h0
    rw [Rs.bind_ok]
    revert h3
    cases f x t' d' with
    | bad _ => exact fun _ => trivial
    | ok y t2 d2 =>
      rintro ⟨v, h4, h5, h6⟩
      exact ⟨u ++ v, by rw [h4, List.append_assoc], by rw [h2, h5, List.append_assoc], h6⟩
theorem Ts.bind {α β : Type} {ws : List LX.LW} {S : α → Nat → Tl} {S' : β → Nat → Tl} {t d : Nat} {r : Rs α} {f : α → Nat → Nat → Rs β} (h : Ts ws S t d r)
    (hf : ∀ x t' d' u, S x d = some (u, d') → Gd ws t' d' → Tr ws (fun y => S' y d) u t' (f x t' d')) : Ts ws S' t d (r.bind f) := fun g => Tr.bind (pre := []) h g hf
theorem Tr.ok {α : Type} {ws : List LX.LW} {S : α → Tl} {pre : List LX.LW} {x : α} {t d : Nat} (g : Gd ws t d) (h : S x = some (pre, d)) : Tr ws S pre t (.ok x t d) := ⟨[], by rw [List.append_nil]; exact h, rfl, g⟩
theorem Tr.ite {α : Type} {ws : List LX.LW} {S : α → Tl} {pre : List LX.LW} {t : Nat} {p : Prop} [Decidable p] {a b : Rs α} (h1 : p → Tr ws S pre t a) (h2 : ¬ p → Tr ws S pre t b) : Tr ws S pre t (if p then a else b) := by
  split
  · next h => exact h1 h
  · next h => exact h2 h
theorem drop_get {ws : List LX.LW} {t : Nat} {w : LX.LW} (h : ws[t]? = some w) : ws.drop t = [w] ++ ws.drop (t + 1) := by
  obtain ⟨hl, rfl⟩ := List.getElem?_eq_some_iff.1 h
  exact List.drop_eq_getElem_cons hl
theorem gd_next {ws : List LX.LW} {t d : Nat} {w : LX.LW} (g : Gd ws t d) (h : ws[t]? = some w) : Gd ws (t + 1) d := by
  obtain ⟨hl, -⟩ := List.getElem?_eq_some_iff.1 h
  exact ⟨Nat.le_succ_of_le g.1, hl⟩
section
variable {ws : List LX.LW} (hc : ∀ w ∈ ws, Ca w)
include hc
theorem ca_at {t : Nat} {w : LX.LW} (h : ws[t]? = some w) : Ca w := hc w (List.mem_of_getElem? h)
theorem ts_kind (k : Nat) (hk : k = 4 ∨ k = 5) (t d : Nat) : Ts ws (fun _ d => oneT ⟨k, [], 0, 0⟩ d) t d (kindP ws k t d) := by
  intro g0
  unfold kindP
  cases h : ws[t]? with
  | none => trivial
  | some w =>
    show Tr ws _ _ _ (if w.k = k then _ else _)
    refine Tr.ite (fun e => ?_) (fun _ => trivial)
    obtain ⟨h1, h2⟩ := ca_at hc h
    have hw : w = ⟨k, [], 0, 0⟩ := by
      obtain ⟨k', s, n, l⟩ := w
      simp only at e h2
      subst e h2
      rcases h1 with ⟨a, b, c⟩ | ⟨a, b, c⟩ | ⟨a, b, c⟩ | ⟨a, b, c⟩ | ⟨a, b, c⟩ <;> simp only at a b c <;> (try (rcases hk with hk | hk <;> omega))
      · rw [b, c]
      · rw [b, c]
    subst hw
    exact ⟨[⟨k, [], 0, 0⟩], rfl, drop_get h, gd_next g0 h⟩
theorem ts_open (t d : Nat) : Ts ws (fun _ => oneT wO) t d (openP ws t d) := ts_kind hc 4 (.inl rfl) t d
theorem ts_shut (t d : Nat) : Ts ws (fun _ => shutT) t d (shutP ws t d) := ts_kind hc 5 (.inr rfl) t d
omit hc in
theorem name_ok {w : LX.LW} (h1 : Ca w) (e : isName w = true) : w = wN w.s ∧ nameOk w.s = true := by
  obtain ⟨k, s, n, l⟩ := w
  obtain ⟨h1, h2⟩ := h1
  simp only [isName, Bool.and_eq_true, beq_iff_eq] at e h2
  obtain ⟨rfl, e⟩ := e
  subst h2
  have h0 := h1
  rcases h1 with ⟨a, b, c⟩ | ⟨a, b, c⟩ | ⟨a, b, c⟩ | ⟨a, b, c⟩ | ⟨-, b, hn, hl, -, -⟩
  · cases a
  · cases a
  · cases a
  · cases a
  simp only at b hn hl
  subst b
  refine ⟨rfl, ?_⟩
  have h3 := LX.lex_told 0 (w := ⟨1, s, 0, 0⟩) h0 [] (fun c t h => by cases h)
  rw [List.append_nil] at h3
  have h4 : LX.toldW ⟨1, s, 0, 0⟩ = s := rfl
  rw [h4, LX.lex_nil] at h3
  unfold nameOk
  rw [h3]
  simp only [resB, LX.Res.cons, beq_self_eq_true, Bool.and_self, Bool.and_true, Bool.and_eq_true, decide_eq_true_eq]
  exact ⟨e, by omega⟩
theorem ts_name (t d : Nat) : Ts ws (fun s => nameT s) t d (nameP ws t d) := by
  intro g0
  unfold nameP
  cases h : ws[t]? with
  | none => trivial
  | some w =>
    show Tr ws _ _ _ (if isName w then _ else _)
    refine Tr.ite (fun e => ?_) (fun _ => trivial)
    obtain ⟨h1, h2⟩ := name_ok (ca_at hc h) e
    refine ⟨[w], ?_, drop_get h, gd_next g0 h⟩
    show nameT w.s d = some ([] ++ [w], d)
    rw [nameT, if_pos h2, List.nil_append, oneT, ← h1]
theorem ts_all {α : Type} {S : α → Nat → Tl} {one : Nat → Nat → Rs α} (ho : ∀ t d, Ts ws S t d (one t d)) : ∀ (m t d : Nat), Ts ws (fun l d => (eachL S l d).seq shutT) t d (allP ws one m t d)
  | 0, t, d => fun _ => trivial
  | m + 1, t, d => by
    intro g0
    simp only [allP]
    refine Tr.ite (fun e => ?_) (fun _ => ?_)
    · have h := ts_shut hc t d
      have h2 : shutP ws t d = .ok () (t + 1) d := by
        unfold isShut at e
        show kindP ws 5 t d = _
        unfold kindP
        cases hw : ws[t]? with
        | none => rw [hw] at e; cases e
        | some w => rw [hw] at e; simp only [beq_iff_eq] at e; simp only [if_pos e]
      rw [h2] at h
      obtain ⟨u, h3, h4⟩ := h g0
      refine ⟨u, ?_, h4⟩
      show Tl.seq (some ([], d)) shutT = _
      rw [nil_seq]
      exact h3
    · refine Tr.bind (pre := []) (ho t d) g0 fun x t1 d1 u h1 g1 => Tr.bind (ts_all ho m t1 d1) g1 fun l t2 d2 v h2 g2 => Tr.ok g2 ?_
      show ((S x d).seq (eachL S l)).seq shutT = _
      rw [seq_assoc]
      exact seq_some h1 h2
theorem ts_within {α : Type} {S : α → Nat → Tl} {one : Nat → Nat → Rs α} (ho : ∀ t d, Ts ws S t d (one t d)) (t d : Nat) : Ts ws (fun l d => (oneT wO d).seq fun d => (eachL S l d).seq shutT) t d (withinP ws one t d) := by
  intro g0
  unfold withinP
  refine Tr.bind (pre := []) (ts_open hc t d) g0 fun _ t1 d1 u h1 g1 => ?_
  have h := ts_all hc ho FU t1 d1
  revert h
  cases allP ws one FU t1 d1 with
  | bad _ => exact fun _ => trivial
  | ok l t2 d2 =>
    intro h
    obtain ⟨v, h2, h3⟩ := h g1
    exact ⟨v, seq_some h1 h2, h3⟩
omit hc in
theorem ts_times {α : Type} {S : α → Nat → Tl} {one : Nat → Nat → Rs α} (ho : ∀ t d, Ts ws S t d (one t d)) : ∀ (m t d : Nat), Ts ws (fun l d => if l.length = m then eachL S l d else none) t d (timesP one m t d)
  | 0, t, d => fun g => ⟨[], rfl, rfl, g⟩
  | m + 1, t, d => by
    intro g0
    simp only [timesP]
    refine Tr.bind (pre := []) (ho t d) g0 fun x t1 d1 u h1 g1 => Tr.bind (ts_times ho m t1 d1) g1 fun l t2 d2 v h2 g2 => Tr.ok g2 ?_
    split at h2
    · next h =>
      show (if (x :: l).length = m + 1 then eachL S (x :: l) d else none) = _
      rw [if_pos (by simp [h])]
      exact seq_some h1 h2
    · cases h2

/-! ### Expressions -/
/-- An expression of ten cells. -/
def eS (c : Str) (e : List T) (d : Nat) : Tl := if e.length = 10 then exprT c (at_ e) 0 d else none
omit hc in
theorem eS_some {c : Str} {e : List T} {d : Nat} {r : List LX.LW × Nat} (h : eS c e d = some r) : e.length = 10 ∧ exprT c (at_ e) 0 d = some r := by
  unfold eS at h
  split at h
  · next hl => exact ⟨hl, h⟩
  · cases h
omit hc in
theorem each_up {α : Type} {S : α → Nat → Tl} {f : Nat → Nat → Tl} (l : List α) (h : ∀ i (hi : i < l.length) d r, S l[i] d = some r → f i d = some r) (d : Nat) : ∀ m, m ≤ l.length → ∀ r, eachL S (l.take m) d = some r → eachT f m d = some r
  | 0, _, r, h0 => h0
  | m + 1, hm, r, h0 => by
    rw [List.take_succ_eq_append_getElem (by omega), eachL_snoc] at h0
    cases h1 : eachL S (l.take m) d with
    | none => rw [h1] at h0; cases h0
    | some p =>
      obtain ⟨a, d1⟩ := p
      rw [h1] at h0
      have h2 := each_up l h d m (by omega) _ h1
      cases h3 : S l[m] d1 with
      | none => rw [seq_bad rfl h3] at h0; cases h0
      | some q =>
        obtain ⟨b, d2⟩ := q
        rw [seq_some rfl h3] at h0
        show (eachT f m d).seq (f m) = some r
        rw [seq_some h2 (h m hm d1 _ h3)]
        exact h0
omit hc in
theorem each_all {α : Type} {S : α → Nat → Tl} {f : Nat → Nat → Tl} {l : List α} (h : ∀ i (hi : i < l.length) d r, S l[i] d = some r → f i d = some r) {d : Nat} {r : List LX.LW × Nat} (h0 : eachL S l d = some r) : eachT f l.length d = some r :=
  each_up l h d _ (Nat.le_refl _) r (by rw [List.take_length]; exact h0)
omit hc in
theorem getD_at {l : List (List T)} {i : Nat} (hi : i < l.length) : l.getD i [] = l[i] := by
  simp [List.getD_eq_getElem?_getD, List.getElem?_eq_getElem hi]
omit hc in
theorem tell_at (c : Str) (o k : Nat) {l : List (List T)} {i : Nat} (hi : i < l.length) (d : Nat) : tellC c o (ofRows k l) i d = rowF c (at_ l[i]) (subs c (at_ l[i])) o d := by
  have h : (fun j => (l.getD i []).getD j default) = at_ l[i] := by rw [getD_at hi]; rfl
  show rowF c (fun j => (l.getD i []).getD j default) (subs c fun j => (l.getD i []).getD j default) o d = _
  rw [h]
omit hc in
/-- A column of what was read. -/
theorem col_up {c : Str} {S : List T → Nat → Tl} {o : Nat} (hS : ∀ x d r, S x d = some r → rowF c (at_ x) (subs c (at_ x)) o d = some r) {row : Nat → T} {j k : Nat} {l : List (List T)} (hr : row j = ofRows k l) {d : Nat} {r : List LX.LW × Nat} (h : eachL S l d = some r) :
    colT row (subs c row) j o d = some r := by
  show eachT (tellC c o (row j)) (lenT (row j)) d = some r
  rw [hr]
  exact each_all (fun i hi d r h1 => by rw [tell_at c o k hi]; exact hS _ _ _ h1) h
omit hc in
theorem eS_row {c : Str} (x : List T) (d : Nat) (r : List LX.LW × Nat) (h : eS c x d = some r) : rowF c (at_ x) (subs c (at_ x)) 0 d = some r := (eS_some h).2
omit hc in
theorem exprT_shift {c : Str} {row row' : Nat → T} {q : Nat} (h : ∀ j, j < 10 → row (q + j) = row' j) (d : Nat) : exprT c row q d = exprT c row' 0 d := by
  have h0 := h 0 (by decide)
  have h1 := h 1 (by decide)
  have h2 := h 2 (by decide)
  have h3 := h 3 (by decide)
  have h4 := h 4 (by decide)
  have h5 := h 5 (by decide)
  have h6 := h 6 (by decide)
  have h7 := h 7 (by decide)
  have h8 := h 8 (by decide)
  have h9 := h 9 (by decide)
  rw [Nat.add_zero] at h0
  have e : ∀ d, pairsT row (subs c row) (q + 4) (q + 5) d = pairsT row' (subs c row') (0 + 4) (0 + 5) d := fun d => by
    simp only [pairsT, subs, h4, h5, Nat.zero_add]
  have eo : ∀ own own' w d, (∀ d, own d = own' d) → elemOf row (subs c row) q w own d = elemOf row' (subs c row') 0 w own' d := fun own own' w d ho => by
    obtain rfl : own = own' := funext ho
    simp only [elemOf, keyT, timesT, colT, subs, h7, h3, Nat.zero_add, seqL]
  have ev : ∀ l d, valsT row (subs c row) l q d = valsT row' (subs c row') l 0 d := fun l d => by
    simp only [valsT, areB, timesT, colT, subs, h4, h5, Nat.zero_add]
  have et : ∀ d, taggedT row (subs c row) q d = taggedT row' (subs c row') 0 d := fun d => by
    simp only [taggedT, seqL, h2, Nat.zero_add, funext e]
  have eg : ∀ d, givesT row (subs c row) q d = givesT row' (subs c row') 0 d := fun d => by
    simp only [givesT, seqL, h2, Nat.zero_add, funext (ev _)]
  have ef : ∀ nm, fitE nm row q = fitE nm row' 0 := fun nm => by
    simp only [fitE, h1, h2, h3, h4, h5, h6, h7, h8, h9, Nat.zero_add]
  have ee : ∀ d, elemT row (subs c row) q d = elemT row' (subs c row') 0 d := fun d => by
    unfold elemT
    rw [ef, h6, Nat.zero_add, h2, eo _ _ _ d et, eo _ _ _ d et, eo _ _ _ d et, eo _ _ _ d (fun _ => rfl), eo _ _ _ d (fun _ => rfl), eo _ _ _ d eg, eo _ _ _ d (ev _), eo _ _ _ d (ev _)]
  have ec : ∀ d, compoundT c row (subs c row) q d = compoundT c row' (subs c row') 0 d := fun d => by
    unfold compoundT
    simp only [seqL, timesT, colT, subs, h0, h2, h3, h8, h9, Nat.zero_add, funext e]
  unfold exprT exprF
  rw [ef, h0, h1, h2, ee, ec, Nat.zero_add]
omit hc in
theorem colE {c : Str} {row : Nat → T} {j : Nat} {l : List (List T)} (hr : row j = ofRows 10 l) {d : Nat} {r : List LX.LW × Nat} (h : eachL (eS c) l d = some r) : colT row (subs c row) j 0 d = some r :=
  col_up eS_row hr h
/-- A name, and an expression behind it. -/
def pS (c : Str) (p : List T) (d : Nat) : Tl := match p with
  | .sc (.string s) :: e => seqL [oneT wO, nameT s.data.toList, eS c e, shutT] d
  | _ => none
omit hc in
theorem pS_of {c : Str} (p : List T) (d : Nat) (r : List LX.LW × Nat) (h : pS c p d = some r) : ∃ s e, p = .sc (.string s) :: e ∧ seqL [oneT wO, nameT s.data.toList, eS c e, shutT] d = some r := by
  unfold pS at h
  split at h
  · exact ⟨_, _, rfl, h⟩
  · cases h
omit hc in
theorem seq_up {r : Tl} {f : Nat → Tl} {r' : Tl} {f' : Nat → Tl} (h1 : ∀ x, r = some x → r' = some x) (h2 : ∀ d x, f d = some x → f' d = some x) {x : List LX.LW × Nat} (h : r.seq f = some x) : r'.seq f' = some x := by
  cases hr : r with
  | none => rw [hr] at h; cases h
  | some p =>
    obtain ⟨a, d⟩ := p
    rw [h1 _ hr]
    rw [hr] at h
    cases hf : f d with
    | none => rw [seq_bad rfl hf] at h; cases h
    | some q =>
      obtain ⟨b, e⟩ := q
      rw [seq_some rfl hf] at h
      rw [seq_some rfl (h2 _ _ hf)]
      exact h
omit hc in
theorem pairs_up {c : Str} {row : Nat → T} {j k : Nat} {l : List (List T)} (h1 : row j = ofRows 1 (l.map (·.take 1))) (h2 : row k = ofRows 10 (l.map (·.drop 1))) {d : Nat} {r : List LX.LW × Nat} (h : eachL (pS c) l d = some r) : pairsT row (subs c row) j k d = some r := by
  unfold pairsT subs
  rw [h1, h2]
  have e1 : lenT (ofRows 1 (l.map (·.take 1))) = l.length := List.length_map ..
  have e2 : lenT (ofRows 10 (l.map (·.drop 1))) = l.length := List.length_map ..
  rw [e1, e2, if_pos rfl]
  refine each_all (fun i hi d r h3 => ?_) h
  obtain ⟨s, e, hp, h4⟩ := pS_of _ _ _ h3
  have hn : nthS (ofRows 1 (l.map (·.take 1))) i = s.data.toList := by
    show strT (((l.map (·.take 1)).getD i []).getD 0 default) = _
    rw [getD_at (by simpa using hi)]
    simp [hp, strT]
  rw [hn]
  refine seq_up (fun _ h => h) (fun d x => seq_up (fun _ h => h) fun d x => seq_up (fun y hy => ?_) fun _ _ h => h) h4
  rw [tell_at c 0 10 (by simpa using hi)]
  have he : (l.map (·.drop 1))[i]'(by simpa using hi) = e := by simp [hp]
  rw [he]
  exact eS_row _ _ _ hy
omit hc in
theorem times_up {c : Str} {row : Nat → T} {j n : Nat} {l : List (List T)} (h1 : row j = ofRows 10 l) {d : Nat} {r : List LX.LW × Nat} (h : (if l.length = n then eachL (eS c) l d else none) = some r) : timesT row (subs c row) n j d = some r := by
  split at h
  · next hl =>
    unfold timesT
    rw [if_pos (by rw [h1]; exact hl)]
    exact colE h1 h
  · cases h
variable {c : Str} {ex : Nat → Nat → Rs (List T)} (he : ∀ t d, Ts ws (eS c) t d (ex t d))
include he
theorem ts_pair (t d : Nat) : Ts ws (pS c) t d (pairP ws ex t d) := by
  unfold pairP
  refine Ts.bind (ts_open hc t d) fun _ t1 d1 u1 h1 g1 => Tr.bind (ts_name hc t1 d1) g1 fun s t2 d2 u2 h2 g2 => Tr.bind (he t2 d2) g2 fun e t3 d3 u3 h3 g3 => Tr.bind (ts_shut hc t3 d3) g3 fun _ t4 d4 u4 h4 g4 => Tr.ok g4 ?_
  show seqL [oneT wO, nameT (⟨s.toArray⟩ : ByteArray).data.toList, eS c e, shutT] d = _
  have e0 : (⟨s.toArray⟩ : ByteArray).data.toList = s := by simp
  rw [e0]
  simp only [seqL, h1, h2, h3, h4, Tl.seq, List.append_nil, List.append_assoc]
omit hc he in
theorem str_back (s : Str) : strT (.sc (str s)) = s := by simp [strT, str]
omit hc he in
theorem name_some {s : Str} {d e : Nat} {u : List LX.LW} (h : nameT s d = some (u, e)) : u = [wN s] ∧ e = d := by
  unfold nameT at h
  split at h
  · injection h with h; injection h with h1 h2; exact ⟨h1.symm, h2.symm⟩
  · cases h
omit hc he in
theorem opens_up {s : Str} {d d1 d2 : Nat} {u1 u2 : List LX.LW} (h1 : oneT wO d = some (u1, d1)) (h2 : nameT s d1 = some (u2, d2)) : opensT s d = some (u1 ++ u2, d2) := by
  obtain ⟨rfl, rfl⟩ := name_some h2
  injection h1 with h; injection h with h1 h3
  subst h1 h3
  rfl
/-- An act of twelve cells. -/
def aS (c : Str) (a : List T) (d : Nat) : Tl := if a.length = 12 then actT c (at_ a) d else none
omit hc he in
theorem aS_row {c : Str} (x : List T) (d : Nat) (r : List LX.LW × Nat) (h : aS c x d = some r) : rowF c (at_ x) (subs c (at_ x)) 1 d = some r := by
  unfold aS at h
  split at h
  · exact h
  · cases h
omit hc he in
theorem act_expr {c : Str} (k : Int) (n : Str) (e : List T) (d : Nat) : exprF c (at_ (aCols k n e)) (subs c (at_ (aCols k n e))) 2 d = exprT c (at_ e) 0 d :=
  exprT_shift (fun j _ => by rw [Nat.add_comm]; rfl) d
omit hc he in
theorem act1 {c : Str} (n : Str) (e : List T) (d : Nat) : actT c (at_ (aCols 1 n e)) d = seqL [opensT [115, 101, 116], nameT n, exprT c (at_ e) 0, shutT] d := by
  have h : actT c (at_ (aCols 1 n e)) d = seqL [opensT [115, 101, 116], nameT (strT (.sc (str n))), exprF c (at_ (aCols 1 n e)) (subs c (at_ (aCols 1 n e))) 2, shutT] d := rfl
  rw [h, str_back, funext (act_expr 1 n e)]
omit hc he in
theorem act2 {c : Str} (e : List T) (d : Nat) : actT c (at_ (aCols 2 [] e)) d = seqL [opensT [108, 111, 103], exprT c (at_ e) 0, shutT] d := by
  have h : actT c (at_ (aCols 2 [] e)) d = seqL [opensT [108, 111, 103], exprF c (at_ (aCols 2 [] e)) (subs c (at_ (aCols 2 [] e))) 2, shutT] d := rfl
  rw [h, funext (act_expr 2 [] e)]
omit hc he in
theorem act3 {c : Str} (e : List T) (d : Nat) : actT c (at_ (aCols 3 [] e)) d = seqL [opensT [102, 97, 105, 108], exprT c (at_ e) 0, shutT] d := by
  have h : actT c (at_ (aCols 3 [] e)) d = seqL [opensT [102, 97, 105, 108], exprF c (at_ (aCols 3 [] e)) (subs c (at_ (aCols 3 [] e))) 2, shutT] d := rfl
  rw [h, funext (act_expr 3 [] e)]
omit hc he in
theorem act4 {c : Str} (d : Nat) : actT c (at_ (aCols 4 [] eNone)) d = seqL [opensT [115, 116, 111, 112], shutT] d := rfl
theorem ts_act (t d : Nat) : Ts ws (aS c) t d (actP ws ex t d) := by
  unfold actP
  refine Ts.bind (ts_open hc t d) fun _ t1 d1 u1 h1 g1 => Tr.bind (ts_name hc t1 d1) g1 fun s t2 d2 u2 h2 g2 => ?_
  have ho := opens_up h1 h2
  refine Tr.ite (fun es => ?_) fun _ => Tr.ite (fun es => ?_) fun _ => Tr.ite (fun es => ?_) fun _ => Tr.ite (fun es => ?_) fun _ => trivial
  · subst es
    refine Tr.bind (ts_name hc t2 d2) g2 fun n t3 d3 u3 h3 g3 => Tr.bind (he t3 d3) g3 fun e t4 d4 u4 h4 g4 => Tr.bind (ts_shut hc t4 d4) g4 fun _ t5 d5 u5 h5 g5 => Tr.ok g5 ?_
    obtain ⟨hl, h4⟩ := eS_some h4
    show aS c (aCols 1 n e) d = _
    rw [aS, if_pos (by simp [aCols, hl]), act1]
    simp only [seqL, ho, h3, h4, h5, Tl.seq, List.append_nil, List.append_assoc]
  · subst es
    refine Tr.bind (he t2 d2) g2 fun e t4 d4 u4 h4 g4 => Tr.bind (ts_shut hc t4 d4) g4 fun _ t5 d5 u5 h5 g5 => Tr.ok g5 ?_
    obtain ⟨hl, h4⟩ := eS_some h4
    show aS c (aCols 2 [] e) d = _
    rw [aS, if_pos (by simp [aCols, hl]), act2]
    simp only [seqL, ho, h4, h5, Tl.seq, List.append_nil, List.append_assoc]
  · subst es
    refine Tr.bind (he t2 d2) g2 fun e t4 d4 u4 h4 g4 => Tr.bind (ts_shut hc t4 d4) g4 fun _ t5 d5 u5 h5 g5 => Tr.ok g5 ?_
    obtain ⟨hl, h4⟩ := eS_some h4
    show aS c (aCols 3 [] e) d = _
    rw [aS, if_pos (by simp [aCols, hl]), act3]
    simp only [seqL, ho, h4, h5, Tl.seq, List.append_nil, List.append_assoc]
  · subst es
    refine Tr.bind (ts_shut hc t2 d2) g2 fun _ t5 d5 u5 h5 g5 => Tr.ok g5 ?_
    show aS c (aCols 4 [] eNone) d = _
    rw [aS, if_pos (show (aCols 4 [] eNone).length = 12 from rfl), act4]
    simp only [seqL, ho, h5, Tl.seq, List.append_nil, List.append_assoc]
def kS (c : Str) (l : List (List T)) (d : Nat) : Tl := if l.length = 0 then oneT (wN [45]) d else if l.length = 1 then eachL (eS c) l d else none
theorem ts_key (t d : Nat) : Ts ws (kS c) t d (keyP ws ex t d) := by
  intro g0
  unfold keyP
  refine Tr.ite (fun e => ?_) (fun _ => ?_)
  · unfold isDash at e
    cases hw : ws[t]? with
    | none => rw [hw] at e; cases e
    | some w =>
      rw [hw] at e
      simp only [Bool.and_eq_true, beq_iff_eq] at e
      obtain ⟨h1, h2⟩ := ca_at hc hw
      obtain ⟨k, s, n, l⟩ := w
      obtain ⟨rfl, rfl⟩ := e
      simp only at h2
      subst h2
      have h3 : n = 0 := by
        rcases h1 with ⟨a, b, c⟩ | ⟨a, b, c⟩ | ⟨a, b, c⟩ | ⟨a, b, c⟩ | ⟨a, b, c⟩
        · cases a
        · cases a
        · cases a
        · cases a
        · exact b
      subst h3
      exact ⟨[wN [45]], rfl, drop_get hw, gd_next g0 hw⟩
  · refine Tr.bind (pre := []) (he t d) g0 fun e t1 d1 u h1 g1 => Tr.ok g1 ?_
    show (eS c e d).seq (eachL (eS c) []) = _
    have h2 : eachL (eS c) [] d1 = some ([], d1) := rfl
    rw [seq_some h1 h2, List.append_nil]
    rfl
omit hc he in
theorem key_up {c : Str} {row : Nat → T} {j : Nat} {l : List (List T)} (h1 : row j = ofRows 10 l) {d : Nat} {r : List LX.LW × Nat} (h : kS c l d = some r) : keyT row (subs c row) j d = some r := by
  unfold kS at h
  unfold keyT
  have e : lenT (row j) = l.length := by rw [h1]; rfl
  rw [e]
  split at h
  · next h0 => rw [if_pos h0]; exact h
  · next h0 =>
    rw [if_neg h0]
    exact times_up h1 h
def oS (c : Str) (names : List Str) (l : List (List T)) (d : Nat) : Tl := if l.map (fun p => strT (at_ p 0)) = names then eachL (fun p => eS c (p.drop 1)) l d else none
omit hc in
theorem ts_pairsOf : ∀ (l : List Str) (t d : Nat), Ts ws (oS c l) t d (pairsOfP ex l t d)
  | [], t, d => fun g => ⟨[], rfl, rfl, g⟩
  | s :: r, t, d => by
    intro g0
    simp only [pairsOfP]
    refine Tr.bind (pre := []) (he t d) g0 fun e t1 d1 u h1 g1 => Tr.bind (ts_pairsOf r t1 d1) g1 fun l t2 d2 v h2 g2 => Tr.ok g2 ?_
    unfold oS at h2
    split at h2
    · next h3 =>
      show oS c (s :: r) ((.sc (str s) :: e) :: l) d = _
      rw [oS, if_pos (by rw [List.map_cons, h3]; show strT (.sc (str s)) :: r = _; rw [str_back])]
      exact seq_some h1 h2
    · cases h2
omit hc he in
theorem vals_up {c : Str} {row : Nat → T} {q : Nat} {names : List Str} {l : List (List T)} (h1 : row (q + 4) = ofRows 1 (l.map (·.take 1))) (h2 : row (q + 5) = ofRows 10 (l.map (·.drop 1))) {d : Nat} {r : List LX.LW × Nat} (h : oS c names l d = some r) : valsT row (subs c row) names q d = some r := by
  unfold oS at h
  split at h
  · next hn =>
    subst hn
    unfold valsT
    have ha : areB row (q + 4) (l.map (fun p => strT (at_ p 0))) = true := by
      unfold areB
      rw [h1, Bool.and_eq_true, beq_iff_eq, List.all_eq_true]
      refine ⟨by show (l.map _).length = _; simp, fun i hi => ?_⟩
      rw [List.mem_range, List.length_map] at hi
      rw [beq_iff_eq]
      show strT (((l.map (·.take 1)).getD i []).getD 0 default) = _
      rw [getD_at (by simpa using hi)]
      simp [List.getD_eq_getElem?_getD, hi, at_]

    rw [if_pos ha]
    unfold timesT
    have e2 : lenT (row (q + 5)) = (l.map (·.drop 1)).length := by rw [h2]; rfl
    rw [e2, List.length_map, List.length_map, if_pos rfl]
    unfold colT subs
    rw [h2]
    have e3 : lenT (ofRows 10 (l.map (·.drop 1))) = l.length := List.length_map ..
    rw [e3]
    refine each_all (fun i hi d r h3 => ?_) h
    rw [tell_at c 0 10 (by simpa using hi)]
    simp only [List.getElem_map]
    exact eS_row _ _ _ h3
  · cases h
omit hc he in
theorem all_inv {α : Type} {S : α → Nat → Tl} {l : List α} {d e : Nat} {u : List LX.LW} (h : (eachL S l d).seq shutT = some (u, e)) : ∃ a, eachL S l d = some (a, e) ∧ u = a ++ [wC] := by
  cases h1 : eachL S l d with
  | none => rw [h1] at h; cases h
  | some p =>
    obtain ⟨a, d1⟩ := p
    rw [h1] at h
    injection h with h
    injection h with h2 h3
    subst h3
    exact ⟨a, rfl, h2.symm⟩
omit hc he in
theorem within_inv {α : Type} {S : α → Nat → Tl} {l : List α} {d e : Nat} {u : List LX.LW} (h : ((oneT wO d).seq fun d => (eachL S l d).seq shutT) = some (u, e)) : ∃ a, eachL S l d = some (a, e) ∧ u = [wO] ++ (a ++ [wC]) := by
  cases h1 : (eachL S l d).seq shutT with
  | none => rw [oneT, seq_bad rfl h1] at h; cases h
  | some p =>
    obtain ⟨b, d1⟩ := p
    rw [oneT, seq_some rfl h1] at h
    injection h with h
    injection h with h2 h3
    subst h3
    obtain ⟨a, h4, rfl⟩ := all_inv h1
    exact ⟨a, h4, h2.symm⟩
omit hc he in
theorem within_up {c : Str} {S : List T → Nat → Tl} {o : Nat} (hS : ∀ x d r, S x d = some r → rowF c (at_ x) (subs c (at_ x)) o d = some r) {row : Nat → T} {j k : Nat} {l : List (List T)} (hr : row j = ofRows k l) {d e : Nat} {u : List LX.LW} (h : ((oneT wO d).seq fun d => (eachL S l d).seq shutT) = some (u, e)) :
    withinT row (subs c row) j o d = some (u, e) := by
  obtain ⟨a, h1, rfl⟩ := within_inv h
  have h2 := col_up hS hr h1
  unfold withinT
  simp only [seqL, oneT, Tl.seq, h2, List.append_nil]
omit hc he in
theorem elem_tag {c : Str} {k : Int} {w : Str} (hk : (k = 1 ∧ w = [104, 111, 115, 116]) ∨ (k = 2 ∧ w = [110, 101, 119]) ∨ (k = 3 ∧ w = [112, 117, 114, 101])) (s : Str) (args names vals key : List (List T)) (d : Nat) {row : Nat → T} (hrow : at_ (eCols 11 0 s args names vals k key [] []) = row) :
    exprT c row 0 d = seqL [opensT w, keyT row (subs c row) 7, taggedT row (subs c row) 0, colT row (subs c row) 3 0, shutT] d := by
  subst hrow
  rcases hk with ⟨rfl, rfl⟩ | ⟨rfl, rfl⟩ | ⟨rfl, rfl⟩ <;> rfl
omit hc he in
theorem elem_frag {c : Str} (args key : List (List T)) (d : Nat) {row : Nat → T} (hrow : at_ (eCols 11 0 [] args [] [] 4 key [] []) = row) :
    exprT c row 0 d = seqL [opensT [102, 114, 97, 103], keyT row (subs c row) 7, fun d => some ([], d), colT row (subs c row) 3 0, shutT] d := by
  subst hrow
  rfl
omit hc he in
theorem elem_portal {c : Str} (s : Str) (args key : List (List T)) (d : Nat) {row : Nat → T} (hrow : at_ (eCols 11 0 s args [] [] 5 key [] []) = row) :
    exprT c row 0 d = seqL [opensT [112, 111, 114, 116, 97, 108], keyT row (subs c row) 7, nameT (strT (row 2)), colT row (subs c row) 3 0, shutT] d := by
  subst hrow
  rfl
omit hc he in
theorem elem_give {c : Str} (s : Str) (args names vals key : List (List T)) (d : Nat) {row : Nat → T} (hrow : at_ (eCols 11 0 s args names vals 6 key [] []) = row) :
    exprT c row 0 d = seqL [opensT [103, 105, 118, 101], keyT row (subs c row) 7, givesT row (subs c row) 0, colT row (subs c row) 3 0, shutT] d := by
  subst hrow
  rfl
omit hc he in
theorem elem_guard {c : Str} (args names vals key : List (List T)) (d : Nat) {row : Nat → T} (hrow : at_ (eCols 11 0 [] args names vals 7 key [] []) = row) :
    exprT c row 0 d = seqL [opensT [103, 117, 97, 114, 100], keyT row (subs c row) 7, valsT row (subs c row) [[97, 103, 97, 105, 110], [101, 108, 115, 101]] 0, colT row (subs c row) 3 0, shutT] d := by
  subst hrow
  rfl
omit hc he in
theorem elem_wait {c : Str} (args names vals key : List (List T)) (d : Nat) {row : Nat → T} (hrow : at_ (eCols 11 0 [] args names vals 8 key [] []) = row) :
    exprT c row 0 d = seqL [opensT [119, 97, 105, 116], keyT row (subs c row) 7, valsT row (subs c row) [[101, 108, 115, 101]] 0, colT row (subs c row) 3 0, shutT] d := by
  subst hrow
  rfl
omit hc he in
theorem eS_cols {c : Str} {k n : Int} {s : Str} {args names vals : List (List T)} {el : Int} {key acts : List (List T)} {site : Str} {d : Nat} : eS c (eCols k n s args names vals el key acts site) d = exprT c (at_ (eCols k n s args names vals el key acts site)) 0 d := if_pos rfl
omit hc he in
theorem str_at (k n : Int) (s : Str) (args names vals : List (List T)) (el : Int) (key acts : List (List T)) (site : Str) : strT (at_ (eCols k n s args names vals el key acts site) 2) = s := str_back s
theorem ts_elem (k : Int) (w : Str) (hk : (k = 1 ∧ w = [104, 111, 115, 116]) ∨ (k = 2 ∧ w = [110, 101, 119]) ∨ (k = 3 ∧ w = [112, 117, 114, 101]) ∨ (k = 4 ∧ w = [102, 114, 97, 103]) ∨ (k = 5 ∧ w = [112, 111, 114, 116, 97, 108]) ∨ (k = 6 ∧ w = [103, 105, 118, 101]) ∨ (k = 7 ∧ w = [103, 117, 97, 114, 100]) ∨ (k = 8 ∧ w = [119, 97, 105, 116]))
    {d0 t d : Nat} {pre : List LX.LW} (h0 : opensT w d0 = some (pre, d)) (g : Gd ws t d) : Tr ws (fun e => eS c e d0) pre t (elemP ws ex k t d) := by
  unfold elemP
  refine Tr.bind (ts_key hc he t d) g fun key t1 d1 u1 h1 g1 => ?_
  refine Tr.ite (fun e => ?_) fun n1 => Tr.ite (fun e => ?_) fun n5 => Tr.ite (fun e => ?_) fun n6 => Tr.ite (fun e => ?_) fun n7 => Tr.ite (fun e => ?_) fun n8 => ?_
  · refine Tr.bind (ts_name hc t1 d1) g1 fun s t2 d2 u2 h2 g2 => Tr.bind (ts_within hc (ts_pair hc he) t2 d2) g2 fun l t3 d3 u3 h3 g3 => Tr.bind (ts_all hc he FU t3 d3) g3 fun args t4 d4 u4 h4 g4 => Tr.ok g4 ?_
    obtain ⟨a3, i3, rfl⟩ := within_inv h3
    obtain ⟨a4, i4, rfl⟩ := all_inv h4
    show eS c _ d0 = _
    rw [eS_cols, elem_tag (show (k = 1 ∧ w = [104, 111, 115, 116]) ∨ (k = 2 ∧ w = [110, 101, 119]) ∨ (k = 3 ∧ w = [112, 117, 114, 101]) by rcases hk with h | h | h | h | h | h | h | h; exact .inl h; exact .inr (.inl h); exact .inr (.inr h); all_goals (exact absurd h.1 (by omega))) s args _ _ key d0 rfl]
    have k1 : keyT (at_ (eCols 11 0 s args (l.map (·.take 1)) (l.map (·.drop 1)) k key [] [])) (subs c (at_ (eCols 11 0 s args (l.map (·.take 1)) (l.map (·.drop 1)) k key [] []))) 7 d = some (u1, d1) := key_up rfl h1
    have k3 : pairsT (at_ (eCols 11 0 s args (l.map (·.take 1)) (l.map (·.drop 1)) k key [] [])) (subs c (at_ (eCols 11 0 s args (l.map (·.take 1)) (l.map (·.drop 1)) k key [] []))) (0 + 4) (0 + 5) d2 = some (a3, d3) := pairs_up rfl rfl i3
    have k4 : colT (at_ (eCols 11 0 s args (l.map (·.take 1)) (l.map (·.drop 1)) k key [] [])) (subs c (at_ (eCols 11 0 s args (l.map (·.take 1)) (l.map (·.drop 1)) k key [] []))) 3 0 d3 = some (a4, d4) := colE rfl i4
    have k2 : nameT (strT (at_ (eCols 11 0 s args (l.map (·.take 1)) (l.map (·.drop 1)) k key [] []) (0 + 2))) d1 = some (u2, d2) := by rw [str_at]; exact h2
    simp only [taggedT, seqL, h0, k1, k2, k3, k4, oneT, Tl.seq, List.append_nil, List.append_assoc, List.nil_append, List.singleton_append, List.cons_append]
  · subst e
    refine Tr.bind (ts_name hc t1 d1) g1 fun s t2 d2 u2 h2 g2 => Tr.bind (ts_all hc he FU t2 d2) g2 fun args t4 d4 u4 h4 g4 => Tr.ok g4 ?_
    obtain ⟨a4, i4, rfl⟩ := all_inv h4
    obtain rfl : w = [112, 111, 114, 116, 97, 108] := by
      rcases hk with ⟨a, b⟩ | ⟨a, b⟩ | ⟨a, b⟩ | ⟨a, b⟩ | ⟨a, b⟩ | ⟨a, b⟩ | ⟨a, b⟩ | ⟨a, b⟩ <;> first | exact absurd a (by decide) | exact b
    show eS c _ d0 = _
    rw [eS_cols, elem_portal s args key d0 rfl]
    have k1 : keyT (at_ (eCols 11 0 s args [] [] 5 key [] [])) (subs c (at_ (eCols 11 0 s args [] [] 5 key [] []))) 7 d = some (u1, d1) := key_up rfl h1
    have k4 : colT (at_ (eCols 11 0 s args [] [] 5 key [] [])) (subs c (at_ (eCols 11 0 s args [] [] 5 key [] []))) 3 0 d2 = some (a4, d4) := colE rfl i4
    rw [str_at]
    simp only [seqL, h0, k1, h2, k4, oneT, Tl.seq, List.append_nil, List.append_assoc, List.nil_append, List.singleton_append, List.cons_append]
  · subst e
    refine Tr.bind (ts_name hc t1 d1) g1 fun s t2 d2 u2 h2 g2 => Tr.bind (ts_pairsOf he _ t2 d2) g2 fun l t3 d3 u3 h3 g3 => Tr.bind (ts_all hc he FU t3 d3) g3 fun args t4 d4 u4 h4 g4 => Tr.ok g4 ?_
    obtain ⟨a4, i4, rfl⟩ := all_inv h4
    obtain rfl : w = [103, 105, 118, 101] := by
      rcases hk with ⟨a, b⟩ | ⟨a, b⟩ | ⟨a, b⟩ | ⟨a, b⟩ | ⟨a, b⟩ | ⟨a, b⟩ | ⟨a, b⟩ | ⟨a, b⟩ <;> first | exact absurd a (by decide) | exact b
    show eS c _ d0 = _
    rw [eS_cols, elem_give s args _ _ key d0 rfl]
    have k1 : keyT (at_ (eCols 11 0 s args (l.map (·.take 1)) (l.map (·.drop 1)) 6 key [] [])) (subs c (at_ (eCols 11 0 s args (l.map (·.take 1)) (l.map (·.drop 1)) 6 key [] []))) 7 d = some (u1, d1) := key_up rfl h1
    have k3 : valsT (at_ (eCols 11 0 s args (l.map (·.take 1)) (l.map (·.drop 1)) 6 key [] [])) (subs c (at_ (eCols 11 0 s args (l.map (·.take 1)) (l.map (·.drop 1)) 6 key [] []))) [[118, 97, 108, 117, 101]] 0 d2 = some (u3, d3) := vals_up rfl rfl h3
    have k4 : colT (at_ (eCols 11 0 s args (l.map (·.take 1)) (l.map (·.drop 1)) 6 key [] [])) (subs c (at_ (eCols 11 0 s args (l.map (·.take 1)) (l.map (·.drop 1)) 6 key [] []))) 3 0 d3 = some (a4, d4) := colE rfl i4
    have k2 : nameT (strT (at_ (eCols 11 0 s args (l.map (·.take 1)) (l.map (·.drop 1)) 6 key [] []) (0 + 2))) d1 = some (u2, d2) := by rw [str_at]; exact h2
    simp only [givesT, seqL, h0, k1, k2, k3, k4, oneT, Tl.seq, List.append_nil, List.append_assoc, List.nil_append, List.singleton_append, List.cons_append]
  · subst e
    refine Tr.bind (ts_pairsOf he _ t1 d1) g1 fun l t3 d3 u3 h3 g3 => Tr.bind (ts_all hc he FU t3 d3) g3 fun args t4 d4 u4 h4 g4 => Tr.ok g4 ?_
    obtain ⟨a4, i4, rfl⟩ := all_inv h4
    obtain rfl : w = [103, 117, 97, 114, 100] := by
      rcases hk with ⟨a, b⟩ | ⟨a, b⟩ | ⟨a, b⟩ | ⟨a, b⟩ | ⟨a, b⟩ | ⟨a, b⟩ | ⟨a, b⟩ | ⟨a, b⟩ <;> first | exact absurd a (by decide) | exact b
    show eS c _ d0 = _
    rw [eS_cols, elem_guard args _ _ key d0 rfl]
    have k1 : keyT (at_ (eCols 11 0 [] args (l.map (·.take 1)) (l.map (·.drop 1)) 7 key [] [])) (subs c (at_ (eCols 11 0 [] args (l.map (·.take 1)) (l.map (·.drop 1)) 7 key [] []))) 7 d = some (u1, d1) := key_up rfl h1
    have k3 : valsT (at_ (eCols 11 0 [] args (l.map (·.take 1)) (l.map (·.drop 1)) 7 key [] [])) (subs c (at_ (eCols 11 0 [] args (l.map (·.take 1)) (l.map (·.drop 1)) 7 key [] []))) [[97, 103, 97, 105, 110], [101, 108, 115, 101]] 0 d1 = some (u3, d3) := vals_up rfl rfl h3
    have k4 : colT (at_ (eCols 11 0 [] args (l.map (·.take 1)) (l.map (·.drop 1)) 7 key [] [])) (subs c (at_ (eCols 11 0 [] args (l.map (·.take 1)) (l.map (·.drop 1)) 7 key [] []))) 3 0 d3 = some (a4, d4) := colE rfl i4
    simp only [seqL, h0, k1, k3, k4, oneT, Tl.seq, List.append_nil, List.append_assoc, List.nil_append, List.singleton_append, List.cons_append]
  · subst e
    refine Tr.bind (ts_pairsOf he _ t1 d1) g1 fun l t3 d3 u3 h3 g3 => Tr.bind (ts_all hc he FU t3 d3) g3 fun args t4 d4 u4 h4 g4 => Tr.ok g4 ?_
    obtain ⟨a4, i4, rfl⟩ := all_inv h4
    obtain rfl : w = [119, 97, 105, 116] := by
      rcases hk with ⟨a, b⟩ | ⟨a, b⟩ | ⟨a, b⟩ | ⟨a, b⟩ | ⟨a, b⟩ | ⟨a, b⟩ | ⟨a, b⟩ | ⟨a, b⟩ <;> first | exact absurd a (by decide) | exact b
    show eS c _ d0 = _
    rw [eS_cols, elem_wait args _ _ key d0 rfl]
    have k1 : keyT (at_ (eCols 11 0 [] args (l.map (·.take 1)) (l.map (·.drop 1)) 8 key [] [])) (subs c (at_ (eCols 11 0 [] args (l.map (·.take 1)) (l.map (·.drop 1)) 8 key [] []))) 7 d = some (u1, d1) := key_up rfl h1
    have k3 : valsT (at_ (eCols 11 0 [] args (l.map (·.take 1)) (l.map (·.drop 1)) 8 key [] [])) (subs c (at_ (eCols 11 0 [] args (l.map (·.take 1)) (l.map (·.drop 1)) 8 key [] []))) [[101, 108, 115, 101]] 0 d1 = some (u3, d3) := vals_up rfl rfl h3
    have k4 : colT (at_ (eCols 11 0 [] args (l.map (·.take 1)) (l.map (·.drop 1)) 8 key [] [])) (subs c (at_ (eCols 11 0 [] args (l.map (·.take 1)) (l.map (·.drop 1)) 8 key [] []))) 3 0 d3 = some (a4, d4) := colE rfl i4
    simp only [seqL, h0, k1, k3, k4, oneT, Tl.seq, List.append_nil, List.append_assoc, List.nil_append, List.singleton_append, List.cons_append]
  · obtain ⟨rfl, rfl⟩ : k = 4 ∧ w = [102, 114, 97, 103] := by
      rcases hk with ⟨a, b⟩ | ⟨a, b⟩ | ⟨a, b⟩ | ⟨a, b⟩ | ⟨a, b⟩ | ⟨a, b⟩ | ⟨a, b⟩ | ⟨a, b⟩ <;> first | exact ⟨a, b⟩ | (exfalso; omega)
    refine Tr.bind (ts_all hc he FU t1 d1) g1 fun args t4 d4 u4 h4 g4 => Tr.ok g4 ?_
    obtain ⟨a4, i4, rfl⟩ := all_inv h4
    show eS c _ d0 = _
    rw [eS_cols, elem_frag args key d0 rfl]
    have k1 : keyT (at_ (eCols 11 0 [] args [] [] 4 key [] [])) (subs c (at_ (eCols 11 0 [] args [] [] 4 key [] []))) 7 d = some (u1, d1) := key_up rfl h1
    have k4 : colT (at_ (eCols 11 0 [] args [] [] 4 key [] [])) (subs c (at_ (eCols 11 0 [] args [] [] 4 key [] []))) 3 0 d1 = some (a4, d4) := colE rfl i4
    simp only [seqL, h0, k1, k4, oneT, Tl.seq, List.append_nil, List.append_assoc, List.nil_append, List.singleton_append, List.cons_append]
omit hc he in
theorem wr_small {d : Nat} (h : d < 9223372036854775808) : wr d = d := by
  unfold wr IntKind.wrap
  simp [IntKind.bits, IntKind.signed]
  omega
omit hc he in
theorem ex_op {c : Str} (s : Str) (args : List (List T)) (d : Nat) {row : Nat → T} (hrow : at_ (eCols 5 0 s args [] [] 0 [] [] []) = row) : exprT c row 0 d = seqL [oneT wO, opT (strT (row 2)), colT row (subs c row) 3 0, shutT] d := by
  subst hrow
  rfl
omit hc he in
theorem ex_if {c : Str} (args : List (List T)) (d : Nat) {row : Nat → T} (hrow : at_ (eCols 6 0 [] args [] [] 0 [] [] []) = row) : exprT c row 0 d = seqL [opensT [105, 102], timesT row (subs c row) 3 3, shutT] d := by
  subst hrow
  rfl
omit hc he in
theorem ex_each {c : Str} (s : Str) (args : List (List T)) (d : Nat) {row : Nat → T} (hrow : at_ (eCols 7 0 s args [] [] 0 [] [] []) = row) : exprT c row 0 d = seqL [opensT [101, 97, 99, 104], nameT (strT (row 2)), timesT row (subs c row) 2 3, shutT] d := by
  subst hrow
  rfl
omit hc he in
theorem ex_read {c : Str} (args : List (List T)) (d : Nat) {row : Nat → T} (hrow : at_ (eCols 8 0 [] args [] [] 0 [] [] []) = row) : exprT c row 0 d = seqL [opensT [114, 101, 97, 100], timesT row (subs c row) 1 3, shutT] d := by
  subst hrow
  rfl
omit hc he in
theorem ex_throw {c : Str} (args : List (List T)) (d : Nat) {row : Nat → T} (hrow : at_ (eCols 9 0 [] args [] [] 0 [] [] []) = row) : exprT c row 0 d = seqL [opensT [116, 104, 114, 111, 119], timesT row (subs c row) 1 3, shutT] d := by
  subst hrow
  rfl
omit hc he in
theorem ex_rec {c : Str} (names vals : List (List T)) (d : Nat) {row : Nat → T} (hrow : at_ (eCols 10 0 [] [] names vals 0 [] [] []) = row) : exprT c row 0 d = seqL [opensT [114, 101, 99], pairsT row (subs c row) 4 5, shutT] d := by
  subst hrow
  rfl
omit hc he in
theorem ex_deed {c : Str} (acts : List (List T)) (site : Str) (d : Nat) {row : Nat → T} (hrow : at_ (eCols 12 0 [] [] [] [] 0 [] acts site) = row) : exprT c row 0 d = if strT (row 9) = siteW c d then seqL [opensT [100, 111], colT row (subs c row) 8 1, shutT] (d + 1) else none := by
  subst hrow
  rfl
omit hc he in
theorem seqL_cons {f : Nat → Tl} {l : List (Nat → Tl)} {d e g : Nat} {a b : List LX.LW} (h : f d = some (a, e)) (k : seqL l e = some (b, g)) : seqL (f :: l) d = some (a ++ b, g) := seq_some h k
variable (hN : ws.length ≤ 4611686018427387904)
include hN
theorem ts_compound (s : Str) (hs : ∀ d, nameT s d = oneT (wN s) d) {d0 t d : Nat} {u0 : List LX.LW} (h0 : opensT s d0 = some (u0, d)) (g : Gd ws t d) (hlt : d + 1 ≤ t) : Tr ws (fun e => eS c e d0) u0 t (compoundP ws c ex s t d) := by
  have hd : d0 = d := by injection h0 with h; injection h
  subst hd
  have hu : u0 = [wO, wN s] := by injection h0 with h; injection h with h _; exact h.symm
  unfold compoundP
  refine Tr.ite (fun e => ?_) fun n1 => Tr.ite (fun e => ?_) fun n2 => Tr.ite (fun e => ?_) fun n3 => Tr.ite (fun e => ?_) fun n4 => Tr.ite (fun e => ?_) fun n5 => Tr.ite (fun e => ?_) fun n6 => ?_
  · subst e
    refine Tr.bind (ts_times he 3 t d0) g fun l t1 d1 u1 h1 g1 => Tr.bind (ts_shut hc t1 d1) g1 fun _ t2 d2 u2 h2 g2 => Tr.ok g2 ?_
    show eS c _ d0 = _
    rw [eS_cols, ex_if l d0 rfl, List.append_assoc]
    refine seqL_cons h0 (seqL_cons (times_up rfl h1) ?_)
    simp only [seqL, h2, Tl.seq, List.append_nil]
  · subst e
    refine Tr.bind (ts_name hc t d0) g fun n t1 d1 u1 h1 g1 => Tr.bind (ts_times he 2 t1 d1) g1 fun l t2 d2 u2 h2 g2 => Tr.bind (ts_shut hc t2 d2) g2 fun _ t3 d3 u3 h3 g3 => Tr.ok g3 ?_
    show eS c _ d0 = _
    rw [eS_cols, ex_each n l d0 rfl, List.append_assoc, List.append_assoc, str_at]
    refine seqL_cons h0 (seqL_cons h1 (seqL_cons (times_up rfl h2) ?_))
    simp only [seqL, h3, Tl.seq, List.append_nil]
  · subst e
    refine Tr.bind (ts_times he 1 t d0) g fun l t1 d1 u1 h1 g1 => Tr.bind (ts_shut hc t1 d1) g1 fun _ t2 d2 u2 h2 g2 => Tr.ok g2 ?_
    show eS c _ d0 = _
    rw [eS_cols, ex_read l d0 rfl, List.append_assoc]
    refine seqL_cons h0 (seqL_cons (times_up rfl h1) ?_)
    simp only [seqL, h2, Tl.seq, List.append_nil]
  · subst e
    refine Tr.bind (ts_times he 1 t d0) g fun l t1 d1 u1 h1 g1 => Tr.bind (ts_shut hc t1 d1) g1 fun _ t2 d2 u2 h2 g2 => Tr.ok g2 ?_
    show eS c _ d0 = _
    rw [eS_cols, ex_throw l d0 rfl, List.append_assoc]
    refine seqL_cons h0 (seqL_cons (times_up rfl h1) ?_)
    simp only [seqL, h2, Tl.seq, List.append_nil]
  · subst e
    refine Tr.bind (ts_all hc (ts_pair hc he) FU t d0) g fun l t1 d1 u1 h1 g1 => Tr.ok g1 ?_
    obtain ⟨a1, i1, rfl⟩ := all_inv h1
    show eS c _ d0 = _
    rw [eS_cols, ex_rec _ _ d0 rfl]
    refine seqL_cons h0 (seqL_cons (pairs_up rfl rfl i1) rfl)
  · subst e
    have hw : siteW c d0 = siteS c d0 := by unfold siteW siteS; rw [wr_small (by have := g.1; have := g.2; omega)]
    have h2 : opensT [100, 111] (d0 + 1) = some (u0, d0 + 1) := by rw [hu]; rfl
    refine Tr.bind (ts_all hc (ts_act hc he) FU t (d0 + 1)) ⟨hlt, g.2⟩ fun l t1 d1 u1 h1 g1 => Tr.ok g1 ?_
    obtain ⟨a1, i1, rfl⟩ := all_inv h1
    show eS c _ d0 = _
    rw [eS_cols, ex_deed l _ d0 rfl]
    have hst : strT (at_ (eCols 12 0 [] [] [] [] 0 [] l (siteS c d0)) 9) = siteW c d0 := by rw [hw]; exact str_back _
    rw [if_pos hst]
    exact seqL_cons h2 (seqL_cons (col_up aS_row rfl i1) rfl)
  · have hk : ∀ (k : Int) (w : Str), ((k = 1 ∧ w = [104, 111, 115, 116]) ∨ (k = 2 ∧ w = [110, 101, 119]) ∨ (k = 3 ∧ w = [112, 117, 114, 101]) ∨ (k = 4 ∧ w = [102, 114, 97, 103]) ∨ (k = 5 ∧ w = [112, 111, 114, 116, 97, 108]) ∨ (k = 6 ∧ w = [103, 105, 118, 101]) ∨ (k = 7 ∧ w = [103, 117, 97, 114, 100]) ∨ (k = 8 ∧ w = [119, 97, 105, 116])) → s = w → Tr ws (fun e => eS c e d0) u0 t (elemP ws ex k t d0) :=
      fun k w hk e => ts_elem hc he k w hk (by rw [← e]; exact h0) g
    refine Tr.ite (fun e => hk 1 _ (by simp) e) fun m1 => Tr.ite (fun e => hk 2 _ (by simp) e) fun m2 => Tr.ite (fun e => hk 3 _ (by simp) e) fun m3 => Tr.ite (fun e => hk 4 _ (by simp) e) fun m4 => Tr.ite (fun e => hk 5 _ (by simp) e) fun m5 => Tr.ite (fun e => hk 6 _ (by simp) e) fun m6 => Tr.ite (fun e => hk 7 _ (by simp) e) fun m7 => Tr.ite (fun e => hk 8 _ (by simp) e) fun m8 => ?_
    refine Tr.bind (ts_all hc he FU t d0) g fun l t1 d1 u1 h1 g1 => Tr.ok g1 ?_
    obtain ⟨a1, i1, rfl⟩ := all_inv h1
    show eS c _ d0 = _
    rw [eS_cols, ex_op s l d0 rfl, str_at, hu]
    have hkey : keyB s = false := by
      unfold keyB
      simp only [n1, n2, n3, n4, n5, n6, m1, m2, m3, m4, m5, m6, m7, m8, beq_iff_eq, Bool.or_eq_false_iff, beq_eq_false_iff_ne, ne_eq, not_false_eq_true, and_self]
    have ho : opT s d0 = some ([wN s], d0) := by unfold opT; rw [hkey]; exact hs d0
    exact seqL_cons (a := [wO]) rfl (seqL_cons ho (seqL_cons (colE rfl i1) rfl))
omit he hN in
theorem Tr.name {β : Type} {S' : β → Tl} {pre : List LX.LW} {t d : Nat} {f : Str → Nat → Nat → Rs β} (g : Gd ws t d) (hf : ∀ s, nameOk s = true → Gd ws (t + 1) d → Tr ws S' (pre ++ [wN s]) (t + 1) (f s (t + 1) d)) : Tr ws S' pre t ((nameP ws t d).bind f) := by
  unfold nameP
  cases h : ws[t]? with
  | none => trivial
  | some w =>
    show Tr ws _ _ _ ((if isName w then Rs.ok w.s (t + 1) d else .bad (t + 1)).bind f)
    split
    · next e =>
      obtain ⟨h1, h2⟩ := name_ok (ca_at hc h) e
      have h3 := hf w.s h2 (gd_next g h)
      rw [Rs.bind_ok]
      revert h3
      cases f w.s (t + 1) d with
      | bad _ => exact fun _ => trivial
      | ok y t2 d2 =>
        rintro ⟨v, h4, h5, h6⟩
        refine ⟨[wN w.s] ++ v, by rw [h4, List.append_assoc], ?_, h6⟩
        rw [drop_get h, h5, ← h1, List.append_assoc]
    · trivial
omit hc he hN in
theorem nameT_ok {s : Str} (h : nameOk s = true) (d : Nat) : nameT s d = oneT (wN s) d := by rw [nameT, if_pos h]
omit hc he hN in
theorem ex_word {c : Str} (d : Nat) : exprT c (at_ eNone) 0 d = oneT (wN [110, 111, 110, 101]) d := rfl
omit hc he hN in
theorem ex_int {c : Str} (n : Int) (d : Nat) : exprT c (at_ (eCols 1 n [] [] [] [] 0 [] [] [])) 0 d = oneT (wI n) d := rfl
omit hc he hN in
theorem ex_yes {c : Str} (d : Nat) : exprT c (at_ (eCols 2 1 [] [] [] [] 0 [] [] [])) 0 d = oneT (wN [121, 101, 115]) d := rfl
omit hc he hN in
theorem ex_no {c : Str} (d : Nat) : exprT c (at_ (eCols 2 0 [] [] [] [] 0 [] [] [])) 0 d = oneT (wN [110, 111]) d := rfl
omit hc he hN in
theorem ex_text {c : Str} (s : Str) (d : Nat) {row : Nat → T} (hrow : at_ (eCols 3 0 s [] [] [] 0 [] [] []) = row) : exprT c row 0 d = textT (strT (row 2)) d := by
  subst hrow
  rfl
omit hc he hN in
theorem ex_name {c : Str} (s : Str) (d : Nat) {row : Nat → T} (hrow : at_ (eCols 4 0 s [] [] [] 0 [] [] []) = row) : exprT c row 0 d = nameT (strT (row 2)) d := by
  subst hrow
  rfl
theorem ts_exprOf (w : LX.LW) (hw : Ca w) {t d : Nat} (g : Gd ws t d) (hlt : d + 1 ≤ t) : Tr ws (fun e => eS c e d) [w] t (exprOfP ws c ex w t d) := by
  obtain ⟨k, s, n, ln⟩ := w
  obtain ⟨hk, h0⟩ := hw
  simp only at h0
  subst h0
  unfold exprOfP
  refine Tr.ite (fun e => ?_) fun n1 => Tr.ite (fun e => ?_) fun n2 => Tr.ite (fun e => ?_) fun n3 => Tr.ite (fun e => ?_) fun n4 => trivial
  · simp only at e
    subst e
    have hs : s = [] := by
      rcases hk with ⟨a, b, c⟩ | ⟨a, b, c⟩ | ⟨a, b, c⟩ | ⟨a, b, c⟩ | ⟨a, b, c⟩ <;> first | (exfalso; dsimp only at a; omega) | exact b
    subst hs
    refine Tr.ok g ?_
    show eS c _ d = _
    rw [eS_cols, ex_int]
    rfl
  · simp only at e
    subst e
    obtain ⟨h1, h2⟩ : n = 0 ∧ s.length ≤ 4096 := by
      rcases hk with ⟨a, b, c⟩ | ⟨a, b, c⟩ | ⟨a, b, c⟩ | ⟨a, b, c⟩ | ⟨a, b, c⟩ <;> first | (exfalso; dsimp only at a; omega) | exact ⟨b, c⟩
    subst h1
    refine Tr.ok g ?_
    show eS c (eCols 3 0 s [] [] [] 0 [] [] []) d = _
    rw [eS_cols, ex_text s d rfl, str_at, textT, if_pos h2]
    rfl
  · simp only at e
    subst e
    obtain ⟨h1, h2⟩ : n = 0 ∧ s ≠ [] := by
      rcases hk with ⟨a, b, c⟩ | ⟨a, b, c⟩ | ⟨a, b, c⟩ | ⟨a, b, c⟩ | ⟨a, b, c, -⟩ <;> first | (exfalso; dsimp only at a; omega) | exact ⟨b, c⟩
    subst h1
    show Tr ws _ _ _ (plainP s t d)
    unfold plainP
    refine Tr.ite (fun e => ?_) fun m1 => Tr.ite (fun e => ?_) fun m2 => Tr.ite (fun e => ?_) fun m3 => Tr.ite (fun e => trivial) fun m4 => ?_
    · subst e
      refine Tr.ok g ?_
      show eS c _ d = _
      rw [eS_cols, ex_yes]
      rfl
    · subst e
      refine Tr.ok g ?_
      show eS c _ d = _
      rw [eS_cols, ex_no]
      rfl
    · subst e
      refine Tr.ok g ?_
      show eS c eNone d = _
      rw [show eS c eNone d = exprT c (at_ eNone) 0 d from if_pos rfl, ex_word]
      rfl
    · refine Tr.ok g ?_
      show eS c (eCols 4 0 s [] [] [] 0 [] [] []) d = _
      have ho := (name_ok (w := ⟨1, s, 0, 0⟩) ⟨hk, rfl⟩ (by simp [isName, m1, m2, m3, m4])).2
      rw [eS_cols, ex_name s d rfl, str_at, nameT_ok ho]
      rfl
  · simp only at e
    subst e
    obtain ⟨h1, h2⟩ : s = [] ∧ n = 0 := by
      rcases hk with ⟨a, b, c⟩ | ⟨a, b, c⟩ | ⟨a, b, c⟩ | ⟨a, b, c⟩ | ⟨a, b, c⟩ <;> first | (exfalso; dsimp only at a; omega) | exact ⟨b, c⟩
    subst h1 h2
    refine Tr.name hc g fun s' hs g1 => ?_
    exact ts_compound hc he hN s' (nameT_ok hs) (d := d) (d0 := d) (u0 := [wO, wN s']) rfl g1 (by omega)
end
section
variable {ws : List LX.LW} (hc : ∀ w ∈ ws, Ca w) (hN : ws.length ≤ 4611686018427387904)
include hc hN
theorem ts_expr (c : Str) : ∀ (f t d : Nat), Ts ws (eS c) t d (exprP ws c f t d)
  | 0, t, d => fun _ => trivial
  | f + 1, t, d => by
    intro g
    simp only [exprP]
    cases h : ws[t]? with
    | none => trivial
    | some w =>
      simp only []
      have h3 := ts_exprOf hc (ts_expr c f) hN w (ca_at hc h) (gd_next g h) (by have := g.1; omega)
      revert h3
      cases exprOfP ws c (exprP ws c f) w (t + 1) d with
      | bad _ => exact fun _ => trivial
      | ok y t2 d2 =>
        rintro ⟨v, h4, h5, h6⟩
        exact ⟨[w] ++ v, h4, by rw [drop_get h, h5, List.append_assoc], h6⟩
end
/-- A statement of seventeen cells. -/
def sS (c : Str) (x : List T) (d : Nat) : Tl := if x.length = 17 then stmtT c (at_ x) d else none
theorem sS_row {c : Str} (x : List T) (d : Nat) (r : List LX.LW × Nat) (h : sS c x d = some r) : rowF c (at_ x) (subs c (at_ x)) 2 d = some r := by
  unfold sS at h
  split at h
  · exact h
  · cases h
theorem ten {e : List T} (h : e.length = 10) : ∃ e0 e1 e2 e3 e4 e5 e6 e7 e8 e9, e = [e0, e1, e2, e3, e4, e5, e6, e7, e8, e9] := by
  match e, h with
  | [e0, e1, e2, e3, e4, e5, e6, e7, e8, e9], _ => exact ⟨e0, e1, e2, e3, e4, e5, e6, e7, e8, e9, rfl⟩
theorem stmt_expr {c : Str} {k : Int} {n m : Str} {e : List T} (he : e.length = 10) {deps acts undo body : List (List T)} {row : Nat → T} (hrow : at_ (sCols k n m e deps acts undo body) = row) (d : Nat) : exprF c row (subs c row) 3 d = exprT c (at_ e) 0 d := by
  subst hrow
  obtain ⟨e0, e1, e2, e3, e4, e5, e6, e7, e8, e9, rfl⟩ := ten he
  show exprT c (at_ (sCols k n m [e0, e1, e2, e3, e4, e5, e6, e7, e8, e9] deps acts undo body)) 3 d = _
  refine exprT_shift (fun j hj => ?_) d
  exact match j, hj with
    | 0, _ => rfl | 1, _ => rfl | 2, _ => rfl | 3, _ => rfl | 4, _ => rfl | 5, _ => rfl | 6, _ => rfl | 7, _ => rfl | 8, _ => rfl | 9, _ => rfl
    | n + 10, h => absurd h (by omega)
theorem sS_cols {c : Str} {k : Int} {n m : Str} {e : List T} (he : e.length = 10) {deps acts undo body : List (List T)} {d : Nat} : sS c (sCols k n m e deps acts undo body) d = stmtT c (at_ (sCols k n m e deps acts undo body)) d := if_pos (by simp [sCols, he])
theorem st_let {c : Str} {k : Int} {w : Str} (hk : (k = 1 ∧ w = [108, 101, 116]) ∨ (k = 2 ∧ w = [115, 116, 97, 116, 101])) (n : Str) {e : List T} (he : e.length = 10) (d : Nat) : stmtT c (at_ (sCols k n [] e [] [] [] [])) d = seqL [opensT w, nameT n, exprT c (at_ e) 0, shutT] d := by
  have h : stmtT c (at_ (sCols k n [] e [] [] [] [])) d = seqL [opensT w, nameT (strT (.sc (str n))), exprF c (at_ (sCols k n [] e [] [] [] [])) (subs c (at_ (sCols k n [] e [] [] [] []))) 3, shutT] d := by
    obtain ⟨e0, e1, e2, e3, e4, e5, e6, e7, e8, e9, rfl⟩ := ten he
    rcases hk with ⟨rfl, rfl⟩ | ⟨rfl, rfl⟩ <;> rfl
  rw [h, str_back, funext (stmt_expr he rfl)]
theorem st_memo {c : Str} (n : Str) {e : List T} (he : e.length = 10) (deps : List (List T)) (d : Nat) {row : Nat → T} (hrow : at_ (sCols 3 n [] e deps [] [] []) = row) : stmtT c row d = seqL [opensT [109, 101, 109, 111], nameT n, withinT row (subs c row) 13 0, exprT c (at_ e) 0, shutT] d := by
  have h : stmtT c row d = seqL [opensT [109, 101, 109, 111], nameT (strT (.sc (str n))), withinT row (subs c row) 13 0, exprF c row (subs c row) 3, shutT] d := by
    subst hrow
    obtain ⟨e0, e1, e2, e3, e4, e5, e6, e7, e8, e9, rfl⟩ := ten he
    rfl
  rw [h, str_back, funext (stmt_expr he hrow)]
theorem st_use {c : Str} (n m : Str) (d : Nat) : stmtT c (at_ (sCols 4 n m eNone [] [] [] [])) d = seqL [opensT [117, 115, 101], nameT n, nameT m, shutT] d := by
  have h : stmtT c (at_ (sCols 4 n m eNone [] [] [] [])) d = seqL [opensT [117, 115, 101], nameT (strT (.sc (str n))), nameT (strT (.sc (str m))), shutT] d := rfl
  rw [h, str_back, str_back]
theorem st_runs {c : Str} {k : Int} {w : Str} (hk : (k = 5 ∧ w = [108, 97, 121, 111, 117, 116]) ∨ (k = 6 ∧ w = [101, 102, 102, 101, 99, 116])) (deps acts undo : List (List T)) (d : Nat) {row : Nat → T} (hrow : at_ (sCols k [] [] eNone deps acts undo []) = row) : stmtT c row d = seqL [opensT w, runsT row (subs c row), shutT] d := by
  subst hrow
  rcases hk with ⟨rfl, rfl⟩ | ⟨rfl, rfl⟩ <;> rfl
theorem st_when {c : Str} {e : List T} (he : e.length = 10) (body : List (List T)) (d : Nat) {row : Nat → T} (hrow : at_ (sCols 7 [] [] e [] [] [] body) = row) : stmtT c row d = seqL [opensT [119, 104, 101, 110], exprT c (at_ e) 0, colT row (subs c row) 16 2, shutT] d := by
  have h : stmtT c row d = seqL [opensT [119, 104, 101, 110], exprF c row (subs c row) 3, colT row (subs c row) 16 2, shutT] d := by
    subst hrow
    obtain ⟨e0, e1, e2, e3, e4, e5, e6, e7, e8, e9, rfl⟩ := ten he
    rfl
  rw [h, funext (stmt_expr he hrow)]
theorem s13 {k : Int} {n m : Str} {e : List T} (he : e.length = 10) (deps acts undo body : List (List T)) : at_ (sCols k n m e deps acts undo body) 13 = ofRows 10 deps ∧ at_ (sCols k n m e deps acts undo body) 14 = ofRows 12 acts ∧ at_ (sCols k n m e deps acts undo body) 15 = ofRows 12 undo ∧ at_ (sCols k n m e deps acts undo body) 16 = ofRows 17 body := by
  obtain ⟨e0, e1, e2, e3, e4, e5, e6, e7, e8, e9, rfl⟩ := ten he
  exact ⟨rfl, rfl, rfl, rfl⟩
section
variable {ws : List LX.LW} (hc : ∀ w ∈ ws, Ca w) {c : Str} {ex : Nat → Nat → Rs (List T)} (he : ∀ t d, Ts ws (eS c) t d (ex t d))
include hc he
theorem ts_runs {k : Int} {w : Str} (hk : (k = 5 ∧ w = [108, 97, 121, 111, 117, 116]) ∨ (k = 6 ∧ w = [101, 102, 102, 101, 99, 116])) {d0 t d : Nat} {u0 : List LX.LW} (h0 : opensT w d0 = some (u0, d)) (g : Gd ws t d) : Tr ws (fun x => sS c x d0) u0 t (runsP ws ex k t d) := by
  unfold runsP
  refine Tr.bind (ts_within hc he t d) g fun deps t1 d1 u1 h1 g1 => Tr.bind (ts_within hc (ts_act hc he) t1 d1) g1 fun acts t2 d2 u2 h2 g2 => Tr.bind (ts_within hc (ts_act hc he) t2 d2) g2 fun undo t3 d3 u3 h3 g3 => Tr.bind (ts_shut hc t3 d3) g3 fun _ t4 d4 u4 h4 g4 => Tr.ok g4 ?_
  show sS c _ d0 = _
  rw [sS_cols rfl, st_runs hk deps acts undo d0 rfl]
  have q := s13 (k := k) (n := []) (m := []) (e := eNone) rfl deps acts undo []
  have k1 := within_up (c := c) eS_row q.1 h1
  have k2 := within_up (c := c) aS_row q.2.1 h2
  have k3 := within_up (c := c) aS_row q.2.2.1 h3
  simp only [runsT, seqL, h0, k1, k2, k3, h4, Tl.seq, List.append_nil, List.append_assoc]
theorem ts_stmtOf {st : Nat → Nat → Rs (List T)} (hst : ∀ t d, Ts ws (sS c) t d (st t d)) (s : Str) {d0 t d : Nat} {u0 : List LX.LW} (h0 : opensT s d0 = some (u0, d)) (g : Gd ws t d) : Tr ws (fun x => sS c x d0) u0 t (stmtOfP ws ex st s t d) := by
  unfold stmtOfP
  refine Tr.ite (fun e => ?_) fun n1 => Tr.ite (fun e => ?_) fun n2 => Tr.ite (fun e => ?_) fun n3 => Tr.ite (fun e => ?_) fun n4 => Tr.ite (fun e => ?_) fun n5 => Tr.ite (fun e => ?_) fun n6 => Tr.ite (fun e => ?_) fun n7 => trivial
  · subst e
    refine Tr.bind (ts_name hc t d) g fun n t1 d1 u1 h1 g1 => Tr.bind (he t1 d1) g1 fun e t2 d2 u2 h2 g2 => Tr.bind (ts_shut hc t2 d2) g2 fun _ t3 d3 u3 h3 g3 => Tr.ok g3 ?_
    obtain ⟨hl, h2⟩ := eS_some h2
    show sS c _ d0 = _
    rw [sS_cols hl, st_let (.inl ⟨rfl, rfl⟩) n hl]
    simp only [seqL, h0, h1, h2, h3, Tl.seq, List.append_nil, List.append_assoc]
  · subst e
    refine Tr.bind (ts_name hc t d) g fun n t1 d1 u1 h1 g1 => Tr.bind (he t1 d1) g1 fun e t2 d2 u2 h2 g2 => Tr.bind (ts_shut hc t2 d2) g2 fun _ t3 d3 u3 h3 g3 => Tr.ok g3 ?_
    obtain ⟨hl, h2⟩ := eS_some h2
    show sS c _ d0 = _
    rw [sS_cols hl, st_let (.inr ⟨rfl, rfl⟩) n hl]
    simp only [seqL, h0, h1, h2, h3, Tl.seq, List.append_nil, List.append_assoc]
  · subst e
    refine Tr.bind (ts_name hc t d) g fun n t1 d1 u1 h1 g1 => Tr.bind (ts_within hc he t1 d1) g1 fun deps t4 d4 u4 h4 g4 => Tr.bind (he t4 d4) g4 fun e t2 d2 u2 h2 g2 => Tr.bind (ts_shut hc t2 d2) g2 fun _ t3 d3 u3 h3 g3 => Tr.ok g3 ?_
    obtain ⟨hl, h2⟩ := eS_some h2
    show sS c _ d0 = _
    rw [sS_cols hl, st_memo n hl deps d0 rfl]
    have k4 := within_up (c := c) eS_row (s13 (k := 3) (n := n) (m := []) hl deps [] [] []).1 h4
    simp only [seqL, h0, h1, h2, h3, k4, Tl.seq, List.append_nil, List.append_assoc]
  · subst e
    refine Tr.bind (ts_name hc t d) g fun n t1 d1 u1 h1 g1 => Tr.bind (ts_name hc t1 d1) g1 fun m t2 d2 u2 h2 g2 => Tr.bind (ts_shut hc t2 d2) g2 fun _ t3 d3 u3 h3 g3 => Tr.ok g3 ?_
    show sS c _ d0 = _
    rw [sS_cols rfl, st_use]
    simp only [seqL, h0, h1, h2, h3, Tl.seq, List.append_nil, List.append_assoc]
  · subst e
    exact ts_runs hc he (.inl ⟨rfl, rfl⟩) h0 g
  · subst e
    exact ts_runs hc he (.inr ⟨rfl, rfl⟩) h0 g
  · subst e
    refine Tr.bind (he t d) g fun e t1 d1 u1 h1 g1 => Tr.bind (ts_all hc hst FU t1 d1) g1 fun body t2 d2 u2 h2 g2 => Tr.ok g2 ?_
    obtain ⟨hl, h1⟩ := eS_some h1
    obtain ⟨a2, i2, rfl⟩ := all_inv h2
    show sS c _ d0 = _
    rw [sS_cols hl, st_when hl body d0 rfl]
    have k2 := col_up (c := c) sS_row (s13 (k := 7) (n := []) (m := []) hl [] [] [] body).2.2.2 i2
    simp only [seqL, h0, h1, k2, oneT, Tl.seq, List.append_nil, List.append_assoc]
theorem ts_stmt : ∀ (f t d : Nat), Ts ws (sS c) t d (stmtP ws ex f t d)
  | 0, t, d => fun _ => trivial
  | f + 1, t, d => by
    simp only [stmtP]
    exact Ts.bind (ts_open hc t d) fun _ t1 d1 u1 h1 g1 => Tr.bind (ts_name hc t1 d1) g1 fun s t2 d2 u2 h2 g2 => ts_stmtOf hc he (ts_stmt f) s (opens_up h1 h2) g2
/-- The statements, and the expression that is shown. -/
def bS (c : Str) (p : List (List T) × List T) (d : Nat) : Tl := if p.2.length = 10 then (eachL (sS c) p.1 d).seq (seqL [opensT [115, 104, 111, 119], exprT c (at_ p.2) 0, shutT, shutT]) else none
theorem ts_body : ∀ (m : Nat) (s : Str) (t d d0 : Nat) (u0 : List LX.LW), opensT s d0 = some (u0, d) → Gd ws t d → Tr ws (fun p => bS c p d0) u0 t (bodyP ws ex m s t d)
  | 0, s, t, d, d0, u0, _, _ => trivial
  | m + 1, s, t, d, d0, u0, h0, g => by
    simp only [bodyP]
    refine Tr.ite (fun e => ?_) fun n => ?_
    · subst e
      refine Tr.bind (he t d) g fun e t1 d1 u1 h1 g1 => Tr.bind (ts_shut hc t1 d1) g1 fun _ t2 d2 u2 h2 g2 => Tr.bind (ts_shut hc t2 d2) g2 fun _ t3 d3 u3 h3 g3 => Tr.ok g3 ?_
      obtain ⟨hl, h1⟩ := eS_some h1
      show bS c ([], e) d0 = _
      rw [bS, if_pos hl]
      show Tl.seq (some ([], d0)) _ = _
      rw [nil_seq]
      simp only [seqL, h0, h1, h2, h3, Tl.seq, List.append_nil, List.append_assoc]
    · have h1 := ts_stmtOf hc he (ts_stmt hc he FU) s h0 g
      revert h1
      cases stmtOfP ws ex (stmtP ws ex FU) s t d with
      | bad _ => exact fun _ => trivial
      | ok x t1 d1 =>
        rintro ⟨u1, h1, hw1, g1⟩
        rw [Rs.bind_ok]
        have h2 : Tr ws (fun p => bS c p d0) (u0 ++ u1) t1 ((openP ws t1 d1).bind fun _ t d => (nameP ws t d).bind fun s t d => (bodyP ws ex m s t d).bind fun p t d => .ok (x :: p.1, p.2) t d) := by
          refine Tr.bind (ts_open hc t1 d1) g1 fun _ t2 d2 u2 h2 g2 => Tr.bind (ts_name hc t2 d2) g2 fun s' t3 d3 u3 h3 g3 => ?_
          have h4 := ts_body m s' t3 d3 d1 (u2 ++ u3) (opens_up h2 h3) g3
          revert h4
          cases bodyP ws ex m s' t3 d3 with
          | bad _ => exact fun _ => trivial
          | ok p t4 d4 =>
            rintro ⟨u4, h4, hw4, g4⟩
            replace h4 : bS c p d1 = some (u2 ++ u3 ++ u4, d4) := h4
            refine ⟨u4, ?_, hw4, g4⟩
            show bS c (x :: p.1, p.2) d0 = _
            unfold bS at h4 ⊢
            split at h4
            · next hl =>
              rw [if_pos hl]
              show ((sS c x d0).seq (eachL (sS c) p.1)).seq _ = _
              rw [seq_assoc, seq_some h1 h4]
              simp only [List.append_assoc]
            · cases h4
        revert h2
        cases ((openP ws t1 d1).bind fun _ t d => (nameP ws t d).bind fun s t d => (bodyP ws ex m s t d).bind fun p t d => .ok (x :: p.1, p.2) t d) with
        | bad _ => exact fun _ => trivial
        | ok y t5 d5 =>
          rintro ⟨v, h5, h6, g5⟩
          exact ⟨u1 ++ v, by rw [h5, List.append_assoc], by rw [hw1, h6, List.append_assoc], g5⟩
end
/-! ### Components -/
/-- A component of thirteen cells, told by just these words. -/
def Cw (x : List T) (u : List LX.LW) : Prop := x.length = 13 ∧ ∃ d, compT (at_ x) = some (u, d)
def CTr (ws : List LX.LW) (t : Nat) : Rs (List T) → Prop
  | .bad _ => True
  | .ok x t' d' => ∃ u, Cw x u ∧ ws.drop t = u ++ ws.drop t' ∧ Gd ws t' d'
section
variable {ws : List LX.LW} (hc : ∀ w ∈ ws, Ca w) (hN : ws.length ≤ 4611686018427387904)
include hc hN
theorem ts_component (t d0 : Nat) (g0 : Gd ws t d0) : CTr ws t (componentP ws t d0) := by
    have h : Tr ws (fun x => if x.length = 13 then compT (at_ x) else none) [] t (componentP ws t d0) := by
      unfold componentP
      refine Tr.bind (ts_open hc t d0) g0 fun _ t1 d1 u1 h1 g1 => Tr.bind (ts_name hc t1 d1) g1 fun s t2 d2 u2 h2 g2 => Tr.ite (fun e => ?_) fun _ => trivial
      subst e
      refine Tr.bind (ts_name hc t2 d2) g2 fun name t3 d3 u3 h3 g3 => Tr.bind (ts_name hc t3 d3) g3 fun param t4 d4 u4 h4 g4 => ?_
      have g5 : Gd ws t4 0 := ⟨Nat.zero_le _, g4.2⟩
      refine Tr.bind (ts_open hc t4 0) g5 fun _ t6 d6 u6 h6 g6 => Tr.bind (ts_name hc t6 d6) g6 fun s t7 d7 u7 h7 g7 => ?_
      have hb := ts_body hc (ts_expr hc hN name FU) FU s t7 d7 0 (u6 ++ u7) (opens_up h6 h7) g7
      revert hb
      cases bodyP ws (exprP ws name FU) FU s t7 d7 with
      | bad _ => exact fun _ => trivial
      | ok p t8 d8 =>
        rintro ⟨u8, h8, hw8, g8⟩
        replace h8 : bS name p 0 = some (u6 ++ u7 ++ u8, d8) := h8
        refine ⟨u8, ?_, hw8, g8⟩
        unfold bS at h8
        split at h8
        · next hl =>
          show (if (cCols name param p.1 p.2).length = 13 then compT (at_ (cCols name param p.1 p.2)) else none) = _
          rw [if_pos (by simp [cCols, hl])]
          have ho := opens_up h1 h2
          have e1 : openingT (at_ (cCols name param p.1 p.2)) 0 = some (u1 ++ (u2 ++ (u3 ++ u4)), 0) := by
            show seqL [opensT [99, 111, 109, 112], nameT (strT (.sc (str name))), nameT (strT (.sc (str param)))] 0 = _
            rw [str_back, str_back]
            obtain ⟨rfl, -⟩ := name_some h3
            obtain ⟨rfl, -⟩ := name_some h4
            obtain ⟨rfl, -⟩ := name_some h2
            injection h1 with h1; injection h1 with h1 _; subst h1
            have i3 : nameT name 0 = some ([wN name], 0) := by
              unfold nameT at h3 ⊢
              split
              · rfl
              · next hn => rw [if_neg hn] at h3; cases h3
            have i4 : nameT param 0 = some ([wN param], 0) := by
              unfold nameT at h4 ⊢
              split
              · rfl
              · next hn => rw [if_neg hn] at h4; cases h4
            simp only [seqL, i3, i4, opensT, Tl.seq]
            rfl
          have e0 : strT (at_ (cCols name param p.1 p.2) 0) = name := str_back name
          have eb : ∀ d, showT (at_ (cCols name param p.1 p.2)) d = seqL [opensT [115, 104, 111, 119], exprT name (at_ p.2) 0, shutT, shutT] d := fun d => by
            unfold showT
            rw [e0]
            obtain ⟨e0, e1, e2, e3, e4, e5, e6, e7, e8, e9, hp⟩ := ten hl
            have hx : ∀ d, exprT name (at_ (cCols name param p.1 p.2)) 3 d = exprT name (at_ p.2) 0 d := fun d => by
              rw [hp]
              refine exprT_shift (fun j hj => ?_) d
              exact match j, hj with
                | 0, _ => rfl | 1, _ => rfl | 2, _ => rfl | 3, _ => rfl | 4, _ => rfl | 5, _ => rfl | 6, _ => rfl | 7, _ => rfl | 8, _ => rfl | 9, _ => rfl
                | n + 10, h => absurd h (by omega)
            rw [funext hx]
          unfold compT
          cases hs : eachL (sS name) p.1 0 with
          | none => rw [hs] at h8; cases h8
          | some q =>
            obtain ⟨a, da⟩ := q
            have e2 : bodyT (at_ (cCols name param p.1 p.2)) 0 = some (a, da) := by
              unfold bodyT
              rw [e0]
              exact col_up sS_row rfl hs
            rw [hs] at h8
            simp only [Tl.seq] at h8
            cases hw : seqL [opensT [115, 104, 111, 119], exprT name (at_ p.2) 0, shutT, shutT] da with
            | none => rw [hw] at h8; cases h8
            | some q =>
              obtain ⟨b, db⟩ := q
              rw [hw] at h8
              injection h8 with h8
              injection h8 with h8 h9
              subst h9
              have e3 : showT (at_ (cCols name param p.1 p.2)) da = some (b, db) := by rw [eb]; exact hw
              rw [seqL_cons e1 (seqL_cons e2 (seqL_cons e3 rfl)), List.append_nil, h8]
              simp only [List.append_assoc, List.nil_append]
        · cases h8
    revert h
    cases componentP ws t d0 with
    | bad _ => exact fun _ => trivial
    | ok x t' d' =>
      rintro ⟨u, h1, h2, h3⟩
      replace h1 : (if x.length = 13 then compT (at_ x) else none) = some (u, d') := h1
      split at h1
      · next hl => exact ⟨u, ⟨hl, d', h1⟩, h2, h3⟩
      · cases h1
theorem ts_program : ∀ (m t d : Nat), Gd ws t d → match programP ws m t d with
    | .bad _ => True
    | .ok l t' d' => ∃ us : List (List LX.LW), All2 Cw l us ∧ ws.drop t = us.flatten
  | 0, t, d, _ => trivial
  | m + 1, t, d, g => by
    rw [program_succ]
    split
    · trivial
    · next l t' d' h =>
      split at h
      · next hlt =>
        have h1 := ts_component hc hN t d g
        cases hx : componentP ws t d with
        | bad _ => rw [hx] at h; cases h
        | ok x t1 d1 =>
          rw [hx] at h h1
          obtain ⟨u, hu, hw, g1⟩ := h1
          have h2 := ts_program m t1 d1 g1
          rw [Rs.bind_ok] at h
          cases hy : programP ws m t1 d1 with
          | bad _ => rw [hy] at h; cases h
          | ok l2 t2 d2 =>
            rw [hy] at h h2
            injection h with h
            subst h
            obtain ⟨us, h3, h4⟩ := h2
            exact ⟨u :: us, .cons hu h3, by rw [hw, h4]; rfl⟩
      · next hge =>
        injection h with h
        subst h
        exact ⟨[], .nil, by rw [List.drop_of_length_le (by omega)]; rfl⟩
end
/-- WHAT WAS READ is told by just the words of the text. -/
theorem parse_told {ws : List LX.LW} {l : List (List T)} (hw : ∀ w ∈ ws, LX.OkW w) (hN : ws.length ≤ 4611686018427387904) (h : parseP ws = .inr l) : ∃ us : List (List LX.LW), All2 Cw l us ∧ ws.map nol = us.flatten := by
  have hc : ∀ w ∈ ws.map nol, Ca w := fun w hm => by
    obtain ⟨v, hv, rfl⟩ := List.mem_map.1 hm
    exact ⟨hw v hv, rfl⟩
  have h1 := ts_program hc (by rw [List.length_map]; exact hN) FU 0 0 ⟨Nat.le_refl _, Nat.zero_le _⟩
  unfold parseP at h
  cases hp : programP (ws.map nol) FU 0 0 with
  | bad _ => rw [hp] at h; cases h
  | ok l' t d =>
    rw [hp] at h h1
    injection h with h
    subst h
    exact h1
end Go.Proofs.YtfldflemdhkgoaaGreatDoor.G
namespace Go.Proofs.YtfldflemdhkgoaaGreatDoor.G
set_option linter.unusedVariables false
set_option linter.unusedSimpArgs false
open Go.Proofs.YtfldflemdhkgoaaGreatDoor

/-- Words as they are laid out; b: does something stand ahead within the same brackets? -/
def lay : Bool → List LX.LW → Str
  | _, [] => []
  | b, w :: ws => (if w.k ≠ 5 ∧ b = true then [32] else []) ++ (LX.toldW w ++ lay (w.k != 4) ws)
def aft : Bool → List LX.LW → Bool
  | b, [] => b
  | _, w :: ws => aft (w.k != 4) ws
theorem lay_append (b : Bool) (u v : List LX.LW) : lay b (u ++ v) = lay b u ++ lay (aft b u) v := by
  induction u generalizing b with
  | nil => rfl
  | cons w u ih => simp only [List.cons_append, lay, aft, ih, List.append_assoc]
theorem aft_append (b : Bool) (u v : List LX.LW) : aft b (u ++ v) = aft (aft b u) v := by
  induction u generalizing b with
  | nil => rfl
  | cons w u ih => simp only [List.cons_append, aft, ih]
theorem lex_open (line : Nat) (r : Str) : LX.lex line (40 :: r) = (LX.lex line r).cons { wO with line := line } := by
  rw [LX.lex_word line 40 r ⟨4, [], 0, 0⟩ 1 (by decide) rfl]
  rfl
theorem res_app (a b : List LX.LW) (r : LX.Res) : (r.app b).app a = r.app (a ++ b) := by
  cases r with
  | err n => rfl
  | ok ws => simp [LX.Res.app]
theorem res_cons (w : LX.LW) (r : LX.Res) : r.cons w = r.app [w] := by
  cases r with
  | err n => rfl
  | ok ws => rfl
theorem lay_head {b : Bool} {ws : List LX.LW} (hc : ∀ w ∈ ws, Ca w) (r : Str) (hb : b = true) : ∀ c t, lay b ws ++ 10 :: r = c :: t → LX.isNB c = false := by
  intro c t h
  cases ws with
  | nil => simp only [lay, List.nil_append] at h; injection h with h _; subst h; decide
  | cons w ws =>
    subst hb
    by_cases h5 : w.k = 5
    · have e : LX.toldW w = [41] := by unfold LX.toldW; rw [h5]; rfl
      simp only [lay, h5, e] at h
      injection h with h _
      subst h
      decide
    · simp only [lay] at h
      rw [if_pos ⟨h5, trivial⟩] at h
      injection h with h _
      subst h
      decide
/-- WHAT IS LAID OUT IS READ AGAIN. -/
theorem lex_lay (line : Nat) (ws : List LX.LW) (hc : ∀ w ∈ ws, Ca w) (b : Bool) (r : Str) : LX.lex line (lay b ws ++ 10 :: r) = (LX.lex (line + 1) r).app (ws.map fun w => { w with line := line }) := by
  induction ws generalizing b with
  | nil =>
    show LX.lex line (10 :: r) = _
    rw [LX.lex_nl _ _ _ rfl]
    cases LX.lex (line + 1) r <;> rfl
  | cons w ws ih =>
    have hw := hc w (by simp)
    have ih := ih (fun x hx => hc x (by simp [hx]))
    have h0 : LX.lex line (lay b (w :: ws) ++ 10 :: r) = LX.lex line (LX.toldW w ++ (lay (w.k != 4) ws ++ 10 :: r)) := by
      simp only [lay]
      split
      · rw [List.append_assoc, List.append_assoc, List.singleton_append, LX.lex_blank _ _ _ (.inl rfl)]
      · rw [List.nil_append, List.append_assoc]
    rw [h0]
    have h1 : LX.lex line (LX.toldW w ++ (lay (w.k != 4) ws ++ 10 :: r)) = (LX.lex line (lay (w.k != 4) ws ++ 10 :: r)).cons { w with line := line } := by
      by_cases h4 : w.k = 4
      · obtain ⟨hk, hl⟩ := hw
        obtain ⟨k, s, n, l⟩ := w
        simp only at h4 hl
        subst h4 hl
        obtain ⟨h1, h2⟩ : s = [] ∧ n = 0 := by
          rcases hk with ⟨a, b, c⟩ | ⟨a, b, c⟩ | ⟨a, b, c⟩ | ⟨a, b, c⟩ | ⟨a, b, c⟩ <;> first | (exfalso; dsimp only at a; omega) | exact ⟨b, c⟩
        subst h1 h2
        exact lex_open line _
      · exact LX.lex_told line hw.1 _ (lay_head (fun x hx => hc x (by simp [hx])) r (by simpa using h4))
    rw [h1, ih, res_cons, res_app]
    rfl
/-- A component's text, and a program's. -/
def lines (us : List (List LX.LW)) : Str := (us.map fun u => lay false u ++ [10]).flatten
theorem lines_cons (u : List LX.LW) (us : List (List LX.LW)) : lines (u :: us) = lay false u ++ 10 :: lines us := by
  simp [lines]
theorem lines_snoc (us : List (List LX.LW)) (u : List LX.LW) : lines (us ++ [u]) = lines us ++ (lay false u ++ [10]) := by
  simp [lines]
theorem lex_text (line : Nat) (us : List (List LX.LW)) (hc : ∀ u ∈ us, ∀ w ∈ u, Ca w) : ∃ ws, LX.lex line (lines us) = .ok ws ∧ ws.map nol = us.flatten := by
  induction us generalizing line with
  | nil => exact ⟨[], rfl, rfl⟩
  | cons u us ih =>
    obtain ⟨ws, h1, h2⟩ := ih (line + 1) (fun v hv => hc v (by simp [hv]))
    refine ⟨u.map (fun w => { w with line := line }) ++ ws, ?_, ?_⟩
    · rw [lines_cons, lex_lay line u (hc u (by simp)), h1]
      rfl
    · rw [List.map_append, h2, List.flatten_cons, List.map_map]
      congr 1
      refine (List.map_congr_left (fun w hw => ?_)).trans (List.map_id u)
      have := (hc u (by simp) w hw).2
      obtain ⟨k, s, n, l⟩ := w
      simp only at this
      subst this
      rfl
/-- THE TEXT OF WHAT WAS READ is read again, and is the same. -/
theorem text_back {ws : List LX.LW} {l : List (List T)} (hw : ∀ w ∈ ws, LX.OkW w) (hN : ws.length ≤ 4611686018427387904) (h : parseP ws = .inr l) : ∃ us : List (List LX.LW), All2 Cw l us ∧ ∃ vs, LX.lex 0 (lines us) = .ok vs ∧ parseP vs = .inr l := by
  obtain ⟨us, h1, h2⟩ := parse_told hw hN h
  have hc : ∀ u ∈ us, ∀ w ∈ u, Ca w := fun u hu w hm => by
    have hf : w ∈ ws.map nol := by rw [h2]; exact List.mem_flatten.2 ⟨u, hu, hm⟩
    obtain ⟨v, hv, rfl⟩ := List.mem_map.1 hf
    exact ⟨hw v hv, rfl⟩
  obtain ⟨vs, h3, h4⟩ := lex_text 0 us hc
  refine ⟨us, h1, vs, h3, ?_⟩
  unfold parseP at h ⊢
  rw [h4, ← h2]
  cases hp : programP (ws.map nol) FU 0 0 with
  | bad t => rw [hp] at h; cases h
  | ok l' t d => rw [hp] at h; exact h
end Go.Proofs.YtfldflemdhkgoaaGreatDoor.G
