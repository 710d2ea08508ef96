/-
  Plain: the programs that words are ('parseP'): reading goes word by word; what is none is left at the word taken last ('.bad'). No program is imported.
  Conditions: none.
-/
import Derived.Test.YtedmmgfnplbkjaaGreatDoorLexP
import Derived.Test.YtedmmgfnplbkjaaGreatDoorTre
namespace Go.Proofs.YtedmmgfnplbkjaaGreatDoor.G
set_option linter.unusedVariables false
set_option linter.unusedSimpArgs false
open Go.Proofs.YtedmmgfnplbkjaaGreatDoor
abbrev Str := List UInt8
inductive Rs (α : Type) where
  | bad (t : Nat)
  | ok (x : α) (t d : Nat)
def Rs.bind {α β : Type} : Rs α → (α → Nat → Nat → Rs β) → Rs β
  | .bad t, _ => .bad t
  | .ok x t d, f => f x t d
@[simp] theorem Rs.bind_bad {α β : Type} (t : Nat) (f : α → Nat → Nat → Rs β) : (Rs.bad t).bind f = .bad t := rfl
@[simp] theorem Rs.bind_ok {α β : Type} (x : α) (t d : Nat) (f : α → Nat → Nat → Rs β) : (Rs.ok x t d).bind f = f x t d := rfl
def FU : Nat := 65537
def nol (w : LX.LW) : LX.LW := { w with line := 0 }
def str (s : Str) : Value := .string ⟨s.toArray⟩
def eCols (k n : Int) (s : Str) (args : List (List T)) (names : List (List T)) (vals : List (List T)) (el : Int) (key acts : List (List T)) (site : Str) : List T :=
  [.sc (.int .u8 k), .sc (.int .i64 n), .sc (str s), ofRows 10 args, ofRows 1 names, ofRows 10 vals, .sc (.int .u8 el), ofRows 10 key, ofRows 12 acts, .sc (str site)]
def eNone : List T := eCols 0 0 [] [] [] [] 0 [] [] []
def aCols (k : Int) (name : Str) (e : List T) : List T := .sc (.int .u8 k) :: .sc (str name) :: e
def sCols (k : Int) (name ctx : Str) (e : List T) (deps acts undo body : List (List T)) : List T :=
  .sc (.int .u8 k) :: .sc (str name) :: .sc (str ctx) :: (e ++ [ofRows 10 deps, ofRows 12 acts, ofRows 12 undo, ofRows 17 body])
def cCols (name param : Str) (body : List (List T)) (e : List T) : List T := .sc (str name) :: .sc (str param) :: ofRows 17 body :: e
section
variable (ws : List LX.LW) (c : Str)
def isName (w : LX.LW) : Bool := w.k == 1 && !(w.s == [121, 101, 115] || w.s == [110, 111] || w.s == [110, 111, 110, 101] || w.s == [45])
def takeP (t d : Nat) : Rs LX.LW := match ws[t]? with
  | none => .bad (t + 1)
  | some w => .ok w (t + 1) d
def kindP (k : Nat) (t d : Nat) : Rs Unit := match ws[t]? with
  | none => .bad (t + 1)
  | some w => if w.k = k then .ok () (t + 1) d else .bad (t + 1)
abbrev openP := kindP ws 4
abbrev shutP := kindP ws 5
def nameP (t d : Nat) : Rs Str := match ws[t]? with
  | none => .bad (t + 1)
  | some w => if isName w then .ok w.s (t + 1) d else .bad (t + 1)
def isShut (t : Nat) : Bool := match ws[t]? with
  | none => false
  | some w => w.k == 5
def isDash (t : Nat) : Bool := match ws[t]? with
  | none => false
  | some w => w.k == 1 && w.s == [45]
def allP {α : Type} (one : Nat → Nat → Rs α) : Nat → Nat → Nat → Rs (List α)
  | 0, t, _ => .bad (t + 1)
  | m + 1, t, d => if isShut ws t then .ok [] (t + 1) d else (one t d).bind fun x t d => (allP one m t d).bind fun l t d => .ok (x :: l) t d
def withinP {α : Type} (one : Nat → Nat → Rs α) (t d : Nat) : Rs (List α) := (openP ws t d).bind fun _ t d => allP ws one FU t d
def timesP {α : Type} (one : Nat → Nat → Rs α) : Nat → Nat → Nat → Rs (List α)
  | 0, t, d => .ok [] t d
  | m + 1, t, d => (one t d).bind fun x t d => (timesP one m t d).bind fun l t d => .ok (x :: l) t d
def plainP (s : Str) (t d : Nat) : Rs (List T) :=
  if s = [121, 101, 115] then .ok (eCols 2 1 [] [] [] [] 0 [] [] []) t d
  else if s = [110, 111] then .ok (eCols 2 0 [] [] [] [] 0 [] [] []) t d
  else if s = [110, 111, 110, 101] then .ok eNone t d
  else if s = [45] then .bad t
  else .ok (eCols 4 0 s [] [] [] 0 [] [] []) t d
section
variable (ex : Nat → Nat → Rs (List T))
def pairP (t d : Nat) : Rs (List T) := (openP ws t d).bind fun _ t d => (nameP ws t d).bind fun s t d => (ex t d).bind fun e t d => (shutP ws t d).bind fun _ t d => .ok (.sc (str s) :: e) t d
def actP (t d : Nat) : Rs (List T) := (openP ws t d).bind fun _ t d => (nameP ws t d).bind fun s t d =>
  if s = [115, 101, 116] then (nameP ws t d).bind fun n t d => (ex t d).bind fun e t d => (shutP ws t d).bind fun _ t d => .ok (aCols 1 n e) t d
  else if s = [108, 111, 103] then (ex t d).bind fun e t d => (shutP ws t d).bind fun _ t d => .ok (aCols 2 [] e) t d
  else if s = [102, 97, 105, 108] then (ex t d).bind fun e t d => (shutP ws t d).bind fun _ t d => .ok (aCols 3 [] e) t d
  else if s = [115, 116, 111, 112] then (shutP ws t d).bind fun _ t d => .ok (aCols 4 [] eNone) t d
  else .bad t
def keyP (t d : Nat) : Rs (List (List T)) := if isDash ws t then .ok [] (t + 1) d else (ex t d).bind fun e t d => .ok [e] t d
def pairsOfP : List Str → Nat → Nat → Rs (List (List T))
  | [], t, d => .ok [] t d
  | s :: r, t, d => (ex t d).bind fun e t d => (pairsOfP r t d).bind fun l t d => .ok ((.sc (str s) :: e) :: l) t d
def elemP (k : Int) (t d : Nat) : Rs (List T) := (keyP ws ex t d).bind fun key t d =>
  if k = 1 ∨ k = 2 ∨ k = 3 then (nameP ws t d).bind fun s t d => (withinP ws (pairP ws ex) t d).bind fun l t d =>
    (allP ws ex FU t d).bind fun args t d => .ok (eCols 11 0 s args (l.map (·.take 1)) (l.map (·.drop 1)) k key [] []) t d
  else if k = 5 then (nameP ws t d).bind fun s t d => (allP ws ex FU t d).bind fun args t d => .ok (eCols 11 0 s args [] [] k key [] []) t d
  else if k = 6 then (nameP ws t d).bind fun s t d => (pairsOfP ex [[118, 97, 108, 117, 101]] t d).bind fun l t d =>
    (allP ws ex FU t d).bind fun args t d => .ok (eCols 11 0 s args (l.map (·.take 1)) (l.map (·.drop 1)) k key [] []) t d
  else if k = 7 then (pairsOfP ex [[97, 103, 97, 105, 110], [101, 108, 115, 101]] t d).bind fun l t d =>
    (allP ws ex FU t d).bind fun args t d => .ok (eCols 11 0 [] args (l.map (·.take 1)) (l.map (·.drop 1)) k key [] []) t d
  else if k = 8 then (pairsOfP ex [[101, 108, 115, 101]] t d).bind fun l t d =>
    (allP ws ex FU t d).bind fun args t d => .ok (eCols 11 0 [] args (l.map (·.take 1)) (l.map (·.drop 1)) k key [] []) t d
  else (allP ws ex FU t d).bind fun args t d => .ok (eCols 11 0 [] args [] [] k key [] []) t d
def siteS (d : Nat) : Str := c ++ 35 :: Lib.itoa d
def compoundP (s : Str) (t d : Nat) : Rs (List T) :=
  if s = [105, 102] then (timesP ex 3 t d).bind fun l t d => (shutP ws t d).bind fun _ t d => .ok (eCols 6 0 [] l [] [] 0 [] [] []) t d
  else if s = [101, 97, 99, 104] then (nameP ws t d).bind fun n t d => (timesP ex 2 t d).bind fun l t d => (shutP ws t d).bind fun _ t d => .ok (eCols 7 0 n l [] [] 0 [] [] []) t d
  else if s = [114, 101, 97, 100] then (timesP ex 1 t d).bind fun l t d => (shutP ws t d).bind fun _ t d => .ok (eCols 8 0 [] l [] [] 0 [] [] []) t d
  else if s = [116, 104, 114, 111, 119] then (timesP ex 1 t d).bind fun l t d => (shutP ws t d).bind fun _ t d => .ok (eCols 9 0 [] l [] [] 0 [] [] []) t d
  else if s = [114, 101, 99] then (allP ws (pairP ws ex) FU t d).bind fun l t d => .ok (eCols 10 0 [] [] (l.map (·.take 1)) (l.map (·.drop 1)) 0 [] [] []) t d
  else if s = [100, 111] then (allP ws (actP ws ex) FU t (d + 1)).bind fun l t d' => .ok (eCols 12 0 [] [] [] [] 0 [] l (siteS c d)) t d'
  else if s = [104, 111, 115, 116] then elemP ws ex 1 t d
  else if s = [110, 101, 119] then elemP ws ex 2 t d
  else if s = [112, 117, 114, 101] then elemP ws ex 3 t d
  else if s = [102, 114, 97, 103] then elemP ws ex 4 t d
  else if s = [112, 111, 114, 116, 97, 108] then elemP ws ex 5 t d
  else if s = [103, 105, 118, 101] then elemP ws ex 6 t d
  else if s = [103, 117, 97, 114, 100] then elemP ws ex 7 t d
  else if s = [119, 97, 105, 116] then elemP ws ex 8 t d
  else (allP ws ex FU t d).bind fun l t d => .ok (eCols 5 0 s l [] [] 0 [] [] []) t d
def exprOfP (w : LX.LW) (t d : Nat) : Rs (List T) :=
  if w.k = 2 then .ok (eCols 1 w.n [] [] [] [] 0 [] [] []) t d
  else if w.k = 3 then .ok (eCols 3 0 w.s [] [] [] 0 [] [] []) t d
  else if w.k = 1 then plainP w.s t d
  else if w.k = 4 then (nameP ws t d).bind fun s t d => compoundP ws c ex s t d
  else .bad t
end
def exprP : Nat → Nat → Nat → Rs (List T)
  | 0, t, _ => .bad (t + 1)
  | f + 1, t, d => match ws[t]? with
    | none => .bad (t + 1)
    | some w => exprOfP ws c (exprP f) w (t + 1) d
section
variable (ex st : Nat → Nat → Rs (List T))
def runsP (k : Int) (t d : Nat) : Rs (List T) := (withinP ws ex t d).bind fun deps t d => (withinP ws (actP ws ex) t d).bind fun acts t d => (withinP ws (actP ws ex) t d).bind fun undo t d =>
  (shutP ws t d).bind fun _ t d => .ok (sCols k [] [] eNone deps acts undo []) t d
def stmtOfP (s : Str) (t d : Nat) : Rs (List T) :=
  if s = [108, 101, 116] then (nameP ws t d).bind fun n t d => (ex t d).bind fun e t d => (shutP ws t d).bind fun _ t d => .ok (sCols 1 n [] e [] [] [] []) t d
  else if s = [115, 116, 97, 116, 101] then (nameP ws t d).bind fun n t d => (ex t d).bind fun e t d => (shutP ws t d).bind fun _ t d => .ok (sCols 2 n [] e [] [] [] []) t d
  else if s = [109, 101, 109, 111] then (nameP ws t d).bind fun n t d => (withinP ws ex t d).bind fun deps t d => (ex t d).bind fun e t d => (shutP ws t d).bind fun _ t d => .ok (sCols 3 n [] e deps [] [] []) t d
  else if s = [117, 115, 101] then (nameP ws t d).bind fun n t d => (nameP ws t d).bind fun m t d => (shutP ws t d).bind fun _ t d => .ok (sCols 4 n m eNone [] [] [] []) t d
  else if s = [108, 97, 121, 111, 117, 116] then runsP ws ex 5 t d
  else if s = [101, 102, 102, 101, 99, 116] then runsP ws ex 6 t d
  else if s = [119, 104, 101, 110] then (ex t d).bind fun e t d => (allP ws st FU t d).bind fun body t d => .ok (sCols 7 [] [] e [] [] [] body) t d
  else .bad t
end
def stmtP (ex : Nat → Nat → Rs (List T)) : Nat → Nat → Nat → Rs (List T)
  | 0, t, _ => .bad (t + 1)
  | f + 1, t, d => (openP ws t d).bind fun _ t d => (nameP ws t d).bind fun s t d => stmtOfP ws ex (stmtP ex f) s t d
def bodyP (ex : Nat → Nat → Rs (List T)) : Nat → Str → Nat → Nat → Rs (List (List T) × List T)
  | 0, _, t, _ => .bad (t + 1)
  | m + 1, s, t, d =>
    if s = [115, 104, 111, 119] then (ex t d).bind fun e t d => (shutP ws t d).bind fun _ t d => (shutP ws t d).bind fun _ t d => .ok ([], e) t d
    else (stmtOfP ws ex (stmtP ws ex FU) s t d).bind fun x t d => (openP ws t d).bind fun _ t d => (nameP ws t d).bind fun s t d => (bodyP ex m s t d).bind fun p t d => .ok (x :: p.1, p.2) t d
end
section
variable (ws : List LX.LW)
def componentP (t d : Nat) : Rs (List T) := (openP ws t d).bind fun _ t d => (nameP ws t d).bind fun s t d =>
  if s = [99, 111, 109, 112] then (nameP ws t d).bind fun name t d => (nameP ws t d).bind fun param t _ => (openP ws t 0).bind fun _ t d => (nameP ws t d).bind fun s t d =>
    (bodyP ws (exprP ws name FU) FU s t d).bind fun p t d => .ok (cCols name param p.1 p.2) t d
  else .bad t
def programP : Nat → Nat → Nat → Rs (List (List T))
  | 0, t, _ => .bad (t + 1)
  | m + 1, t, d => if t < ws.length then (componentP ws t d).bind fun x t d => (programP m t d).bind fun l t d => .ok (x :: l) t d else .ok [] t d
end
def parseP (ws : List LX.LW) : Nat ⊕ List (List T) := match programP (ws.map nol) FU 0 0 with
  | .ok l _ _ => .inr l
  | .bad t => .inl ((ws[min t ws.length - 1]?.map (·.line)).getD 0)
end Go.Proofs.YtedmmgfnplbkjaaGreatDoor.G
