/-
  Plain: the text of a value, byte by byte, as a function on the trees 'V'. No program is imported.
  Conditions: none.
-/
import Derived.Test.YtajmdhcknmmbbaaGreatDoorCheckP
import Derived.Lib.ItoaNum
namespace Go.Proofs.YtajmdhcknmmbbaaGreatDoor

/-- A byte within quotes. -/
def escB (b : UInt8) : List UInt8 := if b = 34 then [92, b] else if b = 92 then [92, b] else if b = 10 then [92, 110] else [b]

/-- A text in quotes, its bytes as a list. -/
def quotedL (l : List UInt8) : List UInt8 := 34 :: (l.flatMap escB ++ [34])

/-- n things one behind the other, a blank between two. -/
def sepTo : Nat → (Nat → List UInt8) → List UInt8
  | 0, _ => []
  | n + 1, f => sepTo n f ++ ((if 0 < n then [32] else []) ++ f n)

def listL (n : Nat) (f : Nat → List UInt8) : List UInt8 := 91 :: (sepTo n f ++ [93])
def recL (n : Nat) (fn : Nat → ByteArray) (f : Nat → List UInt8) : List UInt8 := 123 :: (sepTo n (fun i => quotedL (fn i).data.toList ++ (32 :: f i)) ++ [125])

/-- The word of a kind of elements. -/
def wordL (e : Int) : List UInt8 :=
  if e = 1 then [104, 111, 115, 116] else if e = 2 then [99, 111, 109, 112] else if e = 3 then [109, 101, 109, 111] else if e = 4 then [102, 114, 97, 103] else if e = 5 then [112, 111, 114, 116, 97, 108]
  else if e = 6 then [103, 105, 118, 101] else if e = 7 then [103, 117, 97, 114, 100] else if e = 8 then [119, 97, 105, 116] else []

/-- The value's text. -/
def V.told : V → List UInt8
  | .leaf => []
  | .mk k n s _ ll _ L _ fl _ fn F e key hk =>
    if k = 0 then [110, 111, 110, 101]
    else if k = 1 then Lib.itoa n
    else if k = 2 then (if n = 1 then [121, 101, 115] else [110, 111])
    else if k = 3 then quotedL s.data.toList
    else if k = 4 then listL ll (fun i => (L i).told)
    else if k = 5 then recL fl fn (fun i => (F i).told)
    else if k = 6 then 60 :: (wordL e ++ (32 :: (quotedL s.data.toList ++ ((if hk then [32, 107, 101, 121, 32] ++ quotedL key.data.toList else []) ++ (32 :: (recL fl fn (fun i => (F i).told) ++ (32 :: (listL ll (fun i => (L i).told) ++ [62]))))))))
    else if k = 7 then [60, 100, 101, 101, 100, 32] ++ (Lib.itoa n ++ (32 :: (quotedL s.data.toList ++ (32 :: (recL fl fn (fun i => (F i).told) ++ [62])))))
    else []
end Go.Proofs.YtajmdhcknmmbbaaGreatDoor
