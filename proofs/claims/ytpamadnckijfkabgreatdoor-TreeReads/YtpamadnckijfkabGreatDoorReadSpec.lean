/- Plain functions: what a line of tokens declares (P2.6), and what is wrong first. -/
import Derived.Test.YtpamadnckijfkabGreatDoorTree
namespace Go.Proofs.YtpamadnckijfkabGreatDoor
open Go.RowKit
set_option maxRecDepth 100000

abbrev Toks := List (Int × ByteArray)

inductive Res (α : Type) where
  | bad (e : Int)
  | ok (x : α) (j : Nat)

/-- is token i of kind k, with these bytes? -/
def tokB (l : Toks) (i : Nat) (k : Int) (s : List UInt8) : Bool := match l[i]? with
  | some t => t.1 == k && t.2.data.toList == s
  | none => false
def sgn (l : Toks) (i : Nat) (s : List UInt8) : Bool := tokB l i 4 s
def wrd (l : Toks) (i : Nat) (s : List UInt8) : Bool := tokB l i 1 s
/-- the text of token i, if it is of kind k. -/
def takeAt (l : Toks) (i : Nat) (k : Int) : Option ByteArray := match l[i]? with
  | some t => if t.1 = k then some t.2 else none
  | none => none
def identAt (l : Toks) (i : Nat) : Option ByteArray := match takeAt l i 1 with
  | some t => if identOk t = true then some t else none
  | none => none

def emptyText : ByteArray := ⟨#[]⟩

/-- a name, perhaps behind that of a module: that one, and it. -/
def nameAt (l : Toks) (i : Nat) : Res (ByteArray × ByteArray) := match identAt l i with
  | none => .bad 4
  | some n => if sgn l (i + 1) [46] = true then (match identAt l (i + 2) with
      | none => .bad 4
      | some m => .ok (n, m) (i + 3)) else .ok (emptyText, n) (i + 1)

/-- a type; f: so many may stand within one another from here on. -/
def pTy (l : Toks) : Nat → Nat → Res Ty
  | 0, _ => .bad 1
  | f + 1, i =>
    if wrd l i [105, 110, 116] = true then .ok (.mk 1 emptyText emptyText []) (i + 1)
    else if wrd l i [116, 101, 120, 116] = true then .ok (.mk 2 emptyText emptyText []) (i + 1)
    else if sgn l i [91] = true then (match pTy l f (i + 1) with
      | .bad e => .bad e
      | .ok t j => if sgn l j [93] = true then .ok (.mk 3 emptyText emptyText [t]) (j + 1) else .bad 4)
    else match nameAt l i with
      | .bad e => .bad e
      | .ok x j => .ok (.mk 4 x.1 x.2 []) j

def numVal (l : List UInt8) : Int := l.foldl (fun n c => 10 * n + ((c.toNat : Int) - 48)) 0
def exNum (t : ByteArray) : Ex := .mk 1 (numVal t.data.toList) emptyText emptyText []
def exQuote (t : ByteArray) : Ex := .mk 2 0 emptyText t []
def exParam (t : ByteArray) : Ex := .mk 3 0 emptyText t []
def exCall (o n : ByteArray) (l : List Ex) : Ex := .mk 4 0 o n l
def exSum (x y : Ex) : Ex := .mk 5 0 emptyText emptyText [x, y]
def exItems (l : List Ex) : Ex := .mk 6 0 emptyText emptyText l
def exAt (x y : Ex) : Ex := .mk 7 0 emptyText emptyText [x, y]

/-- things with commas between, up to a sign. -/
def pList {α : Type} (sub : Nat → Res α) (l : Toks) (fin : List UInt8) : Nat → List α → Nat → Res (List α)
  | 0, _, _ => .bad 99
  | n + 1, acc, i => match sub i with
    | .bad e => .bad e
    | .ok x j => if sgn l j [44] = true then pList sub l fin n (acc ++ [x]) (j + 1) else if sgn l j fin = true then .ok (acc ++ [x]) (j + 1) else .bad 4

def pCall (sub : Nat → Res Ex) (l : Toks) (i : Nat) : Res Ex := match nameAt l i with
  | .bad e => .bad e
  | .ok x j => if sgn l j [40] = true then (if sgn l (j + 1) [41] = true then .ok (exCall x.1 x.2 []) (j + 2) else match pList sub l [41] (l.length + 1) [] (j + 1) with
      | .bad e => .bad e
      | .ok xs j' => .ok (exCall x.1 x.2 xs) j') else if noneB x.1 = true then .ok (exParam x.2) j else .bad 4

def pHead (sub : Nat → Res Ex) (l : Toks) (i : Nat) : Res Ex :=
  if sgn l i [40] = true then (match sub (i + 1) with
    | .bad e => .bad e
    | .ok x j => if sgn l j [41] = true then .ok x (j + 1) else .bad 4)
  else if sgn l i [91] = true then (match pList sub l [93] (l.length + 1) [] (i + 1) with
    | .bad e => .bad e
    | .ok xs j => .ok (exItems xs) j)
  else match takeAt l i 2 with
    | some t => .ok (exNum t) (i + 1)
    | none => match takeAt l i 3 with
      | some t => .ok (exQuote t) (i + 1)
      | none => pCall sub l i

def pPlaces (sub : Nat → Res Ex) (l : Toks) : Nat → Ex → Nat → Res Ex
  | 0, _, _ => .bad 99
  | n + 1, x, i => if sgn l i [91] = true then (match sub (i + 1) with
      | .bad e => .bad e
      | .ok p j => if sgn l j [93] = true then pPlaces sub l n (exAt x p) (j + 1) else .bad 4) else .ok x i

def pTail (sub : Nat → Res Ex) (l : Toks) (i : Nat) : Res Ex := match pHead sub l i with
  | .bad e => .bad e
  | .ok x j => pPlaces sub l (l.length + 1) x j

def pSums (sub : Nat → Res Ex) (l : Toks) : Nat → Ex → Nat → Res Ex
  | 0, _, _ => .bad 99
  | n + 1, x, i => if sgn l i [43] = true then (match pTail sub l (i + 1) with
      | .bad e => .bad e
      | .ok y j => pSums sub l n (exSum x y) j) else .ok x i

/-- an expression; f as above. -/
def pEx (l : Toks) : Nat → Nat → Res Ex
  | 0, _ => .bad 1
  | f + 1, i => match pTail (pEx l f) l i with
    | .bad e => .bad e
    | .ok x j => pSums (pEx l f) l (l.length + 1) x j

/-- a name, a sign, a type. -/
def pNamed (l : Toks) (s : List UInt8) (i : Nat) : Res Fd := match identAt l i with
  | none => .bad 4
  | some n => if sgn l (i + 1) s = true then (match pTy l 40 (i + 2) with
      | .bad e => .bad e
      | .ok t j => .ok ⟨n, t⟩ j) else .bad 4

def pVar (l : Toks) (i : Nat) : Res ByteArray := if sgn l i [60] = true then (match identAt l (i + 1) with
    | none => .bad 4
    | some v => if sgn l (i + 2) [62] = true then .ok v (i + 3) else .bad 4) else .ok emptyText i

def pParams (l : Toks) (i : Nat) : Res (List Fd) := if sgn l i [41] = true then .ok [] (i + 1) else pList (pNamed l [58]) l [41] (l.length + 1) [] i

def pFun (l : Toks) (i : Nat) : Res Fu := match identAt l i with
  | none => .bad 4
  | some n => match pVar l (i + 1) with
    | .bad e => .bad e
    | .ok v j => if sgn l j [40] = true then (match pParams l (j + 1) with
      | .bad e => .bad e
      | .ok ps j => if sgn l j [58] = true then (match pTy l 40 (j + 1) with
        | .bad e => .bad e
        | .ok t j => if sgn l j [61] = true then (match pEx l 40 (j + 1) with
          | .bad e => .bad e
          | .ok x j => .ok ⟨n, v, ps, t, x⟩ j) else .bad 4) else .bad 4) else .bad 4

inductive Line where
  | none
  | use (n : ByteArray)
  | typ (f : Fd)
  | fn (f : Fu)

/-- what a line of tokens declares. -/
def pLine (l : Toks) : Except Int Line :=
  let fin (j : Nat) (x : Line) : Except Int Line := if l.length ≤ j then .ok x else .error 4
  if l.length = 0 then .ok .none
  else if wrd l 0 [117, 115, 101] = true then (match identAt l 1 with
    | .none => .error 4
    | .some n => fin 2 (.use n))
  else if wrd l 0 [116, 121, 112, 101] = true then (match pNamed l [61] 1 with
    | .bad e => .error e
    | .ok f j => fin j (.typ f))
  else if wrd l 0 [102, 117, 110, 99] = true then (match pFun l 1 with
    | .bad e => .error e
    | .ok f j => fin j (.fn f))
  else .error 4

def putLine (m : Mo) : Line → Mo
  | .none => m
  | .use n => { m with uses := m.uses ++ [n] }
  | .typ f => { m with types := m.types ++ [f] }
  | .fn f => { m with funcs := m.funcs ++ [f] }

end Go.Proofs.YtpamadnckijfkabGreatDoor
