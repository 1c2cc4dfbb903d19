/- Plain functions: what a line of tokens declares (P2.6), and what is wrong first. -/
import Derived.Test.YtieoddnaknpmlabGreatDoorJA
import Derived.WalkSpells
import Derived.Lib.Bytealg
namespace Go.Proofs.YtieoddnaknpmlabGreatDoor
open Go.RowKit
set_option maxRecDepth 100000

abbrev Toks := List (Int × ByteArray)

inductive Res (α : Type) where
  | bad (e : Int)
  | ok (x : α) (j : Nat)

/-- is token i of kind k, with these bytes? -/
def tokB (l : Toks) (i : Nat) (k : Int) (s : List UInt8) : Bool := match l[i]? with
  | some t => t.1 == k && t.2.data.toList == s
  | none => false
def sgn (l : Toks) (i : Nat) (s : List UInt8) : Bool := tokB l i 4 s
def wrd (l : Toks) (i : Nat) (s : List UInt8) : Bool := tokB l i 1 s
/-- the text of token i, if it is of kind k. -/
def takeAt (l : Toks) (i : Nat) (k : Int) : Option ByteArray := match l[i]? with
  | some t => if t.1 = k then some t.2 else none
  | none => none
def identAt (l : Toks) (i : Nat) : Option ByteArray := match takeAt l i 1 with
  | some t => if identOk t = true then some t else none
  | none => none

def emptyText : ByteArray := ⟨#[]⟩

/-- a name, perhaps behind that of a module: that one, and it. -/
def nameAt (l : Toks) (i : Nat) : Res (ByteArray × ByteArray) := match identAt l i with
  | none => .bad 4
  | some n => if sgn l (i + 1) [46] = true then (match identAt l (i + 2) with
      | none => .bad 4
      | some m => .ok (n, m) (i + 3)) else .ok (emptyText, n) (i + 1)

/-- a type; f: so many may stand within one another from here on. -/
def pTy (l : Toks) : Nat → Nat → Res Ty
  | 0, _ => .bad 1
  | f + 1, i =>
    if wrd l i [105, 110, 116] = true then .ok (.mk 1 emptyText emptyText []) (i + 1)
    else if wrd l i [116, 101, 120, 116] = true then .ok (.mk 2 emptyText emptyText []) (i + 1)
    else if sgn l i [91] = true then (match pTy l f (i + 1) with
      | .bad e => .bad e
      | .ok t j => if sgn l j [93] = true then .ok (.mk 3 emptyText emptyText [t]) (j + 1) else .bad 4)
    else match nameAt l i with
      | .bad e => .bad e
      | .ok x j => .ok (.mk 4 x.1 x.2 []) j

def numVal (l : List UInt8) : Int := l.foldl (fun n c => 10 * n + ((c.toNat : Int) - 48)) 0
def exNum (t : ByteArray) : Ex := .mk 1 (numVal t.data.toList) emptyText emptyText []
def exQuote (t : ByteArray) : Ex := .mk 2 0 emptyText t []
def exParam (t : ByteArray) : Ex := .mk 3 0 emptyText t []
def exCall (o n : ByteArray) (l : List Ex) : Ex := .mk 4 0 o n l
def exSum (x y : Ex) : Ex := .mk 5 0 emptyText emptyText [x, y]
def exItems (l : List Ex) : Ex := .mk 6 0 emptyText emptyText l
def exAt (x y : Ex) : Ex := .mk 7 0 emptyText emptyText [x, y]

/-- things with commas between, up to a sign. -/
def pList {α : Type} (sub : Nat → Res α) (l : Toks) (fin : List UInt8) : Nat → List α → Nat → Res (List α)
  | 0, _, _ => .bad 99
  | n + 1, acc, i => match sub i with
    | .bad e => .bad e
    | .ok x j => if sgn l j [44] = true then pList sub l fin n (acc ++ [x]) (j + 1) else if sgn l j fin = true then .ok (acc ++ [x]) (j + 1) else .bad 4

def pCall (sub : Nat → Res Ex) (l : Toks) (i : Nat) : Res Ex := match nameAt l i with
  | .bad e => .bad e
  | .ok x j => if sgn l j [40] = true then (if sgn l (j + 1) [41] = true then .ok (exCall x.1 x.2 []) (j + 2) else match pList sub l [41] (l.length + 1) [] (j + 1) with
      | .bad e => .bad e
      | .ok xs j' => .ok (exCall x.1 x.2 xs) j') else if noneB x.1 = true then .ok (exParam x.2) j else .bad 4

def pHead (sub : Nat → Res Ex) (l : Toks) (i : Nat) : Res Ex :=
  if sgn l i [40] = true then (match sub (i + 1) with
    | .bad e => .bad e
    | .ok x j => if sgn l j [41] = true then .ok x (j + 1) else .bad 4)
  else if sgn l i [91] = true then (match pList sub l [93] (l.length + 1) [] (i + 1) with
    | .bad e => .bad e
    | .ok xs j => .ok (exItems xs) j)
  else match takeAt l i 2 with
    | some t => .ok (exNum t) (i + 1)
    | none => match takeAt l i 3 with
      | some t => .ok (exQuote t) (i + 1)
      | none => pCall sub l i

def pPlaces (sub : Nat → Res Ex) (l : Toks) : Nat → Ex → Nat → Res Ex
  | 0, _, _ => .bad 99
  | n + 1, x, i => if sgn l i [91] = true then (match sub (i + 1) with
      | .bad e => .bad e
      | .ok p j => if sgn l j [93] = true then pPlaces sub l n (exAt x p) (j + 1) else .bad 4) else .ok x i

def pTail (sub : Nat → Res Ex) (l : Toks) (i : Nat) : Res Ex := match pHead sub l i with
  | .bad e => .bad e
  | .ok x j => pPlaces sub l (l.length + 1) x j

def pSums (sub : Nat → Res Ex) (l : Toks) : Nat → Ex → Nat → Res Ex
  | 0, _, _ => .bad 99
  | n + 1, x, i => if sgn l i [43] = true then (match pTail sub l (i + 1) with
      | .bad e => .bad e
      | .ok y j => pSums sub l n (exSum x y) j) else .ok x i

/-- an expression; f as above. -/
def pEx (l : Toks) : Nat → Nat → Res Ex
  | 0, _ => .bad 1
  | f + 1, i => match pTail (pEx l f) l i with
    | .bad e => .bad e
    | .ok x j => pSums (pEx l f) l (l.length + 1) x j

/-- a name, a sign, a type. -/
def pNamed (l : Toks) (s : List UInt8) (i : Nat) : Res Fd := match identAt l i with
  | none => .bad 4
  | some n => if sgn l (i + 1) s = true then (match pTy l 40 (i + 2) with
      | .bad e => .bad e
      | .ok t j => .ok ⟨n, t⟩ j) else .bad 4

def pVar (l : Toks) (i : Nat) : Res ByteArray := if sgn l i [60] = true then (match identAt l (i + 1) with
    | none => .bad 4
    | some v => if sgn l (i + 2) [62] = true then .ok v (i + 3) else .bad 4) else .ok emptyText i

def pParams (l : Toks) (i : Nat) : Res (List Fd) := if sgn l i [41] = true then .ok [] (i + 1) else pList (pNamed l [58]) l [41] (l.length + 1) [] i

def pFun (l : Toks) (i : Nat) : Res Fu := match identAt l i with
  | none => .bad 4
  | some n => match pVar l (i + 1) with
    | .bad e => .bad e
    | .ok v j => if sgn l j [40] = true then (match pParams l (j + 1) with
      | .bad e => .bad e
      | .ok ps j => if sgn l j [58] = true then (match pTy l 40 (j + 1) with
        | .bad e => .bad e
        | .ok t j => if sgn l j [61] = true then (match pEx l 40 (j + 1) with
          | .bad e => .bad e
          | .ok x j => .ok ⟨n, v, ps, t, x⟩ j) else .bad 4) else .bad 4) else .bad 4

inductive Line where
  | none
  | use (n : ByteArray)
  | typ (f : Fd)
  | fn (f : Fu)

/-- what a line of tokens declares. -/
def pLine (l : Toks) : Except Int Line :=
  let fin (j : Nat) (x : Line) : Except Int Line := if l.length ≤ j then .ok x else .error 4
  if l.length = 0 then .ok .none
  else if wrd l 0 [117, 115, 101] = true then (match identAt l 1 with
    | .none => .error 4
    | .some n => fin 2 (.use n))
  else if wrd l 0 [116, 121, 112, 101] = true then (match pNamed l [61] 1 with
    | .bad e => .error e
    | .ok f j => fin j (.typ f))
  else if wrd l 0 [102, 117, 110, 99] = true then (match pFun l 1 with
    | .bad e => .error e
    | .ok f j => fin j (.fn f))
  else .error 4

def putLine (m : Mo) : Line → Mo
  | .none => m
  | .use n => { m with uses := m.uses ++ [n] }
  | .typ f => { m with types := m.types ++ [f] }
  | .fn f => { m with funcs := m.funcs ++ [f] }

end Go.Proofs.YtieoddnaknpmlabGreatDoor

/- What is read lies ahead: plain facts on where the readings end. -/
namespace Go.Proofs.YtieoddnaknpmlabGreatDoor
open Go.RowKit
set_option maxRecDepth 100000

theorem nameAt_adv {l : Toks} {i j : Nat} {x : ByteArray × ByteArray} (h : nameAt l i = .ok x j) : i ≤ j := by
  unfold nameAt at h
  split at h
  · cases h
  · split at h
    · split at h
      · cases h
      · injection h with _ h; omega
    · injection h with _ h; omega

theorem pList_adv {α : Type} {sub : Nat → Res α} {l : Toks} {fin : List UInt8} (hs : ∀ i x j, sub i = .ok x j → i ≤ j) : ∀ (n : Nat) (acc : List α) (i j : Nat) (r : List α), pList sub l fin n acc i = .ok r j → i ≤ j
  | 0, _, _, _, _, h => by rw [pList] at h; cases h
  | n + 1, acc, i, j, r, h => by
    rw [pList] at h
    split at h
    · cases h
    · rename_i x k hk
      have := hs i x k hk
      split at h
      · have := pList_adv hs n _ _ _ _ h
        omega
      · split at h
        · injection h with _ h; omega
        · cases h

theorem pCall_adv {sub : Nat → Res Ex} {l : Toks} (hs : ∀ i x j, sub i = .ok x j → i ≤ j) {i j : Nat} {x : Ex} (h : pCall sub l i = .ok x j) : i ≤ j := by
  unfold pCall at h
  split at h
  · cases h
  · rename_i y k hk
    have := nameAt_adv hk
    split at h
    · split at h
      · injection h with _ h; omega
      · split at h
        · cases h
        · rename_i hl
          have := pList_adv hs _ _ _ _ _ hl
          injection h with _ h; omega
    · split at h
      · injection h with _ h; omega
      · cases h

theorem pHead_adv {sub : Nat → Res Ex} {l : Toks} (hs : ∀ i x j, sub i = .ok x j → i ≤ j) {i j : Nat} {x : Ex} (h : pHead sub l i = .ok x j) : i ≤ j := by
  unfold pHead at h
  split at h
  · split at h
    · cases h
    · rename_i hk
      have := hs _ _ _ hk
      split at h
      · injection h with _ h; omega
      · cases h
  · split at h
    · split at h
      · cases h
      · rename_i hl
        have := pList_adv hs _ _ _ _ _ hl
        injection h with _ h; omega
    · split at h
      · injection h with _ h; omega
      · split at h
        · injection h with _ h; omega
        · exact pCall_adv hs h

theorem pPlaces_adv {sub : Nat → Res Ex} {l : Toks} (hs : ∀ i x j, sub i = .ok x j → i ≤ j) : ∀ (n : Nat) (x y : Ex) (i j : Nat), pPlaces sub l n x i = .ok y j → i ≤ j
  | 0, _, _, _, _, h => by rw [pPlaces] at h; cases h
  | n + 1, x, y, i, j, h => by
    rw [pPlaces] at h
    split at h
    · split at h
      · cases h
      · rename_i hk
        have := hs _ _ _ hk
        split at h
        · have := pPlaces_adv hs n _ _ _ _ h
          omega
        · cases h
    · injection h with _ h; omega

theorem pTail_adv {sub : Nat → Res Ex} {l : Toks} (hs : ∀ i x j, sub i = .ok x j → i ≤ j) {i j : Nat} {x : Ex} (h : pTail sub l i = .ok x j) : i ≤ j := by
  unfold pTail at h
  split at h
  · cases h
  · rename_i hk
    have := pHead_adv hs hk
    have := pPlaces_adv hs _ _ _ _ _ h
    omega

theorem pSums_adv {sub : Nat → Res Ex} {l : Toks} (hs : ∀ i x j, sub i = .ok x j → i ≤ j) : ∀ (n : Nat) (x y : Ex) (i j : Nat), pSums sub l n x i = .ok y j → i ≤ j
  | 0, _, _, _, _, h => by rw [pSums] at h; cases h
  | n + 1, x, y, i, j, h => by
    rw [pSums] at h
    split at h
    · split at h
      · cases h
      · rename_i hk
        have := pTail_adv hs hk
        have := pSums_adv hs n _ _ _ _ h
        omega
    · injection h with _ h; omega

theorem pEx_adv {l : Toks} : ∀ (f i : Nat) (x : Ex) (j : Nat), pEx l f i = .ok x j → i ≤ j
  | 0, _, _, _, h => by rw [pEx] at h; cases h
  | f + 1, i, x, j, h => by
    rw [pEx] at h
    split at h
    · cases h
    · rename_i hk
      have := pTail_adv (fun i x j => pEx_adv f i x j) hk
      have := pSums_adv (fun i x j => pEx_adv f i x j) _ _ _ _ _ h
      omega

theorem sgn_lt {l : Toks} {i : Nat} {s : List UInt8} (h : sgn l i s = true) : i < l.length := by
  unfold sgn tokB at h
  split at h
  · rename_i hk
    exact (List.getElem?_eq_some_iff.1 hk).1
  · cases h

end Go.Proofs.YtieoddnaknpmlabGreatDoor

/- What tree.Ident, tree.emptyOrIdent and the reference's NameMay answer, at every text: whether it is a word and none of the five. -/
namespace Go.Proofs.YtieoddnaknpmlabGreatDoor
open Go.RowKit
set_option maxRecDepth 100000

theorem text_eq (s : ByteArray) (l : List UInt8) : (s.toList == l) = (s.data.toList == l) := by
  rw [Lib.toList_data]

theorem kw_parts (s : ByteArray) : kwB s = ((s.toList == [117, 115, 101]) || ((s.toList == [116, 121, 112, 101]) || ((s.toList == [102, 117, 110, 99]) || ((s.toList == [105, 110, 116]) || (s.toList == [116, 101, 120, 116]))))) := by
  rw [text_eq s [117, 115, 101], text_eq s [116, 121, 112, 101], text_eq s [102, 117, 110, 99], text_eq s [105, 110, 116], text_eq s [116, 101, 120, 116]]
  rfl

set_option maxHeartbeats 1000000 in
theorem ident_any (s : ByteArray) (hs : s.size ≤ maxLen) (w : World) : Calls Tryz.prog 76 #[.string s] w fun e w' => e = .returned (.bool (identOk s)) ∧ Below w.heap.size w w' := by
  have HK := veil (kw_parts s)
  have HI : Hid (identOk s = (wordOk s && !kwB s)) := rfl
  have stop : ∀ b, kwB s = true → Ending.returned (Value.bool false) = Ending.returned (.bool (identOk s)) ∧ Below b w w := fun b h => ⟨by rw [HI.out, h]; simp, Below.refl _ _⟩
  have HS := veil stop
  clear stop
  cases h1 : (s.toList == [117, 115, 101])
  case true =>
    have HT : Hid (kwB s = true) := by show _ = _; rw [HK.out, h1]; rfl
    go_enter Tryz.func76, Tryz.ntmps76
    go_wp2_with fail
    go_ret
    exact HS.out _ HT.out
  cases h2 : (s.toList == [116, 121, 112, 101])
  case true =>
    have HT : Hid (kwB s = true) := by show _ = _; rw [HK.out, h1, h2]; rfl
    go_enter Tryz.func76, Tryz.ntmps76
    go_wp2_with fail
    go_ret
    exact HS.out _ HT.out
  cases h3 : (s.toList == [102, 117, 110, 99])
  case true =>
    have HT : Hid (kwB s = true) := by show _ = _; rw [HK.out, h1, h2, h3]; rfl
    go_enter Tryz.func76, Tryz.ntmps76
    go_wp2_with fail
    go_ret
    exact HS.out _ HT.out
  cases h4 : (s.toList == [105, 110, 116])
  case true =>
    have HT : Hid (kwB s = true) := by show _ = _; rw [HK.out, h1, h2, h3, h4]; rfl
    go_enter Tryz.func76, Tryz.ntmps76
    go_wp2_with fail
    go_ret
    exact HS.out _ HT.out
  cases h5 : (s.toList == [116, 101, 120, 116])
  case true =>
    have HT : Hid (kwB s = true) := by show _ = _; rw [HK.out, h1, h2, h3, h4, h5]; rfl
    go_enter Tryz.func76, Tryz.ntmps76
    go_wp2_with fail
    go_ret
    exact HS.out _ HT.out
  have HT : Hid (kwB s = false) := by show _ = _; rw [HK.out, h1, h2, h3, h4, h5]; rfl
  go_enter Tryz.func76, Tryz.ntmps76
  go_wp2_with fail
  refine (word_any s hs _).mono ?_
  rintro e w' ⟨rfl, hb⟩
  go_wp2
  go_ret
  exact ⟨by rw [HI.out, HT.out]; simp, hb⟩

set_option maxHeartbeats 1000000 in
theorem nameMay_any (s : ByteArray) (hs : s.size ≤ maxLen) (w : World) : Calls Tryz.prog 51 #[.string s] w fun e w' => e = .returned (.bool (identOk s)) ∧ w = w' := by
  have HK := veil (kw_parts s)
  have HI : Hid (identOk s = (wordOk s && !kwB s)) := rfl
  cases h0 : wordOk s
  case false =>
    have HF : Hid (identOk s = false) := by show _ = _; rw [HI.out, h0]; rfl
    go_enter Tryz.func51, Tryz.ntmps51
    go_wp2_with fail
    refine (wordMay_any s hs _).mono ?_
    rintro e w' ⟨rfl, rfl⟩
    rw [h0]
    go_wp2
    go_ret
    exact ⟨by rw [HF.out]; rfl, rfl⟩
  cases h1 : (s.toList == [117, 115, 101]) <;> cases h2 : (s.toList == [116, 121, 112, 101]) <;> cases h3 : (s.toList == [102, 117, 110, 99]) <;>
    cases h4 : (s.toList == [105, 110, 116]) <;> cases h5 : (s.toList == [116, 101, 120, 116])
  all_goals
    have HF : Hid (identOk s = _) := HI.out.trans (by rw [h0, HK.out, h1, h2, h3, h4, h5])
    go_enter Tryz.func51, Tryz.ntmps51
    go_wp2_with fail
    refine (wordMay_any s hs _).mono ?_
    rintro e w' ⟨rfl, rfl⟩
    rw [h0]
    go_wp2
    go_ret
    exact ⟨by rw [HF.out]; rfl, rfl⟩

end Go.Proofs.YtieoddnaknpmlabGreatDoor

/- What tree.emptyOrIdent, typeFits, namesFit and countFits answer, at every type and expression: plain functions of their fields. -/
namespace Go.Proofs.YtieoddnaknpmlabGreatDoor
open Go.RowKit
set_option maxRecDepth 100000

theorem len_eq (a b : Nat) : ((a : Int) == (b : Int)) = (a == b) := by
  rw [Bool.eq_iff_iff, beq_iff_eq, beq_iff_eq]; omega

theorem emptyOrIdent_any (s : ByteArray) (hs : s.size ≤ maxLen) (w : World) : Calls Tryz.prog 78 #[.string s] w fun e w' => e = .returned (.bool (noneOrIdent s)) ∧ Below w.heap.size w w' := by
  have HN : Hid (noneOrIdent s = ((s.toList == []) || identOk s)) := by show _ = _; rw [text_eq]; rfl
  cases h : (s.toList == [])
  · rw [h] at HN
    go_enter Tryz.func78, Tryz.ntmps78
    go_wp2_with fail
    refine (ident_any s hs _).mono ?_
    rintro e w' ⟨rfl, hb⟩
    go_wp2
    go_ret
    exact ⟨by rw [HN.out]; rfl, hb⟩
  · rw [h] at HN
    go_enter Tryz.func78, Tryz.ntmps78
    go_wp2_with fail
    go_ret
    exact ⟨by rw [HN.out]; rfl, Below.refl _ _⟩

set_option maxHeartbeats 1000000 in
theorem typeFits_any (k : Int) (f n : ByteArray) (a : Option Addr) (c cap : Nat) (hf : f.size ≤ maxLen) (hn : n.size ≤ maxLen) (w : World) :
    Calls Tryz.prog 113 #[.agg #[.int .i64 k, .string f, .string n, .slice a c cap]] w fun e w' => e = .returned (.bool (tyFits k f n c)) ∧ Below w.heap.size w w' := by
  have HB : Hid (Below w.heap.size w (w.alloc (.cells #[.int .i64 k, .string f, .string n, .slice a c cap] 49))) := (Below.refl _ _).alloc (Nat.le_refl _) _
  have HNN := veil (text_eq n [])
  have HNF := veil (text_eq f [])
  have H1 := veil (len_eq c 1)
  have H0 := veil (len_eq c 0)
  by_cases h3 : k = 3
  · subst h3
    have HT : Hid (tyFits 3 f n c = (((c : Int) == 1) && ((n.toList == []) && (f.toList == [])))) := by show _ = _; rw [HNN.out, HNF.out]; exact congrArg (· && _) H1.out.symm
    cases hc1 : ((c : Int) == 1) <;> cases hn1 : (n.toList == []) <;> cases hf1 : (f.toList == [])
    all_goals
      rw [hc1, hn1, hf1] at HT
      go_enter Tryz.func113, Tryz.ntmps113
      go_wp2_with fail
      go_ret
      exact ⟨by rw [HT.out]; rfl, HB.out⟩
  have h3' : (k == 3) = false := beq_eq_false_iff_ne.2 h3
  by_cases h4 : k = 4
  · subst h4
    have HR : Hid (tyFits 4 f n c = (((c : Int) == 0) && (identOk n && noneOrIdent f))) := by show _ = _; exact congrArg (· && _) H0.out.symm
    cases hc0 : ((c : Int) == 0)
    · rw [hc0] at HR
      go_enter Tryz.func113, Tryz.ntmps113
      go_wp2_with fail
      go_ret
      exact ⟨by rw [HR.out]; rfl, HB.out⟩
    · rw [hc0] at HR
      cases hi : identOk n
      · rw [hi] at HR
        go_enter Tryz.func113, Tryz.ntmps113
        go_wp2_with fail
        refine (ident_any n hn _).mono ?_
        rintro e w' ⟨rfl, hb⟩
        rw [hi]
        go_wp2
        go_ret
        exact ⟨by rw [HR.out]; rfl, HB.out.trans (hb.mono (by simp))⟩
      · rw [hi] at HR
        go_enter Tryz.func113, Tryz.ntmps113
        go_wp2_with fail
        refine (ident_any n hn _).mono ?_
        rintro e w1 ⟨rfl, hb⟩
        rw [hi]
        have c1 : w1.cell? ⟨w.heap.size, 1, none⟩ = some (.string f) := (hb.cell (by simp)).trans (World.cell?_alloc_at _ _ _ _ rfl)
        have HB1 := veil (HB.out.trans (hb.mono (by simp)))
        clear hb
        go_wp2_with fail
        refine (emptyOrIdent_any f hf _).mono ?_
        rintro e w2 ⟨rfl, hb2⟩
        go_wp2
        go_ret
        exact ⟨by rw [HR.out]; rfl, HB1.out.trans (hb2.mono HB1.out.size)⟩
  · have h4' : (k == 4) = false := beq_eq_false_iff_ne.2 h4
    have HT : Hid (tyFits k f n c = (((c : Int) == 0) && ((n.toList == []) && (f.toList == [])))) := by show _ = _; unfold tyFits; rw [if_neg h3, if_neg h4, HNN.out, HNF.out]; exact congrArg (· && _) H0.out.symm
    clear h3 h4
    cases hc0 : ((c : Int) == 0) <;> cases hn1 : (n.toList == []) <;> cases hf1 : (f.toList == [])
    all_goals
      rw [hc0, hn1, hf1] at HT
      go_enter Tryz.func113, Tryz.ntmps113
      go_wp2_with fail
      go_ret
      exact ⟨by rw [HT.out]; rfl, HB.out⟩

set_option maxHeartbeats 1000000 in
theorem namesFit_any (k m : Int) (f s : ByteArray) (v : Value) (hf : f.size ≤ maxLen) (hs : s.size ≤ maxLen) (w : World) :
    Calls Tryz.prog 116 #[.agg #[.int .i64 k, .int .i64 m, .string f, .string s, v]] w fun e w' => e = .returned (.bool (namesFit k f s)) ∧ Below w.heap.size w w' := by
  have HB : Hid (Below w.heap.size w (w.alloc (.cells #[.int .i64 k, .int .i64 m, .string f, .string s, v] 52))) := (Below.refl _ _).alloc (Nat.le_refl _) _
  have HNS := veil (text_eq s [])
  have HNF := veil (text_eq f [])
  by_cases h2 : k = 2
  · subst h2
    have HT : Hid (namesFit 2 f s = (quoteOk s && (f.toList == []))) := by show _ = _; rw [HNF.out]; rfl
    cases hq : quoteOk s
    · rw [hq] at HT
      go_enter Tryz.func116, Tryz.ntmps116
      go_wp2_with fail
      refine (quotable_any s hs _).mono ?_
      rintro e w' ⟨rfl, hb⟩
      rw [hq]
      go_wp2
      go_ret
      exact ⟨by rw [HT.out]; rfl, HB.out.trans (hb.mono (by simp))⟩
    · cases hf1 : (f.toList == [])
      all_goals
        rw [hq, hf1] at HT
        go_enter Tryz.func116, Tryz.ntmps116
        go_wp2_with fail
        refine (quotable_any s hs _).mono ?_
        rintro e w1 ⟨rfl, hb⟩
        rw [hq]
        have c1 : w1.cell? ⟨w.heap.size, 2, none⟩ = some (.string f) := (hb.cell (by simp)).trans (World.cell?_alloc_at _ _ _ _ rfl)
        have HB1 := veil (HB.out.trans (hb.mono (by simp)))
        clear hb
        go_wp2
        go_ret
        exact ⟨by rw [HT.out]; rfl, HB1.out⟩
  have h2' : (k == 2) = false := beq_eq_false_iff_ne.2 h2
  by_cases h3 : k = 3
  · subst h3
    have HT : Hid (namesFit 3 f s = (identOk s && (f.toList == []))) := by show _ = _; rw [HNF.out]; rfl
    cases hq : identOk s
    · rw [hq] at HT
      go_enter Tryz.func116, Tryz.ntmps116
      go_wp2_with fail
      refine (ident_any s hs _).mono ?_
      rintro e w' ⟨rfl, hb⟩
      rw [hq]
      go_wp2
      go_ret
      exact ⟨by rw [HT.out]; rfl, HB.out.trans (hb.mono (by simp))⟩
    · cases hf1 : (f.toList == [])
      all_goals
        rw [hq, hf1] at HT
        go_enter Tryz.func116, Tryz.ntmps116
        go_wp2_with fail
        refine (ident_any s hs _).mono ?_
        rintro e w1 ⟨rfl, hb⟩
        rw [hq]
        have c1 : w1.cell? ⟨w.heap.size, 2, none⟩ = some (.string f) := (hb.cell (by simp)).trans (World.cell?_alloc_at _ _ _ _ rfl)
        have HB1 := veil (HB.out.trans (hb.mono (by simp)))
        clear hb
        go_wp2
        go_ret
        exact ⟨by rw [HT.out]; rfl, HB1.out⟩
  have h3' : (k == 3) = false := beq_eq_false_iff_ne.2 h3
  by_cases h4 : k = 4
  · subst h4
    have HT : Hid (namesFit 4 f s = (identOk s && noneOrIdent f)) := rfl
    cases hq : identOk s
    · rw [hq] at HT
      go_enter Tryz.func116, Tryz.ntmps116
      go_wp2_with fail
      refine (ident_any s hs _).mono ?_
      rintro e w' ⟨rfl, hb⟩
      rw [hq]
      go_wp2
      go_ret
      exact ⟨by rw [HT.out]; rfl, HB.out.trans (hb.mono (by simp))⟩
    · rw [hq] at HT
      go_enter Tryz.func116, Tryz.ntmps116
      go_wp2_with fail
      refine (ident_any s hs _).mono ?_
      rintro e w1 ⟨rfl, hb⟩
      rw [hq]
      have c1 : w1.cell? ⟨w.heap.size, 2, none⟩ = some (.string f) := (hb.cell (by simp)).trans (World.cell?_alloc_at _ _ _ _ rfl)
      have HB1 := veil (HB.out.trans (hb.mono (by simp)))
      clear hb
      go_wp2_with fail
      refine (emptyOrIdent_any f hf _).mono ?_
      rintro e w2 ⟨rfl, hb2⟩
      go_wp2
      go_ret
      exact ⟨by rw [HT.out]; rfl, HB1.out.trans (hb2.mono HB1.out.size)⟩
  · have h4' : (k == 4) = false := beq_eq_false_iff_ne.2 h4
    have HT : Hid (namesFit k f s = ((s.toList == []) && (f.toList == []))) := by show _ = _; unfold namesFit; rw [if_neg h2, if_neg h3, if_neg h4, HNS.out, HNF.out]; rfl
    clear h2 h3 h4
    cases hn1 : (s.toList == []) <;> cases hf1 : (f.toList == [])
    all_goals
      rw [hn1, hf1] at HT
      go_enter Tryz.func116, Tryz.ntmps116
      go_wp2_with fail
      go_ret
      exact ⟨by rw [HT.out]; rfl, HB.out⟩

set_option maxHeartbeats 1000000 in
theorem countFits_any (k m : Int) (f s : ByteArray) (a : Option Addr) (c cap : Nat) (w : World) :
    Calls Tryz.prog 117 #[.agg #[.int .i64 k, .int .i64 m, .string f, .string s, .slice a c cap]] w fun e w' => e = .returned (.bool (countFits k c)) ∧ Below w.heap.size w w' := by
  have HB : Hid (Below w.heap.size w (w.alloc (.cells #[.int .i64 k, .int .i64 m, .string f, .string s, .slice a c cap] 52))) := (Below.refl _ _).alloc (Nat.le_refl _) _
  by_cases h4 : k = 4
  · subst h4
    have HT : Hid (countFits 4 c = true) := rfl
    go_enter Tryz.func117, Tryz.ntmps117
    go_wp2_with fail
    go_ret
    exact ⟨by rw [HT.out]; rfl, HB.out⟩
  have h4' : (k == 4) = false := beq_eq_false_iff_ne.2 h4
  by_cases h6 : k = 6
  · subst h6
    have HT : Hid (countFits 6 c = decide (0 < c)) := rfl
    by_cases h0 : 0 < c
    · have h0' : (0 : Int) < (c : Int) := by omega
      rw [show decide (0 < c) = true from decide_eq_true h0] at HT
      go_enter Tryz.func117, Tryz.ntmps117
      go_wp2_with fail
      go_ret
      exact ⟨by rw [HT.out]; simp [*], HB.out⟩
    · have h0' : ¬ (0 : Int) < (c : Int) := by omega
      rw [show decide (0 < c) = false from decide_eq_false h0] at HT
      go_enter Tryz.func117, Tryz.ntmps117
      go_wp2_with fail
      go_ret
      exact ⟨by rw [HT.out]; simp [*], HB.out⟩
  have h6' : (k == 6) = false := beq_eq_false_iff_ne.2 h6
  by_cases h5 : k = 5
  · subst h5
    have HT : Hid (countFits 5 c = ((c : Int) == 2)) := (len_eq c 2).symm
    go_enter Tryz.func117, Tryz.ntmps117
    go_wp2_with fail
    go_ret
    exact ⟨by rw [HT.out]; rfl, HB.out⟩
  have h5' : (k == 5) = false := beq_eq_false_iff_ne.2 h5
  by_cases h7 : k = 7
  · subst h7
    have HT : Hid (countFits 7 c = ((c : Int) == 2)) := (len_eq c 2).symm
    go_enter Tryz.func117, Tryz.ntmps117
    go_wp2_with fail
    go_ret
    exact ⟨by rw [HT.out]; rfl, HB.out⟩
  have h7' : (k == 7) = false := beq_eq_false_iff_ne.2 h7
  have HT : Hid (countFits k c = ((c : Int) == 0)) := by show _ = _; unfold countFits; rw [if_neg h4, if_neg h6, if_neg (by omega)]; exact (len_eq c 0).symm
  clear h4 h5 h6 h7
  go_enter Tryz.func117, Tryz.ntmps117
  go_wp2_with fail
  go_ret
  exact ⟨by rw [HT.out]; rfl, HB.out⟩

end Go.Proofs.YtieoddnaknpmlabGreatDoor

/- What the five forms of tree.first answer, at every list and at every function value that answers f: the first of f that is not 0. -/
namespace Go.Proofs.YtieoddnaknpmlabGreatDoor
open Go.RowKit
set_option maxRecDepth 100000

def StrIs (s : ByteArray) (v : Value) : Prop := v = .string s ∧ s.size ≤ maxLen

set_option maxHeartbeats 2000000 in
theorem first_ty (g : Nat) (lb : Array Value) (eg : ∀ args w, (callFunc g args).run Tryz.prog w = .ok (.enter g args) w) (f : Ty → Int) (S : Nat → Prop) (l : List Ty) (v : Value) (w : World) (hS : ∀ b, S b → b < w.heap.size) (hl : SlAt S (TyAt S w) 4 l v)
    (hg : ∀ t ∈ l, ∀ (W : World) (u : Value), Below w.heap.size w W → TyIs S W t u → Calls Tryz.prog g (#[u] ++ lb) W fun e w' => e = .returned (.int .i64 (f t)) ∧ Below W.heap.size W w') :
    Calls Tryz.prog 114 #[v, .func (.func g) #[] lb] w fun e w' => e = .returned (.int .i64 (firstBad f l)) ∧ Below w.heap.size w w' := by
  obtain ⟨a, cap, rfl, ⟨hlen, hlenC⟩, hrow⟩ := hl
  unfold maxLen at hlen
  have HG := veil hg
  clear hg
  rcases hrow with h0 | ⟨b, off, rfl, hb, hrow⟩
  · have hnil : l = [] := List.eq_nil_of_length_eq_zero h0
    subst hnil
    clear HG eg
    go_enter Tryz.func114, Tryz.ntmps114
    go_wp2
    refine wp_loop_rounds 1 ?_
    rw [rounds_succ]
    go_wp2
    go_ret
    exact ⟨rfl, Below.refl _ _⟩
  have hbw := hS b hb
  have HR := veil hrow
  clear hrow
  go_enter Tryz.func114, Tryz.ntmps114
  go_wp2
  go_loopw [10] (fun i wr => ∃ k : Nat, k ≤ l.length ∧ i = .int .i64 k ∧ (∀ j (hj : j < l.length), j < k → f l[j] = 0) ∧ Below w.heap.size w wr) (fun i _ => l.length - (intOf i).toNat)
  case atStart => exact ⟨0, Nat.zero_le _, rfl, fun j _ h => absurd h (by omega), Below.refl _ _⟩
  case round =>
    obtain ⟨k, hk, rfl, hall, hbl⟩ := hrel
    have HA := veil hall
    clear hall
    have hbs := hbl.size
    by_cases hlt : k < l.length
    · have hkeep : Keeps S S w wr := Keeps.below hbl hS
      obtain ⟨kd, fo, na, va, c0, c1, c2, c3, hcs⟩ := tyAt_cells.1 (HR.out.get k hlt)
      obtain ⟨va1, va2, va3, rfl⟩ := hcs.slice
      have d0 := (hbl.cell (p := ⟨b, off + k * 4, none⟩) hbw).trans c0
      have d1 := (hbl.cell (p := ⟨b, off + k * 4 + 1, none⟩) hbw).trans c1
      have d2 := (hbl.cell (p := ⟨b, off + k * 4 + 2, none⟩) hbw).trans c2
      have d3 := (hbl.cell (p := ⟨b, off + k * 4 + 3, none⟩) hbw).trans c3
      have HC := veil ((hcs.keep hkeep).keep (Keeps.below ((Below.refl wr.heap.size wr).alloc (Nat.le_refl _) (.cells #[.int .i64 kd, .string fo, .string na, .slice va1 va2 va3] 49)) fun b h => Nat.lt_of_lt_of_le (hS b h) hbs))
      clear c0 c1 c2 c3 hcs
      have HL := veil (hbl.alloc hbs (.cells #[.int .i64 kd, .string fo, .string na, .slice va1 va2 va3] 49))
      have cG := HG.out l[k] (List.getElem_mem hlt) _ (.agg #[.int .i64 kd, .string fo, .string na, .slice va1 va2 va3]) HL.out ⟨_, _, _, _, rfl, HC.out⟩
      clear HG HR
      by_cases hz : f l[k] = 0
      · have hz' : (f l[k] != 0) = false := by simp [hz]
        have HN : Hid (∀ j (hj : j < l.length), j < k + 1 → f l[j] = 0) := fun j hj hjk => by
          by_cases e : j = k
          · subst e; exact hz
          · exact HA.out j hj (by omega)
        clear hz
        generalize f l[k] = fk at *
        go_wp2_with (go_at_fn g; refine cG.mono ?_; rintro e w' ⟨rfl, hb'⟩)
        exact ⟨⟨k + 1, by omega, by go_num, HN.out, HL.out.trans (hb'.mono (by simp; omega))⟩, by simp [intOf]; omega⟩
      · have hz' : (f l[k] != 0) = true := by simp [hz]
        have HF := veil (firstBad_at f l k hlt (fun j hj => HA.out j (by omega) hj) hz)
        clear hz
        generalize f l[k] = fk at *
        go_wp2_with (go_at_fn g; refine cG.mono ?_; rintro e w' ⟨rfl, hb'⟩)
        go_ret
        exact ⟨by rw [HF.out]; rfl, HL.out.trans (hb'.mono (by simp; omega))⟩
    · have HF := veil (firstBad_none f l fun j hj => HA.out j hj (by omega))
      clear HG HR eg
      go_wp2
      go_ret
      exact ⟨by rw [HF.out]; rfl, hbl⟩

set_option maxHeartbeats 2000000 in
theorem first_ex (g : Nat) (lb : Array Value) (eg : ∀ args w, (callFunc g args).run Tryz.prog w = .ok (.enter g args) w) (f : Ex → Int) (S : Nat → Prop) (l : List Ex) (v : Value) (w : World) (hS : ∀ b, S b → b < w.heap.size) (hl : SlAt S (ExAt S w) 5 l v)
    (hg : ∀ t ∈ l, ∀ (W : World) (u : Value), Below w.heap.size w W → ExIs S W t u → Calls Tryz.prog g (#[u] ++ lb) W fun e w' => e = .returned (.int .i64 (f t)) ∧ Below W.heap.size W w') :
    Calls Tryz.prog 118 #[v, .func (.func g) #[] lb] w fun e w' => e = .returned (.int .i64 (firstBad f l)) ∧ Below w.heap.size w w' := by
  obtain ⟨a, cap, rfl, ⟨hlen, hlenC⟩, hrow⟩ := hl
  unfold maxLen at hlen
  have HG := veil hg
  clear hg
  rcases hrow with h0 | ⟨b, off, rfl, hb, hrow⟩
  · have hnil : l = [] := List.eq_nil_of_length_eq_zero h0
    subst hnil
    clear HG eg
    go_enter Tryz.func118, Tryz.ntmps118
    go_wp2
    refine wp_loop_rounds 1 ?_
    rw [rounds_succ]
    go_wp2
    go_ret
    exact ⟨rfl, Below.refl _ _⟩
  have hbw := hS b hb
  have HR := veil hrow
  clear hrow
  go_enter Tryz.func118, Tryz.ntmps118
  go_wp2
  go_loopw [10] (fun i wr => ∃ k : Nat, k ≤ l.length ∧ i = .int .i64 k ∧ (∀ j (hj : j < l.length), j < k → f l[j] = 0) ∧ Below w.heap.size w wr) (fun i _ => l.length - (intOf i).toNat)
  case atStart => exact ⟨0, Nat.zero_le _, rfl, fun j _ h => absurd h (by omega), Below.refl _ _⟩
  case round =>
    obtain ⟨k, hk, rfl, hall, hbl⟩ := hrel
    have HA := veil hall
    clear hall
    have hbs := hbl.size
    by_cases hlt : k < l.length
    · have hkeep : Keeps S S w wr := Keeps.below hbl hS
      obtain ⟨kd, nu, fo, na, va, c0, c1, c2, c3, c4, hcs⟩ := exAt_cells.1 (HR.out.get k hlt)
      obtain ⟨va1, va2, va3, rfl⟩ := hcs.slice
      have d0 := (hbl.cell (p := ⟨b, off + k * 5, none⟩) hbw).trans c0
      have d1 := (hbl.cell (p := ⟨b, off + k * 5 + 1, none⟩) hbw).trans c1
      have d2 := (hbl.cell (p := ⟨b, off + k * 5 + 2, none⟩) hbw).trans c2
      have d3 := (hbl.cell (p := ⟨b, off + k * 5 + 3, none⟩) hbw).trans c3
      have d4 := (hbl.cell (p := ⟨b, off + k * 5 + 4, none⟩) hbw).trans c4
      have HC := veil ((hcs.keep hkeep).keep (Keeps.below ((Below.refl wr.heap.size wr).alloc (Nat.le_refl _) (.cells #[.int .i64 kd, .int .i64 nu, .string fo, .string na, .slice va1 va2 va3] 52)) fun b h => Nat.lt_of_lt_of_le (hS b h) hbs))
      clear c0 c1 c2 c3 c4 hcs
      have HL := veil (hbl.alloc hbs (.cells #[.int .i64 kd, .int .i64 nu, .string fo, .string na, .slice va1 va2 va3] 52))
      have cG := HG.out l[k] (List.getElem_mem hlt) _ (.agg #[.int .i64 kd, .int .i64 nu, .string fo, .string na, .slice va1 va2 va3]) HL.out ⟨_, _, _, _, _, rfl, HC.out⟩
      clear HG HR
      by_cases hz : f l[k] = 0
      · have hz' : (f l[k] != 0) = false := by simp [hz]
        have HN : Hid (∀ j (hj : j < l.length), j < k + 1 → f l[j] = 0) := fun j hj hjk => by
          by_cases e : j = k
          · subst e; exact hz
          · exact HA.out j hj (by omega)
        clear hz
        generalize f l[k] = fk at *
        go_wp2_with (go_at_fn g; refine cG.mono ?_; rintro e w' ⟨rfl, hb'⟩)
        exact ⟨⟨k + 1, by omega, by go_num, HN.out, HL.out.trans (hb'.mono (by simp; omega))⟩, by simp [intOf]; omega⟩
      · have hz' : (f l[k] != 0) = true := by simp [hz]
        have HF := veil (firstBad_at f l k hlt (fun j hj => HA.out j (by omega) hj) hz)
        clear hz
        generalize f l[k] = fk at *
        go_wp2_with (go_at_fn g; refine cG.mono ?_; rintro e w' ⟨rfl, hb'⟩)
        go_ret
        exact ⟨by rw [HF.out]; rfl, HL.out.trans (hb'.mono (by simp; omega))⟩
    · have HF := veil (firstBad_none f l fun j hj => HA.out j hj (by omega))
      clear HG HR eg
      go_wp2
      go_ret
      exact ⟨by rw [HF.out]; rfl, hbl⟩

set_option maxHeartbeats 2000000 in
theorem first_fd (g : Nat) (lb : Array Value) (eg : ∀ args w, (callFunc g args).run Tryz.prog w = .ok (.enter g args) w) (f : Fd → Int) (S : Nat → Prop) (l : List Fd) (v : Value) (w : World) (hS : ∀ b, S b → b < w.heap.size) (hl : SlAt S (FdAt S w) 5 l v)
    (hg : ∀ t ∈ l, ∀ (W : World) (u : Value), Below w.heap.size w W → FdIs S W t u → Calls Tryz.prog g (#[u] ++ lb) W fun e w' => e = .returned (.int .i64 (f t)) ∧ Below W.heap.size W w') :
    Calls Tryz.prog 39 #[v, .func (.func g) #[] lb] w fun e w' => e = .returned (.int .i64 (firstBad f l)) ∧ Below w.heap.size w w' := by
  obtain ⟨a, cap, rfl, ⟨hlen, hlenC⟩, hrow⟩ := hl
  unfold maxLen at hlen
  have HG := veil hg
  clear hg
  rcases hrow with h0 | ⟨b, off, rfl, hb, hrow⟩
  · have hnil : l = [] := List.eq_nil_of_length_eq_zero h0
    subst hnil
    clear HG eg
    go_enter Tryz.func39, Tryz.ntmps39
    go_wp2
    refine wp_loop_rounds 1 ?_
    rw [rounds_succ]
    go_wp2
    go_ret
    exact ⟨rfl, Below.refl _ _⟩
  have hbw := hS b hb
  have HR := veil hrow
  clear hrow
  go_enter Tryz.func39, Tryz.ntmps39
  go_wp2
  go_loopw [10] (fun i wr => ∃ k : Nat, k ≤ l.length ∧ i = .int .i64 k ∧ (∀ j (hj : j < l.length), j < k → f l[j] = 0) ∧ Below w.heap.size w wr) (fun i _ => l.length - (intOf i).toNat)
  case atStart => exact ⟨0, Nat.zero_le _, rfl, fun j _ h => absurd h (by omega), Below.refl _ _⟩
  case round =>
    obtain ⟨k, hk, rfl, hall, hbl⟩ := hrel
    have HA := veil hall
    clear hall
    have hbs := hbl.size
    by_cases hlt : k < l.length
    · have hkeep : Keeps S S w wr := Keeps.below hbl hS
      obtain ⟨⟨c0, hsz⟩, hty⟩ := HR.out.get k hlt
      obtain ⟨kd, fo, na, va, c1, c2, c3, c4, hcs⟩ := tyAt_cells.1 hty
      obtain ⟨va1, va2, va3, rfl⟩ := hcs.slice
      rw [Nat.add_assoc] at c2 c3 c4
      have d0 := (hbl.cell (p := ⟨b, off + k * 5, none⟩) hbw).trans c0
      have d1 := (hbl.cell (p := ⟨b, off + k * 5 + 1, none⟩) hbw).trans c1
      have d2 := (hbl.cell (p := ⟨b, off + k * 5 + 2, none⟩) hbw).trans c2
      have d3 := (hbl.cell (p := ⟨b, off + k * 5 + 3, none⟩) hbw).trans c3
      have d4 := (hbl.cell (p := ⟨b, off + k * 5 + 4, none⟩) hbw).trans c4
      have HC := veil ((hcs.keep hkeep).keep (Keeps.below ((Below.refl wr.heap.size wr).alloc (Nat.le_refl _) (.cells #[.string l[k].name, .int .i64 kd, .string fo, .string na, .slice va1 va2 va3] 63)) fun b h => Nat.lt_of_lt_of_le (hS b h) hbs))
      clear c0 c1 c2 c3 c4 hcs hty
      have HL := veil (hbl.alloc hbs (.cells #[.string l[k].name, .int .i64 kd, .string fo, .string na, .slice va1 va2 va3] 63))
      have cG := HG.out l[k] (List.getElem_mem hlt) _ (.agg #[.string l[k].name, .int .i64 kd, .string fo, .string na, .slice va1 va2 va3]) HL.out ⟨_, _, _, _, rfl, hsz, HC.out⟩
      clear HG HR
      by_cases hz : f l[k] = 0
      · have hz' : (f l[k] != 0) = false := by simp [hz]
        have HN : Hid (∀ j (hj : j < l.length), j < k + 1 → f l[j] = 0) := fun j hj hjk => by
          by_cases e : j = k
          · subst e; exact hz
          · exact HA.out j hj (by omega)
        clear hz
        generalize f l[k] = fk at *
        go_wp2_with (go_at_fn g; refine cG.mono ?_; rintro e w' ⟨rfl, hb'⟩)
        exact ⟨⟨k + 1, by omega, by go_num, HN.out, HL.out.trans (hb'.mono (by simp; omega))⟩, by simp [intOf]; omega⟩
      · have hz' : (f l[k] != 0) = true := by simp [hz]
        have HF := veil (firstBad_at f l k hlt (fun j hj => HA.out j (by omega) hj) hz)
        clear hz
        generalize f l[k] = fk at *
        go_wp2_with (go_at_fn g; refine cG.mono ?_; rintro e w' ⟨rfl, hb'⟩)
        go_ret
        exact ⟨by rw [HF.out]; rfl, HL.out.trans (hb'.mono (by simp; omega))⟩
    · have HF := veil (firstBad_none f l fun j hj => HA.out j hj (by omega))
      clear HG HR eg
      go_wp2
      go_ret
      exact ⟨by rw [HF.out]; rfl, hbl⟩

set_option maxHeartbeats 2000000 in
theorem first_fu (g : Nat) (lb : Array Value) (eg : ∀ args w, (callFunc g args).run Tryz.prog w = .ok (.enter g args) w) (f : Fu → Int) (S : Nat → Prop) (l : List Fu) (v : Value) (w : World) (hS : ∀ b, S b → b < w.heap.size) (hl : SlAt S (FuAt S w) 12 l v)
    (hg : ∀ t ∈ l, ∀ (W : World) (u : Value), Below w.heap.size w W → FuIs S W t u → Calls Tryz.prog g (#[u] ++ lb) W fun e w' => e = .returned (.int .i64 (f t)) ∧ Below W.heap.size W w') :
    Calls Tryz.prog 41 #[v, .func (.func g) #[] lb] w fun e w' => e = .returned (.int .i64 (firstBad f l)) ∧ Below w.heap.size w w' := by
  obtain ⟨a, cap, rfl, ⟨hlen, hlenC⟩, hrow⟩ := hl
  unfold maxLen at hlen
  have HG := veil hg
  clear hg
  rcases hrow with h0 | ⟨b, off, rfl, hb, hrow⟩
  · have hnil : l = [] := List.eq_nil_of_length_eq_zero h0
    subst hnil
    clear HG eg
    go_enter Tryz.func41, Tryz.ntmps41
    go_wp2
    refine wp_loop_rounds 1 ?_
    rw [rounds_succ]
    go_wp2
    go_ret
    exact ⟨rfl, Below.refl _ _⟩
  have hbw := hS b hb
  have HR := veil hrow
  clear hrow
  go_enter Tryz.func41, Tryz.ntmps41
  go_wp2
  go_loopw [10] (fun i wr => ∃ k : Nat, k ≤ l.length ∧ i = .int .i64 k ∧ (∀ j (hj : j < l.length), j < k → f l[j] = 0) ∧ Below w.heap.size w wr) (fun i _ => l.length - (intOf i).toNat)
  case atStart => exact ⟨0, Nat.zero_le _, rfl, fun j _ h => absurd h (by omega), Below.refl _ _⟩
  case round =>
    obtain ⟨k, hk, rfl, hall, hbl⟩ := hrel
    have HA := veil hall
    clear hall
    have hbs := hbl.size
    by_cases hlt : k < l.length
    · have hkeep : Keeps S S w wr := Keeps.below hbl hS
      obtain ⟨⟨c0, hsz⟩, ⟨c1, hsz1⟩, ⟨vp, c2, hps⟩, hty, hex⟩ := HR.out.get k hlt
      obtain ⟨kd, fo, na, va, c3, c4, c5, c6, hcs⟩ := tyAt_cells.1 hty
      obtain ⟨ke, ne, fe, se, ve, c7, c8, c9, c10, c11, hce⟩ := exAt_cells.1 hex
      obtain ⟨va1, va2, va3, rfl⟩ := hcs.slice
      obtain ⟨vp1, vp2, vp3, rfl⟩ := hps.slice
      obtain ⟨ve1, ve2, ve3, rfl⟩ := hce.slice
      rw [Nat.add_assoc] at c4 c5 c6 c8 c9 c10 c11
      have d0 := (hbl.cell (p := ⟨b, off + k * 12, none⟩) hbw).trans c0
      have d1 := (hbl.cell (p := ⟨b, off + k * 12 + 1, none⟩) hbw).trans c1
      have d2 := (hbl.cell (p := ⟨b, off + k * 12 + 2, none⟩) hbw).trans c2
      have d3 := (hbl.cell (p := ⟨b, off + k * 12 + 3, none⟩) hbw).trans c3
      have d4 := (hbl.cell (p := ⟨b, off + k * 12 + 4, none⟩) hbw).trans c4
      have d5 := (hbl.cell (p := ⟨b, off + k * 12 + 5, none⟩) hbw).trans c5
      have d6 := (hbl.cell (p := ⟨b, off + k * 12 + 6, none⟩) hbw).trans c6
      have d7 := (hbl.cell (p := ⟨b, off + k * 12 + 7, none⟩) hbw).trans c7
      have d8 := (hbl.cell (p := ⟨b, off + k * 12 + 8, none⟩) hbw).trans c8
      have d9 := (hbl.cell (p := ⟨b, off + k * 12 + 9, none⟩) hbw).trans c9
      have d10 := (hbl.cell (p := ⟨b, off + k * 12 + 10, none⟩) hbw).trans c10
      have d11 := (hbl.cell (p := ⟨b, off + k * 12 + 11, none⟩) hbw).trans c11
      have hk2 : Keeps S S wr (wr.alloc (.cells #[.string l[k].name, .string l[k].var, .slice vp1 vp2 vp3, .int .i64 kd, .string fo, .string na, .slice va1 va2 va3, .int .i64 ke, .int .i64 ne, .string fe, .string se, .slice ve1 ve2 ve3] 54)) := Keeps.below ((Below.refl wr.heap.size wr).alloc (Nat.le_refl _) _) fun b h => Nat.lt_of_lt_of_le (hS b h) hbs
      have HC := veil ((hcs.keep hkeep).keep hk2)
      have HC2 := veil ((hce.keep hkeep).keep hk2)
      have HC3 := veil (fdSl_keep hk2 (fdSl_keep hkeep hps))
      clear c0 c1 c2 c3 c4 c5 c6 c7 c8 c9 c10 c11 hcs hty hps hce hex hk2
      have HL := veil (hbl.alloc hbs (.cells #[.string l[k].name, .string l[k].var, .slice vp1 vp2 vp3, .int .i64 kd, .string fo, .string na, .slice va1 va2 va3, .int .i64 ke, .int .i64 ne, .string fe, .string se, .slice ve1 ve2 ve3] 54))
      have cG := HG.out l[k] (List.getElem_mem hlt) _ (.agg #[.string l[k].name, .string l[k].var, .slice vp1 vp2 vp3, .int .i64 kd, .string fo, .string na, .slice va1 va2 va3, .int .i64 ke, .int .i64 ne, .string fe, .string se, .slice ve1 ve2 ve3]) HL.out ⟨_, _, _, _, _, _, _, _, _, _, rfl, hsz, hsz1, HC3.out, HC.out, HC2.out⟩
      clear HG HR
      by_cases hz : f l[k] = 0
      · have hz' : (f l[k] != 0) = false := by simp [hz]
        have HN : Hid (∀ j (hj : j < l.length), j < k + 1 → f l[j] = 0) := fun j hj hjk => by
          by_cases e : j = k
          · subst e; exact hz
          · exact HA.out j hj (by omega)
        clear hz
        generalize f l[k] = fk at *
        go_wp2_with (go_at_fn g; refine cG.mono ?_; rintro e w' ⟨rfl, hb'⟩)
        exact ⟨⟨k + 1, by omega, by go_num, HN.out, HL.out.trans (hb'.mono (by simp; omega))⟩, by simp [intOf]; omega⟩
      · have hz' : (f l[k] != 0) = true := by simp [hz]
        have HF := veil (firstBad_at f l k hlt (fun j hj => HA.out j (by omega) hj) hz)
        clear hz
        generalize f l[k] = fk at *
        go_wp2_with (go_at_fn g; refine cG.mono ?_; rintro e w' ⟨rfl, hb'⟩)
        go_ret
        exact ⟨by rw [HF.out]; rfl, HL.out.trans (hb'.mono (by simp; omega))⟩
    · have HF := veil (firstBad_none f l fun j hj => HA.out j hj (by omega))
      clear HG HR eg
      go_wp2
      go_ret
      exact ⟨by rw [HF.out]; rfl, hbl⟩

set_option maxHeartbeats 2000000 in
theorem first_str (g : Nat) (lb : Array Value) (eg : ∀ args w, (callFunc g args).run Tryz.prog w = .ok (.enter g args) w) (f : ByteArray → Int) (S : Nat → Prop) (l : List ByteArray) (v : Value) (w : World) (hS : ∀ b, S b → b < w.heap.size) (hl : SlAt S (StrAt w) 1 l v)
    (hg : ∀ t ∈ l, ∀ (W : World) (u : Value), Below w.heap.size w W → StrIs t u → Calls Tryz.prog g (#[u] ++ lb) W fun e w' => e = .returned (.int .i64 (f t)) ∧ Below W.heap.size W w') :
    Calls Tryz.prog 37 #[v, .func (.func g) #[] lb] w fun e w' => e = .returned (.int .i64 (firstBad f l)) ∧ Below w.heap.size w w' := by
  obtain ⟨a, cap, rfl, ⟨hlen, hlenC⟩, hrow⟩ := hl
  unfold maxLen at hlen
  have HG := veil hg
  clear hg
  rcases hrow with h0 | ⟨b, off, rfl, hb, hrow⟩
  · have hnil : l = [] := List.eq_nil_of_length_eq_zero h0
    subst hnil
    clear HG eg
    go_enter Tryz.func37, Tryz.ntmps37
    go_wp2
    refine wp_loop_rounds 1 ?_
    rw [rounds_succ]
    go_wp2
    go_ret
    exact ⟨rfl, Below.refl _ _⟩
  have hbw := hS b hb
  have HR := veil hrow
  clear hrow
  go_enter Tryz.func37, Tryz.ntmps37
  go_wp2
  go_loopw [10] (fun i wr => ∃ k : Nat, k ≤ l.length ∧ i = .int .i64 k ∧ (∀ j (hj : j < l.length), j < k → f l[j] = 0) ∧ Below w.heap.size w wr) (fun i _ => l.length - (intOf i).toNat)
  case atStart => exact ⟨0, Nat.zero_le _, rfl, fun j _ h => absurd h (by omega), Below.refl _ _⟩
  case round =>
    obtain ⟨k, hk, rfl, hall, hbl⟩ := hrel
    have HA := veil hall
    clear hall
    have hbs := hbl.size
    by_cases hlt : k < l.length
    · obtain ⟨c0, hsz⟩ := HR.out.get k hlt
      rw [Nat.mul_one] at c0
      have d0 := (hbl.cell (p := ⟨b, off + k, none⟩) hbw).trans c0
      clear c0
      have cG := HG.out l[k] (List.getElem_mem hlt) _ (.string l[k]) hbl ⟨rfl, hsz⟩
      clear HG HR
      by_cases hz : f l[k] = 0
      · have hz' : (f l[k] != 0) = false := by simp [hz]
        have HN : Hid (∀ j (hj : j < l.length), j < k + 1 → f l[j] = 0) := fun j hj hjk => by
          by_cases e : j = k
          · subst e; exact hz
          · exact HA.out j hj (by omega)
        clear hz
        generalize f l[k] = fk at *
        go_wp2_with (go_at_fn g; refine cG.mono ?_; rintro e w' ⟨rfl, hb'⟩)
        exact ⟨⟨k + 1, by omega, by go_num, HN.out, hbl.trans (hb'.mono (by omega))⟩, by simp [intOf]; omega⟩
      · have hz' : (f l[k] != 0) = true := by simp [hz]
        have HF := veil (firstBad_at f l k hlt (fun j hj => HA.out j (by omega) hj) hz)
        clear hz
        generalize f l[k] = fk at *
        go_wp2_with (go_at_fn g; refine cG.mono ?_; rintro e w' ⟨rfl, hb'⟩)
        go_ret
        exact ⟨by rw [HF.out]; rfl, hbl.trans (hb'.mono (by omega))⟩
    · have HF := veil (firstBad_none f l fun j hj => HA.out j hj (by omega))
      clear HG HR eg
      go_wp2
      go_ret
      exact ⟨by rw [HF.out]; rfl, hbl⟩

end Go.Proofs.YtieoddnaknpmlabGreatDoor
