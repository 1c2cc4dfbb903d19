import Derived.Test.YtagbaimfigljiaaGreatDoorJCk0
import Derived.WalkSpells
import Derived.Lib.Bytealg
import Derived.Deep.QuietTactic
import Derived.BigQuiet
import Derived.Lib.Builder
namespace Go.Proofs.YtagbaimfigljiaaGreatDoor
open Go.RowKit
set_option maxRecDepth 100000

abbrev Toks := List (Int × ByteArray)

inductive Res (α : Type) where
  | bad (e : Int)
  | ok (x : α) (j : Nat)

/-- is token i of kind k, with these bytes? -/
def tokB (l : Toks) (i : Nat) (k : Int) (s : List UInt8) : Bool := match l[i]? with
  | some t => t.1 == k && t.2.data.toList == s
  | none => false
def sgn (l : Toks) (i : Nat) (s : List UInt8) : Bool := tokB l i 4 s
def wrd (l : Toks) (i : Nat) (s : List UInt8) : Bool := tokB l i 1 s
/-- the text of token i, if it is of kind k. -/
def takeAt (l : Toks) (i : Nat) (k : Int) : Option ByteArray := match l[i]? with
  | some t => if t.1 = k then some t.2 else none
  | none => none
def identAt (l : Toks) (i : Nat) : Option ByteArray := match takeAt l i 1 with
  | some t => if identOk t = true then some t else none
  | none => none

def emptyText : ByteArray := ⟨#[]⟩

/-- a name, perhaps behind that of a module: that one, and it. -/
def nameAt (l : Toks) (i : Nat) : Res (ByteArray × ByteArray) := match identAt l i with
  | none => .bad 4
  | some n => if sgn l (i + 1) [46] = true then (match identAt l (i + 2) with
      | none => .bad 4
      | some m => .ok (n, m) (i + 3)) else .ok (emptyText, n) (i + 1)

/-- a type; f: so many may stand within one another from here on. -/
def pTy (l : Toks) : Nat → Nat → Res Ty
  | 0, _ => .bad 1
  | f + 1, i =>
    if wrd l i [105, 110, 116] = true then .ok (.mk 1 emptyText emptyText []) (i + 1)
    else if wrd l i [116, 101, 120, 116] = true then .ok (.mk 2 emptyText emptyText []) (i + 1)
    else if sgn l i [91] = true then (match pTy l f (i + 1) with
      | .bad e => .bad e
      | .ok t j => if sgn l j [93] = true then .ok (.mk 3 emptyText emptyText [t]) (j + 1) else .bad 4)
    else match nameAt l i with
      | .bad e => .bad e
      | .ok x j => .ok (.mk 4 x.1 x.2 []) j

def numVal (l : List UInt8) : Int := l.foldl (fun n c => 10 * n + ((c.toNat : Int) - 48)) 0
def exNum (t : ByteArray) : Ex := .mk 1 (numVal t.data.toList) emptyText emptyText []
def exQuote (t : ByteArray) : Ex := .mk 2 0 emptyText t []
def exParam (t : ByteArray) : Ex := .mk 3 0 emptyText t []
def exCall (o n : ByteArray) (l : List Ex) : Ex := .mk 4 0 o n l
def exSum (x y : Ex) : Ex := .mk 5 0 emptyText emptyText [x, y]
def exItems (l : List Ex) : Ex := .mk 6 0 emptyText emptyText l
def exAt (x y : Ex) : Ex := .mk 7 0 emptyText emptyText [x, y]

/-- things with commas between, up to a sign. -/
def pList {α : Type} (sub : Nat → Res α) (l : Toks) (fin : List UInt8) : Nat → List α → Nat → Res (List α)
  | 0, _, _ => .bad 99
  | n + 1, acc, i => match sub i with
    | .bad e => .bad e
    | .ok x j => if sgn l j [44] = true then pList sub l fin n (acc ++ [x]) (j + 1) else if sgn l j fin = true then .ok (acc ++ [x]) (j + 1) else .bad 4

def pCall (sub : Nat → Res Ex) (l : Toks) (i : Nat) : Res Ex := match nameAt l i with
  | .bad e => .bad e
  | .ok x j => if sgn l j [40] = true then (if sgn l (j + 1) [41] = true then .ok (exCall x.1 x.2 []) (j + 2) else match pList sub l [41] (l.length + 1) [] (j + 1) with
      | .bad e => .bad e
      | .ok xs j' => .ok (exCall x.1 x.2 xs) j') else if noneB x.1 = true then .ok (exParam x.2) j else .bad 4

def pHead (sub : Nat → Res Ex) (l : Toks) (i : Nat) : Res Ex :=
  if sgn l i [40] = true then (match sub (i + 1) with
    | .bad e => .bad e
    | .ok x j => if sgn l j [41] = true then .ok x (j + 1) else .bad 4)
  else if sgn l i [91] = true then (match pList sub l [93] (l.length + 1) [] (i + 1) with
    | .bad e => .bad e
    | .ok xs j => .ok (exItems xs) j)
  else match takeAt l i 2 with
    | some t => .ok (exNum t) (i + 1)
    | none => match takeAt l i 3 with
      | some t => .ok (exQuote t) (i + 1)
      | none => pCall sub l i

def pPlaces (sub : Nat → Res Ex) (l : Toks) : Nat → Ex → Nat → Res Ex
  | 0, _, _ => .bad 99
  | n + 1, x, i => if sgn l i [91] = true then (match sub (i + 1) with
      | .bad e => .bad e
      | .ok p j => if sgn l j [93] = true then pPlaces sub l n (exAt x p) (j + 1) else .bad 4) else .ok x i

def pTail (sub : Nat → Res Ex) (l : Toks) (i : Nat) : Res Ex := match pHead sub l i with
  | .bad e => .bad e
  | .ok x j => pPlaces sub l (l.length + 1) x j

def pSums (sub : Nat → Res Ex) (l : Toks) : Nat → Ex → Nat → Res Ex
  | 0, _, _ => .bad 99
  | n + 1, x, i => if sgn l i [43] = true then (match pTail sub l (i + 1) with
      | .bad e => .bad e
      | .ok y j => pSums sub l n (exSum x y) j) else .ok x i

/-- an expression; f as above. -/
def pEx (l : Toks) : Nat → Nat → Res Ex
  | 0, _ => .bad 1
  | f + 1, i => match pTail (pEx l f) l i with
    | .bad e => .bad e
    | .ok x j => pSums (pEx l f) l (l.length + 1) x j

/-- a name, a sign, a type. -/
def pNamed (l : Toks) (s : List UInt8) (i : Nat) : Res Fd := match identAt l i with
  | none => .bad 4
  | some n => if sgn l (i + 1) s = true then (match pTy l 40 (i + 2) with
      | .bad e => .bad e
      | .ok t j => .ok ⟨n, t⟩ j) else .bad 4

def pVar (l : Toks) (i : Nat) : Res ByteArray := if sgn l i [60] = true then (match identAt l (i + 1) with
    | none => .bad 4
    | some v => if sgn l (i + 2) [62] = true then .ok v (i + 3) else .bad 4) else .ok emptyText i

def pParams (l : Toks) (i : Nat) : Res (List Fd) := if sgn l i [41] = true then .ok [] (i + 1) else pList (pNamed l [58]) l [41] (l.length + 1) [] i

def pFun (l : Toks) (i : Nat) : Res Fu := match identAt l i with
  | none => .bad 4
  | some n => match pVar l (i + 1) with
    | .bad e => .bad e
    | .ok v j => if sgn l j [40] = true then (match pParams l (j + 1) with
      | .bad e => .bad e
      | .ok ps j => if sgn l j [58] = true then (match pTy l 40 (j + 1) with
        | .bad e => .bad e
        | .ok t j => if sgn l j [61] = true then (match pEx l 40 (j + 1) with
          | .bad e => .bad e
          | .ok x j => .ok ⟨n, v, ps, t, x⟩ j) else .bad 4) else .bad 4) else .bad 4

inductive Line where
  | none
  | use (n : ByteArray)
  | typ (f : Fd)
  | fn (f : Fu)

/-- what a line of tokens declares. -/
def pLine (l : Toks) : Except Int Line :=
  let fin (j : Nat) (x : Line) : Except Int Line := if l.length ≤ j then .ok x else .error 4
  if l.length = 0 then .ok .none
  else if wrd l 0 [117, 115, 101] = true then (match identAt l 1 with
    | .none => .error 4
    | .some n => fin 2 (.use n))
  else if wrd l 0 [116, 121, 112, 101] = true then (match pNamed l [61] 1 with
    | .bad e => .error e
    | .ok f j => fin j (.typ f))
  else if wrd l 0 [102, 117, 110, 99] = true then (match pFun l 1 with
    | .bad e => .error e
    | .ok f j => fin j (.fn f))
  else .error 4

def putLine (m : Mo) : Line → Mo
  | .none => m
  | .use n => { m with uses := m.uses ++ [n] }
  | .typ f => { m with types := m.types ++ [f] }
  | .fn f => { m with funcs := m.funcs ++ [f] }

end Go.Proofs.YtagbaimfigljiaaGreatDoor
namespace Go.Proofs.YtagbaimfigljiaaGreatDoor
open Go.RowKit
set_option maxRecDepth 100000

theorem text_eq (s : ByteArray) (l : List UInt8) : (s.toList == l) = (s.data.toList == l) := by
  rw [Lib.toList_data]

theorem kw_parts (s : ByteArray) : kwB s = ((s.toList == [117, 115, 101]) || ((s.toList == [116, 121, 112, 101]) || ((s.toList == [102, 117, 110, 99]) || ((s.toList == [105, 110, 116]) || (s.toList == [116, 101, 120, 116]))))) := by
  rw [text_eq s [117, 115, 101], text_eq s [116, 121, 112, 101], text_eq s [102, 117, 110, 99], text_eq s [105, 110, 116], text_eq s [116, 101, 120, 116]]
  rfl

set_option maxHeartbeats 1000000 in
theorem ident_any (s : ByteArray) (hs : s.size ≤ maxLen) (w : World) : Calls Tryz.prog 106 #[.string s] w fun e w' => e = .returned (.bool (identOk s)) ∧ Below w.heap.size w w' := by
  have HK := veil (kw_parts s)
  have HI : Hid (identOk s = (wordOk s && !kwB s)) := rfl
  have stop : ∀ b, kwB s = true → Ending.returned (Value.bool false) = Ending.returned (.bool (identOk s)) ∧ Below b w w := fun b h => ⟨by rw [HI.out, h]; simp, Below.refl _ _⟩
  have HS := veil stop
  clear stop
  cases h1 : (s.toList == [117, 115, 101])
  case true =>
    have HT : Hid (kwB s = true) := by show _ = _; rw [HK.out, h1]; rfl
    go_enter Tryz.func106, Tryz.ntmps106
    go_wp2_with fail
    go_ret
    exact HS.out _ HT.out
  cases h2 : (s.toList == [116, 121, 112, 101])
  case true =>
    have HT : Hid (kwB s = true) := by show _ = _; rw [HK.out, h1, h2]; rfl
    go_enter Tryz.func106, Tryz.ntmps106
    go_wp2_with fail
    go_ret
    exact HS.out _ HT.out
  cases h3 : (s.toList == [102, 117, 110, 99])
  case true =>
    have HT : Hid (kwB s = true) := by show _ = _; rw [HK.out, h1, h2, h3]; rfl
    go_enter Tryz.func106, Tryz.ntmps106
    go_wp2_with fail
    go_ret
    exact HS.out _ HT.out
  cases h4 : (s.toList == [105, 110, 116])
  case true =>
    have HT : Hid (kwB s = true) := by show _ = _; rw [HK.out, h1, h2, h3, h4]; rfl
    go_enter Tryz.func106, Tryz.ntmps106
    go_wp2_with fail
    go_ret
    exact HS.out _ HT.out
  cases h5 : (s.toList == [116, 101, 120, 116])
  case true =>
    have HT : Hid (kwB s = true) := by show _ = _; rw [HK.out, h1, h2, h3, h4, h5]; rfl
    go_enter Tryz.func106, Tryz.ntmps106
    go_wp2_with fail
    go_ret
    exact HS.out _ HT.out
  have HT : Hid (kwB s = false) := by show _ = _; rw [HK.out, h1, h2, h3, h4, h5]; rfl
  go_enter Tryz.func106, Tryz.ntmps106
  go_wp2_with fail
  refine (word_any s hs _).mono ?_
  rintro e w' ⟨rfl, hb⟩
  go_wp2
  go_ret
  exact ⟨by rw [HI.out, HT.out]; simp, hb⟩

end Go.Proofs.YtagbaimfigljiaaGreatDoor
namespace Go.Proofs.YtagbaimfigljiaaGreatDoor
open Go.RowKit
set_option maxRecDepth 100000

/-- what the digits ahead of place k make. -/
def valTo (s : ByteArray) : Nat → Int
  | 0 => 0
  | k + 1 => valTo s k * 10 + byteAt s k - 48

def numAt (s : ByteArray) (j : Nat) : Bool := isDigit (byteAt s j) && decide (valTo s (j + 1) ≤ 999999)
def leadZero (s : ByteArray) : Bool := decide (1 < s.size) && (byteAt s 0 == 48)
def numOk (s : ByteArray) : Bool := allB (fun j => isDigit (byteAt s j)) s.size && (isIn s.size 1 6 && !leadZero s)

theorem digit_bd {b : Int} (h : isDigit b = true) : 48 ≤ b ∧ b ≤ 57 := by
  simpa [isDigit] using h

theorem valTo_bd (s : ByteArray) (n : Nat) (h : ∀ j, j < n → isDigit (byteAt s j) = true) : ∀ k, k ≤ n → 0 ≤ valTo s k ∧ valTo s k < 10 ^ k
  | 0, _ => by simp [valTo]
  | k + 1, hk => by
    have ih := valTo_bd s n h k (by omega)
    have hd := digit_bd (h k (by omega))
    have e : (10 : Int) ^ (k + 1) = 10 ^ k * 10 := Int.pow_succ _ _
    simp only [valTo]
    omega

theorem valTo_up (s : ByteArray) (n : Nat) (h : ∀ j, j < n → isDigit (byteAt s j) = true) (h0 : byteAt s 0 ≠ 48) (hn : 6 < n) : 999999 < valTo s 7 := by
  have d0 := digit_bd (h 0 (by omega))
  have d1 := digit_bd (h 1 (by omega))
  have d2 := digit_bd (h 2 (by omega))
  have d3 := digit_bd (h 3 (by omega))
  have d4 := digit_bd (h 4 (by omega))
  have d5 := digit_bd (h 5 (by omega))
  have d6 := digit_bd (h 6 (by omega))
  simp only [valTo]
  omega

theorem numOk_go (s : ByteArray) (h1 : s.size ≠ 0) (h2 : leadZero s = false) : allB (numAt s) s.size = numOk s := by
  unfold numOk
  rw [h2, Bool.not_false, Bool.and_true]
  rw [Bool.eq_iff_iff, Bool.and_eq_true, allB_iff, allB_iff]
  constructor
  · intro e
    have hd : ∀ j, j < s.size → isDigit (byteAt s j) = true := fun j hj => by
      have := e j hj
      simp only [numAt, Bool.and_eq_true] at this
      exact this.1
    refine ⟨hd, ?_⟩
    by_cases h6 : 6 < s.size
    · have hz : byteAt s 0 ≠ 48 := by
        intro hz
        simp [leadZero, hz] at h2
        omega
      have hu := valTo_up s s.size hd hz h6
      have := e 6 h6
      simp only [numAt, Bool.and_eq_true, decide_eq_true_eq] at this
      have h7 : valTo s 7 ≤ 999999 := this.2
      omega
    · simp [isIn]; omega
  · rintro ⟨hd, hin⟩ j hj
    have hs : s.size ≤ 6 := by simp [isIn] at hin; omega
    have hb := (valTo_bd s s.size hd (j + 1) (by omega)).2
    have hp : 10 ^ (j + 1) ≤ 10 ^ 6 := Nat.pow_le_pow_right (by omega) (by omega)
    have hq : ((10 ^ (j + 1) : Nat) : Int) = (10 : Int) ^ (j + 1) := Int.natCast_pow 10 (j + 1)
    have hr : (10 : Nat) ^ 6 = 1000000 := rfl
    simp only [numAt, Bool.and_eq_true, decide_eq_true_eq]
    exact ⟨hd j hj, by omega⟩

theorem num_empty (s : ByteArray) (h : s.size = 0) : numOk s = false := by
  simp [numOk, isIn, h]
theorem num_lead (s : ByteArray) (h : leadZero s = true) : numOk s = false := by
  simp [numOk, h]

/-- the closure of token.number, at its variable's cell. -/
theorem num_step (b v : Int) (B : Nat) (hb0 : 0 ≤ b) (hb1 : b ≤ 255) (hv0 : 0 ≤ v) (hv1 : v ≤ 999999) (w : World) (hc : w.cell? ⟨B, 0, none⟩ = some (.int .i64 v)) (hf : w.frozen? ⟨B, 0, none⟩ = false) :
    Calls Tryz.prog 311 #[.int .u8 b, .pointer (some ⟨B, 0, none⟩)] w fun e w' => e = .returned (.bool (isDigit b && decide (v * 10 + b - 48 ≤ 999999))) ∧ w.setCell ⟨B, 0, none⟩ (.int .i64 (v * 10 + b - 48)) = w' := by
  cases hd : isDigit b
  · go_enter Tryz.func311, Tryz.ntmps311
    go_wp2_with (go_at_call 264; refine (digit_any _ _).mono ?_; rintro e w' ⟨rfl, rfl⟩)
    go_ret
    exact ⟨rfl, rfl⟩
  · go_enter Tryz.func311, Tryz.ntmps311
    go_wp2_with (go_at_call 264; refine (digit_any _ _).mono ?_; rintro e w' ⟨rfl, rfl⟩)
    go_ret
    exact ⟨rfl, rfl⟩

theorem number_every (s : ByteArray) (hmax : s.size ≤ maxLen) (w : World) :
    Calls Tryz.prog 252 #[.string s, .func (.func 311) #[] #[.pointer (some ⟨w.heap.size, 0, none⟩)]] (w.alloc (.cells #[.int .i64 0] 3)) fun e w' => e = .returned (.bool (allB (numAt s) s.size)) ∧ Below w.heap.size w w' := by
  refine (every_any 311 #[.pointer (some ⟨w.heap.size, 0, none⟩)] (enters_of Tryz.func311 (by kernel_rfl) rfl) s hmax (numAt s)
    (fun k W => W.cell? ⟨w.heap.size, 0, none⟩ = some (.int .i64 (valTo s k)) ∧ W.frozen? ⟨w.heap.size, 0, none⟩ = false ∧ W.cell? ⟨w.heap.size + 1, 0, none⟩ = some (.string s) ∧ Below w.heap.size w W)
    (w.alloc (.cells #[.int .i64 0] 3)) ?_ ?_ ?_).mono ?_
  · rintro k hk W _ hall ⟨hc, hf, hcs, hbl⟩
    have hd : ∀ j, j < k → isDigit (byteAt s j) = true := fun j hj => by
      have := hall j (Nat.zero_le _) hj
      simp only [numAt, Bool.and_eq_true] at this
      exact this.1
    have hv0 : 0 ≤ valTo s k := (valTo_bd s k hd k (Nat.le_refl _)).1
    have hv1 : valTo s k ≤ 999999 := by
      cases k with
      | zero => simp [valTo]
      | succ j =>
        have := hall j (Nat.zero_le _) (by omega)
        simp only [numAt, Bool.and_eq_true, decide_eq_true_eq] at this
        exact this.2
    have hr := byteAt_range s k
    have hb := byteAt_get s k hk
    rw [hb]
    refine (num_step (byteAt s k) (valTo s k) w.heap.size hr.1 hr.2 hv0 hv1 W hc hf).mono ?_
    rintro e w' ⟨rfl, rfl⟩
    refine ⟨rfl, World.cell?_setCell_same W _ _ hc, ?_, ?_, hbl.setCell (Nat.le_refl _) _⟩
    · rw [World.frozen?_setCell]; exact hf
    · exact (World.cell?_setCell_other W _ _ _ (by intro h; injection h; omega)).trans hcs
  · rintro k W ⟨_, _, hcs, _⟩
    simpa using hcs
  · refine ⟨?_, ?_, ?_, ?_⟩
    · rw [World.cell?_alloc_past _ _ _ (by simp), World.cell?_alloc_at _ _ _ _ rfl]; rfl
    · rw [World.frozen?_alloc_past _ _ _ (by simp), World.frozen?_alloc_at _ _ _ _ rfl]
    · rw [World.cell?_alloc_at _ _ _ _ (by simp)]; rfl
    · exact ((Below.refl _ _).alloc (Nat.le_refl _) _).alloc (by simp) _
  · rintro e w' ⟨rfl, j, _, _, _, hb⟩
    exact ⟨rfl, hb⟩

set_option maxHeartbeats 400000 in
theorem number_any (s : ByteArray) (hs : s.size ≤ maxLen) (w : World) : Calls Tryz.prog 265 #[.string s] w fun e w' => e = .returned (.bool (numOk s)) ∧ Below w.heap.size w w' := by
  have hmf : ∀ (fn : Fn) (first cap : Array Value) (w : World), (Instr.makeFunc fn first cap).run Tryz.prog w = .ok (.func fn first cap) w := fun _ _ _ _ => rfl
  have hmax := hs
  unfold maxLen at hs
  by_cases h0 : s.size = 0
  · have hz : (((s.size : Nat) : Int) == 0) = true := by simp [h0]
    have HF := veil (num_empty s h0)
    clear h0
    go_enter Tryz.func265, Tryz.ntmps265
    go_wp2
    go_ret
    exact ⟨by rw [HF.out]; rfl, Below.refl _ _⟩
  · have hz : (((s.size : Nat) : Int) == 0) = false := by simp [h0]
    have hpos : 0 < s.size := by omega
    have HB := veil (byteAt_get s 0 hpos)
    cases hl : leadZero s
    · have HG := veil (numOk_go s h0 hl)
      have hev := number_every s hmax w
      have h1 : ¬ ((1 : Int) < (s.size : Int) ∧ ((s[0]'hpos).toNat : Int) = 48) := by
        rw [HB.out]
        rintro ⟨h1, h2⟩
        have h1' : 1 < s.size := by omega
        simp [leadZero, h1', h2] at hl
      clear hl h0
      by_cases h2 : (1 : Int) < (s.size : Int)
      · have h48 : (((s[0]'hpos).toNat : Int) == 48) = false := by
          rw [beq_eq_false_iff_ne]
          exact fun h => h1 ⟨h2, h⟩
        clear h1
        go_enter Tryz.func265, Tryz.ntmps265
        go_wp2_with (go_at_call 252; refine hev.mono ?_; rintro e w' ⟨rfl, hb⟩)
        go_ret
        exact ⟨by rw [← HG.out]; rfl, hb⟩
      · clear h1
        go_enter Tryz.func265, Tryz.ntmps265
        go_wp2_with (go_at_call 252; refine hev.mono ?_; rintro e w' ⟨rfl, hb⟩)
        go_ret
        exact ⟨by rw [← HG.out]; rfl, hb⟩
    · have HF := veil (num_lead s hl)
      have h1 : (1 : Int) < (s.size : Int) := by simp [leadZero] at hl; omega
      have h48 : (((s[0]'hpos).toNat : Int) == 48) = true := by rw [HB.out]; simp [leadZero] at hl; simp [hl.2]
      clear h0 hl
      go_enter Tryz.func265, Tryz.ntmps265
      go_wp2
      go_ret
      exact ⟨by rw [HF.out]; rfl, Below.refl _ _⟩

end Go.Proofs.YtagbaimfigljiaaGreatDoor
namespace Go.Proofs.YtagbaimfigljiaaGreatDoor
open Go.RowKit
set_option maxRecDepth 100000

/-- the tokens of a line, below block B. -/
def ToksAt (B : Nat) (w : World) (tv : Value) (l : Toks) : Prop :=
  (l.length ≤ 200 ∧ ∀ t ∈ l, t.1 = 2 → numOk t.2 = true) ∧ ((l = [] ∧ ∃ a cap, tv = .slice a 0 cap) ∨
  ∃ b off cap, tv = .slice (some ⟨b, off, none⟩) l.length cap ∧ b < B ∧
    ∀ i (hi : i < l.length), w.cell? ⟨b, off + i * 2, none⟩ = some (.int .i64 l[i].1) ∧ w.cell? ⟨b, off + i * 2 + 1, none⟩ = some (.string l[i].2) ∧ l[i].2.size ≤ maxLen)

theorem ToksAt.keep {B : Nat} {w w' : World} {tv : Value} {l : Toks} (h : ToksAt B w tv l) (hb : Below B w w') : ToksAt B w' tv l := by
  refine ⟨h.1, h.2.imp_right ?_⟩
  rintro ⟨b, off, cap, rfl, hbB, hc⟩
  exact ⟨b, off, cap, rfl, hbB, fun i hi => ⟨(hb.cell (by exact hbB)).trans (hc i hi).1, (hb.cell (by exact hbB)).trans (hc i hi).2.1, (hc i hi).2.2⟩⟩

/-- the reader in block B is at place i of these tokens. -/
def RdAt (B : Nat) (l : Toks) (i : Nat) (w : World) : Prop := ∃ tv, w.heap[B]? = some (.cells #[tv, .int .i64 i] 181 (0, 0)) ∧ ToksAt B w tv l ∧ i ≤ l.length

/-- from w to w' nothing has turned but block B. -/
structure Moved (B : Nat) (w w' : World) : Prop where
  below : Below B w w'
  above : ∀ c, B < c → c < w.heap.size → w'.heap[c]? = w.heap[c]?

theorem Moved.refl (B : Nat) (w : World) : Moved B w w := ⟨Below.refl _ _, fun _ _ _ => rfl⟩
theorem Moved.trans {B : Nat} {w w' w'' : World} (h : Moved B w w') (h' : Moved B w' w'') : Moved B w w'' :=
  ⟨h.below.trans h'.below, fun c hc hlt => (h'.above c hc (Nat.lt_of_lt_of_le hlt h.below.size)).trans (h.above c hc hlt)⟩
theorem Moved.of_below {B : Nat} {w w' : World} (h : Below w.heap.size w w') (hB : B ≤ w.heap.size) : Moved B w w' := ⟨h.mono hB, fun c _ hlt => h.block c hlt⟩
theorem Moved.drew {B : Nat} {w w' : World} (h : Moved B w w') : Moved B w w'.drew := ⟨h.below.drew, h.above⟩
theorem Moved.drewN {B : Nat} {w w' : World} (h : Moved B w w') (n : Nat) : Moved B w (w'.drewN n) := ⟨⟨h.below.os, h.below.tape, h.below.output, h.below.size, h.below.block⟩, h.above⟩
theorem Moved.alloc {B : Nat} {w w' : World} (h : Moved B w w') (hB : B ≤ w'.heap.size) (o : Obj) : Moved B w (w'.alloc o) := h.trans (Moved.of_below ((Below.refl _ _).alloc (Nat.le_refl _) o) hB)
theorem Moved.set {B : Nat} {w w' : World} (h : Moved B w w') (o : Nat) (u : Value) : Moved B w (w'.setCell ⟨B, o, none⟩ u) :=
  h.trans ⟨(Below.refl B _).setCell (p := ⟨B, o, none⟩) (Nat.le_refl B) u, fun c hc _ => Below.heap_setCell _ _ _ _ (by show c ≠ B; omega)⟩
theorem Moved.cell {B : Nat} {w w' : World} (h : Moved B w w') {c : Nat} (hc : B < c) (hlt : c < w.heap.size) (o : Nat) : w'.cell? ⟨c, o, none⟩ = w.cell? ⟨c, o, none⟩ := World.cell?_of_block (h.above c hc hlt)

theorem rd_lt {B : Nat} {l : Toks} {i : Nat} {w : World} (h : RdAt B l i w) : B < w.heap.size := by
  obtain ⟨tv, hb, _⟩ := h
  rcases Nat.lt_or_ge B w.heap.size with h' | h'
  · exact h'
  · rw [Array.getElem?_eq_none h'] at hb; cases hb

theorem rd_below {B : Nat} {l : Toks} {i : Nat} {w w' : World} (h : RdAt B l i w) (hb : Below w.heap.size w w') : RdAt B l i w' := by
  have hlt := rd_lt h
  obtain ⟨tv, h1, h2, h3⟩ := h
  exact ⟨tv, (hb.block B hlt).trans h1, h2.keep (hb.mono (by omega)), h3⟩

theorem rd_next {B : Nat} {l : Toks} {i : Nat} {tv : Value} {w : World} (h1 : w.heap[B]? = some (.cells #[tv, .int .i64 i] 181 (0, 0))) (h2 : ToksAt B w tv l) (hi : i < l.length) : RdAt B l (i + 1) (w.setCell ⟨B, 1, none⟩ (.int .i64 ((i : Int) + 1))) := by
  refine ⟨tv, ?_, h2.keep ((Below.refl B _).setCell (p := ⟨B, 1, none⟩) (Nat.le_refl B) _), hi⟩
  simp [World.setCell, Array.getElem?_modify, h1]

/-- one further, if so. -/
def adv (b : Bool) (i : Nat) : Nat := if b = true then i + 1 else i

theorem tok_at {l : Toks} {i : Nat} (h : i < l.length) (k : Int) (s : List UInt8) : tokB l i k s = (l[i].1 == k && l[i].2.data.toList == s) := by
  unfold tokB
  rw [List.getElem?_eq_getElem h]
theorem tok_end {l : Toks} {i : Nat} (h : ¬ i < l.length) (k : Int) (s : List UInt8) : tokB l i k s = false := by
  unfold tokB
  rw [List.getElem?_eq_none (by omega)]

set_option maxHeartbeats 2000000 in
set_option maxRecDepth 100000 in
theorem skip_any (B : Nat) (l : Toks) (i : Nat) (k : Int) (s : ByteArray) (w : World) (h : RdAt B l i w) :
    Calls Tryz.prog 193 #[.pointer (some ⟨B, 0, none⟩), .agg #[.int .i64 k, .string s]] w fun e w' => e = .returned (.bool (tokB l i k s.data.toList)) ∧ RdAt B l (adv (tokB l i k s.data.toList) i) w' ∧ Moved B w w' := by
  have hlt := rd_lt h
  have HA := veil (rd_below h ((Below.refl _ _).alloc (Nat.le_refl _) (.cells #[.int .i64 k, .string s] 199)))
  have HM : Hid (Moved B w (w.alloc (.cells #[.int .i64 k, .string s] 199))) := Moved.of_below ((Below.refl _ _).alloc (Nat.le_refl _) _) (by omega)
  obtain ⟨tv, hb, ⟨⟨h200, hgood⟩, htk⟩, hi⟩ := h
  have b0 : w.cell? ⟨B, 0, none⟩ = some tv := by rw [Lib.cell_of_heap hb]; rfl
  have b1 : w.cell? ⟨B, 1, none⟩ = some (.int .i64 i) := by rw [Lib.cell_of_heap hb]; rfl
  have hfz : w.frozen? ⟨B, 1, none⟩ = false := Lib.frozen_of_heap hb 1
  by_cases hlt2 : i < l.length
  · rcases htk with ⟨rfl, _⟩ | ⟨b, off, cap, rfl, hbB, hcell⟩
    · simp at hlt2
    obtain ⟨c0, c1, hsz⟩ := hcell i hlt2
    have HT := veil (tok_at hlt2 k s.data.toList)
    have hne : ((i : Int) == (l.length : Int)) = false := beq_eq_false_iff_ne.2 (by omega)
    have hlt3 : (i : Int) < (l.length : Int) := by omega
    have HBk := veil hb
    have HTk : Hid (ToksAt B w (.slice (some ⟨b, off, none⟩) l.length cap) l) := ⟨⟨h200, hgood⟩, Or.inr ⟨b, off, cap, rfl, hbB, hcell⟩⟩
    clear hcell hb hgood
    generalize l[i].1 = kd at *
    generalize l[i].2 = tx at *
    have hbn : b < w.heap.size := by omega
    have HN1 := veil (rd_next (w := w.alloc (.cells #[.int .i64 k, .string s] 199)) ((Below.heap_alloc _ _ _ hlt).trans HBk.out) (HTk.out.keep HM.out.below) hlt2)
    have HT2 := veil (text_eq tx s.data.toList)
    have HT3 : Hid ((tx.toList == s.toList) = (tx.data.toList == s.data.toList)) := by show _ = _; rw [Lib.toList_data, Lib.toList_data]
    have hbn2 : b ≠ w.heap.size := by omega
    have hBn : B ≠ w.heap.size := by omega
    cases hk : (kd == k) <;> cases hs : (tx.toList == s.toList)
    case true.true =>
      have HR : Hid (tokB l i k s.data.toList = true) := by show _ = _; rw [HT.out, hk, ← HT3.out, hs]; rfl
      rw [HR.out]
      go_enter Tryz.func193, Tryz.ntmps193
      go_wp2_with fail
      go_quiet (fail)
      all_goals
        go_wp2_with fail
        go_ret
        exact ⟨rfl, HN1.out, (HM.out.drewN nq).set 1 _⟩
    all_goals
      have HR : Hid (tokB l i k s.data.toList = false) := by show _ = _; rw [HT.out, hk, ← HT3.out, hs]; rfl
      rw [HR.out]
      go_enter Tryz.func193, Tryz.ntmps193
      go_wp2_with fail
      go_quiet (fail)
      all_goals
        go_wp2_with fail
        go_ret
        exact ⟨rfl, HA.out, HM.out.drewN nq⟩
  · have hie : i = l.length := by omega
    have hne : ((i : Int) == (l.length : Int)) = true := by rw [hie]; simp
    have HR := veil (tok_end hlt2 k s.data.toList)
    rw [HR.out]
    obtain ⟨a, cap, rfl⟩ : ∃ a cap, tv = .slice a l.length cap := by
      rcases htk with ⟨rfl, a, cap, rfl⟩ | ⟨b, off, cap, rfl, _, _⟩
      · exact ⟨a, cap, rfl⟩
      · exact ⟨_, cap, rfl⟩
    clear htk hie hlt2 hb hgood
    go_enter Tryz.func193, Tryz.ntmps193
    go_wp2_with fail
    go_quiet (fail)
    all_goals
      go_wp2_with fail
      go_ret
      exact ⟨rfl, HA.out, HM.out.drewN nq⟩

theorem word_next (B : Nat) (l : Toks) (i : Nat) (s : ByteArray) (w : World) (h : RdAt B l i w) :
    Calls Tryz.prog 120 #[.pointer (some ⟨B, 0, none⟩), .string s] w fun e w' => e = .returned (.bool (wrd l i s.data.toList)) ∧ RdAt B l (adv (wrd l i s.data.toList) i) w' ∧ Moved B w w' := by
  have HH := veil h
  clear h
  go_enter Tryz.func120, Tryz.ntmps120
  go_wp2_with fail
  refine (skip_any B l i 1 s _ HH.out).mono ?_
  rintro e w' ⟨rfl, q1, q2⟩
  go_wp2_with fail
  go_ret
  exact ⟨rfl, q1, q2⟩

theorem sign_next (B : Nat) (l : Toks) (i : Nat) (s : ByteArray) (w : World) (h : RdAt B l i w) :
    Calls Tryz.prog 195 #[.pointer (some ⟨B, 0, none⟩), .string s] w fun e w' => e = .returned (.bool (sgn l i s.data.toList)) ∧ RdAt B l (adv (sgn l i s.data.toList) i) w' ∧ Moved B w w' := by
  have HH := veil h
  clear h
  go_enter Tryz.func195, Tryz.ntmps195
  go_wp2_with fail
  refine (skip_any B l i 4 s _ HH.out).mono ?_
  rintro e w' ⟨rfl, q1, q2⟩
  go_wp2_with fail
  go_ret
  exact ⟨rfl, q1, q2⟩

theorem take_at {l : Toks} {i : Nat} (h : i < l.length) (k : Int) : takeAt l i k = if l[i].1 = k then some l[i].2 else none := by
  unfold takeAt
  rw [List.getElem?_eq_getElem h]
theorem take_end {l : Toks} {i : Nat} (h : ¬ i < l.length) (k : Int) : takeAt l i k = none := by
  unfold takeAt
  rw [List.getElem?_eq_none (by omega)]

set_option maxHeartbeats 2000000 in
set_option maxRecDepth 100000 in
theorem take_any (B : Nat) (l : Toks) (i : Nat) (k : Int) (w : World) (h : RdAt B l i w) :
    Calls Tryz.prog 268 #[.pointer (some ⟨B, 0, none⟩), .int .i64 k] w fun e w' => Moved B w w' ∧
      ((takeAt l i k = none ∧ e = .returned (.tuple #[.string ⟨#[]⟩, .bool false]) ∧ RdAt B l i w') ∨ ∃ t, takeAt l i k = some t ∧ t.size ≤ maxLen ∧ e = .returned (.tuple #[.string t, .bool true]) ∧ RdAt B l (i + 1) w') := by
  have hlt := rd_lt h
  have HA := veil h
  obtain ⟨tv, hb, ⟨⟨h200, hgood⟩, htk⟩, hi⟩ := h
  have b0 : w.cell? ⟨B, 0, none⟩ = some tv := by rw [Lib.cell_of_heap hb]; rfl
  have b1 : w.cell? ⟨B, 1, none⟩ = some (.int .i64 i) := by rw [Lib.cell_of_heap hb]; rfl
  have hfz : w.frozen? ⟨B, 1, none⟩ = false := Lib.frozen_of_heap hb 1
  by_cases hlt2 : i < l.length
  · rcases htk with ⟨rfl, _⟩ | ⟨b, off, cap, rfl, hbB, hcell⟩
    · simp at hlt2
    obtain ⟨c0, c1, hsz⟩ := hcell i hlt2
    have HT := veil (take_at hlt2 k)
    have hne : ((i : Int) == (l.length : Int)) = false := beq_eq_false_iff_ne.2 (by omega)
    have hlt3 : (i : Int) < (l.length : Int) := by omega
    have HBk := veil hb
    have HTk : Hid (ToksAt B w (.slice (some ⟨b, off, none⟩) l.length cap) l) := ⟨⟨h200, hgood⟩, Or.inr ⟨b, off, cap, rfl, hbB, hcell⟩⟩
    have HN1 := veil (rd_next HBk.out HTk.out hlt2)
    clear hcell hb hgood
    generalize l[i].1 = kd at *
    generalize l[i].2 = tx at *
    by_cases hk : kd = k
    · subst hk
      rw [if_pos rfl] at HT
      have hbn2 : b ≠ B := by omega
      go_enter Tryz.func268, Tryz.ntmps268
      go_wp2_with fail
      go_quiet (fail)
      go_wp2_with fail
      go_quiet (fail)
      go_wp2_with fail
      go_ret2
      exact ⟨(((Moved.refl B w).drewN _).set 1 _).drewN _, Or.inr ⟨tx, HT.out, hsz, rfl, HN1.out⟩⟩
    · have hk' : (kd != k) = true := bne_iff_ne.2 hk
      rw [if_neg hk] at HT
      clear hk
      go_enter Tryz.func268, Tryz.ntmps268
      go_wp2_with fail
      go_quiet (fail)
      go_wp2_with fail
      go_ret2
      exact ⟨(Moved.refl B w).drewN _, Or.inl ⟨HT.out, rfl, HA.out⟩⟩
  · have hie : i = l.length := by omega
    have hne : ((i : Int) == (l.length : Int)) = true := by rw [hie]; simp
    have HR := veil (take_end hlt2 k)
    obtain ⟨a, cap, rfl⟩ : ∃ a cap, tv = .slice a l.length cap := by
      rcases htk with ⟨rfl, a, cap, rfl⟩ | ⟨b, off, cap, rfl, _, _⟩
      · exact ⟨a, cap, rfl⟩
      · exact ⟨_, cap, rfl⟩
    clear htk hie hlt2 hb hgood
    go_enter Tryz.func268, Tryz.ntmps268
    go_wp2_with fail
    go_quiet (fail)
    go_wp2_with fail
    go_ret2
    exact ⟨(Moved.refl B w).drewN _, Or.inl ⟨HR.out, rfl, HA.out⟩⟩

theorem rd_num {B : Nat} {l : Toks} {i : Nat} {w : World} (h : RdAt B l i w) {j : Nat} {t : ByteArray} (ht : takeAt l j 2 = some t) : numOk t = true := by
  obtain ⟨tv, _, ⟨⟨_, hgood⟩, _⟩, _⟩ := h
  unfold takeAt at ht
  split at ht
  · rename_i u hu
    split at ht
    · rename_i hk
      injection ht with ht
      subst ht
      exact hgood u (List.mem_of_getElem? hu) hk
    · cases ht
  · cases ht

end Go.Proofs.YtagbaimfigljiaaGreatDoor
namespace Go.Proofs.YtagbaimfigljiaaGreatDoor
open Go.RowKit
set_option maxRecDepth 100000

set_option maxHeartbeats 1000000 in
theorem ident_next (B : Nat) (l : Toks) (i : Nat) (w : World) (h : RdAt B l i w) :
    Calls Tryz.prog 194 #[.pointer (some ⟨B, 0, none⟩)] w fun e w' => Moved B w w' ∧
      ((identAt l i = none ∧ ∃ t i', e = .returned (.tuple #[.string t, .bool false]) ∧ RdAt B l i' w') ∨ ∃ t, identAt l i = some t ∧ identOk t = true ∧ e = .returned (.tuple #[.string t, .bool true]) ∧ RdAt B l (i + 1) w') := by
  have HH := veil h
  have HI : Hid (identAt l i = match takeAt l i 1 with | some t => if identOk t = true then some t else none | none => none) := rfl
  clear h
  go_enter Tryz.func194, Tryz.ntmps194
  go_wp2_with fail
  refine (take_any B l i 1 w HH.out).mono ?_
  rintro e w1 ⟨hm, ⟨ht, rfl, hr⟩ | ⟨t, ht, hsz, rfl, hr⟩⟩
  · rw [ht] at HI
    have HM := veil hm
    have HR := veil hr
    clear hm hr ht
    go_wp2_with fail
    go_ret2
    exact ⟨HM.out, Or.inl ⟨HI.out, _, _, rfl, HR.out⟩⟩
  · rw [ht] at HI
    have HM := veil hm
    have HR := veil hr
    clear hm hr ht
    have hlt := rd_lt HR.out
    cases hi : identOk t
    · have HI' : Hid (identAt l i = none) := HI.out.trans (if_neg (by rw [hi]; simp))
      go_wp2_with fail
      refine (ident_any t hsz _).mono ?_
      rintro e w2 ⟨rfl, q⟩
      rw [hi]
      have HM2 := veil (HM.out.trans (Moved.of_below q (by omega)))
      have HR2 := veil (rd_below HR.out q)
      clear q
      go_wp2_with fail
      go_ret2
      exact ⟨HM2.out, Or.inl ⟨HI'.out, _, _, rfl, HR2.out⟩⟩
    · have HI' : Hid (identAt l i = some t) := HI.out.trans (if_pos hi)
      have HOk := veil hi
      go_wp2_with fail
      refine (ident_any t hsz _).mono ?_
      rintro e w2 ⟨rfl, q⟩
      rw [hi]
      have HM2 := veil (HM.out.trans (Moved.of_below q (by omega)))
      have HR2 := veil (rd_below HR.out q)
      clear q hi
      go_wp2_with fail
      go_ret2
      exact ⟨HM2.out, Or.inr ⟨t, HI'.out, HOk.out, rfl, HR2.out⟩⟩

set_option maxHeartbeats 2000000 in
theorem name_next (B : Nat) (l : Toks) (i : Nat) (w : World) (h : RdAt B l i w) :
    Calls Tryz.prog 270 #[.pointer (some ⟨B, 0, none⟩)] w fun e w' => Moved B w w' ∧
      ((nameAt l i = .bad 4 ∧ ∃ o t, e = .returned (.tuple #[.string o, .string t, .bool false])) ∨ ∃ o t j, nameAt l i = .ok (o, t) j ∧ noneOrIdent o = true ∧ identOk t = true ∧ e = .returned (.tuple #[.string o, .string t, .bool true]) ∧ RdAt B l j w') := by
  have HH := veil h
  clear h
  go_enter Tryz.func270, Tryz.ntmps270
  go_wp2_with fail
  refine (ident_next B l i w HH.out).mono ?_
  rintro e w1 ⟨hm, ⟨hi, t, i', rfl, hr⟩ | ⟨t, hi, hok, rfl, hr⟩⟩
  · have HN : Hid (nameAt l i = .bad 4) := by show _ = _; unfold nameAt; rw [hi]
    have HM := veil hm
    clear hm hr hi
    go_wp2_with fail
    exact bodyPost_ret (v := .tuple #[.string ⟨#[]⟩, .string t, .bool false]) (by simp [results, Tryz.results270, go_sem]) rfl ⟨HM.out, Or.inl ⟨HN.out, _, _, rfl⟩⟩
  · have HM := veil hm
    have HR := veil hr
    have HOk := veil hok
    have HN : Hid (nameAt l i = if sgn l (i + 1) [46] = true then (match identAt l (i + 2) with | none => .bad 4 | some m => .ok (t, m) (i + 3)) else .ok (emptyText, t) (i + 1)) := by show _ = _; unfold nameAt; rw [hi] <;> rfl
    clear hm hr hi hok
    go_wp2_with fail
    refine (sign_next B l (i + 1) ⟨#[46]⟩ w1 HR.out).mono ?_
    rintro e w2 ⟨rfl, q1, q2⟩
    have HM2 := veil (HM.out.trans q2)
    clear q2
    cases hs : sgn l (i + 1) [46]
    · have hs' : sgn l (i + 1) (ByteArray.mk #[46]).data.toList = false := hs
      rw [hs'] at q1
      try rw [hs']
      have HR2 := veil q1
      rw [if_neg (by rw [hs]; simp)] at HN
      clear q1 hs hs'
      go_wp2_with fail
      exact bodyPost_ret (v := .tuple #[.string ⟨#[]⟩, .string t, .bool true]) (by simp [results, Tryz.results270, go_sem]) rfl ⟨HM2.out, Or.inr ⟨_, _, _, HN.out, by rfl, HOk.out, rfl, HR2.out⟩⟩
    · have hs' : sgn l (i + 1) (ByteArray.mk #[46]).data.toList = true := hs
      rw [hs'] at q1
      try rw [hs']
      have HR2 := veil q1
      rw [if_pos hs] at HN
      clear q1 hs hs'
      go_wp2_with fail
      refine (ident_next B l (i + 1 + 1) w2 HR2.out).mono ?_
      rintro e w3 ⟨hm, ⟨hi, m, i', rfl, hr⟩ | ⟨m, hi, hok, rfl, hr⟩⟩
      · rw [hi] at HN
        have HM3 := veil (HM2.out.trans hm)
        clear hm hr hi
        go_wp2_with fail
        exact bodyPost_ret (v := .tuple #[.string t, .string m, .bool false]) (by simp [results, Tryz.results270, go_sem]) rfl ⟨HM3.out, Or.inl ⟨HN.out, _, _, rfl⟩⟩
      · rw [hi] at HN
        have HM3 := veil (HM2.out.trans hm)
        have HR3 := veil hr
        have HOk2 := veil hok
        have HNo : Hid (noneOrIdent t = true) := by show _ = _; unfold noneOrIdent; rw [HOk.out]; simp
        clear hm hr hi hok
        go_wp2_with fail
        exact bodyPost_ret (v := .tuple #[.string t, .string m, .bool true]) (by simp [results, Tryz.results270, go_sem]) rfl ⟨HM3.out, Or.inr ⟨_, _, _, HN.out, HNo.out, HOk2.out, rfl, HR3.out⟩⟩

end Go.Proofs.YtagbaimfigljiaaGreatDoor
namespace Go.Proofs.YtagbaimfigljiaaGreatDoor
open Go.RowKit
set_option maxRecDepth 100000

theorem len_eq (a b : Nat) : ((a : Int) == (b : Int)) = (a == b) := by
  rw [Bool.eq_iff_iff, beq_iff_eq, beq_iff_eq]; omega

theorem emptyOrIdent_any (s : ByteArray) (hs : s.size ≤ maxLen) (w : World) : Calls Tryz.prog 171 #[.string s] w fun e w' => e = .returned (.bool (noneOrIdent s)) ∧ Below w.heap.size w w' := by
  have HN : Hid (noneOrIdent s = ((s.toList == []) || identOk s)) := by show _ = _; rw [text_eq]; rfl
  cases h : (s.toList == [])
  · rw [h] at HN
    go_enter Tryz.func171, Tryz.ntmps171
    go_wp2_with fail
    refine (ident_any s hs _).mono ?_
    rintro e w' ⟨rfl, hb⟩
    go_wp2
    go_ret
    exact ⟨by rw [HN.out]; rfl, hb⟩
  · rw [h] at HN
    go_enter Tryz.func171, Tryz.ntmps171
    go_wp2_with fail
    go_ret
    exact ⟨by rw [HN.out]; rfl, Below.refl _ _⟩

set_option maxHeartbeats 1000000 in
theorem typeFits_any (k : Int) (f n : ByteArray) (a : Option Addr) (c cap : Nat) (hf : f.size ≤ maxLen) (hn : n.size ≤ maxLen) (w : World) :
    Calls Tryz.prog 242 #[.agg #[.int .i64 k, .string f, .string n, .slice a c cap]] w fun e w' => e = .returned (.bool (tyFits k f n c)) ∧ Below w.heap.size w w' := by
  have HB : Hid (Below w.heap.size w (w.alloc (.cells #[.int .i64 k, .string f, .string n, .slice a c cap] 84))) := (Below.refl _ _).alloc (Nat.le_refl _) _
  have HNN := veil (text_eq n [])
  have HNF := veil (text_eq f [])
  have H1 := veil (len_eq c 1)
  have H0 := veil (len_eq c 0)
  by_cases h3 : k = 3
  · subst h3
    have HT : Hid (tyFits 3 f n c = (((c : Int) == 1) && ((n.toList == []) && (f.toList == [])))) := by show _ = _; rw [HNN.out, HNF.out]; exact congrArg (· && _) H1.out.symm
    cases hc1 : ((c : Int) == 1) <;> cases hn1 : (n.toList == []) <;> cases hf1 : (f.toList == [])
    all_goals
      rw [hc1, hn1, hf1] at HT
      go_enter Tryz.func242, Tryz.ntmps242
      go_wp2_with fail
      go_ret
      exact ⟨by rw [HT.out]; rfl, HB.out⟩
  have h3' : (k == 3) = false := beq_eq_false_iff_ne.2 h3
  by_cases h4 : k = 4
  · subst h4
    have HR : Hid (tyFits 4 f n c = (((c : Int) == 0) && (identOk n && noneOrIdent f))) := by show _ = _; exact congrArg (· && _) H0.out.symm
    cases hc0 : ((c : Int) == 0)
    · rw [hc0] at HR
      go_enter Tryz.func242, Tryz.ntmps242
      go_wp2_with fail
      go_ret
      exact ⟨by rw [HR.out]; rfl, HB.out⟩
    · rw [hc0] at HR
      cases hi : identOk n
      · rw [hi] at HR
        go_enter Tryz.func242, Tryz.ntmps242
        go_wp2_with fail
        refine (ident_any n hn _).mono ?_
        rintro e w' ⟨rfl, hb⟩
        rw [hi]
        go_wp2
        go_ret
        exact ⟨by rw [HR.out]; rfl, HB.out.trans (hb.mono (by simp))⟩
      · rw [hi] at HR
        go_enter Tryz.func242, Tryz.ntmps242
        go_wp2_with fail
        refine (ident_any n hn _).mono ?_
        rintro e w1 ⟨rfl, hb⟩
        rw [hi]
        have c1 : w1.cell? ⟨w.heap.size, 1, none⟩ = some (.string f) := (hb.cell (by simp)).trans (World.cell?_alloc_at _ _ _ _ rfl)
        have HB1 := veil (HB.out.trans (hb.mono (by simp)))
        clear hb
        go_wp2_with fail
        refine (emptyOrIdent_any f hf _).mono ?_
        rintro e w2 ⟨rfl, hb2⟩
        go_wp2
        go_ret
        exact ⟨by rw [HR.out]; rfl, HB1.out.trans (hb2.mono HB1.out.size)⟩
  · have h4' : (k == 4) = false := beq_eq_false_iff_ne.2 h4
    have HT : Hid (tyFits k f n c = (((c : Int) == 0) && ((n.toList == []) && (f.toList == [])))) := by show _ = _; unfold tyFits; rw [if_neg h3, if_neg h4, HNN.out, HNF.out]; exact congrArg (· && _) H0.out.symm
    clear h3 h4
    cases hc0 : ((c : Int) == 0) <;> cases hn1 : (n.toList == []) <;> cases hf1 : (f.toList == [])
    all_goals
      rw [hc0, hn1, hf1] at HT
      go_enter Tryz.func242, Tryz.ntmps242
      go_wp2_with fail
      go_ret
      exact ⟨by rw [HT.out]; rfl, HB.out⟩

set_option maxHeartbeats 1000000 in
theorem namesFit_any (k m : Int) (f s : ByteArray) (v : Value) (hf : f.size ≤ maxLen) (hs : s.size ≤ maxLen) (w : World) :
    Calls Tryz.prog 245 #[.agg #[.int .i64 k, .int .i64 m, .string f, .string s, v]] w fun e w' => e = .returned (.bool (namesFit k f s)) ∧ Below w.heap.size w w' := by
  have HB : Hid (Below w.heap.size w (w.alloc (.cells #[.int .i64 k, .int .i64 m, .string f, .string s, v] 87))) := (Below.refl _ _).alloc (Nat.le_refl _) _
  have HNS := veil (text_eq s [])
  have HNF := veil (text_eq f [])
  by_cases h2 : k = 2
  · subst h2
    have HT : Hid (namesFit 2 f s = (quoteOk s && (f.toList == []))) := by show _ = _; rw [HNF.out]; rfl
    cases hq : quoteOk s
    · rw [hq] at HT
      go_enter Tryz.func245, Tryz.ntmps245
      go_wp2_with fail
      refine (quotable_any s hs _).mono ?_
      rintro e w' ⟨rfl, hb⟩
      rw [hq]
      go_wp2
      go_ret
      exact ⟨by rw [HT.out]; rfl, HB.out.trans (hb.mono (by simp))⟩
    · cases hf1 : (f.toList == [])
      all_goals
        rw [hq, hf1] at HT
        go_enter Tryz.func245, Tryz.ntmps245
        go_wp2_with fail
        refine (quotable_any s hs _).mono ?_
        rintro e w1 ⟨rfl, hb⟩
        rw [hq]
        have c1 : w1.cell? ⟨w.heap.size, 2, none⟩ = some (.string f) := (hb.cell (by simp)).trans (World.cell?_alloc_at _ _ _ _ rfl)
        have HB1 := veil (HB.out.trans (hb.mono (by simp)))
        clear hb
        go_wp2
        go_ret
        exact ⟨by rw [HT.out]; rfl, HB1.out⟩
  have h2' : (k == 2) = false := beq_eq_false_iff_ne.2 h2
  by_cases h3 : k = 3
  · subst h3
    have HT : Hid (namesFit 3 f s = (identOk s && (f.toList == []))) := by show _ = _; rw [HNF.out]; rfl
    cases hq : identOk s
    · rw [hq] at HT
      go_enter Tryz.func245, Tryz.ntmps245
      go_wp2_with fail
      refine (ident_any s hs _).mono ?_
      rintro e w' ⟨rfl, hb⟩
      rw [hq]
      go_wp2
      go_ret
      exact ⟨by rw [HT.out]; rfl, HB.out.trans (hb.mono (by simp))⟩
    · cases hf1 : (f.toList == [])
      all_goals
        rw [hq, hf1] at HT
        go_enter Tryz.func245, Tryz.ntmps245
        go_wp2_with fail
        refine (ident_any s hs _).mono ?_
        rintro e w1 ⟨rfl, hb⟩
        rw [hq]
        have c1 : w1.cell? ⟨w.heap.size, 2, none⟩ = some (.string f) := (hb.cell (by simp)).trans (World.cell?_alloc_at _ _ _ _ rfl)
        have HB1 := veil (HB.out.trans (hb.mono (by simp)))
        clear hb
        go_wp2
        go_ret
        exact ⟨by rw [HT.out]; rfl, HB1.out⟩
  have h3' : (k == 3) = false := beq_eq_false_iff_ne.2 h3
  by_cases h4 : k = 4
  · subst h4
    have HT : Hid (namesFit 4 f s = (identOk s && noneOrIdent f)) := rfl
    cases hq : identOk s
    · rw [hq] at HT
      go_enter Tryz.func245, Tryz.ntmps245
      go_wp2_with fail
      refine (ident_any s hs _).mono ?_
      rintro e w' ⟨rfl, hb⟩
      rw [hq]
      go_wp2
      go_ret
      exact ⟨by rw [HT.out]; rfl, HB.out.trans (hb.mono (by simp))⟩
    · rw [hq] at HT
      go_enter Tryz.func245, Tryz.ntmps245
      go_wp2_with fail
      refine (ident_any s hs _).mono ?_
      rintro e w1 ⟨rfl, hb⟩
      rw [hq]
      have c1 : w1.cell? ⟨w.heap.size, 2, none⟩ = some (.string f) := (hb.cell (by simp)).trans (World.cell?_alloc_at _ _ _ _ rfl)
      have HB1 := veil (HB.out.trans (hb.mono (by simp)))
      clear hb
      go_wp2_with fail
      refine (emptyOrIdent_any f hf _).mono ?_
      rintro e w2 ⟨rfl, hb2⟩
      go_wp2
      go_ret
      exact ⟨by rw [HT.out]; rfl, HB1.out.trans (hb2.mono HB1.out.size)⟩
  · have h4' : (k == 4) = false := beq_eq_false_iff_ne.2 h4
    have HT : Hid (namesFit k f s = ((s.toList == []) && (f.toList == []))) := by show _ = _; unfold namesFit; rw [if_neg h2, if_neg h3, if_neg h4, HNS.out, HNF.out]; rfl
    clear h2 h3 h4
    cases hn1 : (s.toList == []) <;> cases hf1 : (f.toList == [])
    all_goals
      rw [hn1, hf1] at HT
      go_enter Tryz.func245, Tryz.ntmps245
      go_wp2_with fail
      go_ret
      exact ⟨by rw [HT.out]; rfl, HB.out⟩

set_option maxHeartbeats 1000000 in
theorem countFits_any (k m : Int) (f s : ByteArray) (a : Option Addr) (c cap : Nat) (w : World) :
    Calls Tryz.prog 246 #[.agg #[.int .i64 k, .int .i64 m, .string f, .string s, .slice a c cap]] w fun e w' => e = .returned (.bool (countFits k c)) ∧ Below w.heap.size w w' := by
  have HB : Hid (Below w.heap.size w (w.alloc (.cells #[.int .i64 k, .int .i64 m, .string f, .string s, .slice a c cap] 87))) := (Below.refl _ _).alloc (Nat.le_refl _) _
  by_cases h4 : k = 4
  · subst h4
    have HT : Hid (countFits 4 c = true) := rfl
    go_enter Tryz.func246, Tryz.ntmps246
    go_wp2_with fail
    go_ret
    exact ⟨by rw [HT.out]; rfl, HB.out⟩
  have h4' : (k == 4) = false := beq_eq_false_iff_ne.2 h4
  by_cases h6 : k = 6
  · subst h6
    have HT : Hid (countFits 6 c = decide (0 < c)) := rfl
    by_cases h0 : 0 < c
    · have h0' : (0 : Int) < (c : Int) := by omega
      rw [show decide (0 < c) = true from decide_eq_true h0] at HT
      go_enter Tryz.func246, Tryz.ntmps246
      go_wp2_with fail
      go_ret
      exact ⟨by rw [HT.out]; simp [*], HB.out⟩
    · have h0' : ¬ (0 : Int) < (c : Int) := by omega
      rw [show decide (0 < c) = false from decide_eq_false h0] at HT
      go_enter Tryz.func246, Tryz.ntmps246
      go_wp2_with fail
      go_ret
      exact ⟨by rw [HT.out]; simp [*], HB.out⟩
  have h6' : (k == 6) = false := beq_eq_false_iff_ne.2 h6
  by_cases h5 : k = 5
  · subst h5
    have HT : Hid (countFits 5 c = ((c : Int) == 2)) := (len_eq c 2).symm
    go_enter Tryz.func246, Tryz.ntmps246
    go_wp2_with fail
    go_ret
    exact ⟨by rw [HT.out]; rfl, HB.out⟩
  have h5' : (k == 5) = false := beq_eq_false_iff_ne.2 h5
  by_cases h7 : k = 7
  · subst h7
    have HT : Hid (countFits 7 c = ((c : Int) == 2)) := (len_eq c 2).symm
    go_enter Tryz.func246, Tryz.ntmps246
    go_wp2_with fail
    go_ret
    exact ⟨by rw [HT.out]; rfl, HB.out⟩
  have h7' : (k == 7) = false := beq_eq_false_iff_ne.2 h7
  have HT : Hid (countFits k c = ((c : Int) == 0)) := by show _ = _; unfold countFits; rw [if_neg h4, if_neg h6, if_neg (by omega)]; exact (len_eq c 0).symm
  clear h4 h5 h6 h7
  go_enter Tryz.func246, Tryz.ntmps246
  go_wp2_with fail
  go_ret
  exact ⟨by rw [HT.out]; rfl, HB.out⟩

end Go.Proofs.YtagbaimfigljiaaGreatDoor
