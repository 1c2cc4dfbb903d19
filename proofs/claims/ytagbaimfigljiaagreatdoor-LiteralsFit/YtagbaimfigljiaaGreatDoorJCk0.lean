import Derived.Test.YtagbaimfigljiaaGreatDoorProg
import GoSem.PinnedTables
import GoSem.Claim
import GoSem.ClaimJoined
import GoSem.ClaimMapViews
import Derived.JoinedTies
import Derived.KernelRfl
import Derived.RowKit
import Derived.WalkKit
import Derived.WalkLawsBesides
import Derived.Shelf.Abstract
import Derived.Deep.RegionHeld3
import Derived.Deep.AppendLies
import Derived.Deep.MidRow
import Derived.Deep.Upon
namespace Go.Proofs.YtagbaimfigljiaaGreatDoor
open Go.RowKit
set_option maxRecDepth 100000

/-- a fact that the walk must not take for a rule. -/
theorem veil {p : Prop} (h : p) : Hid p := h

def isLetter (b : Int) : Bool := decide (97 ≤ b) && decide (b ≤ 122)
def isDigit (b : Int) : Bool := decide (48 ≤ b) && decide (b ≤ 57)
def isWordB (b : Int) : Bool := isLetter b || isDigit b
def isQuoteB (b : Int) : Bool := decide (32 ≤ b) && decide (b ≤ 126) && decide (b ≠ 34) && decide (b ≠ 92)
def isIn (n lo hi : Int) : Bool := decide (lo ≤ n) && decide (n ≤ hi)

theorem letter_any (b : Int) (w : World) : Calls Tryz.prog 251 #[.int .u8 b] w fun e w' => e = .returned (.bool (isLetter b)) ∧ w = w' := by
  by_cases h1 : 97 ≤ b <;> by_cases h2 : b ≤ 122
  all_goals
    go_enter Tryz.func251, Tryz.ntmps251
    go_wp2
    all_goals first | (exfalso; omega) | (go_ret; exact ⟨by simp [isLetter, h1, h2], rfl⟩)

theorem digit_any (b : Int) (w : World) : Calls Tryz.prog 264 #[.int .u8 b] w fun e w' => e = .returned (.bool (isDigit b)) ∧ w = w' := by
  by_cases h1 : 48 ≤ b <;> by_cases h2 : b ≤ 57
  all_goals
    go_enter Tryz.func264, Tryz.ntmps264
    go_wp2
    all_goals first | (exfalso; omega) | (go_ret; exact ⟨by simp [isDigit, h1, h2], rfl⟩)

theorem blank_any (b : Int) (w : World) : Calls Tryz.prog 190 #[.int .u8 b] w fun e w' => e = .returned (.bool (b == 32)) ∧ w = w' := by
  go_enter Tryz.func190, Tryz.ntmps190
  go_wp2
  go_ret
  exact ⟨rfl, rfl⟩

theorem wordByte_any (b : Int) (w : World) : Calls Tryz.prog 253 #[.int .u8 b] w fun e w' => e = .returned (.bool (isWordB b)) ∧ w = w' := by
  by_cases h1 : isLetter b = true
  · go_enter Tryz.func253, Tryz.ntmps253
    go_wp2_with (go_at_call 251; refine (letter_any _ _).mono ?_; rintro e w' ⟨rfl, rfl⟩)
    go_ret
    exact ⟨by simp [isWordB, h1], rfl⟩
  · have h1' : isLetter b = false := by simpa using h1
    go_enter Tryz.func253, Tryz.ntmps253
    go_wp2_with (first | (go_at_call 251; refine (letter_any _ _).mono ?_; rintro e w' ⟨rfl, rfl⟩) | (go_at_call 264; refine (digit_any _ _).mono ?_; rintro e w' ⟨rfl, rfl⟩))
    go_ret
    exact ⟨by simp [isWordB, h1'], rfl⟩

theorem quoteByte_any (b : Int) (w : World) : Calls Tryz.prog 312 #[.int .u8 b] w fun e w' => e = .returned (.bool (isQuoteB b)) ∧ w = w' := by
  by_cases h1 : 32 ≤ b <;> by_cases h2 : b ≤ 126 <;> by_cases h3 : b = 34 <;> by_cases h4 : b = 92
  all_goals
    try subst h3
    try subst h4
    first
    | (exfalso; omega)
    | (go_enter Tryz.func312, Tryz.ntmps312
       go_wp2
       all_goals first | (exfalso; omega) | (go_ret; exact ⟨by simp_all [isQuoteB], rfl⟩))

end Go.Proofs.YtagbaimfigljiaaGreatDoor
namespace Go.Proofs.YtagbaimfigljiaaGreatDoor
open Go.RowKit
set_option maxRecDepth 100000

/-- a function value, asked byte by byte of s from place a on, as long as it says yes: at place k it answers p k; St k: what holds of the world ahead of the question at k. -/
def Steps (g : Nat) (lb : Array Value) (s : ByteArray) (p : Nat → Bool) (St : Nat → World → Prop) (a : Nat) : Prop :=
  ∀ (k : Nat) (h : k < s.size) (W : World), a ≤ k → (∀ j, a ≤ j → j < k → p j = true) → St k W → Calls Tryz.prog g (#[.int .u8 ((s[k]'h).toNat : Int)] ++ lb) W fun e w' => e = .returned (.bool (p k)) ∧ St (k + 1) w'

def RunTo (p : Nat → Bool) (n a k : Nat) : Prop := a ≤ k ∧ k ≤ n ∧ (∀ j, a ≤ j → j < k → p j = true) ∧ (k < n → p k = false)

set_option maxHeartbeats 1000000 in
theorem run_any (g : Nat) (lb : Array Value) (eg : ∀ args w, (callFunc g args).run Tryz.prog w = .ok (.enter g args) w) (s : ByteArray) (hs : s.size ≤ maxLen) (p : Nat → Bool) (St : Nat → World → Prop)
    (B : Nat) (hSt : ∀ k W, St k W → W.cell? ⟨B, 0, none⟩ = some (.string s)) (a : Int) (hp : Steps g lb s p St a.toNat) (h0 : 0 ≤ a) (h1 : a ≤ s.size) (w : World) (hw : St a.toNat w) :
    Calls Tryz.prog 261 #[.int .i64 a, .func (.func g) #[] lb, .pointer (some ⟨B, 0, none⟩)] w fun e w' => ∃ k : Nat, e = .returned (.int .i64 k) ∧ RunTo p s.size a.toNat k ∧ ∃ j, St j w' := by
  unfold maxLen at hs
  obtain ⟨a, rfl⟩ := Int.eq_ofNat_of_zero_le h0
  rw [Int.toNat_natCast] at hw hp ⊢
  have HP : Hid (Steps g lb s p St a) := hp
  clear hp
  go_enter Tryz.func261, Tryz.ntmps261
  go_wp2
  go_loopw [6] (fun i wr => ∃ k : Nat, a ≤ k ∧ k ≤ s.size ∧ i = .int .i64 k ∧ (∀ j, a ≤ j → j < k → p j = true) ∧ St k wr) (fun i _ => s.size - (intOf i).toNat)
  case atStart => exact ⟨a, Nat.le_refl _, by omega, rfl, fun j h1 h2 => absurd h2 (by omega), hw⟩
  case round =>
    obtain ⟨k, hk0, hk, rfl, hall, hst⟩ := hrel
    have hc := hSt k wr hst
    clear hSt
    by_cases hlt : k < s.size
    · have cS := HP.out k hlt wr hk0 hall hst
      clear HP
      cases hpk : p k
      · rw [hpk] at cS
        have HA : Hid (∀ j, a ≤ j → j < k → p j = true) := hall
        have HPK : Hid (p k = false) := hpk
        clear hall hpk
        go_wp2_with (go_at_fn g; refine cS.mono ?_; rintro e w' ⟨rfl, hst'⟩)
        go_ret
        exact ⟨k, rfl, ⟨hk0, hk, HA.out, fun _ => HPK.out⟩, k + 1, hst'⟩
      · rw [hpk] at cS
        have HA : Hid (∀ j, a ≤ j → j < k → p j = true) := hall
        have HPK : Hid (p k = true) := hpk
        clear hall hpk
        go_wp2_with (go_at_fn g; refine cS.mono ?_; rintro e w' ⟨rfl, hst'⟩)
        go_roundw
        case rel => exact ⟨k + 1, by omega, by omega, by go_num, fun j h1 h2 => by
          by_cases e : j = k
          · rw [e]; exact HPK.out
          · exact HA.out j h1 (by omega), hst'⟩
        case measure => simp [intOf]; omega
    · have HA : Hid (∀ j, a ≤ j → j < k → p j = true) := hall
      clear hall HP
      go_wp2
      go_ret
      exact ⟨k, rfl, ⟨hk0, hk, HA.out, fun h => absurd h hlt⟩, k, hst⟩

theorem runOf_any (s : ByteArray) (w : World) :
    Calls Tryz.prog 189 #[.string s] w fun e w' => e = .returned (.func (.func 261) #[] #[.pointer (some ⟨w.heap.size, 0, none⟩)]) ∧ w.alloc (.cells #[.string s] 9) = w' := by
  have hmf : ∀ (fn : Fn) (first cap : Array Value) (w : World), (Instr.makeFunc fn first cap).run Tryz.prog w = .ok (.func fn first cap) w := fun _ _ _ _ => rfl
  go_enter Tryz.func189, Tryz.ntmps189
  go_wp2
  go_ret
  exact ⟨rfl, rfl⟩

end Go.Proofs.YtagbaimfigljiaaGreatDoor
namespace Go.Proofs.YtagbaimfigljiaaGreatDoor
open Go.RowKit
set_option maxRecDepth 100000

def allB (p : Nat → Bool) (n : Nat) : Bool := (List.range n).all p

theorem allB_iff (p : Nat → Bool) (n : Nat) : allB p n = true ↔ ∀ j, j < n → p j = true := by
  simp [allB, List.all_eq_true, List.mem_range]

theorem runTo_all {p : Nat → Bool} {n k : Nat} (h : RunTo p n 0 k) : ((k : Int) == (n : Int)) = allB p n := by
  obtain ⟨_, h2, h3, h4⟩ := h
  rw [Bool.eq_iff_iff, allB_iff, beq_iff_eq]
  constructor
  · intro e j hj
    exact h3 j (Nat.zero_le _) (by omega)
  · intro e
    by_cases hk : k < n
    · have := h4 hk
      rw [e k hk] at this
      cases this
    · omega

/-- byte j of s, as a number (0 beyond its end). -/
def byteAt (s : ByteArray) (j : Nat) : Int := ((s.data.toList.getD j 0).toNat : Int)

theorem byteAt_get (s : ByteArray) (k : Nat) (h : k < s.size) : ((s[k]'h).toNat : Int) = byteAt s k := by
  unfold byteAt
  have h' : k < s.data.toList.length := by simpa using h
  rw [List.getD_eq_getElem?_getD, List.getElem?_eq_getElem h']
  rfl

theorem byteAt_range (s : ByteArray) (k : Nat) : 0 ≤ byteAt s k ∧ byteAt s k ≤ 255 := by
  unfold byteAt
  have := (s.data.toList.getD k 0).toNat_lt
  omega

set_option maxHeartbeats 400000 in
theorem every_any (g : Nat) (lb : Array Value) (eg : ∀ args w, (callFunc g args).run Tryz.prog w = .ok (.enter g args) w) (s : ByteArray) (hs : s.size ≤ maxLen) (p : Nat → Bool) (St : Nat → World → Prop)
    (w : World) (hp : Steps g lb s p St 0) (hSt : ∀ k W, St k W → W.cell? ⟨w.heap.size, 0, none⟩ = some (.string s)) (hw : St 0 (w.alloc (.cells #[.string s] 9))) :
    Calls Tryz.prog 252 #[.string s, .func (.func g) #[] lb] w fun e w' => e = .returned (.bool (allB p s.size)) ∧ ∃ j, St j w' := by
  have hr := run_any g lb eg s hs p St w.heap.size hSt 0 hp (by omega) (by omega) _ hw
  clear hp hSt
  unfold maxLen at hs
  go_enter Tryz.func252, Tryz.ntmps252
  go_wp2_with (go_at_call 189; refine (runOf_any _ _).mono ?_; rintro e w' ⟨rfl, rfl⟩)
  refine hr.mono ?_
  rintro e w' ⟨k, rfl, hk, hj⟩
  have hk' := runTo_all hk
  clear hr eg
  have HK : Hid (((k : Int) == (s.size : Int)) = allB p s.size) := hk'
  clear hk' hk
  go_wp2
  go_ret
  exact ⟨by rw [HK.out]; rfl, hj⟩

/-- at a predicate that turns nothing. -/
theorem every_pure (g : Nat) (eg : ∀ args w, (callFunc g args).run Tryz.prog w = .ok (.enter g args) w) (q : Int → Bool) (hq : ∀ (b : Int) (w : World), Calls Tryz.prog g #[.int .u8 b] w fun e w' => e = .returned (.bool (q b)) ∧ w = w')
    (s : ByteArray) (hs : s.size ≤ maxLen) (w : World) :
    Calls Tryz.prog 252 #[.string s, .func (.func g) #[] #[]] w fun e w' => e = .returned (.bool (allB (fun j => q (byteAt s j)) s.size)) ∧ w.alloc (.cells #[.string s] 9) = w' := by
  refine (every_any g #[] eg s hs (fun j => q (byteAt s j)) (fun _ W => w.alloc (.cells #[.string s] 9) = W) w ?_ ?_ rfl).mono ?_
  · rintro k hk W _ _ rfl
    refine (hq _ _).mono ?_
    rintro e w' ⟨rfl, rfl⟩
    exact ⟨by rw [byteAt_get], rfl⟩
  · rintro k W rfl
    rw [World.cell?_alloc_at _ _ _ _ rfl]; rfl
  · rintro e w' ⟨rfl, _, h⟩
    exact ⟨rfl, h⟩

end Go.Proofs.YtagbaimfigljiaaGreatDoor
namespace Go.Proofs.YtagbaimfigljiaaGreatDoor
open Go.RowKit
set_option maxRecDepth 100000

def wordOk (s : ByteArray) : Bool := isIn s.size 1 8 && (isLetter (byteAt s 0) && allB (fun j => isWordB (byteAt s j)) s.size)
theorem word_long (s : ByteArray) (h : ¬ (1 ≤ s.size ∧ s.size ≤ 8)) : wordOk s = false := by
  have : isIn (s.size : Int) 1 8 = false := by simp [isIn]; omega
  simp [wordOk, this]

set_option maxHeartbeats 400000 in
theorem word_any (s : ByteArray) (hs : s.size ≤ maxLen) (w : World) : Calls Tryz.prog 177 #[.string s] w fun e w' => e = .returned (.bool (wordOk s)) ∧ Below w.heap.size w w' := by
  have hmax := hs
  unfold maxLen at hs
  by_cases h0 : s.size = 0
  · have hz : (((s.size : Nat) : Int) == 0) = true := by simp [h0]
    have hf := word_long s (by omega)
    have HF : Hid (wordOk s = false) := hf
    clear hf h0
    go_enter Tryz.func177, Tryz.ntmps177
    go_wp2
    go_ret
    exact ⟨by rw [HF.out]; rfl, Below.refl _ _⟩
  · have hz : (((s.size : Nat) : Int) == 0) = false := by simp [h0]
    by_cases h8 : 8 < s.size
    · have hf := word_long s (by omega)
      have HF : Hid (wordOk s = false) := hf
      have h8' : (8 : Int) < (s.size : Int) := by omega
      clear hf h0
      go_enter Tryz.func177, Tryz.ntmps177
      go_wp2
      go_ret
      exact ⟨by rw [HF.out]; rfl, Below.refl _ _⟩
    · have h8' : ¬ (8 : Int) < (s.size : Int) := by omega
      have hpos : 0 < s.size := by omega
      have hin : isIn (s.size : Int) 1 8 = true := by simp [isIn]; omega
      have hb0 := byteAt_get s 0 hpos
      have HB : Hid (((s[0]'hpos).toNat : Int) = byteAt s 0) := hb0
      have HW : Hid (wordOk s = (isLetter (byteAt s 0) && allB (fun j => isWordB (byteAt s j)) s.size)) := by show _ = _; simp only [wordOk, hin, Bool.true_and]
      clear hb0 hin h0 h8
      cases hl : isLetter ((s[0]'hpos).toNat : Int)
      · have HL : Hid (isLetter ((s[0]'hpos).toNat : Int) = false) := hl
        go_enter Tryz.func177, Tryz.ntmps177
        go_wp2_with (go_at_call 251; refine (letter_any _ _).mono ?_; rintro e w' ⟨rfl, rfl⟩)
        go_ret
        exact ⟨by rw [HW.out, ← HB.out, HL.out]; rfl, Below.refl _ _⟩
      · have HL : Hid (isLetter ((s[0]'hpos).toNat : Int) = true) := hl
        go_enter Tryz.func177, Tryz.ntmps177
        go_wp2_with (first
          | (go_at_call 251; refine (letter_any _ _).mono ?_; rintro e w' ⟨rfl, rfl⟩)
          | (go_at_call 252; refine (every_pure 253 (enters_of Tryz.func253 (by kernel_rfl) rfl) isWordB wordByte_any s hmax _).mono ?_; rintro e w' ⟨rfl, rfl⟩))
        go_ret
        exact ⟨by rw [HW.out, ← HB.out, HL.out]; rfl, (Below.refl _ _).alloc (Nat.le_refl _) _⟩

end Go.Proofs.YtagbaimfigljiaaGreatDoor
namespace Go.Proofs.YtagbaimfigljiaaGreatDoor
open Go.RowKit
set_option maxRecDepth 100000

def quoteOk (s : ByteArray) : Bool := decide (s.size ≤ 20) && allB (fun j => isQuoteB (byteAt s j)) s.size

theorem quote_long (s : ByteArray) (h : ¬ s.size ≤ 20) : quoteOk s = false := by simp [quoteOk, h]
theorem quote_short (s : ByteArray) (h : s.size ≤ 20) : quoteOk s = allB (fun j => isQuoteB (byteAt s j)) s.size := by simp [quoteOk, h]

set_option maxHeartbeats 400000 in
theorem quotable_any (s : ByteArray) (hs : s.size ≤ maxLen) (w : World) : Calls Tryz.prog 266 #[.string s] w fun e w' => e = .returned (.bool (quoteOk s)) ∧ Below w.heap.size w w' := by
  have hmax := hs
  unfold maxLen at hs
  by_cases h : s.size ≤ 20
  · have h' : (s.size : Int) ≤ 20 := by omega
    have HQ := veil (quote_short s h)
    clear h
    go_enter Tryz.func266, Tryz.ntmps266
    go_wp2_with (go_at_call 252; refine (every_pure 312 (enters_of Tryz.func312 (by kernel_rfl) rfl) isQuoteB quoteByte_any s hmax _).mono ?_; rintro e w' ⟨rfl, rfl⟩)
    go_ret
    exact ⟨by rw [HQ.out]; rfl, (Below.refl _ _).alloc (Nat.le_refl _) _⟩
  · have h' : ¬ (s.size : Int) ≤ 20 := by omega
    have HQ := veil (quote_long s h)
    clear h
    go_enter Tryz.func266, Tryz.ntmps266
    go_wp2
    go_ret
    exact ⟨by rw [HQ.out]; rfl, Below.refl _ _⟩

end Go.Proofs.YtagbaimfigljiaaGreatDoor
namespace Go.Proofs.YtagbaimfigljiaaGreatDoor
open Go.RowKit
set_option maxRecDepth 100000

inductive Ty where
  | mk (kind : Int) (of name : ByteArray) (args : List Ty)
inductive Ex where
  | mk (kind n : Int) (of s : ByteArray) (args : List Ex)
structure Fd where
  name : ByteArray
  is : Ty
structure Fu where
  name : ByteArray
  var : ByteArray
  params : List Fd
  result : Ty
  body : Ex
structure Mo where
  uses : List ByteArray
  types : List Fd
  funcs : List Fu

def kwB (s : ByteArray) : Bool := s.data.toList == [117, 115, 101] || (s.data.toList == [116, 121, 112, 101] || (s.data.toList == [102, 117, 110, 99] || (s.data.toList == [105, 110, 116] || s.data.toList == [116, 101, 120, 116])))
def identOk (s : ByteArray) : Bool := wordOk s && !kwB s
def noneB (s : ByteArray) : Bool := s.data.toList == []
def noneOrIdent (s : ByteArray) : Bool := noneB s || identOk s

def tyFits (k : Int) (o n : ByteArray) (c : Nat) : Bool :=
  if k = 3 then c == 1 && (noneB n && noneB o) else if k = 4 then c == 0 && (identOk n && noneOrIdent o) else c == 0 && (noneB n && noneB o)

/-- the first of a list that is wrong. -/
def firstBad {α : Type} (f : α → Int) : List α → Int
  | [] => 0
  | t :: r => if f t = 0 then firstBad f r else f t

mutual
def tyFault : Ty → Nat → Int
  | .mk k o n xs, d => if 10 < d then 1 else if isIn k 1 4 = false then 3 else if tyFits k o n xs.length = false then 4 else tysFault xs (d + 1)
def tysFault : List Ty → Nat → Int
  | [], _ => 0
  | t :: r, d => if tyFault t d = 0 then tysFault r d else tyFault t d
end

theorem tysFault_first : ∀ (l : List Ty) (d : Nat), tysFault l d = firstBad (fun t => tyFault t d) l
  | [], d => by simp [tysFault, firstBad]
  | t :: r, d => by simp only [tysFault, firstBad, tysFault_first r d]

def namesFit (k : Int) (o s : ByteArray) : Bool :=
  if k = 2 then quoteOk s && noneB o else if k = 3 then identOk s && noneB o else if k = 4 then identOk s && noneOrIdent o else noneB s && noneB o
def countFits (k : Int) (c : Nat) : Bool :=
  if k = 4 then true else if k = 6 then decide (0 < c) else if k = 5 ∨ k = 7 then c == 2 else c == 0

mutual
def exFault : Ex → Nat → Int
  | .mk k n o s xs, d => if 10 < d then 1 else if isIn k 1 7 = false then 3 else if 8 < xs.length then 1 else if (n ≠ 0 ∧ k ≠ 1) ∨ namesFit k o s = false ∨ countFits k xs.length = false then 4 else if isIn n 0 999999 = false then 2 else exsFault xs (d + 1)
def exsFault : List Ex → Nat → Int
  | [], _ => 0
  | t :: r, d => if exFault t d = 0 then exsFault r d else exFault t d
end

theorem exsFault_first : ∀ (l : List Ex) (d : Nat), exsFault l d = firstBad (fun t => exFault t d) l
  | [], d => by simp [exsFault, firstBad]
  | t :: r, d => by simp only [exsFault, firstBad, exsFault_first r d]

def useFault (s : ByteArray) : Int := if identOk s = true then 0 else 4
def fdFault (f : Fd) : Int := if identOk f.name = true then tyFault f.is 1 else 4
def fuFault (f : Fu) : Int :=
  if identOk f.name = false ∨ noneOrIdent f.var = false then 4 else if 8 < f.params.length then 1 else
  if firstBad fdFault f.params ≠ 0 then firstBad fdFault f.params else if tyFault f.result 1 ≠ 0 then tyFault f.result 1 else exFault f.body 1
def moFault (m : Mo) : Int :=
  if 24 < wrap64 (wrap64 ((m.uses.length : Int) + m.types.length) + m.funcs.length) then 1 else
  if firstBad useFault m.uses ≠ 0 then firstBad useFault m.uses else if firstBad fdFault m.types ≠ 0 then firstBad fdFault m.types else firstBad fuFault m.funcs

theorem firstBad_at {α : Type} (f : α → Int) : ∀ (l : List α) (k : Nat) (h : k < l.length), (∀ j (hj : j < k), f (l[j]'(by omega)) = 0) → f l[k] ≠ 0 → firstBad f l = f l[k]
  | [], k, h, _, _ => absurd h (by simp)
  | t :: r, 0, _, _, h0 => by
    have h0' : f t ≠ 0 := by simpa using h0
    simp [firstBad, h0']
  | t :: r, k + 1, h, hj, h0 => by
    have ht : f t = 0 := by simpa using hj 0 (by omega)
    have ih := firstBad_at f r k (by simpa using h) (fun j hjk => by simpa using hj (j + 1) (by omega)) (by simpa using h0)
    simpa [firstBad, ht] using ih

theorem firstBad_none {α : Type} (f : α → Int) : ∀ (l : List α), (∀ j (hj : j < l.length), f l[j] = 0) → firstBad f l = 0
  | [], _ => rfl
  | t :: r, h => by
    have ht : f t = 0 := h 0 (Nat.zero_lt_succ _)
    have ih := firstBad_none f r (fun j hj => h (j + 1) (Nat.succ_lt_succ hj))
    simp [firstBad, ht, ih]

theorem firstBad_all {α : Type} (f : α → Int) : ∀ (l : List α), firstBad f l = 0 → ∀ j (hj : j < l.length), f l[j] = 0
  | [], _, j, hj => absurd hj (by simp)
  | t :: r, h, j, hj => by
    by_cases ht : f t = 0
    · have h' : firstBad f r = 0 := by simpa [firstBad, ht] using h
      cases j with
      | zero => simpa using ht
      | succ j => simpa using firstBad_all f r h' j (by simpa using hj)
    · simp only [firstBad, if_neg ht] at h
      exact absurd h ht

/-! ### How they lie in memory. S: the blocks in which they may lie. -/

def RowAt {α : Type} (P : α → Nat → Nat → Prop) (c : Nat) : List α → Nat → Nat → Prop
  | [], _, _ => True
  | t :: r, b, o => P t b o ∧ RowAt P c r b (o + c)

theorem RowAt.get {α : Type} {P : α → Nat → Nat → Prop} {c : Nat} : ∀ {l : List α} {b o : Nat}, RowAt P c l b o → ∀ i (hi : i < l.length), P l[i] b (o + i * c)
  | [], b, o, _, i, hi => absurd hi (by simp)
  | t :: r, b, o, h, 0, _ => by simpa using h.1
  | t :: r, b, o, h, i + 1, hi => by
    have := RowAt.get h.2 i (by simpa using hi)
    have e : o + (i + 1) * c = o + c + i * c := by rw [Nat.add_mul]; omega
    rw [e]
    simpa using this

theorem RowAt.mk {α : Type} {P : α → Nat → Nat → Prop} {c : Nat} : ∀ {l : List α} {b o : Nat}, (∀ i (hi : i < l.length), P l[i] b (o + i * c)) → RowAt P c l b o
  | [], b, o, _ => trivial
  | t :: r, b, o, h => ⟨by have := h 0 (Nat.zero_lt_succ _); rw [Nat.zero_mul, Nat.add_zero] at this; exact this, RowAt.mk fun i hi => by
    have := h (i + 1) (Nat.succ_lt_succ hi)
    have e : o + (i + 1) * c = o + c + i * c := by rw [Nat.add_mul]; omega
    rw [e] at this
    exact this⟩

theorem RowAt.imp {α : Type} {P Q : α → Nat → Nat → Prop} {c : Nat} {l : List α} {b o : Nat} (h : RowAt P c l b o) (hpq : ∀ i (hi : i < l.length) o', P l[i] b o' → Q l[i] b o') : RowAt Q c l b o :=
  RowAt.mk fun i hi => hpq i hi _ (h.get i hi)

/-- a slice that holds these. -/
def SlAt {α : Type} (S : Nat → Prop) (P : α → Nat → Nat → Prop) (c : Nat) (l : List α) (v : Value) : Prop :=
  ∃ a cap, v = .slice a l.length cap ∧ (l.length ≤ maxLen ∧ l.length ≤ cap) ∧ (l.length = 0 ∨ ∃ b o, a = some ⟨b, o, none⟩ ∧ S b ∧ RowAt P c l b o)

mutual
def TyAt (S : Nat → Prop) (w : World) : Ty → Nat → Nat → Prop
  | .mk k f n xs, b, o => w.cell? ⟨b, o, none⟩ = some (.int .i64 k) ∧ w.cell? ⟨b, o + 1, none⟩ = some (.string f) ∧ w.cell? ⟨b, o + 2, none⟩ = some (.string n) ∧ f.size ≤ maxLen ∧ n.size ≤ maxLen ∧
      ∃ v, w.cell? ⟨b, o + 3, none⟩ = some v ∧ ∃ a cap, v = .slice a xs.length cap ∧ (xs.length ≤ maxLen ∧ xs.length ≤ cap) ∧ (xs.length = 0 ∨ ∃ b' o', a = some ⟨b', o', none⟩ ∧ S b' ∧ TysAt S w xs b' o')
def TysAt (S : Nat → Prop) (w : World) : List Ty → Nat → Nat → Prop
  | [], _, _ => True
  | t :: r, b, o => TyAt S w t b o ∧ TysAt S w r b (o + 4)
end

theorem tysAt_row (S : Nat → Prop) (w : World) : ∀ (l : List Ty) (b o : Nat), TysAt S w l b o ↔ RowAt (TyAt S w) 4 l b o
  | [], b, o => by simp [TysAt, RowAt]
  | t :: r, b, o => by simp only [TysAt, RowAt, tysAt_row S w r b (o + 4)]

mutual
def ExAt (S : Nat → Prop) (w : World) : Ex → Nat → Nat → Prop
  | .mk k n f s xs, b, o => w.cell? ⟨b, o, none⟩ = some (.int .i64 k) ∧ w.cell? ⟨b, o + 1, none⟩ = some (.int .i64 n) ∧ w.cell? ⟨b, o + 2, none⟩ = some (.string f) ∧ w.cell? ⟨b, o + 3, none⟩ = some (.string s) ∧ f.size ≤ maxLen ∧ s.size ≤ maxLen ∧
      ∃ v, w.cell? ⟨b, o + 4, none⟩ = some v ∧ ∃ a cap, v = .slice a xs.length cap ∧ (xs.length ≤ maxLen ∧ xs.length ≤ cap) ∧ (xs.length = 0 ∨ ∃ b' o', a = some ⟨b', o', none⟩ ∧ S b' ∧ ExsAt S w xs b' o')
def ExsAt (S : Nat → Prop) (w : World) : List Ex → Nat → Nat → Prop
  | [], _, _ => True
  | t :: r, b, o => ExAt S w t b o ∧ ExsAt S w r b (o + 5)
end

theorem exsAt_row (S : Nat → Prop) (w : World) : ∀ (l : List Ex) (b o : Nat), ExsAt S w l b o ↔ RowAt (ExAt S w) 5 l b o
  | [], b, o => by simp [ExsAt, RowAt]
  | t :: r, b, o => by simp only [ExsAt, RowAt, exsAt_row S w r b (o + 5)]

def StrAt (w : World) (s : ByteArray) (b o : Nat) : Prop := w.cell? ⟨b, o, none⟩ = some (.string s) ∧ s.size ≤ maxLen
def FdAt (S : Nat → Prop) (w : World) (f : Fd) (b o : Nat) : Prop := StrAt w f.name b o ∧ TyAt S w f.is b (o + 1)
def FuAt (S : Nat → Prop) (w : World) (f : Fu) (b o : Nat) : Prop :=
  StrAt w f.name b o ∧ StrAt w f.var b (o + 1) ∧ (∃ v, w.cell? ⟨b, o + 2, none⟩ = some v ∧ SlAt S (FdAt S w) 5 f.params v) ∧ TyAt S w f.result b (o + 3) ∧ ExAt S w f.body b (o + 7)

/-- a type's, an expression's cells. -/
def TyCs (S : Nat → Prop) (w : World) (t : Ty) (k : Int) (f n : ByteArray) (va : Value) : Prop := ∃ xs, t = .mk k f n xs ∧ f.size ≤ maxLen ∧ n.size ≤ maxLen ∧ SlAt S (TyAt S w) 4 xs va
def ExCs (S : Nat → Prop) (w : World) (t : Ex) (k n : Int) (f s : ByteArray) (va : Value) : Prop := ∃ xs, t = .mk k n f s xs ∧ f.size ≤ maxLen ∧ s.size ≤ maxLen ∧ SlAt S (ExAt S w) 5 xs va

/-- .. xs values. -/
def TyIs (S : Nat → Prop) (w : World) (t : Ty) (v : Value) : Prop := ∃ k f n va, v = .agg #[.int .i64 k, .string f, .string n, va] ∧ TyCs S w t k f n va
def ExIs (S : Nat → Prop) (w : World) (t : Ex) (v : Value) : Prop := ∃ k n f s va, v = .agg #[.int .i64 k, .int .i64 n, .string f, .string s, va] ∧ ExCs S w t k n f s va
def FdIs (S : Nat → Prop) (w : World) (x : Fd) (v : Value) : Prop := ∃ k f n va, v = .agg #[.string x.name, .int .i64 k, .string f, .string n, va] ∧ x.name.size ≤ maxLen ∧ TyCs S w x.is k f n va
def FuIs (S : Nat → Prop) (w : World) (x : Fu) (v : Value) : Prop := ∃ vp k f n va k' n' f' s' va', v = .agg #[.string x.name, .string x.var, vp, .int .i64 k, .string f, .string n, va, .int .i64 k', .int .i64 n', .string f', .string s', va'] ∧ x.name.size ≤ maxLen ∧ x.var.size ≤ maxLen ∧
  SlAt S (FdAt S w) 5 x.params vp ∧ TyCs S w x.result k f n va ∧ ExCs S w x.body k' n' f' s' va'
def MoIs (S : Nat → Prop) (w : World) (m : Mo) (v : Value) : Prop := ∃ vu vt vf, v = .agg #[vu, vt, vf] ∧ SlAt S (StrAt w) 1 m.uses vu ∧ SlAt S (FdAt S w) 5 m.types vt ∧ SlAt S (FuAt S w) 12 m.funcs vf

theorem tyAt_cells {S : Nat → Prop} {w : World} {t : Ty} {b o : Nat} : TyAt S w t b o ↔
    ∃ k f n va, w.cell? ⟨b, o, none⟩ = some (.int .i64 k) ∧ w.cell? ⟨b, o + 1, none⟩ = some (.string f) ∧ w.cell? ⟨b, o + 2, none⟩ = some (.string n) ∧ w.cell? ⟨b, o + 3, none⟩ = some va ∧ TyCs S w t k f n va := by
  cases t with
  | mk k f n xs =>
    simp only [TyAt, TyCs, SlAt, tysAt_row]
    constructor
    · rintro ⟨h0, h1, h2, h3, h4, v, h5, h6⟩
      exact ⟨k, f, n, v, h0, h1, h2, h5, xs, rfl, h3, h4, h6⟩
    · rintro ⟨k', f', n', v, h0, h1, h2, h5, xs', e, h3, h4, h6⟩
      cases e
      exact ⟨h0, h1, h2, h3, h4, v, h5, h6⟩
theorem exAt_cells {S : Nat → Prop} {w : World} {t : Ex} {b o : Nat} : ExAt S w t b o ↔
    ∃ k n f s va, w.cell? ⟨b, o, none⟩ = some (.int .i64 k) ∧ w.cell? ⟨b, o + 1, none⟩ = some (.int .i64 n) ∧ w.cell? ⟨b, o + 2, none⟩ = some (.string f) ∧ w.cell? ⟨b, o + 3, none⟩ = some (.string s) ∧ w.cell? ⟨b, o + 4, none⟩ = some va ∧ ExCs S w t k n f s va := by
  cases t with
  | mk k n f s xs =>
    simp only [ExAt, ExCs, SlAt, exsAt_row]
    constructor
    · rintro ⟨h0, h1, h2, h2', h3, h4, v, h5, h6⟩
      exact ⟨k, n, f, s, v, h0, h1, h2, h2', h5, xs, rfl, h3, h4, h6⟩
    · rintro ⟨k', n', f', s', v, h0, h1, h2, h2', h5, xs', e, h3, h4, h6⟩
      cases e
      exact ⟨h0, h1, h2, h2', h3, h4, v, h5, h6⟩

/-! ### Nothing turns in those blocks: all lies xs it lay. -/

/-- the blocks of S lie xs they lay, and are blocks of S'. -/
structure Keeps (S S' : Nat → Prop) (w w' : World) : Prop where
  blocks : ∀ b, S b → w'.heap[b]? = w.heap[b]?
  sub : ∀ b, S b → S' b

theorem SlAt.imp {α : Type} {S S' : Nat → Prop} (hs : ∀ b, S b → S' b) {P Q : α → Nat → Nat → Prop} {c : Nat} {l : List α} {v : Value} (h : SlAt S P c l v) (hpq : ∀ t ∈ l, ∀ b o, S b → P t b o → Q t b o) : SlAt S' Q c l v := by
  obtain ⟨a, cap, rfl, hl, h⟩ := h
  refine ⟨a, cap, rfl, hl, h.imp_right ?_⟩
  rintro ⟨b, o, rfl, hb, hr⟩
  exact ⟨b, o, rfl, hs b hb, hr.imp fun i hi o' => hpq _ (List.getElem_mem hi) b o' hb⟩

theorem Keeps.cell {S S' : Nat → Prop} {w w' : World} (hk : Keeps S S' w w') {b o : Nat} (hb : S b) : w'.cell? ⟨b, o, none⟩ = w.cell? ⟨b, o, none⟩ := World.cell?_of_block (hk.blocks b hb)

mutual
theorem TyAt.keep {S S' : Nat → Prop} {w w' : World} (hk : Keeps S S' w w') : ∀ {t : Ty} {b o : Nat}, S b → TyAt S w t b o → TyAt S' w' t b o
  | .mk k f n xs, b, o, hb, h => by
    rw [TyAt] at h ⊢
    obtain ⟨c0, c1, c2, s0, s1, v, c3, a, cap, rfl, hl, hr⟩ := h
    rw [hk.cell hb, hk.cell hb, hk.cell hb, hk.cell hb]
    refine ⟨c0, c1, c2, s0, s1, _, c3, a, cap, rfl, hl, ?_⟩
    rcases hr with hr | ⟨b', o', ha, hb', hr⟩
    · exact Or.inl hr
    · exact Or.inr ⟨b', o', ha, hk.sub _ hb', TysAt.keep hk hb' hr⟩
theorem TysAt.keep {S S' : Nat → Prop} {w w' : World} (hk : Keeps S S' w w') : ∀ {l : List Ty} {b o : Nat}, S b → TysAt S w l b o → TysAt S' w' l b o
  | [], _, _, _, _ => by rw [TysAt]; trivial
  | t :: r, b, o, hb, h => by
    rw [TysAt] at h ⊢
    exact ⟨TyAt.keep hk hb h.1, TysAt.keep hk hb h.2⟩
end
mutual
theorem ExAt.keep {S S' : Nat → Prop} {w w' : World} (hk : Keeps S S' w w') : ∀ {t : Ex} {b o : Nat}, S b → ExAt S w t b o → ExAt S' w' t b o
  | .mk k n f s xs, b, o, hb, h => by
    rw [ExAt] at h ⊢
    obtain ⟨c0, c1, c2, c3, s0, s1, v, c4, a, cap, rfl, hl, hr⟩ := h
    rw [hk.cell hb, hk.cell hb, hk.cell hb, hk.cell hb, hk.cell hb]
    refine ⟨c0, c1, c2, c3, s0, s1, _, c4, a, cap, rfl, hl, ?_⟩
    rcases hr with hr | ⟨b', o', ha, hb', hr⟩
    · exact Or.inl hr
    · exact Or.inr ⟨b', o', ha, hk.sub _ hb', ExsAt.keep hk hb' hr⟩
theorem ExsAt.keep {S S' : Nat → Prop} {w w' : World} (hk : Keeps S S' w w') : ∀ {l : List Ex} {b o : Nat}, S b → ExsAt S w l b o → ExsAt S' w' l b o
  | [], _, _, _, _ => by rw [ExsAt]; trivial
  | t :: r, b, o, hb, h => by
    rw [ExsAt] at h ⊢
    exact ⟨ExAt.keep hk hb h.1, ExsAt.keep hk hb h.2⟩
end

theorem StrAt.keep {S S' : Nat → Prop} {w w' : World} (hk : Keeps S S' w w') {s : ByteArray} {b o : Nat} (hb : S b) (h : StrAt w s b o) : StrAt w' s b o := by
  unfold StrAt at h ⊢
  rwa [hk.cell hb]
theorem FdAt.keep {S S' : Nat → Prop} {w w' : World} (hk : Keeps S S' w w') {f : Fd} {b o : Nat} (hb : S b) (h : FdAt S w f b o) : FdAt S' w' f b o := ⟨StrAt.keep hk hb h.1, TyAt.keep hk hb h.2⟩
theorem tySl_keep {S S' : Nat → Prop} {w w' : World} (hk : Keeps S S' w w') {l : List Ty} {v : Value} (h : SlAt S (TyAt S w) 4 l v) : SlAt S' (TyAt S' w') 4 l v := h.imp hk.sub fun _ _ _ _ hb' h => TyAt.keep hk hb' h
theorem exSl_keep {S S' : Nat → Prop} {w w' : World} (hk : Keeps S S' w w') {l : List Ex} {v : Value} (h : SlAt S (ExAt S w) 5 l v) : SlAt S' (ExAt S' w') 5 l v := h.imp hk.sub fun _ _ _ _ hb' h => ExAt.keep hk hb' h
theorem fdSl_keep {S S' : Nat → Prop} {w w' : World} (hk : Keeps S S' w w') {l : List Fd} {v : Value} (h : SlAt S (FdAt S w) 5 l v) : SlAt S' (FdAt S' w') 5 l v := h.imp hk.sub fun _ _ _ _ hb' h => FdAt.keep hk hb' h
theorem strSl_keep {S S' : Nat → Prop} {w w' : World} (hk : Keeps S S' w w') {l : List ByteArray} {v : Value} (h : SlAt S (StrAt w) 1 l v) : SlAt S' (StrAt w') 1 l v := h.imp hk.sub fun _ _ _ _ hb' h => StrAt.keep hk hb' h
theorem FuAt.keep {S S' : Nat → Prop} {w w' : World} (hk : Keeps S S' w w') {f : Fu} {b o : Nat} (hb : S b) (h : FuAt S w f b o) : FuAt S' w' f b o := by
  obtain ⟨h0, h1, ⟨v, hv, hp⟩, h2, h3⟩ := h
  exact ⟨StrAt.keep hk hb h0, StrAt.keep hk hb h1, ⟨v, by rwa [hk.cell hb], fdSl_keep hk hp⟩, TyAt.keep hk hb h2, ExAt.keep hk hb h3⟩
theorem fuSl_keep {S S' : Nat → Prop} {w w' : World} (hk : Keeps S S' w w') {l : List Fu} {v : Value} (h : SlAt S (FuAt S w) 12 l v) : SlAt S' (FuAt S' w') 12 l v := h.imp hk.sub fun _ _ _ _ hb' h => FuAt.keep hk hb' h
theorem TyCs.keep {S S' : Nat → Prop} {w w' : World} (hk : Keeps S S' w w') {t : Ty} {k : Int} {f n : ByteArray} {v : Value} (h : TyCs S w t k f n v) : TyCs S' w' t k f n v := by
  obtain ⟨xs, rfl, h1, h2, h3⟩ := h
  exact ⟨xs, rfl, h1, h2, tySl_keep hk h3⟩
theorem ExCs.keep {S S' : Nat → Prop} {w w' : World} (hk : Keeps S S' w w') {t : Ex} {k n : Int} {f s : ByteArray} {v : Value} (h : ExCs S w t k n f s v) : ExCs S' w' t k n f s v := by
  obtain ⟨xs, rfl, h1, h2, h3⟩ := h
  exact ⟨xs, rfl, h1, h2, exSl_keep hk h3⟩
theorem TyIs.keep {S S' : Nat → Prop} {w w' : World} (hk : Keeps S S' w w') {t : Ty} {v : Value} (h : TyIs S w t v) : TyIs S' w' t v := by
  obtain ⟨k, f, n, va, rfl, h1⟩ := h
  exact ⟨k, f, n, va, rfl, h1.keep hk⟩
theorem ExIs.keep {S S' : Nat → Prop} {w w' : World} (hk : Keeps S S' w w') {t : Ex} {v : Value} (h : ExIs S w t v) : ExIs S' w' t v := by
  obtain ⟨k, n, f, s, va, rfl, h1⟩ := h
  exact ⟨k, n, f, s, va, rfl, h1.keep hk⟩
theorem FdIs.keep {S S' : Nat → Prop} {w w' : World} (hk : Keeps S S' w w') {x : Fd} {v : Value} (h : FdIs S w x v) : FdIs S' w' x v := by
  obtain ⟨k, f, n, va, rfl, h1, h2⟩ := h
  exact ⟨k, f, n, va, rfl, h1, h2.keep hk⟩
theorem FuIs.keep {S S' : Nat → Prop} {w w' : World} (hk : Keeps S S' w w') {x : Fu} {v : Value} (h : FuIs S w x v) : FuIs S' w' x v := by
  obtain ⟨vp, k, f, n, va, k', n', f', s', va', rfl, h1, h2, h3, h4, h5⟩ := h
  exact ⟨vp, k, f, n, va, k', n', f', s', va', rfl, h1, h2, fdSl_keep hk h3, h4.keep hk, h5.keep hk⟩
theorem MoIs.keep {S S' : Nat → Prop} {w w' : World} (hk : Keeps S S' w w') {m : Mo} {v : Value} (h : MoIs S w m v) : MoIs S' w' m v := by
  obtain ⟨vu, vt, vf, rfl, h1, h2, h3⟩ := h
  exact ⟨vu, vt, vf, rfl, strSl_keep hk h1, fdSl_keep hk h2, fuSl_keep hk h3⟩

theorem SlAt.slice {α : Type} {S : Nat → Prop} {P : α → Nat → Nat → Prop} {c : Nat} {l : List α} {v : Value} (h : SlAt S P c l v) : ∃ a n cap, v = .slice a n cap := by
  obtain ⟨a, cap, rfl, _⟩ := h
  exact ⟨a, _, cap, rfl⟩
theorem TyCs.slice {S : Nat → Prop} {w : World} {t : Ty} {k : Int} {f n : ByteArray} {v : Value} (h : TyCs S w t k f n v) : ∃ a n cap, v = .slice a n cap := by
  obtain ⟨xs, rfl, _, _, h3⟩ := h
  exact h3.slice
theorem ExCs.slice {S : Nat → Prop} {w : World} {t : Ex} {k n : Int} {f s : ByteArray} {v : Value} (h : ExCs S w t k n f s v) : ∃ a n cap, v = .slice a n cap := by
  obtain ⟨xs, rfl, _, _, h3⟩ := h
  exact h3.slice

theorem Keeps.below {S : Nat → Prop} {w w' : World} {B : Nat} (h : Below B w w') (hS : ∀ b, S b → b < B) : Keeps S S w w' := ⟨fun b hb => h.block b (hS b hb), fun _ h => h⟩

end Go.Proofs.YtagbaimfigljiaaGreatDoor
namespace Go.Proofs.YtagbaimfigljiaaGreatDoor
open Go.RowKit
set_option maxRecDepth 100000

theorem ex_info : (Tryz.prog.info? 87).map (fun i => (i.zero, i.size, i.bytes)) = some (some (.agg #[.int .i64 0, .int .i64 0, .string ⟨#[]⟩, .string ⟨#[]⟩, .slice none 0 0]), 5, 72) := by kernel_rfl

theorem ownsRow_in {w : World} {base : Nat} {e : TypeId} {size : Nat} {v : Value} {n : Nat} {xs : List Value} (h : w.ownsRow base e size v n xs) : ∀ j, v.ownBlock = some j → base ≤ j ∧ j < w.heap.size := by
  intro j hj
  rcases h.2 with ⟨rfl, _⟩ | ⟨g, cap, cur, rfl, hb, hg, _⟩
  · cases hj
  · have : g = j := by simpa [Value.ownBlock] using hj
    subst this
    refine ⟨hb, ?_⟩
    rcases Nat.lt_or_ge g w.heap.size with h1 | h1
    · exact h1
    · rw [Array.getElem?_eq_none h1] at hg; cases hg

theorem own_frozen {w : World} {base : Nat} {e : TypeId} {size g n cap : Nat} {xs : List Value} (h : w.ownsRow base e size (.slice (some ⟨g, 0, none⟩) n cap) n xs) : ∀ o, w.frozen? ⟨g, o, none⟩ = false := by
  intro o
  rcases h.2 with ⟨h1, _⟩ | ⟨g', cap', cur, h1, hb, hg, _⟩
  · cases h1
  · cases h1
    exact Lib.frozen_of_heap hg o

theorem own_cell {w : World} {base : Nat} {e : TypeId} {size g n cap : Nat} {xs : List Value} (h : w.ownsRow base e size (.slice (some ⟨g, 0, none⟩) n cap) n xs) (j : Nat) (u : Value) (hu : xs[j]? = some u) : w.cell? ⟨g, j, none⟩ = some u := by
  rcases h with ⟨hl, ⟨h1, _⟩ | ⟨g', cap', cur, h1, hb, hg, _, _, hc, ht⟩⟩
  · cases h1
  · cases h1
    rw [cell_of_row w g j cur e _ hg]
    rw [← ht, List.getElem?_take] at hu
    split at hu
    · simpa using hu
    · cases hu

end Go.Proofs.YtagbaimfigljiaaGreatDoor
namespace Go.Proofs.YtagbaimfigljiaaGreatDoor
open Go.RowKit
set_option maxRecDepth 100000

/-- a row's cells, with vs from o on. -/
def putMany (cur : Array Value) (o : Nat) : List Value → Array Value
  | [] => cur
  | v :: r => putMany (cur.setIfInBounds o v) (o + 1) r

theorem putMany_size : ∀ (vs : List Value) (cur : Array Value) (o : Nat), (putMany cur o vs).size = cur.size
  | [], _, _ => rfl
  | v :: r, cur, o => by rw [putMany, putMany_size r]; simp

theorem putMany_list : ∀ (vs : List Value) (cur : Array Value) (o : Nat), o + vs.length ≤ cur.size → (putMany cur o vs).toList.take (o + vs.length) = cur.toList.take o ++ vs
  | [], cur, o, _ => by simp [putMany]
  | v :: r, cur, o, h => by
    simp only [List.length_cons] at h
    have ih := putMany_list r (cur.setIfInBounds o v) (o + 1) (by simp; omega)
    rw [putMany, List.length_cons, show o + (r.length + 1) = o + 1 + r.length by omega, ih]
    have ho : o < cur.toList.length := by simp; omega
    have : (cur.setIfInBounds o v).toList.take (o + 1) = cur.toList.take o ++ [v] := by
      rw [Array.toList_setIfInBounds, List.take_set, List.take_add_one, List.getElem?_eq_getElem ho]
      have hl : (cur.toList.take o).length = o := by rw [List.length_take]; omega
      rw [List.set_append_right _ _ (by rw [hl]; exact Nat.le_refl _), hl, Nat.sub_self]
      simp
    rw [this]
    simp

theorem block_set {w : World} {g : Nat} {cur : Array Value} {e : TypeId} (h : w.heap[g]? = some (.cells cur e (0, 0))) (o : Nat) (u : Value) :
    (w.setCell ⟨g, o, none⟩ u).heap[g]? = some (.cells (cur.setIfInBounds o u) e (0, 0)) := by
  simp [World.setCell, Array.getElem?_modify, h]

theorem block_sets {g : Nat} {e : TypeId} : ∀ (vs : List Value) {w : World} {cur : Array Value} (_ : w.heap[g]? = some (.cells cur e (0, 0))) (o : Nat), (w.setCells g o vs).heap[g]? = some (.cells (putMany cur o vs) e (0, 0))
  | [], _, _, h, _ => h
  | v :: r, w, cur, h, o => by
    rw [World.setCells, putMany]
    exact block_sets r (block_set h o v) (o + 1)

theorem own_put {w : World} {base : Nat} {e : TypeId} {g m cap : Nat} {xs old new : List Value} (h : w.ownsRow base e 5 (.slice (some ⟨g, 0, none⟩) (m + 1) cap) (m + 1) (xs ++ old)) (ho : old.length = 5) (hn : new.length = 5) :
    (w.setCells g (m * 5) new).ownsRow base e 5 (.slice (some ⟨g, 0, none⟩) (m + 1) cap) (m + 1) (xs ++ new) := by
  obtain ⟨hl, ⟨h1, _⟩ | ⟨g', cap', cur, h1, hb, hg, hc, hm, hs, ht⟩⟩ := h
  · cases h1
  · cases h1
    have hx : xs.length = m * 5 := by simp only [List.length_append, ho] at hl; omega
    refine ⟨by simp only [List.length_append, hn, hx]; omega, Or.inr ⟨g, cap, putMany cur (m * 5) new, rfl, hb, block_sets new hg _, hc, hm, by rw [putMany_size, hs], ?_⟩⟩
    have e1 : (m + 1) * 5 = m * 5 + new.length := by rw [hn]; omega
    have hle : m * 5 + new.length ≤ cur.size := by
      rw [hs, hn]
      have := Nat.mul_le_mul_right 5 hc
      omega
    rw [e1, putMany_list new cur _ hle]
    congr 1
    have := congrArg (List.take (m * 5)) ht
    rw [List.take_take, Nat.min_eq_left (by omega), List.take_append_of_le_length (by omega)] at this
    rw [this, List.take_of_length_le (by omega)]

theorem own_there {w : World} {base : Nat} {e : TypeId} {g m cap : Nat} {xs : List Value} (h : w.ownsRow base e 5 (.slice (some ⟨g, 0, none⟩) (m + 1) cap) (m + 1) xs) : w.there g (m * 5) 5 := by
  intro j hj
  have hl := h.1
  refine ⟨?_, own_frozen h _⟩
  rw [own_cell h (m * 5 + j) _ (List.getElem?_eq_getElem (by omega))]
  rfl

/-- from W to W' the list in box bl, its value v, has become v', a row of n elements of 5 cells, ys; nothing else has turned. -/
structure Grew (base bl : Nat) (T Tl : TypeId) (v v' : Value) (n : Nat) (ys : List Value) (W W' : World) : Prop where
  os : W'.os = W.os
  tape : W'.tape = W.tape
  output : W'.output = W.output
  size : W.heap.size ≤ W'.heap.size
  box : W'.heap[bl]? = some (.cells #[v'] Tl (0, 0))
  own : W'.ownsRow base T 5 v' n ys
  rest : ∀ k, k < W.heap.size → k ≠ bl → some k ≠ v.ownBlock → W'.heap[k]? = W.heap[k]?
  row : ∀ k, v'.ownBlock = some k → v.ownBlock = some k ∨ W.heap.size ≤ k

theorem heap_size_setCell (w : World) (a : Addr) (u : Value) : (w.setCell a u).heap.size = w.heap.size := by simp [World.setCell]
theorem heap_size_setCells (g : Nat) : ∀ (vs : List Value) (o : Nat) (w : World), (w.setCells g o vs).heap.size = w.heap.size
  | [], _, _ => rfl
  | v :: r, o, w => by rw [World.setCells, heap_size_setCells g r]; exact heap_size_setCell _ _ _

theorem tape_setCells (g : Nat) : ∀ (vs : List Value) (o : Nat) (w : World), (w.setCells g o vs).tape = w.tape
  | [], _, _ => rfl
  | v :: r, o, w => by rw [World.setCells, tape_setCells g r]; rfl

/-- behind the store of the list's value. -/
theorem grew_store {base bl : Nat} {T Tl : TypeId} {v : Value} {n g cap : Nat} {ys : List Value} {W W0 w1 : World} (hbl : bl < base) (hb : base ≤ W.heap.size)
    (h0 : W.heap.size ≤ W0.heap.size) (hos : W0.os = W.os) (htape : W0.tape = W.tape) (hout : W0.output = W.output) (hk : ∀ k, k < W.heap.size → W0.heap[k]? = W.heap[k]?)
    (hg : W0.grownBy w1 v.ownBlock) (hbox : W.heap[bl]? = some (.cells #[v] Tl (0, 0))) (hbv : some bl ≠ v.ownBlock) (hown : w1.ownsRow base T 5 (.slice (some ⟨g, 0, none⟩) n cap) n ys) (hat : v.ownBlock = some g ∨ W.heap.size ≤ g) :
    Grew base bl T Tl v (.slice (some ⟨g, 0, none⟩) n cap) n ys W (w1.setCell ⟨bl, 0, none⟩ (.slice (some ⟨g, 0, none⟩) n cap)) := by
  have hblW : bl < W.heap.size := by omega
  have hb1 : w1.heap[bl]? = some (.cells #[v] Tl (0, 0)) := (hg.block bl (by omega) hbv).trans ((hk bl hblW).trans hbox)
  refine ⟨hg.os.trans hos, hg.tape.trans htape, hg.output.trans hout, ?_, ?_, ?_, ?_, ?_⟩
  · rw [heap_size_setCell]; exact Nat.le_trans h0 hg.size
  · rw [block_set hb1]; rfl
  · exact ownsRow_setCell_below hown (a := ⟨bl, 0, none⟩) hbl _
  · intro k hk' hne hrow
    rw [Below.heap_setCell _ _ _ _ (by show k ≠ bl; exact hne), hg.block k (by omega) hrow, hk k hk']
  · intro k hk'
    have : g = k := by simpa [Value.ownBlock] using hk'
    subst this
    exact hat

theorem Grew.put {base bl : Nat} {T Tl : TypeId} {v : Value} {m g cap : Nat} {xs old new : List Value} {W W' : World} (h : Grew base bl T Tl v (.slice (some ⟨g, 0, none⟩) (m + 1) cap) (m + 1) (xs ++ old) W W') (hbl : bl < base) (ho : old.length = 5) (hn : new.length = 5) :
    Grew base bl T Tl v (.slice (some ⟨g, 0, none⟩) (m + 1) cap) (m + 1) (xs ++ new) W (W'.setCells g (m * 5) new) := by
  have hg := ownsRow_in h.own g rfl
  have hrow := h.row g rfl
  refine ⟨(World.os_setCells _ _ _ _).trans h.os, (tape_setCells _ _ _ _).trans h.tape, (World.output_setCells _ _ _ _).trans h.output, by rw [heap_size_setCells]; exact h.size, ?_, own_put h.own ho hn, ?_, h.row⟩
  · rw [World.heap_setCells_other _ _ _ _ (by have := World.block_lt_of_cell? W' ⟨bl, 0, none⟩ (cell_of_row W' bl 0 _ _ _ h.box); exact this) (by omega)]
    exact h.box
  · intro k hk hne hr
    rw [World.heap_setCells_other _ _ _ _ (by have := h.size; omega) (by rintro rfl; rcases hrow with h1 | h1; exact hr h1.symm; omega)]
    exact h.rest k hk hne hr

theorem grownBy_put {W0 w1 : World} {row : Option Nat} {g : Nat} (h : W0.grownBy w1 row) (hat : row = some g ∨ W0.heap.size ≤ g) (hg : g < w1.heap.size) (o : Nat) (new : List Value) : W0.grownBy (w1.setCells g o new) row :=
  ⟨(World.os_setCells _ _ _ _).trans h.os, (tape_setCells _ _ _ _).trans h.tape, (World.output_setCells _ _ _ _).trans h.output, by rw [heap_size_setCells]; exact h.size, fun k hk hr => by
    rw [World.heap_setCells_other _ _ _ _ (by have := h.size; omega) (by rintro rfl; rcases hat with h1 | h1; exact hr h1.symm; omega)]
    exact h.block k hk hr⟩

/-- a way that goes on. -/
def Normal (R : Act → World → Prop) : Exit → Act → World → Prop
  | .normal, a, w => R a w
  | _, _, _ => False

section
variable {P : Program} {md : Region.Mode} {ops : Array Oper} {Q : Exit → Act → World → Prop} {S : World → Prop}

/-- one alone may come up. -/
theorem any_one {fuel : Nat} {listed : Array Bool} {a : Act} {w : World} (i : Nat) {o : Oper} (hr : Region.ready md ops listed = [i]) (hi : ops.toList[i]? = some o) (hg : o.guard = none)
    (h : ∀ K : Act → World → Prop, (∀ a' w', S w' → wpAnyH P md ops Q S fuel (listed.setIfInBounds i true) a' w' → K a' w') → Oper.wp P o a w K Q) : wpAnyH P md ops Q S (fuel + 1) listed a w :=
  wpAnyH_ready hr (by simp) (AllReadyH.cons (by simpa using hi) (fun K hK => by
    rw [if_pos (by simp [Region.wanted, hg])]
    exact h K (fun a' w' hS hW => hK.out a' w' hS (fun _ => hW))) AllReadyH.nil)

/-- either may come up. -/
theorem any_two {fuel : Nat} {listed : Array Bool} {a : Act} {w : World} (i j : Nat) {o p : Oper} (hr : Region.ready md ops listed = [i, j]) (hi : ops.toList[i]? = some o) (hj : ops.toList[j]? = some p) (hg : o.guard = none) (hp : p.guard = none)
    (h : ∀ K : Act → World → Prop, (∀ a' w', S w' → wpAnyH P md ops Q S fuel (listed.setIfInBounds i true) a' w' → K a' w') → Oper.wp P o a w K Q)
    (h' : ∀ K : Act → World → Prop, (∀ a' w', S w' → wpAnyH P md ops Q S fuel (listed.setIfInBounds j true) a' w' → K a' w') → Oper.wp P p a w K Q) : wpAnyH P md ops Q S (fuel + 1) listed a w :=
  wpAnyH_ready hr (by simp) (AllReadyH.cons (by simpa using hi) (fun K hK => by
    rw [if_pos (by simp [Region.wanted, hg])]
    exact h K (fun a' w' hS hW => hK.out a' w' hS (fun _ => hW))) (AllReadyH.cons (by simpa using hj) (fun K hK => by
    rw [if_pos (by simp [Region.wanted, hp])]
    exact h' K (fun a' w' hS hW => hK.out a' w' hS (fun _ => hW))) AllReadyH.nil))

/-- one is taken first. -/
theorem any_take {fuel : Nat} {listed : Array Bool} {a : Act} {w : World} (i : Nat) {o : Oper} {dst : Option Tmp} {v : Value} (hi : ops.toList[i]? = some o) (hd : o.dst = dst) (hs : Region.noSelect ops = true) (hf : Region.free md ops listed i = true) (hr : (Region.ready md ops listed).contains i = true)
    (hQ : ∀ c a w, Q (.panic c) (a.put dst v) w → Q (.panic c) a w) (hy : YieldsIf P ops S o v a) (hS : S w)
    (h : wpAnyH P md ops Q S fuel (listed.setIfInBounds i true) (a.put dst v) w) : wpAnyH P md ops Q S (fuel + 1) listed a w := by
  subst hd
  exact wpAnyH_take (by simpa using hi) hs hf hr hQ hy hS h

end

end Go.Proofs.YtagbaimfigljiaaGreatDoor
