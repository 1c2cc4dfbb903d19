import Derived.Test.YtagbaimfigljiaaGreatDoorJModuleUses0
import Derived.Deep.MidRow
import Derived.Deep.Upon
import Derived.Deep.RegionHeld3
import Derived.Deep.AppendLies
import Derived.WalkSpells
import Derived.Lib.Bytealg
namespace Go.Proofs.YtagbaimfigljiaaGreatDoor
open Go.RowKit
set_option maxRecDepth 100000

/-- a row's cells, with vs from o on. -/
def putMany (cur : Array Value) (o : Nat) : List Value → Array Value
  | [] => cur
  | v :: r => putMany (cur.setIfInBounds o v) (o + 1) r

theorem putMany_size : ∀ (vs : List Value) (cur : Array Value) (o : Nat), (putMany cur o vs).size = cur.size
  | [], _, _ => rfl
  | v :: r, cur, o => by rw [putMany, putMany_size r]; simp

theorem putMany_list : ∀ (vs : List Value) (cur : Array Value) (o : Nat), o + vs.length ≤ cur.size → (putMany cur o vs).toList.take (o + vs.length) = cur.toList.take o ++ vs
  | [], cur, o, _ => by simp [putMany]
  | v :: r, cur, o, h => by
    simp only [List.length_cons] at h
    have ih := putMany_list r (cur.setIfInBounds o v) (o + 1) (by simp; omega)
    rw [putMany, List.length_cons, show o + (r.length + 1) = o + 1 + r.length by omega, ih]
    have ho : o < cur.toList.length := by simp; omega
    have : (cur.setIfInBounds o v).toList.take (o + 1) = cur.toList.take o ++ [v] := by
      rw [Array.toList_setIfInBounds, List.take_set, List.take_add_one, List.getElem?_eq_getElem ho]
      have hl : (cur.toList.take o).length = o := by rw [List.length_take]; omega
      rw [List.set_append_right _ _ (by rw [hl]; exact Nat.le_refl _), hl, Nat.sub_self]
      simp
    rw [this]
    simp

theorem block_set {w : World} {g : Nat} {cur : Array Value} {e : TypeId} (h : w.heap[g]? = some (.cells cur e (0, 0))) (o : Nat) (u : Value) :
    (w.setCell ⟨g, o, none⟩ u).heap[g]? = some (.cells (cur.setIfInBounds o u) e (0, 0)) := by
  simp [World.setCell, Array.getElem?_modify, h]

theorem block_sets {g : Nat} {e : TypeId} : ∀ (vs : List Value) {w : World} {cur : Array Value} (_ : w.heap[g]? = some (.cells cur e (0, 0))) (o : Nat), (w.setCells g o vs).heap[g]? = some (.cells (putMany cur o vs) e (0, 0))
  | [], _, _, h, _ => h
  | v :: r, w, cur, h, o => by
    rw [World.setCells, putMany]
    exact block_sets r (block_set h o v) (o + 1)

theorem own_put {w : World} {base : Nat} {e : TypeId} {g m cap : Nat} {xs old new : List Value} (h : w.ownsRow base e 5 (.slice (some ⟨g, 0, none⟩) (m + 1) cap) (m + 1) (xs ++ old)) (ho : old.length = 5) (hn : new.length = 5) :
    (w.setCells g (m * 5) new).ownsRow base e 5 (.slice (some ⟨g, 0, none⟩) (m + 1) cap) (m + 1) (xs ++ new) := by
  obtain ⟨hl, ⟨h1, _⟩ | ⟨g', cap', cur, h1, hb, hg, hc, hm, hs, ht⟩⟩ := h
  · cases h1
  · cases h1
    have hx : xs.length = m * 5 := by simp only [List.length_append, ho] at hl; omega
    refine ⟨by simp only [List.length_append, hn, hx]; omega, Or.inr ⟨g, cap, putMany cur (m * 5) new, rfl, hb, block_sets new hg _, hc, hm, by rw [putMany_size, hs], ?_⟩⟩
    have e1 : (m + 1) * 5 = m * 5 + new.length := by rw [hn]; omega
    have hle : m * 5 + new.length ≤ cur.size := by
      rw [hs, hn]
      have := Nat.mul_le_mul_right 5 hc
      omega
    rw [e1, putMany_list new cur _ hle]
    congr 1
    have := congrArg (List.take (m * 5)) ht
    rw [List.take_take, Nat.min_eq_left (by omega), List.take_append_of_le_length (by omega)] at this
    rw [this, List.take_of_length_le (by omega)]

theorem own_there {w : World} {base : Nat} {e : TypeId} {g m cap : Nat} {xs : List Value} (h : w.ownsRow base e 5 (.slice (some ⟨g, 0, none⟩) (m + 1) cap) (m + 1) xs) : w.there g (m * 5) 5 := by
  intro j hj
  have hl := h.1
  refine ⟨?_, own_frozen h _⟩
  rw [own_cell h (m * 5 + j) _ (List.getElem?_eq_getElem (by omega))]
  rfl

/-- from W to W' the list in box bl, its value v, has become v', a row of n elements of 5 cells, ys; nothing else has turned. -/
structure Grew (base bl : Nat) (T Tl : TypeId) (v v' : Value) (n : Nat) (ys : List Value) (W W' : World) : Prop where
  os : W'.os = W.os
  tape : W'.tape = W.tape
  output : W'.output = W.output
  size : W.heap.size ≤ W'.heap.size
  box : W'.heap[bl]? = some (.cells #[v'] Tl (0, 0))
  own : W'.ownsRow base T 5 v' n ys
  rest : ∀ k, k < W.heap.size → k ≠ bl → some k ≠ v.ownBlock → W'.heap[k]? = W.heap[k]?
  row : ∀ k, v'.ownBlock = some k → v.ownBlock = some k ∨ W.heap.size ≤ k

theorem heap_size_setCell (w : World) (a : Addr) (u : Value) : (w.setCell a u).heap.size = w.heap.size := by simp [World.setCell]
theorem heap_size_setCells (g : Nat) : ∀ (vs : List Value) (o : Nat) (w : World), (w.setCells g o vs).heap.size = w.heap.size
  | [], _, _ => rfl
  | v :: r, o, w => by rw [World.setCells, heap_size_setCells g r]; exact heap_size_setCell _ _ _

theorem tape_setCells (g : Nat) : ∀ (vs : List Value) (o : Nat) (w : World), (w.setCells g o vs).tape = w.tape
  | [], _, _ => rfl
  | v :: r, o, w => by rw [World.setCells, tape_setCells g r]; rfl

/-- behind the store of the list's value. -/
theorem grew_store {base bl : Nat} {T Tl : TypeId} {v : Value} {n g cap : Nat} {ys : List Value} {W W0 w1 : World} (hbl : bl < base) (hb : base ≤ W.heap.size)
    (h0 : W.heap.size ≤ W0.heap.size) (hos : W0.os = W.os) (htape : W0.tape = W.tape) (hout : W0.output = W.output) (hk : ∀ k, k < W.heap.size → W0.heap[k]? = W.heap[k]?)
    (hg : W0.grownBy w1 v.ownBlock) (hbox : W.heap[bl]? = some (.cells #[v] Tl (0, 0))) (hbv : some bl ≠ v.ownBlock) (hown : w1.ownsRow base T 5 (.slice (some ⟨g, 0, none⟩) n cap) n ys) (hat : v.ownBlock = some g ∨ W.heap.size ≤ g) :
    Grew base bl T Tl v (.slice (some ⟨g, 0, none⟩) n cap) n ys W (w1.setCell ⟨bl, 0, none⟩ (.slice (some ⟨g, 0, none⟩) n cap)) := by
  have hblW : bl < W.heap.size := by omega
  have hb1 : w1.heap[bl]? = some (.cells #[v] Tl (0, 0)) := (hg.block bl (by omega) hbv).trans ((hk bl hblW).trans hbox)
  refine ⟨hg.os.trans hos, hg.tape.trans htape, hg.output.trans hout, ?_, ?_, ?_, ?_, ?_⟩
  · rw [heap_size_setCell]; exact Nat.le_trans h0 hg.size
  · rw [block_set hb1]; rfl
  · exact ownsRow_setCell_below hown (a := ⟨bl, 0, none⟩) hbl _
  · intro k hk' hne hrow
    rw [Below.heap_setCell _ _ _ _ (by show k ≠ bl; exact hne), hg.block k (by omega) hrow, hk k hk']
  · intro k hk'
    have : g = k := by simpa [Value.ownBlock] using hk'
    subst this
    exact hat

theorem Grew.put {base bl : Nat} {T Tl : TypeId} {v : Value} {m g cap : Nat} {xs old new : List Value} {W W' : World} (h : Grew base bl T Tl v (.slice (some ⟨g, 0, none⟩) (m + 1) cap) (m + 1) (xs ++ old) W W') (hbl : bl < base) (ho : old.length = 5) (hn : new.length = 5) :
    Grew base bl T Tl v (.slice (some ⟨g, 0, none⟩) (m + 1) cap) (m + 1) (xs ++ new) W (W'.setCells g (m * 5) new) := by
  have hg := ownsRow_in h.own g rfl
  have hrow := h.row g rfl
  refine ⟨(World.os_setCells _ _ _ _).trans h.os, (tape_setCells _ _ _ _).trans h.tape, (World.output_setCells _ _ _ _).trans h.output, by rw [heap_size_setCells]; exact h.size, ?_, own_put h.own ho hn, ?_, h.row⟩
  · rw [World.heap_setCells_other _ _ _ _ (by have := World.block_lt_of_cell? W' ⟨bl, 0, none⟩ (cell_of_row W' bl 0 _ _ _ h.box); exact this) (by omega)]
    exact h.box
  · intro k hk hne hr
    rw [World.heap_setCells_other _ _ _ _ (by have := h.size; omega) (by rintro rfl; rcases hrow with h1 | h1; exact hr h1.symm; omega)]
    exact h.rest k hk hne hr

theorem grownBy_put {W0 w1 : World} {row : Option Nat} {g : Nat} (h : W0.grownBy w1 row) (hat : row = some g ∨ W0.heap.size ≤ g) (hg : g < w1.heap.size) (o : Nat) (new : List Value) : W0.grownBy (w1.setCells g o new) row :=
  ⟨(World.os_setCells _ _ _ _).trans h.os, (tape_setCells _ _ _ _).trans h.tape, (World.output_setCells _ _ _ _).trans h.output, by rw [heap_size_setCells]; exact h.size, fun k hk hr => by
    rw [World.heap_setCells_other _ _ _ _ (by have := h.size; omega) (by rintro rfl; rcases hat with h1 | h1; exact hr h1.symm; omega)]
    exact h.block k hk hr⟩

/-- a way that goes on. -/
def Normal (R : Act → World → Prop) : Exit → Act → World → Prop
  | .normal, a, w => R a w
  | _, _, _ => False

section
variable {P : Program} {md : Region.Mode} {ops : Array Oper} {Q : Exit → Act → World → Prop} {S : World → Prop}

/-- one alone may come up. -/
theorem any_one {fuel : Nat} {listed : Array Bool} {a : Act} {w : World} (i : Nat) {o : Oper} (hr : Region.ready md ops listed = [i]) (hi : ops.toList[i]? = some o) (hg : o.guard = none)
    (h : ∀ K : Act → World → Prop, (∀ a' w', S w' → wpAnyH P md ops Q S fuel (listed.setIfInBounds i true) a' w' → K a' w') → Oper.wp P o a w K Q) : wpAnyH P md ops Q S (fuel + 1) listed a w :=
  wpAnyH_ready hr (by simp) (AllReadyH.cons (by simpa using hi) (fun K hK => by
    rw [if_pos (by simp [Region.wanted, hg])]
    exact h K (fun a' w' hS hW => hK.out a' w' hS (fun _ => hW))) AllReadyH.nil)

/-- either may come up. -/
theorem any_two {fuel : Nat} {listed : Array Bool} {a : Act} {w : World} (i j : Nat) {o p : Oper} (hr : Region.ready md ops listed = [i, j]) (hi : ops.toList[i]? = some o) (hj : ops.toList[j]? = some p) (hg : o.guard = none) (hp : p.guard = none)
    (h : ∀ K : Act → World → Prop, (∀ a' w', S w' → wpAnyH P md ops Q S fuel (listed.setIfInBounds i true) a' w' → K a' w') → Oper.wp P o a w K Q)
    (h' : ∀ K : Act → World → Prop, (∀ a' w', S w' → wpAnyH P md ops Q S fuel (listed.setIfInBounds j true) a' w' → K a' w') → Oper.wp P p a w K Q) : wpAnyH P md ops Q S (fuel + 1) listed a w :=
  wpAnyH_ready hr (by simp) (AllReadyH.cons (by simpa using hi) (fun K hK => by
    rw [if_pos (by simp [Region.wanted, hg])]
    exact h K (fun a' w' hS hW => hK.out a' w' hS (fun _ => hW))) (AllReadyH.cons (by simpa using hj) (fun K hK => by
    rw [if_pos (by simp [Region.wanted, hp])]
    exact h' K (fun a' w' hS hW => hK.out a' w' hS (fun _ => hW))) AllReadyH.nil))

/-- one is taken first. -/
theorem any_take {fuel : Nat} {listed : Array Bool} {a : Act} {w : World} (i : Nat) {o : Oper} {dst : Option Tmp} {v : Value} (hi : ops.toList[i]? = some o) (hd : o.dst = dst) (hs : Region.noSelect ops = true) (hf : Region.free md ops listed i = true) (hr : (Region.ready md ops listed).contains i = true)
    (hQ : ∀ c a w, Q (.panic c) (a.put dst v) w → Q (.panic c) a w) (hy : YieldsIf P ops S o v a) (hS : S w)
    (h : wpAnyH P md ops Q S fuel (listed.setIfInBounds i true) (a.put dst v) w) : wpAnyH P md ops Q S (fuel + 1) listed a w := by
  subst hd
  exact wpAnyH_take (by simpa using hi) hs hf hr hQ hy hS h

end

end Go.Proofs.YtagbaimfigljiaaGreatDoor
namespace Go.Proofs.YtagbaimfigljiaaGreatDoor
open Go.RowKit
set_option maxRecDepth 100000

abbrev Toks := List (Int × ByteArray)

inductive Res (α : Type) where
  | bad (e : Int)
  | ok (x : α) (j : Nat)

/-- is token i of kind k, with these bytes? -/
def tokB (l : Toks) (i : Nat) (k : Int) (s : List UInt8) : Bool := match l[i]? with
  | some t => t.1 == k && t.2.data.toList == s
  | none => false
def sgn (l : Toks) (i : Nat) (s : List UInt8) : Bool := tokB l i 4 s
def wrd (l : Toks) (i : Nat) (s : List UInt8) : Bool := tokB l i 1 s
/-- the text of token i, if it is of kind k. -/
def takeAt (l : Toks) (i : Nat) (k : Int) : Option ByteArray := match l[i]? with
  | some t => if t.1 = k then some t.2 else none
  | none => none
def identAt (l : Toks) (i : Nat) : Option ByteArray := match takeAt l i 1 with
  | some t => if identOk t = true then some t else none
  | none => none

def emptyText : ByteArray := ⟨#[]⟩

/-- a name, perhaps behind that of a module: that one, and it. -/
def nameAt (l : Toks) (i : Nat) : Res (ByteArray × ByteArray) := match identAt l i with
  | none => .bad 4
  | some n => if sgn l (i + 1) [46] = true then (match identAt l (i + 2) with
      | none => .bad 4
      | some m => .ok (n, m) (i + 3)) else .ok (emptyText, n) (i + 1)

/-- a type; f: so many may stand within one another from here on. -/
def pTy (l : Toks) : Nat → Nat → Res Ty
  | 0, _ => .bad 1
  | f + 1, i =>
    if wrd l i [105, 110, 116] = true then .ok (.mk 1 emptyText emptyText []) (i + 1)
    else if wrd l i [116, 101, 120, 116] = true then .ok (.mk 2 emptyText emptyText []) (i + 1)
    else if sgn l i [91] = true then (match pTy l f (i + 1) with
      | .bad e => .bad e
      | .ok t j => if sgn l j [93] = true then .ok (.mk 3 emptyText emptyText [t]) (j + 1) else .bad 4)
    else match nameAt l i with
      | .bad e => .bad e
      | .ok x j => .ok (.mk 4 x.1 x.2 []) j

def numVal (l : List UInt8) : Int := l.foldl (fun n c => 10 * n + ((c.toNat : Int) - 48)) 0
def exNum (t : ByteArray) : Ex := .mk 1 (numVal t.data.toList) emptyText emptyText []
def exQuote (t : ByteArray) : Ex := .mk 2 0 emptyText t []
def exParam (t : ByteArray) : Ex := .mk 3 0 emptyText t []
def exCall (o n : ByteArray) (l : List Ex) : Ex := .mk 4 0 o n l
def exSum (x y : Ex) : Ex := .mk 5 0 emptyText emptyText [x, y]
def exItems (l : List Ex) : Ex := .mk 6 0 emptyText emptyText l
def exAt (x y : Ex) : Ex := .mk 7 0 emptyText emptyText [x, y]

/-- things with commas between, up to a sign. -/
def pList {α : Type} (sub : Nat → Res α) (l : Toks) (fin : List UInt8) : Nat → List α → Nat → Res (List α)
  | 0, _, _ => .bad 99
  | n + 1, acc, i => match sub i with
    | .bad e => .bad e
    | .ok x j => if sgn l j [44] = true then pList sub l fin n (acc ++ [x]) (j + 1) else if sgn l j fin = true then .ok (acc ++ [x]) (j + 1) else .bad 4

def pCall (sub : Nat → Res Ex) (l : Toks) (i : Nat) : Res Ex := match nameAt l i with
  | .bad e => .bad e
  | .ok x j => if sgn l j [40] = true then (if sgn l (j + 1) [41] = true then .ok (exCall x.1 x.2 []) (j + 2) else match pList sub l [41] (l.length + 1) [] (j + 1) with
      | .bad e => .bad e
      | .ok xs j' => .ok (exCall x.1 x.2 xs) j') else if noneB x.1 = true then .ok (exParam x.2) j else .bad 4

def pHead (sub : Nat → Res Ex) (l : Toks) (i : Nat) : Res Ex :=
  if sgn l i [40] = true then (match sub (i + 1) with
    | .bad e => .bad e
    | .ok x j => if sgn l j [41] = true then .ok x (j + 1) else .bad 4)
  else if sgn l i [91] = true then (match pList sub l [93] (l.length + 1) [] (i + 1) with
    | .bad e => .bad e
    | .ok xs j => .ok (exItems xs) j)
  else match takeAt l i 2 with
    | some t => .ok (exNum t) (i + 1)
    | none => match takeAt l i 3 with
      | some t => .ok (exQuote t) (i + 1)
      | none => pCall sub l i

def pPlaces (sub : Nat → Res Ex) (l : Toks) : Nat → Ex → Nat → Res Ex
  | 0, _, _ => .bad 99
  | n + 1, x, i => if sgn l i [91] = true then (match sub (i + 1) with
      | .bad e => .bad e
      | .ok p j => if sgn l j [93] = true then pPlaces sub l n (exAt x p) (j + 1) else .bad 4) else .ok x i

def pTail (sub : Nat → Res Ex) (l : Toks) (i : Nat) : Res Ex := match pHead sub l i with
  | .bad e => .bad e
  | .ok x j => pPlaces sub l (l.length + 1) x j

def pSums (sub : Nat → Res Ex) (l : Toks) : Nat → Ex → Nat → Res Ex
  | 0, _, _ => .bad 99
  | n + 1, x, i => if sgn l i [43] = true then (match pTail sub l (i + 1) with
      | .bad e => .bad e
      | .ok y j => pSums sub l n (exSum x y) j) else .ok x i

/-- an expression; f as above. -/
def pEx (l : Toks) : Nat → Nat → Res Ex
  | 0, _ => .bad 1
  | f + 1, i => match pTail (pEx l f) l i with
    | .bad e => .bad e
    | .ok x j => pSums (pEx l f) l (l.length + 1) x j

/-- a name, a sign, a type. -/
def pNamed (l : Toks) (s : List UInt8) (i : Nat) : Res Fd := match identAt l i with
  | none => .bad 4
  | some n => if sgn l (i + 1) s = true then (match pTy l 40 (i + 2) with
      | .bad e => .bad e
      | .ok t j => .ok ⟨n, t⟩ j) else .bad 4

def pVar (l : Toks) (i : Nat) : Res ByteArray := if sgn l i [60] = true then (match identAt l (i + 1) with
    | none => .bad 4
    | some v => if sgn l (i + 2) [62] = true then .ok v (i + 3) else .bad 4) else .ok emptyText i

def pParams (l : Toks) (i : Nat) : Res (List Fd) := if sgn l i [41] = true then .ok [] (i + 1) else pList (pNamed l [58]) l [41] (l.length + 1) [] i

def pFun (l : Toks) (i : Nat) : Res Fu := match identAt l i with
  | none => .bad 4
  | some n => match pVar l (i + 1) with
    | .bad e => .bad e
    | .ok v j => if sgn l j [40] = true then (match pParams l (j + 1) with
      | .bad e => .bad e
      | .ok ps j => if sgn l j [58] = true then (match pTy l 40 (j + 1) with
        | .bad e => .bad e
        | .ok t j => if sgn l j [61] = true then (match pEx l 40 (j + 1) with
          | .bad e => .bad e
          | .ok x j => .ok ⟨n, v, ps, t, x⟩ j) else .bad 4) else .bad 4) else .bad 4

inductive Line where
  | none
  | use (n : ByteArray)
  | typ (f : Fd)
  | fn (f : Fu)

/-- what a line of tokens declares. -/
def pLine (l : Toks) : Except Int Line :=
  let fin (j : Nat) (x : Line) : Except Int Line := if l.length ≤ j then .ok x else .error 4
  if l.length = 0 then .ok .none
  else if wrd l 0 [117, 115, 101] = true then (match identAt l 1 with
    | .none => .error 4
    | .some n => fin 2 (.use n))
  else if wrd l 0 [116, 121, 112, 101] = true then (match pNamed l [61] 1 with
    | .bad e => .error e
    | .ok f j => fin j (.typ f))
  else if wrd l 0 [102, 117, 110, 99] = true then (match pFun l 1 with
    | .bad e => .error e
    | .ok f j => fin j (.fn f))
  else .error 4

def putLine (m : Mo) : Line → Mo
  | .none => m
  | .use n => { m with uses := m.uses ++ [n] }
  | .typ f => { m with types := m.types ++ [f] }
  | .fn f => { m with funcs := m.funcs ++ [f] }

end Go.Proofs.YtagbaimfigljiaaGreatDoor
namespace Go.Proofs.YtagbaimfigljiaaGreatDoor
open Go.RowKit
set_option maxRecDepth 100000

theorem text_eq (s : ByteArray) (l : List UInt8) : (s.toList == l) = (s.data.toList == l) := by
  rw [Lib.toList_data]

theorem kw_parts (s : ByteArray) : kwB s = ((s.toList == [117, 115, 101]) || ((s.toList == [116, 121, 112, 101]) || ((s.toList == [102, 117, 110, 99]) || ((s.toList == [105, 110, 116]) || (s.toList == [116, 101, 120, 116]))))) := by
  rw [text_eq s [117, 115, 101], text_eq s [116, 121, 112, 101], text_eq s [102, 117, 110, 99], text_eq s [105, 110, 116], text_eq s [116, 101, 120, 116]]
  rfl

set_option maxHeartbeats 1000000 in
theorem ident_any (s : ByteArray) (hs : s.size ≤ maxLen) (w : World) : Calls Tryz.prog 106 #[.string s] w fun e w' => e = .returned (.bool (identOk s)) ∧ Below w.heap.size w w' := by
  have HK := veil (kw_parts s)
  have HI : Hid (identOk s = (wordOk s && !kwB s)) := rfl
  have stop : ∀ b, kwB s = true → Ending.returned (Value.bool false) = Ending.returned (.bool (identOk s)) ∧ Below b w w := fun b h => ⟨by rw [HI.out, h]; simp, Below.refl _ _⟩
  have HS := veil stop
  clear stop
  cases h1 : (s.toList == [117, 115, 101])
  case true =>
    have HT : Hid (kwB s = true) := by show _ = _; rw [HK.out, h1]; rfl
    go_enter Tryz.func106, Tryz.ntmps106
    go_wp2_with fail
    go_ret
    exact HS.out _ HT.out
  cases h2 : (s.toList == [116, 121, 112, 101])
  case true =>
    have HT : Hid (kwB s = true) := by show _ = _; rw [HK.out, h1, h2]; rfl
    go_enter Tryz.func106, Tryz.ntmps106
    go_wp2_with fail
    go_ret
    exact HS.out _ HT.out
  cases h3 : (s.toList == [102, 117, 110, 99])
  case true =>
    have HT : Hid (kwB s = true) := by show _ = _; rw [HK.out, h1, h2, h3]; rfl
    go_enter Tryz.func106, Tryz.ntmps106
    go_wp2_with fail
    go_ret
    exact HS.out _ HT.out
  cases h4 : (s.toList == [105, 110, 116])
  case true =>
    have HT : Hid (kwB s = true) := by show _ = _; rw [HK.out, h1, h2, h3, h4]; rfl
    go_enter Tryz.func106, Tryz.ntmps106
    go_wp2_with fail
    go_ret
    exact HS.out _ HT.out
  cases h5 : (s.toList == [116, 101, 120, 116])
  case true =>
    have HT : Hid (kwB s = true) := by show _ = _; rw [HK.out, h1, h2, h3, h4, h5]; rfl
    go_enter Tryz.func106, Tryz.ntmps106
    go_wp2_with fail
    go_ret
    exact HS.out _ HT.out
  have HT : Hid (kwB s = false) := by show _ = _; rw [HK.out, h1, h2, h3, h4, h5]; rfl
  go_enter Tryz.func106, Tryz.ntmps106
  go_wp2_with fail
  refine (word_any s hs _).mono ?_
  rintro e w' ⟨rfl, hb⟩
  go_wp2
  go_ret
  exact ⟨by rw [HI.out, HT.out]; simp, hb⟩

set_option maxHeartbeats 1000000 in
theorem nameMay_any (s : ByteArray) (hs : s.size ≤ maxLen) (w : World) : Calls Tryz.prog 88 #[.string s] w fun e w' => e = .returned (.bool (identOk s)) ∧ w = w' := by
  have HK := veil (kw_parts s)
  have HI : Hid (identOk s = (wordOk s && !kwB s)) := rfl
  cases h0 : wordOk s
  case false =>
    have HF : Hid (identOk s = false) := by show _ = _; rw [HI.out, h0]; rfl
    go_enter Tryz.func88, Tryz.ntmps88
    go_wp2_with fail
    refine (wordMay_any s hs _).mono ?_
    rintro e w' ⟨rfl, rfl⟩
    rw [h0]
    go_wp2
    go_ret
    exact ⟨by rw [HF.out]; rfl, rfl⟩
  cases h1 : (s.toList == [117, 115, 101]) <;> cases h2 : (s.toList == [116, 121, 112, 101]) <;> cases h3 : (s.toList == [102, 117, 110, 99]) <;>
    cases h4 : (s.toList == [105, 110, 116]) <;> cases h5 : (s.toList == [116, 101, 120, 116])
  all_goals
    have HF : Hid (identOk s = _) := HI.out.trans (by rw [h0, HK.out, h1, h2, h3, h4, h5])
    go_enter Tryz.func88, Tryz.ntmps88
    go_wp2_with fail
    refine (wordMay_any s hs _).mono ?_
    rintro e w' ⟨rfl, rfl⟩
    rw [h0]
    go_wp2
    go_ret
    exact ⟨by rw [HF.out]; rfl, rfl⟩

end Go.Proofs.YtagbaimfigljiaaGreatDoor
namespace Go.Proofs.YtagbaimfigljiaaGreatDoor
open Go.RowKit
set_option maxRecDepth 100000

/-- what the digits ahead of place k make. -/
def valTo (s : ByteArray) : Nat → Int
  | 0 => 0
  | k + 1 => valTo s k * 10 + byteAt s k - 48

def numAt (s : ByteArray) (j : Nat) : Bool := isDigit (byteAt s j) && decide (valTo s (j + 1) ≤ 999999)
def leadZero (s : ByteArray) : Bool := decide (1 < s.size) && (byteAt s 0 == 48)
def numOk (s : ByteArray) : Bool := allB (fun j => isDigit (byteAt s j)) s.size && (isIn s.size 1 6 && !leadZero s)

theorem digit_bd {b : Int} (h : isDigit b = true) : 48 ≤ b ∧ b ≤ 57 := by
  simpa [isDigit] using h

theorem valTo_bd (s : ByteArray) (n : Nat) (h : ∀ j, j < n → isDigit (byteAt s j) = true) : ∀ k, k ≤ n → 0 ≤ valTo s k ∧ valTo s k < 10 ^ k
  | 0, _ => by simp [valTo]
  | k + 1, hk => by
    have ih := valTo_bd s n h k (by omega)
    have hd := digit_bd (h k (by omega))
    have e : (10 : Int) ^ (k + 1) = 10 ^ k * 10 := Int.pow_succ _ _
    simp only [valTo]
    omega

theorem valTo_up (s : ByteArray) (n : Nat) (h : ∀ j, j < n → isDigit (byteAt s j) = true) (h0 : byteAt s 0 ≠ 48) (hn : 6 < n) : 999999 < valTo s 7 := by
  have d0 := digit_bd (h 0 (by omega))
  have d1 := digit_bd (h 1 (by omega))
  have d2 := digit_bd (h 2 (by omega))
  have d3 := digit_bd (h 3 (by omega))
  have d4 := digit_bd (h 4 (by omega))
  have d5 := digit_bd (h 5 (by omega))
  have d6 := digit_bd (h 6 (by omega))
  simp only [valTo]
  omega

theorem numOk_go (s : ByteArray) (h1 : s.size ≠ 0) (h2 : leadZero s = false) : allB (numAt s) s.size = numOk s := by
  unfold numOk
  rw [h2, Bool.not_false, Bool.and_true]
  rw [Bool.eq_iff_iff, Bool.and_eq_true, allB_iff, allB_iff]
  constructor
  · intro e
    have hd : ∀ j, j < s.size → isDigit (byteAt s j) = true := fun j hj => by
      have := e j hj
      simp only [numAt, Bool.and_eq_true] at this
      exact this.1
    refine ⟨hd, ?_⟩
    by_cases h6 : 6 < s.size
    · have hz : byteAt s 0 ≠ 48 := by
        intro hz
        simp [leadZero, hz] at h2
        omega
      have hu := valTo_up s s.size hd hz h6
      have := e 6 h6
      simp only [numAt, Bool.and_eq_true, decide_eq_true_eq] at this
      have h7 : valTo s 7 ≤ 999999 := this.2
      omega
    · simp [isIn]; omega
  · rintro ⟨hd, hin⟩ j hj
    have hs : s.size ≤ 6 := by simp [isIn] at hin; omega
    have hb := (valTo_bd s s.size hd (j + 1) (by omega)).2
    have hp : 10 ^ (j + 1) ≤ 10 ^ 6 := Nat.pow_le_pow_right (by omega) (by omega)
    have hq : ((10 ^ (j + 1) : Nat) : Int) = (10 : Int) ^ (j + 1) := Int.natCast_pow 10 (j + 1)
    have hr : (10 : Nat) ^ 6 = 1000000 := rfl
    simp only [numAt, Bool.and_eq_true, decide_eq_true_eq]
    exact ⟨hd j hj, by omega⟩

theorem num_empty (s : ByteArray) (h : s.size = 0) : numOk s = false := by
  simp [numOk, isIn, h]
theorem num_lead (s : ByteArray) (h : leadZero s = true) : numOk s = false := by
  simp [numOk, h]

/-- the closure of token.number, at its variable's cell. -/
theorem num_step (b v : Int) (B : Nat) (hb0 : 0 ≤ b) (hb1 : b ≤ 255) (hv0 : 0 ≤ v) (hv1 : v ≤ 999999) (w : World) (hc : w.cell? ⟨B, 0, none⟩ = some (.int .i64 v)) (hf : w.frozen? ⟨B, 0, none⟩ = false) :
    Calls Tryz.prog 311 #[.int .u8 b, .pointer (some ⟨B, 0, none⟩)] w fun e w' => e = .returned (.bool (isDigit b && decide (v * 10 + b - 48 ≤ 999999))) ∧ w.setCell ⟨B, 0, none⟩ (.int .i64 (v * 10 + b - 48)) = w' := by
  cases hd : isDigit b
  · go_enter Tryz.func311, Tryz.ntmps311
    go_wp2_with (go_at_call 264; refine (digit_any _ _).mono ?_; rintro e w' ⟨rfl, rfl⟩)
    go_ret
    exact ⟨rfl, rfl⟩
  · go_enter Tryz.func311, Tryz.ntmps311
    go_wp2_with (go_at_call 264; refine (digit_any _ _).mono ?_; rintro e w' ⟨rfl, rfl⟩)
    go_ret
    exact ⟨rfl, rfl⟩

theorem number_every (s : ByteArray) (hmax : s.size ≤ maxLen) (w : World) :
    Calls Tryz.prog 252 #[.string s, .func (.func 311) #[] #[.pointer (some ⟨w.heap.size, 0, none⟩)]] (w.alloc (.cells #[.int .i64 0] 3)) fun e w' => e = .returned (.bool (allB (numAt s) s.size)) ∧ Below w.heap.size w w' := by
  refine (every_any 311 #[.pointer (some ⟨w.heap.size, 0, none⟩)] (enters_of Tryz.func311 (by kernel_rfl) rfl) s hmax (numAt s)
    (fun k W => W.cell? ⟨w.heap.size, 0, none⟩ = some (.int .i64 (valTo s k)) ∧ W.frozen? ⟨w.heap.size, 0, none⟩ = false ∧ W.cell? ⟨w.heap.size + 1, 0, none⟩ = some (.string s) ∧ Below w.heap.size w W)
    (w.alloc (.cells #[.int .i64 0] 3)) ?_ ?_ ?_).mono ?_
  · rintro k hk W _ hall ⟨hc, hf, hcs, hbl⟩
    have hd : ∀ j, j < k → isDigit (byteAt s j) = true := fun j hj => by
      have := hall j (Nat.zero_le _) hj
      simp only [numAt, Bool.and_eq_true] at this
      exact this.1
    have hv0 : 0 ≤ valTo s k := (valTo_bd s k hd k (Nat.le_refl _)).1
    have hv1 : valTo s k ≤ 999999 := by
      cases k with
      | zero => simp [valTo]
      | succ j =>
        have := hall j (Nat.zero_le _) (by omega)
        simp only [numAt, Bool.and_eq_true, decide_eq_true_eq] at this
        exact this.2
    have hr := byteAt_range s k
    have hb := byteAt_get s k hk
    rw [hb]
    refine (num_step (byteAt s k) (valTo s k) w.heap.size hr.1 hr.2 hv0 hv1 W hc hf).mono ?_
    rintro e w' ⟨rfl, rfl⟩
    refine ⟨rfl, World.cell?_setCell_same W _ _ hc, ?_, ?_, hbl.setCell (Nat.le_refl _) _⟩
    · rw [World.frozen?_setCell]; exact hf
    · exact (World.cell?_setCell_other W _ _ _ (by intro h; injection h; omega)).trans hcs
  · rintro k W ⟨_, _, hcs, _⟩
    simpa using hcs
  · refine ⟨?_, ?_, ?_, ?_⟩
    · rw [World.cell?_alloc_past _ _ _ (by simp), World.cell?_alloc_at _ _ _ _ rfl]; rfl
    · rw [World.frozen?_alloc_past _ _ _ (by simp), World.frozen?_alloc_at _ _ _ _ rfl]
    · rw [World.cell?_alloc_at _ _ _ _ (by simp)]; rfl
    · exact ((Below.refl _ _).alloc (Nat.le_refl _) _).alloc (by simp) _
  · rintro e w' ⟨rfl, j, _, _, _, hb⟩
    exact ⟨rfl, hb⟩

set_option maxHeartbeats 400000 in
theorem number_any (s : ByteArray) (hs : s.size ≤ maxLen) (w : World) : Calls Tryz.prog 265 #[.string s] w fun e w' => e = .returned (.bool (numOk s)) ∧ Below w.heap.size w w' := by
  have hmf : ∀ (fn : Fn) (first cap : Array Value) (w : World), (Instr.makeFunc fn first cap).run Tryz.prog w = .ok (.func fn first cap) w := fun _ _ _ _ => rfl
  have hmax := hs
  unfold maxLen at hs
  by_cases h0 : s.size = 0
  · have hz : (((s.size : Nat) : Int) == 0) = true := by simp [h0]
    have HF := veil (num_empty s h0)
    clear h0
    go_enter Tryz.func265, Tryz.ntmps265
    go_wp2
    go_ret
    exact ⟨by rw [HF.out]; rfl, Below.refl _ _⟩
  · have hz : (((s.size : Nat) : Int) == 0) = false := by simp [h0]
    have hpos : 0 < s.size := by omega
    have HB := veil (byteAt_get s 0 hpos)
    cases hl : leadZero s
    · have HG := veil (numOk_go s h0 hl)
      have hev := number_every s hmax w
      have h1 : ¬ ((1 : Int) < (s.size : Int) ∧ ((s[0]'hpos).toNat : Int) = 48) := by
        rw [HB.out]
        rintro ⟨h1, h2⟩
        have h1' : 1 < s.size := by omega
        simp [leadZero, h1', h2] at hl
      clear hl h0
      by_cases h2 : (1 : Int) < (s.size : Int)
      · have h48 : (((s[0]'hpos).toNat : Int) == 48) = false := by
          rw [beq_eq_false_iff_ne]
          exact fun h => h1 ⟨h2, h⟩
        clear h1
        go_enter Tryz.func265, Tryz.ntmps265
        go_wp2_with (go_at_call 252; refine hev.mono ?_; rintro e w' ⟨rfl, hb⟩)
        go_ret
        exact ⟨by rw [← HG.out]; rfl, hb⟩
      · clear h1
        go_enter Tryz.func265, Tryz.ntmps265
        go_wp2_with (go_at_call 252; refine hev.mono ?_; rintro e w' ⟨rfl, hb⟩)
        go_ret
        exact ⟨by rw [← HG.out]; rfl, hb⟩
    · have HF := veil (num_lead s hl)
      have h1 : (1 : Int) < (s.size : Int) := by simp [leadZero] at hl; omega
      have h48 : (((s[0]'hpos).toNat : Int) == 48) = true := by rw [HB.out]; simp [leadZero] at hl; simp [hl.2]
      clear h0 hl
      go_enter Tryz.func265, Tryz.ntmps265
      go_wp2
      go_ret
      exact ⟨by rw [HF.out]; rfl, Below.refl _ _⟩

set_option maxHeartbeats 400000 in
theorem digitsMay_any (s : ByteArray) (hs : s.size ≤ maxLen) (w : World) : Calls Tryz.prog 210 #[.string s] w fun e w' => e = .returned (.bool (numOk s)) ∧ w = w' := by
  unfold maxLen at hs
  go_enter Tryz.func210, Tryz.ntmps210
  go_wp2
  go_loop [3] (fun i => ∃ k : Nat, k ≤ s.size ∧ i = .int .i64 k ∧ ∀ j, j < k → isDigit (byteAt s j) = true) (fun i => s.size - (intOf i).toNat)
  case atStart => exact ⟨0, Nat.zero_le _, rfl, fun j h => absurd h (by omega)⟩
  case round =>
    obtain ⟨k, hk, rfl, hall⟩ := hrel
    have HA : Hid (∀ j, j < k → isDigit (byteAt s j) = true) := hall
    clear hall
    by_cases hlt : k < s.size
    · have hr := byteAt_range s k
      have hb := byteAt_get s k hlt
      have hbd : 0 ≤ ((s[k]'hlt).toNat : Int) ∧ ((s[k]'hlt).toNat : Int) ≤ 255 := by rw [hb]; exact hr
      have HFin : Hid (isIn ((s[k]'hlt).toNat : Int) 48 57 = false → numOk s = false) := fun h => by
        rw [hb] at h
        simp only [numOk, allB_false (p := fun j => isDigit (byteAt s j)) hlt h, Bool.false_and]
      have HS : Hid (isIn ((s[k]'hlt).toNat : Int) 48 57 = true → ∀ j, j < k + 1 → isDigit (byteAt s j) = true) := fun h j hj => by
        by_cases e : j = k
        · rw [e, ← hb]; exact h
        · exact HA.out j (by omega)
      clear hb hr
      obtain ⟨hbd1, hbd2⟩ := hbd
      cases h1 : isIn ((s[k]'hlt).toNat : Int) 48 57
      · have HF := veil (HFin.out h1)
        go_wp2_with (go_at_call 138; refine (in_any _ _ _ _).mono ?_; rintro e w' ⟨rfl, rfl⟩)
        go_ret
        exact ⟨by rw [HF.out]; rfl, rfl⟩
      · have HN := veil (HS.out h1)
        go_wp2_with (go_at_call 138; refine (in_any _ _ _ _).mono ?_; rintro e w' ⟨rfl, rfl⟩)
        go_round
        case rel => exact ⟨k + 1, by omega, by go_num, HN.out⟩
        case measure => simp [intOf]; omega
    · have hks : k = s.size := by omega
      have HQ : Hid (numOk s = (isIn s.size 1 6 && !leadZero s)) := by
        show _ = _
        rw [numOk, (allB_iff _ _).2 (fun j hj => HA.out j (by omega)), Bool.true_and]
      clear hks
      cases h1 : isIn (s.size : Int) 1 6
      · have HF : Hid (numOk s = false) := by show _ = _; rw [HQ.out, h1]; rfl
        go_wp2_with (go_at_call 138; refine (in_any _ _ _ _).mono ?_; rintro e w' ⟨rfl, rfl⟩)
        go_ret
        exact ⟨by rw [HF.out]; rfl, rfl⟩
      · have hpos : 0 < s.size := by simp [isIn] at h1; omega
        have HB := veil (byteAt_get s 0 hpos)
        by_cases h2 : s.size = 1
        · have h2' : (((s.size : Nat) : Int) == 1) = true := by simp [h2]
          have HF : Hid (numOk s = true) := by show _ = _; rw [HQ.out, h1]; simp [leadZero, h2]
          clear h2
          go_wp2_with (go_at_call 138; refine (in_any _ _ _ _).mono ?_; rintro e w' ⟨rfl, rfl⟩)
          go_ret
          exact ⟨by rw [HF.out]; rfl, rfl⟩
        · have h2' : (((s.size : Nat) : Int) == 1) = false := by rw [beq_eq_false_iff_ne]; omega
          have HF : Hid (numOk s = (((s[0]'hpos).toNat : Int) != 48)) := by
            show _ = _
            have h3 : 1 < s.size := by omega
            rw [HQ.out, h1, HB.out]; simp [leadZero, h3, bne]
          clear h2
          go_wp2_with (go_at_call 138; refine (in_any _ _ _ _).mono ?_; rintro e w' ⟨rfl, rfl⟩)
          go_ret
          exact ⟨by rw [HF.out]; rfl, rfl⟩

end Go.Proofs.YtagbaimfigljiaaGreatDoor
