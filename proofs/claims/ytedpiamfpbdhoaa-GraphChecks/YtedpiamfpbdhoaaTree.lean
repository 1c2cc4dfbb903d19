/- Plain trees: types, expressions, fields, functions and modules, what is wrong with them (P2.1 to P2.4); and how they lie in memory. -/
import Derived.Test.YtedpiamfpbdhoaaWords
import Derived.Test.YtedpiamfpbdhoaaQuotes
namespace Go.Proofs.Ytedpiamfpbdhoaa
open Go.RowKit

inductive Ty where
  | mk (kind : Int) (of name : ByteArray) (args : List Ty)
inductive Ex where
  | mk (kind n : Int) (of s : ByteArray) (args : List Ex)
structure Fd where
  name : ByteArray
  is : Ty
structure Fu where
  name : ByteArray
  var : ByteArray
  params : List Fd
  result : Ty
  body : Ex
structure Mo where
  uses : List ByteArray
  types : List Fd
  funcs : List Fu

def kwB (s : ByteArray) : Bool := s.data.toList == [117, 115, 101] || (s.data.toList == [116, 121, 112, 101] || (s.data.toList == [102, 117, 110, 99] || (s.data.toList == [105, 110, 116] || s.data.toList == [116, 101, 120, 116])))
def identOk (s : ByteArray) : Bool := wordOk s && !kwB s
def noneB (s : ByteArray) : Bool := s.data.toList == []
def noneOrIdent (s : ByteArray) : Bool := noneB s || identOk s

def tyFits (k : Int) (o n : ByteArray) (c : Nat) : Bool :=
  if k = 3 then c == 1 && (noneB n && noneB o) else if k = 4 then c == 0 && (identOk n && noneOrIdent o) else c == 0 && (noneB n && noneB o)

/-- the first of a list that is wrong. -/
def firstBad {α : Type} (f : α → Int) : List α → Int
  | [] => 0
  | t :: r => if f t = 0 then firstBad f r else f t

mutual
def tyFault : Ty → Nat → Int
  | .mk k o n xs, d => if 10 < d then 1 else if isIn k 1 4 = false then 3 else if tyFits k o n xs.length = false then 4 else tysFault xs (d + 1)
def tysFault : List Ty → Nat → Int
  | [], _ => 0
  | t :: r, d => if tyFault t d = 0 then tysFault r d else tyFault t d
end

theorem tysFault_first : ∀ (l : List Ty) (d : Nat), tysFault l d = firstBad (fun t => tyFault t d) l
  | [], d => by simp [tysFault, firstBad]
  | t :: r, d => by simp only [tysFault, firstBad, tysFault_first r d]

def namesFit (k : Int) (o s : ByteArray) : Bool :=
  if k = 2 then quoteOk s && noneB o else if k = 3 then identOk s && noneB o else if k = 4 then identOk s && noneOrIdent o else noneB s && noneB o
def countFits (k : Int) (c : Nat) : Bool :=
  if k = 4 then true else if k = 6 then decide (0 < c) else if k = 5 ∨ k = 7 then c == 2 else c == 0

mutual
def exFault : Ex → Nat → Int
  | .mk k n o s xs, d => if 10 < d then 1 else if isIn k 1 7 = false then 3 else if 8 < xs.length then 1 else if (n ≠ 0 ∧ k ≠ 1) ∨ namesFit k o s = false ∨ countFits k xs.length = false then 4 else if isIn n 0 999999 = false then 2 else exsFault xs (d + 1)
def exsFault : List Ex → Nat → Int
  | [], _ => 0
  | t :: r, d => if exFault t d = 0 then exsFault r d else exFault t d
end

theorem exsFault_first : ∀ (l : List Ex) (d : Nat), exsFault l d = firstBad (fun t => exFault t d) l
  | [], d => by simp [exsFault, firstBad]
  | t :: r, d => by simp only [exsFault, firstBad, exsFault_first r d]

def useFault (s : ByteArray) : Int := if identOk s = true then 0 else 4
def fdFault (f : Fd) : Int := if identOk f.name = true then tyFault f.is 1 else 4
def fuFault (f : Fu) : Int :=
  if identOk f.name = false ∨ noneOrIdent f.var = false then 4 else if 8 < f.params.length then 1 else
  if firstBad fdFault f.params ≠ 0 then firstBad fdFault f.params else if tyFault f.result 1 ≠ 0 then tyFault f.result 1 else exFault f.body 1
def moFault (m : Mo) : Int :=
  if 24 < wrap64 (wrap64 ((m.uses.length : Int) + m.types.length) + m.funcs.length) then 1 else
  if firstBad useFault m.uses ≠ 0 then firstBad useFault m.uses else if firstBad fdFault m.types ≠ 0 then firstBad fdFault m.types else firstBad fuFault m.funcs

theorem firstBad_at {α : Type} (f : α → Int) : ∀ (l : List α) (k : Nat) (h : k < l.length), (∀ j (hj : j < k), f (l[j]'(by omega)) = 0) → f l[k] ≠ 0 → firstBad f l = f l[k]
  | [], k, h, _, _ => absurd h (by simp)
  | t :: r, 0, _, _, h0 => by
    have h0' : f t ≠ 0 := by simpa using h0
    simp [firstBad, h0']
  | t :: r, k + 1, h, hj, h0 => by
    have ht : f t = 0 := by simpa using hj 0 (by omega)
    have ih := firstBad_at f r k (by simpa using h) (fun j hjk => by simpa using hj (j + 1) (by omega)) (by simpa using h0)
    simpa [firstBad, ht] using ih

theorem firstBad_none {α : Type} (f : α → Int) : ∀ (l : List α), (∀ j (hj : j < l.length), f l[j] = 0) → firstBad f l = 0
  | [], _ => rfl
  | t :: r, h => by
    have ht : f t = 0 := h 0 (Nat.zero_lt_succ _)
    have ih := firstBad_none f r (fun j hj => h (j + 1) (Nat.succ_lt_succ hj))
    simp [firstBad, ht, ih]

theorem firstBad_all {α : Type} (f : α → Int) : ∀ (l : List α), firstBad f l = 0 → ∀ j (hj : j < l.length), f l[j] = 0
  | [], _, j, hj => absurd hj (by simp)
  | t :: r, h, j, hj => by
    by_cases ht : f t = 0
    · have h' : firstBad f r = 0 := by simpa [firstBad, ht] using h
      cases j with
      | zero => simpa using ht
      | succ j => simpa using firstBad_all f r h' j (by simpa using hj)
    · simp only [firstBad, if_neg ht] at h
      exact absurd h ht

/-! ### How they lie in memory. S: the blocks in which they may lie. -/

def RowAt {α : Type} (P : α → Nat → Nat → Prop) (c : Nat) : List α → Nat → Nat → Prop
  | [], _, _ => True
  | t :: r, b, o => P t b o ∧ RowAt P c r b (o + c)

theorem RowAt.get {α : Type} {P : α → Nat → Nat → Prop} {c : Nat} : ∀ {l : List α} {b o : Nat}, RowAt P c l b o → ∀ i (hi : i < l.length), P l[i] b (o + i * c)
  | [], b, o, _, i, hi => absurd hi (by simp)
  | t :: r, b, o, h, 0, _ => by simpa using h.1
  | t :: r, b, o, h, i + 1, hi => by
    have := RowAt.get h.2 i (by simpa using hi)
    have e : o + (i + 1) * c = o + c + i * c := by rw [Nat.add_mul]; omega
    rw [e]
    simpa using this

theorem RowAt.mk {α : Type} {P : α → Nat → Nat → Prop} {c : Nat} : ∀ {l : List α} {b o : Nat}, (∀ i (hi : i < l.length), P l[i] b (o + i * c)) → RowAt P c l b o
  | [], b, o, _ => trivial
  | t :: r, b, o, h => ⟨by have := h 0 (Nat.zero_lt_succ _); rw [Nat.zero_mul, Nat.add_zero] at this; exact this, RowAt.mk fun i hi => by
    have := h (i + 1) (Nat.succ_lt_succ hi)
    have e : o + (i + 1) * c = o + c + i * c := by rw [Nat.add_mul]; omega
    rw [e] at this
    exact this⟩

theorem RowAt.imp {α : Type} {P Q : α → Nat → Nat → Prop} {c : Nat} {l : List α} {b o : Nat} (h : RowAt P c l b o) (hpq : ∀ i (hi : i < l.length) o', P l[i] b o' → Q l[i] b o') : RowAt Q c l b o :=
  RowAt.mk fun i hi => hpq i hi _ (h.get i hi)

/-- a slice that holds these. -/
def SlAt {α : Type} (S : Nat → Prop) (P : α → Nat → Nat → Prop) (c : Nat) (l : List α) (v : Value) : Prop :=
  ∃ a cap, v = .slice a l.length cap ∧ (l.length ≤ maxLen ∧ l.length ≤ cap) ∧ (l.length = 0 ∨ ∃ b o, a = some ⟨b, o, none⟩ ∧ S b ∧ RowAt P c l b o)

mutual
def TyAt (S : Nat → Prop) (w : World) : Ty → Nat → Nat → Prop
  | .mk k f n xs, b, o => w.cell? ⟨b, o, none⟩ = some (.int .i64 k) ∧ w.cell? ⟨b, o + 1, none⟩ = some (.string f) ∧ w.cell? ⟨b, o + 2, none⟩ = some (.string n) ∧ f.size ≤ maxLen ∧ n.size ≤ maxLen ∧
      ∃ v, w.cell? ⟨b, o + 3, none⟩ = some v ∧ ∃ a cap, v = .slice a xs.length cap ∧ (xs.length ≤ maxLen ∧ xs.length ≤ cap) ∧ (xs.length = 0 ∨ ∃ b' o', a = some ⟨b', o', none⟩ ∧ S b' ∧ TysAt S w xs b' o')
def TysAt (S : Nat → Prop) (w : World) : List Ty → Nat → Nat → Prop
  | [], _, _ => True
  | t :: r, b, o => TyAt S w t b o ∧ TysAt S w r b (o + 4)
end

theorem tysAt_row (S : Nat → Prop) (w : World) : ∀ (l : List Ty) (b o : Nat), TysAt S w l b o ↔ RowAt (TyAt S w) 4 l b o
  | [], b, o => by simp [TysAt, RowAt]
  | t :: r, b, o => by simp only [TysAt, RowAt, tysAt_row S w r b (o + 4)]

mutual
def ExAt (S : Nat → Prop) (w : World) : Ex → Nat → Nat → Prop
  | .mk k n f s xs, b, o => w.cell? ⟨b, o, none⟩ = some (.int .i64 k) ∧ w.cell? ⟨b, o + 1, none⟩ = some (.int .i64 n) ∧ w.cell? ⟨b, o + 2, none⟩ = some (.string f) ∧ w.cell? ⟨b, o + 3, none⟩ = some (.string s) ∧ f.size ≤ maxLen ∧ s.size ≤ maxLen ∧
      ∃ v, w.cell? ⟨b, o + 4, none⟩ = some v ∧ ∃ a cap, v = .slice a xs.length cap ∧ (xs.length ≤ maxLen ∧ xs.length ≤ cap) ∧ (xs.length = 0 ∨ ∃ b' o', a = some ⟨b', o', none⟩ ∧ S b' ∧ ExsAt S w xs b' o')
def ExsAt (S : Nat → Prop) (w : World) : List Ex → Nat → Nat → Prop
  | [], _, _ => True
  | t :: r, b, o => ExAt S w t b o ∧ ExsAt S w r b (o + 5)
end

theorem exsAt_row (S : Nat → Prop) (w : World) : ∀ (l : List Ex) (b o : Nat), ExsAt S w l b o ↔ RowAt (ExAt S w) 5 l b o
  | [], b, o => by simp [ExsAt, RowAt]
  | t :: r, b, o => by simp only [ExsAt, RowAt, exsAt_row S w r b (o + 5)]

def StrAt (w : World) (s : ByteArray) (b o : Nat) : Prop := w.cell? ⟨b, o, none⟩ = some (.string s) ∧ s.size ≤ maxLen
def FdAt (S : Nat → Prop) (w : World) (f : Fd) (b o : Nat) : Prop := StrAt w f.name b o ∧ TyAt S w f.is b (o + 1)
def FuAt (S : Nat → Prop) (w : World) (f : Fu) (b o : Nat) : Prop :=
  StrAt w f.name b o ∧ StrAt w f.var b (o + 1) ∧ (∃ v, w.cell? ⟨b, o + 2, none⟩ = some v ∧ SlAt S (FdAt S w) 5 f.params v) ∧ TyAt S w f.result b (o + 3) ∧ ExAt S w f.body b (o + 7)

/-- a type's, an expression's cells. -/
def TyCs (S : Nat → Prop) (w : World) (t : Ty) (k : Int) (f n : ByteArray) (va : Value) : Prop := ∃ xs, t = .mk k f n xs ∧ f.size ≤ maxLen ∧ n.size ≤ maxLen ∧ SlAt S (TyAt S w) 4 xs va
def ExCs (S : Nat → Prop) (w : World) (t : Ex) (k n : Int) (f s : ByteArray) (va : Value) : Prop := ∃ xs, t = .mk k n f s xs ∧ f.size ≤ maxLen ∧ s.size ≤ maxLen ∧ SlAt S (ExAt S w) 5 xs va

/-- .. xs values. -/
def TyIs (S : Nat → Prop) (w : World) (t : Ty) (v : Value) : Prop := ∃ k f n va, v = .agg #[.int .i64 k, .string f, .string n, va] ∧ TyCs S w t k f n va
def ExIs (S : Nat → Prop) (w : World) (t : Ex) (v : Value) : Prop := ∃ k n f s va, v = .agg #[.int .i64 k, .int .i64 n, .string f, .string s, va] ∧ ExCs S w t k n f s va
def FdIs (S : Nat → Prop) (w : World) (x : Fd) (v : Value) : Prop := ∃ k f n va, v = .agg #[.string x.name, .int .i64 k, .string f, .string n, va] ∧ x.name.size ≤ maxLen ∧ TyCs S w x.is k f n va
def FuIs (S : Nat → Prop) (w : World) (x : Fu) (v : Value) : Prop := ∃ vp k f n va k' n' f' s' va', v = .agg #[.string x.name, .string x.var, vp, .int .i64 k, .string f, .string n, va, .int .i64 k', .int .i64 n', .string f', .string s', va'] ∧ x.name.size ≤ maxLen ∧ x.var.size ≤ maxLen ∧
  SlAt S (FdAt S w) 5 x.params vp ∧ TyCs S w x.result k f n va ∧ ExCs S w x.body k' n' f' s' va'
def MoIs (S : Nat → Prop) (w : World) (m : Mo) (v : Value) : Prop := ∃ vu vt vf, v = .agg #[vu, vt, vf] ∧ SlAt S (StrAt w) 1 m.uses vu ∧ SlAt S (FdAt S w) 5 m.types vt ∧ SlAt S (FuAt S w) 12 m.funcs vf

theorem tyAt_cells {S : Nat → Prop} {w : World} {t : Ty} {b o : Nat} : TyAt S w t b o ↔
    ∃ k f n va, w.cell? ⟨b, o, none⟩ = some (.int .i64 k) ∧ w.cell? ⟨b, o + 1, none⟩ = some (.string f) ∧ w.cell? ⟨b, o + 2, none⟩ = some (.string n) ∧ w.cell? ⟨b, o + 3, none⟩ = some va ∧ TyCs S w t k f n va := by
  cases t with
  | mk k f n xs =>
    simp only [TyAt, TyCs, SlAt, tysAt_row]
    constructor
    · rintro ⟨h0, h1, h2, h3, h4, v, h5, h6⟩
      exact ⟨k, f, n, v, h0, h1, h2, h5, xs, rfl, h3, h4, h6⟩
    · rintro ⟨k', f', n', v, h0, h1, h2, h5, xs', e, h3, h4, h6⟩
      cases e
      exact ⟨h0, h1, h2, h3, h4, v, h5, h6⟩
theorem exAt_cells {S : Nat → Prop} {w : World} {t : Ex} {b o : Nat} : ExAt S w t b o ↔
    ∃ k n f s va, w.cell? ⟨b, o, none⟩ = some (.int .i64 k) ∧ w.cell? ⟨b, o + 1, none⟩ = some (.int .i64 n) ∧ w.cell? ⟨b, o + 2, none⟩ = some (.string f) ∧ w.cell? ⟨b, o + 3, none⟩ = some (.string s) ∧ w.cell? ⟨b, o + 4, none⟩ = some va ∧ ExCs S w t k n f s va := by
  cases t with
  | mk k n f s xs =>
    simp only [ExAt, ExCs, SlAt, exsAt_row]
    constructor
    · rintro ⟨h0, h1, h2, h2', h3, h4, v, h5, h6⟩
      exact ⟨k, n, f, s, v, h0, h1, h2, h2', h5, xs, rfl, h3, h4, h6⟩
    · rintro ⟨k', n', f', s', v, h0, h1, h2, h2', h5, xs', e, h3, h4, h6⟩
      cases e
      exact ⟨h0, h1, h2, h2', h3, h4, v, h5, h6⟩

/-! ### Nothing turns in those blocks: all lies xs it lay. -/

/-- the blocks of S lie xs they lay, and are blocks of S'. -/
structure Keeps (S S' : Nat → Prop) (w w' : World) : Prop where
  blocks : ∀ b, S b → w'.heap[b]? = w.heap[b]?
  sub : ∀ b, S b → S' b

theorem SlAt.imp {α : Type} {S S' : Nat → Prop} (hs : ∀ b, S b → S' b) {P Q : α → Nat → Nat → Prop} {c : Nat} {l : List α} {v : Value} (h : SlAt S P c l v) (hpq : ∀ t ∈ l, ∀ b o, S b → P t b o → Q t b o) : SlAt S' Q c l v := by
  obtain ⟨a, cap, rfl, hl, h⟩ := h
  refine ⟨a, cap, rfl, hl, h.imp_right ?_⟩
  rintro ⟨b, o, rfl, hb, hr⟩
  exact ⟨b, o, rfl, hs b hb, hr.imp fun i hi o' => hpq _ (List.getElem_mem hi) b o' hb⟩

theorem Keeps.cell {S S' : Nat → Prop} {w w' : World} (hk : Keeps S S' w w') {b o : Nat} (hb : S b) : w'.cell? ⟨b, o, none⟩ = w.cell? ⟨b, o, none⟩ := World.cell?_of_block (hk.blocks b hb)

mutual
theorem TyAt.keep {S S' : Nat → Prop} {w w' : World} (hk : Keeps S S' w w') : ∀ {t : Ty} {b o : Nat}, S b → TyAt S w t b o → TyAt S' w' t b o
  | .mk k f n xs, b, o, hb, h => by
    rw [TyAt] at h ⊢
    obtain ⟨c0, c1, c2, s0, s1, v, c3, a, cap, rfl, hl, hr⟩ := h
    rw [hk.cell hb, hk.cell hb, hk.cell hb, hk.cell hb]
    refine ⟨c0, c1, c2, s0, s1, _, c3, a, cap, rfl, hl, ?_⟩
    rcases hr with hr | ⟨b', o', ha, hb', hr⟩
    · exact Or.inl hr
    · exact Or.inr ⟨b', o', ha, hk.sub _ hb', TysAt.keep hk hb' hr⟩
theorem TysAt.keep {S S' : Nat → Prop} {w w' : World} (hk : Keeps S S' w w') : ∀ {l : List Ty} {b o : Nat}, S b → TysAt S w l b o → TysAt S' w' l b o
  | [], _, _, _, _ => by rw [TysAt]; trivial
  | t :: r, b, o, hb, h => by
    rw [TysAt] at h ⊢
    exact ⟨TyAt.keep hk hb h.1, TysAt.keep hk hb h.2⟩
end
mutual
theorem ExAt.keep {S S' : Nat → Prop} {w w' : World} (hk : Keeps S S' w w') : ∀ {t : Ex} {b o : Nat}, S b → ExAt S w t b o → ExAt S' w' t b o
  | .mk k n f s xs, b, o, hb, h => by
    rw [ExAt] at h ⊢
    obtain ⟨c0, c1, c2, c3, s0, s1, v, c4, a, cap, rfl, hl, hr⟩ := h
    rw [hk.cell hb, hk.cell hb, hk.cell hb, hk.cell hb, hk.cell hb]
    refine ⟨c0, c1, c2, c3, s0, s1, _, c4, a, cap, rfl, hl, ?_⟩
    rcases hr with hr | ⟨b', o', ha, hb', hr⟩
    · exact Or.inl hr
    · exact Or.inr ⟨b', o', ha, hk.sub _ hb', ExsAt.keep hk hb' hr⟩
theorem ExsAt.keep {S S' : Nat → Prop} {w w' : World} (hk : Keeps S S' w w') : ∀ {l : List Ex} {b o : Nat}, S b → ExsAt S w l b o → ExsAt S' w' l b o
  | [], _, _, _, _ => by rw [ExsAt]; trivial
  | t :: r, b, o, hb, h => by
    rw [ExsAt] at h ⊢
    exact ⟨ExAt.keep hk hb h.1, ExsAt.keep hk hb h.2⟩
end

theorem StrAt.keep {S S' : Nat → Prop} {w w' : World} (hk : Keeps S S' w w') {s : ByteArray} {b o : Nat} (hb : S b) (h : StrAt w s b o) : StrAt w' s b o := by
  unfold StrAt at h ⊢
  rwa [hk.cell hb]
theorem FdAt.keep {S S' : Nat → Prop} {w w' : World} (hk : Keeps S S' w w') {f : Fd} {b o : Nat} (hb : S b) (h : FdAt S w f b o) : FdAt S' w' f b o := ⟨StrAt.keep hk hb h.1, TyAt.keep hk hb h.2⟩
theorem tySl_keep {S S' : Nat → Prop} {w w' : World} (hk : Keeps S S' w w') {l : List Ty} {v : Value} (h : SlAt S (TyAt S w) 4 l v) : SlAt S' (TyAt S' w') 4 l v := h.imp hk.sub fun _ _ _ _ hb' h => TyAt.keep hk hb' h
theorem exSl_keep {S S' : Nat → Prop} {w w' : World} (hk : Keeps S S' w w') {l : List Ex} {v : Value} (h : SlAt S (ExAt S w) 5 l v) : SlAt S' (ExAt S' w') 5 l v := h.imp hk.sub fun _ _ _ _ hb' h => ExAt.keep hk hb' h
theorem fdSl_keep {S S' : Nat → Prop} {w w' : World} (hk : Keeps S S' w w') {l : List Fd} {v : Value} (h : SlAt S (FdAt S w) 5 l v) : SlAt S' (FdAt S' w') 5 l v := h.imp hk.sub fun _ _ _ _ hb' h => FdAt.keep hk hb' h
theorem strSl_keep {S S' : Nat → Prop} {w w' : World} (hk : Keeps S S' w w') {l : List ByteArray} {v : Value} (h : SlAt S (StrAt w) 1 l v) : SlAt S' (StrAt w') 1 l v := h.imp hk.sub fun _ _ _ _ hb' h => StrAt.keep hk hb' h
theorem FuAt.keep {S S' : Nat → Prop} {w w' : World} (hk : Keeps S S' w w') {f : Fu} {b o : Nat} (hb : S b) (h : FuAt S w f b o) : FuAt S' w' f b o := by
  obtain ⟨h0, h1, ⟨v, hv, hp⟩, h2, h3⟩ := h
  exact ⟨StrAt.keep hk hb h0, StrAt.keep hk hb h1, ⟨v, by rwa [hk.cell hb], fdSl_keep hk hp⟩, TyAt.keep hk hb h2, ExAt.keep hk hb h3⟩
theorem fuSl_keep {S S' : Nat → Prop} {w w' : World} (hk : Keeps S S' w w') {l : List Fu} {v : Value} (h : SlAt S (FuAt S w) 12 l v) : SlAt S' (FuAt S' w') 12 l v := h.imp hk.sub fun _ _ _ _ hb' h => FuAt.keep hk hb' h
theorem TyCs.keep {S S' : Nat → Prop} {w w' : World} (hk : Keeps S S' w w') {t : Ty} {k : Int} {f n : ByteArray} {v : Value} (h : TyCs S w t k f n v) : TyCs S' w' t k f n v := by
  obtain ⟨xs, rfl, h1, h2, h3⟩ := h
  exact ⟨xs, rfl, h1, h2, tySl_keep hk h3⟩
theorem ExCs.keep {S S' : Nat → Prop} {w w' : World} (hk : Keeps S S' w w') {t : Ex} {k n : Int} {f s : ByteArray} {v : Value} (h : ExCs S w t k n f s v) : ExCs S' w' t k n f s v := by
  obtain ⟨xs, rfl, h1, h2, h3⟩ := h
  exact ⟨xs, rfl, h1, h2, exSl_keep hk h3⟩
theorem TyIs.keep {S S' : Nat → Prop} {w w' : World} (hk : Keeps S S' w w') {t : Ty} {v : Value} (h : TyIs S w t v) : TyIs S' w' t v := by
  obtain ⟨k, f, n, va, rfl, h1⟩ := h
  exact ⟨k, f, n, va, rfl, h1.keep hk⟩
theorem ExIs.keep {S S' : Nat → Prop} {w w' : World} (hk : Keeps S S' w w') {t : Ex} {v : Value} (h : ExIs S w t v) : ExIs S' w' t v := by
  obtain ⟨k, n, f, s, va, rfl, h1⟩ := h
  exact ⟨k, n, f, s, va, rfl, h1.keep hk⟩
theorem FdIs.keep {S S' : Nat → Prop} {w w' : World} (hk : Keeps S S' w w') {x : Fd} {v : Value} (h : FdIs S w x v) : FdIs S' w' x v := by
  obtain ⟨k, f, n, va, rfl, h1, h2⟩ := h
  exact ⟨k, f, n, va, rfl, h1, h2.keep hk⟩
theorem FuIs.keep {S S' : Nat → Prop} {w w' : World} (hk : Keeps S S' w w') {x : Fu} {v : Value} (h : FuIs S w x v) : FuIs S' w' x v := by
  obtain ⟨vp, k, f, n, va, k', n', f', s', va', rfl, h1, h2, h3, h4, h5⟩ := h
  exact ⟨vp, k, f, n, va, k', n', f', s', va', rfl, h1, h2, fdSl_keep hk h3, h4.keep hk, h5.keep hk⟩
theorem MoIs.keep {S S' : Nat → Prop} {w w' : World} (hk : Keeps S S' w w') {m : Mo} {v : Value} (h : MoIs S w m v) : MoIs S' w' m v := by
  obtain ⟨vu, vt, vf, rfl, h1, h2, h3⟩ := h
  exact ⟨vu, vt, vf, rfl, strSl_keep hk h1, fdSl_keep hk h2, fuSl_keep hk h3⟩

theorem SlAt.slice {α : Type} {S : Nat → Prop} {P : α → Nat → Nat → Prop} {c : Nat} {l : List α} {v : Value} (h : SlAt S P c l v) : ∃ a n cap, v = .slice a n cap := by
  obtain ⟨a, cap, rfl, _⟩ := h
  exact ⟨a, _, cap, rfl⟩
theorem TyCs.slice {S : Nat → Prop} {w : World} {t : Ty} {k : Int} {f n : ByteArray} {v : Value} (h : TyCs S w t k f n v) : ∃ a n cap, v = .slice a n cap := by
  obtain ⟨xs, rfl, _, _, h3⟩ := h
  exact h3.slice
theorem ExCs.slice {S : Nat → Prop} {w : World} {t : Ex} {k n : Int} {f s : ByteArray} {v : Value} (h : ExCs S w t k n f s v) : ∃ a n cap, v = .slice a n cap := by
  obtain ⟨xs, rfl, _, _, h3⟩ := h
  exact h3.slice

theorem Keeps.below {S : Nat → Prop} {w w' : World} {B : Nat} (h : Below B w w') (hS : ∀ b, S b → b < B) : Keeps S S w w' := ⟨fun b hb => h.block b (hS b hb), fun _ h => h⟩

end Go.Proofs.Ytedpiamfpbdhoaa
