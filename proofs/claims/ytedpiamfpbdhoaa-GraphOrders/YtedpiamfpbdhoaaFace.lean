/- Plain faces: types' and functions' names with what they are; imports. How they lie in memory, and that they go on lying so where nothing of it turns; when two of them are the same. -/
import Derived.Test.YtedpiamfpbdhoaaTree
import Derived.Lib.Bytealg
namespace Go.Proofs.Ytedpiamfpbdhoaa
open Go.RowKit

structure Kn where
  name : ByteArray
  is : ByteArray
structure Sg where
  name : ByteArray
  params : List ByteArray
  result : ByteArray
structure Fc where
  types : List Kn
  funcs : List Sg
structure Im where
  name : ByteArray
  there : Bool
  face : Fc

instance : Inhabited Kn := ⟨⟨.empty, .empty⟩⟩
instance : Inhabited Sg := ⟨⟨.empty, [], .empty⟩⟩
instance : Inhabited Im := ⟨⟨.empty, false, ⟨[], []⟩⟩⟩

/-! ### How they lie in memory. -/

def KnAt (w : World) (k : Kn) (b o : Nat) : Prop := StrAt w k.name b o ∧ StrAt w k.is b (o + 1)
def SgAt (S : Nat → Prop) (w : World) (g : Sg) (b o : Nat) : Prop :=
  StrAt w g.name b o ∧ (∃ v, w.cell? ⟨b, o + 1, none⟩ = some v ∧ SlAt S (StrAt w) 1 g.params v) ∧ StrAt w g.result b (o + 2)
def SgIs (S : Nat → Prop) (w : World) (g : Sg) (v : Value) : Prop := ∃ vp, v = .agg #[.string g.name, vp, .string g.result] ∧ g.name.size ≤ maxLen ∧ g.result.size ≤ maxLen ∧ SlAt S (StrAt w) 1 g.params vp
/-- the two lists of a face. -/
def FcCs (S : Nat → Prop) (w : World) (f : Fc) (vt vf : Value) : Prop := SlAt S (KnAt w) 2 f.types vt ∧ SlAt S (SgAt S w) 3 f.funcs vf
def FcIs (S : Nat → Prop) (w : World) (f : Fc) (v : Value) : Prop := ∃ vt vf, v = .agg #[vt, vf] ∧ FcCs S w f vt vf
def ImAt (S : Nat → Prop) (w : World) (i : Im) (b o : Nat) : Prop :=
  StrAt w i.name b o ∧ w.cell? ⟨b, o + 1, none⟩ = some (.bool i.there) ∧ ∃ vt vf, w.cell? ⟨b, o + 2, none⟩ = some vt ∧ w.cell? ⟨b, o + 3, none⟩ = some vf ∧ FcCs S w i.face vt vf

theorem KnAt.keep {S S' : Nat → Prop} {w w' : World} (hk : Keeps S S' w w') {k : Kn} {b o : Nat} (hb : S b) (h : KnAt w k b o) : KnAt w' k b o := ⟨StrAt.keep hk hb h.1, StrAt.keep hk hb h.2⟩
theorem knSl_keep {S S' : Nat → Prop} {w w' : World} (hk : Keeps S S' w w') {l : List Kn} {v : Value} (h : SlAt S (KnAt w) 2 l v) : SlAt S' (KnAt w') 2 l v := h.imp hk.sub fun _ _ _ _ hb' h => KnAt.keep hk hb' h
theorem SgAt.keep {S S' : Nat → Prop} {w w' : World} (hk : Keeps S S' w w') {g : Sg} {b o : Nat} (hb : S b) (h : SgAt S w g b o) : SgAt S' w' g b o := by
  obtain ⟨h0, ⟨v, hv, hp⟩, h1⟩ := h
  exact ⟨StrAt.keep hk hb h0, ⟨v, by rwa [hk.cell hb], strSl_keep hk hp⟩, StrAt.keep hk hb h1⟩
theorem sgSl_keep {S S' : Nat → Prop} {w w' : World} (hk : Keeps S S' w w') {l : List Sg} {v : Value} (h : SlAt S (SgAt S w) 3 l v) : SlAt S' (SgAt S' w') 3 l v := h.imp hk.sub fun _ _ _ _ hb' h => SgAt.keep hk hb' h
theorem SgIs.keep {S S' : Nat → Prop} {w w' : World} (hk : Keeps S S' w w') {g : Sg} {v : Value} (h : SgIs S w g v) : SgIs S' w' g v := by
  obtain ⟨vp, rfl, h1, h2, h3⟩ := h
  exact ⟨vp, rfl, h1, h2, strSl_keep hk h3⟩
theorem FcCs.keep {S S' : Nat → Prop} {w w' : World} (hk : Keeps S S' w w') {f : Fc} {vt vf : Value} (h : FcCs S w f vt vf) : FcCs S' w' f vt vf := ⟨knSl_keep hk h.1, sgSl_keep hk h.2⟩
theorem FcIs.keep {S S' : Nat → Prop} {w w' : World} (hk : Keeps S S' w w') {f : Fc} {v : Value} (h : FcIs S w f v) : FcIs S' w' f v := by
  obtain ⟨vt, vf, rfl, h1⟩ := h
  exact ⟨vt, vf, rfl, h1.keep hk⟩
theorem ImAt.keep {S S' : Nat → Prop} {w w' : World} (hk : Keeps S S' w w') {i : Im} {b o : Nat} (hb : S b) (h : ImAt S w i b o) : ImAt S' w' i b o := by
  obtain ⟨h0, h1, vt, vf, h2, h3, h4⟩ := h
  exact ⟨StrAt.keep hk hb h0, by rwa [hk.cell hb], vt, vf, by rwa [hk.cell hb], by rwa [hk.cell hb], h4.keep hk⟩
theorem imSl_keep {S S' : Nat → Prop} {w w' : World} (hk : Keeps S S' w w') {l : List Im} {v : Value} (h : SlAt S (ImAt S w) 4 l v) : SlAt S' (ImAt S' w') 4 l v := h.imp hk.sub fun _ _ _ _ hb' h => ImAt.keep hk hb' h

/-! ### When two are the same. -/

def sEq (a b : ByteArray) : Bool := a.toList == b.toList
def eqL {α : Type} (p : α → α → Bool) : List α → List α → Bool
  | [], [] => true
  | x :: xs, y :: ys => p x y && eqL p xs ys
  | [], _ :: _ => false
  | _ :: _, [] => false
def knEq (a b : Kn) : Bool := sEq a.name b.name && sEq a.is b.is
def sgEq (a b : Sg) : Bool := sEq a.name b.name && (sEq a.result b.result && eqL sEq a.params b.params)
def fcEq (a b : Fc) : Bool := eqL knEq a.types b.types && eqL sgEq a.funcs b.funcs

theorem eqL_len {α : Type} {p : α → α → Bool} : ∀ {l m : List α}, l.length ≠ m.length → eqL p l m = false
  | [], [], h => absurd rfl h
  | x :: xs, y :: ys, h => by rw [eqL, eqL_len (l := xs) (m := ys) (fun e => h (by simp [e]))]; simp
  | [], _ :: _, _ => rfl
  | _ :: _, [], _ => rfl
theorem eqL_step {α : Type} {p : α → α → Bool} {l m : List α} {k : Nat} (hl : k < l.length) (hm : k < m.length) : eqL p (l.drop k) (m.drop k) = (p l[k] m[k] && eqL p (l.drop (k + 1)) (m.drop (k + 1))) := by
  rw [List.drop_eq_getElem_cons hl, List.drop_eq_getElem_cons hm, eqL]
theorem eqL_end {α : Type} {p : α → α → Bool} {l m : List α} {k : Nat} (hl : l.length ≤ k) (hm : m.length ≤ k) : eqL p (l.drop k) (m.drop k) = true := by
  rw [List.drop_eq_nil_of_le hl, List.drop_eq_nil_of_le hm, eqL]
theorem eqL_refl {α : Type} {p : α → α → Bool} (hp : ∀ x, p x x = true) : ∀ (l : List α), eqL p l l = true
  | [] => rfl
  | x :: xs => by rw [eqL, hp, eqL_refl hp xs]; rfl
theorem sEq_refl (a : ByteArray) : sEq a a = true := by simp [sEq]
theorem knEq_refl (a : Kn) : knEq a a = true := by simp [knEq, sEq_refl]
theorem sgEq_refl (a : Sg) : sgEq a a = true := by simp [sgEq, sEq_refl, eqL_refl sEq_refl]
theorem fcEq_refl (a : Fc) : fcEq a a = true := by simp [fcEq, eqL_refl knEq_refl, eqL_refl sgEq_refl]

theorem SlAt.len {α : Type} {S : Nat → Prop} {P : α → Nat → Nat → Prop} {c : Nat} {l : List α} {v : Value} (h : SlAt S P c l v) : l.length ≤ maxLen := by
  obtain ⟨_, _, _, h, _⟩ := h
  exact h.1
theorem SlAt.is {α : Type} {S : Nat → Prop} {P : α → Nat → Nat → Prop} {c : Nat} {l : List α} {v : Value} (h : SlAt S P c l v) : ∃ a cap, v = .slice a l.length cap := by
  obtain ⟨a, cap, rfl, _⟩ := h
  exact ⟨a, cap, rfl⟩
/-- the k-th of a list that has so many. -/
theorem SlAt.at {α : Type} {S : Nat → Prop} {P : α → Nat → Nat → Prop} {c : Nat} {l : List α} {a : Option Addr} {n cap : Nat} (h : SlAt S P c l (.slice a n cap)) {k : Nat} (hk : k < l.length) :
    n = l.length ∧ ∃ b o, a = some ⟨b, o, none⟩ ∧ S b ∧ P l[k] b (o + k * c) := by
  obtain ⟨a', cap', e, _, h⟩ := h
  injection e with e1 e2 e3
  subst e1 e2
  rcases h with h | ⟨b, o, rfl, hb, hr⟩
  · omega
  · exact ⟨rfl, b, o, rfl, hb, hr.get k hk⟩

end Go.Proofs.Ytedpiamfpbdhoaa
