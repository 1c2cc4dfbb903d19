/- Plain words for the reference's function: what is told, step by step. -/
import Derived.Test.YtpamadnckijfkabGreatDoorEyeHead
import Derived.Test.YtpamadnckijfkabGreatDoorReadNextF
namespace Go.Proofs.YtpamadnckijfkabGreatDoor
open Go.RowKit
set_option maxRecDepth 100000

def bindF (R : Res (List Fd)) (k : List Fd → Nat → Res Fu) : Res Fu := match R with
  | .bad e => .bad e
  | .ok ps j => k ps j

/-- behind the params: the result, and the body. -/
def finRes (l : Toks) (n v : ByteArray) (ps : List Fd) (j : Nat) : Res Fu := if sgn l j [58] = true then (match pTy l 40 (j + 1) with
  | .bad e => .bad e
  | .ok t j => if sgn l j [61] = true then (match pEx l 40 (j + 1) with
    | .bad e => .bad e
    | .ok x j => .ok ⟨n, v, ps, t, x⟩ j) else .bad 4) else .bad 4

/-- behind a function's name, and its variable. -/
def funRest (l : Toks) (n v : ByteArray) (j : Nat) : Res Fu := if sgn l j [40] = true then bindF (pParams l (j + 1)) (finRes l n v) else .bad 4

theorem pFun_rest (l : Toks) (i : Nat) : pFun l i = match identAt l i with
  | none => .bad 4
  | some n => match pVar l (i + 1) with
    | .bad e => .bad e
    | .ok v j => funRest l n v j := by
  rw [pFun]
  cases identAt l i with
  | none => rfl
  | some n =>
    cases pVar l (i + 1) with
    | bad e => rfl
    | ok v j =>
      show (if sgn l j [40] = true then _ else _) = funRest l n v j
      unfold funRest
      cases hs : sgn l j [40] with
      | false => rfl
      | true =>
        simp only [if_true]
        cases pParams l (j + 1) with
        | bad e => rfl
        | ok ps j => rfl

/-- at the head of the loop over params. -/
def headP (l : Toks) (g : Nat) (xs : List Fd) (j : Nat) : Res (List Fd) := if sgn l j [41] = true then .ok xs (j + 1) else match xs with
  | [] => pList (pNamed l [58]) l [41] g [] j
  | _ :: _ => if sgn l j [44] = true then pList (pNamed l [58]) l [41] g xs (j + 1) else .bad 4

/-- one is read, then those behind it. -/
def nextP (l : Toks) (g : Nat) (xs : List Fd) (R : Res Fd) : Res (List Fd) := match R with
  | .bad e => .bad e
  | .ok x j => headP l g (xs ++ [x]) j

theorem sgn_one {l : Toks} {i : Nat} {a b : List UInt8} (h : sgn l i a = true) (hne : a ≠ b) : sgn l i b = false := by
  cases hb : sgn l i b with
  | false => rfl
  | true =>
    exfalso
    have hlt := sgn_lt h
    rw [sgn, tokB_of hlt] at h hb
    simp only [Bool.and_eq_true, beq_iff_eq] at h hb
    exact hne (h.2.symm.trans hb.2)

theorem rest_head (l : Toks) (g : Nat) (xs : List Fd) (x : Fd) (j : Nat) : restRes (pNamed l [58]) l [41] g (xs ++ [x]) j = headP l g (xs ++ [x]) j := by
  have hne : ∃ y ys, xs ++ [x] = y :: ys := by cases xs <;> simp
  obtain ⟨y, ys, e⟩ := hne
  rw [e]
  unfold restRes headP
  cases h1 : sgn l j [44] with
  | true => rw [sgn_one h1 (b := [41]) (by decide)]; rfl
  | false =>
    cases h2 : sgn l j [41] with
    | true => rfl
    | false => rfl

theorem pList_next {l : Toks} {g : Nat} {xs : List Fd} {j : Nat} : pList (pNamed l [58]) l [41] (g + 1) xs j = nextP l g xs (pNamed l [58] j) := by
  cases h : pNamed l [58] j with
  | bad e => rw [pList_bad h]; rfl
  | ok x j' => rw [pList_step h, rest_head]; rfl

theorem pParams_head (l : Toks) (j : Nat) : pParams l j = headP l (l.length + 1) [] j := rfl

theorem pNamed_lt {l : Toks} {s : List UInt8} {i : Nat} {x : Fd} {j : Nat} (h : pNamed l s i = .ok x j) : i < j ∧ i < l.length := by
  unfold pNamed at h
  split at h
  · cases h
  · split at h
    · next hs =>
      have hlt := sgn_lt hs
      split at h
      · cases h
      · next t j' ht =>
        injection h with _ h
        subst h
        have := pTy_adv _ _ _ _ ht
        omega
    · cases h

/-- what is told of a name that was asked for. -/
def IdSt (l : Toks) (j1 : Nat) (e1 : Int) (nm : ByteArray) (j2 : Nat) (e2 : Int) : Prop := (e1 = 0 ∧ identAt l j1 = some nm ∧ j2 = j1 + 1 ∧ e2 = 0) ∨ ((e1 ≠ 0 ∨ identAt l j1 = none) ∧ e2 = firstOf e1 4)

theorem first_ne (e : Int) : firstOf e 4 ≠ 0 := by unfold firstOf; split <;> omega

theorem ident_st {B : Nat} {l : Toks} {i : Nat} {e d : Int} {w : World} {r : Ending} {w' : World} (h : IdentR B l i e d w r w') : Moved B w w' ∧ ∃ t j2 e2, r = .returned (.string t) ∧ t.size ≤ maxLen ∧ EyeAt B l j2 e2 d w' ∧ IdSt l i e t j2 e2 := by
  obtain ⟨hM, t, i', hr, hz, h⟩ := h
  refine ⟨hM, t, ?_⟩
  rcases h with ⟨h1, h2, h3⟩ | ⟨h1, h2⟩
  · exact ⟨i + 1, 0, hr, hz, h3, .inl ⟨h1, h2, rfl, rfl⟩⟩
  · exact ⟨i', _, hr, hz, h2, .inr ⟨h1, rfl⟩⟩

/-- a name, a sign, a type: what is told. -/
theorem named_st {l : Toks} {j1 j2 j4 : Nat} {e1 e2 e4 : Int} {nm s : ByteArray} {Q : Ty → Prop} (h2 : IdSt l j1 e1 nm j2 e2)
    (h4 : (e4 = 0 ∧ ∃ t, after (wantE (seesB l j2 e2 s.data.toList) e2) (pTy l 40 (adv (seesB l j2 e2 s.data.toList) j2)) = .ok t j4 ∧ Q t) ∨ (e4 ≠ 0 ∧ after (wantE (seesB l j2 e2 s.data.toList) e2) (pTy l 40 (adv (seesB l j2 e2 s.data.toList) j2)) = .bad e4)) :
    (e4 = 0 ∧ ∃ t, Q t ∧ after e1 (pNamed l s.data.toList j1) = .ok ⟨nm, t⟩ j4) ∨ (e4 ≠ 0 ∧ after e1 (pNamed l s.data.toList j1) = .bad e4) := by
  rcases h2 with ⟨rfl, hi, rfl, rfl⟩ | ⟨hb, rfl⟩
  · rw [after_ok, pNamed, hi]
    cases hs : sgn l (j1 + 1) s.data.toList with
    | true =>
      rw [sees_is rfl hs] at h4
      rw [show wantE true 0 = 0 from rfl, after_ok, show adv true (j1 + 1) = j1 + 2 from rfl] at h4
      simp only [if_true]
      rcases h4 with ⟨rfl, t, ht, hq⟩ | ⟨hne, ht⟩
      · rw [ht]; exact .inl ⟨rfl, t, hq, rfl⟩
      · rw [ht]; exact .inr ⟨hne, rfl⟩
    | false =>
      rw [sees_is rfl hs] at h4
      rw [show wantE false 0 = 4 from rfl, after_bad (by decide)] at h4
      simp only [Bool.false_eq_true, if_false]
      rcases h4 with ⟨_, t, ht, _⟩ | ⟨hne, ht⟩
      · cases ht
      · injection ht with ht
        subst ht
        exact .inr ⟨hne, rfl⟩
  · rw [sees_wrong (first_ne e1), want_wrong (first_ne e1), after_bad (first_ne e1)] at h4
    rcases h4 with ⟨_, t, ht, _⟩ | ⟨hne, ht⟩
    · cases ht
    · injection ht with ht
      subst ht
      refine .inr ⟨hne, ?_⟩
      by_cases h0 : e1 = 0
      · subst h0
        rw [after_ok, pNamed, hb.resolve_left (by simp)]
        rfl
      · rw [after_bad h0]
        unfold firstOf
        rw [if_neg h0]

/-- what is told of a type. -/
def TyR (B : Nat) (l : Toks) (T : Res Ty) (w : World) (r : Ending) (w' : World) : Prop :=
  Moved B w w' ∧ ∃ k o n a m c, r = .returned (.agg #[.int .i64 k, .string o, .string n, .slice a m c]) ∧ ∃ e j, EyeAt B l j e 0 w' ∧ ((e = 0 ∧ ∃ t, T = .ok t j ∧ TyCs (Fresh w.heap.size w') w' t k o n (.slice a m c)) ∨ (e ≠ 0 ∧ T = .bad e))

theorem kind_all (B : Nat) (l : Toks) (i : Nat) (e : Int) (w : World) (h : EyeAt B l i e 0 w) : Calls Tryz.prog 48 #[.pointer (some ⟨B, 0, none⟩)] w (TyR B l (after e (pTy l 40 i)) w) := by
  by_cases he : e = 0
  · subst he
    rw [after_ok]
    refine (kind_eye B l 40 i 0 (by omega) w h).mono ?_
    rintro r w' ⟨hM, k, o, n, va1, va2, va3, hr, ht⟩
    refine ⟨hM, k, o, n, va1, va2, va3, hr, ?_⟩
    rcases ht with ⟨t, j, h1, h2, h3⟩ | ⟨e, j, h1, h2, h3⟩
    · exact ⟨0, j, h2, .inl ⟨rfl, t, h1, h3⟩⟩
    · exact ⟨e, j, h3, .inr ⟨h2, h1⟩⟩
  · refine (kind_skip B l i e e 0 (by omega) w h (if_neg (by omega)) he).mono ?_
    rintro r w' ⟨rfl, hE, hM⟩
    exact ⟨hM, _, _, _, _, _, _, rfl, e, i, hE, .inr ⟨he, after_bad he _⟩⟩

end Go.Proofs.YtpamadnckijfkabGreatDoor
