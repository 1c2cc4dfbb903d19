/- Plain words for the reference's function: what is told, step by step. -/
import Derived.Test.YtieoddnaknpmlabGreatDoorJEg
import Derived.Test.YtieoddnaknpmlabGreatDoorJG
namespace Go.Proofs.YtieoddnaknpmlabGreatDoor
open Go.RowKit
set_option maxRecDepth 100000

def bindF (R : Res (List Fd)) (k : List Fd → Nat → Res Fu) : Res Fu := match R with
  | .bad e => .bad e
  | .ok ps j => k ps j

/-- behind the params: the result, and the body. -/
def finRes (l : Toks) (n v : ByteArray) (ps : List Fd) (j : Nat) : Res Fu := if sgn l j [58] = true then (match pTy l 40 (j + 1) with
  | .bad e => .bad e
  | .ok t j => if sgn l j [61] = true then (match pEx l 40 (j + 1) with
    | .bad e => .bad e
    | .ok x j => .ok ⟨n, v, ps, t, x⟩ j) else .bad 4) else .bad 4

/-- behind a function's name, and its variable. -/
def funRest (l : Toks) (n v : ByteArray) (j : Nat) : Res Fu := if sgn l j [40] = true then bindF (pParams l (j + 1)) (finRes l n v) else .bad 4

theorem pFun_rest (l : Toks) (i : Nat) : pFun l i = match identAt l i with
  | none => .bad 4
  | some n => match pVar l (i + 1) with
    | .bad e => .bad e
    | .ok v j => funRest l n v j := by
  rw [pFun]
  cases identAt l i with
  | none => rfl
  | some n =>
    cases pVar l (i + 1) with
    | bad e => rfl
    | ok v j =>
      show (if sgn l j [40] = true then _ else _) = funRest l n v j
      unfold funRest
      cases hs : sgn l j [40] with
      | false => rfl
      | true =>
        simp only [if_true]
        cases pParams l (j + 1) with
        | bad e => rfl
        | ok ps j => rfl

/-- at the head of the loop over params. -/
def headP (l : Toks) (g : Nat) (xs : List Fd) (j : Nat) : Res (List Fd) := if sgn l j [41] = true then .ok xs (j + 1) else match xs with
  | [] => pList (pNamed l [58]) l [41] g [] j
  | _ :: _ => if sgn l j [44] = true then pList (pNamed l [58]) l [41] g xs (j + 1) else .bad 4

/-- one is read, then those behind it. -/
def nextP (l : Toks) (g : Nat) (xs : List Fd) (R : Res Fd) : Res (List Fd) := match R with
  | .bad e => .bad e
  | .ok x j => headP l g (xs ++ [x]) j

theorem sgn_one {l : Toks} {i : Nat} {a b : List UInt8} (h : sgn l i a = true) (hne : a ≠ b) : sgn l i b = false := by
  cases hb : sgn l i b with
  | false => rfl
  | true =>
    exfalso
    have hlt := sgn_lt h
    rw [sgn, tokB_of hlt] at h hb
    simp only [Bool.and_eq_true, beq_iff_eq] at h hb
    exact hne (h.2.symm.trans hb.2)

theorem rest_head (l : Toks) (g : Nat) (xs : List Fd) (x : Fd) (j : Nat) : restRes (pNamed l [58]) l [41] g (xs ++ [x]) j = headP l g (xs ++ [x]) j := by
  have hne : ∃ y ys, xs ++ [x] = y :: ys := by cases xs <;> simp
  obtain ⟨y, ys, e⟩ := hne
  rw [e]
  unfold restRes headP
  cases h1 : sgn l j [44] with
  | true => rw [sgn_one h1 (b := [41]) (by decide)]; rfl
  | false =>
    cases h2 : sgn l j [41] with
    | true => rfl
    | false => rfl

theorem pList_next {l : Toks} {g : Nat} {xs : List Fd} {j : Nat} : pList (pNamed l [58]) l [41] (g + 1) xs j = nextP l g xs (pNamed l [58] j) := by
  cases h : pNamed l [58] j with
  | bad e => rw [pList_bad h]; rfl
  | ok x j' => rw [pList_step h, rest_head]; rfl

theorem pParams_head (l : Toks) (j : Nat) : pParams l j = headP l (l.length + 1) [] j := rfl

theorem pNamed_lt {l : Toks} {s : List UInt8} {i : Nat} {x : Fd} {j : Nat} (h : pNamed l s i = .ok x j) : i < j ∧ i < l.length := by
  unfold pNamed at h
  split at h
  · cases h
  · split at h
    · next hs =>
      have hlt := sgn_lt hs
      split at h
      · cases h
      · next t j' ht =>
        injection h with _ h
        subst h
        have := pTy_adv _ _ _ _ ht
        omega
    · cases h

/-- what is told of a name that was asked for. -/
def IdSt (l : Toks) (j1 : Nat) (e1 : Int) (nm : ByteArray) (j2 : Nat) (e2 : Int) : Prop := (e1 = 0 ∧ identAt l j1 = some nm ∧ j2 = j1 + 1 ∧ e2 = 0) ∨ ((e1 ≠ 0 ∨ identAt l j1 = none) ∧ e2 = firstOf e1 4)

theorem first_ne (e : Int) : firstOf e 4 ≠ 0 := by unfold firstOf; split <;> omega

theorem ident_st {B : Nat} {l : Toks} {i : Nat} {e d : Int} {w : World} {r : Ending} {w' : World} (h : IdentR B l i e d w r w') : Moved B w w' ∧ ∃ t j2 e2, r = .returned (.string t) ∧ t.size ≤ maxLen ∧ EyeAt B l j2 e2 d w' ∧ IdSt l i e t j2 e2 := by
  obtain ⟨hM, t, i', hr, hz, h⟩ := h
  refine ⟨hM, t, ?_⟩
  rcases h with ⟨h1, h2, h3⟩ | ⟨h1, h2⟩
  · exact ⟨i + 1, 0, hr, hz, h3, .inl ⟨h1, h2, rfl, rfl⟩⟩
  · exact ⟨i', _, hr, hz, h2, .inr ⟨h1, rfl⟩⟩

/-- a name, a sign, a type: what is told. -/
theorem named_st {l : Toks} {j1 j2 j4 : Nat} {e1 e2 e4 : Int} {nm s : ByteArray} {Q : Ty → Prop} (h2 : IdSt l j1 e1 nm j2 e2)
    (h4 : (e4 = 0 ∧ ∃ t, after (wantE (seesB l j2 e2 s.data.toList) e2) (pTy l 40 (adv (seesB l j2 e2 s.data.toList) j2)) = .ok t j4 ∧ Q t) ∨ (e4 ≠ 0 ∧ after (wantE (seesB l j2 e2 s.data.toList) e2) (pTy l 40 (adv (seesB l j2 e2 s.data.toList) j2)) = .bad e4)) :
    (e4 = 0 ∧ ∃ t, Q t ∧ after e1 (pNamed l s.data.toList j1) = .ok ⟨nm, t⟩ j4) ∨ (e4 ≠ 0 ∧ after e1 (pNamed l s.data.toList j1) = .bad e4) := by
  rcases h2 with ⟨rfl, hi, rfl, rfl⟩ | ⟨hb, rfl⟩
  · rw [after_ok, pNamed, hi]
    cases hs : sgn l (j1 + 1) s.data.toList with
    | true =>
      rw [sees_is rfl hs] at h4
      rw [show wantE true 0 = 0 from rfl, after_ok, show adv true (j1 + 1) = j1 + 2 from rfl] at h4
      simp only [if_true]
      rcases h4 with ⟨rfl, t, ht, hq⟩ | ⟨hne, ht⟩
      · rw [ht]; exact .inl ⟨rfl, t, hq, rfl⟩
      · rw [ht]; exact .inr ⟨hne, rfl⟩
    | false =>
      rw [sees_is rfl hs] at h4
      rw [show wantE false 0 = 4 from rfl, after_bad (by decide)] at h4
      simp only [Bool.false_eq_true, if_false]
      rcases h4 with ⟨_, t, ht, _⟩ | ⟨hne, ht⟩
      · cases ht
      · injection ht with ht
        subst ht
        exact .inr ⟨hne, rfl⟩
  · rw [sees_wrong (first_ne e1), want_wrong (first_ne e1), after_bad (first_ne e1)] at h4
    rcases h4 with ⟨_, t, ht, _⟩ | ⟨hne, ht⟩
    · cases ht
    · injection ht with ht
      subst ht
      refine .inr ⟨hne, ?_⟩
      by_cases h0 : e1 = 0
      · subst h0
        rw [after_ok, pNamed, hb.resolve_left (by simp)]
        rfl
      · rw [after_bad h0]
        unfold firstOf
        rw [if_neg h0]

/-- what is told of a type. -/
def TyR (B : Nat) (l : Toks) (T : Res Ty) (w : World) (r : Ending) (w' : World) : Prop :=
  Moved B w w' ∧ ∃ k o n a m c, r = .returned (.agg #[.int .i64 k, .string o, .string n, .slice a m c]) ∧ ∃ e j, EyeAt B l j e 0 w' ∧ ((e = 0 ∧ ∃ t, T = .ok t j ∧ TyCs (Fresh w.heap.size w') w' t k o n (.slice a m c)) ∨ (e ≠ 0 ∧ T = .bad e))

theorem kind_all (B : Nat) (l : Toks) (i : Nat) (e : Int) (w : World) (h : EyeAt B l i e 0 w) : Calls Tryz.prog 48 #[.pointer (some ⟨B, 0, none⟩)] w (TyR B l (after e (pTy l 40 i)) w) := by
  by_cases he : e = 0
  · subst he
    rw [after_ok]
    refine (kind_eye B l 40 i 0 (by omega) w h).mono ?_
    rintro r w' ⟨hM, k, o, n, va1, va2, va3, hr, ht⟩
    refine ⟨hM, k, o, n, va1, va2, va3, hr, ?_⟩
    rcases ht with ⟨t, j, h1, h2, h3⟩ | ⟨e, j, h1, h2, h3⟩
    · exact ⟨0, j, h2, .inl ⟨rfl, t, h1, h3⟩⟩
    · exact ⟨e, j, h3, .inr ⟨h2, h1⟩⟩
  · refine (kind_skip B l i e e 0 (by omega) w h (if_neg (by omega)) he).mono ?_
    rintro r w' ⟨rfl, hE, hM⟩
    exact ⟨hM, _, _, _, _, _, _, rfl, e, i, hE, .inr ⟨he, after_bad he _⟩⟩

end Go.Proofs.YtieoddnaknpmlabGreatDoor

/- What the reference's function answers behind the params: the result, the body. -/
namespace Go.Proofs.YtieoddnaknpmlabGreatDoor
open Go.RowKit
set_option maxRecDepth 100000

theorem row_cell {w : World} {b : Nat} {cs : Array Value} {T : TypeId} (h : w.heap[b]? = some (.cells cs T (0, 0))) (o : Nat) (v : Value) (hv : cs[o]? = some v) : w.cell? ⟨b, o, none⟩ = some v := by
  rw [cell_of_row w b o _ _ _ h]; exact hv

/-- stores into a block of the call's own. -/
theorem fars {B : Nat} {l : Toks} {i : Nat} {e d : Int} {w : World} {c : Nat} (hc : B < c) (hw : w.heap.size ≤ c) : ∀ (vs : List Value) (o : Nat) (w' : World), EyeAt B l i e d w' → Moved B w w' → EyeAt B l i e d (w'.setCells c o vs) ∧ Moved B w (w'.setCells c o vs)
  | [], _, _, hE, hM => ⟨hE, hM⟩
  | v :: r, o, _, hE, hM => fars hc hw r (o + 1) _ (ey_far hE hc o v) (mv_far hM hw hc o v)

theorem sets_other {c b : Nat} (h : b ≠ c) : ∀ (vs : List Value) (o : Nat) (w : World), (w.setCells c o vs).heap[b]? = w.heap[b]?
  | [], _, _ => rfl
  | v :: r, o, w => (sets_other h r (o + 1) _).trans (Below.heap_setCell _ _ _ _ (by exact h))

/-- what is told of a function. -/
def FunR (B : Nat) (l : Toks) (T : Res Fu) (w : World) (r : Ending) (w' : World) : Prop :=
  Moved B w w' ∧ ∃ n v a m c k o nn a1 m1 c1 k' n' o' s' a2 m2 c2, r = .returned (.agg #[.string n, .string v, .slice a m c, .int .i64 k, .string o, .string nn, .slice a1 m1 c1, .int .i64 k', .int .i64 n', .string o', .string s', .slice a2 m2 c2]) ∧
    ∃ e j, EyeAt B l j e 0 w' ∧ ((e = 0 ∧ ∃ x, T = .ok x j ∧ FuC (Fresh w.heap.size w') w' x [.string n, .string v, .slice a m c, .int .i64 k, .string o, .string nn, .slice a1 m1 c1, .int .i64 k', .int .i64 n', .string o', .string s', .slice a2 m2 c2]) ∨ (e ≠ 0 ∧ T = .bad e))

/-- behind the params: what is told of the rest. -/
theorem fin_st {l : Toks} {n v : ByteArray} {T : Res Fu} {PS : List Fd → Prop} {QT : Ty → Prop} {QX : Ex → Prop} {j0 j1 j2 j3 j4 : Nat} {e0 e1 e2 e3 e4 : Int}
    (h0 : (e0 = 0 ∧ ∃ ps, PS ps ∧ T = finRes l n v ps j0) ∨ (e0 ≠ 0 ∧ T = .bad e0)) (h1 : e1 = wantE (seesB l j0 e0 [58]) e0 ∧ j1 = adv (seesB l j0 e0 [58]) j0)
    (h2 : (e2 = 0 ∧ ∃ t, after e1 (pTy l 40 j1) = .ok t j2 ∧ QT t) ∨ (e2 ≠ 0 ∧ after e1 (pTy l 40 j1) = .bad e2)) (h3 : e3 = wantE (seesB l j2 e2 [61]) e2 ∧ j3 = adv (seesB l j2 e2 [61]) j2)
    (h4 : (e4 = 0 ∧ ∃ x, after e3 (pEx l 40 j3) = .ok x j4 ∧ QX x) ∨ (e4 ≠ 0 ∧ after e3 (pEx l 40 j3) = .bad e4)) :
    (e4 = 0 ∧ ∃ ps t x, PS ps ∧ QT t ∧ QX x ∧ T = .ok ⟨n, v, ps, t, x⟩ j4) ∨ (e4 ≠ 0 ∧ T = .bad e4) := by
  obtain ⟨rfl, rfl⟩ := h1
  obtain ⟨rfl, rfl⟩ := h3
  have late : ∀ e : Int, e ≠ 0 → T = .bad e → wantE (seesB l j2 e2 [61]) e2 = e → (e4 = 0 ∧ ∃ ps t x, PS ps ∧ QT t ∧ QX x ∧ T = .ok ⟨n, v, ps, t, x⟩ j4) ∨ (e4 ≠ 0 ∧ T = .bad e4) := by
    intro e he hT hw
    rw [hw, after_bad he] at h4
    rcases h4 with ⟨_, x, hx, _⟩ | ⟨hne, hx⟩
    · cases hx
    · injection hx with hx
      subst hx
      exact .inr ⟨hne, hT⟩
  have mid : ∀ e : Int, e ≠ 0 → T = .bad e → e2 = e → (e4 = 0 ∧ ∃ ps t x, PS ps ∧ QT t ∧ QX x ∧ T = .ok ⟨n, v, ps, t, x⟩ j4) ∨ (e4 ≠ 0 ∧ T = .bad e4) := by
    intro e he hT hw
    subst hw
    exact late e2 he hT (by rw [sees_wrong he, want_wrong he])
  have early : ∀ e : Int, e ≠ 0 → T = .bad e → wantE (seesB l j0 e0 [58]) e0 = e → (e4 = 0 ∧ ∃ ps t x, PS ps ∧ QT t ∧ QX x ∧ T = .ok ⟨n, v, ps, t, x⟩ j4) ∨ (e4 ≠ 0 ∧ T = .bad e4) := by
    intro e he hT hw
    rw [hw, after_bad he] at h2
    rcases h2 with ⟨_, t, ht, _⟩ | ⟨hne, ht⟩
    · cases ht
    · injection ht with ht
      exact mid e he hT ht.symm
  rcases h0 with ⟨rfl, ps, hps, hT⟩ | ⟨hne, hT⟩
  · unfold finRes at hT
    cases hs : sgn l j0 [58] with
    | false =>
      rw [hs] at hT
      exact early 4 (by decide) hT (by rw [show seesB l j0 0 [58] = false from by unfold seesB; rw [hs]; rfl]; rfl)
    | true =>
      have hb : seesB l j0 0 [58] = true := by unfold seesB; rw [hs]; rfl
      rw [hb, show wantE true 0 = 0 from rfl, after_ok, show adv true j0 = j0 + 1 from rfl] at h2
      rw [hs] at hT
      simp only [if_true] at hT
      rcases h2 with ⟨rfl, t, ht, hqt⟩ | ⟨hne, ht⟩
      · rw [ht] at hT
        simp only at hT
        cases hs2 : sgn l j2 [61] with
        | false =>
          rw [hs2] at hT
          exact late 4 (by decide) hT (by rw [show seesB l j2 0 [61] = false from by unfold seesB; rw [hs2]; rfl]; rfl)
        | true =>
          have hb2 : seesB l j2 0 [61] = true := by unfold seesB; rw [hs2]; rfl
          rw [hb2, show wantE true 0 = 0 from rfl, after_ok, show adv true j2 = j2 + 1 from rfl] at h4
          rw [hs2] at hT
          simp only [if_true] at hT
          rcases h4 with ⟨rfl, x, hx, hqx⟩ | ⟨hne, hx⟩
          · rw [hx] at hT
            exact .inl ⟨rfl, ps, t, x, hps, hqt, hqx, hT⟩
          · rw [hx] at hT
            exact .inr ⟨hne, hT⟩
      · rw [ht] at hT
        exact mid e2 hne hT rfl
  · exact early e0 hne hT (by rw [sees_wrong hne, want_wrong hne])

end Go.Proofs.YtieoddnaknpmlabGreatDoor

/- What the reference's function answers: how its end lies in memory. -/
namespace Go.Proofs.YtieoddnaknpmlabGreatDoor
open Go.RowKit
set_option maxRecDepth 100000

theorem fun_fin {B : Nat} {l : Toks} {j ob : Nat} {e : Int} {w W : World} {T : Res Fu} {n v o nn o' s' : ByteArray} {k k' n' : Int} {a a1 a2 : Option Addr} {m c m1 c1 m2 c2 : Nat} (hE : EyeAt B l j e 0 W) (hM : Moved B w W) (hlt : B < w.heap.size)
    (hz : W.heap[w.heap.size]? = some (.cells #[.string ⟨#[]⟩, .string ⟨#[]⟩, .slice none 0 0, .int .i64 0, .string ⟨#[]⟩, .string ⟨#[]⟩, .slice none 0 0, .int .i64 0, .int .i64 0, .string ⟨#[]⟩, .string ⟨#[]⟩, .slice none 0 0] 54 (0, 0)))
    (hres : (e = 0 ∧ ∃ x, T = .ok x j ∧ FuC (OwnB (w.heap.size + 1) ob W) W x [.string n, .string v, .slice a m c, .int .i64 k, .string o, .string nn, .slice a1 m1 c1, .int .i64 k', .int .i64 n', .string o', .string s', .slice a2 m2 c2]) ∨ (e ≠ 0 ∧ T = .bad e)) :
    ∃ F, W.setCells w.heap.size 0 [.string n, .string v, .slice a m c, .int .i64 k, .string o, .string nn, .slice a1 m1 c1, .int .i64 k', .int .i64 n', .string o', .string s', .slice a2 m2 c2] = F ∧ F.heap[w.heap.size]? = some (.cells #[.string n, .string v, .slice a m c, .int .i64 k, .string o, .string nn, .slice a1 m1 c1, .int .i64 k', .int .i64 n', .string o', .string s', .slice a2 m2 c2] 54 (0, 0)) ∧ FunR B l T w (.returned (.agg #[.string n, .string v, .slice a m c, .int .i64 k, .string o, .string nn, .slice a1 m1 c1, .int .i64 k', .int .i64 n', .string o', .string s', .slice a2 m2 c2])) F := by
  obtain ⟨hE', hM'⟩ := fars (c := w.heap.size) hlt (Nat.le_refl _) [.string n, .string v, .slice a m c, .int .i64 k, .string o, .string nn, .slice a1 m1 c1, .int .i64 k', .int .i64 n', .string o', .string s', .slice a2 m2 c2] 0 W hE hM
  have h1 : (W.setCells w.heap.size 0 [.string n]).heap[w.heap.size]? = some (.cells #[.string n, .string ⟨#[]⟩, .slice none 0 0, .int .i64 0, .string ⟨#[]⟩, .string ⟨#[]⟩, .slice none 0 0, .int .i64 0, .int .i64 0, .string ⟨#[]⟩, .string ⟨#[]⟩, .slice none 0 0] 54 (0, 0)) := block_set hz 0 (.string n)
  have h2 : (W.setCells w.heap.size 0 [.string n, .string v]).heap[w.heap.size]? = some (.cells #[.string n, .string v, .slice none 0 0, .int .i64 0, .string ⟨#[]⟩, .string ⟨#[]⟩, .slice none 0 0, .int .i64 0, .int .i64 0, .string ⟨#[]⟩, .string ⟨#[]⟩, .slice none 0 0] 54 (0, 0)) := block_set h1 1 (.string v)
  have h3 : (W.setCells w.heap.size 0 [.string n, .string v, .slice a m c]).heap[w.heap.size]? = some (.cells #[.string n, .string v, .slice a m c, .int .i64 0, .string ⟨#[]⟩, .string ⟨#[]⟩, .slice none 0 0, .int .i64 0, .int .i64 0, .string ⟨#[]⟩, .string ⟨#[]⟩, .slice none 0 0] 54 (0, 0)) := block_set h2 2 (.slice a m c)
  have h4 : (W.setCells w.heap.size 0 [.string n, .string v, .slice a m c, .int .i64 k]).heap[w.heap.size]? = some (.cells #[.string n, .string v, .slice a m c, .int .i64 k, .string ⟨#[]⟩, .string ⟨#[]⟩, .slice none 0 0, .int .i64 0, .int .i64 0, .string ⟨#[]⟩, .string ⟨#[]⟩, .slice none 0 0] 54 (0, 0)) := block_set h3 3 (.int .i64 k)
  have h5 : (W.setCells w.heap.size 0 [.string n, .string v, .slice a m c, .int .i64 k, .string o]).heap[w.heap.size]? = some (.cells #[.string n, .string v, .slice a m c, .int .i64 k, .string o, .string ⟨#[]⟩, .slice none 0 0, .int .i64 0, .int .i64 0, .string ⟨#[]⟩, .string ⟨#[]⟩, .slice none 0 0] 54 (0, 0)) := block_set h4 4 (.string o)
  have h6 : (W.setCells w.heap.size 0 [.string n, .string v, .slice a m c, .int .i64 k, .string o, .string nn]).heap[w.heap.size]? = some (.cells #[.string n, .string v, .slice a m c, .int .i64 k, .string o, .string nn, .slice none 0 0, .int .i64 0, .int .i64 0, .string ⟨#[]⟩, .string ⟨#[]⟩, .slice none 0 0] 54 (0, 0)) := block_set h5 5 (.string nn)
  have h7 : (W.setCells w.heap.size 0 [.string n, .string v, .slice a m c, .int .i64 k, .string o, .string nn, .slice a1 m1 c1]).heap[w.heap.size]? = some (.cells #[.string n, .string v, .slice a m c, .int .i64 k, .string o, .string nn, .slice a1 m1 c1, .int .i64 0, .int .i64 0, .string ⟨#[]⟩, .string ⟨#[]⟩, .slice none 0 0] 54 (0, 0)) := block_set h6 6 (.slice a1 m1 c1)
  have h8 : (W.setCells w.heap.size 0 [.string n, .string v, .slice a m c, .int .i64 k, .string o, .string nn, .slice a1 m1 c1, .int .i64 k']).heap[w.heap.size]? = some (.cells #[.string n, .string v, .slice a m c, .int .i64 k, .string o, .string nn, .slice a1 m1 c1, .int .i64 k', .int .i64 0, .string ⟨#[]⟩, .string ⟨#[]⟩, .slice none 0 0] 54 (0, 0)) := block_set h7 7 (.int .i64 k')
  have h9 : (W.setCells w.heap.size 0 [.string n, .string v, .slice a m c, .int .i64 k, .string o, .string nn, .slice a1 m1 c1, .int .i64 k', .int .i64 n']).heap[w.heap.size]? = some (.cells #[.string n, .string v, .slice a m c, .int .i64 k, .string o, .string nn, .slice a1 m1 c1, .int .i64 k', .int .i64 n', .string ⟨#[]⟩, .string ⟨#[]⟩, .slice none 0 0] 54 (0, 0)) := block_set h8 8 (.int .i64 n')
  have h10 : (W.setCells w.heap.size 0 [.string n, .string v, .slice a m c, .int .i64 k, .string o, .string nn, .slice a1 m1 c1, .int .i64 k', .int .i64 n', .string o']).heap[w.heap.size]? = some (.cells #[.string n, .string v, .slice a m c, .int .i64 k, .string o, .string nn, .slice a1 m1 c1, .int .i64 k', .int .i64 n', .string o', .string ⟨#[]⟩, .slice none 0 0] 54 (0, 0)) := block_set h9 9 (.string o')
  have h11 : (W.setCells w.heap.size 0 [.string n, .string v, .slice a m c, .int .i64 k, .string o, .string nn, .slice a1 m1 c1, .int .i64 k', .int .i64 n', .string o', .string s']).heap[w.heap.size]? = some (.cells #[.string n, .string v, .slice a m c, .int .i64 k, .string o, .string nn, .slice a1 m1 c1, .int .i64 k', .int .i64 n', .string o', .string s', .slice none 0 0] 54 (0, 0)) := block_set h10 10 (.string s')
  have h12 : (W.setCells w.heap.size 0 [.string n, .string v, .slice a m c, .int .i64 k, .string o, .string nn, .slice a1 m1 c1, .int .i64 k', .int .i64 n', .string o', .string s', .slice a2 m2 c2]).heap[w.heap.size]? = some (.cells #[.string n, .string v, .slice a m c, .int .i64 k, .string o, .string nn, .slice a1 m1 c1, .int .i64 k', .int .i64 n', .string o', .string s', .slice a2 m2 c2] 54 (0, 0)) := block_set h11 11 (.slice a2 m2 c2)
  have hF := h12
  have hoth := fun b (hb : b ≠ w.heap.size) => sets_other hb [.string n, .string v, .slice a m c, .int .i64 k, .string o, .string nn, .slice a1 m1 c1, .int .i64 k', .int .i64 n', .string o', .string s', .slice a2 m2 c2] 0 W
  have hsz := heap_size_setCells w.heap.size [.string n, .string v, .slice a m c, .int .i64 k, .string o, .string nn, .slice a1 m1 c1, .int .i64 k', .int .i64 n', .string o', .string s', .slice a2 m2 c2] 0 W
  refine ⟨_, rfl, hF, hM', n, v, a, m, c, k, o, nn, a1, m1, c1, k', n', o', s', a2, m2, c2, rfl, e, j, hE', ?_⟩
  rcases hres with ⟨rfl, x, hT, hx⟩ | h
  · exact .inl ⟨rfl, x, hT, fuC_keep ⟨fun b hb => hoth b (by have := hb.1; omega), fun b hb => ⟨by have := hb.1; omega, by rw [hsz]; exact hb.2.1⟩⟩ hx⟩
  · exact .inr h

/-- the function's box, while its params are read: they lie in a row of the call's own. -/
def ParAt (B : Nat) (l : Toks) (ob : Nat) (w : World) (n v : ByteArray) (T : Res Fu) (g : Nat) (wx : World) : Prop :=
  ∃ (e : Int) (j m c : Nat) (a : Option Addr) (ys : List Value), EyeAt B l j e 0 wx ∧ Moved B w wx ∧ w.heap.size < ob ∧
    wx.heap[w.heap.size]? = some (.cells #[.string ⟨#[]⟩, .string ⟨#[]⟩, .slice none 0 0, .int .i64 0, .string ⟨#[]⟩, .string ⟨#[]⟩, .slice none 0 0, .int .i64 0, .int .i64 0, .string ⟨#[]⟩, .string ⟨#[]⟩, .slice none 0 0] 54 (0, 0)) ∧
    wx.heap[ob]? = some (.cells #[.string n, .string v, .slice a m c, .int .i64 0, .string ⟨#[]⟩, .string ⟨#[]⟩, .slice none 0 0, .int .i64 0, .int .i64 0, .string ⟨#[]⟩, .string ⟨#[]⟩, .slice none 0 0] 54 (0, 0)) ∧
    wx.ownsRow (ob + 1) 63 5 (.slice a m c) m ys ∧ m + g ≤ l.length + 1 ∧
    ((e = 0 ∧ ∃ xs, Items FdC 5 (ob + 1) xs (.slice a m c) ys wx ∧ m = xs.length ∧ T = bindF (headP l g xs j) (finRes l n v) ∧ l.length - j < g) ∨ (e ≠ 0 ∧ T = .bad e))

theorem items_sl {base m c : Nat} {xs : List Fd} {a : Option Addr} {ys : List Value} {W : World} (h : Items FdC 5 base xs (.slice a m c) ys W) (hown : W.ownsRow base 63 5 (.slice a m c) m ys) (hm : m = xs.length) (hmax : m ≤ maxLen) :
    SlAt (Fresh base W) (FdAt (Fresh base W) W) 5 xs (.slice a m c) := by
  subst hm
  refine ⟨a, c, rfl, ⟨hmax, ?_⟩, ?_⟩
  · rcases hown.2 with ⟨h1, h2⟩ | ⟨g, cap', cur, h1, _, _, h3, _⟩
    · omega
    · cases h1; exact h3
  · rcases Nat.eq_zero_or_pos xs.length with h0 | h0
    · exact .inl h0
    · right
      obtain ⟨g, cap', hv⟩ := ownsRow_form' hown h0
      cases hv
      have hin := ownsRow_in hown g rfl
      refine ⟨g, 0, rfl, ⟨hin.1, hin.2⟩, RowAt.mk fun t ht => ?_⟩
      obtain ⟨cs, h1, h2, h3⟩ := h t ht
      refine fdC_at h1 (fdC_keep ⟨fun _ _ => rfl, fun b hb => ⟨hb.1, hb.2.1⟩⟩ h3) (fun t' u hu => ?_)
      have ht' : t' < 5 := by rw [← h1]; exact (List.getElem?_eq_some_iff.1 hu).1
      rw [Nat.zero_add]
      exact own_cell hown _ _ ((h2 t' ht').trans hu)

end Go.Proofs.YtieoddnaknpmlabGreatDoor
