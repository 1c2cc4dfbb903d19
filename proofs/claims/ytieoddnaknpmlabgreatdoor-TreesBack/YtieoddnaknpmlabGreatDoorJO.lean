/- Plain facts: the tokens of what is shown, and that a type is read back out of them. -/
import Derived.Test.YtieoddnaknpmlabGreatDoorJB
import Derived.Test.YtieoddnaknpmlabGreatDoorJM
import Derived.Test.YtieoddnaknpmlabGreatDoorJD
import Derived.Test.YtieoddnaknpmlabGreatDoorJEyeMod1
import Derived.Test.YtieoddnaknpmlabGreatDoorJN
namespace Go.Proofs.YtieoddnaknpmlabGreatDoor
open Go.RowKit
set_option maxRecDepth 100000

def wordT (s : ByteArray) : Int × ByteArray := (1, s)
def signT (c : UInt8) : Int × ByteArray := (4, ⟨#[c]⟩)
def intW : ByteArray := ⟨#[105, 110, 116]⟩
def textW : ByteArray := ⟨#[116, 101, 120, 116]⟩
def numT (n : Int) : Int × ByteArray := (2, ⟨(numShown n).toArray⟩)

def nameToks (o n : ByteArray) : Toks := if noneB o = true then [wordT n] else [wordT o, signT 46, wordT n]

mutual
def tyToks : Ty → Toks
  | .mk k o n xs => if k = 1 then [wordT intW] else if k = 2 then [wordT textW] else if k = 3 then [signT 91] ++ (tyHeadT xs ++ [signT 93]) else nameToks o n
def tyHeadT : List Ty → Toks
  | [] => []
  | t :: _ => tyToks t
end

mutual
def exToks : Ex → Toks
  | .mk k n o s xs =>
    if k = 1 then [numT n]
    else if k = 2 then [(3, s)]
    else if k = 3 then [wordT s]
    else if k = 4 then nameToks o s ++ ([signT 40] ++ (exJoinT xs ++ [signT 41]))
    else if k = 5 then [signT 40] ++ (exFstT xs ++ ([signT 43] ++ (exSndT xs ++ [signT 41])))
    else if k = 6 then [signT 91] ++ (exJoinT xs ++ [signT 93])
    else exFstT xs ++ ([signT 91] ++ (exSndT xs ++ [signT 93]))
def exFstT : List Ex → Toks
  | [] => []
  | t :: _ => exToks t
def exSndT : List Ex → Toks
  | [] => []
  | _ :: r => exFstT r
def exJoinT : List Ex → Toks
  | [] => []
  | t :: r => exToks t ++ exMoreT r
def exMoreT : List Ex → Toks
  | [] => []
  | t :: r => [signT 44] ++ (exToks t ++ exMoreT r)
end

/-! ### Places in a list of tokens. -/

theorem at_head {l : Toks} {i : Nat} {t : Int × ByteArray} {r : Toks} (h : l.drop i = t :: r) : l[i]? = some t := by
  have := congrArg (fun x => x[0]?) h
  simpa [List.getElem?_drop] using this
theorem at_next {l : Toks} {i : Nat} {t : Int × ByteArray} {r : Toks} (h : l.drop i = t :: r) : l.drop (i + 1) = r := by
  rw [← List.drop_drop, h]; rfl
theorem at_past {l : Toks} {i : Nat} {a b : Toks} (h : l.drop i = a ++ b) : l.drop (i + a.length) = b := by
  rw [← List.drop_drop, h, List.drop_left]
theorem at_nil {l : Toks} {i : Nat} (h : l.drop i = []) : l[i]? = none := by
  have := congrArg (fun x => x[0]?) h
  simpa [List.getElem?_drop] using this
theorem at_lt {l : Toks} {i : Nat} {t : Int × ByteArray} {r : Toks} (h : l.drop i = t :: r) : i < l.length := (List.getElem?_eq_some_iff.1 (at_head h)).1

theorem tok_is {l : Toks} {i : Nat} {t : Int × ByteArray} {r : Toks} (h : l.drop i = t :: r) (k : Int) (s : List UInt8) : tokB l i k s = (t.1 == k && t.2.data.toList == s) := by
  unfold tokB; rw [at_head h]
theorem tok_none {l : Toks} {i : Nat} (h : l.drop i = []) (k : Int) (s : List UInt8) : tokB l i k s = false := by
  unfold tokB; rw [at_nil h]
theorem sgn_sign {l : Toks} {i : Nat} {c : UInt8} {r : Toks} (h : l.drop i = signT c :: r) (d : UInt8) : sgn l i [d] = (c == d) := by
  unfold sgn
  rw [tok_is h]
  simp [signT]
theorem sgn_other {l : Toks} {i : Nat} {t : Int × ByteArray} {r : Toks} (h : l.drop i = t :: r) (ht : t.1 ≠ 4) (s : List UInt8) : sgn l i s = false := by
  unfold sgn
  rw [tok_is h, beq_eq_false_iff_ne.2 ht]; rfl
theorem wrd_sign {l : Toks} {i : Nat} {c : UInt8} {r : Toks} (h : l.drop i = signT c :: r) (s : List UInt8) : wrd l i s = false := by
  unfold wrd
  rw [tok_is h]; rfl
theorem wrd_word {l : Toks} {i : Nat} {n : ByteArray} {r : Toks} (h : l.drop i = wordT n :: r) (s : List UInt8) : wrd l i s = (n.data.toList == s) := by
  unfold wrd
  rw [tok_is h]; rfl
theorem take_word {l : Toks} {i : Nat} {n : ByteArray} {r : Toks} (h : l.drop i = wordT n :: r) : takeAt l i 1 = some n := by
  unfold takeAt; rw [at_head h]; rfl
theorem ident_word {l : Toks} {i : Nat} {n : ByteArray} {r : Toks} (h : l.drop i = wordT n :: r) (hn : identOk n = true) : identAt l i = some n := by
  unfold identAt; rw [take_word h]; simp [hn]

theorem none_empty {o : ByteArray} (h : noneB o = true) : o = emptyText := by
  have : o.data.toList = [] := by simpa [noneB] using h
  cases o with
  | mk d =>
    have e : d.toList = [] := this
    have : d = #[] := Array.toList_inj.1 e
    subst this
    rfl

theorem ident_not {n : ByteArray} (h : identOk n = true) : (n.data.toList == [105, 110, 116]) = false ∧ (n.data.toList == [116, 101, 120, 116]) = false := by
  unfold identOk kwB at h
  constructor
  · cases e : (n.data.toList == [105, 110, 116]) with
    | false => rfl
    | true => rw [e] at h; simp at h
  · cases e : (n.data.toList == [116, 101, 120, 116]) with
    | false => rfl
    | true => rw [e] at h; simp at h
theorem ident_some {n : ByteArray} (h : identOk n = true) : noneB n = false := by
  cases hn : noneB n with
  | false => rfl
  | true =>
    have e := none_empty hn
    rw [e] at h
    have : identOk emptyText = false := by decide
    rw [this] at h
    cases h
theorem noneOr_ident {o : ByteArray} (h : noneOrIdent o = true) (hn : noneB o = false) : identOk o = true := by
  unfold noneOrIdent at h
  rw [hn] at h
  simpa using h

/-- what may follow: nothing, or one of these signs. -/
def Follow (rest : Toks) : Prop := rest = [] ∨ ∃ c r, rest = signT c :: r ∧ c ∈ [43, 91, 93, 41, 44, 61]
theorem follow_no {l : Toks} {i : Nat} {rest : Toks} (h : l.drop i = rest) (hf : Follow rest) {d : UInt8} (hd : d ∉ [43, 91, 93, 41, 44, 61]) : sgn l i [d] = false := by
  rcases hf with rfl | ⟨c, r, rfl, hc⟩
  · exact tok_none h _ _
  · rw [sgn_sign h]
    exact beq_eq_false_iff_ne.2 (fun e => hd (e ▸ hc))
theorem follow_sign (c : UInt8) (r : Toks) (h : c ∈ [43, 91, 93, 41, 44, 61]) : Follow (signT c :: r) := Or.inr ⟨c, r, rfl, h⟩

theorem name_back {l : Toks} {i : Nat} {o n : ByteArray} {rest : Toks} (h : l.drop i = nameToks o n ++ rest) (hn : identOk n = true) (ho : noneOrIdent o = true) (hd : ∀ j, l.drop j = rest → sgn l j [46] = false) :
    nameAt l i = .ok (o, n) (i + (nameToks o n).length) := by
  unfold nameToks at h ⊢
  unfold nameAt
  cases e : noneB o with
  | true =>
    rw [e, if_pos rfl] at h
    rw [if_pos rfl]
    have h' : l.drop i = wordT n :: rest := h
    rw [ident_word h' hn]
    simp only
    rw [if_neg (by rw [hd _ (at_next h')]; simp), none_empty e]
    rfl
  | false =>
    rw [e, if_neg (by simp)] at h
    rw [if_neg (by simp)]
    have h' : l.drop i = wordT o :: (signT 46 :: (wordT n :: rest)) := h
    have h1 := at_next h'
    have h2 := at_next h1
    rw [ident_word h' (noneOr_ident ho e)]
    simp only
    rw [if_pos (by rw [sgn_sign h1]; rfl), ident_word h2 hn]
    rfl

theorem name_first (o n : ByteArray) : ∃ x r, nameToks o n = wordT x :: r ∧ (x = o ∧ noneB o = false ∨ x = n ∧ noneB o = true) := by
  unfold nameToks
  cases e : noneB o with
  | true => exact ⟨n, [], by simp, Or.inr ⟨rfl, rfl⟩⟩
  | false => exact ⟨o, [signT 46, wordT n], by simp, Or.inl ⟨rfl, rfl⟩⟩

/-! ### Types. -/

theorem ty_back : ∀ (m : Nat) (t : Ty) (d : Nat), 10 < d + m → tyFault t d = 0 → ∀ f, m ≤ f → ∀ (l : Toks) (i : Nat) (rest : Toks), l.drop i = tyToks t ++ rest → Follow rest → pTy l f i = .ok t (i + (tyToks t).length) := by
  intro m
  induction m with
  | zero =>
    rintro ⟨k, o, n, xs⟩ d hd h
    have := (ty_ok h).1
    omega
  | succ m ih =>
    rintro ⟨k, o, n, xs⟩ d hd h f hf l i rest hl hr
    obtain ⟨f, rfl⟩ : ∃ g, f = g + 1 := ⟨f - 1, by omega⟩
    obtain ⟨_, hk, hfit, hx⟩ := ty_ok h
    rw [tyToks] at hl ⊢
    rw [pTy]
    by_cases h1 : k = 1
    · subst h1
      rw [if_pos rfl] at hl ⊢
      have hfit' : (xs.length == 0 && (noneB n && noneB o)) = true := hfit
      simp only [Bool.and_eq_true, beq_iff_eq, List.length_eq_zero_iff] at hfit'
      obtain ⟨rfl, e1, e2⟩ := hfit'
      rw [if_pos (by rw [wrd_word hl]; rfl), none_empty e1, none_empty e2]
      rfl
    by_cases h2 : k = 2
    · subst h2
      rw [if_neg h1, if_pos rfl] at hl ⊢
      have hfit' : (xs.length == 0 && (noneB n && noneB o)) = true := hfit
      simp only [Bool.and_eq_true, beq_iff_eq, List.length_eq_zero_iff] at hfit'
      obtain ⟨rfl, e1, e2⟩ := hfit'
      rw [if_neg (by rw [wrd_word hl]; decide), if_pos (by rw [wrd_word hl]; rfl), none_empty e1, none_empty e2]
      rfl
    by_cases h3 : k = 3
    · subst h3
      rw [if_neg h1, if_neg h2, if_pos rfl] at hl ⊢
      have hfit' : (xs.length == 1 && (noneB n && noneB o)) = true := hfit
      simp only [Bool.and_eq_true, beq_iff_eq] at hfit'
      obtain ⟨e0, e1, e2⟩ := hfit'
      obtain ⟨t, rfl⟩ : ∃ t, xs = [t] := List.length_eq_one_iff.1 e0
      have hl' : l.drop i = signT 91 :: (tyToks t ++ (signT 93 :: rest)) := by rw [hl]; simp [tyHeadT]
      have hl1 := at_next hl'
      have hl2 := at_past hl1
      have hb := ih t (d + 1) (by omega) (tys_at hx 0 (by simp)) f (by omega) l (i + 1) _ hl1 (follow_sign 93 _ (by simp))
      rw [if_neg (by rw [wrd_sign hl']; simp), if_neg (by rw [wrd_sign hl']; simp), if_pos (by rw [sgn_sign hl']; rfl), hb]
      simp only
      rw [if_pos (by rw [sgn_sign hl2]; rfl), none_empty e1, none_empty e2]
      simp only [tyHeadT, List.length_append, List.length_cons, List.length_nil]
      congr 1
      omega
    · have h4 : k = 4 := by simp [isIn] at hk; omega
      subst h4
      rw [if_neg h1, if_neg h2, if_neg h3] at hl ⊢
      have hfit' : (xs.length == 0 && (identOk n && noneOrIdent o)) = true := hfit
      simp only [Bool.and_eq_true, beq_iff_eq, List.length_eq_zero_iff] at hfit'
      obtain ⟨rfl, e1, e2⟩ := hfit'
      obtain ⟨x, r, hx1, hx2⟩ := name_first o n
      have hxi : identOk x = true := by
        rcases hx2 with ⟨rfl, e⟩ | ⟨rfl, _⟩
        · exact noneOr_ident e2 e
        · exact e1
      have hl' : l.drop i = wordT x :: (r ++ rest) := by rw [hl, hx1]; rfl
      have hni := ident_not hxi
      rw [if_neg (by rw [wrd_word hl', hni.1]; simp), if_neg (by rw [wrd_word hl', hni.2]; simp), if_neg (by rw [sgn_other hl' (show (1 : Int) ≠ 4 by decide)]; simp), name_back hl e1 e2 (fun j hj => follow_no hj hr (by decide))]

end Go.Proofs.YtieoddnaknpmlabGreatDoor

/- Plain facts: an expression is read back out of the tokens of what is shown of it. -/
namespace Go.Proofs.YtieoddnaknpmlabGreatDoor
open Go.RowKit
set_option maxRecDepth 100000

/-! ### As many steps as there are tokens are enough. -/

theorem places_enough {sub : Nat → Res Ex} {l : Toks} (hs : ∀ i x j, sub i = .ok x j → i ≤ j) : ∀ (n m : Nat) (x : Ex) (i : Nat), l.length - i < n → l.length - i < m → pPlaces sub l n x i = pPlaces sub l m x i
  | 0, _, _, _, h, _ => absurd h (Nat.not_lt_zero _)
  | _ + 1, 0, _, _, _, h => absurd h (Nat.not_lt_zero _)
  | n + 1, m + 1, x, i, hn, hm => by
    rw [pPlaces, pPlaces]
    by_cases hb : sgn l i [91] = true
    · have hlt := sgn_lt hb
      rw [if_pos hb, if_pos hb]
      cases hsub : sub (i + 1) with
      | bad e => rfl
      | ok p j =>
        have hj := hs _ _ _ hsub
        simp only
        by_cases hc : sgn l j [93] = true
        · rw [if_pos hc, if_pos hc]
          exact places_enough hs n m _ _ (by omega) (by omega)
        · rw [if_neg hc, if_neg hc]
    · rw [if_neg hb, if_neg hb]

theorem sums_enough {sub : Nat → Res Ex} {l : Toks} (hs : ∀ i x j, sub i = .ok x j → i ≤ j) : ∀ (n m : Nat) (x : Ex) (i : Nat), l.length - i < n → l.length - i < m → pSums sub l n x i = pSums sub l m x i
  | 0, _, _, _, h, _ => absurd h (Nat.not_lt_zero _)
  | _ + 1, 0, _, _, _, h => absurd h (Nat.not_lt_zero _)
  | n + 1, m + 1, x, i, hn, hm => by
    rw [pSums, pSums]
    by_cases hb : sgn l i [43] = true
    · have hlt := sgn_lt hb
      rw [if_pos hb, if_pos hb]
      cases hsub : pTail sub l (i + 1) with
      | bad e => rfl
      | ok p j =>
        have hj := pTail_adv hs hsub
        exact sums_enough hs n m _ _ (by omega) (by omega)
    · rw [if_neg hb, if_neg hb]

/-! ### What is said of one expression, at a depth. -/

/-- where its tokens lie, reading a tail there comes to it, and goes on with places. -/
def TailOk (f : Nat) (e : Ex) : Prop := ∀ (l : Toks) (i : Nat) (rest : Toks), l.drop i = exToks e ++ rest → Follow rest →
  pTail (pEx l f) l i = pPlaces (pEx l f) l (l.length + 1) e (i + (exToks e).length)

theorem places_stop {sub : Nat → Res Ex} {l : Toks} {n : Nat} {x : Ex} {i : Nat} (h : sgn l i [91] = false) : pPlaces sub l (n + 1) x i = .ok x i := by
  rw [pPlaces, if_neg (by rw [h]; simp)]
theorem sums_stop {sub : Nat → Res Ex} {l : Toks} {n : Nat} {x : Ex} {i : Nat} (h : sgn l i [43] = false) : pSums sub l (n + 1) x i = .ok x i := by
  rw [pSums, if_neg (by rw [h]; simp)]

/-- what ends an expression. -/
def Stop (rest : Toks) : Prop := rest = [] ∨ ∃ c r, rest = signT c :: r ∧ c ∈ [93, 41, 44]
theorem Stop.follow {rest : Toks} (h : Stop rest) : Follow rest := by
  rcases h with h | ⟨c, r, h, hc⟩
  · exact Or.inl h
  · refine Or.inr ⟨c, r, h, ?_⟩
    simp only [List.mem_cons, List.not_mem_nil, or_false] at hc ⊢
    rcases hc with rfl | rfl | rfl <;> simp
theorem Stop.no {l : Toks} {i : Nat} {rest : Toks} (hf : Stop rest) (h : l.drop i = rest) {d : UInt8} (hd : d ∉ [93, 41, 44]) : sgn l i [d] = false := by
  rcases hf with rfl | ⟨c, r, rfl, hc⟩
  · exact tok_none h _ _
  · rw [sgn_sign h]
    exact beq_eq_false_iff_ne.2 (fun e => hd (e ▸ hc))
theorem stop_sign (c : UInt8) (r : Toks) (h : c ∈ [93, 41, 44]) : Stop (signT c :: r) := Or.inr ⟨c, r, rfl, h⟩

/-- where it ends, it is the whole expression. -/
theorem ex_whole {f : Nat} {e : Ex} (h : TailOk f e) {l : Toks} {i : Nat} {rest : Toks} (hl : l.drop i = exToks e ++ rest) (hr : Stop rest) : pEx l (f + 1) i = .ok e (i + (exToks e).length) := by
  have h2 := at_past hl
  rw [pEx, h l i rest hl hr.follow, places_stop (hr.no h2 (by decide))]
  exact sums_stop (hr.no h2 (by decide))

theorem more_cases (xs : List Ex) (c : UInt8) (rest : Toks) (hc : c ∈ [93, 41, 44]) : Stop (exMoreT xs ++ (signT c :: rest)) := by
  cases xs with
  | nil => exact stop_sign c _ hc
  | cons t r => rw [exMoreT]; exact stop_sign 44 _ (by simp)

theorem list_back {f : Nat} {l : Toks} {c : UInt8} (hc : c ∈ [93, 41]) : ∀ (xs : List Ex) (x : Ex) (acc : List Ex) (n i : Nat) (rest : Toks), (∀ y ∈ x :: xs, TailOk f y) → l.drop i = exToks x ++ (exMoreT xs ++ (signT c :: rest)) → xs.length < n →
    pList (pEx l (f + 1)) l [c] n acc i = .ok (acc ++ (x :: xs)) (i + (exToks x ++ exMoreT xs).length + 1)
  | xs, x, acc, 0, _, _, _, _, h => absurd h (Nat.not_lt_zero _)
  | [], x, acc, n + 1, i, rest, hx, hl, _ => by
    have hst : Stop (signT c :: rest) := stop_sign c _ (by simp only [List.mem_cons, List.not_mem_nil, or_false] at hc ⊢; rcases hc with rfl | rfl <;> simp)
    have h1 := ex_whole (hx x (by simp)) hl hst
    have h2 := at_past hl
    have h2' : l.drop (i + (exToks x).length) = signT c :: rest := h2
    rw [pList, h1]
    simp only
    have hne : (c == 44) = false := by simp only [List.mem_cons, List.not_mem_nil, or_false] at hc; rcases hc with rfl | rfl <;> decide
    rw [if_neg (by rw [sgn_sign h2', hne]; simp), if_pos (by rw [sgn_sign h2']; simp)]
    simp [exMoreT]
  | y :: ys, x, acc, n + 1, i, rest, hx, hl, hn => by
    have hc' : c ∈ [93, 41, 44] := by simp only [List.mem_cons, List.not_mem_nil, or_false] at hc ⊢; rcases hc with rfl | rfl <;> simp
    have h1 := ex_whole (hx x (by simp)) hl (more_cases (y :: ys) c rest hc')
    have h2 := at_past hl
    rw [exMoreT] at h2
    have h2' : l.drop (i + (exToks x).length) = signT 44 :: (exToks y ++ (exMoreT ys ++ (signT c :: rest))) := by rw [h2]; simp
    have h3 := at_next h2'
    have ih := list_back hc ys y (acc ++ [x]) n (i + (exToks x).length + 1) rest (fun z hz => hx z (List.mem_cons_of_mem _ hz)) h3 (by simp at hn; omega)
    rw [pList, h1]
    simp only
    rw [if_pos (by rw [sgn_sign h2']; rfl), ih]
    simp only [exMoreT, List.length_append, List.length_cons, List.append_assoc, List.cons_append, List.nil_append]
    congr 1
    omega

theorem num_val : ∀ v : Nat, numVal (Lib.decDigits v) = v := by
  intro v
  induction v using Nat.strongRecOn with
  | ind v ih =>
    by_cases hv : v < 10
    · rw [Lib.decDigits_one hv]
      simp [numVal]
      omega
    · have e : Lib.decDigits v = Lib.decDigits (v / 10) ++ [UInt8.ofNat (48 + v % 10)] := by
        rw [Lib.decDigits, dif_neg hv]
      rw [e]
      have := ih (v / 10) (by omega)
      unfold numVal at this ⊢
      rw [List.foldl_append, this]
      simp
      omega

/-- the first token of what is shown: no sign that closes. -/
theorem ex_first : ∀ (m : Nat) (e : Ex) (d : Nat), 10 < d + m → exFault e d = 0 → ∃ t r, exToks e = t :: r ∧ (t.1 ≠ 4 ∨ t = signT 40 ∨ t = signT 91) := by
  intro m
  induction m with
  | zero =>
    rintro ⟨k, n, o, s, xs⟩ d hd h
    have := (ex_ok h).1
    omega
  | succ m ih =>
    rintro ⟨k, n, o, s, xs⟩ d hd h
    obtain ⟨_, hk, _, _, _, hcf, _, hx⟩ := ex_ok h
    rw [exToks]
    by_cases h1 : k = 1
    · rw [if_pos h1]; exact ⟨_, _, rfl, Or.inl (show (2 : Int) ≠ 4 by decide)⟩
    by_cases h2 : k = 2
    · rw [if_neg h1, if_pos h2]; exact ⟨_, _, rfl, Or.inl (show (3 : Int) ≠ 4 by decide)⟩
    by_cases h3 : k = 3
    · rw [if_neg h1, if_neg h2, if_pos h3]; exact ⟨_, _, rfl, Or.inl (show (1 : Int) ≠ 4 by decide)⟩
    by_cases h4 : k = 4
    · rw [if_neg h1, if_neg h2, if_neg h3, if_pos h4]
      obtain ⟨x, r, e, _⟩ := name_first o s
      rw [e]
      exact ⟨_, _, rfl, Or.inl (show (1 : Int) ≠ 4 by decide)⟩
    by_cases h5 : k = 5
    · rw [if_neg h1, if_neg h2, if_neg h3, if_neg h4, if_pos h5]; exact ⟨_, _, rfl, Or.inr (Or.inl rfl)⟩
    by_cases h6 : k = 6
    · rw [if_neg h1, if_neg h2, if_neg h3, if_neg h4, if_neg h5, if_pos h6]; exact ⟨_, _, rfl, Or.inr (Or.inr rfl)⟩
    · rw [if_neg h1, if_neg h2, if_neg h3, if_neg h4, if_neg h5, if_neg h6]
      have h7 : k = 7 := by simp [isIn] at hk; omega
      subst h7
      have hc : (xs.length == 2) = true := hcf
      have hc' : xs.length = 2 := by simpa using hc
      obtain ⟨t, r, he, ht⟩ := ih (xs[0]'(by omega)) (d + 1) (by omega) (exs_at hx 0 (by omega))
      cases xs with
      | nil => cases hc'
      | cons a ys =>
        refine ⟨t, r ++ ([signT 91] ++ (exSndT (a :: ys) ++ [signT 93])), ?_, ht⟩
        rw [exFstT]
        have he' : exToks a = t :: r := he
        rw [he']
        rfl

theorem more_len : ∀ xs : List Ex, xs.length ≤ (exMoreT xs).length
  | [] => Nat.zero_le _
  | t :: r => by
    have := more_len r
    rw [exMoreT]
    simp only [List.length_append, List.length_cons]
    omega

theorem drop_len {l : Toks} {i : Nat} {a : Toks} (h : l.drop i = a) : i + a.length ≤ l.length ∨ a = [] := by
  have := congrArg List.length h
  rw [List.length_drop] at this
  by_cases ha : a = []
  · exact Or.inr ha
  · left
    have : 0 < a.length := List.length_pos_iff.2 ha
    omega

set_option maxHeartbeats 1000000 in
theorem ex_back : ∀ (m : Nat) (e : Ex) (d : Nat), 10 < d + m → exFault e d = 0 → ∀ f, m ≤ f → TailOk f e := by
  intro m
  induction m with
  | zero =>
    rintro ⟨k, n, o, s, xs⟩ d hd h
    have := (ex_ok h).1
    omega
  | succ m ih =>
    rintro ⟨k, n, o, s, xs⟩ d hd h f hf l i rest hl hr
    obtain ⟨f, rfl⟩ : ∃ g, f = g + 1 := ⟨f - 1, by omega⟩
    obtain ⟨_, hk, _, hkn, hnf, hcf, hin, hx⟩ := ex_ok h
    have hch : ∀ (y : Ex), y ∈ xs → ∀ g, m ≤ g → TailOk g y := fun y hy g hg => by
      obtain ⟨j, hj, rfl⟩ := List.getElem_of_mem hy
      exact ih _ (d + 1) (by omega) (exs_at hx j hj) g hg
    have hfst : ∀ (y : Ex), y ∈ xs → ∃ t r, exToks y = t :: r ∧ (t.1 ≠ 4 ∨ t = signT 40 ∨ t = signT 91) := fun y hy => by
      obtain ⟨j, hj, rfl⟩ := List.getElem_of_mem hy
      exact ex_first m _ (d + 1) (by omega) (exs_at hx j hj)
    have hadv : ∀ i x j, pEx l (f + 1) i = .ok x j → i ≤ j := fun i x j => pEx_adv (f + 1) i x j
    rw [exToks] at hl ⊢
    by_cases h1 : k = 1
    · subst h1
      rw [if_pos rfl] at hl ⊢
      have hl' : l.drop i = numT n :: rest := hl
      have hnf' : (noneB s && noneB o) = true := hnf
      have hcf' : (xs.length == 0) = true := hcf
      simp only [Bool.and_eq_true] at hnf'
      obtain rfl : xs = [] := List.length_eq_zero_iff.1 (by simpa using hcf')
      have hn0 : 0 ≤ n ∧ n ≤ 999999 := by simpa [isIn] using hin
      have hv : exNum (numT n).2 = .mk 1 n o s [] := by
        unfold exNum
        rw [none_empty hnf'.1, none_empty hnf'.2]
        congr 1
        show numVal (numShown n) = n
        unfold numShown
        rw [num_val]
        omega
      unfold pTail pHead
      rw [if_neg (by rw [sgn_other hl' (show (2 : Int) ≠ 4 by decide)]; simp), if_neg (by rw [sgn_other hl' (show (2 : Int) ≠ 4 by decide)]; simp)]
      have ht : takeAt l i 2 = some (numT n).2 := by unfold takeAt; rw [at_head hl']; rfl
      rw [ht]
      simp only
      rw [hv]
      rfl
    by_cases h2 : k = 2
    · subst h2
      rw [if_neg h1, if_pos rfl] at hl ⊢
      have hl' : l.drop i = (3, s) :: rest := hl
      have hnf' : (quoteOk s && noneB o) = true := hnf
      have hcf' : (xs.length == 0) = true := hcf
      simp only [Bool.and_eq_true] at hnf'
      obtain rfl : xs = [] := List.length_eq_zero_iff.1 (by simpa using hcf')
      have hn0 : n = 0 := by omega
      unfold pTail pHead
      rw [if_neg (by rw [sgn_other hl' (show (3 : Int) ≠ 4 by decide)]; simp), if_neg (by rw [sgn_other hl' (show (3 : Int) ≠ 4 by decide)]; simp)]
      have ht2 : takeAt l i 2 = none := by unfold takeAt; rw [at_head hl']; rfl
      have ht3 : takeAt l i 3 = some s := by unfold takeAt; rw [at_head hl']; rfl
      rw [ht2, ht3, none_empty hnf'.2, hn0]
      rfl
    by_cases h3 : k = 3
    · subst h3
      rw [if_neg h1, if_neg h2, if_pos rfl] at hl ⊢
      have hl' : l.drop i = wordT s :: rest := hl
      have hnf' : (identOk s && noneB o) = true := hnf
      have hcf' : (xs.length == 0) = true := hcf
      simp only [Bool.and_eq_true] at hnf'
      obtain rfl : xs = [] := List.length_eq_zero_iff.1 (by simpa using hcf')
      have hn0 : n = 0 := by omega
      unfold pTail pHead
      rw [if_neg (by rw [sgn_other hl' (show (1 : Int) ≠ 4 by decide)]; simp), if_neg (by rw [sgn_other hl' (show (1 : Int) ≠ 4 by decide)]; simp)]
      have ht2 : takeAt l i 2 = none := by unfold takeAt; rw [at_head hl']; rfl
      have ht3 : takeAt l i 3 = none := by unfold takeAt; rw [at_head hl']; rfl
      have hnm : nameAt l i = .ok (emptyText, s) (i + 1) := name_back (o := emptyText) hl' hnf'.1 (by decide) (fun j hj => follow_no hj hr (by decide))
      rw [ht2, ht3]
      simp only
      unfold pCall
      rw [hnm]
      simp only
      rw [if_neg (by rw [follow_no (at_next hl') hr (by decide)]; simp), if_pos (by decide), none_empty hnf'.2, hn0]
      rfl
    by_cases h4 : k = 4
    · subst h4
      rw [if_neg h1, if_neg h2, if_neg h3, if_pos rfl] at hl ⊢
      have hnf' : (identOk s && noneOrIdent o) = true := hnf
      simp only [Bool.and_eq_true] at hnf'
      have hn0 : n = 0 := by omega
      have hl0 : l.drop i = nameToks o s ++ (signT 40 :: (exJoinT xs ++ (signT 41 :: rest))) := by rw [hl]; simp
      have hnm := name_back hl0 hnf'.1 hnf'.2 (fun j hj => by rw [sgn_sign hj]; rfl)
      have hp := at_past hl0
      have hp1 := at_next hp
      obtain ⟨x, r0, hx1, _⟩ := name_first o s
      have hl' : l.drop i = wordT x :: (r0 ++ (signT 40 :: (exJoinT xs ++ (signT 41 :: rest)))) := by rw [hl0, hx1]; rfl
      unfold pTail pHead
      rw [if_neg (by rw [sgn_other hl' (show (1 : Int) ≠ 4 by decide)]; simp), if_neg (by rw [sgn_other hl' (show (1 : Int) ≠ 4 by decide)]; simp)]
      have ht2 : takeAt l i 2 = none := by unfold takeAt; rw [at_head hl']; rfl
      have ht3 : takeAt l i 3 = none := by unfold takeAt; rw [at_head hl']; rfl
      rw [ht2, ht3]
      simp only
      unfold pCall
      rw [hnm]
      simp only
      rw [if_pos (by rw [sgn_sign hp]; rfl)]
      cases xs with
      | nil =>
        have hp1' : l.drop (i + (nameToks o s).length + 1) = signT 41 :: rest := hp1
        rw [if_pos (by rw [sgn_sign hp1']; rfl), hn0]
        simp only [exJoinT, List.length_append, List.length_cons, List.length_nil, List.nil_append]
        rfl
      | cons y ys =>
        have hp1' : l.drop (i + (nameToks o s).length + 1) = exToks y ++ (exMoreT ys ++ (signT 41 :: rest)) := by rw [hp1, exJoinT]; simp
        obtain ⟨t, r, he, ht⟩ := hfst y (by simp)
        have hno : sgn l (i + (nameToks o s).length + 1) [41] = false := by
          have hh : l.drop (i + (nameToks o s).length + 1) = t :: (r ++ (exMoreT ys ++ (signT 41 :: rest))) := by rw [hp1', he]; rfl
          rcases ht with ht | rfl | rfl
          · exact sgn_other hh ht _
          · rw [sgn_sign hh]; rfl
          · rw [sgn_sign hh]; rfl
        have hln : ys.length < l.length + 1 := by
          have h1 := more_len ys
          rcases drop_len hp1' with h | h
          · simp only [List.length_append, List.length_cons] at h; omega
          · rw [he] at h; cases h
        have hls := list_back (f := f) (l := l) (c := 41) (by simp) ys y [] (l.length + 1) (i + (nameToks o s).length + 1) rest (fun z hz => hch z hz f (by omega)) hp1' hln
        rw [if_neg (by rw [hno]; simp), hls]
        simp only
        rw [hn0]
        simp only [exJoinT, List.length_append, List.length_cons, List.length_nil, List.nil_append]
        show pPlaces _ _ _ (exCall o s (y :: ys)) _ = _
        congr 1
        omega
    by_cases h5 : k = 5
    · subst h5
      rw [if_neg h1, if_neg h2, if_neg h3, if_neg h4, if_pos rfl] at hl ⊢
      have hnf' : (noneB s && noneB o) = true := hnf
      have hcf' : (xs.length == 2) = true := hcf
      simp only [Bool.and_eq_true] at hnf'
      have hn0 : n = 0 := by omega
      match xs, (show xs.length = 2 by simpa using hcf') with
      | [a, b], _ =>
        have hl0 : l.drop i = signT 40 :: (exToks a ++ (signT 43 :: (exToks b ++ (signT 41 :: rest)))) := by rw [hl]; simp [exFstT, exSndT]
        have q1 := at_next hl0
        have q2 := at_past q1
        have q3 := at_next q2
        have q4 := at_past q3
        have ta := hch a (by simp) f (by omega) l (i + 1) _ q1 (follow_sign 43 _ (by simp))
        have tb := hch b (by simp) f (by omega) l _ _ q3 (follow_sign 41 _ (by simp))
        have hlen : ∃ g, l.length = g + 1 := ⟨l.length - 1, by have := at_lt hl0; omega⟩
        obtain ⟨g, hg⟩ := hlen
        have hin : pEx l (f + 1) (i + 1) = .ok (exSum a b) (i + 1 + (exToks a).length + 1 + (exToks b).length) := by
          rw [pEx, ta, places_stop (by rw [sgn_sign q2]; rfl)]
          simp only
          rw [pSums, if_pos (by rw [sgn_sign q2]; rfl), tb, places_stop (by rw [sgn_sign q4]; rfl)]
          simp only
          rw [hg]
          exact sums_stop (by rw [sgn_sign q4]; rfl)
        unfold pTail pHead
        rw [if_pos (by rw [sgn_sign hl0]; rfl), hin]
        simp only
        rw [if_pos (by rw [sgn_sign q4]; rfl), none_empty hnf'.1, none_empty hnf'.2, hn0]
        simp only [exFstT, exSndT, List.length_append, List.length_cons, List.length_nil]
        show pPlaces _ _ _ (exSum a b) _ = _
        unfold exSum
        congr 1
        omega
    by_cases h6 : k = 6
    · subst h6
      rw [if_neg h1, if_neg h2, if_neg h3, if_neg h4, if_neg h5, if_pos rfl] at hl ⊢
      have hnf' : (noneB s && noneB o) = true := hnf
      have hcf' : decide (0 < xs.length) = true := hcf
      simp only [Bool.and_eq_true] at hnf'
      have hn0 : n = 0 := by omega
      cases xs with
      | nil => simp at hcf'
      | cons y ys =>
        have hl0 : l.drop i = signT 91 :: (exToks y ++ (exMoreT ys ++ (signT 93 :: rest))) := by rw [hl, exJoinT]; simp
        have q1 := at_next hl0
        have hln : ys.length < l.length + 1 := by
          have h1 := more_len ys
          rcases drop_len hl0 with h | h
          · simp only [List.length_append, List.length_cons] at h; omega
          · cases h
        have hls := list_back (f := f) (l := l) (c := 93) (by simp) ys y [] (l.length + 1) (i + 1) rest (fun z hz => hch z hz f (by omega)) q1 hln
        unfold pTail pHead
        rw [if_neg (by rw [sgn_sign hl0]; decide), if_pos (by rw [sgn_sign hl0]; rfl), hls]
        simp only
        rw [none_empty hnf'.1, none_empty hnf'.2, hn0]
        simp only [exJoinT, List.length_append, List.length_cons, List.length_nil, List.nil_append]
        show pPlaces _ _ _ (exItems (y :: ys)) _ = _
        unfold exItems
        congr 1
        omega
    · have h7 : k = 7 := by simp [isIn] at hk; omega
      subst h7
      rw [if_neg h1, if_neg h2, if_neg h3, if_neg h4, if_neg h5, if_neg h6] at hl ⊢
      have hnf' : (noneB s && noneB o) = true := hnf
      have hcf' : (xs.length == 2) = true := hcf
      simp only [Bool.and_eq_true] at hnf'
      have hn0 : n = 0 := by omega
      match xs, (show xs.length = 2 by simpa using hcf') with
      | [a, b], _ =>
        have hl0 : l.drop i = exToks a ++ (signT 91 :: (exToks b ++ (signT 93 :: rest))) := by rw [hl]; simp [exFstT, exSndT]
        have q1 := at_past hl0
        have q2 := at_next q1
        have q3 := at_past q2
        have ta := hch a (by simp) (f + 1) (by omega) l i _ hl0 (follow_sign 91 _ (by simp))
        have tb := ex_whole (hch b (by simp) f (by omega)) q2 (stop_sign 93 _ (by simp))
        rw [ta, pPlaces, if_pos (by rw [sgn_sign q1]; rfl), tb]
        simp only
        rw [if_pos (by rw [sgn_sign q3]; rfl), none_empty hnf'.1, none_empty hnf'.2, hn0]
        have hlt := at_lt q3
        rw [places_enough hadv l.length (l.length + 1) _ _ (by omega) (by omega)]
        simp only [exFstT, exSndT, List.length_append, List.length_cons, List.length_nil]
        show pPlaces _ _ _ (exAt a b) _ = _
        unfold exAt
        congr 1
        omega

end Go.Proofs.YtieoddnaknpmlabGreatDoor

/- Plain facts: what a line declares is read back out of the tokens of what is shown of it. -/
namespace Go.Proofs.YtieoddnaknpmlabGreatDoor
open Go.RowKit
set_option maxRecDepth 100000

def useW : ByteArray := ⟨#[117, 115, 101]⟩
def typeW : ByteArray := ⟨#[116, 121, 112, 101]⟩
def funcW : ByteArray := ⟨#[102, 117, 110, 99]⟩
def fdToks (f : Fd) : Toks := wordT f.name :: signT 58 :: tyToks f.is
def fdMoreT : List Fd → Toks
  | [] => []
  | f :: r => signT 44 :: (fdToks f ++ fdMoreT r)
def fdsT : List Fd → Toks
  | [] => []
  | f :: r => fdToks f ++ fdMoreT r
def varT (v : ByteArray) : Toks := if noneB v = true then [] else [signT 60, wordT v, signT 62]
def useT (n : ByteArray) : Toks := [wordT useW, wordT n]
def typeT (f : Fd) : Toks := wordT typeW :: wordT f.name :: signT 61 :: tyToks f.is
def funT (f : Fu) : Toks := wordT funcW :: wordT f.name :: (varT f.var ++ (signT 40 :: (fdsT f.params ++ (signT 41 :: signT 58 :: (tyToks f.result ++ (signT 61 :: exToks f.body))))))

theorem fd_parts {f : Fd} (h : fdFault f = 0) : identOk f.name = true ∧ tyFault f.is 1 = 0 := by
  unfold fdFault at h
  split at h
  · exact ⟨by assumption, h⟩
  · omega

theorem named_shown {l : Toks} {i : Nat} {f : Fd} {c : UInt8} {rest : Toks} (hf : fdFault f = 0) (hl : l.drop i = wordT f.name :: signT c :: (tyToks f.is ++ rest)) (hr : Follow rest) : pNamed l [c] i = .ok f (i + 2 + (tyToks f.is).length) := by
  obtain ⟨h1, h2⟩ := fd_parts hf
  have q1 := at_next hl
  have q2 := at_next q1
  unfold pNamed
  rw [ident_word hl h1]
  simp only
  rw [if_pos (by rw [sgn_sign q1]; simp), ty_back 10 f.is 1 (by omega) h2 40 (by omega) l (i + 2) rest q2 hr]

theorem fdMore_follow (xs : List Fd) (rest : Toks) : Follow (fdMoreT xs ++ (signT 41 :: rest)) := by
  cases xs with
  | nil => exact follow_sign 41 _ (by simp)
  | cons t r => rw [fdMoreT]; exact follow_sign 44 _ (by simp)

theorem fds_back {l : Toks} : ∀ (xs : List Fd) (x : Fd) (acc : List Fd) (n i : Nat) (rest : Toks), (∀ y ∈ x :: xs, fdFault y = 0) → l.drop i = fdToks x ++ (fdMoreT xs ++ (signT 41 :: rest)) → xs.length < n →
    pList (pNamed l [58]) l [41] n acc i = .ok (acc ++ (x :: xs)) (i + (fdToks x ++ fdMoreT xs).length + 1)
  | xs, x, acc, 0, _, _, _, _, h => absurd h (Nat.not_lt_zero _)
  | [], x, acc, n + 1, i, rest, hx, hl, _ => by
    have h1 := named_shown (c := 58) (hx x (by simp)) hl (fdMore_follow [] rest)
    have h2 := at_past hl
    have h2' : l.drop (i + 2 + (tyToks x.is).length) = signT 41 :: rest := by
      rw [show i + 2 + (tyToks x.is).length = i + (fdToks x).length by simp [fdToks]; omega]; exact h2
    rw [pList, h1]
    simp only
    rw [if_neg (by rw [sgn_sign h2']; decide), if_pos (by rw [sgn_sign h2']; rfl)]
    simp only [fdMoreT, fdToks, List.length_append, List.length_cons, List.length_nil]
    congr 1
    omega
  | y :: ys, x, acc, n + 1, i, rest, hx, hl, hn => by
    have h1 := named_shown (c := 58) (hx x (by simp)) hl (fdMore_follow (y :: ys) rest)
    have h2 := at_past hl
    rw [fdMoreT] at h2
    have h2' : l.drop (i + 2 + (tyToks x.is).length) = signT 44 :: (fdToks y ++ (fdMoreT ys ++ (signT 41 :: rest))) := by
      rw [show i + 2 + (tyToks x.is).length = i + (fdToks x).length by simp [fdToks]; omega, h2]; simp
    have h3 := at_next h2'
    have ih := fds_back ys y (acc ++ [x]) n _ rest (fun z hz => hx z (List.mem_cons_of_mem _ hz)) h3 (by simp at hn; omega)
    rw [pList, h1]
    simp only
    rw [if_pos (by rw [sgn_sign h2']; rfl), ih]
    simp only [fdMoreT, fdToks, List.length_append, List.length_cons, List.append_assoc, List.cons_append, List.nil_append]
    congr 1
    omega

theorem fdMore_len : ∀ xs : List Fd, xs.length ≤ (fdMoreT xs).length
  | [] => Nat.zero_le _
  | t :: r => by
    have := fdMore_len r
    rw [fdMoreT]
    simp only [List.length_append, List.length_cons]
    omega

theorem params_back {l : Toks} {i : Nat} {ps : List Fd} {rest : Toks} (hp : ∀ j (hj : j < ps.length), fdFault ps[j] = 0) (hl : l.drop i = fdsT ps ++ (signT 41 :: rest)) : pParams l i = .ok ps (i + (fdsT ps).length + 1) := by
  unfold pParams
  cases ps with
  | nil =>
    have hl' : l.drop i = signT 41 :: rest := hl
    rw [if_pos (by rw [sgn_sign hl']; rfl)]
    rfl
  | cons x xs =>
    have hl0 : l.drop i = fdToks x ++ (fdMoreT xs ++ (signT 41 :: rest)) := by rw [hl, fdsT]; simp
    have hl' : l.drop i = wordT x.name :: (signT 58 :: tyToks x.is ++ (fdMoreT xs ++ (signT 41 :: rest))) := hl0
    have hln : xs.length < l.length + 1 := by
      have h1 := fdMore_len xs
      rcases drop_len hl0 with h | h
      · simp only [List.length_append, List.length_cons] at h; omega
      · rw [fdToks] at h; cases h
    rw [if_neg (by rw [sgn_other hl' (show (1 : Int) ≠ 4 by decide)]; simp), fds_back xs x [] (l.length + 1) i rest (fun y hy => by
      obtain ⟨j, hj, rfl⟩ := List.getElem_of_mem hy
      exact hp j hj) hl0 hln]
    rfl

theorem var_back {l : Toks} {i : Nat} {v : ByteArray} {rest : Toks} (hv : noneOrIdent v = true) (hl : l.drop i = varT v ++ (signT 40 :: rest)) : pVar l i = .ok v (i + (varT v).length) := by
  unfold pVar
  unfold varT at hl ⊢
  cases e : noneB v with
  | true =>
    rw [e, if_pos rfl] at hl
    have hl' : l.drop i = signT 40 :: rest := hl
    rw [if_pos rfl, if_neg (by rw [sgn_sign hl']; decide), none_empty e]
    rfl
  | false =>
    rw [e, if_neg (by simp)] at hl
    have hl' : l.drop i = signT 60 :: wordT v :: signT 62 :: (signT 40 :: rest) := hl
    have q1 := at_next hl'
    have q2 := at_next q1
    rw [if_neg (show ¬ (false = true) by simp), if_pos (by rw [sgn_sign hl']; rfl), ident_word q1 (noneOr_ident hv e)]
    simp only
    rw [if_pos (by rw [sgn_sign q2]; rfl)]
    rfl

theorem fun_back {f : Fu} (hf : fuFault f = 0) : pFun (funT f) 1 = .ok f (funT f).length := by
  obtain ⟨h1, h2, _, h4, h5, h6⟩ := fu_ok hf
  have q0 : (funT f).drop 1 = wordT f.name :: (varT f.var ++ (signT 40 :: (fdsT f.params ++ (signT 41 :: signT 58 :: (tyToks f.result ++ (signT 61 :: exToks f.body)))))) := rfl
  have q1 := at_next q0
  have q2 := at_past q1
  have q3 := at_next q2
  have q4 := at_past q3
  have q5 := at_next q4
  have q6 := at_next q5
  have q7 := at_past q6
  have q8 := at_next q7
  have q8' : (funT f).drop (1 + 1 + (varT f.var).length + 1 + (fdsT f.params).length + 1 + 1 + (tyToks f.result).length + 1) = exToks f.body ++ [] := by rw [List.append_nil]; exact q8
  have hx := ex_whole (ex_back 10 f.body 1 (by omega) h6 39 (by omega)) q8' (Or.inl rfl)
  unfold pFun
  rw [ident_word q0 h1]
  simp only
  rw [var_back h2 q1]
  simp only
  rw [if_pos (by rw [sgn_sign q2]; rfl), params_back h4 q3]
  simp only
  rw [if_pos (by rw [sgn_sign q5]; rfl), ty_back 10 f.result 1 (by omega) h5 40 (by omega) (funT f) _ _ q6 (follow_sign 61 _ (by simp))]
  simp only
  rw [if_pos (by rw [sgn_sign q7]; rfl), hx]
  simp only
  have hlen : (funT f).length = 1 + 1 + (varT f.var).length + 1 + (fdsT f.params).length + 1 + 1 + (tyToks f.result).length + 1 + (exToks f.body).length := by
    unfold funT
    simp only [List.length_append, List.length_cons]
    omega
  rw [hlen]

theorem line_use {n : ByteArray} (h : identOk n = true) : pLine (useT n) = .ok (.use n) := by
  have q0 : (useT n).drop 0 = wordT useW :: [wordT n] := rfl
  have q1 := at_next q0
  unfold pLine
  rw [if_neg (by simp [useT]), if_pos (by rw [wrd_word q0]; rfl), ident_word q1 h]
  rfl

theorem line_type {f : Fd} (h : fdFault f = 0) : pLine (typeT f) = .ok (.typ f) := by
  have q0 : (typeT f).drop 0 = wordT typeW :: (wordT f.name :: signT 61 :: tyToks f.is) := rfl
  have q1 : (typeT f).drop 1 = wordT f.name :: signT 61 :: (tyToks f.is ++ []) := by rw [List.append_nil]; rfl
  unfold pLine
  rw [if_neg (by simp [typeT]), if_neg (by rw [wrd_word q0]; decide), if_pos (by rw [wrd_word q0]; rfl), named_shown h q1 (Or.inl rfl)]
  simp only
  rw [if_pos (by simp [typeT]; omega)]

theorem line_fun {f : Fu} (h : fuFault f = 0) : pLine (funT f) = .ok (.fn f) := by
  have q0 : (funT f).drop 0 = wordT funcW :: (funT f).drop 1 := rfl
  unfold pLine
  rw [if_neg (by simp [funT]), if_neg (by rw [wrd_word q0]; decide), if_neg (by rw [wrd_word q0]; decide), if_pos (by rw [wrd_word q0]; rfl), fun_back h]
  simp only
  rw [if_pos (Nat.le_refl _)]

end Go.Proofs.YtieoddnaknpmlabGreatDoor

/- Plain facts: what is shown is cut into those tokens. -/
namespace Go.Proofs.YtieoddnaknpmlabGreatDoor
open Go.RowKit
set_option maxRecDepth 100000

theorem bytes_ext {x y : ByteArray} (h : x.data.toList = y.data.toList) : x = y := by
  cases x; cases y
  congr 1
  exact Array.toList_inj.1 h

theorem byteAt_of {T : ByteArray} {L : List UInt8} (h : T.data.toList = L) (j : Nat) : byteAt T j = ((L.getD j 0).toNat : Int) := by rw [byteAt, h]
theorem getD_within (A W R : List UInt8) (i : Nat) (hi : i < W.length) : (A ++ (W ++ R)).getD (A.length + i) 0 = W.getD i 0 := by
  simp [List.getD_eq_getElem?_getD, List.getElem?_append_right, List.getElem?_append_left hi]
theorem getD_behind (A W R : List UInt8) : (A ++ (W ++ R)).getD (A.length + W.length) 0 = R.getD 0 0 := by
  simp [List.getD_eq_getElem?_getD, List.getElem?_append_right]

theorem run_within {p : Int → Bool} {T : ByteArray} {A W R : List UInt8} (hT : T.data.toList = A ++ (W ++ R)) (hW : ∀ i, i < W.length → p ((W.getD i 0).toNat : Int) = true) (hR : R = [] ∨ p ((R.getD 0 0).toNat : Int) = false) :
    runEnd p T A.length = A.length + W.length := by
  have hs : T.size = A.length + (W.length + R.length) := by rw [Lib.size_eq, hT]; simp
  refine (runTo_eq (by omega) ⟨by omega, by omega, fun j h1 h2 => ?_, fun h => ?_⟩).symm
  · show p (byteAt T j) = true
    rw [byteAt_of hT, show j = A.length + (j - A.length) by omega, getD_within _ _ _ _ (by omega)]
    exact hW _ (by omega)
  · show p (byteAt T (A.length + W.length)) = false
    rw [byteAt_of hT, getD_behind]
    rcases hR with hR | hR
    · rw [hR] at hs
      simp at hs
      omega
    · exact hR

/-- no byte of a word follows. -/
def Sep (R : List UInt8) : Prop := R = [] ∨ isWordB ((R.getD 0 0).toNat : Int) = false

/-- these bytes, of which none ends a line, wherever they stand (ahead of what does not go on with a word), are cut into these tokens. -/
def Lex (L : List UInt8) (ts : Toks) : Prop := (10 : UInt8) ∉ L ∧ ∀ (T : ByteArray) (A R : List UInt8), T.data.toList = A ++ (L ++ R) → Sep R → cutAt T A.length = (cutAt T (A ++ L).length).map (ts ++ ·)
/-- .. whatever follows. -/
def LexA (L : List UInt8) (ts : Toks) : Prop := (10 : UInt8) ∉ L ∧ ∀ (T : ByteArray) (A R : List UInt8), T.data.toList = A ++ (L ++ R) → cutAt T A.length = (cutAt T (A ++ L).length).map (ts ++ ·)

theorem LexA.lex {L : List UInt8} {ts : Toks} (h : LexA L ts) : Lex L ts := ⟨h.1, fun T A R hT _ => h.2 T A R hT⟩

theorem map_map {x : Option Toks} (a b : Toks) : (x.map (b ++ ·)).map (a ++ ·) = x.map ((a ++ b) ++ ·) := by
  cases x with
  | none => rfl
  | some l => simp

theorem no_nl {L M : List UInt8} (h : (10 : UInt8) ∉ L) (k : (10 : UInt8) ∉ M) : (10 : UInt8) ∉ L ++ M := fun e => (List.mem_append.1 e).elim h k

theorem LexA.app {L M : List UInt8} {ts us : Toks} (h : LexA L ts) (k : LexA M us) : LexA (L ++ M) (ts ++ us) := ⟨no_nl h.1 k.1, fun T A R hT => by
  rw [h.2 T A (M ++ R) (by rw [hT]; simp), k.2 T (A ++ L) R (by rw [hT]; simp), map_map]
  simp⟩
theorem LexA.on {L M : List UInt8} {ts us : Toks} (h : LexA L ts) (k : Lex M us) : Lex (L ++ M) (ts ++ us) := ⟨no_nl h.1 k.1, fun T A R hT hR => by
  rw [h.2 T A (M ++ R) (by rw [hT]; simp), k.2 T (A ++ L) R (by rw [hT]; simp) hR, map_map]
  simp⟩
/-- what goes on with something that is no byte of a word. -/
def NoWord (M : List UInt8) : Prop := ∃ c r, M = c :: r ∧ isWordB (c.toNat : Int) = false
theorem NoWord.sep {M R : List UInt8} (h : NoWord M) : Sep (M ++ R) := by
  obtain ⟨c, r, rfl, hc⟩ := h
  exact Or.inr hc
theorem NoWord.app {M N : List UInt8} (h : NoWord M) : NoWord (M ++ N) := by
  obtain ⟨c, r, rfl, hc⟩ := h
  exact ⟨c, r ++ N, rfl, hc⟩
theorem Lex.on {L M : List UInt8} {ts us : Toks} (h : Lex L ts) (hM : NoWord M) (k : Lex M us) : Lex (L ++ M) (ts ++ us) := ⟨no_nl h.1 k.1, fun T A R hT hR => by
  rw [h.2 T A (M ++ R) (by rw [hT]; simp) hM.sep, k.2 T (A ++ L) R (by rw [hT]; simp) hR, map_map]
  simp⟩
theorem Lex.app {L M : List UInt8} {ts us : Toks} (h : Lex L ts) (hM : NoWord M) (k : LexA M us) : LexA (L ++ M) (ts ++ us) := ⟨no_nl h.1 k.1, fun T A R hT => by
  rw [h.2 T A (M ++ R) (by rw [hT]; simp) hM.sep, k.2 T (A ++ L) R (by rw [hT]; simp), map_map]
  simp⟩

theorem lex_nil : LexA [] [] := ⟨by simp, fun T A R _ => by
  rw [List.append_nil]
  cases cutAt T A.length <;> rfl⟩

theorem lex_blank : LexA [32] [] := ⟨by decide, fun T A R hT => by
  have hs : T.size = A.length + (1 + R.length) := by rw [Lib.size_eq, hT]; simp; omega
  have hb : byteAt T A.length = 32 := by rw [byteAt_of hT]; exact congrArg (fun x : UInt8 => (x.toNat : Int)) (getD_within A [32] R 0 (by simp))
  rw [cutAt_blank (by omega) hb, List.length_append]
  cases cutAt T (A.length + 1) <;> rfl⟩

/-- one token. -/
theorem lex_tok {L : List UInt8} {t : Int × ByteArray} {T : ByteArray} {A : List UInt8} (hlt : A.length < T.size) (hb : byteAt T A.length ≠ 32) (hn : nextTok T A.length = some (t, (A ++ L).length)) (hf : faultOf t = 0) : cutAt T A.length = (cutAt T (A ++ L).length).map ([t] ++ ·) := by
  rw [cutAt_good hlt hb hn hf]
  rfl

theorem word_bytes {t : ByteArray} (h : wordOk t = true) : 0 < t.data.toList.length ∧ isLetter ((t.data.toList.getD 0 0).toNat : Int) = true ∧ ∀ i, i < t.data.toList.length → isWordB ((t.data.toList.getD i 0).toNat : Int) = true := by
  simp only [wordOk, Bool.and_eq_true, allB_iff] at h
  obtain ⟨h1, h2, h3⟩ := h
  simp only [isIn, Bool.and_eq_true, decide_eq_true_eq] at h1
  refine ⟨by rw [← Lib.size_eq]; omega, h2, fun i hi => h3 i (by rw [Lib.size_eq]; exact hi)⟩
theorem num_chars {t : ByteArray} (h : numOk t = true) : 0 < t.data.toList.length ∧ ∀ i, i < t.data.toList.length → isDigit ((t.data.toList.getD i 0).toNat : Int) = true := by
  simp only [numOk, Bool.and_eq_true, allB_iff] at h
  obtain ⟨h3, h1, _⟩ := h
  simp only [isIn, Bool.and_eq_true, decide_eq_true_eq] at h1
  exact ⟨by rw [← Lib.size_eq]; omega, fun i hi => h3 i (by rw [Lib.size_eq]; exact hi)⟩
theorem quote_bytes {t : ByteArray} (h : quoteOk t = true) : ∀ i, i < t.data.toList.length → notQuote ((t.data.toList.getD i 0).toNat : Int) = true := by
  simp only [quoteOk, Bool.and_eq_true, allB_iff] at h
  intro i hi
  have := h.2 i (by rw [Lib.size_eq]; exact hi)
  simp only [isQuoteB, Bool.and_eq_true, decide_eq_true_eq] at this
  have h34 := this.1.2
  simp only [notQuote, bne_iff_ne]
  exact h34
theorem digit_no_letter {b : Int} (h : isDigit b = true) : isLetter b = false := by
  simp only [isDigit, Bool.and_eq_true, decide_eq_true_eq] at h
  simp [isLetter]; omega
theorem wordB_bare {b : Int} (h : isWordB b = true) : b ≠ 34 ∧ b ≠ 32 := by
  simp only [isWordB, isLetter, isDigit, Bool.or_eq_true, Bool.and_eq_true, decide_eq_true_eq] at h
  omega

theorem all_nl {L : List UInt8} {p : Int → Bool} (hp : p 10 = false) (h : ∀ i, i < L.length → p ((L.getD i 0).toNat : Int) = true) : (10 : UInt8) ∉ L := fun hm => by
  obtain ⟨i, hi, he⟩ := List.getElem_of_mem hm
  have := h i hi
  rw [List.getD_eq_getElem?_getD, List.getElem?_eq_getElem hi, he] at this
  have h2 : p 10 = true := this
  rw [hp] at h2
  cases h2
theorem word_nl {t : ByteArray} (h : wordOk t = true) : (10 : UInt8) ∉ t.data.toList := all_nl (p := isWordB) rfl (word_bytes h).2.2
theorem num_nl {t : ByteArray} (h : numOk t = true) : (10 : UInt8) ∉ t.data.toList := all_nl (p := isDigit) rfl (num_chars h).2
theorem quote_nl {t : ByteArray} (h : quoteOk t = true) : (10 : UInt8) ∉ [34] ++ (t.data.toList ++ [34]) := by
  have h1 : (10 : UInt8) ∉ t.data.toList := all_nl (p := isQuoteB) rfl (by
    simp only [quoteOk, Bool.and_eq_true, allB_iff] at h
    intro i hi
    exact h.2 i (by rw [Lib.size_eq]; exact hi))
  simp [h1]
theorem sign_nl {c : UInt8} (h : c ∈ allSigns) : (10 : UInt8) ∉ [c] := fun e => by
  have : (10 : UInt8) = c := by simpa using e
  subst this
  revert h
  decide

theorem lex_word {t : ByteArray} (h : wordOk t = true) : Lex t.data.toList [wordT t] := ⟨word_nl h, fun T A R hT hR => by
  have hs : T.size = A.length + (t.data.toList.length + R.length) := by rw [Lib.size_eq, hT]; simp
  obtain ⟨h0, hl, hall⟩ := word_bytes h
  have hb : byteAt T A.length = ((t.data.toList.getD 0 0).toNat : Int) := by rw [byteAt_of hT]; exact congrArg (fun x : UInt8 => (x.toNat : Int)) (getD_within A t.data.toList R 0 h0)
  have hp := wordB_bare (hall 0 h0)
  have hr := run_within hT hall hR
  refine lex_tok (by omega) (by rw [hb]; exact hp.2) ?_ (by show tokFault 1 t = 0; simp [tokFault, tokOk, h])
  unfold nextTok
  rw [if_neg (by rw [hb]; exact hp.1), if_pos (by rw [hb]; exact hl), hr, List.length_append]
  congr 3
  apply bytes_ext
  rw [Lib.extract_data, hT, show A.length + t.data.toList.length - A.length = t.data.toList.length by omega]
  simp⟩

theorem lex_num {t : ByteArray} (h : numOk t = true) : Lex t.data.toList [(2, t)] := ⟨num_nl h, fun T A R hT hR => by
  have hs : T.size = A.length + (t.data.toList.length + R.length) := by rw [Lib.size_eq, hT]; simp
  obtain ⟨h0, hall⟩ := num_chars h
  have hd := hall 0 h0
  have hb : byteAt T A.length = ((t.data.toList.getD 0 0).toNat : Int) := by rw [byteAt_of hT]; exact congrArg (fun x : UInt8 => (x.toNat : Int)) (getD_within A t.data.toList R 0 h0)
  have hwb : ∀ i, i < t.data.toList.length → isWordB ((t.data.toList.getD i 0).toNat : Int) = true := fun i hi => by rw [isWordB, hall i hi, Bool.or_true]
  have hp := wordB_bare (hwb 0 h0)
  have hr := run_within hT hwb hR
  refine lex_tok (by omega) (by rw [hb]; exact hp.2) ?_ (by show tokFault 2 t = 0; simp [tokFault, tokOk, h])
  unfold nextTok
  rw [if_neg (by rw [hb]; exact hp.1), if_neg (by rw [hb, digit_no_letter hd]; exact Bool.false_ne_true), if_pos (by rw [hb]; exact hd), hr, List.length_append]
  congr 3
  apply bytes_ext
  rw [Lib.extract_data, hT, show A.length + t.data.toList.length - A.length = t.data.toList.length by omega]
  simp⟩

theorem lex_quote {t : ByteArray} (h : quoteOk t = true) : LexA ([34] ++ (t.data.toList ++ [34])) [(3, t)] := ⟨quote_nl h, fun T A R hT => by
  have hs : T.size = A.length + (1 + (t.data.toList.length + 1) + R.length) := by rw [Lib.size_eq, hT]; simp; omega
  have hall := quote_bytes h
  have hb : byteAt T A.length = 34 := by rw [byteAt_of hT]; exact congrArg (fun x : UInt8 => (x.toNat : Int)) (getD_within A ([34] ++ (t.data.toList ++ [34])) R 0 (by simp))
  have hT' : T.data.toList = (A ++ [34]) ++ (t.data.toList ++ (34 :: R)) := by rw [hT]; simp
  have hr := run_within hT' hall (Or.inr rfl)
  simp only [List.length_append, List.length_cons, List.length_nil] at hr
  refine lex_tok (by omega) (by rw [hb]; decide) ?_ (by show tokFault 3 t = 0; simp [tokFault, tokOk, h])
  unfold nextTok
  rw [if_pos hb, show A.length + 1 = A.length + (0 + 1) by omega, hr, if_neg (by omega)]
  simp only [List.length_append, List.length_cons, List.length_nil]
  refine congrArg some (Prod.ext (Prod.ext rfl (bytes_ext ?_)) ?_)
  · show (T.extract (A.length + (0 + 1)) (A.length + (0 + 1) + t.data.toList.length)).data.toList = t.data.toList
    rw [Lib.extract_data, hT', show A.length + (0 + 1) + t.data.toList.length - (A.length + (0 + 1)) = t.data.toList.length by omega, show A.length + (0 + 1) = (A ++ [34]).length by simp, List.drop_left]
    simp
  · show A.length + (0 + 1) + t.data.toList.length + 1 = A.length + (0 + 1 + (t.data.toList.length + (0 + 1)))
    omega⟩

theorem lex_sign {c : UInt8} (h : c ∈ allSigns) : LexA [c] [signT c] := ⟨sign_nl h, fun T A R hT => by
  have hs : T.size = A.length + (1 + R.length) := by rw [Lib.size_eq, hT]; simp; omega
  have hp : ((c.toNat : Int) ≠ 34 ∧ (c.toNat : Int) ≠ 32) ∧ isLetter (c.toNat : Int) = false ∧ isDigit (c.toNat : Int) = false := by
    simp only [allSigns, List.mem_cons, List.not_mem_nil, or_false] at h
    rcases h with rfl | rfl | rfl | rfl | rfl | rfl | rfl | rfl | rfl | rfl | rfl <;> exact ⟨⟨by decide, by decide⟩, rfl, rfl⟩
  obtain ⟨hp, hl, hd⟩ := hp
  have hb : byteAt T A.length = (c.toNat : Int) := by rw [byteAt_of hT]; exact congrArg (fun x : UInt8 => (x.toNat : Int)) (getD_within A [c] R 0 (by simp))
  refine lex_tok (by omega) (by rw [hb]; exact hp.2) ?_ (by show tokFault 4 ⟨#[c]⟩ = 0; simp [tokFault, tokOk, signOk, h])
  unfold nextTok
  rw [if_neg (by rw [hb]; exact hp.1), if_neg (by rw [hb, hl]; exact Bool.false_ne_true), if_neg (by rw [hb, hd]; exact Bool.false_ne_true), List.length_append]
  congr 3
  apply bytes_ext
  rw [Lib.extract_data, hT, show A.length + 1 - A.length = 1 by omega]
  simp⟩

theorem parts_sign {c : UInt8} (h : c ∈ allSigns) (r : List UInt8) : NoWord (c :: r) := ⟨c, r, rfl, by
  simp only [allSigns, List.mem_cons, List.not_mem_nil, or_false] at h
  rcases h with rfl | rfl | rfl | rfl | rfl | rfl | rfl | rfl | rfl | rfl | rfl <;> rfl⟩
theorem parts_blank (r : List UInt8) : NoWord (32 :: r) := ⟨32, r, rfl, rfl⟩

end Go.Proofs.YtieoddnaknpmlabGreatDoor

/- Plain facts: what is shown of types, expressions and lines is cut into their tokens. -/
namespace Go.Proofs.YtieoddnaknpmlabGreatDoor
open Go.RowKit
set_option maxRecDepth 100000

theorem sg (c : UInt8) (h : c ∈ allSigns := by decide) : LexA [c] [signT c] := lex_sign h

theorem ident_lex {n : ByteArray} (h : identOk n = true) : Lex n.data.toList [wordT n] := lex_word (by
  unfold identOk at h
  simp only [Bool.and_eq_true] at h
  exact h.1)

theorem name_lex {o n : ByteArray} (hn : identOk n = true) (ho : noneOrIdent o = true) : Lex (nameShown o n) (nameToks o n) := by
  unfold nameShown nameToks
  cases e : noneB o with
  | true => rw [if_pos rfl, if_pos rfl]; exact ident_lex hn
  | false =>
    rw [if_neg (by simp), if_neg (by simp)]
    exact (ident_lex (noneOr_ident ho e)).on (parts_sign (c := 46) (by decide) _) ((sg 46).on (ident_lex hn))

theorem ty_lex : ∀ (m : Nat) (t : Ty) (d : Nat), 10 < d + m → tyFault t d = 0 → Lex (tyShown t) (tyToks t) := by
  intro m
  induction m with
  | zero =>
    rintro ⟨k, o, n, xs⟩ d hd h
    have := (ty_ok h).1
    omega
  | succ m ih =>
    rintro ⟨k, o, n, xs⟩ d hd h
    obtain ⟨_, hk, hfit, hx⟩ := ty_ok h
    rw [tyShown, tyToks]
    by_cases h1 : k = 1
    · rw [if_pos h1, if_pos h1]; exact lex_word (t := intW) (by decide)
    by_cases h2 : k = 2
    · rw [if_neg h1, if_neg h1, if_pos h2, if_pos h2]; exact lex_word (t := textW) (by decide)
    by_cases h3 : k = 3
    · subst h3
      rw [if_neg h1, if_neg h1, if_neg h2, if_neg h2, if_pos rfl, if_pos rfl]
      have hfit' : (xs.length == 1 && (noneB n && noneB o)) = true := hfit
      simp only [Bool.and_eq_true, beq_iff_eq] at hfit'
      obtain ⟨t, rfl⟩ : ∃ t, xs = [t] := List.length_eq_one_iff.1 hfit'.1
      rw [tyHead, tyHeadT]
      exact ((sg 91).app ((ih t (d + 1) (by omega) (tys_at hx 0 (by simp))).app (parts_sign (c := 93) (by decide) _) (sg 93))).lex
    · have h4 : k = 4 := by simp [isIn] at hk; omega
      subst h4
      rw [if_neg h1, if_neg h1, if_neg h2, if_neg h2, if_neg h3, if_neg h3]
      have hfit' : (xs.length == 0 && (identOk n && noneOrIdent o)) = true := hfit
      simp only [Bool.and_eq_true] at hfit'
      exact name_lex hfit'.2.1 hfit'.2.2

theorem dec_bytes : ∀ v : Nat, (∀ c ∈ Lib.decDigits v, 48 ≤ c.toNat ∧ c.toNat ≤ 57) ∧ 0 < (Lib.decDigits v).length ∧ (1 ≤ v → (Lib.decDigits v).getD 0 0 ≠ 48) := by
  intro v
  induction v using Nat.strongRecOn with
  | ind v ih =>
    by_cases hv : v < 10
    · rw [Lib.decDigits_one hv]
      have e : (UInt8.ofNat (48 + v)).toNat = 48 + v := by rw [UInt8.toNat_ofNat']; omega
      refine ⟨fun c hc => ?_, by simp, fun h1 => ?_⟩
      · simp only [List.mem_cons, List.not_mem_nil, or_false] at hc
        rw [hc, e]; omega
      · intro h
        have h' : UInt8.ofNat (48 + v) = 48 := h
        have := congrArg UInt8.toNat h'
        rw [e] at this
        simp at this
        omega
    · have e : Lib.decDigits v = Lib.decDigits (v / 10) ++ [UInt8.ofNat (48 + v % 10)] := by
        rw [Lib.decDigits, dif_neg hv]
      obtain ⟨i1, i2, i3⟩ := ih (v / 10) (by omega)
      have e2 : (UInt8.ofNat (48 + v % 10)).toNat = 48 + v % 10 := by rw [UInt8.toNat_ofNat']; omega
      rw [e]
      refine ⟨fun c hc => ?_, by simp, fun h1 => ?_⟩
      · rcases List.mem_append.1 hc with hc | hc
        · exact i1 c hc
        · simp only [List.mem_cons, List.not_mem_nil, or_false] at hc
          rw [hc, e2]; omega
      · rw [List.getD_eq_getElem?_getD, List.getElem?_append_left i2, ← List.getD_eq_getElem?_getD]
        exact i3 (by omega)

theorem num_lex {n : Int} (h : isIn n 0 999999 = true) : Lex (numShown n) [numT n] := by
  have hn : 0 ≤ n ∧ n ≤ 999999 := by simpa [isIn] using h
  have hlen := num_size h
  obtain ⟨b1, b2, b3⟩ := dec_bytes n.toNat
  have hd : ((⟨(numShown n).toArray⟩ : ByteArray)).data.toList = numShown n := rfl
  have hsz : (⟨(numShown n).toArray⟩ : ByteArray).size = (numShown n).length := rfl
  have hpos : 0 < (numShown n).length := b2
  refine lex_num (t := ⟨(numShown n).toArray⟩) ?_
  unfold numOk
  rw [Bool.and_eq_true, Bool.and_eq_true]
  refine ⟨(allB_iff _ _).2 fun j hj => ?_, ?_, ?_⟩
  · have hj' : j < (numShown n).length := hj
    have hm := b1 (numShown n)[j] (List.getElem_mem _)
    show isDigit (byteAt ⟨(numShown n).toArray⟩ j) = true
    rw [byteAt_of hd, List.getD_eq_getElem?_getD, List.getElem?_eq_getElem hj']
    simp only [Option.getD_some, isDigit, Bool.and_eq_true, decide_eq_true_eq]
    omega
  · rw [hsz]; simp only [isIn, Bool.and_eq_true, decide_eq_true_eq]; omega
  · unfold leadZero
    rw [hsz]
    by_cases h1 : 1 < (numShown n).length
    · have hv : 1 ≤ n.toNat := by
        rcases Nat.lt_or_ge 0 n.toNat with h0 | h0
        · exact h0
        · exfalso
          have : n.toNat = 0 := by omega
          unfold numShown at h1
          rw [this, Lib.decDigits_one (by omega)] at h1
          simp at h1
      have hne := b3 hv
      have : (byteAt ⟨(numShown n).toArray⟩ 0 == 48) = false := by
        rw [byteAt_of hd]
        refine beq_eq_false_iff_ne.2 fun e => hne ?_
        have e' : ((Lib.decDigits n.toNat).getD 0 0).toNat = 48 := by
          have : (((numShown n).getD 0 0).toNat : Int) = 48 := e
          unfold numShown at this
          omega
        exact UInt8.toNat_inj.1 e'
      rw [this]; simp
    · simp [h1]

theorem more_parts (xs : List Ex) {c : UInt8} (h : c ∈ allSigns) : NoWord (exMore xs ++ [c]) := by
  cases xs with
  | nil => exact parts_sign h _
  | cons t r => rw [exMore]; exact parts_sign (c := 44) (by decide) _

theorem more_lex {c : UInt8} (hc : c ∈ allSigns) : ∀ xs : List Ex, (∀ x ∈ xs, Lex (exShown x) (exToks x)) → LexA (exMore xs ++ [c]) (exMoreT xs ++ [signT c])
  | [], _ => lex_sign hc
  | x :: r, h => by
    have ih := more_lex hc r (fun y hy => h y (List.mem_cons_of_mem _ hy))
    have := (sg 44).app (lex_blank.app ((h x (by simp)).app (more_parts r hc) ih))
    rw [exMore, exMoreT]
    simpa using this

theorem join_lex {c : UInt8} (hc : c ∈ allSigns) (xs : List Ex) (h : ∀ x ∈ xs, Lex (exShown x) (exToks x)) : LexA (exJoin xs ++ [c]) (exJoinT xs ++ [signT c]) := by
  cases xs with
  | nil => exact lex_sign hc
  | cons x r =>
    have := (h x (by simp)).app (more_parts r hc) (more_lex hc r (fun y hy => h y (List.mem_cons_of_mem _ hy)))
    rw [exJoin, exJoinT]
    simpa using this

theorem plus_lex {L : List UInt8} {ts : Toks} (h : LexA L ts) : LexA ([32, 43, 32] ++ L) ([signT 43] ++ ts) := by
  have := lex_blank.app ((sg 43).app (lex_blank.app h))
  simpa using this

theorem ex_lex : ∀ (m : Nat) (e : Ex) (d : Nat), 10 < d + m → exFault e d = 0 → Lex (exShown e) (exToks e) := by
  intro m
  induction m with
  | zero =>
    rintro ⟨k, n, o, s, xs⟩ d hd h
    have := (ex_ok h).1
    omega
  | succ m ih =>
    rintro ⟨k, n, o, s, xs⟩ d hd h
    obtain ⟨_, hk, _, hkn, hnf, hcf, hin, hx⟩ := ex_ok h
    have hch : ∀ y ∈ xs, Lex (exShown y) (exToks y) := fun y hy => by
      obtain ⟨j, hj, rfl⟩ := List.getElem_of_mem hy
      exact ih _ (d + 1) (by omega) (exs_at hx j hj)
    rw [exShown, exToks]
    by_cases h1 : k = 1
    · rw [if_pos h1, if_pos h1]; exact num_lex hin
    by_cases h2 : k = 2
    · subst h2
      rw [if_neg h1, if_neg h1, if_pos rfl, if_pos rfl]
      have hnf' : (quoteOk s && noneB o) = true := hnf
      simp only [Bool.and_eq_true] at hnf'
      exact (lex_quote hnf'.1).lex
    by_cases h3 : k = 3
    · subst h3
      rw [if_neg h1, if_neg h1, if_neg h2, if_neg h2, if_pos rfl, if_pos rfl]
      have hnf' : (identOk s && noneB o) = true := hnf
      simp only [Bool.and_eq_true] at hnf'
      exact ident_lex hnf'.1
    by_cases h4 : k = 4
    · subst h4
      rw [if_neg h1, if_neg h1, if_neg h2, if_neg h2, if_neg h3, if_neg h3, if_pos rfl, if_pos rfl]
      have hnf' : (identOk s && noneOrIdent o) = true := hnf
      simp only [Bool.and_eq_true] at hnf'
      exact ((name_lex hnf'.1 hnf'.2).app (parts_sign (c := 40) (by decide) _) ((sg 40).app (join_lex (by decide) xs hch))).lex
    by_cases h5 : k = 5
    · subst h5
      rw [if_neg h1, if_neg h1, if_neg h2, if_neg h2, if_neg h3, if_neg h3, if_neg h4, if_neg h4, if_pos rfl, if_pos rfl]
      have hcf' : (xs.length == 2) = true := hcf
      match xs, (show xs.length = 2 by simpa using hcf') with
      | [a, b], _ =>
        rw [exFst, exFstT, exSnd, exSndT, exFst, exFstT]
        exact ((sg 40).app ((hch a (by simp)).app (parts_blank _) (plus_lex ((hch b (by simp)).app (parts_sign (c := 41) (by decide) _) (sg 41))))).lex
    by_cases h6 : k = 6
    · rw [if_neg h1, if_neg h1, if_neg h2, if_neg h2, if_neg h3, if_neg h3, if_neg h4, if_neg h4, if_neg h5, if_neg h5, if_pos h6, if_pos h6]
      exact ((sg 91).app (join_lex (by decide) xs hch)).lex
    · have h7 : k = 7 := by simp [isIn] at hk; omega
      subst h7
      rw [if_neg h1, if_neg h1, if_neg h2, if_neg h2, if_neg h3, if_neg h3, if_neg h4, if_neg h4, if_neg h5, if_neg h5, if_neg h6, if_neg h6]
      have hcf' : (xs.length == 2) = true := hcf
      match xs, (show xs.length = 2 by simpa using hcf') with
      | [a, b], _ =>
        rw [exFst, exFstT, exSnd, exSndT, exFst, exFstT]
        exact ((hch a (by simp)).app (parts_sign (c := 91) (by decide) _) ((sg 91).app ((hch b (by simp)).app (parts_sign (c := 93) (by decide) _) (sg 93)))).lex

/-! ### Lines. -/

def useText (n : ByteArray) : List UInt8 := [117, 115, 101, 32] ++ n.data.toList
def typeText (f : Fd) : List UInt8 := [116, 121, 112, 101, 32] ++ (f.name.data.toList ++ ([32, 61, 32] ++ tyShown f.is))

theorem kw_lex {w : ByteArray} (h : wordOk w = true) {L : List UInt8} {ts : Toks} (hl : Lex L ts) : Lex (w.data.toList ++ ([32] ++ L)) ([wordT w] ++ ts) := by
  have := (lex_word h).on (parts_blank L) (lex_blank.on hl)
  simpa using this
theorem eq_lex {L : List UInt8} {ts : Toks} (h : Lex L ts) : Lex ([32, 61, 32] ++ L) ([signT 61] ++ ts) := by
  have := lex_blank.on ((sg 61).on (lex_blank.on h))
  simpa using this

theorem use_lex {n : ByteArray} (h : identOk n = true) : Lex (useText n) (useT n) := by
  have := kw_lex (w := useW) (by decide) (ident_lex h)
  simpa [useText, useT, useW] using this
theorem type_lex {f : Fd} (h : fdFault f = 0) : Lex (typeText f) (typeT f) := by
  obtain ⟨h1, h2⟩ := fd_parts h
  have := kw_lex (w := typeW) (by decide) ((ident_lex h1).on (parts_blank _) (eq_lex (ty_lex 10 f.is 1 (by omega) h2)))
  simpa [typeText, typeT, typeW] using this

theorem fd_lex {f : Fd} (h : fdFault f = 0) : Lex (fdShown f) (fdToks f) := by
  obtain ⟨h1, h2⟩ := fd_parts h
  have := (ident_lex h1).on (parts_sign (c := 58) (by decide) _) ((sg 58).on (lex_blank.on (ty_lex 10 f.is 1 (by omega) h2)))
  simpa [fdShown, fdToks] using this

def fdMore : List Fd → List UInt8
  | [] => []
  | f :: r => [44, 32] ++ (fdShown f ++ fdMore r)
def fdJoin : List Fd → List UInt8
  | [] => []
  | f :: r => fdShown f ++ fdMore r
theorem fdTo_more : ∀ (l : List Fd) (t : Fd) (k : Nat), k ≤ l.length → fdTo (t :: l) (k + 1) ++ fdMore (l.drop k) = fdShown t ++ fdMore l
  | l, t, 0, _ => by simp [fdTo]
  | l, t, k + 1, h => by
    have ih := fdTo_more l t k (by omega)
    have hk : k < l.length := by omega
    rw [fdTo, if_neg (by omega)]
    rw [List.getElem?_cons_succ, List.getElem?_eq_getElem hk, Option.elim]
    rw [← ih, List.drop_eq_getElem_cons hk, fdMore]
    simp [List.append_assoc]
theorem fdTo_all (l : List Fd) : fdTo l l.length = fdJoin l := by
  cases l with
  | nil => simp [fdTo, fdJoin]
  | cons t r =>
    have := fdTo_more r t r.length (Nat.le_refl _)
    rw [List.drop_length, fdMore, List.append_nil] at this
    rw [fdJoin, List.length_cons, this]
theorem fdMore_parts (xs : List Fd) {c : UInt8} (h : c ∈ allSigns) (R : List UInt8) : NoWord (fdMore xs ++ ([c] ++ R)) := by
  cases xs with
  | nil => exact parts_sign h _
  | cons t r => rw [fdMore]; exact parts_sign (c := 44) (by decide) _
theorem fdMore_lex {M : List UInt8} {us : Toks} (hM : Lex ([41] ++ M) us) : ∀ xs : List Fd, (∀ x ∈ xs, fdFault x = 0) → Lex (fdMore xs ++ ([41] ++ M)) (fdMoreT xs ++ us)
  | [], _ => by simpa [fdMore, fdMoreT] using hM
  | x :: r, h => by
    have ih := fdMore_lex hM r (fun y hy => h y (List.mem_cons_of_mem _ hy))
    have := (sg 44).on (lex_blank.on ((fd_lex (h x (by simp))).on (fdMore_parts r (c := 41) (by decide) M) ih))
    rw [fdMore, fdMoreT]
    simpa using this
theorem fds_lex {M : List UInt8} {us : Toks} (hM : Lex ([41] ++ M) us) (xs : List Fd) (h : ∀ x ∈ xs, fdFault x = 0) : Lex (fdJoin xs ++ ([41] ++ M)) (fdsT xs ++ us) := by
  cases xs with
  | nil => simpa [fdJoin, fdsT] using hM
  | cons x r =>
    have := (fd_lex (h x (by simp))).on (fdMore_parts r (c := 41) (by decide) M) (fdMore_lex hM r (fun y hy => h y (List.mem_cons_of_mem _ hy)))
    rw [fdJoin, fdsT]
    simpa using this

theorem fun_lex {f : Fu} (hf : fuFault f = 0) : Lex (fuShown f) (funT f) := by
  obtain ⟨h1, h2, _, h4, h5, h6⟩ := fu_ok hf
  have hp : ∀ x ∈ f.params, fdFault x = 0 := fun x hx => by
    obtain ⟨j, hj, rfl⟩ := List.getElem_of_mem hx
    exact h4 j hj
  have hb := ex_lex 10 f.body 1 (by omega) h6
  have ht := (ty_lex 10 f.result 1 (by omega) h5).on (parts_blank _) (eq_lex hb)
  have hc : Lex ([41] ++ ([58, 32] ++ (tyShown f.result ++ ([32, 61, 32] ++ exShown f.body)))) ([signT 41] ++ ([signT 58] ++ (tyToks f.result ++ ([signT 61] ++ exToks f.body)))) := by
    have := (sg 41).on ((sg 58).on (lex_blank.on ht))
    simpa using this
  have hps := fds_lex hc f.params hp
  have hop := (sg 40).on hps
  have hv : Lex (f.name.data.toList ++ (varShown f.var ++ ([40] ++ (fdJoin f.params ++ ([41] ++ ([58, 32] ++ (tyShown f.result ++ ([32, 61, 32] ++ exShown f.body)))))))) ([wordT f.name] ++ (varT f.var ++ ([signT 40] ++ (fdsT f.params ++ ([signT 41] ++ ([signT 58] ++ (tyToks f.result ++ ([signT 61] ++ exToks f.body)))))))) := by
    unfold varShown varT
    cases e : noneB f.var with
    | true =>
      rw [if_pos rfl, if_pos rfl]
      exact (ident_lex h1).on (parts_sign (c := 40) (by decide) _) hop
    | false =>
      rw [if_neg (by simp), if_neg (by simp)]
      have := (ident_lex h1).on (parts_sign (c := 60) (by decide) _) ((sg 60).on ((ident_lex (noneOr_ident h2 e)).on (parts_sign (c := 62) (by decide) _) ((sg 62).on hop)))
      simpa using this
  have := kw_lex (w := funcW) (by decide) hv
  unfold fuShown funT
  rw [fdTo_all]
  simpa [funcW] using this

/-- a whole line. -/
theorem lex_line {L : List UInt8} {ts : Toks} (h : Lex L ts) : cutAt ⟨L.toArray⟩ 0 = some ts := by
  have hT : (⟨L.toArray⟩ : ByteArray).data.toList = [] ++ (L ++ []) := by simp
  have := h.2 ⟨L.toArray⟩ [] [] hT (Or.inl rfl)
  rw [List.length_nil, List.nil_append] at this
  rw [this, cutAt_past (by show ¬ L.length < (⟨L.toArray⟩ : ByteArray).size; rw [Lib.size_eq]; simp)]
  simp

end Go.Proofs.YtieoddnaknpmlabGreatDoor

/- Plain facts: a module that may be is read as it was shown, unless the text, or a line, is too long. -/
namespace Go.Proofs.YtieoddnaknpmlabGreatDoor
open Go.RowKit
set_option maxRecDepth 100000

def bytesT (l : List UInt8) : ByteArray := ⟨l.toArray⟩

theorem lines_are (s : ByteArray) : linesOf s = (splitL s.data.toList).map bytesT := by
  have h := lines_data s.size s (Nat.le_refl _)
  rw [← h, List.map_map]
  have : (bytesT ∘ fun x : ByteArray => x.data.toList) = id := by
    funext x
    exact bytes_ext (by simp [bytesT])
  rw [this, List.map_id]

theorem line_res {L : List UInt8} {ts : Toks} {d : Line} (hl : Lex L ts) (hp : pLine ts = .ok d) (hz : L.length ≤ 1500) : lineRes (bytesT L) = .error 1 ∨ lineRes (bytesT L) = .ok d := by
  have hc : cutAt (bytesT L) 0 = some ts := lex_line hl
  have hs : ¬ 1500 < (bytesT L).size := by show ¬ 1500 < L.length; omega
  unfold lineRes cutErr cutToks
  rw [if_neg hs, hc]
  simp only
  by_cases h2 : 200 < ts.length
  · rw [if_pos h2, if_neg (by decide)]; exact Or.inl rfl
  · rw [if_neg h2, if_pos rfl, if_neg hs, if_neg h2, hp]; exact Or.inr rfl

theorem read_lines : ∀ (ps : List (List UInt8 × Line)), (∀ p ∈ ps, lineRes (bytesT p.1) = .error 1 ∨ lineRes (bytesT p.1) = .ok p.2) → ∀ m, readAll (ps.map fun p => bytesT p.1) m = .error 1 ∨ readAll (ps.map fun p => bytesT p.1) m = .ok (ps.foldl (fun m p => putLine m p.2) m)
  | [], _, m => Or.inr rfl
  | p :: r, h, m => by
    rw [List.map_cons, readAll]
    rcases h p (by simp) with e | e
    · rw [e]; exact Or.inl rfl
    · rw [e]
      exact read_lines r (fun q hq => h q (List.mem_cons_of_mem _ hq)) (putLine m p.2)

def useP (n : ByteArray) : List UInt8 × Line := (useText n, .use n)
def typeP (f : Fd) : List UInt8 × Line := (typeText f, .typ f)
def funP (f : Fu) : List UInt8 × Line := (fuShown f, .fn f)
def moP (m : Mo) : List (List UInt8 × Line) := m.uses.map useP ++ (m.types.map typeP ++ (m.funcs.map funP ++ [([], .none)]))

theorem put_uses : ∀ (l : List ByteArray) (m : Mo), (l.map useP).foldl (fun m p => putLine m p.2) m = { m with uses := m.uses ++ l }
  | [], m => by simp
  | x :: r, m => by
    rw [List.map_cons, List.foldl_cons, put_uses r]
    simp [useP, putLine]
theorem put_types : ∀ (l : List Fd) (m : Mo), (l.map typeP).foldl (fun m p => putLine m p.2) m = { m with types := m.types ++ l }
  | [], m => by simp
  | x :: r, m => by
    rw [List.map_cons, List.foldl_cons, put_types r]
    simp [typeP, putLine]
theorem put_funs : ∀ (l : List Fu) (m : Mo), (l.map funP).foldl (fun m p => putLine m p.2) m = { m with funcs := m.funcs ++ l }
  | [], m => by simp
  | x :: r, m => by
    rw [List.map_cons, List.foldl_cons, put_funs r]
    simp [funP, putLine]
theorem put_all (m : Mo) : (moP m).foldl (fun m p => putLine m p.2) noMo = m := by
  unfold moP
  rw [List.foldl_append, put_uses, List.foldl_append, put_types, List.foldl_append, put_funs]
  simp [noMo, putLine]

/-- lines, each with its end. -/
theorem split_lines' {α : Type} (g : α → List UInt8) (t : α → List UInt8) (hg : ∀ x, g x = t x ++ [10]) (R : List UInt8) : ∀ (l : List α), (∀ x ∈ l, (10 : UInt8) ∉ t x) → splitL ((l.map g).flatten ++ R) = l.map t ++ splitL R
  | [], _ => by simp
  | x :: r, h => by
    have ih := split_lines' g t hg R r (fun y hy => h y (List.mem_cons_of_mem _ hy))
    rw [List.map_cons, List.flatten_cons, hg x, List.append_assoc, List.append_assoc, List.cons_append, List.nil_append, splitL_hit _ _ (h x (by simp)), ih]
    rfl

theorem linesTo_flat {α : Type} (g : α → List UInt8) (l : List α) : linesTo g l l.length = (l.map g).flatten := by
  have key : ∀ k, k ≤ l.length → linesTo g l k = ((l.take k).map g).flatten := by
    intro k
    induction k with
    | zero => intro _; rfl
    | succ k ih =>
      intro hk
      rw [linesTo, ih (by omega), List.getElem?_eq_getElem (by omega), List.take_add_one, List.getElem?_eq_getElem (by omega)]
      simp only [List.map_append, List.flatten_append, Option.toList_some, List.map_cons, List.map_nil, List.flatten_cons, List.flatten_nil, List.append_nil, Option.elim]
  rw [key l.length (Nat.le_refl _), List.take_length]

theorem useLine_text (n : ByteArray) : useLine n = useText n ++ [10] := by simp [useLine, useText]
theorem typeLine_text (f : Fd) : typeLine f = typeText f ++ [10] := by simp [typeLine, typeText]
theorem funLine_text (f : Fu) : funLine f = fuShown f ++ [10] := rfl

theorem mo_split {m : Mo} (h : moFault m = 0) : splitL (moShown m) = (moP m).map (·.1) := by
  obtain ⟨_, h1, h2, h3⟩ := mo_ok h
  have u : ∀ x ∈ m.uses, (10 : UInt8) ∉ useText x := fun x hx => by
    obtain ⟨j, hj, rfl⟩ := List.getElem_of_mem hx
    exact (use_lex (h1 j hj)).1
  have t : ∀ x ∈ m.types, (10 : UInt8) ∉ typeText x := fun x hx => by
    obtain ⟨j, hj, rfl⟩ := List.getElem_of_mem hx
    exact (type_lex (h2 j hj)).1
  have f : ∀ x ∈ m.funcs, (10 : UInt8) ∉ fuShown x := fun x hx => by
    obtain ⟨j, hj, rfl⟩ := List.getElem_of_mem hx
    exact (fun_lex (h3 j hj)).1
  unfold moShown moP
  rw [linesTo_flat, linesTo_flat, linesTo_flat, split_lines' useLine useText useLine_text _ _ u, split_lines' typeLine typeText typeLine_text _ _ t]
  have := split_lines' funLine fuShown funLine_text [] m.funcs f
  rw [List.append_nil] at this
  rw [this]
  simp [useP, typeP, funP, splitL, Function.comp_def]

theorem mem_len {ps : List (List UInt8)} {L : List UInt8} (h : L ∈ ps) : L.length ≤ ps.flatten.length := by
  induction ps with
  | nil => cases h
  | cons a r ih =>
    rw [List.flatten_cons, List.length_append]
    rcases List.mem_cons.1 h with rfl | h
    · omega
    · have := ih h; omega

theorem splitL_len : ∀ (l : List UInt8), (splitL l).flatten.length ≤ l.length
  | [] => by simp [splitL]
  | c :: l => by
    have ih := splitL_len l
    rw [splitL]
    split
    · rw [List.flatten_cons, List.nil_append, List.length_cons]; omega
    · cases e : splitL l with
      | nil => simp
      | cons a t => rw [e, List.flatten_cons, List.length_append] at ih; simp only [List.flatten_cons, List.length_append, List.length_cons]; omega

theorem module_back {m : Mo} (h : moFault m = 0) : readErr (bytesT (moShown m)) = 1 ∨ (readErr (bytesT (moShown m)) = 0 ∧ readMo (bytesT (moShown m)) = m) := by
  obtain ⟨_, h1, h2, h3⟩ := mo_ok h
  unfold readErr readMo
  by_cases hz : 1500 < (bytesT (moShown m)).size
  · rw [if_pos hz]; exact Or.inl rfl
  have hsz : (moShown m).length ≤ 1500 := by have : ¬ 1500 < (moShown m).length := hz; omega
  rw [if_neg hz, if_neg hz]
  have hd : (bytesT (moShown m)).data.toList = moShown m := rfl
  rw [lines_are, hd, mo_split h, List.map_map]
  have hall : ∀ p ∈ moP m, lineRes (bytesT p.1) = .error 1 ∨ lineRes (bytesT p.1) = .ok p.2 := by
    intro p hp
    have hlen : p.1.length ≤ 1500 := by
      have hm : p.1 ∈ splitL (moShown m) := by rw [mo_split h]; exact List.mem_map_of_mem hp
      have := mem_len hm
      have := splitL_len (moShown m)
      omega
    unfold moP at hp
    rcases List.mem_append.1 hp with hp | hp
    · obtain ⟨x, hx, rfl⟩ := List.mem_map.1 hp
      obtain ⟨j, hj, rfl⟩ := List.getElem_of_mem hx
      exact line_res (use_lex (h1 j hj)) (line_use (h1 j hj)) hlen
    rcases List.mem_append.1 hp with hp | hp
    · obtain ⟨x, hx, rfl⟩ := List.mem_map.1 hp
      obtain ⟨j, hj, rfl⟩ := List.getElem_of_mem hx
      exact line_res (type_lex (h2 j hj)) (line_type (h2 j hj)) hlen
    rcases List.mem_append.1 hp with hp | hp
    · obtain ⟨x, hx, rfl⟩ := List.mem_map.1 hp
      obtain ⟨j, hj, rfl⟩ := List.getElem_of_mem hx
      exact line_res (fun_lex (h3 j hj)) (line_fun (h3 j hj)) hlen
    · obtain rfl : p = ([], .none) := by simpa using hp
      exact line_res lex_nil.lex rfl hlen
  have hr := read_lines (moP m) hall noMo
  rw [put_all] at hr
  have e : (bytesT ∘ fun p : List UInt8 × Line => p.1) = fun p => bytesT p.1 := rfl
  rw [e]
  rcases hr with hr | hr
  · rw [hr]; exact Or.inl rfl
  · rw [hr]
    refine Or.inr ⟨h, ?_⟩
    simp only
    rw [if_pos h]

theorem noMo_good : moFault noMo = 0 := by simp [moFault, noMo, firstBad, wrap64]

/-- what was read may be. -/
theorem read_good (s : ByteArray) : moFault (readMo s) = 0 := by
  unfold readMo
  split
  · exact noMo_good
  · split
    · exact noMo_good
    · split
      · assumption
      · exact noMo_good

end Go.Proofs.YtieoddnaknpmlabGreatDoor

/- What TreesBack needs in plain words: a module with lines is shown as a text that is not empty; what is read has few lines; what is shown is read as it was. -/
namespace Go.Proofs.YtieoddnaknpmlabGreatDoor
open Go.RowKit
set_option maxRecDepth 100000

theorem lines_ne {α : Type} (g : α → List UInt8) (hg : ∀ x, g x ≠ []) (l : List α) (h : 0 < l.length) : linesTo g l l.length ≠ [] := by
  obtain ⟨k, hk⟩ : ∃ k, l.length = k + 1 := ⟨l.length - 1, by omega⟩
  rw [hk, linesTo, List.getElem?_eq_getElem (by omega)]
  intro e
  exact hg _ (List.append_eq_nil_iff.1 e).2

theorem shown_ne {m : Mo} (h : 0 < m.uses.length + m.types.length + m.funcs.length) : moShown m ≠ [] := by
  intro e
  unfold moShown at e
  obtain ⟨e1, e2⟩ := List.append_eq_nil_iff.1 e
  obtain ⟨e2, e3⟩ := List.append_eq_nil_iff.1 e2
  by_cases h1 : 0 < m.uses.length
  · exact lines_ne useLine (fun x => by simp [useLine]) _ h1 e1
  · by_cases h2 : 0 < m.types.length
    · exact lines_ne typeLine (fun x => by simp [typeLine]) _ h2 e2
    · exact lines_ne funLine (fun x => by simp [funLine]) _ (by omega) e3

theorem readAll_len : ∀ {ls : List ByteArray} {m m' : Mo}, readAll ls m = .ok m' → m'.uses.length + m'.types.length + m'.funcs.length ≤ m.uses.length + m.types.length + m.funcs.length + ls.length
  | [], m, m', h => by
    injection h with h
    subst h
    simp
  | s :: r, m, m', h => by
    rw [readAll] at h
    cases hl : lineRes s with
    | error e => rw [hl] at h; cases h
    | ok d =>
      rw [hl] at h
      have := readAll_len h
      have hp : (putLine m d).uses.length + (putLine m d).types.length + (putLine m d).funcs.length ≤ m.uses.length + m.types.length + m.funcs.length + 1 := by
        cases d <;> simp [putLine] <;> omega
      simp only [List.length_cons]
      omega

theorem readMo_len (s : ByteArray) : (readMo s).uses.length + (readMo s).types.length + (readMo s).funcs.length < 4611686018427387904 := by
  unfold readMo
  split
  · simp [noMo]
  · rename_i hs
    split
    · simp [noMo]
    · rename_i m hm
      split
      · have h1 := readAll_len hm
        have h2 := linesOf_le s
        simp [noMo] at h1
        omega
      · simp [noMo]

theorem moText_good {m : Mo} (h : moFault m = 0) : moText m = bytesT (moShown m) := by
  unfold moText
  rw [if_pos h]
  rfl

/-- a module that may be: shown, it is too long, or it is read as it was. -/
theorem text_back {m : Mo} (h : moFault m = 0) : readErr (moText m) = 1 ∨ (readErr (moText m) = 0 ∧ moText (readMo (moText m)) = moText m) := by
  rw [moText_good h]
  rcases module_back h with h1 | ⟨h1, h2⟩
  · exact Or.inl h1
  · exact Or.inr ⟨h1, by rw [h2, moText_good h]⟩

theorem text_ne {m : Mo} (h : moFault m = 0) (hl : 0 < m.uses.length + m.types.length + m.funcs.length) : (moText m).toList ≠ [] := by
  rw [moText_good h, Lib.toList_data]
  exact shown_ne hl

end Go.Proofs.YtieoddnaknpmlabGreatDoor
