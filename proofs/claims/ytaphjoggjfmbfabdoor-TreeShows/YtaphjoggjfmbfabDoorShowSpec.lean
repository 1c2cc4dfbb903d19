/- Plain functions: how types, expressions and modules are shown (P2.5), and how long that can be. -/
import Derived.Test.YtaphjoggjfmbfabDoorTree
import Derived.Lib.ItoaNum
namespace Go.Proofs.YtaphjoggjfmbfabDoor
open Go.RowKit

def nameShown (o n : ByteArray) : List UInt8 := if noneB o = true then n.data.toList else o.data.toList ++ ([46] ++ n.data.toList)

mutual
def tyShown : Ty → List UInt8
  | .mk k o n xs => if k = 1 then [105, 110, 116] else if k = 2 then [116, 101, 120, 116] else if k = 3 then [91] ++ (tyHead xs ++ [93]) else nameShown o n
def tyHead : List Ty → List UInt8
  | [] => []
  | t :: _ => tyShown t
end

def numShown (n : Int) : List UInt8 := Lib.decDigits n.toNat

mutual
def exShown : Ex → List UInt8
  | .mk k n o s xs =>
    if k = 1 then numShown n
    else if k = 2 then [34] ++ (s.data.toList ++ [34])
    else if k = 3 then s.data.toList
    else if k = 4 then nameShown o s ++ ([40] ++ (exJoin xs ++ [41]))
    else if k = 5 then [40] ++ (exFst xs ++ ([32, 43, 32] ++ (exSnd xs ++ [41])))
    else if k = 6 then [91] ++ (exJoin xs ++ [93])
    else exFst xs ++ ([91] ++ (exSnd xs ++ [93]))
def exFst : List Ex → List UInt8
  | [] => []
  | t :: _ => exShown t
def exSnd : List Ex → List UInt8
  | [] => []
  | _ :: r => exFst r
def exJoin : List Ex → List UInt8
  | [] => []
  | t :: r => exShown t ++ exMore r
def exMore : List Ex → List UInt8
  | [] => []
  | t :: r => [44, 32] ++ (exShown t ++ exMore r)
end

/-- the first k of a list, with commas between. -/
def exTo (l : List Ex) : Nat → List UInt8
  | 0 => []
  | k + 1 => exTo l k ++ ((if k = 0 then [] else [44, 32]) ++ ((l[k]?).elim [] exShown))

theorem exTo_more : ∀ (l : List Ex) (t : Ex) (k : Nat), k ≤ l.length → exTo (t :: l) (k + 1) ++ exMore (l.drop k) = exShown t ++ exMore l
  | l, t, 0, _ => by simp [exTo]
  | l, t, k + 1, h => by
    have ih := exTo_more l t k (by omega)
    have hk : k < l.length := by omega
    rw [exTo, if_neg (by omega)]
    rw [List.getElem?_cons_succ, List.getElem?_eq_getElem hk, Option.elim]
    rw [← ih, List.drop_eq_getElem_cons hk, exMore]
    simp [List.append_assoc]

theorem exTo_all (l : List Ex) : exTo l l.length = exJoin l := by
  cases l with
  | nil => simp [exTo, exJoin]
  | cons t r =>
    have := exTo_more r t r.length (Nat.le_refl _)
    rw [List.drop_length, exMore, List.append_nil] at this
    rw [exJoin, List.length_cons, this]

def fdShown (f : Fd) : List UInt8 := f.name.data.toList ++ ([58, 32] ++ tyShown f.is)
/-- the first k params, with commas between. -/
def fdTo (l : List Fd) : Nat → List UInt8
  | 0 => []
  | k + 1 => fdTo l k ++ ((if k = 0 then [] else [44, 32]) ++ ((l[k]?).elim [] fdShown))

def varShown (v : ByteArray) : List UInt8 := if noneB v = true then [] else [60] ++ (v.data.toList ++ [62])
def fuShown (f : Fu) : List UInt8 := [102, 117, 110, 99, 32] ++ (f.name.data.toList ++ (varShown f.var ++ ([40] ++ (fdTo f.params f.params.length ++ ([41, 58, 32] ++ (tyShown f.result ++ ([32, 61, 32] ++ exShown f.body)))))))
def useLine (s : ByteArray) : List UInt8 := [117, 115, 101, 32] ++ (s.data.toList ++ [10])
def typeLine (f : Fd) : List UInt8 := [116, 121, 112, 101, 32] ++ (f.name.data.toList ++ ([32, 61, 32] ++ (tyShown f.is ++ [10])))
def funLine (f : Fu) : List UInt8 := fuShown f ++ [10]
/-- the first k lines. -/
def linesTo {α : Type} (g : α → List UInt8) (l : List α) : Nat → List UInt8
  | 0 => []
  | k + 1 => linesTo g l k ++ ((l[k]?).elim [] g)
def moShown (m : Mo) : List UInt8 := linesTo useLine m.uses m.uses.length ++ (linesTo typeLine m.types m.types.length ++ linesTo funLine m.funcs m.funcs.length)

/-! ### How long they are -/

theorem ident_size {s : ByteArray} (h : identOk s = true) : s.data.toList.length ≤ 8 := by
  have h1 : isIn s.size 1 8 = true := by
    cases e : isIn s.size 1 8 with
    | true => rfl
    | false => rw [identOk, wordOk, e] at h; cases h
  have : s.data.toList.length = s.size := rfl
  simp [isIn] at h1
  omega
theorem none_size {s : ByteArray} (h : noneB s = true) : s.data.toList.length = 0 := by
  have : s.data.toList = [] := by simpa [noneB] using h
  rw [this]; rfl
theorem noneOr_size {s : ByteArray} (h : noneOrIdent s = true) : s.data.toList.length ≤ 8 := by
  unfold noneOrIdent at h
  cases hn : noneB s with
  | true => have := none_size hn; omega
  | false => rw [hn] at h; exact ident_size (by simpa using h)
theorem quote_size {s : ByteArray} (h : quoteOk s = true) : s.data.toList.length ≤ 20 := by
  have : s.data.toList.length = s.size := rfl
  simp only [quoteOk, Bool.and_eq_true, decide_eq_true_eq] at h
  omega
theorem name_size {o n : ByteArray} (ho : noneOrIdent o = true) (hn : identOk n = true) : (nameShown o n).length ≤ 17 := by
  have h1 := noneOr_size ho
  have h2 := ident_size hn
  unfold nameShown
  split
  · omega
  · simp only [List.length_append, List.length_cons, List.length_nil]; omega

theorem ty_ok {k : Int} {o n : ByteArray} {xs : List Ty} {d : Nat} (h : tyFault (.mk k o n xs) d = 0) : d ≤ 10 ∧ isIn k 1 4 = true ∧ tyFits k o n xs.length = true ∧ tysFault xs (d + 1) = 0 := by
  rw [tyFault] at h
  split at h
  · omega
  split at h
  · omega
  split at h
  · omega
  rename_i h1 h2 h3
  exact ⟨by omega, by simpa using h2, by simpa using h3, h⟩
theorem tys_at {xs : List Ty} {d : Nat} (h : tysFault xs d = 0) (j : Nat) (hj : j < xs.length) : tyFault xs[j] d = 0 := by
  rw [tysFault_first] at h
  exact firstBad_all _ xs h j hj

theorem ty_size : ∀ (m : Nat) (t : Ty) (d : Nat), 10 < d + m → tyFault t d = 0 → (tyShown t).length ≤ 17 + 2 * m := by
  intro m
  induction m with
  | zero =>
    rintro ⟨k, o, n, xs⟩ d hd h
    have := (ty_ok h).1
    omega
  | succ m ih =>
    rintro ⟨k, o, n, xs⟩ d hd h
    obtain ⟨_, hk, hf, hx⟩ := ty_ok h
    rw [tyShown]
    by_cases h1 : k = 1
    · simp only [if_pos h1, List.length_cons, List.length_nil]; omega
    by_cases h2 : k = 2
    · simp only [if_neg h1, if_pos h2, List.length_cons, List.length_nil]; omega
    by_cases h3 : k = 3
    · simp only [if_neg h1, if_neg h2, if_pos h3, List.length_append, List.length_cons, List.length_nil]
      cases xs with
      | nil => simp only [tyHead, List.length_nil]; omega
      | cons t r =>
        have := ih t (d + 1) (by omega) (tys_at hx 0 (by simp))
        simp only [tyHead]
        omega
    · simp only [if_neg h1, if_neg h2, if_neg h3]
      have h4 : k = 4 := by simp [isIn] at hk; omega
      subst h4
      have hf' : (xs.length == 0 && (identOk n && noneOrIdent o)) = true := hf
      simp only [Bool.and_eq_true] at hf'
      have := name_size hf'.2.2 hf'.2.1
      omega

theorem ex_ok {k n : Int} {o s : ByteArray} {xs : List Ex} {d : Nat} (h : exFault (.mk k n o s xs) d = 0) :
    d ≤ 10 ∧ isIn k 1 7 = true ∧ xs.length ≤ 8 ∧ (k = 1 ∨ n = 0) ∧ namesFit k o s = true ∧ countFits k xs.length = true ∧ isIn n 0 999999 = true ∧ exsFault xs (d + 1) = 0 := by
  rw [exFault] at h
  split at h
  · omega
  split at h
  · omega
  split at h
  · omega
  split at h
  · omega
  split at h
  · omega
  rename_i h1 h2 h3 h4 h5
  have hk1 : k = 1 ∨ n = 0 := by
    by_cases hk : k = 1
    · exact Or.inl hk
    · by_cases hn : n = 0
      · exact Or.inr hn
      · exact absurd (Or.inl ⟨hn, hk⟩) h4
  refine ⟨by omega, by simpa using h2, by omega, hk1, ?_, ?_, by simpa using h5, h⟩
  · cases hn : namesFit k o s with
    | true => rfl
    | false => exact absurd (Or.inr (Or.inl hn)) h4
  · cases hn : countFits k xs.length with
    | true => rfl
    | false => exact absurd (Or.inr (Or.inr hn)) h4
theorem exs_at {xs : List Ex} {d : Nat} (h : exsFault xs d = 0) (j : Nat) (hj : j < xs.length) : exFault xs[j] d = 0 := by
  rw [exsFault_first] at h
  exact firstBad_all _ xs h j hj

theorem exTo_size (l : List Ex) (b : Nat) (h : ∀ j (hj : j < l.length), (exShown l[j]).length ≤ b) : ∀ k, k ≤ l.length → (exTo l k).length ≤ k * (b + 2)
  | 0, _ => by simp [exTo]
  | k + 1, hk => by
    have ih := exTo_size l b h k (by omega)
    have := h k (by omega)
    rw [exTo, List.getElem?_eq_getElem (by omega)]
    simp only [Option.elim, List.length_append]
    have e : (k + 1) * (b + 2) = k * (b + 2) + (b + 2) := Nat.succ_mul k (b + 2)
    split
    · simp only [List.length_nil]; omega
    · simp only [List.length_cons, List.length_nil]; omega

theorem num_size {n : Int} (h : isIn n 0 999999 = true) : (numShown n).length ≤ 6 := by
  unfold numShown
  rw [Lib.decDigits_length]
  have hn : n.toNat ≤ 999999 := by simp [isIn] at h; omega
  generalize n.toNat = u at *
  rw [Lib.nDigits]
  split
  · omega
  rw [Lib.nDigits]
  split
  · omega
  rw [Lib.nDigits]
  split
  · omega
  rw [Lib.nDigits]
  split
  · omega
  rw [Lib.nDigits]
  split
  · omega
  rw [Lib.nDigits]
  split
  · omega
  · rename_i h0 h1 h2 h3 h4 h5
    exfalso
    omega

/-- the bound at each level: ten times that of the next. -/
theorem ex_size : ∀ (m : Nat) (t : Ex) (d : Nat), 10 < d + m → exFault t d = 0 → (exShown t).length ≤ 20 * 10 ^ m := by
  intro m
  induction m with
  | zero =>
    rintro ⟨k, n, o, s, xs⟩ d hd h
    have := (ex_ok h).1
    omega
  | succ m ih =>
    rintro ⟨k, n, o, s, xs⟩ d hd h
    obtain ⟨_, hk, h8, _, hnf, hcf, hr, hx⟩ := ex_ok h
    have each : ∀ j (hj : j < xs.length), (exShown xs[j]).length ≤ 20 * 10 ^ m := fun j hj => ih _ (d + 1) (by omega) (exs_at hx j hj)
    have hj : (exJoin xs).length ≤ 8 * (20 * 10 ^ m + 2) := by
      rw [← exTo_all]
      refine Nat.le_trans (exTo_size xs _ each xs.length (Nat.le_refl _)) (Nat.mul_le_mul_right _ h8)
    have hf : (exFst xs).length ≤ 20 * 10 ^ m := by
      cases xs with
      | nil => simp [exFst]
      | cons t r => exact each 0 (by simp)
    have hs : (exSnd xs).length ≤ 20 * 10 ^ m := by
      match xs, each with
      | [], _ => simp [exSnd]
      | [t], _ => simp [exSnd, exFst]
      | t :: u :: r, each => exact each 1 (by simp)
    have hp : 1 ≤ 10 ^ m := Nat.one_le_iff_ne_zero.2 (by simp)
    have e10 : 20 * 10 ^ (m + 1) = 200 * 10 ^ m := by rw [Nat.pow_succ]; omega
    rw [e10]
    generalize 10 ^ m = p at *
    rw [exShown]
    by_cases h1 : k = 1
    · have := num_size hr
      simp only [if_pos h1]; omega
    by_cases h2 : k = 2
    · subst h2
      have hnf' : (quoteOk s && noneB o) = true := hnf
      simp only [Bool.and_eq_true] at hnf'
      have := quote_size hnf'.1
      simp only [if_neg h1, if_pos, List.length_append, List.length_cons, List.length_nil]; omega
    by_cases h3 : k = 3
    · subst h3
      have hnf' : (identOk s && noneB o) = true := hnf
      simp only [Bool.and_eq_true] at hnf'
      have := ident_size hnf'.1
      simp only [if_neg h1, if_neg h2, if_pos]; omega
    by_cases h4 : k = 4
    · subst h4
      have hnf' : (identOk s && noneOrIdent o) = true := hnf
      simp only [Bool.and_eq_true] at hnf'
      have := name_size hnf'.2 hnf'.1
      simp only [if_neg h1, if_neg h2, if_neg h3, if_pos, List.length_append, List.length_cons, List.length_nil]; omega
    by_cases h5 : k = 5
    · simp only [if_neg h1, if_neg h2, if_neg h3, if_neg h4, if_pos h5, List.length_append, List.length_cons, List.length_nil]; omega
    by_cases h6 : k = 6
    · simp only [if_neg h1, if_neg h2, if_neg h3, if_neg h4, if_neg h5, if_pos h6, List.length_append, List.length_cons, List.length_nil]; omega
    · simp only [if_neg h1, if_neg h2, if_neg h3, if_neg h4, if_neg h5, if_neg h6, List.length_append, List.length_cons, List.length_nil]; omega

theorem fd_size {f : Fd} (h : fdFault f = 0) : (fdShown f).length ≤ 47 := by
  unfold fdFault at h
  split at h
  · rename_i hi
    have h1 := ident_size hi
    have h2 := ty_size 10 f.is 1 (by omega) h
    simp only [fdShown, List.length_append, List.length_cons, List.length_nil]; omega
  · omega

theorem fdTo_size (l : List Fd) (h : ∀ j (hj : j < l.length), fdFault l[j] = 0) : ∀ k, k ≤ l.length → (fdTo l k).length ≤ 49 * k
  | 0, _ => by simp [fdTo]
  | k + 1, hk => by
    have ih := fdTo_size l h k (by omega)
    have := fd_size (h k (by omega))
    rw [fdTo, List.getElem?_eq_getElem (by omega)]
    simp only [Option.elim, List.length_append]
    split
    · simp only [List.length_nil]; omega
    · simp only [List.length_cons, List.length_nil]; omega

theorem fu_ok {f : Fu} (h : fuFault f = 0) : identOk f.name = true ∧ noneOrIdent f.var = true ∧ f.params.length ≤ 8 ∧ (∀ j (hj : j < f.params.length), fdFault f.params[j] = 0) ∧ tyFault f.result 1 = 0 ∧ exFault f.body 1 = 0 := by
  unfold fuFault at h
  split at h
  · omega
  split at h
  · omega
  split at h
  · rename_i h1; exact absurd h h1
  split at h
  · rename_i h1; exact absurd h h1
  rename_i h1 h2 h3 h4
  refine ⟨?_, ?_, by omega, firstBad_all _ _ (by simpa using h3), by simpa using h4, h⟩
  · cases hn : identOk f.name with
    | true => rfl
    | false => exact absurd (Or.inl hn) h1
  · cases hn : noneOrIdent f.var with
    | true => rfl
    | false => exact absurd (Or.inr hn) h1

theorem fu_size {f : Fu} (h : fuFault f = 0) : (funLine f).length ≤ 200000000500 := by
  obtain ⟨h1, h2, h3, h4, h5, h6⟩ := fu_ok h
  have a1 := ident_size h1
  have a2 := noneOr_size h2
  have a3 := fdTo_size f.params h4 f.params.length (Nat.le_refl _)
  have a4 := ty_size 10 f.result 1 (by omega) h5
  have a5 := ex_size 10 f.body 1 (by omega) h6
  have a6 : (varShown f.var).length ≤ 10 := by
    unfold varShown
    split
    · simp
    · simp only [List.length_append, List.length_cons, List.length_nil]; omega
  have e : 20 * 10 ^ 10 = 200000000000 := by decide
  rw [e] at a5
  simp only [funLine, fuShown, List.length_append, List.length_cons, List.length_nil]
  omega

theorem lines_size {α : Type} (g : α → List UInt8) (b : Nat) (l : List α) (h : ∀ j (hj : j < l.length), (g l[j]).length ≤ b) : ∀ k, k ≤ l.length → (linesTo g l k).length ≤ k * b
  | 0, _ => by simp [linesTo]
  | k + 1, hk => by
    have ih := lines_size g b l h k (by omega)
    have := h k (by omega)
    rw [linesTo, List.getElem?_eq_getElem (by omega)]
    simp only [Option.elim, List.length_append]
    have e : (k + 1) * b = k * b + b := Nat.succ_mul k b
    omega

theorem mo_ok {m : Mo} (h : moFault m = 0) : ¬ 24 < wrap64 (wrap64 ((m.uses.length : Int) + m.types.length) + m.funcs.length) ∧ (∀ j (hj : j < m.uses.length), identOk m.uses[j] = true) ∧ (∀ j (hj : j < m.types.length), fdFault m.types[j] = 0) ∧ (∀ j (hj : j < m.funcs.length), fuFault m.funcs[j] = 0) := by
  unfold moFault at h
  split at h
  · omega
  split at h
  · rename_i h1; exact absurd h h1
  split at h
  · rename_i h1; exact absurd h h1
  rename_i h0 h1 h2
  refine ⟨h0, fun j hj => ?_, firstBad_all _ _ (by simpa using h2), firstBad_all _ _ h⟩
  have := firstBad_all useFault m.uses (by simpa using h1) j hj
  unfold useFault at this
  split at this
  · assumption
  · omega

end Go.Proofs.YtaphjoggjfmbfabDoor
