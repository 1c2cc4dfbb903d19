/- What a type is, in plain words: names are found by a function that is given; how the module's own types are met, by their places or by their names: the same. -/
import Derived.Test.YtkdailcadcfepafJAlias10
namespace Go.Proofs.Ytkdailcadcfepaf
open Go.RowKit

abbrev Sol := ByteArray × Int
def intK : ByteArray := ⟨#[105, 110, 116]⟩
def textK : ByteArray := ⟨#[116, 101, 120, 116]⟩
def starK : ByteArray := ⟨#[42]⟩
def noneS : ByteArray := ⟨#[]⟩

def listR (r : Sol) : Sol := if r.2 = 0 then (if listErr r.1 = 0 then (wrapK r.1, 0) else (noneS, 5)) else (noneS, r.2)
def solveP (ρ : ByteArray → ByteArray → Sol) : Nat → Ty → Sol
  | 0, _ => (noneS, 5)
  | d + 1, .mk k o n xs => if k = 1 then (intK, 0) else if k = 2 then (textK, 0) else if k = 3 then (match xs with
    | [] => (noneS, 5)
    | t :: _ => listR (solveP ρ d t)) else ρ o n

def impR (u : List ByteArray) (l : List Im) (o n : ByteArray) : Sol := (impVal u l o n, impErr u l o n)

/-- by places: which ones were met. -/
def findR (m : Mo) (l : List Im) : Nat → List Nat → ByteArray → ByteArray → Sol
  | 0, _, o, n => if o.toList.isEmpty = true then (if ownAt m n < m.types.length then (noneS, 2) else (noneS, 5)) else impR m.uses l o n
  | u + 1, met, o, n => if o.toList.isEmpty = true then (match m.types[ownAt m n]? with
    | some f => if met.contains (ownAt m n) = true then (noneS, 2) else solveP (findR m l u (ownAt m n :: met)) 10 f.is
    | none => (noneS, 5)) else impR m.uses l o n

/-- by names: under which ones it is solved. -/
def refR (m : Mo) (l : List Im) : Nat → ByteArray → List ByteArray → ByteArray → ByteArray → Sol
  | 0, v, _, o, n => if o.toList.isEmpty = true then (if (!v.toList.isEmpty && sEq n v) = true then (starK, 0) else if ownAt m n < m.types.length then (noneS, 2) else (noneS, 5)) else impR m.uses l o n
  | u + 1, v, under, o, n => if o.toList.isEmpty = true then (if (!v.toList.isEmpty && sEq n v) = true then (starK, 0) else match m.types[ownAt m n]? with
    | some f => if hasS under n = true then (noneS, 2) else solveP (refR m l u noneS (under ++ [n])) 10 f.is
    | none => (noneS, 5)) else impR m.uses l o n

/-! ### A name's place tells the name -/

theorem find_at {α : Type} {p : α → Bool} : ∀ {l : List α} (h : findAt p l < l.length), p l[findAt p l] = true
  | [], h => by simp [findAt] at h
  | x :: r, h => by
    by_cases hp : p x = true
    · have e : findAt p (x :: r) = 0 := by rw [findAt, if_pos hp]
      simp only [e, List.getElem_cons_zero]
      exact hp
    · have e : findAt p (x :: r) = findAt p r + 1 := by rw [findAt, if_neg hp]
      have h' : findAt p r < r.length := by rw [e] at h; simpa using h
      simp only [e, List.getElem_cons_succ]
      exact find_at h'

theorem own_name {m : Mo} {n : ByteArray} (h : ownAt m n < m.types.length) : m.types[ownAt m n].name = n := sEq_eq (find_at h)

theorem own_inj {m : Mo} {n n' : ByteArray} (h : ownAt m n < m.types.length) (e : ownAt m n = ownAt m n') : n = n' := by
  have h1 := own_name h
  have h' : ownAt m n' < m.types.length := by rw [← e]; exact h
  have h2 := own_name h'
  rw [← h1, ← h2]
  congr 2

theorem hasS_mem {l : List ByteArray} {s : ByteArray} : hasS l s = true ↔ s ∈ l := by
  unfold hasS
  rw [decide_eq_true_iff]
  constructor
  · intro h
    have := find_at h
    rw [← sEq_eq this]
    exact List.getElem_mem h
  · intro h
    induction l with
    | nil => cases h
    | cons x r ih =>
      by_cases hx : sEq x s = true
      · rw [findAt, if_pos hx]; simp
      · rw [findAt, if_neg hx]
        rcases List.mem_cons.1 h with rfl | h
        · exact absurd (sEq_refl s) hx
        · have := ih h
          simp; exact this

/-- the places of the names. -/
def Meets (m : Mo) (under : List ByteArray) (met : List Nat) : Prop := ∀ n, ownAt m n < m.types.length → (met.contains (ownAt m n) = hasS under n)

theorem Meets.start (m : Mo) : Meets m [] [] := fun n _ => by simp [hasS, findAt]
theorem Meets.next {m : Mo} {under : List ByteArray} {met : List Nat} (h : Meets m under met) {n : ByteArray} (hn : ownAt m n < m.types.length) : Meets m (under ++ [n]) (ownAt m n :: met) := fun n' h' => by
  rw [Bool.eq_iff_iff, hasS_mem, List.mem_append, List.mem_singleton, ← hasS_mem, ← h n' h', List.contains_cons, Bool.or_eq_true, beq_iff_eq]
  constructor
  · rintro (e | e)
    · exact Or.inr (own_inj h' e)
    · exact Or.inl e
  · rintro (e | rfl)
    · exact Or.inr e
    · exact Or.inl rfl

theorem solveP_congr {ρ ρ' : ByteArray → ByteArray → Sol} (h : ∀ o n, ρ o n = ρ' o n) : ∀ (d : Nat) (t : Ty), solveP ρ d t = solveP ρ' d t := by
  have : ρ = ρ' := funext fun o => funext fun n => h o n
  intro d t
  rw [this]

/-- by places or by names: the same. -/
theorem find_ref (m : Mo) (l : List Im) : ∀ (u : Nat) (under : List ByteArray) (met : List Nat), Meets m under met → ∀ o n, findR m l u met o n = refR m l u noneS under o n
  | 0, under, met, _, o, n => by
    unfold findR refR
    rw [if_neg (c := (!noneS.toList.isEmpty && sEq n noneS) = true) (by simp [noneS])]
  | u + 1, under, met, hm, o, n => by
    unfold findR refR
    rw [if_neg (c := (!noneS.toList.isEmpty && sEq n noneS) = true) (by simp [noneS])]
    by_cases ho : o.toList.isEmpty = true
    · rw [if_pos ho, if_pos ho]
      by_cases hat : ownAt m n < m.types.length
      · rw [List.getElem?_eq_getElem hat]
        simp only
        rw [hm n hat]
        by_cases hh : hasS under n = true
        · rw [if_pos hh, if_pos hh]
        · rw [if_neg hh, if_neg hh]
          exact solveP_congr (fun o' n' => find_ref m l u _ _ (hm.next hat) o' n') 10 _
      · rw [List.getElem?_eq_none (by omega)]
    · rw [if_neg ho, if_neg ho]

end Go.Proofs.Ytkdailcadcfepaf
