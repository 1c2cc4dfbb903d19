/- A type's name, and what it is: solving the one is solving the other, in plain words. -/
import Derived.Test.YtkdailcadcfepafJAlias19
namespace Go.Proofs.Ytkdailcadcfepaf
open Go.RowKit

/-- within k lists. -/
def listN : Nat → Sol → Sol
  | 0, r => r
  | k + 1, r => listR (listN k r)

theorem listR_bad {r : Sol} (h : r.2 ≠ 0) : listR r = (noneS, r.2) := if_neg h
theorem listN_round : ∀ k, listN k (noneS, 2) = (noneS, 2)
  | 0 => rfl
  | k + 1 => by rw [listN, listN_round k]; exact listR_bad (by decide)

/-- a type has one name at most. -/
theorem solveP_leaf : ∀ (d : Nat) (t : Ty), (∃ r, ∀ ρ, solveP ρ d t = r) ∨ ∃ k o n, ∀ ρ, solveP ρ d t = listN k (ρ o n)
  | 0, _ => Or.inl ⟨_, fun _ => rfl⟩
  | d + 1, .mk k o n xs => by
    by_cases h1 : k = 1
    · exact Or.inl ⟨_, fun _ => by unfold solveP; rw [if_pos h1]⟩
    by_cases h2 : k = 2
    · exact Or.inl ⟨_, fun _ => by unfold solveP; rw [if_neg h1, if_pos h2]⟩
    by_cases h3 : k = 3
    · cases xs with
      | nil => exact Or.inl ⟨_, fun _ => by unfold solveP; rw [if_neg h1, if_neg h2, if_pos h3]⟩
      | cons t r =>
        have e : ∀ ρ, solveP ρ (d + 1) (.mk k o n (t :: r)) = listR (solveP ρ d t) := fun ρ => by
          conv => lhs; unfold solveP
          rw [if_neg h1, if_neg h2, if_pos h3]
        rcases solveP_leaf d t with ⟨q, h⟩ | ⟨j, o', n', h⟩
        · exact Or.inl ⟨listR q, fun ρ => by rw [e, h]⟩
        · exact Or.inr ⟨j + 1, o', n', fun ρ => by rw [e, h]; rfl⟩
    · exact Or.inr ⟨0, o, n, fun _ => by unfold solveP; rw [if_neg h1, if_neg h2, if_neg h3]; rfl⟩

theorem plain_none {n : ByteArray} : ¬ (!noneS.toList.isEmpty && sEq n noneS) = true := by simp [noneS]
theorem refR_none {m : Mo} {l : List Im} {u : Nat} {under : List ByteArray} {o n : ByteArray} (ho : o.toList.isEmpty = true) (ha : ¬ ownAt m n < m.types.length) : refR m l u noneS under o n = (noneS, 5) := by
  cases u with
  | zero => unfold refR; rw [if_pos ho, if_neg plain_none, if_neg ha]
  | succ u => unfold refR; rw [if_pos ho, if_neg plain_none, List.getElem?_eq_none (by omega)]
theorem refR_round {m : Mo} {l : List Im} {u : Nat} {under : List ByteArray} {o n : ByteArray} (ho : o.toList.isEmpty = true) (ha : ownAt m n < m.types.length) (hh : hasS under n = true) : refR m l u noneS under o n = (noneS, 2) := by
  cases u with
  | zero => unfold refR; rw [if_pos ho, if_neg plain_none, if_pos ha]
  | succ u => unfold refR; rw [if_pos ho, if_neg plain_none, List.getElem?_eq_getElem ha]; simp only; rw [if_pos hh]
theorem refR_on {m : Mo} {l : List Im} {u : Nat} {under : List ByteArray} {o n : ByteArray} (ho : o.toList.isEmpty = true) (ha : ownAt m n < m.types.length) (hh : hasS under n = false) : refR m l (u + 1) noneS under o n = solveP (refR m l u noneS (under ++ [n])) 10 m.types[ownAt m n].is := by
  conv => lhs; unfold refR
  rw [if_pos ho, if_neg plain_none, List.getElem?_eq_getElem ha]; simp only; rw [if_neg (by rw [hh]; simp)]

theorem unmet_congr {met met' : List Nat} (h : ∀ i, met.contains i = met'.contains i) : ∀ n, unmet met n = unmet met' n
  | 0 => rfl
  | n + 1 => by unfold unmet; rw [unmet_congr h n, h n]

theorem hasS_snoc {U : List ByteArray} {a n : ByteArray} (h : hasS U n = true) : hasS (U ++ [a]) n = true := hasS_mem.2 (List.mem_append_left _ (hasS_mem.1 h))
theorem hasS_last (U : List ByteArray) (a : ByteArray) : hasS (U ++ [a]) a = true := hasS_mem.2 (by simp)

theorem swap_contains (a b : Nat) (met : List Nat) (i : Nat) : (a :: b :: met).contains i = (b :: a :: met).contains i := by
  simp only [List.contains_cons]
  cases (i == a) <;> cases (i == b) <;> rfl

/-- who comes back to a goes round once more. -/
theorem ref_more {m : Mo} {l : List Im} {a n1 o1 : ByteArray} {j : Nat} (ha : ownAt m a < m.types.length) (ho1 : o1.toList.isEmpty = true) (h1 : ownAt m n1 < m.types.length)
    (ht : ∀ ρ, solveP ρ 10 m.types[ownAt m a].is = listN j (ρ o1 n1)) :
    ∀ (u' u : Nat) (U W : List ByteArray) (met : List Nat), Meets m U met → Meets m W (ownAt m a :: met) → met.contains (ownAt m a) = false → hasS U n1 = true → unmet met m.types.length ≤ u → unmet (ownAt m a :: met) m.types.length ≤ u' →
      ∀ o n, refR m l u noneS U o n = refR m l u' noneS W o n := by
  intro u'
  induction u' with
  | zero =>
    intro u U W met hU hW hc hn hu hu' o n
    cases ho : o.toList.isEmpty with
    | false => rw [refR_imp ho, refR_imp ho]
    | true =>
      by_cases hn' : ownAt m n < m.types.length
      · have hm := unmet_zero (met := ownAt m a :: met) (n := m.types.length) (by omega) _ hn'
        rw [refR_round (u := 0) (under := W) ho hn' (by rw [← hW n hn']; exact hm)]
        by_cases hu2 : hasS U n = true
        · exact refR_round ho hn' hu2
        · have hu3 : hasS U n = false := by simpa using hu2
          have he : ownAt m n = ownAt m a := by
            rw [← hU n hn'] at hu3
            rw [List.contains_cons, hu3] at hm
            simpa using hm
          have hna : n = a := own_inj hn' he
          subst hna
          have := unmet_lt hc ha
          obtain ⟨v, rfl⟩ : ∃ v, u = v + 1 := ⟨u - 1, by omega⟩
          rw [refR_on ho hn' hu3, ht, refR_round ho1 h1 (hasS_snoc hn), listN_round]
      · rw [refR_none ho hn', refR_none ho hn']
  | succ u' ih =>
    intro u U W met hU hW hc hn hu hu' o n
    cases ho : o.toList.isEmpty with
    | false => rw [refR_imp ho, refR_imp ho]
    | true =>
      by_cases hn' : ownAt m n < m.types.length
      · have hlt := unmet_lt hc ha
        obtain ⟨v, rfl⟩ : ∃ v, u = v + 1 := ⟨u - 1, by omega⟩
        by_cases hu2 : hasS U n = true
        · have hm : (ownAt m a :: met).contains (ownAt m n) = true := by rw [List.contains_cons, hU n hn', hu2]; simp
          rw [refR_round ho hn' hu2, refR_round ho hn' (by rw [← hW n hn']; exact hm)]
        · have hu3 : hasS U n = false := by simpa using hu2
          by_cases he : ownAt m n = ownAt m a
          · have hna : n = a := own_inj hn' he
            subst hna
            rw [refR_round (u := u' + 1) ho hn' (by rw [← hW n hn']; simp), refR_on ho hn' hu3, ht, refR_round ho1 h1 (hasS_snoc hn), listN_round]
          · have hmn : met.contains (ownAt m n) = false := by rw [hU n hn']; exact hu3
            have hW3 : (ownAt m a :: met).contains (ownAt m n) = false := by rw [List.contains_cons, hmn]; simpa using he
            rw [refR_on ho hn' hu3, refR_on ho hn' (by rw [← hW n hn']; exact hW3)]
            have hl2 := unmet_lt hmn hn'
            have hl3 := unmet_lt hW3 hn'
            have hsw := unmet_congr (swap_contains (ownAt m n) (ownAt m a) met) m.types.length
            have hc2 : (ownAt m n :: met).contains (ownAt m a) = false := by rw [List.contains_cons, hc]; simpa using fun e => he e.symm
            refine solveP_congr (ih v (U ++ [n]) (W ++ [n]) (ownAt m n :: met) (hU.next hn') (fun x hx => ?_) hc2 (hasS_snoc hn) (by omega) (by omega)) 10 _
            rw [← (hW.next hn') x hx]
            exact swap_contains _ _ _ _
      · rw [refR_none ho hn', refR_none ho hn']

/-- solving what a name is, or the name. -/
theorem solve_name {m : Mo} {l : List Im} {a : ByteArray} (ha : ownAt m a < m.types.length) : solveP (refR m l m.types.length noneS []) 10 m.types[ownAt m a].is = refR m l m.types.length noneS [] noneS a := by
  obtain ⟨v, hv⟩ : ∃ v, m.types.length = v + 1 := ⟨m.types.length - 1, by omega⟩
  have h0 : hasS [] a = false := by simp [hasS, findAt]
  have hn0 : ∀ n, hasS [] n = false := fun n => by simp [hasS, findAt]
  have hR : refR m l m.types.length noneS [] noneS a = solveP (refR m l v noneS [a]) 10 m.types[ownAt m a].is := by
    rw [hv]; exact refR_on (by simp [noneS]) ha h0
  rw [hR]
  rcases solveP_leaf 10 m.types[ownAt m a].is with ⟨q, h⟩ | ⟨j, o1, n1, h⟩
  · rw [h, h]
  · rw [h, h]
    congr 1
    cases ho : o1.toList.isEmpty with
    | false => rw [refR_imp ho, refR_imp ho]
    | true =>
      by_cases hn : ownAt m n1 < m.types.length
      · rw [show refR m l m.types.length noneS [] o1 n1 = refR m l (v + 1) noneS [] o1 n1 by rw [hv], refR_on ho hn (hn0 n1)]
        by_cases he : ownAt m n1 = ownAt m a
        · have hna : n1 = a := own_inj hn he
          subst hna
          have hl : hasS [n1] n1 = true := hasS_last [] n1
          rw [List.nil_append, h, refR_round ho hn hl, listN_round]
        · have hM := Meets.start m
          have c1 : ([] : List Nat).contains (ownAt m n1) = false := rfl
          have c2 : [ownAt m n1].contains (ownAt m a) = false := by simpa using fun e => he e.symm
          have l1 := unmet_lt c1 hn
          have l2 := unmet_lt c2 ha
          rw [unmet_nil] at l1
          obtain ⟨v2, rfl⟩ : ∃ v2, v = v2 + 1 := ⟨v - 1, by omega⟩
          have hh : hasS [a] n1 = false := by
            rw [Bool.eq_false_iff, ne_eq, hasS_mem]
            simp
            rintro rfl; exact he rfl
          rw [refR_on ho hn hh]
          refine solveP_congr (ref_more ha ho hn h v2 (v2 + 1) [n1] ([a] ++ [n1]) [ownAt m n1] (hM.next hn) (fun x hx => ?_) c2 (hasS_last [] n1) (by omega) (by omega)) 10 _
          have := ((hM.next ha).next hn) x hx
          rw [List.nil_append] at this
          rw [← this]
          exact swap_contains _ _ _ _
      · rw [refR_none ho hn, refR_none ho hn]

end Go.Proofs.Ytkdailcadcfepaf
