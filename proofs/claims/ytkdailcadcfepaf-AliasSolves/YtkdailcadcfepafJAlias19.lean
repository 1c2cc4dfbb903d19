/- The code's way and the reference's tell the same of a type that may be, in plain words. -/
import Derived.Test.YtkdailcadcfepafJAlias18
namespace Go.Proofs.Ytkdailcadcfepaf
open Go.RowKit

theorem solveP_same {ρ ρ' : ByteArray → ByteArray → Sol} (h : ∀ o n, identOk n = true → ρ o n = ρ' o n) : ∀ (d : Nat) (t : Ty) (dd : Nat), tyFault t dd = 0 → solveP ρ d t = solveP ρ' d t
  | 0, _, _, _ => rfl
  | d + 1, .mk k o n xs, dd, ht => by
    obtain ⟨_, ⟨hk1, hk4⟩, h3, h4⟩ := ty_parts ht
    unfold solveP
    by_cases e1 : k = 1
    · rw [if_pos e1, if_pos e1]
    · rw [if_neg e1, if_neg e1]
      by_cases e2 : k = 2
      · rw [if_pos e2, if_pos e2]
      · rw [if_neg e2, if_neg e2]
        by_cases e3 : k = 3
        · rw [if_pos e3, if_pos e3]
          obtain ⟨t, rfl, ht1⟩ := h3 e3
          show listR _ = listR _
          rw [solveP_same h d t (dd + 1) ht1]
        · rw [if_neg e3, if_neg e3]
          exact h o n (h4 (by omega))

theorem refR_plain {m : Mo} {l : List Im} {u : Nat} {v : ByteArray} {under : List ByteArray} {o n : ByteArray} (h : (!v.toList.isEmpty && sEq n v) = false) : refR m l u v under o n = refR m l u noneS under o n := by
  have h0 : ¬ (!noneS.toList.isEmpty && sEq n noneS) = true := by simp [noneS]
  cases u with
  | zero =>
    unfold refR
    rw [if_neg (c := (!v.toList.isEmpty && sEq n v) = true) (by rw [h]; simp), if_neg h0]
  | succ u =>
    unfold refR
    rw [if_neg (c := (!v.toList.isEmpty && sEq n v) = true) (by rw [h]; simp), if_neg h0]

theorem refR_star {m : Mo} {l : List Im} {u : Nat} {v : ByteArray} {under : List ByteArray} {o n : ByteArray} (ho : o.toList.isEmpty = true) (h : (!v.toList.isEmpty && sEq n v) = true) : refR m l u v under o n = (starK, 0) := by
  cases u with
  | zero => unfold refR; rw [if_pos ho, if_pos h]
  | succ u => unfold refR; rw [if_pos ho, if_pos h]

theorem refR_imp {m : Mo} {l : List Im} {u : Nat} {v : ByteArray} {under : List ByteArray} {o n : ByteArray} (ho : o.toList.isEmpty = false) : refR m l u v under o n = impR m.uses l o n := by
  cases u <;> (unfold refR; rw [if_neg (by rw [ho]; simp)])

theorem ident_ne {n v : ByteArray} (h : identOk n = true) (hs : sEq n v = true) : v.toList.isEmpty = false := by
  rw [← sEq_eq hs, Lib.toList_data]
  have := ident_size h
  cases hn : n.data.toList with
  | nil =>
    have : n.size = 0 := by
      show n.data.size = 0
      rw [← Array.length_toList, hn]; rfl
    omega
  | cons _ _ => rfl

theorem top_ref {m : Mo} {l : List Im} {u : Nat} {v : ByteArray} {o n : ByteArray} (hn : identOk n = true) : topR v (findR m l u []) o n = refR m l u v [] o n := by
  unfold topR
  cases ho : o.toList.isEmpty with
  | false =>
    rw [if_neg (by simp), find_imp ho, refR_imp ho]
  | true =>
    cases hs : sEq n v with
    | true =>
      rw [if_pos (by rfl), refR_star ho (by rw [ident_ne hn hs, hs]; rfl)]
    | false =>
      rw [if_neg (by simp), refR_plain (by rw [hs]; simp), find_ref m l u [] [] (Meets.start m)]

/-- what alias.Solve tells is what the reference tells. -/
theorem solve_same {m : Mo} {l : List Im} {u : Nat} {v : ByteArray} {t : Ty} (ht : tyFault t 1 = 0) : solveP (topR v (findR m l u [])) 10 t = solveP (refR m l u v []) 10 t :=
  solveP_same (fun _ _ hn => top_ref hn) 10 t 1 ht

end Go.Proofs.Ytkdailcadcfepaf
