/- What slices.IndexFunc answers at a list of types, or functions, with the closure that asks for a name: the place of the first that bears it, or -1. -/
import Derived.Test.YtedpiamfpbdhoaaFaceRead
import Derived.Test.YtedpiamfpbdhoaaFaceSame
namespace Go.Proofs.Ytedpiamfpbdhoaa
open Go.RowKit

/-- the place of the first such one; behind all, where there is none. -/
def findAt {α : Type} (p : α → Bool) : List α → Nat
  | [] => 0
  | x :: r => if p x = true then 0 else findAt p r + 1

theorem find_yes {α : Type} {p : α → Bool} {l : List α} {k : Nat} (hk : k < l.length) (h : p l[k] = true) : findAt p (l.drop k) = 0 := by
  rw [List.drop_eq_getElem_cons hk, findAt, if_pos h]
theorem find_no {α : Type} {p : α → Bool} {l : List α} {k : Nat} (hk : k < l.length) (h : p l[k] = false) : findAt p (l.drop k) = findAt p (l.drop (k + 1)) + 1 := by
  rw [List.drop_eq_getElem_cons hk, findAt, if_neg (by rw [h]; simp)]
theorem find_end {α : Type} {p : α → Bool} {l : List α} {k : Nat} (hk : l.length ≤ k) : findAt p (l.drop k) = 0 := by
  rw [List.drop_eq_nil_of_le hk, findAt]

def idxOf {α : Type} (p : α → Bool) (l : List α) : Int := if findAt p l < l.length then (findAt p l : Int) else -1

end Go.Proofs.Ytedpiamfpbdhoaa
