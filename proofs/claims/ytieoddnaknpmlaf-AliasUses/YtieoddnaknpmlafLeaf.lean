/- What the small predicates on bytes of package token, and the reference's 'In', answer, at every byte or number: the plain functions below, the world as it was. -/
import Derived.Test.YtieoddnaknpmlafRows
import Derived.WalkKit
import Derived.WalkLawsBesides
import Derived.Shelf.Abstract
namespace Go.Proofs.Ytieoddnaknpmlaf
open Go.RowKit

/-- a fact that the walk must not take for a rule. -/
theorem veil {p : Prop} (h : p) : Hid p := h

def isLetter (b : Int) : Bool := decide (97 ≤ b) && decide (b ≤ 122)
def isDigit (b : Int) : Bool := decide (48 ≤ b) && decide (b ≤ 57)
def isWordB (b : Int) : Bool := isLetter b || isDigit b
def isQuoteB (b : Int) : Bool := decide (32 ≤ b) && decide (b ≤ 126) && decide (b ≠ 34) && decide (b ≠ 92)
def isIn (n lo hi : Int) : Bool := decide (lo ≤ n) && decide (n ≤ hi)

theorem in_any (n lo hi : Int) (w : World) : Calls Try.prog 52 #[.int .i64 n, .int .i64 lo, .int .i64 hi] w fun e w' => e = .returned (.bool (isIn n lo hi)) ∧ w = w' := by
  by_cases h1 : lo ≤ n <;> by_cases h2 : n ≤ hi
  all_goals
    go_enter Try.func52, Try.ntmps52
    go_wp2
    all_goals first | (exfalso; omega) | (go_ret; exact ⟨by simp [isIn, h1, h2], rfl⟩)

end Go.Proofs.Ytieoddnaknpmlaf
