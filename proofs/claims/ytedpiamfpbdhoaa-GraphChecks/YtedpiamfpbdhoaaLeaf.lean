/- What the small predicates on bytes of package token, and the reference's 'In', answer, at every byte or number: the plain functions below, the world as it was. -/
import Derived.Test.YtedpiamfpbdhoaaProg
import GoSem.PinnedTables
import GoSem.Claim
import GoSem.ClaimJoined
import GoSem.ClaimMapViews
import Derived.JoinedTies
import Derived.KernelRfl
import Derived.RowKit
import Derived.WalkKit
import Derived.WalkLawsBesides
import Derived.Shelf.Abstract
namespace Go.Proofs.Ytedpiamfpbdhoaa
open Go.RowKit

/-- a fact that the walk must not take for a rule. -/
theorem veil {p : Prop} (h : p) : Hid p := h

def isLetter (b : Int) : Bool := decide (97 ≤ b) && decide (b ≤ 122)
def isDigit (b : Int) : Bool := decide (48 ≤ b) && decide (b ≤ 57)
def isWordB (b : Int) : Bool := isLetter b || isDigit b
def isQuoteB (b : Int) : Bool := decide (32 ≤ b) && decide (b ≤ 126) && decide (b ≠ 34) && decide (b ≠ 92)
def isIn (n lo hi : Int) : Bool := decide (lo ≤ n) && decide (n ≤ hi)

theorem letter_any (b : Int) (w : World) : Calls Try.prog 34 #[.int .u8 b] w fun e w' => e = .returned (.bool (isLetter b)) ∧ w = w' := by
  by_cases h1 : 97 ≤ b <;> by_cases h2 : b ≤ 122
  all_goals
    go_enter Try.func34, Try.ntmps34
    go_wp2
    all_goals first | (exfalso; omega) | (go_ret; exact ⟨by simp [isLetter, h1, h2], rfl⟩)

theorem digit_any (b : Int) (w : World) : Calls Try.prog 38 #[.int .u8 b] w fun e w' => e = .returned (.bool (isDigit b)) ∧ w = w' := by
  by_cases h1 : 48 ≤ b <;> by_cases h2 : b ≤ 57
  all_goals
    go_enter Try.func38, Try.ntmps38
    go_wp2
    all_goals first | (exfalso; omega) | (go_ret; exact ⟨by simp [isDigit, h1, h2], rfl⟩)

theorem in_any (n lo hi : Int) (w : World) : Calls Try.prog 31 #[.int .i64 n, .int .i64 lo, .int .i64 hi] w fun e w' => e = .returned (.bool (isIn n lo hi)) ∧ w = w' := by
  by_cases h1 : lo ≤ n <;> by_cases h2 : n ≤ hi
  all_goals
    go_enter Try.func31, Try.ntmps31
    go_wp2
    all_goals first | (exfalso; omega) | (go_ret; exact ⟨by simp [isIn, h1, h2], rfl⟩)

theorem wordByte_any (b : Int) (w : World) : Calls Try.prog 36 #[.int .u8 b] w fun e w' => e = .returned (.bool (isWordB b)) ∧ w = w' := by
  by_cases h1 : isLetter b = true
  · go_enter Try.func36, Try.ntmps36
    go_wp2_with (go_at_call 34; refine (letter_any _ _).mono ?_; rintro e w' ⟨rfl, rfl⟩)
    go_ret
    exact ⟨by simp [isWordB, h1], rfl⟩
  · have h1' : isLetter b = false := by simpa using h1
    go_enter Try.func36, Try.ntmps36
    go_wp2_with (first | (go_at_call 34; refine (letter_any _ _).mono ?_; rintro e w' ⟨rfl, rfl⟩) | (go_at_call 38; refine (digit_any _ _).mono ?_; rintro e w' ⟨rfl, rfl⟩))
    go_ret
    exact ⟨by simp [isWordB, h1'], rfl⟩

end Go.Proofs.Ytedpiamfpbdhoaa
