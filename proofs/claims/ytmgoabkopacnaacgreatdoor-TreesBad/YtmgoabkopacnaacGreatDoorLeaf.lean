/- What the small predicates on bytes of package token, and the reference's 'In', answer, at every byte or number: the plain functions below, the world as it was. -/
import Derived.Test.YtmgoabkopacnaacGreatDoorRows
import Derived.WalkKit
import Derived.WalkLawsBesides
import Derived.Shelf.Abstract
namespace Go.Proofs.YtmgoabkopacnaacGreatDoor
open Go.RowKit
set_option maxRecDepth 100000

/-- a fact that the walk must not take for a rule. -/
theorem veil {p : Prop} (h : p) : Hid p := h

def isLetter (b : Int) : Bool := decide (97 ≤ b) && decide (b ≤ 122)
def isDigit (b : Int) : Bool := decide (48 ≤ b) && decide (b ≤ 57)
def isWordB (b : Int) : Bool := isLetter b || isDigit b
def isQuoteB (b : Int) : Bool := decide (32 ≤ b) && decide (b ≤ 126) && decide (b ≠ 34) && decide (b ≠ 92)
def isIn (n lo hi : Int) : Bool := decide (lo ≤ n) && decide (n ≤ hi)

theorem letter_any (b : Int) (w : World) : Calls Tryz.prog 67 #[.int .u8 b] w fun e w' => e = .returned (.bool (isLetter b)) ∧ w = w' := by
  by_cases h1 : 97 ≤ b <;> by_cases h2 : b ≤ 122
  all_goals
    go_enter Tryz.func67, Tryz.ntmps67
    go_wp2
    all_goals first | (exfalso; omega) | (go_ret; exact ⟨by simp [isLetter, h1, h2], rfl⟩)

theorem digit_any (b : Int) (w : World) : Calls Tryz.prog 69 #[.int .u8 b] w fun e w' => e = .returned (.bool (isDigit b)) ∧ w = w' := by
  by_cases h1 : 48 ≤ b <;> by_cases h2 : b ≤ 57
  all_goals
    go_enter Tryz.func69, Tryz.ntmps69
    go_wp2
    all_goals first | (exfalso; omega) | (go_ret; exact ⟨by simp [isDigit, h1, h2], rfl⟩)

theorem blank_any (b : Int) (w : World) : Calls Tryz.prog 40 #[.int .u8 b] w fun e w' => e = .returned (.bool (b == 32)) ∧ w = w' := by
  go_enter Tryz.func40, Tryz.ntmps40
  go_wp2
  go_ret
  exact ⟨rfl, rfl⟩

theorem wordByte_any (b : Int) (w : World) : Calls Tryz.prog 68 #[.int .u8 b] w fun e w' => e = .returned (.bool (isWordB b)) ∧ w = w' := by
  by_cases h1 : isLetter b = true
  · go_enter Tryz.func68, Tryz.ntmps68
    go_wp2_with (go_at_call 67; refine (letter_any _ _).mono ?_; rintro e w' ⟨rfl, rfl⟩)
    go_ret
    exact ⟨by simp [isWordB, h1], rfl⟩
  · have h1' : isLetter b = false := by simpa using h1
    go_enter Tryz.func68, Tryz.ntmps68
    go_wp2_with (first | (go_at_call 67; refine (letter_any _ _).mono ?_; rintro e w' ⟨rfl, rfl⟩) | (go_at_call 69; refine (digit_any _ _).mono ?_; rintro e w' ⟨rfl, rfl⟩))
    go_ret
    exact ⟨by simp [isWordB, h1'], rfl⟩

theorem quoteByte_any (b : Int) (w : World) : Calls Tryz.prog 97 #[.int .u8 b] w fun e w' => e = .returned (.bool (isQuoteB b)) ∧ w = w' := by
  by_cases h1 : 32 ≤ b <;> by_cases h2 : b ≤ 126 <;> by_cases h3 : b = 34 <;> by_cases h4 : b = 92
  all_goals
    try subst h3
    try subst h4
    first
    | (exfalso; omega)
    | (go_enter Tryz.func97, Tryz.ntmps97
       go_wp2
       all_goals first | (exfalso; omega) | (go_ret; exact ⟨by simp_all [isQuoteB], rfl⟩))

end Go.Proofs.YtmgoabkopacnaacGreatDoor
