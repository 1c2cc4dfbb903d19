/- What token.checkOne answers at every token, and token.Check and the reference's TokensFault at every list of tokens: the first fault, by the plain functions below. -/
import Derived.Test.YtpamadnckijfkabGreatDoorWords
import Derived.Test.YtpamadnckijfkabGreatDoorQuotes
import Derived.Test.YtpamadnckijfkabGreatDoorNums
import Derived.Test.YtpamadnckijfkabGreatDoorSigns
namespace Go.Proofs.YtpamadnckijfkabGreatDoor
open Go.RowKit
set_option maxRecDepth 100000

def tokOk (k : Int) (t : ByteArray) : Bool := if k = 1 then wordOk t else if k = 2 then numOk t else if k = 3 then quoteOk t else signOk t
def tokFault (k : Int) (t : ByteArray) : Int := if 1 ≤ k ∧ k ≤ 4 then (if tokOk k t = true then 0 else 4) else 3

set_option maxHeartbeats 1000000 in
theorem checkOne_any (k : Int) (t : ByteArray) (ht : t.size ≤ maxLen) (w : World) :
    Calls Tryz.prog 64 #[.agg #[.int .i64 k, .string t]] w fun e w' => e = .returned (.int .i64 (tokFault k t)) ∧ Below w.heap.size w w' := by
  have hb0 : Below w.heap.size w (w.alloc (.cells #[.int .i64 k, .string t] 90)) := (Below.refl _ _).alloc (Nat.le_refl _) _
  have HB := veil hb0
  clear hb0
  by_cases h1 : k = 1
  · subst h1
    cases h : wordOk t
    all_goals
      have HF := veil (show tokFault 1 t = _ by simp [tokFault, tokOk, h]; rfl)
      go_enter Tryz.func64, Tryz.ntmps64
      go_wp2_with (go_at_call 101; refine (word_any t ht _).mono ?_; rintro e w' ⟨rfl, hb⟩)
      go_ret
      exact ⟨by rw [HF.out]; rfl, HB.out.trans (hb.mono (by simp))⟩
  by_cases h2 : k = 2
  · subst h2
    cases h : numOk t
    all_goals
      have HF := veil (show tokFault 2 t = _ by simp [tokFault, tokOk, h]; rfl)
      go_enter Tryz.func64, Tryz.ntmps64
      go_wp2_with (go_at_call 102; refine (number_any t ht _).mono ?_; rintro e w' ⟨rfl, hb⟩)
      go_ret
      exact ⟨by rw [HF.out]; rfl, HB.out.trans (hb.mono (by simp))⟩
  by_cases h3 : k = 3
  · subst h3
    cases h : quoteOk t
    all_goals
      have HF := veil (show tokFault 3 t = _ by simp [tokFault, tokOk, h]; rfl)
      go_enter Tryz.func64, Tryz.ntmps64
      go_wp2_with (go_at_call 103; refine (quotable_any t ht _).mono ?_; rintro e w' ⟨rfl, hb⟩)
      go_ret
      exact ⟨by rw [HF.out]; rfl, HB.out.trans (hb.mono (by simp))⟩
  by_cases h4 : k = 4
  · subst h4
    cases h : signOk t
    all_goals
      have HF := veil (show tokFault 4 t = _ by simp [tokFault, tokOk, h]; rfl)
      go_enter Tryz.func64, Tryz.ntmps64
      go_wp2_with (go_at_call 104; refine (sign_any t _).mono ?_; rintro e w' ⟨rfl, rfl⟩)
      go_ret
      exact ⟨by rw [HF.out]; rfl, HB.out⟩
  · have HF := veil (show tokFault k t = 3 by simp [tokFault]; omega)
    have h1' : (k == 1) = false := beq_eq_false_iff_ne.2 h1
    have h2' : (k == 2) = false := beq_eq_false_iff_ne.2 h2
    have h3' : (k == 3) = false := beq_eq_false_iff_ne.2 h3
    have h4' : (k == 4) = false := beq_eq_false_iff_ne.2 h4
    clear h1 h2 h3 h4
    go_enter Tryz.func64, Tryz.ntmps64
    go_wp2
    go_ret
    exact ⟨by rw [HF.out]; rfl, HB.out⟩

end Go.Proofs.YtpamadnckijfkabGreatDoor
