/- What token.Quotable and the reference's QuoteMay answer, at every text: whether it has at most 20 bytes, from 32 to 126, no double quote and no backslash. -/
import Derived.Test.YtmgoabkopacnaacGreatDoorEvery
namespace Go.Proofs.YtmgoabkopacnaacGreatDoor
open Go.RowKit
set_option maxRecDepth 100000

def quoteOk (s : ByteArray) : Bool := decide (s.size ≤ 20) && allB (fun j => isQuoteB (byteAt s j)) s.size

theorem quote_long (s : ByteArray) (h : ¬ s.size ≤ 20) : quoteOk s = false := by simp [quoteOk, h]
theorem quote_short (s : ByteArray) (h : s.size ≤ 20) : quoteOk s = allB (fun j => isQuoteB (byteAt s j)) s.size := by simp [quoteOk, h]

set_option maxHeartbeats 400000 in
theorem quotable_any (s : ByteArray) (hs : s.size ≤ maxLen) (w : World) : Calls Tryz.prog 72 #[.string s] w fun e w' => e = .returned (.bool (quoteOk s)) ∧ Below w.heap.size w w' := by
  have hmax := hs
  unfold maxLen at hs
  by_cases h : s.size ≤ 20
  · have h' : (s.size : Int) ≤ 20 := by omega
    have HQ := veil (quote_short s h)
    clear h
    go_enter Tryz.func72, Tryz.ntmps72
    go_wp2_with (go_at_call 95; refine (every_pure 97 (enters_of Tryz.func97 (by kernel_rfl) rfl) isQuoteB quoteByte_any s hmax _).mono ?_; rintro e w' ⟨rfl, rfl⟩)
    go_ret
    exact ⟨by rw [HQ.out]; rfl, (Below.refl _ _).alloc (Nat.le_refl _) _⟩
  · have h' : ¬ (s.size : Int) ≤ 20 := by omega
    have HQ := veil (quote_long s h)
    clear h
    go_enter Tryz.func72, Tryz.ntmps72
    go_wp2
    go_ret
    exact ⟨by rw [HQ.out]; rfl, Below.refl _ _⟩

theorem isQuoteB_in (b : Int) : isQuoteB b = (isIn b 32 126 && !(b == 34) && !(b == 92)) := by
  simp only [isQuoteB, isIn]
  congr 1
  · congr 1
    by_cases h : b = 34 <;> simp [h]
  · by_cases h : b = 92 <;> simp [h]

end Go.Proofs.YtmgoabkopacnaacGreatDoor
