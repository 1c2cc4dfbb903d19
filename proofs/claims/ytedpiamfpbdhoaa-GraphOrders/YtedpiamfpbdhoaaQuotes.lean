/- What token.Quotable and the reference's QuoteMay answer, at every text: whether it has at most 20 bytes, from 32 to 126, no double quote and no backslash. -/
import Derived.Test.YtedpiamfpbdhoaaEvery
namespace Go.Proofs.Ytedpiamfpbdhoaa
open Go.RowKit

def quoteOk (s : ByteArray) : Bool := decide (s.size ≤ 20) && allB (fun j => isQuoteB (byteAt s j)) s.size

theorem quote_long (s : ByteArray) (h : ¬ s.size ≤ 20) : quoteOk s = false := by simp [quoteOk, h]
theorem quote_short (s : ByteArray) (h : s.size ≤ 20) : quoteOk s = allB (fun j => isQuoteB (byteAt s j)) s.size := by simp [quoteOk, h]

theorem isQuoteB_in (b : Int) : isQuoteB b = (isIn b 32 126 && !(b == 34) && !(b == 92)) := by
  simp only [isQuoteB, isIn]
  congr 1
  · congr 1
    by_cases h : b = 34 <;> simp [h]
  · by_cases h : b = 92 <;> simp [h]

end Go.Proofs.Ytedpiamfpbdhoaa
