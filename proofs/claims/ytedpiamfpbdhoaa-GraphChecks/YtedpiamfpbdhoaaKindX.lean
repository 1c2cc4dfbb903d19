/- What kind.Elem and kind.Open, and the reference's IsOpen, answer: of what a list is (a copy), whether a text has a variable. -/
import Derived.Test.YtedpiamfpbdhoaaKind
import Derived.Test.YtedpiamfpbdhoaaShelf
import Derived.Lib.IndexLaws
namespace Go.Proofs.Ytedpiamfpbdhoaa
open Go.RowKit

theorem clone_kind (s : ByteArray) (w : World) (h : s.size ≤ 281474976710656) :
    Calls Try.prog 28 #[.string s] w fun e w' => e = .returned (.string s) ∧ Below w.heap.size w w' := by
  go_enter Try.func28, Try.ntmps28
  go_wp2_with (go_at_call 33; refine (Try.stringslite_Clone s _ h).mono ?_; rintro e w' ⟨rfl, hb⟩)
  go_ret
  exact ⟨rfl, hb⟩

/-- has a text the variable's sign? -/
def hasVar (s : ByteArray) : Bool := s.data.toList.contains 42

theorem index_has (l : List UInt8) : decide (0 ≤ Lib.indexByte l 42) = l.contains 42 := by
  cases h : l.contains 42 with
  | true =>
    rw [List.contains_iff_mem] at h
    obtain ⟨k, hk⟩ := List.getElem?_of_mem h
    have h1 := Lib.indexByte_ge l 42
    have h2 : Lib.indexByte l 42 ≠ -1 := fun e => Lib.indexByte_none e k hk
    simp; omega
  | false =>
    have h1 := Lib.indexByte_ge l 42
    simp only [decide_eq_false_iff_not]
    intro h0
    obtain ⟨o, ho⟩ := Int.eq_ofNat_of_zero_le h0
    have := (Lib.indexByte_some ho).1
    have hm := List.mem_of_getElem? this
    rw [← List.contains_iff_mem, h] at hm
    cases hm

end Go.Proofs.Ytedpiamfpbdhoaa
