/- What the reference's FaceFault answers: the first thing that is wrong with a face. -/
import Derived.Test.YtedpiamfpbdhoaaFaceCheck
import Derived.Test.YtedpiamfpbdhoaaFaceRef
import Derived.BigQuiet
import Derived.Deep.QuietTactic
namespace Go.Proofs.Ytedpiamfpbdhoaa
open Go.RowKit

theorem ident_size {s : ByteArray} (h : identOk s = true) : 0 < s.size := by
  have h1 : wordOk s = true := by
    unfold identOk at h
    simp only [Bool.and_eq_true] at h
    exact h.1
  by_cases hs : 1 ≤ s.size ∧ s.size ≤ 8
  · omega
  · rw [word_long s hs] at h1
    cases h1

theorem gt_empty {s : ByteArray} (h : identOk s = true) : gtB s ⟨#[]⟩ = true := by
  have hz := ident_size h
  have h0 : s.toList ≠ [] := by
    rw [Lib.toList_data]
    intro e
    have h1 := congrArg List.length e
    rw [Array.length_toList] at h1
    have h2 : s.size = 0 := h1
    omega
  have he : (⟨#[]⟩ : ByteArray).toList = [] := by rw [Lib.toList_data]
  unfold gtB
  rw [he]
  cases hs : s.toList with
  | nil => exact absurd hs h0
  | cons a r => rfl

def leB (s p : ByteArray) : Bool := Op.bytesLess s.toList p.toList || s.toList == p.toList
theorem gt_not_le (s p : ByteArray) : gtB s p = !leB s p := by unfold gtB leB; rw [Bool.not_or]

theorem kn_ident {k : Kn} (h : knOk k = true) : identOk k.name = true := by
  unfold knOk at h
  simp only [Bool.and_eq_true] at h
  exact h.1
theorem sg_ident {g : Sg} (h : sgOk g = true) : identOk g.name = true := by
  unfold sgOk at h
  simp only [Bool.and_eq_true] at h
  exact h.1

/-- the name ahead of the j-th. -/
def aheadOf {α : Type} (name : α → ByteArray) (l : List α) (j : Nat) : ByteArray := if j = 0 then ⟨#[]⟩ else ((l[j - 1]?).map name).getD ⟨#[]⟩

theorem ahead_zero {α : Type} {name : α → ByteArray} {l : List α} : aheadOf name l 0 = ⟨#[]⟩ := rfl
theorem ahead_succ {α : Type} {name : α → ByteArray} {l : List α} {j : Nat} (h : j < l.length) : aheadOf name l (j + 1) = name l[j] := by
  unfold aheadOf
  rw [if_neg (by omega), Nat.add_sub_cancel, List.getElem?_eq_getElem h]
  rfl
theorem ahead_prev {α : Type} {name : α → ByteArray} {l : List α} {j : Nat} (h0 : 0 < j) (h : j < l.length) : aheadOf name l j = name (l[j - 1]'(by omega)) := by
  unfold aheadOf
  rw [if_neg (by omega), List.getElem?_eq_getElem (by omega)]
  rfl

theorem below_drewN {B : Nat} {a w : World} (h : Below B a w) (n : Nat) : Below B a (w.drewN n) := ⟨h.os, h.tape, h.output, h.size, h.block⟩

theorem bad4_ne : bad4 false ≠ 0 := by decide

end Go.Proofs.Ytedpiamfpbdhoaa
