/- What token.every answers, at every text and function value: whether each byte fits; then token.Word and token.Quotable, and the reference's WordMay and QuoteMay: plain functions of the text. -/
import Derived.Test.YtieoddnaknpmlafRun
namespace Go.Proofs.Ytieoddnaknpmlaf
open Go.RowKit

def allB (p : Nat → Bool) (n : Nat) : Bool := (List.range n).all p

theorem allB_iff (p : Nat → Bool) (n : Nat) : allB p n = true ↔ ∀ j, j < n → p j = true := by
  simp [allB, List.all_eq_true, List.mem_range]

theorem runTo_all {p : Nat → Bool} {n k : Nat} (h : RunTo p n 0 k) : ((k : Int) == (n : Int)) = allB p n := by
  obtain ⟨_, h2, h3, h4⟩ := h
  rw [Bool.eq_iff_iff, allB_iff, beq_iff_eq]
  constructor
  · intro e j hj
    exact h3 j (Nat.zero_le _) (by omega)
  · intro e
    by_cases hk : k < n
    · have := h4 hk
      rw [e k hk] at this
      cases this
    · omega

theorem allB_false {p : Nat → Bool} {n k : Nat} (hk : k < n) (h : p k = false) : allB p n = false := by
  cases e : allB p n with
  | false => rfl
  | true => rw [allB_iff] at e; rw [e k hk] at h; cases h

theorem allB_congr {p q : Nat → Bool} {n : Nat} (h : ∀ j, j < n → p j = q j) : allB p n = allB q n := by
  rw [Bool.eq_iff_iff, allB_iff, allB_iff]
  constructor
  · intro e j hj; rw [← h j hj]; exact e j hj
  · intro e j hj; rw [h j hj]; exact e j hj

/-- byte j of s, as a number (0 beyond its end). -/
def byteAt (s : ByteArray) (j : Nat) : Int := ((s.data.toList.getD j 0).toNat : Int)

theorem byteAt_get (s : ByteArray) (k : Nat) (h : k < s.size) : ((s[k]'h).toNat : Int) = byteAt s k := by
  unfold byteAt
  have h' : k < s.data.toList.length := by simpa using h
  rw [List.getD_eq_getElem?_getD, List.getElem?_eq_getElem h']
  rfl

theorem byteAt_range (s : ByteArray) (k : Nat) : 0 ≤ byteAt s k ∧ byteAt s k ≤ 255 := by
  unfold byteAt
  have := (s.data.toList.getD k 0).toNat_lt
  omega

end Go.Proofs.Ytieoddnaknpmlaf
