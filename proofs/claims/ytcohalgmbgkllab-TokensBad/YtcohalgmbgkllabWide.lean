/- Plain facts: a text with blanks ahead is cut as the text itself; what an answer of token.Cut without an error says. -/
import Derived.Test.YtcohalgmbgkllabBackSpec
namespace Go.Proofs.Ytcohalgmbgkllab
open Go.RowKit

theorem getD_shift (B S : List UInt8) (i : Nat) : (B ++ S).getD (B.length + i) 0 = S.getD i 0 := by
  simp [List.getD_eq_getElem?_getD, List.getElem?_append_right]

theorem size_shift {T s : ByteArray} {B : List UInt8} (hT : T.data.toList = B ++ s.data.toList) : T.size = B.length + s.size := by rw [Lib.size_eq, hT, Lib.size_eq]; simp
theorem byteAt_shift {T s : ByteArray} {B : List UInt8} (hT : T.data.toList = B ++ s.data.toList) (i : Nat) : byteAt T (B.length + i) = byteAt s i := by rw [byteAt_list hT, getD_shift]; rfl
theorem extract_shift {T s : ByteArray} {B : List UInt8} (hT : T.data.toList = B ++ s.data.toList) (a b : Nat) : T.extract (B.length + a) (B.length + b) = s.extract a b := by
  apply ba_ext
  rw [Lib.extract_data, Lib.extract_data, hT, show B.length + b - (B.length + a) = b - a by omega, List.drop_append, List.drop_eq_nil_of_le (by omega), List.nil_append, show B.length + a - B.length = a by omega]

theorem runEnd_shift {T s : ByteArray} {B : List UInt8} (hT : T.data.toList = B ++ s.data.toList) (p : Int → Bool) (i : Nat) (hi : i ≤ s.size) : runEnd p T (B.length + i) = B.length + runEnd p s i := by
  obtain ⟨h1, h2, h3, h4⟩ := runEnd_spec p s i hi
  have hs := size_shift hT
  refine (runTo_eq (by omega) ⟨by omega, by omega, fun j g1 g2 => ?_, fun h => ?_⟩).symm
  · show p (byteAt T j) = true
    rw [show j = B.length + (j - B.length) by omega, byteAt_shift hT]
    exact h3 _ (by omega) (by omega)
  · show p (byteAt T (B.length + runEnd p s i)) = false
    rw [byteAt_shift hT]
    exact h4 (by omega)

theorem nextTok_shift {T s : ByteArray} {B : List UInt8} (hT : T.data.toList = B ++ s.data.toList) (i : Nat) (hi : i < s.size) : nextTok T (B.length + i) = (nextTok s i).map fun te => (te.1, B.length + te.2) := by
  have hs := size_shift hT
  have hq := runEnd_shift hT notQuote (i + 1) (by omega)
  have hw := runEnd_shift hT isWordB i (by omega)
  rw [← Nat.add_assoc] at hq
  unfold nextTok
  rw [byteAt_shift hT, hq, hw, hs]
  by_cases h34 : byteAt s i = 34
  · rw [if_pos h34, if_pos h34]
    by_cases he : runEnd notQuote s (i + 1) = s.size
    · rw [if_pos he, if_pos (by omega)]; rfl
    · rw [if_neg he, if_neg (by omega), Nat.add_assoc, extract_shift hT]; rfl
  · rw [if_neg h34, if_neg h34]
    by_cases hl : isLetter (byteAt s i) = true
    · rw [if_pos hl, if_pos hl, extract_shift hT]; rfl
    · rw [if_neg hl, if_neg hl]
      by_cases hd : isDigit (byteAt s i) = true
      · rw [if_pos hd, if_pos hd, extract_shift hT]; rfl
      · rw [if_neg hd, if_neg hd, Nat.add_assoc, extract_shift hT]; rfl

theorem cutF_shift {T s : ByteArray} {B : List UInt8} (hT : T.data.toList = B ++ s.data.toList) : ∀ (f i : Nat), cutF T f (B.length + i) = cutF s f i
  | 0, _ => rfl
  | f + 1, i => by
    have hs := size_shift hT
    unfold cutF
    by_cases hi : i < s.size
    · rw [if_pos hi, if_pos (by omega), byteAt_shift hT]
      by_cases hb : byteAt s i = 32
      · rw [if_pos hb, if_pos hb, Nat.add_assoc]
        exact cutF_shift hT f (i + 1)
      · rw [if_neg hb, if_neg hb, nextTok_shift hT i hi]
        cases hn : nextTok s i with
        | none => rfl
        | some te =>
          obtain ⟨t, e⟩ := te
          show (if faultOf t = 0 then (cutF T f (B.length + e)).map (t :: ·) else none) = (if faultOf t = 0 then (cutF s f e).map (t :: ·) else none)
          rw [cutF_shift hT f e]
    · rw [if_neg hi, if_neg (by omega)]

theorem cut_wide {T s : ByteArray} {B : List UInt8} (hT : T.data.toList = B ++ s.data.toList) (hB : ∀ i, i < B.length → B.getD i 0 = 32) : cutAt T 0 = cutAt s 0 := by
  have hs := size_shift hT
  rw [cutAt_skip (k := B.length) B.length 0 (by omega) (by omega) fun j _ h2 => by
    rw [byteAt_list hT]
    have e : (B ++ s.data.toList).getD j 0 = B.getD j 0 := by simp [List.getD_eq_getElem?_getD, List.getElem?_append_left h2]
    rw [e, hB j h2]
    rfl]
  have h := cutF_shift hT (T.size - B.length) 0
  unfold cutAt
  rw [show B.length = B.length + 0 from rfl] at *
  rw [h, show T.size - (B.length + 0) = s.size by omega]
  rfl

theorem cut_ok {s : ByteArray} (h : cutErr s = 0) : s.size ≤ 1500 ∧ cutAt s 0 = some (cutToks s) ∧ (cutToks s).length ≤ 200 ∧ (∀ t ∈ cutToks s, faultOf t = 0) := by
  unfold cutErr at h
  split at h
  · omega
  · rename_i hs
    cases hc : cutAt s 0 with
    | none => rw [hc] at h; simp at h
    | some l =>
      rw [hc] at h
      simp only at h
      split at h
      · omega
      · rename_i hl
        have e : cutToks s = l := by unfold cutToks; rw [if_neg hs, hc]; exact if_neg hl
        rw [e]
        exact ⟨by omega, rfl, by omega, cutF_valid s _ _ l hc⟩

theorem cut_bad {s : ByteArray} (h : cutErr s ≠ 0) : cutToks s = [] := by
  unfold cutErr at h
  unfold cutToks
  split
  · rfl
  · rename_i hs
    rw [if_neg hs] at h
    cases hc : cutAt s 0 with
    | none => rfl
    | some l =>
      rw [hc] at h
      simp only at h ⊢
      split
      · rfl
      · rename_i hl
        rw [if_neg hl] at h
        exact absurd rfl h

theorem cut_mk {s : ByteArray} {l : List (Int × ByteArray)} (hs : s.size ≤ 1500) (hc : cutAt s 0 = some l) (hl : l.length ≤ 200) : cutErr s = 0 ∧ cutToks s = l := by
  unfold cutErr cutToks
  rw [if_neg (by omega), if_neg (by omega), hc]
  exact ⟨if_neg (by omega), if_neg (by omega)⟩

theorem repeat_blanks : ∀ c i, i < (Lib.repeatL [32] c).length → (Lib.repeatL [32] c).getD i 0 = 32
  | 0, i, h => by simp [Lib.repeatL] at h
  | c + 1, i, h => by
    cases i with
    | zero => simp [Lib.repeatL]
    | succ i => simpa [Lib.repeatL] using repeat_blanks c i (by simpa [Lib.repeatL] using h)
theorem repeat_length : ∀ c, (Lib.repeatL [32] c).length = c
  | 0 => by simp [Lib.repeatL]
  | c + 1 => by simp [Lib.repeatL, repeat_length c]

theorem cut_three : (cutToks (ByteArray.mk #[97, 44, 32, 98])).length = 3 := by decide +kernel

end Go.Proofs.Ytcohalgmbgkllab
