/- What token.Word and the reference's WordMay answer, at every text: whether it has 1 to 8 bytes, letters, and behind the first one digits. -/
import Derived.Test.YtedpiamfpbdhoaaEvery
namespace Go.Proofs.Ytedpiamfpbdhoaa
open Go.RowKit

def wordOk (s : ByteArray) : Bool := isIn s.size 1 8 && (isLetter (byteAt s 0) && allB (fun j => isWordB (byteAt s j)) s.size)
def wordAt (s : ByteArray) (j : Nat) : Bool := isIn (byteAt s j) 97 122 || (decide (j ≠ 0) && isIn (byteAt s j) 48 57)

theorem isLetter_in (b : Int) : isIn b 97 122 = isLetter b := rfl
theorem isDigit_in (b : Int) : isIn b 48 57 = isDigit b := rfl

theorem wordOk_ref (s : ByteArray) : (allB (wordAt s) s.size && isIn s.size 1 8) = wordOk s := by
  unfold wordOk
  rw [Bool.and_comm]
  cases h : isIn (s.size : Int) 1 8 with
  | false => simp
  | true =>
    have hn : 0 < s.size := by simp [isIn] at h; omega
    simp only [Bool.true_and]
    rw [Bool.eq_iff_iff, Bool.and_eq_true, allB_iff, allB_iff]
    constructor
    · intro e
      have e0 := e 0 hn
      refine ⟨by simpa [wordAt, isLetter_in] using e0, fun j hj => ?_⟩
      have ej := e j hj
      simp only [wordAt, isLetter_in, isDigit_in, Bool.or_eq_true, Bool.and_eq_true] at ej
      simp only [isWordB, Bool.or_eq_true]
      rcases ej with h | ⟨_, h⟩
      · exact Or.inl h
      · exact Or.inr h
    · rintro ⟨e0, e⟩ j hj
      have ej := e j hj
      simp only [isWordB, Bool.or_eq_true] at ej
      simp only [wordAt, isLetter_in, isDigit_in, Bool.or_eq_true, Bool.and_eq_true, decide_eq_true_eq]
      by_cases hj0 : j = 0
      · subst hj0; exact Or.inl e0
      · rcases ej with h | h
        · exact Or.inl h
        · exact Or.inr ⟨hj0, h⟩

theorem word_long (s : ByteArray) (h : ¬ (1 ≤ s.size ∧ s.size ≤ 8)) : wordOk s = false := by
  have : isIn (s.size : Int) 1 8 = false := by simp [isIn]; omega
  simp [wordOk, this]

set_option maxHeartbeats 400000 in
theorem word_any (s : ByteArray) (hs : s.size ≤ maxLen) (w : World) : Calls Try.prog 29 #[.string s] w fun e w' => e = .returned (.bool (wordOk s)) ∧ Below w.heap.size w w' := by
  have hmax := hs
  unfold maxLen at hs
  by_cases h0 : s.size = 0
  · have hz : (((s.size : Nat) : Int) == 0) = true := by simp [h0]
    have hf := word_long s (by omega)
    have HF : Hid (wordOk s = false) := hf
    clear hf h0
    go_enter Try.func29, Try.ntmps29
    go_wp2
    go_ret
    exact ⟨by rw [HF.out]; rfl, Below.refl _ _⟩
  · have hz : (((s.size : Nat) : Int) == 0) = false := by simp [h0]
    by_cases h8 : 8 < s.size
    · have hf := word_long s (by omega)
      have HF : Hid (wordOk s = false) := hf
      have h8' : (8 : Int) < (s.size : Int) := by omega
      clear hf h0
      go_enter Try.func29, Try.ntmps29
      go_wp2
      go_ret
      exact ⟨by rw [HF.out]; rfl, Below.refl _ _⟩
    · have h8' : ¬ (8 : Int) < (s.size : Int) := by omega
      have hpos : 0 < s.size := by omega
      have hin : isIn (s.size : Int) 1 8 = true := by simp [isIn]; omega
      have hb0 := byteAt_get s 0 hpos
      have HB : Hid (((s[0]'hpos).toNat : Int) = byteAt s 0) := hb0
      have HW : Hid (wordOk s = (isLetter (byteAt s 0) && allB (fun j => isWordB (byteAt s j)) s.size)) := by show _ = _; simp only [wordOk, hin, Bool.true_and]
      clear hb0 hin h0 h8
      cases hl : isLetter ((s[0]'hpos).toNat : Int)
      · have HL : Hid (isLetter ((s[0]'hpos).toNat : Int) = false) := hl
        go_enter Try.func29, Try.ntmps29
        go_wp2_with (go_at_call 34; refine (letter_any _ _).mono ?_; rintro e w' ⟨rfl, rfl⟩)
        go_ret
        exact ⟨by rw [HW.out, ← HB.out, HL.out]; rfl, Below.refl _ _⟩
      · have HL : Hid (isLetter ((s[0]'hpos).toNat : Int) = true) := hl
        go_enter Try.func29, Try.ntmps29
        go_wp2_with (first
          | (go_at_call 34; refine (letter_any _ _).mono ?_; rintro e w' ⟨rfl, rfl⟩)
          | (go_at_call 35; refine (every_pure 36 (enters_of Try.func36 (by kernel_rfl) rfl) isWordB wordByte_any s hmax _).mono ?_; rintro e w' ⟨rfl, rfl⟩))
        go_ret
        exact ⟨by rw [HW.out, ← HB.out, HL.out]; rfl, (Below.refl _ _).alloc (Nat.le_refl _) _⟩

set_option maxHeartbeats 400000 in
theorem wordMay_any (s : ByteArray) (hs : s.size ≤ maxLen) (w : World) : Calls Try.prog 22 #[.string s] w fun e w' => e = .returned (.bool (wordOk s)) ∧ w = w' := by
  unfold maxLen at hs
  have HR : Hid ((allB (wordAt s) s.size && isIn s.size 1 8) = wordOk s) := wordOk_ref s
  go_enter Try.func22, Try.ntmps22
  go_wp2
  go_loop [3] (fun i => ∃ k : Nat, k ≤ s.size ∧ i = .int .i64 k ∧ ∀ j, j < k → wordAt s j = true) (fun i => s.size - (intOf i).toNat)
  case atStart => exact ⟨0, Nat.zero_le _, rfl, fun j h => absurd h (by omega)⟩
  case round =>
    obtain ⟨k, hk, rfl, hall⟩ := hrel
    have HA : Hid (∀ j, j < k → wordAt s j = true) := hall
    clear hall
    by_cases hlt : k < s.size
    · have hr := byteAt_range s k
      have hb := byteAt_get s k hlt
      have hbd : 0 ≤ ((s[k]'hlt).toNat : Int) ∧ ((s[k]'hlt).toNat : Int) ≤ 255 := by rw [hb]; exact hr
      have HB : Hid (((s[k]'hlt).toNat : Int) = byteAt s k) := hb
      clear hb hr
      obtain ⟨hbd1, hbd2⟩ := hbd
      have hfin : wordAt s k = false → wordOk s = false := fun h => by rw [← HR.out, allB_false hlt h]; rfl
      have HFin : Hid (wordAt s k = false → wordOk s = false) := hfin
      have hwa : wordAt s k = (isIn ((s[k]'hlt).toNat : Int) 97 122 || (decide (k ≠ 0) && isIn ((s[k]'hlt).toNat : Int) 48 57)) := by rw [HB.out]; rfl
      have HWA : Hid (wordAt s k = (isIn ((s[k]'hlt).toNat : Int) 97 122 || (decide (k ≠ 0) && isIn ((s[k]'hlt).toNat : Int) 48 57))) := hwa
      clear hfin hwa
      have step : wordAt s k = true → ∀ j, j < k + 1 → wordAt s j = true := fun h j hj => by
        by_cases e : j = k
        · rw [e]; exact h
        · exact HA.out j (by omega)
      have HS : Hid (wordAt s k = true → ∀ j, j < k + 1 → wordAt s j = true) := step
      clear step
      cases h1 : isIn ((s[k]'hlt).toNat : Int) 97 122
      · by_cases hk0 : k = 0
        · have hk1 : ((k : Int) == 0) = true := by simp [hk0]
          have HF : Hid (wordOk s = false) := HFin.out (by rw [HWA.out, h1]; simp [hk0])
          clear hk0
          go_wp2_with (go_at_call 31; refine (in_any _ _ _ _).mono ?_; rintro e w' ⟨rfl, rfl⟩)
          go_ret
          exact ⟨by rw [HF.out]; rfl, rfl⟩
        · have hk1 : ((k : Int) == 0) = false := by simp [hk0]
          cases h2 : isIn ((s[k]'hlt).toNat : Int) 48 57
          · have HF : Hid (wordOk s = false) := HFin.out (by rw [HWA.out, h1, h2]; simp)
            clear hk0
            go_wp2_with (go_at_call 31; refine (in_any _ _ _ _).mono ?_; rintro e w' ⟨rfl, rfl⟩)
            go_ret
            exact ⟨by rw [HF.out]; rfl, rfl⟩
          · have HN := veil (HS.out (by rw [HWA.out, h1, h2]; simp [hk0]))
            clear hk0
            go_wp2_with (go_at_call 31; refine (in_any _ _ _ _).mono ?_; rintro e w' ⟨rfl, rfl⟩)
            go_round
            case rel => exact ⟨k + 1, by omega, by go_num, HN.out⟩
            case measure => simp [intOf]; omega
      · have HN := veil (HS.out (by rw [HWA.out, h1]; simp))
        go_wp2_with (go_at_call 31; refine (in_any _ _ _ _).mono ?_; rintro e w' ⟨rfl, rfl⟩)
        go_round
        case rel => exact ⟨k + 1, by omega, by go_num, HN.out⟩
        case measure => simp [intOf]; omega
    · go_wp2_with (go_at_call 31; refine (in_any _ _ _ _).mono ?_; rintro e w' ⟨rfl, rfl⟩)
      go_ret
      refine ⟨?_, rfl⟩
      have hks : k = s.size := by omega
      subst hks
      rw [← HR.out, (allB_iff _ _).2 HA.out]
      rfl

end Go.Proofs.Ytedpiamfpbdhoaa
