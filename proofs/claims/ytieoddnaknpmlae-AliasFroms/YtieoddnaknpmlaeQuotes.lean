/- What token.Quotable and the reference's QuoteMay answer, at every text: whether it has at most 20 bytes, from 32 to 126, no double quote and no backslash. -/
import Derived.Test.YtieoddnaknpmlaeEvery
namespace Go.Proofs.Ytieoddnaknpmlae
open Go.RowKit

def quoteOk (s : ByteArray) : Bool := decide (s.size ≤ 20) && allB (fun j => isQuoteB (byteAt s j)) s.size

theorem quote_long (s : ByteArray) (h : ¬ s.size ≤ 20) : quoteOk s = false := by simp [quoteOk, h]
theorem quote_short (s : ByteArray) (h : s.size ≤ 20) : quoteOk s = allB (fun j => isQuoteB (byteAt s j)) s.size := by simp [quoteOk, h]

theorem isQuoteB_in (b : Int) : isQuoteB b = (isIn b 32 126 && !(b == 34) && !(b == 92)) := by
  simp only [isQuoteB, isIn]
  congr 1
  · congr 1
    by_cases h : b = 34 <;> simp [h]
  · by_cases h : b = 92 <;> simp [h]

set_option maxHeartbeats 400000 in
theorem quoteMay_any (s : ByteArray) (hs : s.size ≤ maxLen) (w : World) : Calls Try.prog 87 #[.string s] w fun e w' => e = .returned (.bool (quoteOk s)) ∧ w = w' := by
  unfold maxLen at hs
  go_enter Try.func87, Try.ntmps87
  go_wp2
  go_loop [3] (fun i => ∃ k : Nat, k ≤ s.size ∧ i = .int .i64 k ∧ ∀ j, j < k → isQuoteB (byteAt s j) = true) (fun i => s.size - (intOf i).toNat)
  case atStart => exact ⟨0, Nat.zero_le _, rfl, fun j h => absurd h (by omega)⟩
  case round =>
    obtain ⟨k, hk, rfl, hall⟩ := hrel
    have HA : Hid (∀ j, j < k → isQuoteB (byteAt s j) = true) := hall
    clear hall
    by_cases hlt : k < s.size
    · have hr := byteAt_range s k
      have hb := byteAt_get s k hlt
      have hbd : 0 ≤ ((s[k]'hlt).toNat : Int) ∧ ((s[k]'hlt).toNat : Int) ≤ 255 := by rw [hb]; exact hr
      have HFin : Hid (isQuoteB ((s[k]'hlt).toNat : Int) = false → quoteOk s = false) := fun h => by
        rw [hb] at h
        simp only [quoteOk, allB_false (p := fun j => isQuoteB (byteAt s j)) hlt h, Bool.and_false]
      have HS : Hid (isQuoteB ((s[k]'hlt).toNat : Int) = true → ∀ j, j < k + 1 → isQuoteB (byteAt s j) = true) := fun h j hj => by
        by_cases e : j = k
        · rw [e, ← hb]; exact h
        · exact HA.out j (by omega)
      clear hb hr
      obtain ⟨hbd1, hbd2⟩ := hbd
      have HI := veil (isQuoteB_in ((s[k]'hlt).toNat : Int))
      cases h1 : isIn ((s[k]'hlt).toNat : Int) 32 126
      · have HF := veil (HFin.out (by rw [HI.out, h1]; rfl))
        go_wp2_with (go_at_call 72; refine (in_any _ _ _ _).mono ?_; rintro e w' ⟨rfl, rfl⟩)
        go_ret
        exact ⟨by rw [HF.out]; rfl, rfl⟩
      · cases h2 : (((s[k]'hlt).toNat : Int) == 34)
        · cases h3 : (((s[k]'hlt).toNat : Int) == 92)
          · have HN := veil (HS.out (by rw [HI.out, h1, h2, h3]; rfl))
            go_wp2_with (go_at_call 72; refine (in_any _ _ _ _).mono ?_; rintro e w' ⟨rfl, rfl⟩)
            go_round
            case rel => exact ⟨k + 1, by omega, by go_num, HN.out⟩
            case measure => simp [intOf]; omega
          · have HF := veil (HFin.out (by rw [HI.out, h1, h2, h3]; rfl))
            go_wp2_with (go_at_call 72; refine (in_any _ _ _ _).mono ?_; rintro e w' ⟨rfl, rfl⟩)
            go_ret
            exact ⟨by rw [HF.out]; rfl, rfl⟩
        · have HF := veil (HFin.out (by rw [HI.out, h1, h2]; rfl))
          go_wp2_with (go_at_call 72; refine (in_any _ _ _ _).mono ?_; rintro e w' ⟨rfl, rfl⟩)
          go_ret
          exact ⟨by rw [HF.out]; rfl, rfl⟩
    · have hks : k = s.size := by omega
      have HQ : Hid (quoteOk s = decide ((s.size : Int) ≤ 20)) := by
        show _ = _
        have h20 : decide (s.size ≤ 20) = decide ((s.size : Int) ≤ 20) := by simp; omega
        rw [quoteOk, (allB_iff _ _).2 (fun j hj => HA.out j (by omega)), h20, Bool.and_true]
      clear hks
      go_wp2
      go_ret
      exact ⟨by rw [HQ.out]; rfl, rfl⟩

end Go.Proofs.Ytieoddnaknpmlae
