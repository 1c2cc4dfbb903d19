/- What the closure of token.runOf answers, at every text, place and function value: the first place from there on whose byte does not fit; and what token.runOf and token.every answer. -/
import Derived.Test.YtedpiamfpbdhoaaLeaf
namespace Go.Proofs.Ytedpiamfpbdhoaa
open Go.RowKit

/-- a function value, asked byte by byte of s from place a on, as long as it says yes: at place k it answers p k; St k: what holds of the world ahead of the question at k. -/
def Steps (g : Nat) (lb : Array Value) (s : ByteArray) (p : Nat → Bool) (St : Nat → World → Prop) (a : Nat) : Prop :=
  ∀ (k : Nat) (h : k < s.size) (W : World), a ≤ k → (∀ j, a ≤ j → j < k → p j = true) → St k W → Calls Try.prog g (#[.int .u8 ((s[k]'h).toNat : Int)] ++ lb) W fun e w' => e = .returned (.bool (p k)) ∧ St (k + 1) w'

def RunTo (p : Nat → Bool) (n a k : Nat) : Prop := a ≤ k ∧ k ≤ n ∧ (∀ j, a ≤ j → j < k → p j = true) ∧ (k < n → p k = false)

set_option maxHeartbeats 1000000 in
theorem run_any (g : Nat) (lb : Array Value) (eg : ∀ args w, (callFunc g args).run Try.prog w = .ok (.enter g args) w) (s : ByteArray) (hs : s.size ≤ maxLen) (p : Nat → Bool) (St : Nat → World → Prop)
    (B : Nat) (hSt : ∀ k W, St k W → W.cell? ⟨B, 0, none⟩ = some (.string s)) (a : Int) (hp : Steps g lb s p St a.toNat) (h0 : 0 ≤ a) (h1 : a ≤ s.size) (w : World) (hw : St a.toNat w) :
    Calls Try.prog 39 #[.int .i64 a, .func (.func g) #[] lb, .pointer (some ⟨B, 0, none⟩)] w fun e w' => ∃ k : Nat, e = .returned (.int .i64 k) ∧ RunTo p s.size a.toNat k ∧ ∃ j, St j w' := by
  unfold maxLen at hs
  obtain ⟨a, rfl⟩ := Int.eq_ofNat_of_zero_le h0
  rw [Int.toNat_natCast] at hw hp ⊢
  have HP : Hid (Steps g lb s p St a) := hp
  clear hp
  go_enter Try.func39, Try.ntmps39
  go_wp2
  go_loopw [6] (fun i wr => ∃ k : Nat, a ≤ k ∧ k ≤ s.size ∧ i = .int .i64 k ∧ (∀ j, a ≤ j → j < k → p j = true) ∧ St k wr) (fun i _ => s.size - (intOf i).toNat)
  case atStart => exact ⟨a, Nat.le_refl _, by omega, rfl, fun j h1 h2 => absurd h2 (by omega), hw⟩
  case round =>
    obtain ⟨k, hk0, hk, rfl, hall, hst⟩ := hrel
    have hc := hSt k wr hst
    clear hSt
    by_cases hlt : k < s.size
    · have cS := HP.out k hlt wr hk0 hall hst
      clear HP
      cases hpk : p k
      · rw [hpk] at cS
        have HA : Hid (∀ j, a ≤ j → j < k → p j = true) := hall
        have HPK : Hid (p k = false) := hpk
        clear hall hpk
        go_wp2_with (go_at_fn g; refine cS.mono ?_; rintro e w' ⟨rfl, hst'⟩)
        go_ret
        exact ⟨k, rfl, ⟨hk0, hk, HA.out, fun _ => HPK.out⟩, k + 1, hst'⟩
      · rw [hpk] at cS
        have HA : Hid (∀ j, a ≤ j → j < k → p j = true) := hall
        have HPK : Hid (p k = true) := hpk
        clear hall hpk
        go_wp2_with (go_at_fn g; refine cS.mono ?_; rintro e w' ⟨rfl, hst'⟩)
        go_roundw
        case rel => exact ⟨k + 1, by omega, by omega, by go_num, fun j h1 h2 => by
          by_cases e : j = k
          · rw [e]; exact HPK.out
          · exact HA.out j h1 (by omega), hst'⟩
        case measure => simp [intOf]; omega
    · have HA : Hid (∀ j, a ≤ j → j < k → p j = true) := hall
      clear hall HP
      go_wp2
      go_ret
      exact ⟨k, rfl, ⟨hk0, hk, HA.out, fun h => absurd h hlt⟩, k, hst⟩

theorem runOf_any (s : ByteArray) (w : World) :
    Calls Try.prog 37 #[.string s] w fun e w' => e = .returned (.func (.func 39) #[] #[.pointer (some ⟨w.heap.size, 0, none⟩)]) ∧ w.alloc (.cells #[.string s] 9) = w' := by
  have hmf : ∀ (fn : Fn) (first cap : Array Value) (w : World), (Instr.makeFunc fn first cap).run Try.prog w = .ok (.func fn first cap) w := fun _ _ _ _ => rfl
  go_enter Try.func37, Try.ntmps37
  go_wp2
  go_ret
  exact ⟨rfl, rfl⟩

end Go.Proofs.Ytedpiamfpbdhoaa
