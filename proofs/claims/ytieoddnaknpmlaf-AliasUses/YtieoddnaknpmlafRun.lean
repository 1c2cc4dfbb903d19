/- What the closure of token.runOf answers, at every text, place and function value: the first place from there on whose byte does not fit; and what token.runOf and token.every answer. -/
import Derived.Test.YtieoddnaknpmlafLeaf
namespace Go.Proofs.Ytieoddnaknpmlaf
open Go.RowKit

/-- a function value, asked byte by byte of s from place a on, as long as it says yes: at place k it answers p k; St k: what holds of the world ahead of the question at k. -/
def Steps (g : Nat) (lb : Array Value) (s : ByteArray) (p : Nat → Bool) (St : Nat → World → Prop) (a : Nat) : Prop :=
  ∀ (k : Nat) (h : k < s.size) (W : World), a ≤ k → (∀ j, a ≤ j → j < k → p j = true) → St k W → Calls Try.prog g (#[.int .u8 ((s[k]'h).toNat : Int)] ++ lb) W fun e w' => e = .returned (.bool (p k)) ∧ St (k + 1) w'

def RunTo (p : Nat → Bool) (n a k : Nat) : Prop := a ≤ k ∧ k ≤ n ∧ (∀ j, a ≤ j → j < k → p j = true) ∧ (k < n → p k = false)

end Go.Proofs.Ytieoddnaknpmlaf
