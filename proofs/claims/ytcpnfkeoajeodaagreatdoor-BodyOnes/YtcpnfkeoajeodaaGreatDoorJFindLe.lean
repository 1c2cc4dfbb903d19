/- The first such one lies no further than any such one. -/
import Derived.Test.YtcpnfkeoajeodaaGreatDoorJFa
namespace Go.Proofs.YtcpnfkeoajeodaaGreatDoor
open Go.RowKit
set_option maxRecDepth 100000

theorem find_le {α : Type} {p : α → Bool} : ∀ {l : List α} {k : Nat} (h : k < l.length), p l[k] = true → findAt p l ≤ k
  | x :: r, 0, _, h => by
    rw [findAt, if_pos (by simpa using h)]; exact Nat.le_refl _
  | x :: r, k + 1, hk, h => by
    rw [findAt]
    split
    · exact Nat.zero_le _
    · have := find_le (l := r) (k := k) (by simpa using hk) (by simpa using h)
      omega

end Go.Proofs.YtcpnfkeoajeodaaGreatDoor
