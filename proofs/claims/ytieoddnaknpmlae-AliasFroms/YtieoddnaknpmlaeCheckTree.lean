/- What tree.checkField, checkFunc and Check answer, at every field, function and module: the first fault. -/
import Derived.Test.YtieoddnaknpmlaeFaultX
namespace Go.Proofs.Ytieoddnaknpmlae
open Go.RowKit

theorem fdIs_first {S : Nat → Prop} {w W : World} (hS : ∀ b, S b → b < w.heap.size) (hb : Below w.heap.size w W) : ∀ b, S b → b < W.heap.size := fun b h => Nat.lt_of_lt_of_le (hS b h) hb.size

end Go.Proofs.Ytieoddnaknpmlae
