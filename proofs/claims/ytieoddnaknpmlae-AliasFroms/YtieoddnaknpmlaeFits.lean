/- What tree.emptyOrIdent, typeFits, namesFit and countFits answer, at every type and expression: plain functions of their fields. -/
import Derived.Test.YtieoddnaknpmlaeIdent
namespace Go.Proofs.Ytieoddnaknpmlae
open Go.RowKit

theorem len_eq (a b : Nat) : ((a : Int) == (b : Int)) = (a == b) := by
  rw [Bool.eq_iff_iff, beq_iff_eq, beq_iff_eq]; omega

end Go.Proofs.Ytieoddnaknpmlae
