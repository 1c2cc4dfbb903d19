/- What tree.checkExpr answers, at every expression and at every depth: the first fault. -/
import Derived.Test.YtieoddnaknpmlaeFaults
namespace Go.Proofs.Ytieoddnaknpmlae
open Go.RowKit

theorem bcell {W w1 : World} (hb : Below W.heap.size W w1) : ∀ b o, b < W.heap.size → w1.cell? ⟨b, o, none⟩ = W.cell? ⟨b, o, none⟩ := fun b o h => hb.cell (p := ⟨b, o, none⟩) h

end Go.Proofs.Ytieoddnaknpmlae
