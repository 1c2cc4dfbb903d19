/- What the five forms of tree.first answer, at every list and at every function value that answers f: the first of f that is not 0. -/
import Derived.Test.YtieoddnaknpmlaeFits
namespace Go.Proofs.Ytieoddnaknpmlae
open Go.RowKit

def StrIs (s : ByteArray) (v : Value) : Prop := v = .string s ∧ s.size ≤ maxLen

end Go.Proofs.Ytieoddnaknpmlae
