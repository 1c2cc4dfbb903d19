/- What face.isKind, typeName, funcName, checkType, checkFunc, rising and its closure answer. -/
import Derived.Test.YtedpiamfpbdhoaaFace
import Derived.Test.YtedpiamfpbdhoaaIdent
import Derived.Test.YtedpiamfpbdhoaaKindX
namespace Go.Proofs.Ytedpiamfpbdhoaa
open Go.RowKit

def kindB (s : ByteArray) : Bool := kindErr s == 0
def knOk (k : Kn) : Bool := identOk k.name && (kindB k.is && !hasVar k.is)
def sgOk (g : Sg) : Bool := identOk g.name && (decide (g.params.length ≤ 8) && (kindB g.result && g.params.all kindB))

/-- what is wrong with one: its form, or nothing. -/
def bad4 (ok : Bool) : Int := if ok = true then 0 else 4

/-- is s above p? -/
def gtB (s p : ByteArray) : Bool := !Op.bytesLess s.toList p.toList && !(s.toList == p.toList)

theorem all_at {p : ByteArray → Bool} {l : List ByteArray} {k : Nat} (hk : k < l.length) : (l.drop k).all p = (p l[k] && (l.drop (k + 1)).all p) := by
  rw [List.drop_eq_getElem_cons hk, List.all_cons]

end Go.Proofs.Ytedpiamfpbdhoaa
