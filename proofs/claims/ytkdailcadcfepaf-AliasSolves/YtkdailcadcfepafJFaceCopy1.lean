/- What face.copyType answers: the same, its texts copied. -/
import Derived.Test.YtkdailcadcfepafJFaceRead
import Derived.Test.YtkdailcadcfepafJKindX
import Derived.Deep.RegionHeld3
namespace Go.Proofs.Ytkdailcadcfepaf
open Go.RowKit

end Go.Proofs.Ytkdailcadcfepaf
