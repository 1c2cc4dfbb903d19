/- What face.copyType answers: the same, its texts copied. -/
import Derived.Test.YtieoddnaknpmlafFaceRead
import Derived.Test.YtieoddnaknpmlafKindX
import Derived.Deep.RegionHeld3
namespace Go.Proofs.Ytieoddnaknpmlaf
open Go.RowKit

end Go.Proofs.Ytieoddnaknpmlaf
