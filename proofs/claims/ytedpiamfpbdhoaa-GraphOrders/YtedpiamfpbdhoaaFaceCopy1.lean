/- What face.copyType answers: the same, its texts copied. -/
import Derived.Test.YtedpiamfpbdhoaaFaceRead
import Derived.Test.YtedpiamfpbdhoaaKindX
import Derived.Deep.RegionHeld3
namespace Go.Proofs.Ytedpiamfpbdhoaa
open Go.RowKit

end Go.Proofs.Ytedpiamfpbdhoaa
