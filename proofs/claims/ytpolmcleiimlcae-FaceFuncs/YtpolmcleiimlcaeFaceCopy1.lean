/- What face.copyType answers: the same, its texts copied. -/
import Derived.Test.YtpolmcleiimlcaeFaceRead
import Derived.Test.YtpolmcleiimlcaeKindX
import Derived.Deep.RegionHeld3
namespace Go.Proofs.Ytpolmcleiimlcae
open Go.RowKit

end Go.Proofs.Ytpolmcleiimlcae
