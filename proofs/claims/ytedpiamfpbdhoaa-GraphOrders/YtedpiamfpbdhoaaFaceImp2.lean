/- What face.CheckImports and the reference's ImportsFault answer: the first thing that is wrong with a list of imports. -/
import Derived.Test.YtedpiamfpbdhoaaFaceImp1
namespace Go.Proofs.Ytedpiamfpbdhoaa
open Go.RowKit

end Go.Proofs.Ytedpiamfpbdhoaa
