/- What slices.Equal answers at two lists of texts, and of types' names with what they are: whether they are the same, one by one. -/
import Derived.Test.YtedpiamfpbdhoaaFace
import Derived.Deep.RegionWith
namespace Go.Proofs.Ytedpiamfpbdhoaa
open Go.RowKit

end Go.Proofs.Ytedpiamfpbdhoaa
