/- Two values that are the same plain type, or expression, are told to be the same. -/
import Derived.Test.YtedpiamfpbdhoaaTree
import Derived.Deep.RegionWith
namespace Go.Proofs.Ytedpiamfpbdhoaa
open Go.RowKit

end Go.Proofs.Ytedpiamfpbdhoaa
