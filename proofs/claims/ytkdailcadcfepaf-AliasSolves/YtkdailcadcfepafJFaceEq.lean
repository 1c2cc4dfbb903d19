/- What slices.Equal answers at two lists of texts, and of types' names with what they are: whether they are the same, one by one. -/
import Derived.Test.YtkdailcadcfepafJFace
import Derived.Deep.RegionWith
namespace Go.Proofs.Ytkdailcadcfepaf
open Go.RowKit

end Go.Proofs.Ytkdailcadcfepaf
