/- What face.Check answers: the first thing that is wrong with a face. -/
import Derived.Test.YtedpiamfpbdhoaaFaceOrder
namespace Go.Proofs.Ytedpiamfpbdhoaa
open Go.RowKit

def fcFault (f : Fc) : Int :=
  if 24 < wrap64 ((f.types.length : Int) + f.funcs.length) then 1 else
  if orderFault knFault Kn.name f.types ⟨#[]⟩ = 0 then orderFault sgFault Sg.name f.funcs ⟨#[]⟩ else orderFault knFault Kn.name f.types ⟨#[]⟩

end Go.Proofs.Ytedpiamfpbdhoaa
