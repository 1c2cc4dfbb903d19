/- What face.copyEach answers at texts, and at types' names with what they are: the same, in a row of its own. -/
import Derived.Test.YtedpiamfpbdhoaaFaceCopy1
import Derived.Test.YtedpiamfpbdhoaaRowMade
namespace Go.Proofs.Ytedpiamfpbdhoaa
open Go.RowKit

theorem str_info : (Try.prog.info? 9).map (fun i => (i.zero, i.size, i.bytes)) = some (some (.string ⟨#[]⟩), 1, 16) := by kernel_rfl
def StrP (B : Nat) (W : World) (s : ByteArray) (o : Nat) : Prop := StrAt W s B o
theorem strP_stays (B : Nat) : Stays B 1 (StrP B) := fun W W' x o _ _ h hp => ⟨(h 0 (by omega)).trans hp.1, hp.2⟩
def KnP (B : Nat) (W : World) (k : Kn) (o : Nat) : Prop := KnAt W k B o
theorem knP_stays (B : Nat) : Stays B 2 (KnP B) := fun W W' x o _ _ h hp => ⟨⟨(h 0 (by omega)).trans hp.1.1, hp.1.2⟩, (h 1 (by omega)).trans hp.2.1, hp.2.2⟩

end Go.Proofs.Ytedpiamfpbdhoaa
