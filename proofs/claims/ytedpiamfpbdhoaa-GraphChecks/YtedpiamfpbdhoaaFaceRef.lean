/- What the reference's SameFace answers: whether two faces are the same, one by one. -/
import Derived.Test.YtedpiamfpbdhoaaFaceSame
namespace Go.Proofs.Ytedpiamfpbdhoaa
open Go.RowKit

theorem sg_cells {S : Nat → Prop} {w : World} {g : Sg} {b o : Nat} (h : SgAt S w g b o) : ∃ a cap, w.cell? ⟨b, o, none⟩ = some (.string g.name) ∧ w.cell? ⟨b, o + 1, none⟩ = some (.slice a g.params.length cap) ∧ w.cell? ⟨b, o + 2, none⟩ = some (.string g.result) ∧ SlAt S (StrAt w) 1 g.params (.slice a g.params.length cap) := by
  obtain ⟨⟨h0, z0⟩, ⟨v, hv, hp⟩, h1, z1⟩ := h
  obtain ⟨a, cap, rfl⟩ := hp.is
  exact ⟨a, cap, h0, hv, h1, hp⟩

end Go.Proofs.Ytedpiamfpbdhoaa
