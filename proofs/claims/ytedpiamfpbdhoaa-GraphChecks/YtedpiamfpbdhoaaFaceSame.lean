/- What face.sameFunc, slices.EqualFunc with it, and face.Same answer: whether two are the same, one by one. -/
import Derived.Test.YtedpiamfpbdhoaaFaceEq
namespace Go.Proofs.Ytedpiamfpbdhoaa
open Go.RowKit

theorem sgIs_at {S : Nat → Prop} {w : World} {g : Sg} {b o : Nat} (h : SgAt S w g b o) : ∃ a n cap, w.cell? ⟨b, o, none⟩ = some (.string g.name) ∧ w.cell? ⟨b, o + 1, none⟩ = some (.slice a n cap) ∧ w.cell? ⟨b, o + 2, none⟩ = some (.string g.result) ∧ SgIs S w g (.agg #[.string g.name, .slice a n cap, .string g.result]) := by
  obtain ⟨⟨h0, z0⟩, ⟨v, hv, hp⟩, h1, z1⟩ := h
  obtain ⟨a, cap, rfl⟩ := hp.is
  exact ⟨a, _, cap, h0, hv, h1, _, rfl, z0, z1, hp⟩

end Go.Proofs.Ytedpiamfpbdhoaa
