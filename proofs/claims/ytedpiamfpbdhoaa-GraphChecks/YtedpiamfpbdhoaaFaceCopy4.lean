/- What face.copyEach answers at functions' names with what they take, and face.Copy at a face: the same, in memory of its own. -/
import Derived.Test.YtedpiamfpbdhoaaFaceCopy3
namespace Go.Proofs.Ytedpiamfpbdhoaa
open Go.RowKit

def SgP (B : Nat) (W : World) (g : Sg) (o : Nat) : Prop := SgAt (fun b => B < b ∧ b < W.heap.size) W g B o
theorem sgP_stays (B : Nat) : Stays B 3 (SgP B) := fun W W' x o ho hs h hp => by
  obtain ⟨⟨h0, z0⟩, ⟨v, hv, hl⟩, h1, z1⟩ := hp
  exact ⟨⟨(h 0 (by omega)).trans h0, z0⟩, ⟨v, (h 1 (by omega)).trans hv, strSl_keep ⟨fun b hb => ho b (by have := hb.1; omega) hb.2, fun b hb => ⟨hb.1, Nat.lt_of_lt_of_le hb.2 hs⟩⟩ hl⟩, (h 2 (by omega)).trans h1, z1⟩

theorem sg_cells' {S : Nat → Prop} {w : World} {g : Sg} {b o : Nat} (h : SgAt S w g b o) : ∃ a n cap, w.cell? ⟨b, o, none⟩ = some (.string g.name) ∧ w.cell? ⟨b, o + 1, none⟩ = some (.slice a n cap) ∧ w.cell? ⟨b, o + 2, none⟩ = some (.string g.result) ∧ (g.name.size ≤ maxLen ∧ g.result.size ≤ maxLen) ∧ SgIs S w g (.agg #[.string g.name, .slice a n cap, .string g.result]) := by
  obtain ⟨⟨h0, z0⟩, ⟨v, hv, hp⟩, h1, z1⟩ := h
  obtain ⟨a, cap, rfl⟩ := hp.is
  exact ⟨a, _, cap, h0, hv, h1, ⟨z0, z1⟩, _, rfl, z0, z1, hp⟩

/-- what Copy's region keeps. -/
def FcBox (w : World) (p q : Value) (W : World) : Prop :=
  Below w.heap.size w W ∧ W.cell? ⟨w.heap.size, 0, none⟩ = some p ∧ W.cell? ⟨w.heap.size, 1, none⟩ = some q
theorem FcBox.later {w : World} {p q : Value} {W W' : World} (h : FcBox w p q W) (hb : Below W.heap.size W W') : FcBox w p q W' := by
  obtain ⟨h0, h1, h2⟩ := h
  exact ⟨h0.trans (hb.mono h0.size), (hb.cell (World.block_lt_of_cell? _ _ h1)).trans h1, (hb.cell (World.block_lt_of_cell? _ _ h2)).trans h2⟩
theorem FcBox.set {w : World} {p q : Value} {W : World} (h : FcBox w p q W) (o : Nat) (u : Value) : FcBox w p q (W.setCell ⟨w.heap.size + 1, o, none⟩ u) := by
  obtain ⟨h0, h1, h2⟩ := h
  refine ⟨h0.setCell (by show w.heap.size ≤ w.heap.size + 1; omega) _, ?_, ?_⟩
  · rw [World.cell?_setCell_far _ _ _ _ (by show w.heap.size + 1 ≠ w.heap.size; omega)]; exact h1
  · rw [World.cell?_setCell_far _ _ _ _ (by show w.heap.size + 1 ≠ w.heap.size; omega)]; exact h2


end Go.Proofs.Ytedpiamfpbdhoaa
