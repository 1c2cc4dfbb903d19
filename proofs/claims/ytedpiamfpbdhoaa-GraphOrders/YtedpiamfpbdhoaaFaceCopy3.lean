/- What face.copyFunc answers: the same, its texts copied, its parameters in a row of their own. -/
import Derived.Test.YtedpiamfpbdhoaaFaceCopy2
namespace Go.Proofs.Ytedpiamfpbdhoaa
open Go.RowKit

theorem keep_new {B : Nat} {W W' : World} (h : Below W.heap.size W W') : Keeps (fun b => B ≤ b ∧ b < W.heap.size) (fun b => B ≤ b ∧ b < W'.heap.size) W W' :=
  ⟨fun b hb => h.block b hb.2, fun _ hb => ⟨hb.1, Nat.lt_of_lt_of_le hb.2 h.size⟩⟩
theorem keep_set {B g : Nat} {W : World} (hg : g < B) (o : Nat) (u : Value) : Keeps (fun b => B ≤ b ∧ b < W.heap.size) (fun b => B ≤ b ∧ b < (W.setCell ⟨g, o, none⟩ u).heap.size) W (W.setCell ⟨g, o, none⟩ u) :=
  ⟨fun b hb => Below.heap_setCell _ _ _ _ (by show b ≠ g; have := hb.1; omega), fun _ hb => ⟨hb.1, by rw [size_setCell']; exact hb.2⟩⟩

/-- what copyFunc's region keeps. -/
def SgBox (w : World) (x y : ByteArray) (p : Value) (W : World) : Prop :=
  Below w.heap.size w W ∧ W.cell? ⟨w.heap.size, 0, none⟩ = some (.string x) ∧ W.cell? ⟨w.heap.size, 1, none⟩ = some p ∧ W.cell? ⟨w.heap.size, 2, none⟩ = some (.string y)

theorem SgBox.later {w : World} {x y : ByteArray} {p : Value} {W W' : World} (h : SgBox w x y p W) (hb : Below W.heap.size W W') : SgBox w x y p W' := by
  obtain ⟨h0, h1, h2, h3⟩ := h
  exact ⟨h0.trans (hb.mono h0.size), (hb.cell (World.block_lt_of_cell? _ _ h1)).trans h1, (hb.cell (World.block_lt_of_cell? _ _ h2)).trans h2, (hb.cell (World.block_lt_of_cell? _ _ h3)).trans h3⟩

theorem SgBox.set {w : World} {x y : ByteArray} {p : Value} {W : World} (h : SgBox w x y p W) (o : Nat) (u : Value) : SgBox w x y p (W.setCell ⟨w.heap.size + 1, o, none⟩ u) := by
  obtain ⟨h0, h1, h2, h3⟩ := h
  refine ⟨h0.setCell (by show w.heap.size ≤ w.heap.size + 1; omega) _, ?_, ?_, ?_⟩
  · rw [World.cell?_setCell_far _ _ _ _ (by show w.heap.size + 1 ≠ w.heap.size; omega)]; exact h1
  · rw [World.cell?_setCell_far _ _ _ _ (by show w.heap.size + 1 ≠ w.heap.size; omega)]; exact h2
  · rw [World.cell?_setCell_far _ _ _ _ (by show w.heap.size + 1 ≠ w.heap.size; omega)]; exact h3

end Go.Proofs.Ytedpiamfpbdhoaa
