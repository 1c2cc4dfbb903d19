/- What the reference's kind answers at a token that is no type's, and at a type's word. -/
import Derived.Test.YtpamadnckijfkabGreatDoorEyeKind
import Derived.Test.YtpamadnckijfkabGreatDoorReadNe
namespace Go.Proofs.YtpamadnckijfkabGreatDoor
open Go.RowKit
set_option maxRecDepth 100000

/-- what is told of a type: it is read, or something is wrong. -/
def KindR (B : Nat) (l : Toks) (i d f : Nat) (w : World) (r : Ending) (w' : World) : Prop := Moved B w w' ∧ ∃ k o n va1 va2 va3, r = .returned (.agg #[.int .i64 k, .string o, .string n, .slice va1 va2 va3]) ∧
  ((∃ t j, pTy l f i = .ok t j ∧ EyeAt B l j 0 d w' ∧ TyCs (Fresh w.heap.size w') w' t k o n (.slice va1 va2 va3)) ∨ ∃ e i', pTy l f i = .bad e ∧ e ≠ 0 ∧ EyeAt B l i' e d w')

/-- the end of kind: one depth less, the result laid. -/
theorem kind_fin {B : Nat} {l : Toks} {j d : Nat} {e : Int} {w w5 : World} (hE : EyeAt B l j e ((d + 1 : Nat) : Int) w5) (hM : Moved B w w5) (hlt : B < w.heap.size) {x y z u : Value} (hz : w5.heap[w.heap.size]? = some (.cells #[x, y, z, u] 49 (0, 0))) (k o n va : Value) :
    ∃ F, (((((w5.setCell ⟨B, 3, none⟩ (.int .i64 (d : Int))).setCell ⟨w.heap.size, 0, none⟩ k).setCell ⟨w.heap.size, 1, none⟩ o).setCell ⟨w.heap.size, 2, none⟩ n).setCell ⟨w.heap.size, 3, none⟩ va) = F ∧ EyeAt B l j e d F ∧ Moved B w F ∧
      F.cell? ⟨w.heap.size, 0, none⟩ = some k ∧ F.cell? ⟨w.heap.size, 1, none⟩ = some o ∧ F.cell? ⟨w.heap.size, 2, none⟩ = some n ∧ F.cell? ⟨w.heap.size, 3, none⟩ = some va := by
  have h5 : (w5.setCell ⟨B, 3, none⟩ (.int .i64 (d : Int))).heap[w.heap.size]? = some (.cells #[x, y, z, u] 49 (0, 0)) := (Below.heap_setCell _ _ _ _ (by show w.heap.size ≠ B; omega)).trans hz
  have hF := four_set h5 k o n va
  refine ⟨_, rfl, ey_far (ey_far (ey_far (ey_far (ey_set3 hE _) (c := w.heap.size) hlt 0 _) (c := w.heap.size) hlt 1 _) (c := w.heap.size) hlt 2 _) (c := w.heap.size) hlt 3 _,
    mv_far (mv_far (mv_far (mv_far (hM.set 3 _) (c := w.heap.size) (Nat.le_refl _) hlt 0 _) (c := w.heap.size) (Nat.le_refl _) hlt 1 _) (c := w.heap.size) (Nat.le_refl _) hlt 2 _) (c := w.heap.size) (Nat.le_refl _) hlt 3 _, ?_, ?_, ?_, ?_⟩ <;>
  (rw [cell_of_row _ _ _ _ _ _ hF]; rfl)

/-- the cells that the end of kind reads and writes. -/
theorem kind_cells {w5 : World} {b c : Nat} {x y z u k o n va : Value} (hz : w5.heap[b]? = some (.cells #[x, y, z, u] 49 (0, 0))) (ho : w5.heap[c]? = some (.cells #[k, o, n, va] 49 (0, 0))) :
    (w5.cell? ⟨b, 0, none⟩ = some x ∧ w5.cell? ⟨b, 1, none⟩ = some y ∧ w5.cell? ⟨b, 2, none⟩ = some z ∧ w5.cell? ⟨b, 3, none⟩ = some u) ∧ (w5.cell? ⟨c, 0, none⟩ = some k ∧ w5.cell? ⟨c, 1, none⟩ = some o ∧ w5.cell? ⟨c, 2, none⟩ = some n ∧ w5.cell? ⟨c, 3, none⟩ = some va) ∧
    (w5.frozen? ⟨b, 0, none⟩ = false ∧ w5.frozen? ⟨b, 1, none⟩ = false ∧ w5.frozen? ⟨b, 2, none⟩ = false ∧ w5.frozen? ⟨b, 3, none⟩ = false) ∧ (w5.frozen? ⟨c, 0, none⟩ = false ∧ w5.frozen? ⟨c, 1, none⟩ = false ∧ w5.frozen? ⟨c, 2, none⟩ = false ∧ w5.frozen? ⟨c, 3, none⟩ = false) := by
  refine ⟨⟨?_, ?_, ?_, ?_⟩, ⟨?_, ?_, ?_, ?_⟩, ⟨Lib.frozen_of_heap hz 0, Lib.frozen_of_heap hz 1, Lib.frozen_of_heap hz 2, Lib.frozen_of_heap hz 3⟩, ⟨Lib.frozen_of_heap ho 0, Lib.frozen_of_heap ho 1, Lib.frozen_of_heap ho 2, Lib.frozen_of_heap ho 3⟩⟩
  all_goals first | (rw [cell_of_row _ b _ _ _ _ hz]; rfl) | (rw [cell_of_row _ c _ _ _ _ ho]; rfl)

end Go.Proofs.YtpamadnckijfkabGreatDoor
