/- What face.copyType answers: the same, its texts copied. -/
import Derived.Test.YtieoddnaknpmlaeFaceRead
import Derived.Test.YtieoddnaknpmlaeKindX
import Derived.Deep.RegionHeld3
namespace Go.Proofs.Ytieoddnaknpmlae
open Go.RowKit

/-- what copyType's region keeps. -/
def KnBox (w : World) (x y : ByteArray) (W : World) : Prop :=
  Below w.heap.size w W ∧ W.cell? ⟨w.heap.size, 0, none⟩ = some (.string x) ∧ W.cell? ⟨w.heap.size, 1, none⟩ = some (.string y)

theorem KnBox.later {w : World} {x y : ByteArray} {W W' : World} (h : KnBox w x y W) (hb : Below W.heap.size W W') : KnBox w x y W' := by
  obtain ⟨h0, h1, h2⟩ := h
  exact ⟨h0.trans (hb.mono h0.size), (hb.cell (World.block_lt_of_cell? _ _ h1)).trans h1, (hb.cell (World.block_lt_of_cell? _ _ h2)).trans h2⟩

theorem KnBox.stored {w : World} {x y : ByteArray} {W : World} (h : KnBox w x y W) (u v : Value) : KnBox w x y ((W.setCell ⟨w.heap.size + 1, 0, none⟩ u).setCell ⟨w.heap.size + 1, 1, none⟩ v) := by
  obtain ⟨h0, h1, h2⟩ := h
  refine ⟨(h0.setCell (by show w.heap.size ≤ w.heap.size + 1; omega) _).setCell (by show w.heap.size ≤ w.heap.size + 1; omega) _, ?_, ?_⟩
  · rw [World.cell?_setCell_far _ _ _ _ (by show w.heap.size + 1 ≠ w.heap.size; omega), World.cell?_setCell_far _ _ _ _ (by show w.heap.size + 1 ≠ w.heap.size; omega)]; exact h1
  · rw [World.cell?_setCell_far _ _ _ _ (by show w.heap.size + 1 ≠ w.heap.size; omega), World.cell?_setCell_far _ _ _ _ (by show w.heap.size + 1 ≠ w.heap.size; omega)]; exact h2

set_option maxHeartbeats 4000000 in
theorem copyType_any (x y : ByteArray) (hx : x.size ≤ reachBytes) (hy : y.size ≤ reachBytes) (w : World) :
    Calls Try.prog 70 #[.agg #[.string x, .string y]] w fun e w' => e = .returned (.agg #[.string x, .string y]) ∧ Below w.heap.size w w' := by
  have hr := reachBytes_lt
  have HCx : Hid (∀ W, Calls Try.prog 32 #[.string x] W fun e w' => e = .returned (.string x) ∧ Below W.heap.size W w') := fun W => clone_kind x W (by omega)
  have HCy : Hid (∀ W, Calls Try.prog 32 #[.string y] W fun e w' => e = .returned (.string y) ∧ Below W.heap.size W w') := fun W => clone_kind y W (by omega)
  obtain ⟨w2, hwe, hs2, p0, p1, q0, q1, f0, f1, hbel⟩ : ∃ w2, (w.alloc (.cells #[.string x, .string y] 53)).alloc (.cells #[.string ⟨#[]⟩, .string ⟨#[]⟩] 53) = w2 ∧ w2.heap.size = w.heap.size + 2 ∧
      w2.cell? ⟨w.heap.size, 0, none⟩ = some (.string x) ∧ w2.cell? ⟨w.heap.size, 1, none⟩ = some (.string y) ∧ w2.cell? ⟨w.heap.size + 1, 0, none⟩ = some (.string ⟨#[]⟩) ∧ w2.cell? ⟨w.heap.size + 1, 1, none⟩ = some (.string ⟨#[]⟩) ∧
      w2.frozen? ⟨w.heap.size + 1, 0, none⟩ = false ∧ w2.frozen? ⟨w.heap.size + 1, 1, none⟩ = false ∧ Below w.heap.size w w2 :=
    ⟨_, rfl, by simp, by simp [go_sem], by simp [go_sem], by simp [go_sem], by simp [go_sem], by simp [go_sem], by simp [go_sem], ((Below.refl _ _).alloc (Nat.le_refl _) _).alloc (by simp) _⟩
  have HWe := veil hwe
  have HX : Hid (Below (w.heap.size + 2) w2 w2.drew) := (Below.refl _ _).drew
  have HK0 : Hid (KnBox w x y w2.drew) := ⟨hbel.drew, p0, p1⟩
  have HN : Hid (∀ W W', KnBox w x y W → Below W.heap.size W W' → KnBox w x y W') := fun _ _ h hb => h.later hb
  have HN2 : Hid (∀ W u v, KnBox w x y W → KnBox w x y ((W.setCell ⟨w.heap.size + 1, 0, none⟩ u).setCell ⟨w.heap.size + 1, 1, none⟩ v)) := fun _ u v h => h.stored u v
  have HQ : Hid (∀ W, Below (w.heap.size + 2) w2 W → W.cell? ⟨w.heap.size + 1, 0, none⟩ = some (.string ⟨#[]⟩) ∧ W.cell? ⟨w.heap.size + 1, 1, none⟩ = some (.string ⟨#[]⟩) ∧ W.frozen? ⟨w.heap.size + 1, 0, none⟩ = false ∧ W.frozen? ⟨w.heap.size + 1, 1, none⟩ = false) := fun W h =>
    ⟨(h.cell (by show w.heap.size + 1 < _; omega)).trans q0, (h.cell (by show w.heap.size + 1 < _; omega)).trans q1, (h.frozen (by show w.heap.size + 1 < _; omega)).trans f0, (h.frozen (by show w.heap.size + 1 < _; omega)).trans f1⟩
  clear hx hy hr hwe p0 p1 q0 q1 f0 f1 hbel
  go_enter Try.func70, Try.ntmps70
  go_wp2_with fail
  rw [HWe.out]
  clear HWe
  go_region_held3 (fun W => Below w.heap.size w W ∧ W.cell? ⟨w.heap.size, 0, none⟩ = some (.string x) ∧ W.cell? ⟨w.heap.size, 1, none⟩ = some (.string y)) (first | exact HK0.out | exact HN.out _ _ (by assumption) (by assumption) | exact HN2.out _ _ _ (by assumption))
    (first
      | (go_at_call_of 32 (Value.string x); refine (HCx.out _).mono ?_; rintro e w' ⟨rfl, hb'⟩; replace HX := veil (HX.out.trans (hb'.mono (by have := HX.out.size; omega))); obtain ⟨g0, g1, g2, g3⟩ := HQ.out _ HX.out)
      | (go_at_call_of 32 (Value.string y); refine (HCy.out _).mono ?_; rintro e w' ⟨rfl, hb'⟩; replace HX := veil (HX.out.trans (hb'.mono (by have := HX.out.size; omega))); obtain ⟨g0, g1, g2, g3⟩ := HQ.out _ HX.out))
  all_goals
    rename_i hHeld
    have HB := veil hHeld.1
    clear hHeld
    go_wp2_with fail
    exact bodyPost_ret (v := .agg #[.string x, .string y]) (by simp [results, Try.results70, go_sem, g0, g1]) rfl ⟨rfl, HB.out⟩

end Go.Proofs.Ytieoddnaknpmlae
