/- What the reference's kind answers: where something is wrong already, or it is too deep. -/
import Derived.Test.YtpamadnckijfkabGreatDoorEye2
import Derived.Test.YtpamadnckijfkabGreatDoorEyeIdent
namespace Go.Proofs.YtpamadnckijfkabGreatDoor
open Go.RowKit
set_option maxRecDepth 100000

theorem four_set {w : World} {b : Nat} {x y z u : Value} {T : TypeId} (h : w.heap[b]? = some (.cells #[x, y, z, u] T (0, 0))) (p q r t : Value) :
    ((((w.setCell ⟨b, 0, none⟩ p).setCell ⟨b, 1, none⟩ q).setCell ⟨b, 2, none⟩ r).setCell ⟨b, 3, none⟩ t).heap[b]? = some (.cells #[p, q, r, t] T (0, 0)) := block_set (block_set (block_set (block_set h 0 p) 1 q) 2 r) 3 t

set_option maxHeartbeats 4000000 in
/-- from a state in which something is wrong, or too deep: nothing is read. -/
theorem kind_skip (B : Nat) (l : Toks) (i : Nat) (e e1 : Int) (d : Nat) (hd : d < 1000) (w : World) (h : EyeAt B l i e d w) (he1 : (if 40 < d + 1 then firstOf e 1 else e) = e1) (hne : e1 ≠ 0) :
    Calls Tryz.prog 48 #[.pointer (some ⟨B, 0, none⟩)] w fun r w' => r = .returned (.agg #[.int .i64 0, .string ⟨#[]⟩, .string ⟨#[]⟩, .slice none 0 0]) ∧ EyeAt B l i e1 d w' ∧ Moved B w w' := by
  have hlt := ey_lt h
  have HH := veil (ey_alloc h (.cells #[.int .i64 0, .string ⟨#[]⟩, .string ⟨#[]⟩, .slice none 0 0] 49))
  have HM : Hid (Moved B w (w.alloc (.cells #[.int .i64 0, .string ⟨#[]⟩, .string ⟨#[]⟩, .slice none 0 0] 49))) := Moved.of_below ((Below.refl _ _).alloc (Nat.le_refl _) _) (by omega)
  have HE1 := veil he1
  have hne' : (e1 == 0) = false := beq_eq_false_iff_ne.2 hne
  have HNe := veil hne
  clear h he1 hne
  go_enter Tryz.func48, Tryz.ntmps48
  go_wp2_with fail
  refine (down_eye B l i e d hd _ HH.out).mono ?_
  rintro r w1 ⟨rfl, q1, q2⟩
  rw [HE1.out] at q1
  have hs1 : w.heap.size + 1 ≤ w1.heap.size := by have := q2.below.size; simpa using this
  have hz1 : w1.heap[w.heap.size]? = some (.cells #[.int .i64 0, .string ⟨#[]⟩, .string ⟨#[]⟩, .slice none 0 0] 49 (0, 0)) := (q2.above w.heap.size hlt (by simp)).trans (heap_alloc_new w _)
  have hw2 : ∃ w2, w1.alloc (.cells #[.int .i64 0, .string ⟨#[]⟩, .string ⟨#[]⟩, .slice none 0 0] 49) = w2 ∧ EyeAt B l i e1 ((d + 1 : Nat) : Int) w2 ∧ Moved B w w2 ∧ w2.heap[w.heap.size]? = some (.cells #[.int .i64 0, .string ⟨#[]⟩, .string ⟨#[]⟩, .slice none 0 0] 49 (0, 0)) ∧ w2.heap[w1.heap.size]? = some (.cells #[.int .i64 0, .string ⟨#[]⟩, .string ⟨#[]⟩, .slice none 0 0] 49 (0, 0)) :=
    ⟨_, rfl, ey_alloc q1 _, (HM.out.trans q2).alloc (by omega) _, (heap_alloc_old _ _ (by omega)).trans hz1, heap_alloc_new w1 _⟩
  obtain ⟨w2, hwe, hE2, hM2, hz2, ho2⟩ := hw2
  have hE2' := hE2
  obtain ⟨ta, tcap, c0, c1, c2, c3, f1, f2, f3, hi, h200, htok⟩ := ey_cells hE2
  have en : ((d + 1 : Nat) : Int) = (d : Int) + 1 := by omega
  rw [en] at c3
  have hd' : (d : Int) < 1000 := by omega
  have hd0 : (0 : Int) ≤ (d : Int) := by omega
  clear q1 q2 c0 c1 f1 f2 htok hz1
  have o0 : w2.cell? ⟨w1.heap.size, 0, none⟩ = some (.int .i64 0) := by rw [cell_of_row w2 _ 0 _ _ _ ho2]; rfl
  have o1 : w2.cell? ⟨w1.heap.size, 1, none⟩ = some (.string ⟨#[]⟩) := by rw [cell_of_row w2 _ 1 _ _ _ ho2]; rfl
  have o2 : w2.cell? ⟨w1.heap.size, 2, none⟩ = some (.string ⟨#[]⟩) := by rw [cell_of_row w2 _ 2 _ _ _ ho2]; rfl
  have o3 : w2.cell? ⟨w1.heap.size, 3, none⟩ = some (.slice none 0 0) := by rw [cell_of_row w2 _ 3 _ _ _ ho2]; rfl
  have r0 : w2.cell? ⟨w.heap.size, 0, none⟩ = some (.int .i64 0) := by rw [cell_of_row w2 _ 0 _ _ _ hz2]; rfl
  have r1 : w2.cell? ⟨w.heap.size, 1, none⟩ = some (.string ⟨#[]⟩) := by rw [cell_of_row w2 _ 1 _ _ _ hz2]; rfl
  have r2 : w2.cell? ⟨w.heap.size, 2, none⟩ = some (.string ⟨#[]⟩) := by rw [cell_of_row w2 _ 2 _ _ _ hz2]; rfl
  have r3 : w2.cell? ⟨w.heap.size, 3, none⟩ = some (.slice none 0 0) := by rw [cell_of_row w2 _ 3 _ _ _ hz2]; rfl
  have g0 := Lib.frozen_of_heap hz2 0
  have g1 := Lib.frozen_of_heap hz2 1
  have g2 := Lib.frozen_of_heap hz2 2
  have g3 := Lib.frozen_of_heap hz2 3
  have x0 := Lib.frozen_of_heap ho2 0
  have x1 := Lib.frozen_of_heap ho2 1
  have x2 := Lib.frozen_of_heap ho2 2
  have x3 := Lib.frozen_of_heap ho2 3
  have b1 : w1.heap.size ≠ B := by omega
  have b2 : w.heap.size ≠ B := by omega
  have b3 : B ≠ w.heap.size := by omega
  have b4 : w1.heap.size ≠ w.heap.size := by omega
  have HE2 := veil hE2
  have HM2 := veil hM2
  have HZ2 := veil hz2
  clear hE2 hE2' hM2 hz2 ho2
  have HW5 : Hid (∃ W5, (((((w2.setCell ⟨w1.heap.size, 0, none⟩ (.int .i64 0)).setCell ⟨w1.heap.size, 1, none⟩ (.string ⟨#[]⟩)).setCell ⟨w1.heap.size, 2, none⟩ (.string ⟨#[]⟩)).setCell ⟨w1.heap.size, 3, none⟩ (.slice none 0 0)).setCell ⟨B, 3, none⟩ (.int .i64 (d : Int))) = W5 ∧ EyeAt B l i e1 d W5 ∧ Moved B w W5 ∧ W5.heap[w.heap.size]? = some (.cells #[.int .i64 0, .string ⟨#[]⟩, .string ⟨#[]⟩, .slice none 0 0] 49 (0, 0))) := by
    refine ⟨_, rfl, ey_set3 (ey_far (ey_far (ey_far (ey_far HE2.out (c := w1.heap.size) (by omega) 0 _) (c := w1.heap.size) (by omega) 1 _) (c := w1.heap.size) (by omega) 2 _) (c := w1.heap.size) (by omega) 3 _) _, ?_, ?_⟩
    · exact (mv_far (mv_far (mv_far (mv_far HM2.out (c := w1.heap.size) (by omega) (by omega) 0 _) (c := w1.heap.size) (by omega) (by omega) 1 _) (c := w1.heap.size) (by omega) (by omega) 2 _) (c := w1.heap.size) (by omega) (by omega) 3 _).set 3 _
    · rw [Below.heap_setCell _ _ _ _ (by show w.heap.size ≠ B; omega), Below.heap_setCell _ _ _ _ (by show w.heap.size ≠ w1.heap.size; omega), Below.heap_setCell _ _ _ _ (by show w.heap.size ≠ w1.heap.size; omega), Below.heap_setCell _ _ _ _ (by show w.heap.size ≠ w1.heap.size; omega), Below.heap_setCell _ _ _ _ (by show w.heap.size ≠ w1.heap.size; omega)]
      exact HZ2.out
  go_wp2_with fail
  obtain ⟨W5, hW5, hE5, hM5, hz5⟩ := HW5.out
  try rw [hwe]
  rw [hW5]
  have hF := four_set hz5 (.int .i64 0) (.string ⟨#[]⟩) (.string ⟨#[]⟩) (.slice none 0 0)
  have HEF := veil (ey_far (ey_far (ey_far (ey_far hE5 (c := w.heap.size) hlt 0 (.int .i64 0)) (c := w.heap.size) hlt 1 (.string ⟨#[]⟩)) (c := w.heap.size) hlt 2 (.string ⟨#[]⟩)) (c := w.heap.size) hlt 3 (.slice none 0 0))
  have HMF := veil (mv_far (mv_far (mv_far (mv_far hM5 (c := w.heap.size) (Nat.le_refl _) hlt 0 (.int .i64 0)) (c := w.heap.size) (Nat.le_refl _) hlt 1 (.string ⟨#[]⟩)) (c := w.heap.size) (Nat.le_refl _) hlt 2 (.string ⟨#[]⟩)) (c := w.heap.size) (Nat.le_refl _) hlt 3 (.slice none 0 0))
  generalize ((((W5.setCell ⟨w.heap.size, 0, none⟩ (.int .i64 0)).setCell ⟨w.heap.size, 1, none⟩ (.string ⟨#[]⟩)).setCell ⟨w.heap.size, 2, none⟩ (.string ⟨#[]⟩)).setCell ⟨w.heap.size, 3, none⟩ (.slice none 0 0)) = F at *
  have q0 : F.cell? ⟨w.heap.size, 0, none⟩ = some (.int .i64 0) := by rw [cell_of_row F _ 0 _ _ _ hF]; rfl
  have q1 : F.cell? ⟨w.heap.size, 1, none⟩ = some (.string ⟨#[]⟩) := by rw [cell_of_row F _ 1 _ _ _ hF]; rfl
  have q2 : F.cell? ⟨w.heap.size, 2, none⟩ = some (.string ⟨#[]⟩) := by rw [cell_of_row F _ 2 _ _ _ hF]; rfl
  have q3 : F.cell? ⟨w.heap.size, 3, none⟩ = some (.slice none 0 0) := by rw [cell_of_row F _ 3 _ _ _ hF]; rfl
  exact bodyPost_ret (v := .agg #[.int .i64 0, .string ⟨#[]⟩, .string ⟨#[]⟩, .slice none 0 0]) (by simp [results, Tryz.results48, go_sem, q0, q1, q2, q3]) rfl ⟨rfl, HEF.out, HMF.out⟩

end Go.Proofs.YtpamadnckijfkabGreatDoor
