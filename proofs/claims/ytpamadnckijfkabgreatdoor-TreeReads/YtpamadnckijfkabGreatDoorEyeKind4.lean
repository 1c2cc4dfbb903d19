/- What the reference's kind answers at the words int and text. -/
import Derived.Test.YtpamadnckijfkabGreatDoorEyeKind3
namespace Go.Proofs.YtpamadnckijfkabGreatDoor
open Go.RowKit
set_option maxRecDepth 100000

set_option maxHeartbeats 8000000 in
theorem kind_int (B : Nat) (l : Toks) (i d f : Nat) (hd : d < 40) (tx : ByteArray) (w : World) (h : EyeAt B l i 0 d w) (hs : sgn l i [91] = false)
    (hone : ∀ W, EyeAt B l i 0 ((d + 1 : Nat) : Int) W → Calls Tryz.prog 45 #[.pointer (some ⟨B, 0, none⟩)] W fun r w' => r = .returned (.agg #[.int .i64 1, .string tx]) ∧ EyeAt B l (i + 1) 0 ((d + 1 : Nat) : Int) w' ∧ Moved B W w') (hi : (tx.toList == [105, 110, 116]) = true) (hp : pTy l (f + 1) i = .ok (.mk 1 emptyText emptyText []) (i + 1)) :
    Calls Tryz.prog 48 #[.pointer (some ⟨B, 0, none⟩)] w (KindR B l i d (f + 1) w) := by
  have hlt := ey_lt h
  have HH := veil (ey_alloc h (.cells #[.int .i64 0, .string ⟨#[]⟩, .string ⟨#[]⟩, .slice none 0 0] 49))
  have HM : Hid (Moved B w (w.alloc (.cells #[.int .i64 0, .string ⟨#[]⟩, .string ⟨#[]⟩, .slice none 0 0] 49))) := Moved.of_below ((Below.refl _ _).alloc (Nat.le_refl _) _) (by omega)
  have HOne := veil hone
  have HPt := veil hp
  have HSg : Hid (seesB l i 0 [91] = false) := by show _ = _; unfold seesB; simp [hs]
  clear h hone hp hs
  go_enter Tryz.func48, Tryz.ntmps48
  go_wp2_with fail
  refine (down_eye B l i 0 d (by omega) _ HH.out).mono ?_
  rintro r w1 ⟨rfl, q1, q2⟩
  rw [if_neg (by omega)] at q1
  have hs1 : w.heap.size + 1 ≤ w1.heap.size := by have := q2.below.size; simpa using this
  have hz1 : w1.heap[w.heap.size]? = some (.cells #[.int .i64 0, .string ⟨#[]⟩, .string ⟨#[]⟩, .slice none 0 0] 49 (0, 0)) := (q2.above w.heap.size hlt (by simp)).trans (heap_alloc_new w _)
  have hw2 : ∃ w2, ((((w1.alloc (.cells #[.int .i64 0, .string ⟨#[]⟩, .string ⟨#[]⟩, .slice none 0 0] 49)))) = w2) ∧ EyeAt B l i 0 ((d + 1 : Nat) : Int) w2 ∧ Moved B w w2 ∧ w2.heap[w.heap.size]? = some (.cells #[.int .i64 0, .string ⟨#[]⟩, .string ⟨#[]⟩, .slice none 0 0] 49 (0, 0)) ∧ w2.heap[w1.heap.size]? = some (.cells #[.int .i64 0, .string ⟨#[]⟩, .string ⟨#[]⟩, .slice none 0 0] 49 (0, 0)) :=
    ⟨_, rfl, ey_alloc q1 _, (HM.out.trans q2).alloc (by omega) _, (heap_alloc_old _ _ (by omega)).trans hz1, heap_alloc_new w1 _⟩
  obtain ⟨w2, hwe, hE2, hM2, hz2, ho2⟩ := hw2
  have c2 : w2.cell? ⟨B, 2, none⟩ = some (.int .i64 0) := by
    obtain ⟨_, _, _, _, c2, _⟩ := ey_cells hE2
    exact c2
  have HE2 := veil hE2
  have HM2 := veil hM2
  have HZ2 := veil hz2
  have HO2 := veil ho2
  clear q1 q2 hz1 hE2 hM2
  have b5 : B ≠ w1.heap.size := by omega
  have HW3 : Hid (∃ w3, ((((w2.setCell ⟨w1.heap.size, 0, none⟩ (.int .i64 0)).setCell ⟨w1.heap.size, 1, none⟩ (.string ⟨#[]⟩)).setCell ⟨w1.heap.size, 2, none⟩ (.string ⟨#[]⟩)).setCell ⟨w1.heap.size, 3, none⟩ (.slice none 0 0)) = w3 ∧ EyeAt B l i 0 ((d + 1 : Nat) : Int) w3 ∧ Moved B w w3 ∧ w3.heap[w.heap.size]? = some (.cells #[.int .i64 0, .string ⟨#[]⟩, .string ⟨#[]⟩, .slice none 0 0] 49 (0, 0)) ∧ w3.heap[w1.heap.size]? = some (.cells #[.int .i64 0, .string ⟨#[]⟩, .string ⟨#[]⟩, .slice none 0 0] 49 (0, 0))) := by
    refine ⟨_, rfl, ey_far (ey_far (ey_far (ey_far HE2.out (c := w1.heap.size) (by omega) 0 _) (c := w1.heap.size) (by omega) 1 _) (c := w1.heap.size) (by omega) 2 _) (c := w1.heap.size) (by omega) 3 _, mv_far (mv_far (mv_far (mv_far HM2.out (c := w1.heap.size) (by omega) (by omega) 0 _) (c := w1.heap.size) (by omega) (by omega) 1 _) (c := w1.heap.size) (by omega) (by omega) 2 _) (c := w1.heap.size) (by omega) (by omega) 3 _, ?_, four_set HO2.out _ _ _ _⟩
    rw [Below.heap_setCell _ _ _ _ (by show w.heap.size ≠ w1.heap.size; omega), Below.heap_setCell _ _ _ _ (by show w.heap.size ≠ w1.heap.size; omega), Below.heap_setCell _ _ _ _ (by show w.heap.size ≠ w1.heap.size; omega), Below.heap_setCell _ _ _ _ (by show w.heap.size ≠ w1.heap.size; omega)]
    exact HZ2.out
  obtain ⟨⟨r0, r1, r2, r3⟩, ⟨o0, o1, o2, o3⟩, _, ⟨x0, x1, x2, x3⟩⟩ := kind_cells hz2 ho2
  clear hz2 ho2 r0 r1 r2 r3
  go_wp2_with fail
  try rw [hwe]
  obtain ⟨w3, hw3, hE3, hM3, hz3, ho3⟩ := HW3.out
  rw [hw3]
  have HM3 := veil hM3
  have HZ3 := veil hz3
  have HO3 := veil ho3
  have hs3 : w1.heap.size < w3.heap.size := by rcases Nat.lt_or_ge w1.heap.size w3.heap.size with h' | h'; exact h'; rw [Array.getElem?_eq_none h'] at ho3; cases ho3
  clear o0 o1 o2 o3 x0 x1 x2 x3 c2 hwe HW3 HE2 HM2 HZ2 HO2 hM3 hz3 ho3
  refine (sees_eye B l i 0 _ ⟨#[91]⟩ w3 hE3).mono ?_
  rintro r w4 ⟨rfl, q1, q2⟩
  have hsg : seesB l i 0 (ByteArray.mk #[91]).data.toList = false := HSg.out
  rw [hsg] at q1
  try rw [hsg]
  have HQ1 : Hid (EyeAt B l i 0 ((d + 1 : Nat) : Int) w4) := q1
  have HQ2 := veil q2
  clear q1 q2 hE3 hw3
  go_wp2_with fail
  refine (HOne.out w4 HQ1.out).mono ?_
  rintro r w5 ⟨rfl, q1, q2⟩
  have hs5 : w3.heap.size ≤ w5.heap.size := Nat.le_trans HQ2.out.below.size q2.below.size
  have HM6 : Hid (Moved B w3 (w5.alloc (.cells #[.int .i64 1, .string tx] 90))) := (HQ2.out.trans q2).alloc (by omega) _
  have HE6 := veil (ey_alloc q1 (.cells #[.int .i64 1, .string tx] 90))
  have hM6 := HM6.out
  have hz6 := (hM6.above w.heap.size hlt (by omega)).trans HZ3.out
  have ho6 := (hM6.above w1.heap.size (by omega) (by omega)).trans HO3.out
  have hw6 : ∃ w6, w5.alloc (.cells #[.int .i64 1, .string tx] 90) = w6 ∧ w6.cell? ⟨w5.heap.size, 0, none⟩ = some (.int .i64 1) ∧ w6.cell? ⟨w5.heap.size, 1, none⟩ = some (.string tx) := ⟨_, rfl, World.cell?_alloc_at _ _ _ _ rfl, World.cell?_alloc_at _ _ _ _ rfl⟩
  obtain ⟨w6, hwe6, u0, u1⟩ := hw6
  rw [hwe6] at HM6 HE6 hM6 hz6 ho6
  obtain ⟨⟨r0, r1, r2, r3⟩, ⟨o0, o1, o2, o3⟩, ⟨g0, g1, g2, g3⟩, ⟨x0, x1, x2, x3⟩⟩ := kind_cells hz6 ho6
  have hc3 : w6.cell? ⟨B, 3, none⟩ = some (.int .i64 ((d : Int) + 1)) ∧ w6.frozen? ⟨B, 3, none⟩ = false := by
    obtain ⟨_, _, _, _, _, c3, _, _, f3, _⟩ := ey_cells HE6.out
    exact ⟨c3, f3⟩
  obtain ⟨c3, f3⟩ := hc3
  have hzK : (w6.setCell ⟨w1.heap.size, 0, none⟩ (.int .i64 1)).heap[w.heap.size]? = some (.cells #[.int .i64 0, .string ⟨#[]⟩, .string ⟨#[]⟩, .slice none 0 0] 49 (0, 0)) := (Below.heap_setCell _ _ _ _ (by show w.heap.size ≠ w1.heap.size; omega)).trans hz6
  have HFin := veil (kind_fin (ey_far HE6.out (c := w1.heap.size) (by omega) 0 (.int .i64 1)) (mv_far (HM3.out.trans hM6) (c := w1.heap.size) (by omega) (by omega) 0 (.int .i64 1)) hlt hzK (.int .i64 1) (.string ⟨#[]⟩) (.string ⟨#[]⟩) (.slice none 0 0))
  have b1 : w1.heap.size ≠ B := by omega
  have b2 : w.heap.size ≠ B := by omega
  have b3 : B ≠ w.heap.size := by omega
  have b4 : w1.heap.size ≠ w.heap.size := by omega
  have b6 : w.heap.size ≠ w1.heap.size := by omega
  have b7 : w1.heap.size ≠ w5.heap.size := by omega
  have b8 : w5.heap.size ≠ w1.heap.size := by omega
  have hd' : (d : Int) < 40 := by omega
  have hd0 : (0 : Int) ≤ (d : Int) := by omega
  clear q1 q2 HQ1 HQ2 HOne hM6 hz6 ho6 hzK HM6 HE6 HM3 HZ3 HO3
  go_wp2_with fail
  try rw [hwe6]
  obtain ⟨F, hF, hEF, hMF, y0, y1, y2, y3⟩ := HFin.out
  rw [hF]
  exact bodyPost_ret (v := .agg #[.int .i64 1, .string ⟨#[]⟩, .string ⟨#[]⟩, .slice none 0 0]) (by simp [results, Tryz.results48, go_sem, y0, y1, y2, y3]) rfl ⟨hMF, 1, _, _, none, 0, 0, rfl, Or.inl ⟨_, _, HPt.out, hEF, [], rfl, empty_le, empty_le, none_sl⟩⟩

set_option maxHeartbeats 8000000 in
theorem kind_text (B : Nat) (l : Toks) (i d f : Nat) (hd : d < 40) (tx : ByteArray) (w : World) (h : EyeAt B l i 0 d w) (hs : sgn l i [91] = false)
    (hone : ∀ W, EyeAt B l i 0 ((d + 1 : Nat) : Int) W → Calls Tryz.prog 45 #[.pointer (some ⟨B, 0, none⟩)] W fun r w' => r = .returned (.agg #[.int .i64 1, .string tx]) ∧ EyeAt B l (i + 1) 0 ((d + 1 : Nat) : Int) w' ∧ Moved B W w') (hi : (tx.toList == [105, 110, 116]) = false) (ht : (tx.toList == [116, 101, 120, 116]) = true) (hp : pTy l (f + 1) i = .ok (.mk 2 emptyText emptyText []) (i + 1)) :
    Calls Tryz.prog 48 #[.pointer (some ⟨B, 0, none⟩)] w (KindR B l i d (f + 1) w) := by
  have hlt := ey_lt h
  have HH := veil (ey_alloc h (.cells #[.int .i64 0, .string ⟨#[]⟩, .string ⟨#[]⟩, .slice none 0 0] 49))
  have HM : Hid (Moved B w (w.alloc (.cells #[.int .i64 0, .string ⟨#[]⟩, .string ⟨#[]⟩, .slice none 0 0] 49))) := Moved.of_below ((Below.refl _ _).alloc (Nat.le_refl _) _) (by omega)
  have HOne := veil hone
  have HPt := veil hp
  have HSg : Hid (seesB l i 0 [91] = false) := by show _ = _; unfold seesB; simp [hs]
  clear h hone hp hs
  go_enter Tryz.func48, Tryz.ntmps48
  go_wp2_with fail
  refine (down_eye B l i 0 d (by omega) _ HH.out).mono ?_
  rintro r w1 ⟨rfl, q1, q2⟩
  rw [if_neg (by omega)] at q1
  have hs1 : w.heap.size + 1 ≤ w1.heap.size := by have := q2.below.size; simpa using this
  have hz1 : w1.heap[w.heap.size]? = some (.cells #[.int .i64 0, .string ⟨#[]⟩, .string ⟨#[]⟩, .slice none 0 0] 49 (0, 0)) := (q2.above w.heap.size hlt (by simp)).trans (heap_alloc_new w _)
  have hw2 : ∃ w2, ((((w1.alloc (.cells #[.int .i64 0, .string ⟨#[]⟩, .string ⟨#[]⟩, .slice none 0 0] 49)))) = w2) ∧ EyeAt B l i 0 ((d + 1 : Nat) : Int) w2 ∧ Moved B w w2 ∧ w2.heap[w.heap.size]? = some (.cells #[.int .i64 0, .string ⟨#[]⟩, .string ⟨#[]⟩, .slice none 0 0] 49 (0, 0)) ∧ w2.heap[w1.heap.size]? = some (.cells #[.int .i64 0, .string ⟨#[]⟩, .string ⟨#[]⟩, .slice none 0 0] 49 (0, 0)) :=
    ⟨_, rfl, ey_alloc q1 _, (HM.out.trans q2).alloc (by omega) _, (heap_alloc_old _ _ (by omega)).trans hz1, heap_alloc_new w1 _⟩
  obtain ⟨w2, hwe, hE2, hM2, hz2, ho2⟩ := hw2
  have c2 : w2.cell? ⟨B, 2, none⟩ = some (.int .i64 0) := by
    obtain ⟨_, _, _, _, c2, _⟩ := ey_cells hE2
    exact c2
  have HE2 := veil hE2
  have HM2 := veil hM2
  have HZ2 := veil hz2
  have HO2 := veil ho2
  clear q1 q2 hz1 hE2 hM2
  have b5 : B ≠ w1.heap.size := by omega
  have HW3 : Hid (∃ w3, ((((w2.setCell ⟨w1.heap.size, 0, none⟩ (.int .i64 0)).setCell ⟨w1.heap.size, 1, none⟩ (.string ⟨#[]⟩)).setCell ⟨w1.heap.size, 2, none⟩ (.string ⟨#[]⟩)).setCell ⟨w1.heap.size, 3, none⟩ (.slice none 0 0)) = w3 ∧ EyeAt B l i 0 ((d + 1 : Nat) : Int) w3 ∧ Moved B w w3 ∧ w3.heap[w.heap.size]? = some (.cells #[.int .i64 0, .string ⟨#[]⟩, .string ⟨#[]⟩, .slice none 0 0] 49 (0, 0)) ∧ w3.heap[w1.heap.size]? = some (.cells #[.int .i64 0, .string ⟨#[]⟩, .string ⟨#[]⟩, .slice none 0 0] 49 (0, 0))) := by
    refine ⟨_, rfl, ey_far (ey_far (ey_far (ey_far HE2.out (c := w1.heap.size) (by omega) 0 _) (c := w1.heap.size) (by omega) 1 _) (c := w1.heap.size) (by omega) 2 _) (c := w1.heap.size) (by omega) 3 _, mv_far (mv_far (mv_far (mv_far HM2.out (c := w1.heap.size) (by omega) (by omega) 0 _) (c := w1.heap.size) (by omega) (by omega) 1 _) (c := w1.heap.size) (by omega) (by omega) 2 _) (c := w1.heap.size) (by omega) (by omega) 3 _, ?_, four_set HO2.out _ _ _ _⟩
    rw [Below.heap_setCell _ _ _ _ (by show w.heap.size ≠ w1.heap.size; omega), Below.heap_setCell _ _ _ _ (by show w.heap.size ≠ w1.heap.size; omega), Below.heap_setCell _ _ _ _ (by show w.heap.size ≠ w1.heap.size; omega), Below.heap_setCell _ _ _ _ (by show w.heap.size ≠ w1.heap.size; omega)]
    exact HZ2.out
  obtain ⟨⟨r0, r1, r2, r3⟩, ⟨o0, o1, o2, o3⟩, _, ⟨x0, x1, x2, x3⟩⟩ := kind_cells hz2 ho2
  clear hz2 ho2 r0 r1 r2 r3
  go_wp2_with fail
  try rw [hwe]
  obtain ⟨w3, hw3, hE3, hM3, hz3, ho3⟩ := HW3.out
  rw [hw3]
  have HM3 := veil hM3
  have HZ3 := veil hz3
  have HO3 := veil ho3
  have hs3 : w1.heap.size < w3.heap.size := by rcases Nat.lt_or_ge w1.heap.size w3.heap.size with h' | h'; exact h'; rw [Array.getElem?_eq_none h'] at ho3; cases ho3
  clear o0 o1 o2 o3 x0 x1 x2 x3 c2 hwe HW3 HE2 HM2 HZ2 HO2 hM3 hz3 ho3
  refine (sees_eye B l i 0 _ ⟨#[91]⟩ w3 hE3).mono ?_
  rintro r w4 ⟨rfl, q1, q2⟩
  have hsg : seesB l i 0 (ByteArray.mk #[91]).data.toList = false := HSg.out
  rw [hsg] at q1
  try rw [hsg]
  have HQ1 : Hid (EyeAt B l i 0 ((d + 1 : Nat) : Int) w4) := q1
  have HQ2 := veil q2
  clear q1 q2 hE3 hw3
  go_wp2_with fail
  refine (HOne.out w4 HQ1.out).mono ?_
  rintro r w5 ⟨rfl, q1, q2⟩
  have hs5 : w3.heap.size ≤ w5.heap.size := Nat.le_trans HQ2.out.below.size q2.below.size
  have HM6 : Hid (Moved B w3 (w5.alloc (.cells #[.int .i64 1, .string tx] 90))) := (HQ2.out.trans q2).alloc (by omega) _
  have HE6 := veil (ey_alloc q1 (.cells #[.int .i64 1, .string tx] 90))
  have hM6 := HM6.out
  have hz6 := (hM6.above w.heap.size hlt (by omega)).trans HZ3.out
  have ho6 := (hM6.above w1.heap.size (by omega) (by omega)).trans HO3.out
  have hw6 : ∃ w6, w5.alloc (.cells #[.int .i64 1, .string tx] 90) = w6 ∧ w6.cell? ⟨w5.heap.size, 0, none⟩ = some (.int .i64 1) ∧ w6.cell? ⟨w5.heap.size, 1, none⟩ = some (.string tx) := ⟨_, rfl, World.cell?_alloc_at _ _ _ _ rfl, World.cell?_alloc_at _ _ _ _ rfl⟩
  obtain ⟨w6, hwe6, u0, u1⟩ := hw6
  rw [hwe6] at HM6 HE6 hM6 hz6 ho6
  obtain ⟨⟨r0, r1, r2, r3⟩, ⟨o0, o1, o2, o3⟩, ⟨g0, g1, g2, g3⟩, ⟨x0, x1, x2, x3⟩⟩ := kind_cells hz6 ho6
  have hc3 : w6.cell? ⟨B, 3, none⟩ = some (.int .i64 ((d : Int) + 1)) ∧ w6.frozen? ⟨B, 3, none⟩ = false := by
    obtain ⟨_, _, _, _, _, c3, _, _, f3, _⟩ := ey_cells HE6.out
    exact ⟨c3, f3⟩
  obtain ⟨c3, f3⟩ := hc3
  have hzK : (w6.setCell ⟨w1.heap.size, 0, none⟩ (.int .i64 2)).heap[w.heap.size]? = some (.cells #[.int .i64 0, .string ⟨#[]⟩, .string ⟨#[]⟩, .slice none 0 0] 49 (0, 0)) := (Below.heap_setCell _ _ _ _ (by show w.heap.size ≠ w1.heap.size; omega)).trans hz6
  have HFin := veil (kind_fin (ey_far HE6.out (c := w1.heap.size) (by omega) 0 (.int .i64 2)) (mv_far (HM3.out.trans hM6) (c := w1.heap.size) (by omega) (by omega) 0 (.int .i64 2)) hlt hzK (.int .i64 2) (.string ⟨#[]⟩) (.string ⟨#[]⟩) (.slice none 0 0))
  have b1 : w1.heap.size ≠ B := by omega
  have b2 : w.heap.size ≠ B := by omega
  have b3 : B ≠ w.heap.size := by omega
  have b4 : w1.heap.size ≠ w.heap.size := by omega
  have b6 : w.heap.size ≠ w1.heap.size := by omega
  have b7 : w1.heap.size ≠ w5.heap.size := by omega
  have b8 : w5.heap.size ≠ w1.heap.size := by omega
  have hd' : (d : Int) < 40 := by omega
  have hd0 : (0 : Int) ≤ (d : Int) := by omega
  clear q1 q2 HQ1 HQ2 HOne hM6 hz6 ho6 hzK HM6 HE6 HM3 HZ3 HO3
  go_wp2_with fail
  try rw [hwe6]
  obtain ⟨F, hF, hEF, hMF, y0, y1, y2, y3⟩ := HFin.out
  rw [hF]
  exact bodyPost_ret (v := .agg #[.int .i64 2, .string ⟨#[]⟩, .string ⟨#[]⟩, .slice none 0 0]) (by simp [results, Tryz.results48, go_sem, y0, y1, y2, y3]) rfl ⟨hMF, 2, _, _, none, 0, 0, rfl, Or.inl ⟨_, _, HPt.out, hEF, [], rfl, empty_le, empty_le, none_sl⟩⟩

end Go.Proofs.YtpamadnckijfkabGreatDoor
