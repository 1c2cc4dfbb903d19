import Derived.Test.YtagbaimfigljiaaGreatDoorJModuleUses22
namespace Go.Proofs.YtagbaimfigljiaaGreatDoor
open Go.RowKit
set_option maxRecDepth 100000

set_option maxHeartbeats 8000000 in
theorem kind_word (B : Nat) (l : Toks) (i d f : Nat) (hd : d < 40) (tx : ByteArray) (hsz : tx.size ≤ maxLen) (hi : (tx.toList == [105, 110, 116]) = false) (ht : (tx.toList == [116, 101, 120, 116]) = false) (w : World) (h : EyeAt B l i 0 d w) (hs : sgn l i [91] = false)
    (hone : ∀ W, EyeAt B l i 0 ((d + 1 : Nat) : Int) W → Calls Tryz.prog 140 #[.pointer (some ⟨B, 0, none⟩)] W fun r w' => r = .returned (.agg #[.int .i64 1, .string tx]) ∧ EyeAt B l (i + 1) 0 ((d + 1 : Nat) : Int) w' ∧ Moved B W w') (hid : identOk tx = false) (hp : pTy l (f + 1) i = .bad 4) :
    Calls Tryz.prog 143 #[.pointer (some ⟨B, 0, none⟩)] w (KindR B l i d (f + 1) w) := by
  have hlt := ey_lt h
  have HH := veil (ey_alloc h (.cells #[.int .i64 0, .string ⟨#[]⟩, .string ⟨#[]⟩, .slice none 0 0] 84))
  have HM : Hid (Moved B w (w.alloc (.cells #[.int .i64 0, .string ⟨#[]⟩, .string ⟨#[]⟩, .slice none 0 0] 84))) := Moved.of_below ((Below.refl _ _).alloc (Nat.le_refl _) _) (by omega)
  have HOne := veil hone
  have HPt := veil hp
  have HSg : Hid (seesB l i 0 [91] = false) := by show _ = _; unfold seesB; simp [hs]
  clear h hone hp hs
  go_enter Tryz.func143, Tryz.ntmps143
  go_wp2_with fail
  refine (down_eye B l i 0 d (by omega) _ HH.out).mono ?_
  rintro r w1 ⟨rfl, q1, q2⟩
  rw [if_neg (by omega)] at q1
  have hs1 : w.heap.size + 1 ≤ w1.heap.size := by have := q2.below.size; simpa using this
  have hz1 : w1.heap[w.heap.size]? = some (.cells #[.int .i64 0, .string ⟨#[]⟩, .string ⟨#[]⟩, .slice none 0 0] 84 (0, 0)) := (q2.above w.heap.size hlt (by simp)).trans (heap_alloc_new w _)
  have hw2 : ∃ w2, ((((w1.alloc (.cells #[.int .i64 0, .string ⟨#[]⟩, .string ⟨#[]⟩, .slice none 0 0] 84)))) = w2) ∧ EyeAt B l i 0 ((d + 1 : Nat) : Int) w2 ∧ Moved B w w2 ∧ w2.heap[w.heap.size]? = some (.cells #[.int .i64 0, .string ⟨#[]⟩, .string ⟨#[]⟩, .slice none 0 0] 84 (0, 0)) ∧ w2.heap[w1.heap.size]? = some (.cells #[.int .i64 0, .string ⟨#[]⟩, .string ⟨#[]⟩, .slice none 0 0] 84 (0, 0)) :=
    ⟨_, rfl, ey_alloc q1 _, (HM.out.trans q2).alloc (by omega) _, (heap_alloc_old _ _ (by omega)).trans hz1, heap_alloc_new w1 _⟩
  obtain ⟨w2, hwe, hE2, hM2, hz2, ho2⟩ := hw2
  have c2 : w2.cell? ⟨B, 2, none⟩ = some (.int .i64 0) := by
    obtain ⟨_, _, _, _, c2, _⟩ := ey_cells hE2
    exact c2
  have HE2 := veil hE2
  have HM2 := veil hM2
  have HZ2 := veil hz2
  have HO2 := veil ho2
  clear q1 q2 hz1 hE2 hM2
  have b5 : B ≠ w1.heap.size := by omega
  have HW3 : Hid (∃ w3, ((((w2.setCell ⟨w1.heap.size, 0, none⟩ (.int .i64 0)).setCell ⟨w1.heap.size, 1, none⟩ (.string ⟨#[]⟩)).setCell ⟨w1.heap.size, 2, none⟩ (.string ⟨#[]⟩)).setCell ⟨w1.heap.size, 3, none⟩ (.slice none 0 0)) = w3 ∧ EyeAt B l i 0 ((d + 1 : Nat) : Int) w3 ∧ Moved B w w3 ∧ w3.heap[w.heap.size]? = some (.cells #[.int .i64 0, .string ⟨#[]⟩, .string ⟨#[]⟩, .slice none 0 0] 84 (0, 0)) ∧ w3.heap[w1.heap.size]? = some (.cells #[.int .i64 0, .string ⟨#[]⟩, .string ⟨#[]⟩, .slice none 0 0] 84 (0, 0))) := by
    refine ⟨_, rfl, ey_far (ey_far (ey_far (ey_far HE2.out (c := w1.heap.size) (by omega) 0 _) (c := w1.heap.size) (by omega) 1 _) (c := w1.heap.size) (by omega) 2 _) (c := w1.heap.size) (by omega) 3 _, mv_far (mv_far (mv_far (mv_far HM2.out (c := w1.heap.size) (by omega) (by omega) 0 _) (c := w1.heap.size) (by omega) (by omega) 1 _) (c := w1.heap.size) (by omega) (by omega) 2 _) (c := w1.heap.size) (by omega) (by omega) 3 _, ?_, four_set HO2.out _ _ _ _⟩
    rw [Below.heap_setCell _ _ _ _ (by show w.heap.size ≠ w1.heap.size; omega), Below.heap_setCell _ _ _ _ (by show w.heap.size ≠ w1.heap.size; omega), Below.heap_setCell _ _ _ _ (by show w.heap.size ≠ w1.heap.size; omega), Below.heap_setCell _ _ _ _ (by show w.heap.size ≠ w1.heap.size; omega)]
    exact HZ2.out
  obtain ⟨⟨r0, r1, r2, r3⟩, ⟨o0, o1, o2, o3⟩, _, ⟨x0, x1, x2, x3⟩⟩ := kind_cells hz2 ho2
  clear hz2 ho2 r0 r1 r2 r3
  go_wp2_with fail
  try rw [hwe]
  obtain ⟨w3, hw3, hE3, hM3, hz3, ho3⟩ := HW3.out
  rw [hw3]
  have HM3 := veil hM3
  have HZ3 := veil hz3
  have HO3 := veil ho3
  have hs3 : w1.heap.size < w3.heap.size := by rcases Nat.lt_or_ge w1.heap.size w3.heap.size with h' | h'; exact h'; rw [Array.getElem?_eq_none h'] at ho3; cases ho3
  clear o0 o1 o2 o3 x0 x1 x2 x3 c2 hwe HW3 HE2 HM2 HZ2 HO2 hM3 hz3 ho3
  refine (sees_eye B l i 0 _ ⟨#[91]⟩ w3 hE3).mono ?_
  rintro r w4 ⟨rfl, q1, q2⟩
  have hsg : seesB l i 0 (ByteArray.mk #[91]).data.toList = false := HSg.out
  rw [hsg] at q1
  try rw [hsg]
  have HQ1 : Hid (EyeAt B l i 0 ((d + 1 : Nat) : Int) w4) := q1
  have HQ2 := veil q2
  clear q1 q2 hE3 hw3
  go_wp2_with fail
  refine (HOne.out w4 HQ1.out).mono ?_
  rintro r w5 ⟨rfl, q1, q2⟩
  have hs5 : w3.heap.size ≤ w5.heap.size := Nat.le_trans HQ2.out.below.size q2.below.size
  have HM6 : Hid (Moved B w3 (w5.alloc (.cells #[.int .i64 1, .string tx] 199))) := (HQ2.out.trans q2).alloc (by omega) _
  have HE6 := veil (ey_alloc q1 (.cells #[.int .i64 1, .string tx] 199))
  have hw6 : ∃ w6, w5.alloc (.cells #[.int .i64 1, .string tx] 199) = w6 ∧ w6.cell? ⟨w5.heap.size, 0, none⟩ = some (.int .i64 1) ∧ w6.cell? ⟨w5.heap.size, 1, none⟩ = some (.string tx) ∧ w5.heap.size < w6.heap.size := ⟨_, rfl, World.cell?_alloc_at _ _ _ _ rfl, World.cell?_alloc_at _ _ _ _ rfl, by simp⟩
  obtain ⟨w6, hwe6, u0, u1, hs6⟩ := hw6
  rw [hwe6] at HM6 HE6
  have HZ6 := veil ((HM6.out.above w.heap.size hlt (by omega)).trans HZ3.out)
  have HO6 := veil ((HM6.out.above w1.heap.size (by omega) (by omega)).trans HO3.out)
  have HMw := veil (HM3.out.trans HM6.out)
  have b1 : w1.heap.size ≠ B := by omega
  have b2 : w.heap.size ≠ B := by omega
  have b3 : B ≠ w.heap.size := by omega
  have b4 : w1.heap.size ≠ w.heap.size := by omega
  have b6 : w.heap.size ≠ w1.heap.size := by omega
  have b7 : w1.heap.size ≠ w5.heap.size := by omega
  have b8 : w5.heap.size ≠ w1.heap.size := by omega
  have b9 : w5.heap.size ≠ B := by omega
  have b10 : B ≠ w5.heap.size := by omega
  have hd' : (d : Int) < 40 := by omega
  have hd0 : (0 : Int) ≤ (d : Int) := by omega
  clear q1 q2 HQ1 HQ2 HOne HM6 HM3 HZ3 HO3
  go_wp2_with fail
  try rw [hwe6]
  refine (nameMay_any tx hsz _).mono ?_
  rintro r wx ⟨rfl, rfl⟩
  rw [hid]
  go_wp2_with fail
  try rw [hwe6]
  refine (bad_eye B l _ 0 _ 4 w6 HE6.out).mono ?_
  rintro r w7 ⟨rfl, q1, q2⟩
  have hEL : EyeAt B l (i + 1) 4 ((d + 1 : Nat) : Int) w7 := q1
  have hM7 := HMw.out.trans q2
  have hs7 := q2.below.size
  have hzL := (q2.above w.heap.size hlt (by omega)).trans HZ6.out
  have hoL := (q2.above w1.heap.size (by omega) (by omega)).trans HO6.out
  obtain ⟨⟨r0, r1, r2, r3⟩, ⟨o0, o1, o2, o3⟩, ⟨g0, g1, g2, g3⟩, _⟩ := kind_cells hzL hoL
  have hc3 : w7.cell? ⟨B, 3, none⟩ = some (.int .i64 ((d : Int) + 1)) ∧ w7.frozen? ⟨B, 3, none⟩ = false := by
    obtain ⟨_, _, _, _, _, c3, _, _, f3, _⟩ := ey_cells hEL
    exact ⟨c3, f3⟩
  obtain ⟨c3, f3⟩ := hc3
  have HFin := veil (kind_fin hEL hM7 hlt hzL (.int .i64 0) (.string ⟨#[]⟩) (.string ⟨#[]⟩) (.slice none 0 0))
  clear q1 q2 hEL hM7 hzL hoL HE6 HZ6 HO6 HMw u0 u1 hwe6
  go_wp2_with fail
  obtain ⟨F, hF, hEF, hMF, y0, y1, y2, y3⟩ := HFin.out
  rw [hF]
  exact bodyPost_ret (v := .agg #[.int .i64 0, .string ⟨#[]⟩, .string ⟨#[]⟩, .slice none 0 0]) (by simp [results, Tryz.results143, go_sem, y0, y1, y2, y3]) rfl ⟨hMF, 0, _, _, none, 0, 0, rfl, Or.inr ⟨4, _, HPt.out, by decide, hEF⟩⟩

set_option maxHeartbeats 8000000 in
theorem kind_name (B : Nat) (l : Toks) (i d f : Nat) (hd : d < 40) (tx : ByteArray) (hsz : tx.size ≤ maxLen) (hi : (tx.toList == [105, 110, 116]) = false) (ht : (tx.toList == [116, 101, 120, 116]) = false) (w : World) (h : EyeAt B l i 0 d w) (hs : sgn l i [91] = false)
    (hone : ∀ W, EyeAt B l i 0 ((d + 1 : Nat) : Int) W → Calls Tryz.prog 140 #[.pointer (some ⟨B, 0, none⟩)] W fun r w' => r = .returned (.agg #[.int .i64 1, .string tx]) ∧ EyeAt B l (i + 1) 0 ((d + 1 : Nat) : Int) w' ∧ Moved B W w') (hid : identOk tx = true) (hdot : sgn l (i + 1) [46] = false) (hp : pTy l (f + 1) i = .ok (.mk 4 emptyText tx []) (i + 1)) :
    Calls Tryz.prog 143 #[.pointer (some ⟨B, 0, none⟩)] w (KindR B l i d (f + 1) w) := by
  have hlt := ey_lt h
  have HH := veil (ey_alloc h (.cells #[.int .i64 0, .string ⟨#[]⟩, .string ⟨#[]⟩, .slice none 0 0] 84))
  have HM : Hid (Moved B w (w.alloc (.cells #[.int .i64 0, .string ⟨#[]⟩, .string ⟨#[]⟩, .slice none 0 0] 84))) := Moved.of_below ((Below.refl _ _).alloc (Nat.le_refl _) _) (by omega)
  have HOne := veil hone
  have HPt := veil hp
  have HSg : Hid (seesB l i 0 [91] = false) := by show _ = _; unfold seesB; simp [hs]
  clear h hone hp hs
  go_enter Tryz.func143, Tryz.ntmps143
  go_wp2_with fail
  refine (down_eye B l i 0 d (by omega) _ HH.out).mono ?_
  rintro r w1 ⟨rfl, q1, q2⟩
  rw [if_neg (by omega)] at q1
  have hs1 : w.heap.size + 1 ≤ w1.heap.size := by have := q2.below.size; simpa using this
  have hz1 : w1.heap[w.heap.size]? = some (.cells #[.int .i64 0, .string ⟨#[]⟩, .string ⟨#[]⟩, .slice none 0 0] 84 (0, 0)) := (q2.above w.heap.size hlt (by simp)).trans (heap_alloc_new w _)
  have hw2 : ∃ w2, ((((w1.alloc (.cells #[.int .i64 0, .string ⟨#[]⟩, .string ⟨#[]⟩, .slice none 0 0] 84)))) = w2) ∧ EyeAt B l i 0 ((d + 1 : Nat) : Int) w2 ∧ Moved B w w2 ∧ w2.heap[w.heap.size]? = some (.cells #[.int .i64 0, .string ⟨#[]⟩, .string ⟨#[]⟩, .slice none 0 0] 84 (0, 0)) ∧ w2.heap[w1.heap.size]? = some (.cells #[.int .i64 0, .string ⟨#[]⟩, .string ⟨#[]⟩, .slice none 0 0] 84 (0, 0)) :=
    ⟨_, rfl, ey_alloc q1 _, (HM.out.trans q2).alloc (by omega) _, (heap_alloc_old _ _ (by omega)).trans hz1, heap_alloc_new w1 _⟩
  obtain ⟨w2, hwe, hE2, hM2, hz2, ho2⟩ := hw2
  have c2 : w2.cell? ⟨B, 2, none⟩ = some (.int .i64 0) := by
    obtain ⟨_, _, _, _, c2, _⟩ := ey_cells hE2
    exact c2
  have HE2 := veil hE2
  have HM2 := veil hM2
  have HZ2 := veil hz2
  have HO2 := veil ho2
  clear q1 q2 hz1 hE2 hM2
  have b5 : B ≠ w1.heap.size := by omega
  have HW3 : Hid (∃ w3, ((((w2.setCell ⟨w1.heap.size, 0, none⟩ (.int .i64 0)).setCell ⟨w1.heap.size, 1, none⟩ (.string ⟨#[]⟩)).setCell ⟨w1.heap.size, 2, none⟩ (.string ⟨#[]⟩)).setCell ⟨w1.heap.size, 3, none⟩ (.slice none 0 0)) = w3 ∧ EyeAt B l i 0 ((d + 1 : Nat) : Int) w3 ∧ Moved B w w3 ∧ w3.heap[w.heap.size]? = some (.cells #[.int .i64 0, .string ⟨#[]⟩, .string ⟨#[]⟩, .slice none 0 0] 84 (0, 0)) ∧ w3.heap[w1.heap.size]? = some (.cells #[.int .i64 0, .string ⟨#[]⟩, .string ⟨#[]⟩, .slice none 0 0] 84 (0, 0))) := by
    refine ⟨_, rfl, ey_far (ey_far (ey_far (ey_far HE2.out (c := w1.heap.size) (by omega) 0 _) (c := w1.heap.size) (by omega) 1 _) (c := w1.heap.size) (by omega) 2 _) (c := w1.heap.size) (by omega) 3 _, mv_far (mv_far (mv_far (mv_far HM2.out (c := w1.heap.size) (by omega) (by omega) 0 _) (c := w1.heap.size) (by omega) (by omega) 1 _) (c := w1.heap.size) (by omega) (by omega) 2 _) (c := w1.heap.size) (by omega) (by omega) 3 _, ?_, four_set HO2.out _ _ _ _⟩
    rw [Below.heap_setCell _ _ _ _ (by show w.heap.size ≠ w1.heap.size; omega), Below.heap_setCell _ _ _ _ (by show w.heap.size ≠ w1.heap.size; omega), Below.heap_setCell _ _ _ _ (by show w.heap.size ≠ w1.heap.size; omega), Below.heap_setCell _ _ _ _ (by show w.heap.size ≠ w1.heap.size; omega)]
    exact HZ2.out
  obtain ⟨⟨r0, r1, r2, r3⟩, ⟨o0, o1, o2, o3⟩, _, ⟨x0, x1, x2, x3⟩⟩ := kind_cells hz2 ho2
  clear hz2 ho2 r0 r1 r2 r3
  go_wp2_with fail
  try rw [hwe]
  obtain ⟨w3, hw3, hE3, hM3, hz3, ho3⟩ := HW3.out
  rw [hw3]
  have HM3 := veil hM3
  have HZ3 := veil hz3
  have HO3 := veil ho3
  have hs3 : w1.heap.size < w3.heap.size := by rcases Nat.lt_or_ge w1.heap.size w3.heap.size with h' | h'; exact h'; rw [Array.getElem?_eq_none h'] at ho3; cases ho3
  clear o0 o1 o2 o3 x0 x1 x2 x3 c2 hwe HW3 HE2 HM2 HZ2 HO2 hM3 hz3 ho3
  refine (sees_eye B l i 0 _ ⟨#[91]⟩ w3 hE3).mono ?_
  rintro r w4 ⟨rfl, q1, q2⟩
  have hsg : seesB l i 0 (ByteArray.mk #[91]).data.toList = false := HSg.out
  rw [hsg] at q1
  try rw [hsg]
  have HQ1 : Hid (EyeAt B l i 0 ((d + 1 : Nat) : Int) w4) := q1
  have HQ2 := veil q2
  clear q1 q2 hE3 hw3
  go_wp2_with fail
  refine (HOne.out w4 HQ1.out).mono ?_
  rintro r w5 ⟨rfl, q1, q2⟩
  have hs5 : w3.heap.size ≤ w5.heap.size := Nat.le_trans HQ2.out.below.size q2.below.size
  have HM6 : Hid (Moved B w3 (w5.alloc (.cells #[.int .i64 1, .string tx] 199))) := (HQ2.out.trans q2).alloc (by omega) _
  have HE6 := veil (ey_alloc q1 (.cells #[.int .i64 1, .string tx] 199))
  have hw6 : ∃ w6, w5.alloc (.cells #[.int .i64 1, .string tx] 199) = w6 ∧ w6.cell? ⟨w5.heap.size, 0, none⟩ = some (.int .i64 1) ∧ w6.cell? ⟨w5.heap.size, 1, none⟩ = some (.string tx) ∧ w5.heap.size < w6.heap.size := ⟨_, rfl, World.cell?_alloc_at _ _ _ _ rfl, World.cell?_alloc_at _ _ _ _ rfl, by simp⟩
  obtain ⟨w6, hwe6, u0, u1, hs6⟩ := hw6
  rw [hwe6] at HM6 HE6
  have HZ6 := veil ((HM6.out.above w.heap.size hlt (by omega)).trans HZ3.out)
  have HO6 := veil ((HM6.out.above w1.heap.size (by omega) (by omega)).trans HO3.out)
  have HMw := veil (HM3.out.trans HM6.out)
  have b1 : w1.heap.size ≠ B := by omega
  have b2 : w.heap.size ≠ B := by omega
  have b3 : B ≠ w.heap.size := by omega
  have b4 : w1.heap.size ≠ w.heap.size := by omega
  have b6 : w.heap.size ≠ w1.heap.size := by omega
  have b7 : w1.heap.size ≠ w5.heap.size := by omega
  have b8 : w5.heap.size ≠ w1.heap.size := by omega
  have b9 : w5.heap.size ≠ B := by omega
  have b10 : B ≠ w5.heap.size := by omega
  have hd' : (d : Int) < 40 := by omega
  have hd0 : (0 : Int) ≤ (d : Int) := by omega
  clear q1 q2 HQ1 HQ2 HOne HM6 HM3 HZ3 HO3
  go_wp2_with fail
  try rw [hwe6]
  refine (nameMay_any tx hsz _).mono ?_
  rintro r wx ⟨rfl, rfl⟩
  rw [hid]
  have HW7 : Hid (∃ w7, ((w6.setCell ⟨w1.heap.size, 0, none⟩ (.int .i64 4)).setCell ⟨w1.heap.size, 2, none⟩ (.string tx)) = w7 ∧ EyeAt B l (i + 1) 0 ((d + 1 : Nat) : Int) w7 ∧ Moved B w w7 ∧ w7.heap[w.heap.size]? = some (.cells #[.int .i64 0, .string ⟨#[]⟩, .string ⟨#[]⟩, .slice none 0 0] 84 (0, 0)) ∧ w7.heap[w1.heap.size]? = some (.cells #[.int .i64 4, .string ⟨#[]⟩, .string tx, .slice none 0 0] 84 (0, 0)) ∧ w7.heap.size = w6.heap.size ∧ w7.cell? ⟨w5.heap.size, 1, none⟩ = some (.string tx)) := by
    refine ⟨_, rfl, ey_far (ey_far HE6.out (c := w1.heap.size) (by omega) 0 _) (c := w1.heap.size) (by omega) 2 _, mv_far (mv_far HMw.out (c := w1.heap.size) (by omega) (by omega) 0 _) (c := w1.heap.size) (by omega) (by omega) 2 _, ?_, block_set (block_set HO6.out 0 _) 2 _, by rw [heap_size_setCell, heap_size_setCell], ?_⟩
    · rw [Below.heap_setCell _ _ _ _ (by show w.heap.size ≠ w1.heap.size; omega), Below.heap_setCell _ _ _ _ (by show w.heap.size ≠ w1.heap.size; omega)]
      exact HZ6.out
    · rw [World.cell?_setCell_other _ _ _ _ (by intro h; injection h with h _ _; omega), World.cell?_setCell_other _ _ _ _ (by intro h; injection h with h _ _; omega)]
      exact u1
  obtain ⟨_, ⟨o0, o1, o2, o3⟩, _, ⟨x0, x1, x2, x3⟩⟩ := kind_cells HZ6.out HO6.out
  go_wp2_with fail
  try rw [hwe6]
  obtain ⟨w7, hw7, hE7, hM7, hz7, ho7, hs7, u7⟩ := HW7.out
  rw [hw7]
  have HM7 := veil hM7
  have HZ7 := veil hz7
  have HO7 := veil ho7
  clear o0 o1 o2 o3 x0 x1 x2 x3 HW7 HE6 HMw HZ6 HO6 u0 u1 hwe6 hM7 hz7 ho7
  refine (sees_eye B l (i + 1) 0 _ ⟨#[46]⟩ w7 hE7).mono ?_
  rintro r w8 ⟨rfl, q1, q2⟩
  have hs8 := q2.below.size
  have hz8 := (q2.above w.heap.size hlt (by omega)).trans HZ7.out
  have ho8 := (q2.above w1.heap.size (by omega) (by omega)).trans HO7.out
  have hM8 := HM7.out.trans q2
  have hsd : seesB l (i + 1) 0 (ByteArray.mk #[46]).data.toList = false := by unfold seesB; rw [show sgn l (i + 1) (ByteArray.mk #[46]).data.toList = false from hdot]; simp
  rw [hsd] at q1
  try rw [hsd]
  have hEL : EyeAt B l (i + 1) 0 ((d + 1 : Nat) : Int) w8 := q1
  have hzL := hz8
  have hoL := ho8
  obtain ⟨⟨r0, r1, r2, r3⟩, ⟨o0, o1, o2, o3⟩, ⟨g0, g1, g2, g3⟩, _⟩ := kind_cells hzL hoL
  have hc3 : w8.cell? ⟨B, 3, none⟩ = some (.int .i64 ((d : Int) + 1)) ∧ w8.frozen? ⟨B, 3, none⟩ = false := by
    obtain ⟨_, _, _, _, _, c3, _, _, f3, _⟩ := ey_cells hEL
    exact ⟨c3, f3⟩
  obtain ⟨c3, f3⟩ := hc3
  have HFin := veil (kind_fin hEL hM8 hlt hzL (.int .i64 4) (.string ⟨#[]⟩) (.string tx) (.slice none 0 0))
  clear q1 q2 hEL hM8 hzL hoL hz8 ho8 HM7 HZ7 HO7 hE7 hw7 u7 hsd hdot
  go_wp2_with fail
  obtain ⟨F, hF, hEF, hMF, y0, y1, y2, y3⟩ := HFin.out
  rw [hF]
  exact bodyPost_ret (v := .agg #[.int .i64 4, .string ⟨#[]⟩, .string tx, .slice none 0 0]) (by simp [results, Tryz.results143, go_sem, y0, y1, y2, y3]) rfl ⟨hMF, 4, _, _, none, 0, 0, rfl, Or.inl ⟨_, _, HPt.out, hEF, [], rfl, empty_le, hsz, none_sl⟩⟩

end Go.Proofs.YtagbaimfigljiaaGreatDoor
namespace Go.Proofs.YtagbaimfigljiaaGreatDoor
open Go.RowKit
set_option maxRecDepth 100000

set_option maxHeartbeats 8000000 in
theorem kind_of (B : Nat) (l : Toks) (i d f : Nat) (hd : d < 40) (tx : ByteArray) (hsz : tx.size ≤ maxLen) (hi : (tx.toList == [105, 110, 116]) = false) (ht : (tx.toList == [116, 101, 120, 116]) = false) (w : World) (h : EyeAt B l i 0 d w) (hs : sgn l i [91] = false)
    (hone : ∀ W, EyeAt B l i 0 ((d + 1 : Nat) : Int) W → Calls Tryz.prog 140 #[.pointer (some ⟨B, 0, none⟩)] W fun r w' => r = .returned (.agg #[.int .i64 1, .string tx]) ∧ EyeAt B l (i + 1) 0 ((d + 1 : Nat) : Int) w' ∧ Moved B W w') (hid : identOk tx = true) (hdot : sgn l (i + 1) [46] = true) (hok : ∀ m, identAt l (i + 2) = some m → pTy l (f + 1) i = .ok (.mk 4 tx m []) (i + 3)) (hbd : identAt l (i + 2) = none → pTy l (f + 1) i = .bad 4) :
    Calls Tryz.prog 143 #[.pointer (some ⟨B, 0, none⟩)] w (KindR B l i d (f + 1) w) := by
  have hlt := ey_lt h
  have HH := veil (ey_alloc h (.cells #[.int .i64 0, .string ⟨#[]⟩, .string ⟨#[]⟩, .slice none 0 0] 84))
  have HM : Hid (Moved B w (w.alloc (.cells #[.int .i64 0, .string ⟨#[]⟩, .string ⟨#[]⟩, .slice none 0 0] 84))) := Moved.of_below ((Below.refl _ _).alloc (Nat.le_refl _) _) (by omega)
  have HOne := veil hone
  have HPo := veil hok
  have HPb := veil hbd
  have HSg : Hid (seesB l i 0 [91] = false) := by show _ = _; unfold seesB; simp [hs]
  clear h hone hok hbd hs
  go_enter Tryz.func143, Tryz.ntmps143
  go_wp2_with fail
  refine (down_eye B l i 0 d (by omega) _ HH.out).mono ?_
  rintro r w1 ⟨rfl, q1, q2⟩
  rw [if_neg (by omega)] at q1
  have hs1 : w.heap.size + 1 ≤ w1.heap.size := by have := q2.below.size; simpa using this
  have hz1 : w1.heap[w.heap.size]? = some (.cells #[.int .i64 0, .string ⟨#[]⟩, .string ⟨#[]⟩, .slice none 0 0] 84 (0, 0)) := (q2.above w.heap.size hlt (by simp)).trans (heap_alloc_new w _)
  have hw2 : ∃ w2, ((((w1.alloc (.cells #[.int .i64 0, .string ⟨#[]⟩, .string ⟨#[]⟩, .slice none 0 0] 84)))) = w2) ∧ EyeAt B l i 0 ((d + 1 : Nat) : Int) w2 ∧ Moved B w w2 ∧ w2.heap[w.heap.size]? = some (.cells #[.int .i64 0, .string ⟨#[]⟩, .string ⟨#[]⟩, .slice none 0 0] 84 (0, 0)) ∧ w2.heap[w1.heap.size]? = some (.cells #[.int .i64 0, .string ⟨#[]⟩, .string ⟨#[]⟩, .slice none 0 0] 84 (0, 0)) :=
    ⟨_, rfl, ey_alloc q1 _, (HM.out.trans q2).alloc (by omega) _, (heap_alloc_old _ _ (by omega)).trans hz1, heap_alloc_new w1 _⟩
  obtain ⟨w2, hwe, hE2, hM2, hz2, ho2⟩ := hw2
  have c2 : w2.cell? ⟨B, 2, none⟩ = some (.int .i64 0) := by
    obtain ⟨_, _, _, _, c2, _⟩ := ey_cells hE2
    exact c2
  have HE2 := veil hE2
  have HM2 := veil hM2
  have HZ2 := veil hz2
  have HO2 := veil ho2
  clear q1 q2 hz1 hE2 hM2
  have b5 : B ≠ w1.heap.size := by omega
  have HW3 : Hid (∃ w3, ((((w2.setCell ⟨w1.heap.size, 0, none⟩ (.int .i64 0)).setCell ⟨w1.heap.size, 1, none⟩ (.string ⟨#[]⟩)).setCell ⟨w1.heap.size, 2, none⟩ (.string ⟨#[]⟩)).setCell ⟨w1.heap.size, 3, none⟩ (.slice none 0 0)) = w3 ∧ EyeAt B l i 0 ((d + 1 : Nat) : Int) w3 ∧ Moved B w w3 ∧ w3.heap[w.heap.size]? = some (.cells #[.int .i64 0, .string ⟨#[]⟩, .string ⟨#[]⟩, .slice none 0 0] 84 (0, 0)) ∧ w3.heap[w1.heap.size]? = some (.cells #[.int .i64 0, .string ⟨#[]⟩, .string ⟨#[]⟩, .slice none 0 0] 84 (0, 0))) := by
    refine ⟨_, rfl, ey_far (ey_far (ey_far (ey_far HE2.out (c := w1.heap.size) (by omega) 0 _) (c := w1.heap.size) (by omega) 1 _) (c := w1.heap.size) (by omega) 2 _) (c := w1.heap.size) (by omega) 3 _, mv_far (mv_far (mv_far (mv_far HM2.out (c := w1.heap.size) (by omega) (by omega) 0 _) (c := w1.heap.size) (by omega) (by omega) 1 _) (c := w1.heap.size) (by omega) (by omega) 2 _) (c := w1.heap.size) (by omega) (by omega) 3 _, ?_, four_set HO2.out _ _ _ _⟩
    rw [Below.heap_setCell _ _ _ _ (by show w.heap.size ≠ w1.heap.size; omega), Below.heap_setCell _ _ _ _ (by show w.heap.size ≠ w1.heap.size; omega), Below.heap_setCell _ _ _ _ (by show w.heap.size ≠ w1.heap.size; omega), Below.heap_setCell _ _ _ _ (by show w.heap.size ≠ w1.heap.size; omega)]
    exact HZ2.out
  obtain ⟨⟨r0, r1, r2, r3⟩, ⟨o0, o1, o2, o3⟩, _, ⟨x0, x1, x2, x3⟩⟩ := kind_cells hz2 ho2
  clear hz2 ho2 r0 r1 r2 r3
  go_wp2_with fail
  try rw [hwe]
  obtain ⟨w3, hw3, hE3, hM3, hz3, ho3⟩ := HW3.out
  rw [hw3]
  have HM3 := veil hM3
  have HZ3 := veil hz3
  have HO3 := veil ho3
  have hs3 : w1.heap.size < w3.heap.size := by rcases Nat.lt_or_ge w1.heap.size w3.heap.size with h' | h'; exact h'; rw [Array.getElem?_eq_none h'] at ho3; cases ho3
  clear o0 o1 o2 o3 x0 x1 x2 x3 c2 hwe HW3 HE2 HM2 HZ2 HO2 hM3 hz3 ho3
  refine (sees_eye B l i 0 _ ⟨#[91]⟩ w3 hE3).mono ?_
  rintro r w4 ⟨rfl, q1, q2⟩
  have hsg : seesB l i 0 (ByteArray.mk #[91]).data.toList = false := HSg.out
  rw [hsg] at q1
  try rw [hsg]
  have HQ1 : Hid (EyeAt B l i 0 ((d + 1 : Nat) : Int) w4) := q1
  have HQ2 := veil q2
  clear q1 q2 hE3 hw3
  go_wp2_with fail
  refine (HOne.out w4 HQ1.out).mono ?_
  rintro r w5 ⟨rfl, q1, q2⟩
  have hs5 : w3.heap.size ≤ w5.heap.size := Nat.le_trans HQ2.out.below.size q2.below.size
  have HM6 : Hid (Moved B w3 (w5.alloc (.cells #[.int .i64 1, .string tx] 199))) := (HQ2.out.trans q2).alloc (by omega) _
  have HE6 := veil (ey_alloc q1 (.cells #[.int .i64 1, .string tx] 199))
  have hw6 : ∃ w6, w5.alloc (.cells #[.int .i64 1, .string tx] 199) = w6 ∧ w6.cell? ⟨w5.heap.size, 0, none⟩ = some (.int .i64 1) ∧ w6.cell? ⟨w5.heap.size, 1, none⟩ = some (.string tx) ∧ w5.heap.size < w6.heap.size := ⟨_, rfl, World.cell?_alloc_at _ _ _ _ rfl, World.cell?_alloc_at _ _ _ _ rfl, by simp⟩
  obtain ⟨w6, hwe6, u0, u1, hs6⟩ := hw6
  rw [hwe6] at HM6 HE6
  have HZ6 := veil ((HM6.out.above w.heap.size hlt (by omega)).trans HZ3.out)
  have HO6 := veil ((HM6.out.above w1.heap.size (by omega) (by omega)).trans HO3.out)
  have HMw := veil (HM3.out.trans HM6.out)
  have b1 : w1.heap.size ≠ B := by omega
  have b2 : w.heap.size ≠ B := by omega
  have b3 : B ≠ w.heap.size := by omega
  have b4 : w1.heap.size ≠ w.heap.size := by omega
  have b6 : w.heap.size ≠ w1.heap.size := by omega
  have b7 : w1.heap.size ≠ w5.heap.size := by omega
  have b8 : w5.heap.size ≠ w1.heap.size := by omega
  have b9 : w5.heap.size ≠ B := by omega
  have b10 : B ≠ w5.heap.size := by omega
  have hd' : (d : Int) < 40 := by omega
  have hd0 : (0 : Int) ≤ (d : Int) := by omega
  clear q1 q2 HQ1 HQ2 HOne HM6 HM3 HZ3 HO3
  go_wp2_with fail
  try rw [hwe6]
  refine (nameMay_any tx hsz _).mono ?_
  rintro r wx ⟨rfl, rfl⟩
  rw [hid]
  have HW7 : Hid (∃ w7, ((w6.setCell ⟨w1.heap.size, 0, none⟩ (.int .i64 4)).setCell ⟨w1.heap.size, 2, none⟩ (.string tx)) = w7 ∧ EyeAt B l (i + 1) 0 ((d + 1 : Nat) : Int) w7 ∧ Moved B w w7 ∧ w7.heap[w.heap.size]? = some (.cells #[.int .i64 0, .string ⟨#[]⟩, .string ⟨#[]⟩, .slice none 0 0] 84 (0, 0)) ∧ w7.heap[w1.heap.size]? = some (.cells #[.int .i64 4, .string ⟨#[]⟩, .string tx, .slice none 0 0] 84 (0, 0)) ∧ w7.heap.size = w6.heap.size ∧ w7.cell? ⟨w5.heap.size, 1, none⟩ = some (.string tx)) := by
    refine ⟨_, rfl, ey_far (ey_far HE6.out (c := w1.heap.size) (by omega) 0 _) (c := w1.heap.size) (by omega) 2 _, mv_far (mv_far HMw.out (c := w1.heap.size) (by omega) (by omega) 0 _) (c := w1.heap.size) (by omega) (by omega) 2 _, ?_, block_set (block_set HO6.out 0 _) 2 _, by rw [heap_size_setCell, heap_size_setCell], ?_⟩
    · rw [Below.heap_setCell _ _ _ _ (by show w.heap.size ≠ w1.heap.size; omega), Below.heap_setCell _ _ _ _ (by show w.heap.size ≠ w1.heap.size; omega)]
      exact HZ6.out
    · rw [World.cell?_setCell_other _ _ _ _ (by intro h; injection h with h _ _; omega), World.cell?_setCell_other _ _ _ _ (by intro h; injection h with h _ _; omega)]
      exact u1
  obtain ⟨_, ⟨o0, o1, o2, o3⟩, _, ⟨x0, x1, x2, x3⟩⟩ := kind_cells HZ6.out HO6.out
  go_wp2_with fail
  try rw [hwe6]
  obtain ⟨w7, hw7, hE7, hM7, hz7, ho7, hs7, u7⟩ := HW7.out
  rw [hw7]
  have HM7 := veil hM7
  have HZ7 := veil hz7
  have HO7 := veil ho7
  clear o0 o1 o2 o3 x0 x1 x2 x3 HW7 HE6 HMw HZ6 HO6 u0 u1 hwe6 hM7 hz7 ho7
  refine (sees_eye B l (i + 1) 0 _ ⟨#[46]⟩ w7 hE7).mono ?_
  rintro r w8 ⟨rfl, q1, q2⟩
  have hs8 := q2.below.size
  have hz8 := (q2.above w.heap.size hlt (by omega)).trans HZ7.out
  have ho8 := (q2.above w1.heap.size (by omega) (by omega)).trans HO7.out
  have hM8 := HM7.out.trans q2
  have hsd : seesB l (i + 1) 0 (ByteArray.mk #[46]).data.toList = true := by unfold seesB; rw [show sgn l (i + 1) (ByteArray.mk #[46]).data.toList = true from hdot]; simp
  rw [hsd] at q1
  try rw [hsd]
  have hE8 : EyeAt B l (i + 2) 0 ((d + 1 : Nat) : Int) w8 := q1
  have u8 : w8.cell? ⟨w5.heap.size, 1, none⟩ = some (.string tx) := (q2.cell (by omega) (by omega) 1).trans u7
  have HW9 : Hid (∃ w9, w8.setCell ⟨w1.heap.size, 1, none⟩ (.string tx) = w9 ∧ EyeAt B l (i + 2) 0 ((d + 1 : Nat) : Int) w9 ∧ Moved B w w9 ∧ w9.heap[w.heap.size]? = some (.cells #[.int .i64 0, .string ⟨#[]⟩, .string ⟨#[]⟩, .slice none 0 0] 84 (0, 0)) ∧ w9.heap[w1.heap.size]? = some (.cells #[.int .i64 4, .string tx, .string tx, .slice none 0 0] 84 (0, 0)) ∧ w9.heap.size = w8.heap.size) :=
    ⟨_, rfl, ey_far hE8 (c := w1.heap.size) (by omega) 1 _, mv_far hM8 (c := w1.heap.size) (by omega) (by omega) 1 _, (Below.heap_setCell _ _ _ _ (by show w.heap.size ≠ w1.heap.size; omega)).trans hz8, block_set ho8 1 _, by rw [heap_size_setCell]⟩
  obtain ⟨_, ⟨o0, o1, o2, o3⟩, _, ⟨x0, x1, x2, x3⟩⟩ := kind_cells hz8 ho8
  clear q1 q2 hM8 hz8 ho8 HM7 HZ7 HO7 hE7 hw7 u7 hsd hdot hE8
  go_wp2_with fail
  obtain ⟨w9, hw9, hE9, hM9, hz9, ho9, hs9⟩ := HW9.out
  rw [hw9]
  have HM9 := veil hM9
  have HZ9 := veil hz9
  have HO9 := veil ho9
  clear o0 o1 o2 o3 x0 x1 x2 x3 HW9 hM9 hz9 ho9 u8 hw9
  refine (ident_eye B l (i + 2) 0 _ w9 hE9).mono ?_
  rintro r w10 ⟨q2, t, i', rfl, hts, q1⟩
  have hs10 := q2.below.size
  have hz10 := (q2.above w.heap.size hlt (by omega)).trans HZ9.out
  have ho10 := (q2.above w1.heap.size (by omega) (by omega)).trans HO9.out
  have hM10 := HM9.out.trans q2
  obtain ⟨e, j, hEj, hres⟩ : ∃ e j, EyeAt B l j e ((d + 1 : Nat) : Int) w10 ∧ ((e = 0 ∧ pTy l (f + 1) i = .ok (.mk 4 tx t []) j) ∨ (e ≠ 0 ∧ pTy l (f + 1) i = .bad e)) := by
    rcases q1 with ⟨_, hi2, he⟩ | ⟨hn, he⟩
    · exact ⟨0, _, he, Or.inl ⟨rfl, HPo.out t hi2⟩⟩
    · refine ⟨4, _, he, Or.inr ⟨by decide, HPb.out ?_⟩⟩
      rcases hn with h | h
      · exact absurd rfl h
      · exact h
  have HRes := veil hres
  have HFin := veil (kind_fin (w5 := w10.setCell ⟨w1.heap.size, 2, none⟩ (.string t)) (ey_far hEj (c := w1.heap.size) (by omega) 2 _) (mv_far hM10 (c := w1.heap.size) (by omega) (by omega) 2 _) hlt ((Below.heap_setCell _ _ _ _ (by show w.heap.size ≠ w1.heap.size; omega)).trans hz10) (.int .i64 4) (.string tx) (.string t) (.slice none 0 0))
  have hzL := hz10
  have hoL := ho10
  have hEL := hEj
  obtain ⟨⟨r0, r1, r2, r3⟩, ⟨o0, o1, o2, o3⟩, ⟨g0, g1, g2, g3⟩, ⟨x0, x1, x2, x3⟩⟩ := kind_cells hzL hoL
  have hc3 : w10.cell? ⟨B, 3, none⟩ = some (.int .i64 ((d : Int) + 1)) ∧ w10.frozen? ⟨B, 3, none⟩ = false := by
    obtain ⟨_, _, _, _, _, c3, _, _, f3, _⟩ := ey_cells hEL
    exact ⟨c3, f3⟩
  obtain ⟨c3, f3⟩ := hc3
  clear q1 q2 hEL hM10 hzL hoL hz10 ho10 HM9 HZ9 HO9 hE9 hEj hres HPo HPb
  go_wp2_with fail
  obtain ⟨F, hF, hEF, hMF, y0, y1, y2, y3⟩ := HFin.out
  rw [hF]
  refine bodyPost_ret (v := .agg #[.int .i64 4, .string tx, .string t, .slice none 0 0]) (by simp [results, Tryz.results143, go_sem, y0, y1, y2, y3]) rfl ⟨hMF, 4, _, _, none, 0, 0, rfl, ?_⟩
  rcases HRes.out with ⟨rfl, hp⟩ | ⟨hne, hp⟩
  · exact Or.inl ⟨_, _, hp, hEF, [], rfl, hsz, hts, none_sl⟩
  · exact Or.inr ⟨_, _, hp, hne, hEF⟩

end Go.Proofs.YtagbaimfigljiaaGreatDoor
namespace Go.Proofs.YtagbaimfigljiaaGreatDoor
open Go.RowKit
set_option maxRecDepth 100000

set_option maxHeartbeats 8000000 in
theorem kind_int (B : Nat) (l : Toks) (i d f : Nat) (hd : d < 40) (tx : ByteArray) (w : World) (h : EyeAt B l i 0 d w) (hs : sgn l i [91] = false)
    (hone : ∀ W, EyeAt B l i 0 ((d + 1 : Nat) : Int) W → Calls Tryz.prog 140 #[.pointer (some ⟨B, 0, none⟩)] W fun r w' => r = .returned (.agg #[.int .i64 1, .string tx]) ∧ EyeAt B l (i + 1) 0 ((d + 1 : Nat) : Int) w' ∧ Moved B W w') (hi : (tx.toList == [105, 110, 116]) = true) (hp : pTy l (f + 1) i = .ok (.mk 1 emptyText emptyText []) (i + 1)) :
    Calls Tryz.prog 143 #[.pointer (some ⟨B, 0, none⟩)] w (KindR B l i d (f + 1) w) := by
  have hlt := ey_lt h
  have HH := veil (ey_alloc h (.cells #[.int .i64 0, .string ⟨#[]⟩, .string ⟨#[]⟩, .slice none 0 0] 84))
  have HM : Hid (Moved B w (w.alloc (.cells #[.int .i64 0, .string ⟨#[]⟩, .string ⟨#[]⟩, .slice none 0 0] 84))) := Moved.of_below ((Below.refl _ _).alloc (Nat.le_refl _) _) (by omega)
  have HOne := veil hone
  have HPt := veil hp
  have HSg : Hid (seesB l i 0 [91] = false) := by show _ = _; unfold seesB; simp [hs]
  clear h hone hp hs
  go_enter Tryz.func143, Tryz.ntmps143
  go_wp2_with fail
  refine (down_eye B l i 0 d (by omega) _ HH.out).mono ?_
  rintro r w1 ⟨rfl, q1, q2⟩
  rw [if_neg (by omega)] at q1
  have hs1 : w.heap.size + 1 ≤ w1.heap.size := by have := q2.below.size; simpa using this
  have hz1 : w1.heap[w.heap.size]? = some (.cells #[.int .i64 0, .string ⟨#[]⟩, .string ⟨#[]⟩, .slice none 0 0] 84 (0, 0)) := (q2.above w.heap.size hlt (by simp)).trans (heap_alloc_new w _)
  have hw2 : ∃ w2, ((((w1.alloc (.cells #[.int .i64 0, .string ⟨#[]⟩, .string ⟨#[]⟩, .slice none 0 0] 84)))) = w2) ∧ EyeAt B l i 0 ((d + 1 : Nat) : Int) w2 ∧ Moved B w w2 ∧ w2.heap[w.heap.size]? = some (.cells #[.int .i64 0, .string ⟨#[]⟩, .string ⟨#[]⟩, .slice none 0 0] 84 (0, 0)) ∧ w2.heap[w1.heap.size]? = some (.cells #[.int .i64 0, .string ⟨#[]⟩, .string ⟨#[]⟩, .slice none 0 0] 84 (0, 0)) :=
    ⟨_, rfl, ey_alloc q1 _, (HM.out.trans q2).alloc (by omega) _, (heap_alloc_old _ _ (by omega)).trans hz1, heap_alloc_new w1 _⟩
  obtain ⟨w2, hwe, hE2, hM2, hz2, ho2⟩ := hw2
  have c2 : w2.cell? ⟨B, 2, none⟩ = some (.int .i64 0) := by
    obtain ⟨_, _, _, _, c2, _⟩ := ey_cells hE2
    exact c2
  have HE2 := veil hE2
  have HM2 := veil hM2
  have HZ2 := veil hz2
  have HO2 := veil ho2
  clear q1 q2 hz1 hE2 hM2
  have b5 : B ≠ w1.heap.size := by omega
  have HW3 : Hid (∃ w3, ((((w2.setCell ⟨w1.heap.size, 0, none⟩ (.int .i64 0)).setCell ⟨w1.heap.size, 1, none⟩ (.string ⟨#[]⟩)).setCell ⟨w1.heap.size, 2, none⟩ (.string ⟨#[]⟩)).setCell ⟨w1.heap.size, 3, none⟩ (.slice none 0 0)) = w3 ∧ EyeAt B l i 0 ((d + 1 : Nat) : Int) w3 ∧ Moved B w w3 ∧ w3.heap[w.heap.size]? = some (.cells #[.int .i64 0, .string ⟨#[]⟩, .string ⟨#[]⟩, .slice none 0 0] 84 (0, 0)) ∧ w3.heap[w1.heap.size]? = some (.cells #[.int .i64 0, .string ⟨#[]⟩, .string ⟨#[]⟩, .slice none 0 0] 84 (0, 0))) := by
    refine ⟨_, rfl, ey_far (ey_far (ey_far (ey_far HE2.out (c := w1.heap.size) (by omega) 0 _) (c := w1.heap.size) (by omega) 1 _) (c := w1.heap.size) (by omega) 2 _) (c := w1.heap.size) (by omega) 3 _, mv_far (mv_far (mv_far (mv_far HM2.out (c := w1.heap.size) (by omega) (by omega) 0 _) (c := w1.heap.size) (by omega) (by omega) 1 _) (c := w1.heap.size) (by omega) (by omega) 2 _) (c := w1.heap.size) (by omega) (by omega) 3 _, ?_, four_set HO2.out _ _ _ _⟩
    rw [Below.heap_setCell _ _ _ _ (by show w.heap.size ≠ w1.heap.size; omega), Below.heap_setCell _ _ _ _ (by show w.heap.size ≠ w1.heap.size; omega), Below.heap_setCell _ _ _ _ (by show w.heap.size ≠ w1.heap.size; omega), Below.heap_setCell _ _ _ _ (by show w.heap.size ≠ w1.heap.size; omega)]
    exact HZ2.out
  obtain ⟨⟨r0, r1, r2, r3⟩, ⟨o0, o1, o2, o3⟩, _, ⟨x0, x1, x2, x3⟩⟩ := kind_cells hz2 ho2
  clear hz2 ho2 r0 r1 r2 r3
  go_wp2_with fail
  try rw [hwe]
  obtain ⟨w3, hw3, hE3, hM3, hz3, ho3⟩ := HW3.out
  rw [hw3]
  have HM3 := veil hM3
  have HZ3 := veil hz3
  have HO3 := veil ho3
  have hs3 : w1.heap.size < w3.heap.size := by rcases Nat.lt_or_ge w1.heap.size w3.heap.size with h' | h'; exact h'; rw [Array.getElem?_eq_none h'] at ho3; cases ho3
  clear o0 o1 o2 o3 x0 x1 x2 x3 c2 hwe HW3 HE2 HM2 HZ2 HO2 hM3 hz3 ho3
  refine (sees_eye B l i 0 _ ⟨#[91]⟩ w3 hE3).mono ?_
  rintro r w4 ⟨rfl, q1, q2⟩
  have hsg : seesB l i 0 (ByteArray.mk #[91]).data.toList = false := HSg.out
  rw [hsg] at q1
  try rw [hsg]
  have HQ1 : Hid (EyeAt B l i 0 ((d + 1 : Nat) : Int) w4) := q1
  have HQ2 := veil q2
  clear q1 q2 hE3 hw3
  go_wp2_with fail
  refine (HOne.out w4 HQ1.out).mono ?_
  rintro r w5 ⟨rfl, q1, q2⟩
  have hs5 : w3.heap.size ≤ w5.heap.size := Nat.le_trans HQ2.out.below.size q2.below.size
  have HM6 : Hid (Moved B w3 (w5.alloc (.cells #[.int .i64 1, .string tx] 199))) := (HQ2.out.trans q2).alloc (by omega) _
  have HE6 := veil (ey_alloc q1 (.cells #[.int .i64 1, .string tx] 199))
  have hM6 := HM6.out
  have hz6 := (hM6.above w.heap.size hlt (by omega)).trans HZ3.out
  have ho6 := (hM6.above w1.heap.size (by omega) (by omega)).trans HO3.out
  have hw6 : ∃ w6, w5.alloc (.cells #[.int .i64 1, .string tx] 199) = w6 ∧ w6.cell? ⟨w5.heap.size, 0, none⟩ = some (.int .i64 1) ∧ w6.cell? ⟨w5.heap.size, 1, none⟩ = some (.string tx) := ⟨_, rfl, World.cell?_alloc_at _ _ _ _ rfl, World.cell?_alloc_at _ _ _ _ rfl⟩
  obtain ⟨w6, hwe6, u0, u1⟩ := hw6
  rw [hwe6] at HM6 HE6 hM6 hz6 ho6
  obtain ⟨⟨r0, r1, r2, r3⟩, ⟨o0, o1, o2, o3⟩, ⟨g0, g1, g2, g3⟩, ⟨x0, x1, x2, x3⟩⟩ := kind_cells hz6 ho6
  have hc3 : w6.cell? ⟨B, 3, none⟩ = some (.int .i64 ((d : Int) + 1)) ∧ w6.frozen? ⟨B, 3, none⟩ = false := by
    obtain ⟨_, _, _, _, _, c3, _, _, f3, _⟩ := ey_cells HE6.out
    exact ⟨c3, f3⟩
  obtain ⟨c3, f3⟩ := hc3
  have hzK : (w6.setCell ⟨w1.heap.size, 0, none⟩ (.int .i64 1)).heap[w.heap.size]? = some (.cells #[.int .i64 0, .string ⟨#[]⟩, .string ⟨#[]⟩, .slice none 0 0] 84 (0, 0)) := (Below.heap_setCell _ _ _ _ (by show w.heap.size ≠ w1.heap.size; omega)).trans hz6
  have HFin := veil (kind_fin (ey_far HE6.out (c := w1.heap.size) (by omega) 0 (.int .i64 1)) (mv_far (HM3.out.trans hM6) (c := w1.heap.size) (by omega) (by omega) 0 (.int .i64 1)) hlt hzK (.int .i64 1) (.string ⟨#[]⟩) (.string ⟨#[]⟩) (.slice none 0 0))
  have b1 : w1.heap.size ≠ B := by omega
  have b2 : w.heap.size ≠ B := by omega
  have b3 : B ≠ w.heap.size := by omega
  have b4 : w1.heap.size ≠ w.heap.size := by omega
  have b6 : w.heap.size ≠ w1.heap.size := by omega
  have b7 : w1.heap.size ≠ w5.heap.size := by omega
  have b8 : w5.heap.size ≠ w1.heap.size := by omega
  have hd' : (d : Int) < 40 := by omega
  have hd0 : (0 : Int) ≤ (d : Int) := by omega
  clear q1 q2 HQ1 HQ2 HOne hM6 hz6 ho6 hzK HM6 HE6 HM3 HZ3 HO3
  go_wp2_with fail
  try rw [hwe6]
  obtain ⟨F, hF, hEF, hMF, y0, y1, y2, y3⟩ := HFin.out
  rw [hF]
  exact bodyPost_ret (v := .agg #[.int .i64 1, .string ⟨#[]⟩, .string ⟨#[]⟩, .slice none 0 0]) (by simp [results, Tryz.results143, go_sem, y0, y1, y2, y3]) rfl ⟨hMF, 1, _, _, none, 0, 0, rfl, Or.inl ⟨_, _, HPt.out, hEF, [], rfl, empty_le, empty_le, none_sl⟩⟩

set_option maxHeartbeats 8000000 in
theorem kind_text (B : Nat) (l : Toks) (i d f : Nat) (hd : d < 40) (tx : ByteArray) (w : World) (h : EyeAt B l i 0 d w) (hs : sgn l i [91] = false)
    (hone : ∀ W, EyeAt B l i 0 ((d + 1 : Nat) : Int) W → Calls Tryz.prog 140 #[.pointer (some ⟨B, 0, none⟩)] W fun r w' => r = .returned (.agg #[.int .i64 1, .string tx]) ∧ EyeAt B l (i + 1) 0 ((d + 1 : Nat) : Int) w' ∧ Moved B W w') (hi : (tx.toList == [105, 110, 116]) = false) (ht : (tx.toList == [116, 101, 120, 116]) = true) (hp : pTy l (f + 1) i = .ok (.mk 2 emptyText emptyText []) (i + 1)) :
    Calls Tryz.prog 143 #[.pointer (some ⟨B, 0, none⟩)] w (KindR B l i d (f + 1) w) := by
  have hlt := ey_lt h
  have HH := veil (ey_alloc h (.cells #[.int .i64 0, .string ⟨#[]⟩, .string ⟨#[]⟩, .slice none 0 0] 84))
  have HM : Hid (Moved B w (w.alloc (.cells #[.int .i64 0, .string ⟨#[]⟩, .string ⟨#[]⟩, .slice none 0 0] 84))) := Moved.of_below ((Below.refl _ _).alloc (Nat.le_refl _) _) (by omega)
  have HOne := veil hone
  have HPt := veil hp
  have HSg : Hid (seesB l i 0 [91] = false) := by show _ = _; unfold seesB; simp [hs]
  clear h hone hp hs
  go_enter Tryz.func143, Tryz.ntmps143
  go_wp2_with fail
  refine (down_eye B l i 0 d (by omega) _ HH.out).mono ?_
  rintro r w1 ⟨rfl, q1, q2⟩
  rw [if_neg (by omega)] at q1
  have hs1 : w.heap.size + 1 ≤ w1.heap.size := by have := q2.below.size; simpa using this
  have hz1 : w1.heap[w.heap.size]? = some (.cells #[.int .i64 0, .string ⟨#[]⟩, .string ⟨#[]⟩, .slice none 0 0] 84 (0, 0)) := (q2.above w.heap.size hlt (by simp)).trans (heap_alloc_new w _)
  have hw2 : ∃ w2, ((((w1.alloc (.cells #[.int .i64 0, .string ⟨#[]⟩, .string ⟨#[]⟩, .slice none 0 0] 84)))) = w2) ∧ EyeAt B l i 0 ((d + 1 : Nat) : Int) w2 ∧ Moved B w w2 ∧ w2.heap[w.heap.size]? = some (.cells #[.int .i64 0, .string ⟨#[]⟩, .string ⟨#[]⟩, .slice none 0 0] 84 (0, 0)) ∧ w2.heap[w1.heap.size]? = some (.cells #[.int .i64 0, .string ⟨#[]⟩, .string ⟨#[]⟩, .slice none 0 0] 84 (0, 0)) :=
    ⟨_, rfl, ey_alloc q1 _, (HM.out.trans q2).alloc (by omega) _, (heap_alloc_old _ _ (by omega)).trans hz1, heap_alloc_new w1 _⟩
  obtain ⟨w2, hwe, hE2, hM2, hz2, ho2⟩ := hw2
  have c2 : w2.cell? ⟨B, 2, none⟩ = some (.int .i64 0) := by
    obtain ⟨_, _, _, _, c2, _⟩ := ey_cells hE2
    exact c2
  have HE2 := veil hE2
  have HM2 := veil hM2
  have HZ2 := veil hz2
  have HO2 := veil ho2
  clear q1 q2 hz1 hE2 hM2
  have b5 : B ≠ w1.heap.size := by omega
  have HW3 : Hid (∃ w3, ((((w2.setCell ⟨w1.heap.size, 0, none⟩ (.int .i64 0)).setCell ⟨w1.heap.size, 1, none⟩ (.string ⟨#[]⟩)).setCell ⟨w1.heap.size, 2, none⟩ (.string ⟨#[]⟩)).setCell ⟨w1.heap.size, 3, none⟩ (.slice none 0 0)) = w3 ∧ EyeAt B l i 0 ((d + 1 : Nat) : Int) w3 ∧ Moved B w w3 ∧ w3.heap[w.heap.size]? = some (.cells #[.int .i64 0, .string ⟨#[]⟩, .string ⟨#[]⟩, .slice none 0 0] 84 (0, 0)) ∧ w3.heap[w1.heap.size]? = some (.cells #[.int .i64 0, .string ⟨#[]⟩, .string ⟨#[]⟩, .slice none 0 0] 84 (0, 0))) := by
    refine ⟨_, rfl, ey_far (ey_far (ey_far (ey_far HE2.out (c := w1.heap.size) (by omega) 0 _) (c := w1.heap.size) (by omega) 1 _) (c := w1.heap.size) (by omega) 2 _) (c := w1.heap.size) (by omega) 3 _, mv_far (mv_far (mv_far (mv_far HM2.out (c := w1.heap.size) (by omega) (by omega) 0 _) (c := w1.heap.size) (by omega) (by omega) 1 _) (c := w1.heap.size) (by omega) (by omega) 2 _) (c := w1.heap.size) (by omega) (by omega) 3 _, ?_, four_set HO2.out _ _ _ _⟩
    rw [Below.heap_setCell _ _ _ _ (by show w.heap.size ≠ w1.heap.size; omega), Below.heap_setCell _ _ _ _ (by show w.heap.size ≠ w1.heap.size; omega), Below.heap_setCell _ _ _ _ (by show w.heap.size ≠ w1.heap.size; omega), Below.heap_setCell _ _ _ _ (by show w.heap.size ≠ w1.heap.size; omega)]
    exact HZ2.out
  obtain ⟨⟨r0, r1, r2, r3⟩, ⟨o0, o1, o2, o3⟩, _, ⟨x0, x1, x2, x3⟩⟩ := kind_cells hz2 ho2
  clear hz2 ho2 r0 r1 r2 r3
  go_wp2_with fail
  try rw [hwe]
  obtain ⟨w3, hw3, hE3, hM3, hz3, ho3⟩ := HW3.out
  rw [hw3]
  have HM3 := veil hM3
  have HZ3 := veil hz3
  have HO3 := veil ho3
  have hs3 : w1.heap.size < w3.heap.size := by rcases Nat.lt_or_ge w1.heap.size w3.heap.size with h' | h'; exact h'; rw [Array.getElem?_eq_none h'] at ho3; cases ho3
  clear o0 o1 o2 o3 x0 x1 x2 x3 c2 hwe HW3 HE2 HM2 HZ2 HO2 hM3 hz3 ho3
  refine (sees_eye B l i 0 _ ⟨#[91]⟩ w3 hE3).mono ?_
  rintro r w4 ⟨rfl, q1, q2⟩
  have hsg : seesB l i 0 (ByteArray.mk #[91]).data.toList = false := HSg.out
  rw [hsg] at q1
  try rw [hsg]
  have HQ1 : Hid (EyeAt B l i 0 ((d + 1 : Nat) : Int) w4) := q1
  have HQ2 := veil q2
  clear q1 q2 hE3 hw3
  go_wp2_with fail
  refine (HOne.out w4 HQ1.out).mono ?_
  rintro r w5 ⟨rfl, q1, q2⟩
  have hs5 : w3.heap.size ≤ w5.heap.size := Nat.le_trans HQ2.out.below.size q2.below.size
  have HM6 : Hid (Moved B w3 (w5.alloc (.cells #[.int .i64 1, .string tx] 199))) := (HQ2.out.trans q2).alloc (by omega) _
  have HE6 := veil (ey_alloc q1 (.cells #[.int .i64 1, .string tx] 199))
  have hM6 := HM6.out
  have hz6 := (hM6.above w.heap.size hlt (by omega)).trans HZ3.out
  have ho6 := (hM6.above w1.heap.size (by omega) (by omega)).trans HO3.out
  have hw6 : ∃ w6, w5.alloc (.cells #[.int .i64 1, .string tx] 199) = w6 ∧ w6.cell? ⟨w5.heap.size, 0, none⟩ = some (.int .i64 1) ∧ w6.cell? ⟨w5.heap.size, 1, none⟩ = some (.string tx) := ⟨_, rfl, World.cell?_alloc_at _ _ _ _ rfl, World.cell?_alloc_at _ _ _ _ rfl⟩
  obtain ⟨w6, hwe6, u0, u1⟩ := hw6
  rw [hwe6] at HM6 HE6 hM6 hz6 ho6
  obtain ⟨⟨r0, r1, r2, r3⟩, ⟨o0, o1, o2, o3⟩, ⟨g0, g1, g2, g3⟩, ⟨x0, x1, x2, x3⟩⟩ := kind_cells hz6 ho6
  have hc3 : w6.cell? ⟨B, 3, none⟩ = some (.int .i64 ((d : Int) + 1)) ∧ w6.frozen? ⟨B, 3, none⟩ = false := by
    obtain ⟨_, _, _, _, _, c3, _, _, f3, _⟩ := ey_cells HE6.out
    exact ⟨c3, f3⟩
  obtain ⟨c3, f3⟩ := hc3
  have hzK : (w6.setCell ⟨w1.heap.size, 0, none⟩ (.int .i64 2)).heap[w.heap.size]? = some (.cells #[.int .i64 0, .string ⟨#[]⟩, .string ⟨#[]⟩, .slice none 0 0] 84 (0, 0)) := (Below.heap_setCell _ _ _ _ (by show w.heap.size ≠ w1.heap.size; omega)).trans hz6
  have HFin := veil (kind_fin (ey_far HE6.out (c := w1.heap.size) (by omega) 0 (.int .i64 2)) (mv_far (HM3.out.trans hM6) (c := w1.heap.size) (by omega) (by omega) 0 (.int .i64 2)) hlt hzK (.int .i64 2) (.string ⟨#[]⟩) (.string ⟨#[]⟩) (.slice none 0 0))
  have b1 : w1.heap.size ≠ B := by omega
  have b2 : w.heap.size ≠ B := by omega
  have b3 : B ≠ w.heap.size := by omega
  have b4 : w1.heap.size ≠ w.heap.size := by omega
  have b6 : w.heap.size ≠ w1.heap.size := by omega
  have b7 : w1.heap.size ≠ w5.heap.size := by omega
  have b8 : w5.heap.size ≠ w1.heap.size := by omega
  have hd' : (d : Int) < 40 := by omega
  have hd0 : (0 : Int) ≤ (d : Int) := by omega
  clear q1 q2 HQ1 HQ2 HOne hM6 hz6 ho6 hzK HM6 HE6 HM3 HZ3 HO3
  go_wp2_with fail
  try rw [hwe6]
  obtain ⟨F, hF, hEF, hMF, y0, y1, y2, y3⟩ := HFin.out
  rw [hF]
  exact bodyPost_ret (v := .agg #[.int .i64 2, .string ⟨#[]⟩, .string ⟨#[]⟩, .slice none 0 0]) (by simp [results, Tryz.results143, go_sem, y0, y1, y2, y3]) rfl ⟨hMF, 2, _, _, none, 0, 0, rfl, Or.inl ⟨_, _, HPt.out, hEF, [], rfl, empty_le, empty_le, none_sl⟩⟩

end Go.Proofs.YtagbaimfigljiaaGreatDoor
