/- What the reference's kind answers at the name of another module's type. -/
import Derived.Test.YtieoddnaknpmlabGreatDoorJEc
namespace Go.Proofs.YtieoddnaknpmlabGreatDoor
open Go.RowKit
set_option maxRecDepth 100000

set_option maxHeartbeats 8000000 in
theorem kind_of (B : Nat) (l : Toks) (i d f : Nat) (hd : d < 40) (tx : ByteArray) (hsz : tx.size ≤ maxLen) (hi : (tx.toList == [105, 110, 116]) = false) (ht : (tx.toList == [116, 101, 120, 116]) = false) (w : World) (h : EyeAt B l i 0 d w) (hs : sgn l i [91] = false)
    (hone : ∀ W, EyeAt B l i 0 ((d + 1 : Nat) : Int) W → Calls Tryz.prog 45 #[.pointer (some ⟨B, 0, none⟩)] W fun r w' => r = .returned (.agg #[.int .i64 1, .string tx]) ∧ EyeAt B l (i + 1) 0 ((d + 1 : Nat) : Int) w' ∧ Moved B W w') (hid : identOk tx = true) (hdot : sgn l (i + 1) [46] = true) (hok : ∀ m, identAt l (i + 2) = some m → pTy l (f + 1) i = .ok (.mk 4 tx m []) (i + 3)) (hbd : identAt l (i + 2) = none → pTy l (f + 1) i = .bad 4) :
    Calls Tryz.prog 48 #[.pointer (some ⟨B, 0, none⟩)] w (KindR B l i d (f + 1) w) := by
  have hlt := ey_lt h
  have HH := veil (ey_alloc h (.cells #[.int .i64 0, .string ⟨#[]⟩, .string ⟨#[]⟩, .slice none 0 0] 49))
  have HM : Hid (Moved B w (w.alloc (.cells #[.int .i64 0, .string ⟨#[]⟩, .string ⟨#[]⟩, .slice none 0 0] 49))) := Moved.of_below ((Below.refl _ _).alloc (Nat.le_refl _) _) (by omega)
  have HOne := veil hone
  have HPo := veil hok
  have HPb := veil hbd
  have HSg : Hid (seesB l i 0 [91] = false) := by show _ = _; unfold seesB; simp [hs]
  clear h hone hok hbd hs
  go_enter Tryz.func48, Tryz.ntmps48
  go_wp2_with fail
  refine (down_eye B l i 0 d (by omega) _ HH.out).mono ?_
  rintro r w1 ⟨rfl, q1, q2⟩
  rw [if_neg (by omega)] at q1
  have hs1 : w.heap.size + 1 ≤ w1.heap.size := by have := q2.below.size; simpa using this
  have hz1 : w1.heap[w.heap.size]? = some (.cells #[.int .i64 0, .string ⟨#[]⟩, .string ⟨#[]⟩, .slice none 0 0] 49 (0, 0)) := (q2.above w.heap.size hlt (by simp)).trans (heap_alloc_new w _)
  have hw2 : ∃ w2, ((((w1.alloc (.cells #[.int .i64 0, .string ⟨#[]⟩, .string ⟨#[]⟩, .slice none 0 0] 49)))) = w2) ∧ EyeAt B l i 0 ((d + 1 : Nat) : Int) w2 ∧ Moved B w w2 ∧ w2.heap[w.heap.size]? = some (.cells #[.int .i64 0, .string ⟨#[]⟩, .string ⟨#[]⟩, .slice none 0 0] 49 (0, 0)) ∧ w2.heap[w1.heap.size]? = some (.cells #[.int .i64 0, .string ⟨#[]⟩, .string ⟨#[]⟩, .slice none 0 0] 49 (0, 0)) :=
    ⟨_, rfl, ey_alloc q1 _, (HM.out.trans q2).alloc (by omega) _, (heap_alloc_old _ _ (by omega)).trans hz1, heap_alloc_new w1 _⟩
  obtain ⟨w2, hwe, hE2, hM2, hz2, ho2⟩ := hw2
  have c2 : w2.cell? ⟨B, 2, none⟩ = some (.int .i64 0) := by
    obtain ⟨_, _, _, _, c2, _⟩ := ey_cells hE2
    exact c2
  have HE2 := veil hE2
  have HM2 := veil hM2
  have HZ2 := veil hz2
  have HO2 := veil ho2
  clear q1 q2 hz1 hE2 hM2
  have b5 : B ≠ w1.heap.size := by omega
  have HW3 : Hid (∃ w3, ((((w2.setCell ⟨w1.heap.size, 0, none⟩ (.int .i64 0)).setCell ⟨w1.heap.size, 1, none⟩ (.string ⟨#[]⟩)).setCell ⟨w1.heap.size, 2, none⟩ (.string ⟨#[]⟩)).setCell ⟨w1.heap.size, 3, none⟩ (.slice none 0 0)) = w3 ∧ EyeAt B l i 0 ((d + 1 : Nat) : Int) w3 ∧ Moved B w w3 ∧ w3.heap[w.heap.size]? = some (.cells #[.int .i64 0, .string ⟨#[]⟩, .string ⟨#[]⟩, .slice none 0 0] 49 (0, 0)) ∧ w3.heap[w1.heap.size]? = some (.cells #[.int .i64 0, .string ⟨#[]⟩, .string ⟨#[]⟩, .slice none 0 0] 49 (0, 0))) := by
    refine ⟨_, rfl, ey_far (ey_far (ey_far (ey_far HE2.out (c := w1.heap.size) (by omega) 0 _) (c := w1.heap.size) (by omega) 1 _) (c := w1.heap.size) (by omega) 2 _) (c := w1.heap.size) (by omega) 3 _, mv_far (mv_far (mv_far (mv_far HM2.out (c := w1.heap.size) (by omega) (by omega) 0 _) (c := w1.heap.size) (by omega) (by omega) 1 _) (c := w1.heap.size) (by omega) (by omega) 2 _) (c := w1.heap.size) (by omega) (by omega) 3 _, ?_, four_set HO2.out _ _ _ _⟩
    rw [Below.heap_setCell _ _ _ _ (by show w.heap.size ≠ w1.heap.size; omega), Below.heap_setCell _ _ _ _ (by show w.heap.size ≠ w1.heap.size; omega), Below.heap_setCell _ _ _ _ (by show w.heap.size ≠ w1.heap.size; omega), Below.heap_setCell _ _ _ _ (by show w.heap.size ≠ w1.heap.size; omega)]
    exact HZ2.out
  obtain ⟨⟨r0, r1, r2, r3⟩, ⟨o0, o1, o2, o3⟩, _, ⟨x0, x1, x2, x3⟩⟩ := kind_cells hz2 ho2
  clear hz2 ho2 r0 r1 r2 r3
  go_wp2_with fail
  try rw [hwe]
  obtain ⟨w3, hw3, hE3, hM3, hz3, ho3⟩ := HW3.out
  rw [hw3]
  have HM3 := veil hM3
  have HZ3 := veil hz3
  have HO3 := veil ho3
  have hs3 : w1.heap.size < w3.heap.size := by rcases Nat.lt_or_ge w1.heap.size w3.heap.size with h' | h'; exact h'; rw [Array.getElem?_eq_none h'] at ho3; cases ho3
  clear o0 o1 o2 o3 x0 x1 x2 x3 c2 hwe HW3 HE2 HM2 HZ2 HO2 hM3 hz3 ho3
  refine (sees_eye B l i 0 _ ⟨#[91]⟩ w3 hE3).mono ?_
  rintro r w4 ⟨rfl, q1, q2⟩
  have hsg : seesB l i 0 (ByteArray.mk #[91]).data.toList = false := HSg.out
  rw [hsg] at q1
  try rw [hsg]
  have HQ1 : Hid (EyeAt B l i 0 ((d + 1 : Nat) : Int) w4) := q1
  have HQ2 := veil q2
  clear q1 q2 hE3 hw3
  go_wp2_with fail
  refine (HOne.out w4 HQ1.out).mono ?_
  rintro r w5 ⟨rfl, q1, q2⟩
  have hs5 : w3.heap.size ≤ w5.heap.size := Nat.le_trans HQ2.out.below.size q2.below.size
  have HM6 : Hid (Moved B w3 (w5.alloc (.cells #[.int .i64 1, .string tx] 90))) := (HQ2.out.trans q2).alloc (by omega) _
  have HE6 := veil (ey_alloc q1 (.cells #[.int .i64 1, .string tx] 90))
  have hw6 : ∃ w6, w5.alloc (.cells #[.int .i64 1, .string tx] 90) = w6 ∧ w6.cell? ⟨w5.heap.size, 0, none⟩ = some (.int .i64 1) ∧ w6.cell? ⟨w5.heap.size, 1, none⟩ = some (.string tx) ∧ w5.heap.size < w6.heap.size := ⟨_, rfl, World.cell?_alloc_at _ _ _ _ rfl, World.cell?_alloc_at _ _ _ _ rfl, by simp⟩
  obtain ⟨w6, hwe6, u0, u1, hs6⟩ := hw6
  rw [hwe6] at HM6 HE6
  have HZ6 := veil ((HM6.out.above w.heap.size hlt (by omega)).trans HZ3.out)
  have HO6 := veil ((HM6.out.above w1.heap.size (by omega) (by omega)).trans HO3.out)
  have HMw := veil (HM3.out.trans HM6.out)
  have b1 : w1.heap.size ≠ B := by omega
  have b2 : w.heap.size ≠ B := by omega
  have b3 : B ≠ w.heap.size := by omega
  have b4 : w1.heap.size ≠ w.heap.size := by omega
  have b6 : w.heap.size ≠ w1.heap.size := by omega
  have b7 : w1.heap.size ≠ w5.heap.size := by omega
  have b8 : w5.heap.size ≠ w1.heap.size := by omega
  have b9 : w5.heap.size ≠ B := by omega
  have b10 : B ≠ w5.heap.size := by omega
  have hd' : (d : Int) < 40 := by omega
  have hd0 : (0 : Int) ≤ (d : Int) := by omega
  clear q1 q2 HQ1 HQ2 HOne HM6 HM3 HZ3 HO3
  go_wp2_with fail
  try rw [hwe6]
  refine (nameMay_any tx hsz _).mono ?_
  rintro r wx ⟨rfl, rfl⟩
  rw [hid]
  have HW7 : Hid (∃ w7, ((w6.setCell ⟨w1.heap.size, 0, none⟩ (.int .i64 4)).setCell ⟨w1.heap.size, 2, none⟩ (.string tx)) = w7 ∧ EyeAt B l (i + 1) 0 ((d + 1 : Nat) : Int) w7 ∧ Moved B w w7 ∧ w7.heap[w.heap.size]? = some (.cells #[.int .i64 0, .string ⟨#[]⟩, .string ⟨#[]⟩, .slice none 0 0] 49 (0, 0)) ∧ w7.heap[w1.heap.size]? = some (.cells #[.int .i64 4, .string ⟨#[]⟩, .string tx, .slice none 0 0] 49 (0, 0)) ∧ w7.heap.size = w6.heap.size ∧ w7.cell? ⟨w5.heap.size, 1, none⟩ = some (.string tx)) := by
    refine ⟨_, rfl, ey_far (ey_far HE6.out (c := w1.heap.size) (by omega) 0 _) (c := w1.heap.size) (by omega) 2 _, mv_far (mv_far HMw.out (c := w1.heap.size) (by omega) (by omega) 0 _) (c := w1.heap.size) (by omega) (by omega) 2 _, ?_, block_set (block_set HO6.out 0 _) 2 _, by rw [heap_size_setCell, heap_size_setCell], ?_⟩
    · rw [Below.heap_setCell _ _ _ _ (by show w.heap.size ≠ w1.heap.size; omega), Below.heap_setCell _ _ _ _ (by show w.heap.size ≠ w1.heap.size; omega)]
      exact HZ6.out
    · rw [World.cell?_setCell_other _ _ _ _ (by intro h; injection h with h _ _; omega), World.cell?_setCell_other _ _ _ _ (by intro h; injection h with h _ _; omega)]
      exact u1
  obtain ⟨_, ⟨o0, o1, o2, o3⟩, _, ⟨x0, x1, x2, x3⟩⟩ := kind_cells HZ6.out HO6.out
  go_wp2_with fail
  try rw [hwe6]
  obtain ⟨w7, hw7, hE7, hM7, hz7, ho7, hs7, u7⟩ := HW7.out
  rw [hw7]
  have HM7 := veil hM7
  have HZ7 := veil hz7
  have HO7 := veil ho7
  clear o0 o1 o2 o3 x0 x1 x2 x3 HW7 HE6 HMw HZ6 HO6 u0 u1 hwe6 hM7 hz7 ho7
  refine (sees_eye B l (i + 1) 0 _ ⟨#[46]⟩ w7 hE7).mono ?_
  rintro r w8 ⟨rfl, q1, q2⟩
  have hs8 := q2.below.size
  have hz8 := (q2.above w.heap.size hlt (by omega)).trans HZ7.out
  have ho8 := (q2.above w1.heap.size (by omega) (by omega)).trans HO7.out
  have hM8 := HM7.out.trans q2
  have hsd : seesB l (i + 1) 0 (ByteArray.mk #[46]).data.toList = true := by unfold seesB; rw [show sgn l (i + 1) (ByteArray.mk #[46]).data.toList = true from hdot]; simp
  rw [hsd] at q1
  try rw [hsd]
  have hE8 : EyeAt B l (i + 2) 0 ((d + 1 : Nat) : Int) w8 := q1
  have u8 : w8.cell? ⟨w5.heap.size, 1, none⟩ = some (.string tx) := (q2.cell (by omega) (by omega) 1).trans u7
  have HW9 : Hid (∃ w9, w8.setCell ⟨w1.heap.size, 1, none⟩ (.string tx) = w9 ∧ EyeAt B l (i + 2) 0 ((d + 1 : Nat) : Int) w9 ∧ Moved B w w9 ∧ w9.heap[w.heap.size]? = some (.cells #[.int .i64 0, .string ⟨#[]⟩, .string ⟨#[]⟩, .slice none 0 0] 49 (0, 0)) ∧ w9.heap[w1.heap.size]? = some (.cells #[.int .i64 4, .string tx, .string tx, .slice none 0 0] 49 (0, 0)) ∧ w9.heap.size = w8.heap.size) :=
    ⟨_, rfl, ey_far hE8 (c := w1.heap.size) (by omega) 1 _, mv_far hM8 (c := w1.heap.size) (by omega) (by omega) 1 _, (Below.heap_setCell _ _ _ _ (by show w.heap.size ≠ w1.heap.size; omega)).trans hz8, block_set ho8 1 _, by rw [heap_size_setCell]⟩
  obtain ⟨_, ⟨o0, o1, o2, o3⟩, _, ⟨x0, x1, x2, x3⟩⟩ := kind_cells hz8 ho8
  clear q1 q2 hM8 hz8 ho8 HM7 HZ7 HO7 hE7 hw7 u7 hsd hdot hE8
  go_wp2_with fail
  obtain ⟨w9, hw9, hE9, hM9, hz9, ho9, hs9⟩ := HW9.out
  rw [hw9]
  have HM9 := veil hM9
  have HZ9 := veil hz9
  have HO9 := veil ho9
  clear o0 o1 o2 o3 x0 x1 x2 x3 HW9 hM9 hz9 ho9 u8 hw9
  refine (ident_eye B l (i + 2) 0 _ w9 hE9).mono ?_
  rintro r w10 ⟨q2, t, i', rfl, hts, q1⟩
  have hs10 := q2.below.size
  have hz10 := (q2.above w.heap.size hlt (by omega)).trans HZ9.out
  have ho10 := (q2.above w1.heap.size (by omega) (by omega)).trans HO9.out
  have hM10 := HM9.out.trans q2
  obtain ⟨e, j, hEj, hres⟩ : ∃ e j, EyeAt B l j e ((d + 1 : Nat) : Int) w10 ∧ ((e = 0 ∧ pTy l (f + 1) i = .ok (.mk 4 tx t []) j) ∨ (e ≠ 0 ∧ pTy l (f + 1) i = .bad e)) := by
    rcases q1 with ⟨_, hi2, he⟩ | ⟨hn, he⟩
    · exact ⟨0, _, he, Or.inl ⟨rfl, HPo.out t hi2⟩⟩
    · refine ⟨4, _, he, Or.inr ⟨by decide, HPb.out ?_⟩⟩
      rcases hn with h | h
      · exact absurd rfl h
      · exact h
  have HRes := veil hres
  have HFin := veil (kind_fin (w5 := w10.setCell ⟨w1.heap.size, 2, none⟩ (.string t)) (ey_far hEj (c := w1.heap.size) (by omega) 2 _) (mv_far hM10 (c := w1.heap.size) (by omega) (by omega) 2 _) hlt ((Below.heap_setCell _ _ _ _ (by show w.heap.size ≠ w1.heap.size; omega)).trans hz10) (.int .i64 4) (.string tx) (.string t) (.slice none 0 0))
  have hzL := hz10
  have hoL := ho10
  have hEL := hEj
  obtain ⟨⟨r0, r1, r2, r3⟩, ⟨o0, o1, o2, o3⟩, ⟨g0, g1, g2, g3⟩, ⟨x0, x1, x2, x3⟩⟩ := kind_cells hzL hoL
  have hc3 : w10.cell? ⟨B, 3, none⟩ = some (.int .i64 ((d : Int) + 1)) ∧ w10.frozen? ⟨B, 3, none⟩ = false := by
    obtain ⟨_, _, _, _, _, c3, _, _, f3, _⟩ := ey_cells hEL
    exact ⟨c3, f3⟩
  obtain ⟨c3, f3⟩ := hc3
  clear q1 q2 hEL hM10 hzL hoL hz10 ho10 HM9 HZ9 HO9 hE9 hEj hres HPo HPb
  go_wp2_with fail
  obtain ⟨F, hF, hEF, hMF, y0, y1, y2, y3⟩ := HFin.out
  rw [hF]
  refine bodyPost_ret (v := .agg #[.int .i64 4, .string tx, .string t, .slice none 0 0]) (by simp [results, Tryz.results48, go_sem, y0, y1, y2, y3]) rfl ⟨hMF, 4, _, _, none, 0, 0, rfl, ?_⟩
  rcases HRes.out with ⟨rfl, hp⟩ | ⟨hne, hp⟩
  · exact Or.inl ⟨_, _, hp, hEF, [], rfl, hsz, hts, none_sl⟩
  · exact Or.inr ⟨_, _, hp, hne, hEF⟩

end Go.Proofs.YtieoddnaknpmlabGreatDoor

/- What the reference's kind answers at a list's bracket. -/
namespace Go.Proofs.YtieoddnaknpmlabGreatDoor
open Go.RowKit
set_option maxRecDepth 100000

set_option maxHeartbeats 8000000 in
theorem kind_list (B : Nat) (l : Toks) (i d f : Nat) (hd : d < 40) (w : World) (h : EyeAt B l i 0 d w) (hs : sgn l i [91] = true)
    (hih : ∀ W, EyeAt B l (i + 1) 0 ((d + 1 : Nat) : Int) W → Calls Tryz.prog 48 #[.pointer (some ⟨B, 0, none⟩)] W (KindR B l (i + 1) (d + 1) f W))
    (hpb : ∀ e, pTy l f (i + 1) = .bad e → pTy l (f + 1) i = .bad e) (hpo : ∀ t j, pTy l f (i + 1) = .ok t j → pTy l (f + 1) i = if sgn l j [93] = true then .ok (.mk 3 emptyText emptyText [t]) (j + 1) else .bad 4) :
    Calls Tryz.prog 48 #[.pointer (some ⟨B, 0, none⟩)] w (KindR B l i d (f + 1) w) := by
  have hlt := ey_lt h
  have HH := veil (ey_alloc h (.cells #[.int .i64 0, .string ⟨#[]⟩, .string ⟨#[]⟩, .slice none 0 0] 49))
  have HM : Hid (Moved B w (w.alloc (.cells #[.int .i64 0, .string ⟨#[]⟩, .string ⟨#[]⟩, .slice none 0 0] 49))) := Moved.of_below ((Below.refl _ _).alloc (Nat.le_refl _) _) (by omega)
  have HIh := veil hih
  have HPb := veil hpb
  have HPo := veil hpo
  have HSg : Hid (seesB l i 0 [91] = true) := by show _ = _; unfold seesB; simp [hs]
  clear h hih hpb hpo hs
  go_enter Tryz.func48, Tryz.ntmps48
  go_wp2_with fail
  refine (down_eye B l i 0 d (by omega) _ HH.out).mono ?_
  rintro r w1 ⟨rfl, q1, q2⟩
  rw [if_neg (by omega)] at q1
  have hs1 : w.heap.size + 1 ≤ w1.heap.size := by have := q2.below.size; simpa using this
  have hz1 : w1.heap[w.heap.size]? = some (.cells #[.int .i64 0, .string ⟨#[]⟩, .string ⟨#[]⟩, .slice none 0 0] 49 (0, 0)) := (q2.above w.heap.size hlt (by simp)).trans (heap_alloc_new w _)
  have hw2 : ∃ w2, ((((w1.alloc (.cells #[.int .i64 0, .string ⟨#[]⟩, .string ⟨#[]⟩, .slice none 0 0] 49)))) = w2) ∧ EyeAt B l i 0 ((d + 1 : Nat) : Int) w2 ∧ Moved B w w2 ∧ w2.heap[w.heap.size]? = some (.cells #[.int .i64 0, .string ⟨#[]⟩, .string ⟨#[]⟩, .slice none 0 0] 49 (0, 0)) ∧ w2.heap[w1.heap.size]? = some (.cells #[.int .i64 0, .string ⟨#[]⟩, .string ⟨#[]⟩, .slice none 0 0] 49 (0, 0)) :=
    ⟨_, rfl, ey_alloc q1 _, (HM.out.trans q2).alloc (by omega) _, (heap_alloc_old _ _ (by omega)).trans hz1, heap_alloc_new w1 _⟩
  obtain ⟨w2, hwe, hE2, hM2, hz2, ho2⟩ := hw2
  have c2 : w2.cell? ⟨B, 2, none⟩ = some (.int .i64 0) := by
    obtain ⟨_, _, _, _, c2, _⟩ := ey_cells hE2
    exact c2
  have HE2 := veil hE2
  have HM2 := veil hM2
  have HZ2 := veil hz2
  have HO2 := veil ho2
  clear q1 q2 hz1 hE2 hM2
  have b5 : B ≠ w1.heap.size := by omega
  have HW3 : Hid (∃ w3, ((((w2.setCell ⟨w1.heap.size, 0, none⟩ (.int .i64 0)).setCell ⟨w1.heap.size, 1, none⟩ (.string ⟨#[]⟩)).setCell ⟨w1.heap.size, 2, none⟩ (.string ⟨#[]⟩)).setCell ⟨w1.heap.size, 3, none⟩ (.slice none 0 0)) = w3 ∧ EyeAt B l i 0 ((d + 1 : Nat) : Int) w3 ∧ Moved B w w3 ∧ w3.heap[w.heap.size]? = some (.cells #[.int .i64 0, .string ⟨#[]⟩, .string ⟨#[]⟩, .slice none 0 0] 49 (0, 0)) ∧ w3.heap[w1.heap.size]? = some (.cells #[.int .i64 0, .string ⟨#[]⟩, .string ⟨#[]⟩, .slice none 0 0] 49 (0, 0))) := by
    refine ⟨_, rfl, ey_far (ey_far (ey_far (ey_far HE2.out (c := w1.heap.size) (by omega) 0 _) (c := w1.heap.size) (by omega) 1 _) (c := w1.heap.size) (by omega) 2 _) (c := w1.heap.size) (by omega) 3 _, mv_far (mv_far (mv_far (mv_far HM2.out (c := w1.heap.size) (by omega) (by omega) 0 _) (c := w1.heap.size) (by omega) (by omega) 1 _) (c := w1.heap.size) (by omega) (by omega) 2 _) (c := w1.heap.size) (by omega) (by omega) 3 _, ?_, four_set HO2.out _ _ _ _⟩
    rw [Below.heap_setCell _ _ _ _ (by show w.heap.size ≠ w1.heap.size; omega), Below.heap_setCell _ _ _ _ (by show w.heap.size ≠ w1.heap.size; omega), Below.heap_setCell _ _ _ _ (by show w.heap.size ≠ w1.heap.size; omega), Below.heap_setCell _ _ _ _ (by show w.heap.size ≠ w1.heap.size; omega)]
    exact HZ2.out
  obtain ⟨⟨r0, r1, r2, r3⟩, ⟨o0, o1, o2, o3⟩, _, ⟨x0, x1, x2, x3⟩⟩ := kind_cells hz2 ho2
  clear hz2 ho2 r0 r1 r2 r3
  go_wp2_with fail
  try rw [hwe]
  obtain ⟨w3, hw3, hE3, hM3, hz3, ho3⟩ := HW3.out
  rw [hw3]
  have HM3 := veil hM3
  have HZ3 := veil hz3
  have HO3 := veil ho3
  have hs3 : w1.heap.size < w3.heap.size := by rcases Nat.lt_or_ge w1.heap.size w3.heap.size with h' | h'; exact h'; rw [Array.getElem?_eq_none h'] at ho3; cases ho3
  clear o0 o1 o2 o3 x0 x1 x2 x3 c2 hwe HW3 HE2 HM2 HZ2 HO2 hM3 hz3 ho3
  refine (sees_eye B l i 0 _ ⟨#[91]⟩ w3 hE3).mono ?_
  rintro r w4 ⟨rfl, q1, q2⟩
  have hsg : seesB l i 0 (ByteArray.mk #[91]).data.toList = true := HSg.out
  rw [hsg] at q1
  try rw [hsg]
  have hE4 : EyeAt B l (i + 1) 0 ((d + 1 : Nat) : Int) w4 := q1
  have hs4 := q2.below.size
  have hz4 := (q2.above w.heap.size hlt (by omega)).trans HZ3.out
  have ho4 := (q2.above w1.heap.size (by omega) (by omega)).trans HO3.out
  have hM4 := HM3.out.trans q2
  have HW5 : Hid (∃ w5, w4.setCell ⟨w1.heap.size, 0, none⟩ (.int .i64 3) = w5 ∧ EyeAt B l (i + 1) 0 ((d + 1 : Nat) : Int) w5 ∧ Moved B w w5 ∧ w5.heap[w.heap.size]? = some (.cells #[.int .i64 0, .string ⟨#[]⟩, .string ⟨#[]⟩, .slice none 0 0] 49 (0, 0)) ∧ w5.heap[w1.heap.size]? = some (.cells #[.int .i64 3, .string ⟨#[]⟩, .string ⟨#[]⟩, .slice none 0 0] 49 (0, 0)) ∧ w5.heap.size = w4.heap.size) :=
    ⟨_, rfl, ey_far hE4 (c := w1.heap.size) (by omega) 0 _, mv_far hM4 (c := w1.heap.size) (by omega) (by omega) 0 _, (Below.heap_setCell _ _ _ _ (by show w.heap.size ≠ w1.heap.size; omega)).trans hz4, block_set ho4 0 _, by rw [heap_size_setCell]⟩
  obtain ⟨_, ⟨o0, o1, o2, o3⟩, _, ⟨x0, x1, x2, x3⟩⟩ := kind_cells hz4 ho4
  have b1 : w1.heap.size ≠ B := by omega
  have b2 : w.heap.size ≠ B := by omega
  have b3 : B ≠ w.heap.size := by omega
  have b4 : w1.heap.size ≠ w.heap.size := by omega
  have b6 : w.heap.size ≠ w1.heap.size := by omega
  have hd' : (d : Int) < 40 := by omega
  have hd0 : (0 : Int) ≤ (d : Int) := by omega
  clear q1 q2 hE4 hM4 hz4 ho4 hE3 HM3 HZ3 HO3 hw3 hsg
  go_wp2_with fail
  obtain ⟨w5, hw5, hE5, hM5, hz5, ho5, hs5⟩ := HW5.out
  rw [hw5]
  have HM5 := veil hM5
  have HZ5 := veil hz5
  have HO5 := veil ho5
  clear o0 o1 o2 o3 x0 x1 x2 x3 HW5 hM5 hz5 ho5 hw5
  refine (HIh.out w5 hE5).mono ?_
  rintro r w6 ⟨q2, k, o, n, va1, va2, va3, rfl, q1⟩
  have hs6 := q2.below.size
  have hz6 := (q2.above w.heap.size hlt (by omega)).trans HZ5.out
  have ho6 := (q2.above w1.heap.size (by omega) (by omega)).trans HO5.out
  have hM6 := HM5.out.trans q2
  obtain ⟨e, j, hEj, hres⟩ : ∃ e j, EyeAt B l j e ((d + 1 : Nat) : Int) w6 ∧ ((e = 0 ∧ ∃ t, pTy l f (i + 1) = .ok t j ∧ TyCs (Fresh w5.heap.size w6) w6 t k o n (.slice va1 va2 va3)) ∨ (e ≠ 0 ∧ pTy l f (i + 1) = .bad e)) := by
    rcases q1 with ⟨t, j, h1, h2, h3⟩ | ⟨e, i', h1, h2, h3⟩
    · exact ⟨0, j, h2, Or.inl ⟨rfl, t, h1, h3⟩⟩
    · exact ⟨e, i', h3, Or.inr ⟨h2, h1⟩⟩
  have HRes := veil hres
  have hAs : (w6.setCell ⟨w1.heap.size, 3, none⟩ (.slice (some ⟨w6.heap.size, 0, none⟩) 1 1)).heap.size = w6.heap.size := heap_size_setCell _ _ _
  have HW8 : Hid (∃ w8, (w6.setCell ⟨w1.heap.size, 3, none⟩ (.slice (some ⟨w6.heap.size, 0, none⟩) 1 1)).alloc (.cells #[.int .i64 k, .string o, .string n, .slice va1 va2 va3] 49) = w8 ∧ EyeAt B l j e ((d + 1 : Nat) : Int) w8 ∧ Moved B w w8 ∧ w8.heap[w.heap.size]? = some (.cells #[.int .i64 0, .string ⟨#[]⟩, .string ⟨#[]⟩, .slice none 0 0] 49 (0, 0)) ∧ w8.heap[w1.heap.size]? = some (.cells #[.int .i64 3, .string ⟨#[]⟩, .string ⟨#[]⟩, .slice (some ⟨w6.heap.size, 0, none⟩) 1 1] 49 (0, 0)) ∧ w8.heap.size = w6.heap.size + 1 ∧ w8.heap[w6.heap.size]? = some (.cells #[.int .i64 k, .string o, .string n, .slice va1 va2 va3] 49 (0, 0)) ∧ ∀ b, w5.heap.size ≤ b → b < w6.heap.size → w8.heap[b]? = w6.heap[b]?) := by
    refine ⟨_, rfl, ey_alloc (ey_far hEj (c := w1.heap.size) (by omega) 3 _) _, (mv_far hM6 (c := w1.heap.size) (by omega) (by omega) 3 _).alloc (by omega) _, ?_, (heap_alloc_old _ _ (by omega)).trans (block_set ho6 3 _), by simp [hAs], ?_, ?_⟩
    · exact (heap_alloc_old _ _ (by omega)).trans ((Below.heap_setCell _ _ _ _ (by show w.heap.size ≠ w1.heap.size; omega)).trans hz6)
    · have := heap_alloc_new (w6.setCell ⟨w1.heap.size, 3, none⟩ (.slice (some ⟨w6.heap.size, 0, none⟩) 1 1)) (.cells #[.int .i64 k, .string o, .string n, .slice va1 va2 va3] 49)
      rw [hAs] at this
      exact this
    · intro b hb1 hb2
      exact (heap_alloc_old _ _ (by omega)).trans (Below.heap_setCell _ _ _ _ (by show b ≠ w1.heap.size; omega))
  clear hAs
  obtain ⟨_, ⟨o0, o1, o2, o3⟩, _, ⟨x0, x1, x2, x3⟩⟩ := kind_cells hz6 ho6
  have b7 : w1.heap.size ≠ w6.heap.size := by omega
  have hoA : (w6.alloc (.cells #[.int .i64 k, .string o, .string n, .slice va1 va2 va3] 49)).heap[w1.heap.size]? = some (.cells #[.int .i64 3, .string ⟨#[]⟩, .string ⟨#[]⟩, .slice none 0 0] 49 (0, 0)) := (heap_alloc_old _ _ (by omega)).trans ho6
  have fA : (w6.alloc (.cells #[.int .i64 k, .string o, .string n, .slice va1 va2 va3] 49)).frozen? ⟨w1.heap.size, 3, none⟩ = false := Lib.frozen_of_heap hoA 3
  have cA : (w6.alloc (.cells #[.int .i64 k, .string o, .string n, .slice va1 va2 va3] 49)).cell? ⟨w1.heap.size, 3, none⟩ = some (.slice none 0 0) := by rw [cell_of_row _ _ 3 _ _ _ hoA]; rfl
  have hlt6 : w1.heap.size < w6.heap.size := by omega
  clear hoA
  clear q1 q2 hM6 hz6 ho6 hEj hres HM5 HZ5 HO5 hE5
  go_wp2_with fail
  obtain ⟨w8, hw8, hE8, hM8, hz8, ho8, hs8, hn8, hk8⟩ := HW8.out
  rw [hw8]
  have HM8 := veil hM8
  have HZ8 := veil hz8
  have HO8 := veil ho8
  have HN8 := veil hn8
  have HK8 := veil hk8
  clear o0 o1 o2 o3 x0 x1 x2 x3 HW8 hM8 hz8 ho8 hw8 hn8 hk8
  refine (wants_eye B l j e _ ⟨#[93]⟩ w8 hE8).mono ?_
  rintro r w9 ⟨rfl, q1, q2⟩
  have hs9 := q2.below.size
  have hzL := (q2.above w.heap.size hlt (by omega)).trans HZ8.out
  have hoL := (q2.above w1.heap.size (by omega) (by omega)).trans HO8.out
  have HN9 := veil ((q2.above w6.heap.size (by omega) (by omega)).trans HN8.out)
  have HK9 := veil (fun b (hb1 : w5.heap.size ≤ b) (hb2 : b < w6.heap.size) => (q2.above b (by omega) (by omega)).trans (HK8.out b hb1 hb2))
  have HFin := veil (kind_fin q1 (HM8.out.trans q2) hlt hzL (.int .i64 3) (.string ⟨#[]⟩) (.string ⟨#[]⟩) (.slice (some ⟨w6.heap.size, 0, none⟩) 1 1))
  obtain ⟨⟨r0, r1, r2, r3⟩, ⟨o0, o1, o2, o3⟩, ⟨g0, g1, g2, g3⟩, _⟩ := kind_cells hzL hoL
  have hc3 : w9.cell? ⟨B, 3, none⟩ = some (.int .i64 ((d : Int) + 1)) ∧ w9.frozen? ⟨B, 3, none⟩ = false := by
    obtain ⟨_, _, _, _, _, c3, _, _, f3, _⟩ := ey_cells q1
    exact ⟨c3, f3⟩
  obtain ⟨c3, f3⟩ := hc3
  clear q1 q2 hzL hoL HM8 HZ8 HO8 HN8 HK8 hE8
  go_wp2_with fail
  obtain ⟨F, hF, hEF, hMF, y0, y1, y2, y3⟩ := HFin.out
  have hold : ∀ b, b ≠ B → b ≠ w.heap.size → F.heap[b]? = w9.heap[b]? := fun b h1 h2 => by
    rw [← hF, Below.heap_setCell _ _ _ _ (by show b ≠ w.heap.size; exact h2), Below.heap_setCell _ _ _ _ (by show b ≠ w.heap.size; exact h2), Below.heap_setCell _ _ _ _ (by show b ≠ w.heap.size; exact h2), Below.heap_setCell _ _ _ _ (by show b ≠ w.heap.size; exact h2), Below.heap_setCell _ _ _ _ (by show b ≠ B; exact h1)]
  have hsF : F.heap.size = w9.heap.size := by rw [← hF, heap_size_setCell, heap_size_setCell, heap_size_setCell, heap_size_setCell, heap_size_setCell]
  rw [hF]
  refine bodyPost_ret (v := .agg #[.int .i64 3, .string ⟨#[]⟩, .string ⟨#[]⟩, .slice (some ⟨w6.heap.size, 0, none⟩) 1 1]) (by simp [results, Tryz.results48, go_sem, y0, y1, y2, y3]) rfl ⟨hMF, 3, _, _, _, 1, 1, rfl, ?_⟩
  rcases HRes.out with ⟨rfl, t, hp, hcs⟩ | ⟨hne, hp⟩
  · have hP := HPo.out t j hp
    cases hs93 : sgn l j [93]
    · have hsd : seesB l j 0 (ByteArray.mk #[93]).data.toList = false := by unfold seesB; rw [show sgn l j (ByteArray.mk #[93]).data.toList = false from hs93]; simp
      rw [hsd] at hEF
      rw [if_neg (by rw [hs93]; simp)] at hP
      exact Or.inr ⟨4, _, hP, by decide, hEF⟩
    · have hsd : seesB l j 0 (ByteArray.mk #[93]).data.toList = true := by unfold seesB; rw [show sgn l j (ByteArray.mk #[93]).data.toList = true from hs93]; simp
      rw [hsd] at hEF
      rw [if_pos hs93] at hP
      have hnF : F.heap[w6.heap.size]? = some (.cells #[.int .i64 k, .string o, .string n, .slice va1 va2 va3] 49 (0, 0)) := (hold _ (by omega) (by omega)).trans HN9.out
      have hk1 : Keeps (Fresh w5.heap.size w6) (Fresh w.heap.size F) w6 F := ⟨fun b hb => (hold b (by have := hb.1; omega) (by have := hb.1; omega)).trans (HK9.out b hb.1 hb.2), fun b hb => ⟨by have := hb.1; omega, by have := hb.2; omega⟩⟩
      refine Or.inl ⟨_, _, hP, hEF, [t], rfl, empty_le, empty_le, some ⟨w6.heap.size, 0, none⟩, 1, rfl, ⟨by simp [maxLen], by simp⟩, Or.inr ⟨w6.heap.size, 0, rfl, ⟨by omega, by omega⟩, ?_, trivial⟩⟩
      exact tyAt_cells.2 ⟨k, o, n, _, by rw [cell_of_row F _ 0 _ _ _ hnF]; rfl, by rw [cell_of_row F _ 1 _ _ _ hnF]; rfl, by rw [cell_of_row F _ 2 _ _ _ hnF]; rfl, by rw [cell_of_row F _ 3 _ _ _ hnF]; rfl, hcs.keep hk1⟩
  · have hsd : seesB l j e (ByteArray.mk #[93]).data.toList = false := by unfold seesB; simp [hne]
    rw [hsd] at hEF
    have he : wantE false e = e := by unfold wantE firstOf; simp [hne]
    rw [he] at hEF
    exact Or.inr ⟨e, _, HPb.out e hp, hne, hEF⟩

end Go.Proofs.YtieoddnaknpmlabGreatDoor

/- What the reference's kind answers: joined. -/
namespace Go.Proofs.YtieoddnaknpmlabGreatDoor
open Go.RowKit
set_option maxRecDepth 100000

theorem tokB_of {l : Toks} {i : Nat} (h : i < l.length) (k : Int) (s : List UInt8) : tokB l i k s = (l[i].1 == k && l[i].2.data.toList == s) := by
  unfold tokB; rw [List.getElem?_eq_getElem h]
theorem takeAt_of {l : Toks} {i : Nat} (h : i < l.length) (k : Int) : takeAt l i k = if l[i].1 = k then some l[i].2 else none := by
  unfold takeAt; rw [List.getElem?_eq_getElem h]
theorem tokB_out {l : Toks} {i : Nat} (h : ¬ i < l.length) (k : Int) (s : List UInt8) : tokB l i k s = false := by
  unfold tokB; rw [List.getElem?_eq_none (by omega)]
theorem takeAt_out {l : Toks} {i : Nat} (h : ¬ i < l.length) (k : Int) : takeAt l i k = none := by
  unfold takeAt; rw [List.getElem?_eq_none (by omega)]

theorem kind_eye (B : Nat) (l : Toks) : ∀ f i d, d + f = 40 → ∀ w, EyeAt B l i 0 ((d : Nat) : Int) w → Calls Tryz.prog 48 #[.pointer (some ⟨B, 0, none⟩)] w (KindR B l i d f w) := by
  intro f
  induction f with
  | zero =>
    intro i d hd w h
    refine (kind_skip B l i 0 1 d (by omega) w h (by rw [if_pos (by omega)]; rfl) (by decide)).mono ?_
    rintro r w' ⟨rfl, hE, hM⟩
    exact ⟨hM, _, _, _, _, _, _, rfl, Or.inr ⟨1, i, by unfold pTy; rfl, by decide, hE⟩⟩
  | succ f ih =>
    intro i d hd w h
    have hd4 : d < 40 := by omega
    cases hs : sgn l i [91] with
    | true =>
      have hlt : i < l.length := by
        rcases Nat.lt_or_ge i l.length with h' | h'
        · exact h'
        · rw [sgn, tokB_out (by omega)] at hs; cases hs
      have hk : l[i].1 = 4 := by
        rw [sgn, tokB_of hlt] at hs
        simp only [Bool.and_eq_true, beq_iff_eq] at hs
        exact hs.1
      have hw : ∀ s, wrd l i s = false := fun s => by rw [wrd, tokB_of hlt, hk]; rfl
      have hstep : pTy l (f + 1) i = (match pTy l f (i + 1) with
          | .bad e => .bad e
          | .ok t j => if sgn l j [93] = true then .ok (.mk 3 emptyText emptyText [t]) (j + 1) else .bad 4) := by
        rw [pTy, hw, hw, if_neg (by simp), if_neg (by simp), if_pos hs]; rfl
      exact kind_list B l i d f hd4 w h hs (fun W hW => ih (i + 1) (d + 1) (by omega) W hW) (fun e he => by rw [hstep, he]) (fun t j ht => by rw [hstep, ht])
    | false =>
      by_cases hlt : i < l.length
      · have hsz : l[i].2.size ≤ maxLen := by
          obtain ⟨ta, tcap, _, _, _, _, _, _, _, _, _, htok⟩ := ey_cells h
          obtain ⟨_, _, _, _, _, _, hz⟩ := htok hlt
          exact hz
        have hone := fun W (hW : EyeAt B l i 0 ((d + 1 : Nat) : Int) W) => one_some B l i _ W hW hlt
        have hstep : pTy l (f + 1) i = if wrd l i [105, 110, 116] = true then .ok (.mk 1 emptyText emptyText []) (i + 1)
            else if wrd l i [116, 101, 120, 116] = true then .ok (.mk 2 emptyText emptyText []) (i + 1)
            else match nameAt l i with
              | .bad e => .bad e
              | .ok x j => .ok (.mk 4 x.1 x.2 []) j := by
          rw [pTy, hs]; rfl
        by_cases hk : l[i].1 = 1
        · rw [hk] at hone
          have hw : ∀ s, wrd l i s = (l[i].2.toList == s) := fun s => by rw [wrd, tokB_of hlt, hk, Lib.toList_data]; simp
          rw [hw, hw] at hstep
          have hid : identAt l i = if identOk l[i].2 = true then some l[i].2 else none := by
            unfold identAt; rw [takeAt_of hlt, if_pos hk]
          cases hi : (l[i].2.toList == [105, 110, 116]) with
          | true => exact kind_int B l i d f hd4 _ w h hs hone hi (by rw [hstep, hi]; rfl)
          | false =>
            cases ht : (l[i].2.toList == [116, 101, 120, 116]) with
            | true => exact kind_text B l i d f hd4 _ w h hs hone hi ht (by rw [hstep, hi, ht]; rfl)
            | false =>
              rw [hi, ht, if_neg (by simp), if_neg (by simp)] at hstep
              cases hio : identOk l[i].2 with
              | false =>
                rw [hio, if_neg (by simp)] at hid
                exact kind_word B l i d f hd4 _ hsz hi ht w h hs hone hio (by rw [hstep, nameAt, hid])
              | true =>
                rw [hio, if_pos rfl] at hid
                cases hdot : sgn l (i + 1) [46] with
                | false => exact kind_name B l i d f hd4 _ hsz hi ht w h hs hone hio hdot (by rw [hstep, nameAt, hid]; simp [hdot])
                | true =>
                  refine kind_of B l i d f hd4 _ hsz hi ht w h hs hone hio hdot (fun m hm => ?_) (fun hm => ?_)
                  · rw [hstep, nameAt, hid]; simp [hdot, hm]
                  · rw [hstep, nameAt, hid]; simp [hdot, hm]
        · have hw : ∀ s, wrd l i s = false := fun s => by rw [wrd, tokB_of hlt]; simp [hk]
          refine kind_no B l i (i + 1) d f hd4 _ _ w h hs hone (by simpa using hk) ?_
          rw [hstep, hw, hw, if_neg (by simp), if_neg (by simp), nameAt, identAt, takeAt_of hlt, if_neg hk]
      · have hone := fun W (hW : EyeAt B l i 0 ((d + 1 : Nat) : Int) W) => one_none B l i 0 _ W hW (Or.inr hlt)
        refine kind_no B l i i d f hd4 _ _ w h hs hone rfl ?_
        rw [pTy, hs, wrd, wrd, tokB_out hlt, tokB_out hlt, if_neg (by simp), if_neg (by simp), if_neg (by simp), nameAt, identAt, takeAt_out hlt]

end Go.Proofs.YtieoddnaknpmlabGreatDoor
