/- What the reference's kind answers at a list's bracket. -/
import Derived.Test.YtpamadnckijfkabGreatDoorEyeKind6
import Derived.Test.YtpamadnckijfkabGreatDoorEyeKind4
namespace Go.Proofs.YtpamadnckijfkabGreatDoor
open Go.RowKit
set_option maxRecDepth 100000

set_option maxHeartbeats 8000000 in
theorem kind_list (B : Nat) (l : Toks) (i d f : Nat) (hd : d < 40) (w : World) (h : EyeAt B l i 0 d w) (hs : sgn l i [91] = true)
    (hih : ∀ W, EyeAt B l (i + 1) 0 ((d + 1 : Nat) : Int) W → Calls Tryz.prog 48 #[.pointer (some ⟨B, 0, none⟩)] W (KindR B l (i + 1) (d + 1) f W))
    (hpb : ∀ e, pTy l f (i + 1) = .bad e → pTy l (f + 1) i = .bad e) (hpo : ∀ t j, pTy l f (i + 1) = .ok t j → pTy l (f + 1) i = if sgn l j [93] = true then .ok (.mk 3 emptyText emptyText [t]) (j + 1) else .bad 4) :
    Calls Tryz.prog 48 #[.pointer (some ⟨B, 0, none⟩)] w (KindR B l i d (f + 1) w) := by
  have hlt := ey_lt h
  have HH := veil (ey_alloc h (.cells #[.int .i64 0, .string ⟨#[]⟩, .string ⟨#[]⟩, .slice none 0 0] 49))
  have HM : Hid (Moved B w (w.alloc (.cells #[.int .i64 0, .string ⟨#[]⟩, .string ⟨#[]⟩, .slice none 0 0] 49))) := Moved.of_below ((Below.refl _ _).alloc (Nat.le_refl _) _) (by omega)
  have HIh := veil hih
  have HPb := veil hpb
  have HPo := veil hpo
  have HSg : Hid (seesB l i 0 [91] = true) := by show _ = _; unfold seesB; simp [hs]
  clear h hih hpb hpo hs
  go_enter Tryz.func48, Tryz.ntmps48
  go_wp2_with fail
  refine (down_eye B l i 0 d (by omega) _ HH.out).mono ?_
  rintro r w1 ⟨rfl, q1, q2⟩
  rw [if_neg (by omega)] at q1
  have hs1 : w.heap.size + 1 ≤ w1.heap.size := by have := q2.below.size; simpa using this
  have hz1 : w1.heap[w.heap.size]? = some (.cells #[.int .i64 0, .string ⟨#[]⟩, .string ⟨#[]⟩, .slice none 0 0] 49 (0, 0)) := (q2.above w.heap.size hlt (by simp)).trans (heap_alloc_new w _)
  have hw2 : ∃ w2, ((((w1.alloc (.cells #[.int .i64 0, .string ⟨#[]⟩, .string ⟨#[]⟩, .slice none 0 0] 49)))) = w2) ∧ EyeAt B l i 0 ((d + 1 : Nat) : Int) w2 ∧ Moved B w w2 ∧ w2.heap[w.heap.size]? = some (.cells #[.int .i64 0, .string ⟨#[]⟩, .string ⟨#[]⟩, .slice none 0 0] 49 (0, 0)) ∧ w2.heap[w1.heap.size]? = some (.cells #[.int .i64 0, .string ⟨#[]⟩, .string ⟨#[]⟩, .slice none 0 0] 49 (0, 0)) :=
    ⟨_, rfl, ey_alloc q1 _, (HM.out.trans q2).alloc (by omega) _, (heap_alloc_old _ _ (by omega)).trans hz1, heap_alloc_new w1 _⟩
  obtain ⟨w2, hwe, hE2, hM2, hz2, ho2⟩ := hw2
  have c2 : w2.cell? ⟨B, 2, none⟩ = some (.int .i64 0) := by
    obtain ⟨_, _, _, _, c2, _⟩ := ey_cells hE2
    exact c2
  have HE2 := veil hE2
  have HM2 := veil hM2
  have HZ2 := veil hz2
  have HO2 := veil ho2
  clear q1 q2 hz1 hE2 hM2
  have b5 : B ≠ w1.heap.size := by omega
  have HW3 : Hid (∃ w3, ((((w2.setCell ⟨w1.heap.size, 0, none⟩ (.int .i64 0)).setCell ⟨w1.heap.size, 1, none⟩ (.string ⟨#[]⟩)).setCell ⟨w1.heap.size, 2, none⟩ (.string ⟨#[]⟩)).setCell ⟨w1.heap.size, 3, none⟩ (.slice none 0 0)) = w3 ∧ EyeAt B l i 0 ((d + 1 : Nat) : Int) w3 ∧ Moved B w w3 ∧ w3.heap[w.heap.size]? = some (.cells #[.int .i64 0, .string ⟨#[]⟩, .string ⟨#[]⟩, .slice none 0 0] 49 (0, 0)) ∧ w3.heap[w1.heap.size]? = some (.cells #[.int .i64 0, .string ⟨#[]⟩, .string ⟨#[]⟩, .slice none 0 0] 49 (0, 0))) := by
    refine ⟨_, rfl, ey_far (ey_far (ey_far (ey_far HE2.out (c := w1.heap.size) (by omega) 0 _) (c := w1.heap.size) (by omega) 1 _) (c := w1.heap.size) (by omega) 2 _) (c := w1.heap.size) (by omega) 3 _, mv_far (mv_far (mv_far (mv_far HM2.out (c := w1.heap.size) (by omega) (by omega) 0 _) (c := w1.heap.size) (by omega) (by omega) 1 _) (c := w1.heap.size) (by omega) (by omega) 2 _) (c := w1.heap.size) (by omega) (by omega) 3 _, ?_, four_set HO2.out _ _ _ _⟩
    rw [Below.heap_setCell _ _ _ _ (by show w.heap.size ≠ w1.heap.size; omega), Below.heap_setCell _ _ _ _ (by show w.heap.size ≠ w1.heap.size; omega), Below.heap_setCell _ _ _ _ (by show w.heap.size ≠ w1.heap.size; omega), Below.heap_setCell _ _ _ _ (by show w.heap.size ≠ w1.heap.size; omega)]
    exact HZ2.out
  obtain ⟨⟨r0, r1, r2, r3⟩, ⟨o0, o1, o2, o3⟩, _, ⟨x0, x1, x2, x3⟩⟩ := kind_cells hz2 ho2
  clear hz2 ho2 r0 r1 r2 r3
  go_wp2_with fail
  try rw [hwe]
  obtain ⟨w3, hw3, hE3, hM3, hz3, ho3⟩ := HW3.out
  rw [hw3]
  have HM3 := veil hM3
  have HZ3 := veil hz3
  have HO3 := veil ho3
  have hs3 : w1.heap.size < w3.heap.size := by rcases Nat.lt_or_ge w1.heap.size w3.heap.size with h' | h'; exact h'; rw [Array.getElem?_eq_none h'] at ho3; cases ho3
  clear o0 o1 o2 o3 x0 x1 x2 x3 c2 hwe HW3 HE2 HM2 HZ2 HO2 hM3 hz3 ho3
  refine (sees_eye B l i 0 _ ⟨#[91]⟩ w3 hE3).mono ?_
  rintro r w4 ⟨rfl, q1, q2⟩
  have hsg : seesB l i 0 (ByteArray.mk #[91]).data.toList = true := HSg.out
  rw [hsg] at q1
  try rw [hsg]
  have hE4 : EyeAt B l (i + 1) 0 ((d + 1 : Nat) : Int) w4 := q1
  have hs4 := q2.below.size
  have hz4 := (q2.above w.heap.size hlt (by omega)).trans HZ3.out
  have ho4 := (q2.above w1.heap.size (by omega) (by omega)).trans HO3.out
  have hM4 := HM3.out.trans q2
  have HW5 : Hid (∃ w5, w4.setCell ⟨w1.heap.size, 0, none⟩ (.int .i64 3) = w5 ∧ EyeAt B l (i + 1) 0 ((d + 1 : Nat) : Int) w5 ∧ Moved B w w5 ∧ w5.heap[w.heap.size]? = some (.cells #[.int .i64 0, .string ⟨#[]⟩, .string ⟨#[]⟩, .slice none 0 0] 49 (0, 0)) ∧ w5.heap[w1.heap.size]? = some (.cells #[.int .i64 3, .string ⟨#[]⟩, .string ⟨#[]⟩, .slice none 0 0] 49 (0, 0)) ∧ w5.heap.size = w4.heap.size) :=
    ⟨_, rfl, ey_far hE4 (c := w1.heap.size) (by omega) 0 _, mv_far hM4 (c := w1.heap.size) (by omega) (by omega) 0 _, (Below.heap_setCell _ _ _ _ (by show w.heap.size ≠ w1.heap.size; omega)).trans hz4, block_set ho4 0 _, by rw [heap_size_setCell]⟩
  obtain ⟨_, ⟨o0, o1, o2, o3⟩, _, ⟨x0, x1, x2, x3⟩⟩ := kind_cells hz4 ho4
  have b1 : w1.heap.size ≠ B := by omega
  have b2 : w.heap.size ≠ B := by omega
  have b3 : B ≠ w.heap.size := by omega
  have b4 : w1.heap.size ≠ w.heap.size := by omega
  have b6 : w.heap.size ≠ w1.heap.size := by omega
  have hd' : (d : Int) < 40 := by omega
  have hd0 : (0 : Int) ≤ (d : Int) := by omega
  clear q1 q2 hE4 hM4 hz4 ho4 hE3 HM3 HZ3 HO3 hw3 hsg
  go_wp2_with fail
  obtain ⟨w5, hw5, hE5, hM5, hz5, ho5, hs5⟩ := HW5.out
  rw [hw5]
  have HM5 := veil hM5
  have HZ5 := veil hz5
  have HO5 := veil ho5
  clear o0 o1 o2 o3 x0 x1 x2 x3 HW5 hM5 hz5 ho5 hw5
  refine (HIh.out w5 hE5).mono ?_
  rintro r w6 ⟨q2, k, o, n, va1, va2, va3, rfl, q1⟩
  have hs6 := q2.below.size
  have hz6 := (q2.above w.heap.size hlt (by omega)).trans HZ5.out
  have ho6 := (q2.above w1.heap.size (by omega) (by omega)).trans HO5.out
  have hM6 := HM5.out.trans q2
  obtain ⟨e, j, hEj, hres⟩ : ∃ e j, EyeAt B l j e ((d + 1 : Nat) : Int) w6 ∧ ((e = 0 ∧ ∃ t, pTy l f (i + 1) = .ok t j ∧ TyCs (Fresh w5.heap.size w6) w6 t k o n (.slice va1 va2 va3)) ∨ (e ≠ 0 ∧ pTy l f (i + 1) = .bad e)) := by
    rcases q1 with ⟨t, j, h1, h2, h3⟩ | ⟨e, i', h1, h2, h3⟩
    · exact ⟨0, j, h2, Or.inl ⟨rfl, t, h1, h3⟩⟩
    · exact ⟨e, i', h3, Or.inr ⟨h2, h1⟩⟩
  have HRes := veil hres
  have hAs : (w6.setCell ⟨w1.heap.size, 3, none⟩ (.slice (some ⟨w6.heap.size, 0, none⟩) 1 1)).heap.size = w6.heap.size := heap_size_setCell _ _ _
  have HW8 : Hid (∃ w8, (w6.setCell ⟨w1.heap.size, 3, none⟩ (.slice (some ⟨w6.heap.size, 0, none⟩) 1 1)).alloc (.cells #[.int .i64 k, .string o, .string n, .slice va1 va2 va3] 49) = w8 ∧ EyeAt B l j e ((d + 1 : Nat) : Int) w8 ∧ Moved B w w8 ∧ w8.heap[w.heap.size]? = some (.cells #[.int .i64 0, .string ⟨#[]⟩, .string ⟨#[]⟩, .slice none 0 0] 49 (0, 0)) ∧ w8.heap[w1.heap.size]? = some (.cells #[.int .i64 3, .string ⟨#[]⟩, .string ⟨#[]⟩, .slice (some ⟨w6.heap.size, 0, none⟩) 1 1] 49 (0, 0)) ∧ w8.heap.size = w6.heap.size + 1 ∧ w8.heap[w6.heap.size]? = some (.cells #[.int .i64 k, .string o, .string n, .slice va1 va2 va3] 49 (0, 0)) ∧ ∀ b, w5.heap.size ≤ b → b < w6.heap.size → w8.heap[b]? = w6.heap[b]?) := by
    refine ⟨_, rfl, ey_alloc (ey_far hEj (c := w1.heap.size) (by omega) 3 _) _, (mv_far hM6 (c := w1.heap.size) (by omega) (by omega) 3 _).alloc (by omega) _, ?_, (heap_alloc_old _ _ (by omega)).trans (block_set ho6 3 _), by simp [hAs], ?_, ?_⟩
    · exact (heap_alloc_old _ _ (by omega)).trans ((Below.heap_setCell _ _ _ _ (by show w.heap.size ≠ w1.heap.size; omega)).trans hz6)
    · have := heap_alloc_new (w6.setCell ⟨w1.heap.size, 3, none⟩ (.slice (some ⟨w6.heap.size, 0, none⟩) 1 1)) (.cells #[.int .i64 k, .string o, .string n, .slice va1 va2 va3] 49)
      rw [hAs] at this
      exact this
    · intro b hb1 hb2
      exact (heap_alloc_old _ _ (by omega)).trans (Below.heap_setCell _ _ _ _ (by show b ≠ w1.heap.size; omega))
  clear hAs
  obtain ⟨_, ⟨o0, o1, o2, o3⟩, _, ⟨x0, x1, x2, x3⟩⟩ := kind_cells hz6 ho6
  have b7 : w1.heap.size ≠ w6.heap.size := by omega
  have hoA : (w6.alloc (.cells #[.int .i64 k, .string o, .string n, .slice va1 va2 va3] 49)).heap[w1.heap.size]? = some (.cells #[.int .i64 3, .string ⟨#[]⟩, .string ⟨#[]⟩, .slice none 0 0] 49 (0, 0)) := (heap_alloc_old _ _ (by omega)).trans ho6
  have fA : (w6.alloc (.cells #[.int .i64 k, .string o, .string n, .slice va1 va2 va3] 49)).frozen? ⟨w1.heap.size, 3, none⟩ = false := Lib.frozen_of_heap hoA 3
  have cA : (w6.alloc (.cells #[.int .i64 k, .string o, .string n, .slice va1 va2 va3] 49)).cell? ⟨w1.heap.size, 3, none⟩ = some (.slice none 0 0) := by rw [cell_of_row _ _ 3 _ _ _ hoA]; rfl
  have hlt6 : w1.heap.size < w6.heap.size := by omega
  clear hoA
  clear q1 q2 hM6 hz6 ho6 hEj hres HM5 HZ5 HO5 hE5
  go_wp2_with fail
  obtain ⟨w8, hw8, hE8, hM8, hz8, ho8, hs8, hn8, hk8⟩ := HW8.out
  rw [hw8]
  have HM8 := veil hM8
  have HZ8 := veil hz8
  have HO8 := veil ho8
  have HN8 := veil hn8
  have HK8 := veil hk8
  clear o0 o1 o2 o3 x0 x1 x2 x3 HW8 hM8 hz8 ho8 hw8 hn8 hk8
  refine (wants_eye B l j e _ ⟨#[93]⟩ w8 hE8).mono ?_
  rintro r w9 ⟨rfl, q1, q2⟩
  have hs9 := q2.below.size
  have hzL := (q2.above w.heap.size hlt (by omega)).trans HZ8.out
  have hoL := (q2.above w1.heap.size (by omega) (by omega)).trans HO8.out
  have HN9 := veil ((q2.above w6.heap.size (by omega) (by omega)).trans HN8.out)
  have HK9 := veil (fun b (hb1 : w5.heap.size ≤ b) (hb2 : b < w6.heap.size) => (q2.above b (by omega) (by omega)).trans (HK8.out b hb1 hb2))
  have HFin := veil (kind_fin q1 (HM8.out.trans q2) hlt hzL (.int .i64 3) (.string ⟨#[]⟩) (.string ⟨#[]⟩) (.slice (some ⟨w6.heap.size, 0, none⟩) 1 1))
  obtain ⟨⟨r0, r1, r2, r3⟩, ⟨o0, o1, o2, o3⟩, ⟨g0, g1, g2, g3⟩, _⟩ := kind_cells hzL hoL
  have hc3 : w9.cell? ⟨B, 3, none⟩ = some (.int .i64 ((d : Int) + 1)) ∧ w9.frozen? ⟨B, 3, none⟩ = false := by
    obtain ⟨_, _, _, _, _, c3, _, _, f3, _⟩ := ey_cells q1
    exact ⟨c3, f3⟩
  obtain ⟨c3, f3⟩ := hc3
  clear q1 q2 hzL hoL HM8 HZ8 HO8 HN8 HK8 hE8
  go_wp2_with fail
  obtain ⟨F, hF, hEF, hMF, y0, y1, y2, y3⟩ := HFin.out
  have hold : ∀ b, b ≠ B → b ≠ w.heap.size → F.heap[b]? = w9.heap[b]? := fun b h1 h2 => by
    rw [← hF, Below.heap_setCell _ _ _ _ (by show b ≠ w.heap.size; exact h2), Below.heap_setCell _ _ _ _ (by show b ≠ w.heap.size; exact h2), Below.heap_setCell _ _ _ _ (by show b ≠ w.heap.size; exact h2), Below.heap_setCell _ _ _ _ (by show b ≠ w.heap.size; exact h2), Below.heap_setCell _ _ _ _ (by show b ≠ B; exact h1)]
  have hsF : F.heap.size = w9.heap.size := by rw [← hF, heap_size_setCell, heap_size_setCell, heap_size_setCell, heap_size_setCell, heap_size_setCell]
  rw [hF]
  refine bodyPost_ret (v := .agg #[.int .i64 3, .string ⟨#[]⟩, .string ⟨#[]⟩, .slice (some ⟨w6.heap.size, 0, none⟩) 1 1]) (by simp [results, Tryz.results48, go_sem, y0, y1, y2, y3]) rfl ⟨hMF, 3, _, _, _, 1, 1, rfl, ?_⟩
  rcases HRes.out with ⟨rfl, t, hp, hcs⟩ | ⟨hne, hp⟩
  · have hP := HPo.out t j hp
    cases hs93 : sgn l j [93]
    · have hsd : seesB l j 0 (ByteArray.mk #[93]).data.toList = false := by unfold seesB; rw [show sgn l j (ByteArray.mk #[93]).data.toList = false from hs93]; simp
      rw [hsd] at hEF
      rw [if_neg (by rw [hs93]; simp)] at hP
      exact Or.inr ⟨4, _, hP, by decide, hEF⟩
    · have hsd : seesB l j 0 (ByteArray.mk #[93]).data.toList = true := by unfold seesB; rw [show sgn l j (ByteArray.mk #[93]).data.toList = true from hs93]; simp
      rw [hsd] at hEF
      rw [if_pos hs93] at hP
      have hnF : F.heap[w6.heap.size]? = some (.cells #[.int .i64 k, .string o, .string n, .slice va1 va2 va3] 49 (0, 0)) := (hold _ (by omega) (by omega)).trans HN9.out
      have hk1 : Keeps (Fresh w5.heap.size w6) (Fresh w.heap.size F) w6 F := ⟨fun b hb => (hold b (by have := hb.1; omega) (by have := hb.1; omega)).trans (HK9.out b hb.1 hb.2), fun b hb => ⟨by have := hb.1; omega, by have := hb.2; omega⟩⟩
      refine Or.inl ⟨_, _, hP, hEF, [t], rfl, empty_le, empty_le, some ⟨w6.heap.size, 0, none⟩, 1, rfl, ⟨by simp [maxLen], by simp⟩, Or.inr ⟨w6.heap.size, 0, rfl, ⟨by omega, by omega⟩, ?_, trivial⟩⟩
      exact tyAt_cells.2 ⟨k, o, n, _, by rw [cell_of_row F _ 0 _ _ _ hnF]; rfl, by rw [cell_of_row F _ 1 _ _ _ hnF]; rfl, by rw [cell_of_row F _ 2 _ _ _ hnF]; rfl, by rw [cell_of_row F _ 3 _ _ _ hnF]; rfl, hcs.keep hk1⟩
  · have hsd : seesB l j e (ByteArray.mk #[93]).data.toList = false := by unfold seesB; simp [hne]
    rw [hsd] at hEF
    have he : wantE false e = e := by unfold wantE firstOf; simp [hne]
    rw [he] at hEF
    exact Or.inr ⟨e, _, HPb.out e hp, hne, hEF⟩

end Go.Proofs.YtpamadnckijfkabGreatDoor
