import Derived.Test.YtagbaimfigljiaaGreatDoorJModuleUses23
import Derived.Test.YtagbaimfigljiaaGreatDoorJModuleUses22
import Derived.Test.YtagbaimfigljiaaGreatDoorJModuleUses6
namespace Go.Proofs.YtagbaimfigljiaaGreatDoor
open Go.RowKit
set_option maxRecDepth 100000

set_option maxHeartbeats 8000000 in
theorem kind_list (B : Nat) (l : Toks) (i d f : Nat) (hd : d < 40) (w : World) (h : EyeAt B l i 0 d w) (hs : sgn l i [91] = true)
    (hih : ∀ W, EyeAt B l (i + 1) 0 ((d + 1 : Nat) : Int) W → Calls Tryz.prog 143 #[.pointer (some ⟨B, 0, none⟩)] W (KindR B l (i + 1) (d + 1) f W))
    (hpb : ∀ e, pTy l f (i + 1) = .bad e → pTy l (f + 1) i = .bad e) (hpo : ∀ t j, pTy l f (i + 1) = .ok t j → pTy l (f + 1) i = if sgn l j [93] = true then .ok (.mk 3 emptyText emptyText [t]) (j + 1) else .bad 4) :
    Calls Tryz.prog 143 #[.pointer (some ⟨B, 0, none⟩)] w (KindR B l i d (f + 1) w) := by
  have hlt := ey_lt h
  have HH := veil (ey_alloc h (.cells #[.int .i64 0, .string ⟨#[]⟩, .string ⟨#[]⟩, .slice none 0 0] 84))
  have HM : Hid (Moved B w (w.alloc (.cells #[.int .i64 0, .string ⟨#[]⟩, .string ⟨#[]⟩, .slice none 0 0] 84))) := Moved.of_below ((Below.refl _ _).alloc (Nat.le_refl _) _) (by omega)
  have HIh := veil hih
  have HPb := veil hpb
  have HPo := veil hpo
  have HSg : Hid (seesB l i 0 [91] = true) := by show _ = _; unfold seesB; simp [hs]
  clear h hih hpb hpo hs
  go_enter Tryz.func143, Tryz.ntmps143
  go_wp2_with fail
  refine (down_eye B l i 0 d (by omega) _ HH.out).mono ?_
  rintro r w1 ⟨rfl, q1, q2⟩
  rw [if_neg (by omega)] at q1
  have hs1 : w.heap.size + 1 ≤ w1.heap.size := by have := q2.below.size; simpa using this
  have hz1 : w1.heap[w.heap.size]? = some (.cells #[.int .i64 0, .string ⟨#[]⟩, .string ⟨#[]⟩, .slice none 0 0] 84 (0, 0)) := (q2.above w.heap.size hlt (by simp)).trans (heap_alloc_new w _)
  have hw2 : ∃ w2, ((((w1.alloc (.cells #[.int .i64 0, .string ⟨#[]⟩, .string ⟨#[]⟩, .slice none 0 0] 84)))) = w2) ∧ EyeAt B l i 0 ((d + 1 : Nat) : Int) w2 ∧ Moved B w w2 ∧ w2.heap[w.heap.size]? = some (.cells #[.int .i64 0, .string ⟨#[]⟩, .string ⟨#[]⟩, .slice none 0 0] 84 (0, 0)) ∧ w2.heap[w1.heap.size]? = some (.cells #[.int .i64 0, .string ⟨#[]⟩, .string ⟨#[]⟩, .slice none 0 0] 84 (0, 0)) :=
    ⟨_, rfl, ey_alloc q1 _, (HM.out.trans q2).alloc (by omega) _, (heap_alloc_old _ _ (by omega)).trans hz1, heap_alloc_new w1 _⟩
  obtain ⟨w2, hwe, hE2, hM2, hz2, ho2⟩ := hw2
  have c2 : w2.cell? ⟨B, 2, none⟩ = some (.int .i64 0) := by
    obtain ⟨_, _, _, _, c2, _⟩ := ey_cells hE2
    exact c2
  have HE2 := veil hE2
  have HM2 := veil hM2
  have HZ2 := veil hz2
  have HO2 := veil ho2
  clear q1 q2 hz1 hE2 hM2
  have b5 : B ≠ w1.heap.size := by omega
  have HW3 : Hid (∃ w3, ((((w2.setCell ⟨w1.heap.size, 0, none⟩ (.int .i64 0)).setCell ⟨w1.heap.size, 1, none⟩ (.string ⟨#[]⟩)).setCell ⟨w1.heap.size, 2, none⟩ (.string ⟨#[]⟩)).setCell ⟨w1.heap.size, 3, none⟩ (.slice none 0 0)) = w3 ∧ EyeAt B l i 0 ((d + 1 : Nat) : Int) w3 ∧ Moved B w w3 ∧ w3.heap[w.heap.size]? = some (.cells #[.int .i64 0, .string ⟨#[]⟩, .string ⟨#[]⟩, .slice none 0 0] 84 (0, 0)) ∧ w3.heap[w1.heap.size]? = some (.cells #[.int .i64 0, .string ⟨#[]⟩, .string ⟨#[]⟩, .slice none 0 0] 84 (0, 0))) := by
    refine ⟨_, rfl, ey_far (ey_far (ey_far (ey_far HE2.out (c := w1.heap.size) (by omega) 0 _) (c := w1.heap.size) (by omega) 1 _) (c := w1.heap.size) (by omega) 2 _) (c := w1.heap.size) (by omega) 3 _, mv_far (mv_far (mv_far (mv_far HM2.out (c := w1.heap.size) (by omega) (by omega) 0 _) (c := w1.heap.size) (by omega) (by omega) 1 _) (c := w1.heap.size) (by omega) (by omega) 2 _) (c := w1.heap.size) (by omega) (by omega) 3 _, ?_, four_set HO2.out _ _ _ _⟩
    rw [Below.heap_setCell _ _ _ _ (by show w.heap.size ≠ w1.heap.size; omega), Below.heap_setCell _ _ _ _ (by show w.heap.size ≠ w1.heap.size; omega), Below.heap_setCell _ _ _ _ (by show w.heap.size ≠ w1.heap.size; omega), Below.heap_setCell _ _ _ _ (by show w.heap.size ≠ w1.heap.size; omega)]
    exact HZ2.out
  obtain ⟨⟨r0, r1, r2, r3⟩, ⟨o0, o1, o2, o3⟩, _, ⟨x0, x1, x2, x3⟩⟩ := kind_cells hz2 ho2
  clear hz2 ho2 r0 r1 r2 r3
  go_wp2_with fail
  try rw [hwe]
  obtain ⟨w3, hw3, hE3, hM3, hz3, ho3⟩ := HW3.out
  rw [hw3]
  have HM3 := veil hM3
  have HZ3 := veil hz3
  have HO3 := veil ho3
  have hs3 : w1.heap.size < w3.heap.size := by rcases Nat.lt_or_ge w1.heap.size w3.heap.size with h' | h'; exact h'; rw [Array.getElem?_eq_none h'] at ho3; cases ho3
  clear o0 o1 o2 o3 x0 x1 x2 x3 c2 hwe HW3 HE2 HM2 HZ2 HO2 hM3 hz3 ho3
  refine (sees_eye B l i 0 _ ⟨#[91]⟩ w3 hE3).mono ?_
  rintro r w4 ⟨rfl, q1, q2⟩
  have hsg : seesB l i 0 (ByteArray.mk #[91]).data.toList = true := HSg.out
  rw [hsg] at q1
  try rw [hsg]
  have hE4 : EyeAt B l (i + 1) 0 ((d + 1 : Nat) : Int) w4 := q1
  have hs4 := q2.below.size
  have hz4 := (q2.above w.heap.size hlt (by omega)).trans HZ3.out
  have ho4 := (q2.above w1.heap.size (by omega) (by omega)).trans HO3.out
  have hM4 := HM3.out.trans q2
  have HW5 : Hid (∃ w5, w4.setCell ⟨w1.heap.size, 0, none⟩ (.int .i64 3) = w5 ∧ EyeAt B l (i + 1) 0 ((d + 1 : Nat) : Int) w5 ∧ Moved B w w5 ∧ w5.heap[w.heap.size]? = some (.cells #[.int .i64 0, .string ⟨#[]⟩, .string ⟨#[]⟩, .slice none 0 0] 84 (0, 0)) ∧ w5.heap[w1.heap.size]? = some (.cells #[.int .i64 3, .string ⟨#[]⟩, .string ⟨#[]⟩, .slice none 0 0] 84 (0, 0)) ∧ w5.heap.size = w4.heap.size) :=
    ⟨_, rfl, ey_far hE4 (c := w1.heap.size) (by omega) 0 _, mv_far hM4 (c := w1.heap.size) (by omega) (by omega) 0 _, (Below.heap_setCell _ _ _ _ (by show w.heap.size ≠ w1.heap.size; omega)).trans hz4, block_set ho4 0 _, by rw [heap_size_setCell]⟩
  obtain ⟨_, ⟨o0, o1, o2, o3⟩, _, ⟨x0, x1, x2, x3⟩⟩ := kind_cells hz4 ho4
  have b1 : w1.heap.size ≠ B := by omega
  have b2 : w.heap.size ≠ B := by omega
  have b3 : B ≠ w.heap.size := by omega
  have b4 : w1.heap.size ≠ w.heap.size := by omega
  have b6 : w.heap.size ≠ w1.heap.size := by omega
  have hd' : (d : Int) < 40 := by omega
  have hd0 : (0 : Int) ≤ (d : Int) := by omega
  clear q1 q2 hE4 hM4 hz4 ho4 hE3 HM3 HZ3 HO3 hw3 hsg
  go_wp2_with fail
  obtain ⟨w5, hw5, hE5, hM5, hz5, ho5, hs5⟩ := HW5.out
  rw [hw5]
  have HM5 := veil hM5
  have HZ5 := veil hz5
  have HO5 := veil ho5
  clear o0 o1 o2 o3 x0 x1 x2 x3 HW5 hM5 hz5 ho5 hw5
  refine (HIh.out w5 hE5).mono ?_
  rintro r w6 ⟨q2, k, o, n, va1, va2, va3, rfl, q1⟩
  have hs6 := q2.below.size
  have hz6 := (q2.above w.heap.size hlt (by omega)).trans HZ5.out
  have ho6 := (q2.above w1.heap.size (by omega) (by omega)).trans HO5.out
  have hM6 := HM5.out.trans q2
  obtain ⟨e, j, hEj, hres⟩ : ∃ e j, EyeAt B l j e ((d + 1 : Nat) : Int) w6 ∧ ((e = 0 ∧ ∃ t, pTy l f (i + 1) = .ok t j ∧ TyCs (Fresh w5.heap.size w6) w6 t k o n (.slice va1 va2 va3)) ∨ (e ≠ 0 ∧ pTy l f (i + 1) = .bad e)) := by
    rcases q1 with ⟨t, j, h1, h2, h3⟩ | ⟨e, i', h1, h2, h3⟩
    · exact ⟨0, j, h2, Or.inl ⟨rfl, t, h1, h3⟩⟩
    · exact ⟨e, i', h3, Or.inr ⟨h2, h1⟩⟩
  have HRes := veil hres
  have hAs : (w6.setCell ⟨w1.heap.size, 3, none⟩ (.slice (some ⟨w6.heap.size, 0, none⟩) 1 1)).heap.size = w6.heap.size := heap_size_setCell _ _ _
  have HW8 : Hid (∃ w8, (w6.setCell ⟨w1.heap.size, 3, none⟩ (.slice (some ⟨w6.heap.size, 0, none⟩) 1 1)).alloc (.cells #[.int .i64 k, .string o, .string n, .slice va1 va2 va3] 84) = w8 ∧ EyeAt B l j e ((d + 1 : Nat) : Int) w8 ∧ Moved B w w8 ∧ w8.heap[w.heap.size]? = some (.cells #[.int .i64 0, .string ⟨#[]⟩, .string ⟨#[]⟩, .slice none 0 0] 84 (0, 0)) ∧ w8.heap[w1.heap.size]? = some (.cells #[.int .i64 3, .string ⟨#[]⟩, .string ⟨#[]⟩, .slice (some ⟨w6.heap.size, 0, none⟩) 1 1] 84 (0, 0)) ∧ w8.heap.size = w6.heap.size + 1 ∧ w8.heap[w6.heap.size]? = some (.cells #[.int .i64 k, .string o, .string n, .slice va1 va2 va3] 84 (0, 0)) ∧ ∀ b, w5.heap.size ≤ b → b < w6.heap.size → w8.heap[b]? = w6.heap[b]?) := by
    refine ⟨_, rfl, ey_alloc (ey_far hEj (c := w1.heap.size) (by omega) 3 _) _, (mv_far hM6 (c := w1.heap.size) (by omega) (by omega) 3 _).alloc (by omega) _, ?_, (heap_alloc_old _ _ (by omega)).trans (block_set ho6 3 _), by simp [hAs], ?_, ?_⟩
    · exact (heap_alloc_old _ _ (by omega)).trans ((Below.heap_setCell _ _ _ _ (by show w.heap.size ≠ w1.heap.size; omega)).trans hz6)
    · have := heap_alloc_new (w6.setCell ⟨w1.heap.size, 3, none⟩ (.slice (some ⟨w6.heap.size, 0, none⟩) 1 1)) (.cells #[.int .i64 k, .string o, .string n, .slice va1 va2 va3] 84)
      rw [hAs] at this
      exact this
    · intro b hb1 hb2
      exact (heap_alloc_old _ _ (by omega)).trans (Below.heap_setCell _ _ _ _ (by show b ≠ w1.heap.size; omega))
  clear hAs
  obtain ⟨_, ⟨o0, o1, o2, o3⟩, _, ⟨x0, x1, x2, x3⟩⟩ := kind_cells hz6 ho6
  have b7 : w1.heap.size ≠ w6.heap.size := by omega
  have hoA : (w6.alloc (.cells #[.int .i64 k, .string o, .string n, .slice va1 va2 va3] 84)).heap[w1.heap.size]? = some (.cells #[.int .i64 3, .string ⟨#[]⟩, .string ⟨#[]⟩, .slice none 0 0] 84 (0, 0)) := (heap_alloc_old _ _ (by omega)).trans ho6
  have fA : (w6.alloc (.cells #[.int .i64 k, .string o, .string n, .slice va1 va2 va3] 84)).frozen? ⟨w1.heap.size, 3, none⟩ = false := Lib.frozen_of_heap hoA 3
  have cA : (w6.alloc (.cells #[.int .i64 k, .string o, .string n, .slice va1 va2 va3] 84)).cell? ⟨w1.heap.size, 3, none⟩ = some (.slice none 0 0) := by rw [cell_of_row _ _ 3 _ _ _ hoA]; rfl
  have hlt6 : w1.heap.size < w6.heap.size := by omega
  clear hoA
  clear q1 q2 hM6 hz6 ho6 hEj hres HM5 HZ5 HO5 hE5
  go_wp2_with fail
  obtain ⟨w8, hw8, hE8, hM8, hz8, ho8, hs8, hn8, hk8⟩ := HW8.out
  rw [hw8]
  have HM8 := veil hM8
  have HZ8 := veil hz8
  have HO8 := veil ho8
  have HN8 := veil hn8
  have HK8 := veil hk8
  clear o0 o1 o2 o3 x0 x1 x2 x3 HW8 hM8 hz8 ho8 hw8 hn8 hk8
  refine (wants_eye B l j e _ ⟨#[93]⟩ w8 hE8).mono ?_
  rintro r w9 ⟨rfl, q1, q2⟩
  have hs9 := q2.below.size
  have hzL := (q2.above w.heap.size hlt (by omega)).trans HZ8.out
  have hoL := (q2.above w1.heap.size (by omega) (by omega)).trans HO8.out
  have HN9 := veil ((q2.above w6.heap.size (by omega) (by omega)).trans HN8.out)
  have HK9 := veil (fun b (hb1 : w5.heap.size ≤ b) (hb2 : b < w6.heap.size) => (q2.above b (by omega) (by omega)).trans (HK8.out b hb1 hb2))
  have HFin := veil (kind_fin q1 (HM8.out.trans q2) hlt hzL (.int .i64 3) (.string ⟨#[]⟩) (.string ⟨#[]⟩) (.slice (some ⟨w6.heap.size, 0, none⟩) 1 1))
  obtain ⟨⟨r0, r1, r2, r3⟩, ⟨o0, o1, o2, o3⟩, ⟨g0, g1, g2, g3⟩, _⟩ := kind_cells hzL hoL
  have hc3 : w9.cell? ⟨B, 3, none⟩ = some (.int .i64 ((d : Int) + 1)) ∧ w9.frozen? ⟨B, 3, none⟩ = false := by
    obtain ⟨_, _, _, _, _, c3, _, _, f3, _⟩ := ey_cells q1
    exact ⟨c3, f3⟩
  obtain ⟨c3, f3⟩ := hc3
  clear q1 q2 hzL hoL HM8 HZ8 HO8 HN8 HK8 hE8
  go_wp2_with fail
  obtain ⟨F, hF, hEF, hMF, y0, y1, y2, y3⟩ := HFin.out
  have hold : ∀ b, b ≠ B → b ≠ w.heap.size → F.heap[b]? = w9.heap[b]? := fun b h1 h2 => by
    rw [← hF, Below.heap_setCell _ _ _ _ (by show b ≠ w.heap.size; exact h2), Below.heap_setCell _ _ _ _ (by show b ≠ w.heap.size; exact h2), Below.heap_setCell _ _ _ _ (by show b ≠ w.heap.size; exact h2), Below.heap_setCell _ _ _ _ (by show b ≠ w.heap.size; exact h2), Below.heap_setCell _ _ _ _ (by show b ≠ B; exact h1)]
  have hsF : F.heap.size = w9.heap.size := by rw [← hF, heap_size_setCell, heap_size_setCell, heap_size_setCell, heap_size_setCell, heap_size_setCell]
  rw [hF]
  refine bodyPost_ret (v := .agg #[.int .i64 3, .string ⟨#[]⟩, .string ⟨#[]⟩, .slice (some ⟨w6.heap.size, 0, none⟩) 1 1]) (by simp [results, Tryz.results143, go_sem, y0, y1, y2, y3]) rfl ⟨hMF, 3, _, _, _, 1, 1, rfl, ?_⟩
  rcases HRes.out with ⟨rfl, t, hp, hcs⟩ | ⟨hne, hp⟩
  · have hP := HPo.out t j hp
    cases hs93 : sgn l j [93]
    · have hsd : seesB l j 0 (ByteArray.mk #[93]).data.toList = false := by unfold seesB; rw [show sgn l j (ByteArray.mk #[93]).data.toList = false from hs93]; simp
      rw [hsd] at hEF
      rw [if_neg (by rw [hs93]; simp)] at hP
      exact Or.inr ⟨4, _, hP, by decide, hEF⟩
    · have hsd : seesB l j 0 (ByteArray.mk #[93]).data.toList = true := by unfold seesB; rw [show sgn l j (ByteArray.mk #[93]).data.toList = true from hs93]; simp
      rw [hsd] at hEF
      rw [if_pos hs93] at hP
      have hnF : F.heap[w6.heap.size]? = some (.cells #[.int .i64 k, .string o, .string n, .slice va1 va2 va3] 84 (0, 0)) := (hold _ (by omega) (by omega)).trans HN9.out
      have hk1 : Keeps (Fresh w5.heap.size w6) (Fresh w.heap.size F) w6 F := ⟨fun b hb => (hold b (by have := hb.1; omega) (by have := hb.1; omega)).trans (HK9.out b hb.1 hb.2), fun b hb => ⟨by have := hb.1; omega, by have := hb.2; omega⟩⟩
      refine Or.inl ⟨_, _, hP, hEF, [t], rfl, empty_le, empty_le, some ⟨w6.heap.size, 0, none⟩, 1, rfl, ⟨by simp [maxLen], by simp⟩, Or.inr ⟨w6.heap.size, 0, rfl, ⟨by omega, by omega⟩, ?_, trivial⟩⟩
      exact tyAt_cells.2 ⟨k, o, n, _, by rw [cell_of_row F _ 0 _ _ _ hnF]; rfl, by rw [cell_of_row F _ 1 _ _ _ hnF]; rfl, by rw [cell_of_row F _ 2 _ _ _ hnF]; rfl, by rw [cell_of_row F _ 3 _ _ _ hnF]; rfl, hcs.keep hk1⟩
  · have hsd : seesB l j e (ByteArray.mk #[93]).data.toList = false := by unfold seesB; simp [hne]
    rw [hsd] at hEF
    have he : wantE false e = e := by unfold wantE firstOf; simp [hne]
    rw [he] at hEF
    exact Or.inr ⟨e, _, HPb.out e hp, hne, hEF⟩

end Go.Proofs.YtagbaimfigljiaaGreatDoor
namespace Go.Proofs.YtagbaimfigljiaaGreatDoor
open Go.RowKit
set_option maxRecDepth 100000

theorem tokB_of {l : Toks} {i : Nat} (h : i < l.length) (k : Int) (s : List UInt8) : tokB l i k s = (l[i].1 == k && l[i].2.data.toList == s) := by
  unfold tokB; rw [List.getElem?_eq_getElem h]
theorem takeAt_of {l : Toks} {i : Nat} (h : i < l.length) (k : Int) : takeAt l i k = if l[i].1 = k then some l[i].2 else none := by
  unfold takeAt; rw [List.getElem?_eq_getElem h]
theorem tokB_out {l : Toks} {i : Nat} (h : ¬ i < l.length) (k : Int) (s : List UInt8) : tokB l i k s = false := by
  unfold tokB; rw [List.getElem?_eq_none (by omega)]
theorem takeAt_out {l : Toks} {i : Nat} (h : ¬ i < l.length) (k : Int) : takeAt l i k = none := by
  unfold takeAt; rw [List.getElem?_eq_none (by omega)]

theorem kind_eye (B : Nat) (l : Toks) : ∀ f i d, d + f = 40 → ∀ w, EyeAt B l i 0 ((d : Nat) : Int) w → Calls Tryz.prog 143 #[.pointer (some ⟨B, 0, none⟩)] w (KindR B l i d f w) := by
  intro f
  induction f with
  | zero =>
    intro i d hd w h
    refine (kind_skip B l i 0 1 d (by omega) w h (by rw [if_pos (by omega)]; rfl) (by decide)).mono ?_
    rintro r w' ⟨rfl, hE, hM⟩
    exact ⟨hM, _, _, _, _, _, _, rfl, Or.inr ⟨1, i, by unfold pTy; rfl, by decide, hE⟩⟩
  | succ f ih =>
    intro i d hd w h
    have hd4 : d < 40 := by omega
    cases hs : sgn l i [91] with
    | true =>
      have hlt : i < l.length := by
        rcases Nat.lt_or_ge i l.length with h' | h'
        · exact h'
        · rw [sgn, tokB_out (by omega)] at hs; cases hs
      have hk : l[i].1 = 4 := by
        rw [sgn, tokB_of hlt] at hs
        simp only [Bool.and_eq_true, beq_iff_eq] at hs
        exact hs.1
      have hw : ∀ s, wrd l i s = false := fun s => by rw [wrd, tokB_of hlt, hk]; rfl
      have hstep : pTy l (f + 1) i = (match pTy l f (i + 1) with
          | .bad e => .bad e
          | .ok t j => if sgn l j [93] = true then .ok (.mk 3 emptyText emptyText [t]) (j + 1) else .bad 4) := by
        rw [pTy, hw, hw, if_neg (by simp), if_neg (by simp), if_pos hs]; rfl
      exact kind_list B l i d f hd4 w h hs (fun W hW => ih (i + 1) (d + 1) (by omega) W hW) (fun e he => by rw [hstep, he]) (fun t j ht => by rw [hstep, ht])
    | false =>
      by_cases hlt : i < l.length
      · have hsz : l[i].2.size ≤ maxLen := by
          obtain ⟨ta, tcap, _, _, _, _, _, _, _, _, _, htok⟩ := ey_cells h
          obtain ⟨_, _, _, _, _, _, hz⟩ := htok hlt
          exact hz
        have hone := fun W (hW : EyeAt B l i 0 ((d + 1 : Nat) : Int) W) => one_some B l i _ W hW hlt
        have hstep : pTy l (f + 1) i = if wrd l i [105, 110, 116] = true then .ok (.mk 1 emptyText emptyText []) (i + 1)
            else if wrd l i [116, 101, 120, 116] = true then .ok (.mk 2 emptyText emptyText []) (i + 1)
            else match nameAt l i with
              | .bad e => .bad e
              | .ok x j => .ok (.mk 4 x.1 x.2 []) j := by
          rw [pTy, hs]; rfl
        by_cases hk : l[i].1 = 1
        · rw [hk] at hone
          have hw : ∀ s, wrd l i s = (l[i].2.toList == s) := fun s => by rw [wrd, tokB_of hlt, hk, Lib.toList_data]; simp
          rw [hw, hw] at hstep
          have hid : identAt l i = if identOk l[i].2 = true then some l[i].2 else none := by
            unfold identAt; rw [takeAt_of hlt, if_pos hk]
          cases hi : (l[i].2.toList == [105, 110, 116]) with
          | true => exact kind_int B l i d f hd4 _ w h hs hone hi (by rw [hstep, hi]; rfl)
          | false =>
            cases ht : (l[i].2.toList == [116, 101, 120, 116]) with
            | true => exact kind_text B l i d f hd4 _ w h hs hone hi ht (by rw [hstep, hi, ht]; rfl)
            | false =>
              rw [hi, ht, if_neg (by simp), if_neg (by simp)] at hstep
              cases hio : identOk l[i].2 with
              | false =>
                rw [hio, if_neg (by simp)] at hid
                exact kind_word B l i d f hd4 _ hsz hi ht w h hs hone hio (by rw [hstep, nameAt, hid])
              | true =>
                rw [hio, if_pos rfl] at hid
                cases hdot : sgn l (i + 1) [46] with
                | false => exact kind_name B l i d f hd4 _ hsz hi ht w h hs hone hio hdot (by rw [hstep, nameAt, hid]; simp [hdot])
                | true =>
                  refine kind_of B l i d f hd4 _ hsz hi ht w h hs hone hio hdot (fun m hm => ?_) (fun hm => ?_)
                  · rw [hstep, nameAt, hid]; simp [hdot, hm]
                  · rw [hstep, nameAt, hid]; simp [hdot, hm]
        · have hw : ∀ s, wrd l i s = false := fun s => by rw [wrd, tokB_of hlt]; simp [hk]
          refine kind_no B l i (i + 1) d f hd4 _ _ w h hs hone (by simpa using hk) ?_
          rw [hstep, hw, hw, if_neg (by simp), if_neg (by simp), nameAt, identAt, takeAt_of hlt, if_neg hk]
      · have hone := fun W (hW : EyeAt B l i 0 ((d + 1 : Nat) : Int) W) => one_none B l i 0 _ W hW (Or.inr hlt)
        refine kind_no B l i i d f hd4 _ _ w h hs hone rfl ?_
        rw [pTy, hs, wrd, wrd, tokB_out hlt, tokB_out hlt, if_neg (by simp), if_neg (by simp), if_neg (by simp), nameAt, identAt, takeAt_out hlt]

end Go.Proofs.YtagbaimfigljiaaGreatDoor
namespace Go.Proofs.YtagbaimfigljiaaGreatDoor
open Go.RowKit
set_option maxRecDepth 100000

theorem ident_none {t : ByteArray} (h : identOk t = true) : noneB t = false := by
  have h1 : isIn t.size 1 8 = true := by
    cases e : isIn t.size 1 8 with
    | true => rfl
    | false => rw [identOk, wordOk, e] at h; cases h
  cases e : noneB t with
  | false => rfl
  | true =>
    have : t.data.toList = [] := by simpa [noneB] using e
    have hz : t.size = 0 := by rw [Lib.size_eq, this]; rfl
    rw [hz] at h1
    exact absurd h1 (by decide)

theorem ey_num {B : Nat} {l : Toks} {i : Nat} {e d : Int} {w : World} (h : EyeAt B l i e d w) : ∀ t ∈ l, t.1 = 2 → numOk t.2 = true := by
  obtain ⟨_, _, ⟨⟨_, h⟩, _⟩, _⟩ := h
  exact h

theorem head_eye (B : Nat) (l : Toks) (d : Nat) (sub : Nat → Res Ex) (hE : ExprEye B l d sub) (hA : AllEye B l d sub) : HeadEye B l d sub := by
  intro i e w h
  by_cases he : e = 0
  · subst he
    rw [after_ok]
    cases hp : sgn l i [40] with
    | true => exact head_paren B l d sub hE i w h hp
    | false =>
      cases hb : sgn l i [91] with
      | true => exact head_items B l d sub hA i w h hp hb
      | false =>
        have hs1 : seesB l i 0 [40] = false := by unfold seesB; rw [hp]; rfl
        have hs2 : seesB l i 0 [91] = false := by unfold seesB; rw [hb]; rfl
        have hstep : pHead sub l i = match takeAt l i 2 with
            | some t => .ok (exNum t) (i + 1)
            | none => match takeAt l i 3 with
              | some t => .ok (exQuote t) (i + 1)
              | none => pCall sub l i := by rw [pHead, hp, hb]; rfl
        by_cases hlt : i < l.length
        · have hsz : l[i].2.size ≤ maxLen := by
            obtain ⟨ta, tcap, _, _, _, _, _, _, _, _, _, htok⟩ := ey_cells h
            obtain ⟨_, _, _, _, _, _, hz⟩ := htok hlt
            exact hz
          have hone := fun W (hW : EyeAt B l i 0 (d : Int) W) => one_some B l i _ W hW hlt
          rw [takeAt_of hlt, takeAt_of hlt] at hstep
          by_cases hk2 : l[i].1 = 2
          · rw [hk2] at hone
            rw [if_pos hk2] at hstep
            exact head_num B l d _ i (i + 1) 0 _ hsz w h hs1 hs2 hone rfl (ey_num h _ (List.getElem_mem hlt) hk2) hstep
          · rw [if_neg hk2] at hstep
            by_cases hk3 : l[i].1 = 3
            · rw [hk3] at hone
              rw [if_pos hk3] at hstep
              exact head_quote B l d _ i (i + 1) 0 _ hsz w h hs1 hs2 hone rfl hstep
            · rw [if_neg hk3] at hstep
              have hstep' : pHead sub l i = pCall sub l i := hstep
              by_cases hk1 : l[i].1 = 1
              · rw [hk1] at hone
                have hid : identAt l i = if identOk l[i].2 = true then some l[i].2 else none := by
                  unfold identAt; rw [takeAt_of hlt, if_pos hk1]
                cases hio : identOk l[i].2 with
                | false =>
                  rw [hio, if_neg (by simp)] at hid
                  exact head_bad B l d _ i (i + 1) 0 1 _ hsz w h hs1 hs2 hone (by decide) (by decide) (.inr ⟨rfl, hio⟩) (by rw [hstep', pCall, nameAt, hid]; rfl)
                | true =>
                  rw [hio, if_pos rfl] at hid
                  cases hd : sgn l (i + 1) [46] with
                  | false =>
                    have hn : nameAt l i = .ok (emptyText, l[i].2) (i + 1) := by rw [nameAt, hid]; simp [hd]
                    cases hq : sgn l (i + 1) [40] with
                    | false =>
                      refine head_param B l d _ i (i + 1) 0 _ hsz w h hs1 hs2 hone rfl hio hd hq ?_
                      rw [hstep', pCall, hn]
                      simp only [hq]
                      rfl
                    | true =>
                      refine head_call B l d _ i (i + 1) 0 _ hsz w h hs1 hs2 hone sub hA rfl hio hd hq ?_
                      rw [hstep', pCall, hn, argsRes]
                      simp only [hq, if_true]
                      rfl
                  | true =>
                    refine head_of B l d _ i (i + 1) 0 _ hsz w h hs1 hs2 hone sub hA rfl hio hd (fun hm => ?_) (fun m hm => ?_)
                    · rw [hstep', pCall, nameAt, hid]
                      simp only [hd, if_true]
                      rw [show identAt l (i + 2) = none from hm]
                    · have hn : nameAt l i = .ok (l[i].2, m) (i + 3) := by
                        rw [nameAt, hid]
                        simp only [hd, if_true]
                        rw [show identAt l (i + 2) = some m from hm]
                      rw [hstep', pCall, hn]
                      show _ = if sgn l (i + 3) [40] = true then argsRes sub l l[i].2 m (i + 4) else .bad 4
                      cases hq : sgn l (i + 3) [40] with
                      | true =>
                        rw [argsRes]
                        simp only [hq, if_true]
                        rfl
                      | false =>
                        simp only [hq, ident_none hio]
                        rfl
              · have hid : identAt l i = none := by unfold identAt; rw [takeAt_of hlt, if_neg hk1]
                exact head_bad B l d _ i (i + 1) 0 _ _ hsz w h hs1 hs2 hone (beq_eq_false_iff_ne.2 hk3) (beq_eq_false_iff_ne.2 hk2) (.inl (bne_iff_ne.2 hk1)) (by rw [hstep', pCall, nameAt, hid]; rfl)
        · have hone := fun W (hW : EyeAt B l i 0 (d : Int) W) => one_none B l i 0 _ W hW (Or.inr hlt)
          rw [takeAt_out hlt, takeAt_out hlt] at hstep
          have hstep' : pHead sub l i = pCall sub l i := hstep
          have hid : identAt l i = none := by unfold identAt; rw [takeAt_out hlt]
          exact head_bad B l d _ i i 0 0 _ (Nat.zero_le _) w h hs1 hs2 hone (by decide) (by decide) (.inl rfl) (by rw [hstep', pCall, nameAt, hid]; rfl)
  · have hone := fun W (hW : EyeAt B l i e (d : Int) W) => one_none B l i e _ W hW (Or.inl he)
    exact head_bad B l d _ i i e 0 _ (Nat.zero_le _) w h (sees_wrong he) (sees_wrong he) hone (by decide) (by decide) (.inl rfl) (by rw [after_bad he]; unfold firstOf; rw [if_neg he])

/-- expr reads as the plain reading says. -/
theorem eye_expr (B : Nat) (l : Toks) : ∀ f d, d + f = 40 → ExprEye B l d (pEx l f) :=
  expr_eye B l (fun f d _ hE => tail_eye B l d (pEx l f) hE (head_eye B l d _ hE (all_eye B l d _ hE (fun i x j h => pEx_adv f i x j h))) (fun i x j h => pEx_adv f i x j h))

end Go.Proofs.YtagbaimfigljiaaGreatDoor
namespace Go.Proofs.YtagbaimfigljiaaGreatDoor
open Go.RowKit
set_option maxRecDepth 100000

def bindF (R : Res (List Fd)) (k : List Fd → Nat → Res Fu) : Res Fu := match R with
  | .bad e => .bad e
  | .ok ps j => k ps j

/-- behind the params: the result, and the body. -/
def finRes (l : Toks) (n v : ByteArray) (ps : List Fd) (j : Nat) : Res Fu := if sgn l j [58] = true then (match pTy l 40 (j + 1) with
  | .bad e => .bad e
  | .ok t j => if sgn l j [61] = true then (match pEx l 40 (j + 1) with
    | .bad e => .bad e
    | .ok x j => .ok ⟨n, v, ps, t, x⟩ j) else .bad 4) else .bad 4

/-- behind a function's name, and its variable. -/
def funRest (l : Toks) (n v : ByteArray) (j : Nat) : Res Fu := if sgn l j [40] = true then bindF (pParams l (j + 1)) (finRes l n v) else .bad 4

theorem pFun_rest (l : Toks) (i : Nat) : pFun l i = match identAt l i with
  | none => .bad 4
  | some n => match pVar l (i + 1) with
    | .bad e => .bad e
    | .ok v j => funRest l n v j := by
  rw [pFun]
  cases identAt l i with
  | none => rfl
  | some n =>
    cases pVar l (i + 1) with
    | bad e => rfl
    | ok v j =>
      show (if sgn l j [40] = true then _ else _) = funRest l n v j
      unfold funRest
      cases hs : sgn l j [40] with
      | false => rfl
      | true =>
        simp only [if_true]
        cases pParams l (j + 1) with
        | bad e => rfl
        | ok ps j => rfl

/-- at the head of the loop over params. -/
def headP (l : Toks) (g : Nat) (xs : List Fd) (j : Nat) : Res (List Fd) := if sgn l j [41] = true then .ok xs (j + 1) else match xs with
  | [] => pList (pNamed l [58]) l [41] g [] j
  | _ :: _ => if sgn l j [44] = true then pList (pNamed l [58]) l [41] g xs (j + 1) else .bad 4

/-- one is read, then those behind it. -/
def nextP (l : Toks) (g : Nat) (xs : List Fd) (R : Res Fd) : Res (List Fd) := match R with
  | .bad e => .bad e
  | .ok x j => headP l g (xs ++ [x]) j

theorem sgn_one {l : Toks} {i : Nat} {a b : List UInt8} (h : sgn l i a = true) (hne : a ≠ b) : sgn l i b = false := by
  cases hb : sgn l i b with
  | false => rfl
  | true =>
    exfalso
    have hlt := sgn_lt h
    rw [sgn, tokB_of hlt] at h hb
    simp only [Bool.and_eq_true, beq_iff_eq] at h hb
    exact hne (h.2.symm.trans hb.2)

theorem rest_head (l : Toks) (g : Nat) (xs : List Fd) (x : Fd) (j : Nat) : restRes (pNamed l [58]) l [41] g (xs ++ [x]) j = headP l g (xs ++ [x]) j := by
  have hne : ∃ y ys, xs ++ [x] = y :: ys := by cases xs <;> simp
  obtain ⟨y, ys, e⟩ := hne
  rw [e]
  unfold restRes headP
  cases h1 : sgn l j [44] with
  | true => rw [sgn_one h1 (b := [41]) (by decide)]; rfl
  | false =>
    cases h2 : sgn l j [41] with
    | true => rfl
    | false => rfl

theorem pList_next {l : Toks} {g : Nat} {xs : List Fd} {j : Nat} : pList (pNamed l [58]) l [41] (g + 1) xs j = nextP l g xs (pNamed l [58] j) := by
  cases h : pNamed l [58] j with
  | bad e => rw [pList_bad h]; rfl
  | ok x j' => rw [pList_step h, rest_head]; rfl

theorem pNamed_lt {l : Toks} {s : List UInt8} {i : Nat} {x : Fd} {j : Nat} (h : pNamed l s i = .ok x j) : i < j ∧ i < l.length := by
  unfold pNamed at h
  split at h
  · cases h
  · split at h
    · next hs =>
      have hlt := sgn_lt hs
      split at h
      · cases h
      · next t j' ht =>
        injection h with _ h
        subst h
        have := pTy_adv _ _ _ _ ht
        omega
    · cases h

/-- what is told of a name that was asked for. -/
def IdSt (l : Toks) (j1 : Nat) (e1 : Int) (nm : ByteArray) (j2 : Nat) (e2 : Int) : Prop := (e1 = 0 ∧ identAt l j1 = some nm ∧ j2 = j1 + 1 ∧ e2 = 0) ∨ ((e1 ≠ 0 ∨ identAt l j1 = none) ∧ e2 = firstOf e1 4)

theorem first_ne (e : Int) : firstOf e 4 ≠ 0 := by unfold firstOf; split <;> omega

theorem ident_st {B : Nat} {l : Toks} {i : Nat} {e d : Int} {w : World} {r : Ending} {w' : World} (h : IdentR B l i e d w r w') : Moved B w w' ∧ ∃ t j2 e2, r = .returned (.string t) ∧ t.size ≤ maxLen ∧ EyeAt B l j2 e2 d w' ∧ IdSt l i e t j2 e2 := by
  obtain ⟨hM, t, i', hr, hz, h⟩ := h
  refine ⟨hM, t, ?_⟩
  rcases h with ⟨h1, h2, h3⟩ | ⟨h1, h2⟩
  · exact ⟨i + 1, 0, hr, hz, h3, .inl ⟨h1, h2, rfl, rfl⟩⟩
  · exact ⟨i', _, hr, hz, h2, .inr ⟨h1, rfl⟩⟩

/-- a name, a sign, a type: what is told. -/
theorem named_st {l : Toks} {j1 j2 j4 : Nat} {e1 e2 e4 : Int} {nm s : ByteArray} {Q : Ty → Prop} (h2 : IdSt l j1 e1 nm j2 e2)
    (h4 : (e4 = 0 ∧ ∃ t, after (wantE (seesB l j2 e2 s.data.toList) e2) (pTy l 40 (adv (seesB l j2 e2 s.data.toList) j2)) = .ok t j4 ∧ Q t) ∨ (e4 ≠ 0 ∧ after (wantE (seesB l j2 e2 s.data.toList) e2) (pTy l 40 (adv (seesB l j2 e2 s.data.toList) j2)) = .bad e4)) :
    (e4 = 0 ∧ ∃ t, Q t ∧ after e1 (pNamed l s.data.toList j1) = .ok ⟨nm, t⟩ j4) ∨ (e4 ≠ 0 ∧ after e1 (pNamed l s.data.toList j1) = .bad e4) := by
  rcases h2 with ⟨rfl, hi, rfl, rfl⟩ | ⟨hb, rfl⟩
  · rw [after_ok, pNamed, hi]
    cases hs : sgn l (j1 + 1) s.data.toList with
    | true =>
      rw [sees_is rfl hs] at h4
      rw [show wantE true 0 = 0 from rfl, after_ok, show adv true (j1 + 1) = j1 + 2 from rfl] at h4
      simp only [if_true]
      rcases h4 with ⟨rfl, t, ht, hq⟩ | ⟨hne, ht⟩
      · rw [ht]; exact .inl ⟨rfl, t, hq, rfl⟩
      · rw [ht]; exact .inr ⟨hne, rfl⟩
    | false =>
      rw [sees_is rfl hs] at h4
      rw [show wantE false 0 = 4 from rfl, after_bad (by decide)] at h4
      simp only [Bool.false_eq_true, if_false]
      rcases h4 with ⟨_, t, ht, _⟩ | ⟨hne, ht⟩
      · cases ht
      · injection ht with ht
        subst ht
        exact .inr ⟨hne, rfl⟩
  · rw [sees_wrong (first_ne e1), want_wrong (first_ne e1), after_bad (first_ne e1)] at h4
    rcases h4 with ⟨_, t, ht, _⟩ | ⟨hne, ht⟩
    · cases ht
    · injection ht with ht
      subst ht
      refine .inr ⟨hne, ?_⟩
      by_cases h0 : e1 = 0
      · subst h0
        rw [after_ok, pNamed, hb.resolve_left (by simp)]
        rfl
      · rw [after_bad h0]
        unfold firstOf
        rw [if_neg h0]

/-- what is told of a type. -/
def TyR (B : Nat) (l : Toks) (T : Res Ty) (w : World) (r : Ending) (w' : World) : Prop :=
  Moved B w w' ∧ ∃ k o n a m c, r = .returned (.agg #[.int .i64 k, .string o, .string n, .slice a m c]) ∧ ∃ e j, EyeAt B l j e 0 w' ∧ ((e = 0 ∧ ∃ t, T = .ok t j ∧ TyCs (Fresh w.heap.size w') w' t k o n (.slice a m c)) ∨ (e ≠ 0 ∧ T = .bad e))

theorem kind_all (B : Nat) (l : Toks) (i : Nat) (e : Int) (w : World) (h : EyeAt B l i e 0 w) : Calls Tryz.prog 143 #[.pointer (some ⟨B, 0, none⟩)] w (TyR B l (after e (pTy l 40 i)) w) := by
  by_cases he : e = 0
  · subst he
    rw [after_ok]
    refine (kind_eye B l 40 i 0 (by omega) w h).mono ?_
    rintro r w' ⟨hM, k, o, n, va1, va2, va3, hr, ht⟩
    refine ⟨hM, k, o, n, va1, va2, va3, hr, ?_⟩
    rcases ht with ⟨t, j, h1, h2, h3⟩ | ⟨e, j, h1, h2, h3⟩
    · exact ⟨0, j, h2, .inl ⟨rfl, t, h1, h3⟩⟩
    · exact ⟨e, j, h3, .inr ⟨h2, h1⟩⟩
  · refine (kind_skip B l i e e 0 (by omega) w h (if_neg (by omega)) he).mono ?_
    rintro r w' ⟨rfl, hE, hM⟩
    exact ⟨hM, _, _, _, _, _, _, rfl, e, i, hE, .inr ⟨he, after_bad he _⟩⟩

end Go.Proofs.YtagbaimfigljiaaGreatDoor
namespace Go.Proofs.YtagbaimfigljiaaGreatDoor
open Go.RowKit
set_option maxRecDepth 100000

theorem row_cell {w : World} {b : Nat} {cs : Array Value} {T : TypeId} (h : w.heap[b]? = some (.cells cs T (0, 0))) (o : Nat) (v : Value) (hv : cs[o]? = some v) : w.cell? ⟨b, o, none⟩ = some v := by
  rw [cell_of_row w b o _ _ _ h]; exact hv

/-- stores into a block of the call's own. -/
theorem fars {B : Nat} {l : Toks} {i : Nat} {e d : Int} {w : World} {c : Nat} (hc : B < c) (hw : w.heap.size ≤ c) : ∀ (vs : List Value) (o : Nat) (w' : World), EyeAt B l i e d w' → Moved B w w' → EyeAt B l i e d (w'.setCells c o vs) ∧ Moved B w (w'.setCells c o vs)
  | [], _, _, hE, hM => ⟨hE, hM⟩
  | v :: r, o, _, hE, hM => fars hc hw r (o + 1) _ (ey_far hE hc o v) (mv_far hM hw hc o v)

theorem sets_other {c b : Nat} (h : b ≠ c) : ∀ (vs : List Value) (o : Nat) (w : World), (w.setCells c o vs).heap[b]? = w.heap[b]?
  | [], _, _ => rfl
  | v :: r, o, w => (sets_other h r (o + 1) _).trans (Below.heap_setCell _ _ _ _ (by exact h))

/-- what is told of a function. -/
def FunR (B : Nat) (l : Toks) (T : Res Fu) (w : World) (r : Ending) (w' : World) : Prop :=
  Moved B w w' ∧ ∃ n v a m c k o nn a1 m1 c1 k' n' o' s' a2 m2 c2, r = .returned (.agg #[.string n, .string v, .slice a m c, .int .i64 k, .string o, .string nn, .slice a1 m1 c1, .int .i64 k', .int .i64 n', .string o', .string s', .slice a2 m2 c2]) ∧
    ∃ e j, EyeAt B l j e 0 w' ∧ ((e = 0 ∧ ∃ x, T = .ok x j ∧ FuC (Fresh w.heap.size w') w' x [.string n, .string v, .slice a m c, .int .i64 k, .string o, .string nn, .slice a1 m1 c1, .int .i64 k', .int .i64 n', .string o', .string s', .slice a2 m2 c2]) ∨ (e ≠ 0 ∧ T = .bad e))

/-- behind the params: what is told of the rest. -/
theorem fin_st {l : Toks} {n v : ByteArray} {T : Res Fu} {PS : List Fd → Prop} {QT : Ty → Prop} {QX : Ex → Prop} {j0 j1 j2 j3 j4 : Nat} {e0 e1 e2 e3 e4 : Int}
    (h0 : (e0 = 0 ∧ ∃ ps, PS ps ∧ T = finRes l n v ps j0) ∨ (e0 ≠ 0 ∧ T = .bad e0)) (h1 : e1 = wantE (seesB l j0 e0 [58]) e0 ∧ j1 = adv (seesB l j0 e0 [58]) j0)
    (h2 : (e2 = 0 ∧ ∃ t, after e1 (pTy l 40 j1) = .ok t j2 ∧ QT t) ∨ (e2 ≠ 0 ∧ after e1 (pTy l 40 j1) = .bad e2)) (h3 : e3 = wantE (seesB l j2 e2 [61]) e2 ∧ j3 = adv (seesB l j2 e2 [61]) j2)
    (h4 : (e4 = 0 ∧ ∃ x, after e3 (pEx l 40 j3) = .ok x j4 ∧ QX x) ∨ (e4 ≠ 0 ∧ after e3 (pEx l 40 j3) = .bad e4)) :
    (e4 = 0 ∧ ∃ ps t x, PS ps ∧ QT t ∧ QX x ∧ T = .ok ⟨n, v, ps, t, x⟩ j4) ∨ (e4 ≠ 0 ∧ T = .bad e4) := by
  obtain ⟨rfl, rfl⟩ := h1
  obtain ⟨rfl, rfl⟩ := h3
  have late : ∀ e : Int, e ≠ 0 → T = .bad e → wantE (seesB l j2 e2 [61]) e2 = e → (e4 = 0 ∧ ∃ ps t x, PS ps ∧ QT t ∧ QX x ∧ T = .ok ⟨n, v, ps, t, x⟩ j4) ∨ (e4 ≠ 0 ∧ T = .bad e4) := by
    intro e he hT hw
    rw [hw, after_bad he] at h4
    rcases h4 with ⟨_, x, hx, _⟩ | ⟨hne, hx⟩
    · cases hx
    · injection hx with hx
      subst hx
      exact .inr ⟨hne, hT⟩
  have mid : ∀ e : Int, e ≠ 0 → T = .bad e → e2 = e → (e4 = 0 ∧ ∃ ps t x, PS ps ∧ QT t ∧ QX x ∧ T = .ok ⟨n, v, ps, t, x⟩ j4) ∨ (e4 ≠ 0 ∧ T = .bad e4) := by
    intro e he hT hw
    subst hw
    exact late e2 he hT (by rw [sees_wrong he, want_wrong he])
  have early : ∀ e : Int, e ≠ 0 → T = .bad e → wantE (seesB l j0 e0 [58]) e0 = e → (e4 = 0 ∧ ∃ ps t x, PS ps ∧ QT t ∧ QX x ∧ T = .ok ⟨n, v, ps, t, x⟩ j4) ∨ (e4 ≠ 0 ∧ T = .bad e4) := by
    intro e he hT hw
    rw [hw, after_bad he] at h2
    rcases h2 with ⟨_, t, ht, _⟩ | ⟨hne, ht⟩
    · cases ht
    · injection ht with ht
      exact mid e he hT ht.symm
  rcases h0 with ⟨rfl, ps, hps, hT⟩ | ⟨hne, hT⟩
  · unfold finRes at hT
    cases hs : sgn l j0 [58] with
    | false =>
      rw [hs] at hT
      exact early 4 (by decide) hT (by rw [show seesB l j0 0 [58] = false from by unfold seesB; rw [hs]; rfl]; rfl)
    | true =>
      have hb : seesB l j0 0 [58] = true := by unfold seesB; rw [hs]; rfl
      rw [hb, show wantE true 0 = 0 from rfl, after_ok, show adv true j0 = j0 + 1 from rfl] at h2
      rw [hs] at hT
      simp only [if_true] at hT
      rcases h2 with ⟨rfl, t, ht, hqt⟩ | ⟨hne, ht⟩
      · rw [ht] at hT
        simp only at hT
        cases hs2 : sgn l j2 [61] with
        | false =>
          rw [hs2] at hT
          exact late 4 (by decide) hT (by rw [show seesB l j2 0 [61] = false from by unfold seesB; rw [hs2]; rfl]; rfl)
        | true =>
          have hb2 : seesB l j2 0 [61] = true := by unfold seesB; rw [hs2]; rfl
          rw [hb2, show wantE true 0 = 0 from rfl, after_ok, show adv true j2 = j2 + 1 from rfl] at h4
          rw [hs2] at hT
          simp only [if_true] at hT
          rcases h4 with ⟨rfl, x, hx, hqx⟩ | ⟨hne, hx⟩
          · rw [hx] at hT
            exact .inl ⟨rfl, ps, t, x, hps, hqt, hqx, hT⟩
          · rw [hx] at hT
            exact .inr ⟨hne, hT⟩
      · rw [ht] at hT
        exact mid e2 hne hT rfl
  · exact early e0 hne hT (by rw [sees_wrong hne, want_wrong hne])

end Go.Proofs.YtagbaimfigljiaaGreatDoor
