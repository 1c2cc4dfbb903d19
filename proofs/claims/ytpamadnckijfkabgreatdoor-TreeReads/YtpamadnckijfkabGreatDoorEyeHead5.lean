/- What the reference's head answers at a name: a call of a function of this module. -/
import Derived.Test.YtpamadnckijfkabGreatDoorEyeHead4
namespace Go.Proofs.YtpamadnckijfkabGreatDoor
open Go.RowKit
set_option maxRecDepth 100000

set_option maxHeartbeats 8000000 in
theorem head_call (B : Nat) (l : Toks) (d : Nat) (T : Res Ex) (i i1 : Nat) (e : Int) (tx : ByteArray) (hsz : tx.size ≤ maxLen) (w : World) (h : EyeAt B l i e d w) (hs : seesB l i e [40] = false) (hs2 : seesB l i e [91] = false)
    (hone : ∀ W, EyeAt B l i e d W → Calls Tryz.prog 45 #[.pointer (some ⟨B, 0, none⟩)] W fun r w' => r = .returned (.agg #[.int .i64 1, .string tx]) ∧ EyeAt B l i1 e d w' ∧ Moved B W w')
    (sub : Nat → Res Ex) (hA : AllEye B l d sub) (he : e = 0) (hid : identOk tx = true) (hd : sgn l i1 [46] = false) (hp : sgn l i1 [40] = true) (hT : T = argsRes sub l emptyText tx (i1 + 1)) :
    Calls Tryz.prog 137 #[.pointer (some ⟨B, 0, none⟩)] w (ExprR B l d T w) := by
  have hlt := ey_lt h
  have HA := veil (ey_alloc h (.cells #[.int .i64 0, .int .i64 0, .string ⟨#[]⟩, .string ⟨#[]⟩, .slice none 0 0] 52))
  have HM : Hid (Moved B w (w.alloc (.cells #[.int .i64 0, .int .i64 0, .string ⟨#[]⟩, .string ⟨#[]⟩, .slice none 0 0] 52))) := Moved.of_below ((Below.refl _ _).alloc (Nat.le_refl _) _) (by omega)
  have HSg : Hid (seesB l i e (ByteArray.mk #[40]).data.toList = false) := hs
  have HSg2 : Hid (seesB l i e (ByteArray.mk #[91]).data.toList = false) := hs2
  have HOne := veil hone
  have HAl := veil hA
  have HSd : Hid (seesB l i1 e (ByteArray.mk #[46]).data.toList = false) := sees_is he hd
  have HSp : Hid (seesB l i1 e (ByteArray.mk #[40]).data.toList = true) := sees_is he hp
  have HTa : Hid ((e = 0 → T = argsRes sub l emptyText tx (i1 + 1)) ∧ (e ≠ 0 → T = .bad e)) := ⟨fun _ => hT, fun h => absurd he h⟩
  clear h hs hs2 hone hT hd hp he hA
  go_enter Tryz.func137, Tryz.ntmps137
  go_wp2_with fail
  refine (sees_eye B l i e _ ⟨#[40]⟩ _ HA.out).mono ?_
  rintro r w1 ⟨rfl, q1, q2⟩
  rw [HSg.out] at q1
  rw [HSg.out]
  have hE1 : EyeAt B l i e d w1 := q1
  have hs1 : w.heap.size + 1 ≤ w1.heap.size := by have := q2.below.size; simpa using this
  have HZ1 := veil ((q2.above w.heap.size hlt (by simp)).trans (heap_alloc_new w (.cells #[.int .i64 0, .int .i64 0, .string ⟨#[]⟩, .string ⟨#[]⟩, .slice none 0 0] 52)))
  have HM1 := veil (HM.out.trans q2)
  clear q1 q2
  go_wp2_with fail
  refine (sees_eye B l i e _ ⟨#[91]⟩ _ hE1).mono ?_
  rintro r w2 ⟨rfl, q1, q2⟩
  rw [HSg2.out] at q1
  rw [HSg2.out]
  have hE2 : EyeAt B l i e d w2 := q1
  have HX := veil (HOne.out w2 hE2)
  have hs2 := q2.below.size
  have HZ2 := veil ((q2.above w.heap.size hlt (by omega)).trans HZ1.out)
  have HM2 := veil (HM1.out.trans q2)
  clear q1 q2 hE1 hE2
  go_wp2_with fail
  refine HX.out.mono ?_
  rintro r w3 ⟨rfl, hE3, q2⟩
  have hs3 := q2.below.size
  have hz3 := (heap_alloc_old w3 (.cells #[.int .i64 1, .string tx] 90) (by omega)).trans ((q2.above w.heap.size hlt (by omega)).trans HZ2.out)
  have hM3 := (HM2.out.trans q2).alloc (by omega) (.cells #[.int .i64 1, .string tx] 90)
  have hE4 := ey_alloc hE3 (.cells #[.int .i64 1, .string tx] 90)
  have t0 : (w3.alloc (.cells #[.int .i64 1, .string tx] 90)).cell? ⟨w3.heap.size, 0, none⟩ = some (.int .i64 1) := World.cell?_alloc_at _ _ _ _ rfl
  have t1 : (w3.alloc (.cells #[.int .i64 1, .string tx] 90)).cell? ⟨w3.heap.size, 1, none⟩ = some (.string tx) := World.cell?_alloc_at _ _ _ _ rfl
  clear q2 hE3 HX HA HM HZ1 HM1 HZ2 HM2 HSg HSg2 HOne
  have HE4 := veil hE4
  have HM3 := veil hM3
  have HZ3 := veil hz3
  clear hE4 hM3 hz3
  go_wp2_with fail
  refine (nameMay_any tx hsz _).mono ?_
  rintro r w4 ⟨rfl, rfl⟩
  rw [hid]
  have hEo := ey_alloc HE4.out (.cells #[.int .i64 4, .int .i64 0, .string ⟨#[]⟩, .string tx, .slice none 0 0] 52)
  have HMo := veil (HM3.out.alloc (by simp; omega) (.cells #[.int .i64 4, .int .i64 0, .string ⟨#[]⟩, .string tx, .slice none 0 0] 52))
  have HZo := veil ((heap_alloc_old (w3.alloc (.cells #[.int .i64 1, .string tx] 90)) (.cells #[.int .i64 4, .int .i64 0, .string ⟨#[]⟩, .string tx, .slice none 0 0] 52) (by simp; omega)).trans HZ3.out)
  have HOo : Hid (((w3.alloc (.cells #[.int .i64 1, .string tx] 90)).alloc (.cells #[.int .i64 4, .int .i64 0, .string ⟨#[]⟩, .string tx, .slice none 0 0] 52)).heap[w3.heap.size + 1]? = some (.cells #[.int .i64 4, .int .i64 0, .string ⟨#[]⟩, .string tx, .slice none 0 0] 52 (0, 0))) := by
    have := heap_alloc_new (w3.alloc (.cells #[.int .i64 1, .string tx] 90)) (.cells #[.int .i64 4, .int .i64 0, .string ⟨#[]⟩, .string tx, .slice none 0 0] 52)
    rwa [show (w3.alloc (.cells #[.int .i64 1, .string tx] 90)).heap.size = w3.heap.size + 1 by simp] at this
  have HTo : Hid (((w3.alloc (.cells #[.int .i64 1, .string tx] 90)).alloc (.cells #[.int .i64 4, .int .i64 0, .string ⟨#[]⟩, .string tx, .slice none 0 0] 52)).heap[w3.heap.size]? = some (.cells #[.int .i64 1, .string tx] 90 (0, 0))) := (heap_alloc_old _ _ (by simp)).trans (heap_alloc_new w3 _)
  have HSo : Hid (((w3.alloc (.cells #[.int .i64 1, .string tx] 90)).alloc (.cells #[.int .i64 4, .int .i64 0, .string ⟨#[]⟩, .string tx, .slice none 0 0] 52)).heap.size = w3.heap.size + 2) := by show _ = _; simp
  go_wp2_with fail
  refine (sees_eye B l i1 e _ ⟨#[46]⟩ _ hEo).mono ?_
  rintro r w5 ⟨rfl, q1, q2⟩
  rw [HSd.out] at q1
  rw [HSd.out]
  have hE5 : EyeAt B l i1 e d w5 := q1
  have hs5 : w3.heap.size + 2 ≤ w5.heap.size := by have := q2.below.size; rw [HSo.out] at this; exact this
  have HZ5 := veil ((q2.above w.heap.size hlt (by rw [HSo.out]; omega)).trans HZo.out)
  have HO5 := veil ((q2.above (w3.heap.size + 1) (by omega) (by rw [HSo.out]; omega)).trans HOo.out)
  have HM5 := veil (HMo.out.trans q2)
  clear q1 q2 hEo t0 t1
  go_wp2_with fail
  refine (sees_eye B l i1 e _ ⟨#[40]⟩ _ hE5).mono ?_
  rintro r w6 ⟨rfl, q1, q2⟩
  rw [HSp.out] at q1
  rw [HSp.out]
  have hEA : EyeAt B l (i1 + 1) e d w6 := q1
  have hs6 := q2.below.size
  have HZA := veil ((q2.above w.heap.size hlt (by omega)).trans HZ5.out)
  have HOA := veil ((q2.above (w3.heap.size + 1) (by omega) (by omega)).trans HO5.out)
  have HMA := veil (HM5.out.trans q2)
  clear q1 q2 hE5 HZ5 HO5 HM5 HZo HOo HMo HTo HSo HZ3 HM3 HE4
  go_wp2_with fail
  refine (sees_eye B l (i1 + 1) e _ ⟨#[41]⟩ _ hEA).mono ?_
  rintro r w7 ⟨rfl, q1, q2⟩
  have hs7 := q2.below.size
  have hz7 := (q2.above w.heap.size hlt (by omega)).trans HZA.out
  have ho7 := (q2.above (w3.heap.size + 1) (by omega) (by omega)).trans HOA.out
  have HM7 := veil (HMA.out.trans q2)
  have n1 : w3.heap.size + 1 ≠ w.heap.size := by omega
  have n2 : w.heap.size ≠ w3.heap.size + 1 := by omega
  cases hsg : seesB l (i1 + 1) e (ByteArray.mk #[41]).data.toList with
  | true =>
    rw [hsg] at q1
    have hb : e = 0 ∧ sgn l (i1 + 1) [41] = true := by simpa [seesB] using hsg
    have HFin := veil (expr_fin (T := T) (ob := w.heap.size) (k := 4) (n := 0) (f := ⟨#[]⟩) (s := tx) (a := none) (m := 0) (c := 0) q1 HM7.out hlt hz7 (.inl ⟨hb.1, _, ex_leaf 4 0 empty_le hsz, by rw [HTa.out.1 hb.1, argsRes, if_pos hb.2]; rfl⟩))
    obtain ⟨⟨o0, o1, o2, o3, o4⟩, _⟩ := five_cells ho7
    obtain ⟨⟨r0, r1, r2, r3, r4⟩, ⟨g0, g1, g2, g3, g4⟩⟩ := five_cells hz7
    clear q1 q2 hz7 ho7 hEA hb hsg
    go_wp2_with fail
    obtain ⟨F, hF, ⟨y0, y1, y2, y3, y4⟩, hR⟩ := HFin.out
    rw [hF]
    exact bodyPost_ret (v := .agg #[.int .i64 4, .int .i64 0, .string ⟨#[]⟩, .string tx, .slice none 0 0]) (by simp [results, Tryz.results137, go_sem, y0, y1, y2, y3, y4]) rfl hR
  | false =>
    rw [hsg] at q1
    have hE7 : EyeAt B l (i1 + 1) e d w7 := q1
    have hn41 : e = 0 → sgn l (i1 + 1) [41] = false := fun h0 => by
      have : (decide (e = 0) && sgn l (i1 + 1) [41]) = false := hsg
      rw [h0] at this
      simpa using this
    have HN41 := veil hn41
    have HX := veil (HAl.out ⟨#[41]⟩ (i1 + 1) e w7 hE7)
    have HZ7 := veil hz7
    have HO7 := veil ho7
    clear q1 q2 hz7 ho7 hEA hE7 hsg hn41
    go_wp2_with fail
    refine HX.out.mono ?_
    rintro r w8 ⟨q2, a, m, c, rfl, q1⟩
    have hs8 := q2.below.size
    have hz8 := (q2.above w.heap.size hlt (by omega)).trans HZ7.out
    have ho8 := (q2.above (w3.heap.size + 1) (by omega) (by omega)).trans HO7.out
    have hst : ∃ e8 j8, EyeAt B l j8 e8 d w8 ∧ ((e8 = 0 ∧ ∃ xs, after e (pList sub l [41] (l.length + 1) [] (i1 + 1)) = .ok xs j8 ∧ SlAt (Fresh w7.heap.size w8) (ExAt (Fresh w7.heap.size w8) w8) 5 xs (.slice a m c)) ∨ (e8 ≠ 0 ∧ after e (pList sub l [41] (l.length + 1) [] (i1 + 1)) = .bad e8)) := by
      rcases q1 with ⟨xs, j, h1, h2, h3⟩ | ⟨e, j, h1, h2, h3⟩
      · exact ⟨0, j, h2, .inl ⟨rfl, xs, h1, h3⟩⟩
      · exact ⟨e, j, h3, .inr ⟨h2, h1⟩⟩
    obtain ⟨e8, j8, hE8, hr8⟩ := hst
    have hTe : (e8 = 0 ∧ ∃ x, ExCs (OwnB (w.heap.size + 1) (w3.heap.size + 1) (w8.setCell ⟨w3.heap.size + 1, 4, none⟩ (.slice a m c))) (w8.setCell ⟨w3.heap.size + 1, 4, none⟩ (.slice a m c)) x 4 0 (⟨#[]⟩) (tx) (.slice a m c) ∧ T = .ok x j8) ∨ (e8 ≠ 0 ∧ T = .bad e8) := by
      by_cases h0 : e = 0
      · have hT0 := HTa.out.1 h0
        rw [argsRes, if_neg (by rw [HN41.out h0]; simp)] at hT0
        have e0 : after e (pList sub l [41] (l.length + 1) [] (i1 + 1)) = pList sub l [41] (l.length + 1) [] (i1 + 1) := by rw [h0, after_ok]
        rw [e0] at hr8
        rcases hr8 with ⟨rfl, xs, hp, hpx⟩ | ⟨hne, hp⟩
        · rw [hp] at hT0
          have hcs : ExCs (Fresh w7.heap.size w8) w8 (exCall (⟨#[]⟩) (tx) xs) 4 0 (⟨#[]⟩) (tx) (.slice a m c) := ⟨xs, rfl, empty_le, hsz, hpx⟩
          exact .inl ⟨rfl, _, hcs.keep ⟨fun b hb => Below.heap_setCell _ _ _ _ (by show b ≠ w3.heap.size + 1; have := hb.1; omega), fun b hb => ⟨by have := hb.1; omega, by rw [heap_size_setCell]; exact hb.2, by have := hb.1; omega⟩⟩, hT0⟩
        · rw [hp] at hT0
          exact .inr ⟨hne, hT0⟩
      · have hT0 := HTa.out.2 h0
        rw [after_bad h0] at hr8
        rcases hr8 with ⟨_, xs, hp, _⟩ | ⟨hne, hp⟩
        · cases hp
        · injection hp with hp
          exact .inr ⟨hne, by rw [hT0, hp]⟩
    have HFin := veil (expr_fin (T := T) (ob := w3.heap.size + 1) (k := 4) (n := 0) (f := ⟨#[]⟩) (s := tx) (a := a) (m := m) (c := c) (ey_far hE8 (c := w3.heap.size + 1) (by omega) 4 (.slice a m c)) (mv_far (HM7.out.trans q2) (c := w3.heap.size + 1) (by omega) (by omega) 4 (.slice a m c)) hlt ((Below.heap_setCell _ _ _ _ (by show w.heap.size ≠ w3.heap.size + 1; omega)).trans hz8) hTe)
    obtain ⟨⟨o0, o1, o2, o3, o4⟩, ⟨v0, v1, v2, v3, v4⟩⟩ := five_cells ho8
    obtain ⟨⟨r0, r1, r2, r3, r4⟩, ⟨g0, g1, g2, g3, g4⟩⟩ := five_cells hz8
    clear q1 q2 hz8 ho8 hE8 hr8 hTe
    go_wp2_with fail
    obtain ⟨F, hF, ⟨y0, y1, y2, y3, y4⟩, hR⟩ := HFin.out
    rw [hF]
    exact bodyPost_ret (v := .agg #[.int .i64 4, .int .i64 0, .string ⟨#[]⟩, .string tx, .slice a m c]) (by simp [results, Tryz.results137, go_sem, y0, y1, y2, y3, y4]) rfl hR

end Go.Proofs.YtpamadnckijfkabGreatDoor
