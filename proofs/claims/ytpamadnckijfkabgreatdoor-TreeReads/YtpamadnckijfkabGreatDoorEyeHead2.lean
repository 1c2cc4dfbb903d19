/- What the reference's head answers at a token that is a quote, a number, or none of what it may be. -/
import Derived.Test.YtpamadnckijfkabGreatDoorEyeHead1
namespace Go.Proofs.YtpamadnckijfkabGreatDoor
open Go.RowKit
set_option maxRecDepth 100000

theorem ex_leaf {S : Nat → Prop} {w : World} (k n : Int) {f s : ByteArray} (hf : f.size ≤ maxLen) (hs : s.size ≤ maxLen) : ExCs S w (.mk k n f s []) k n f s (.slice none 0 0) :=
  ⟨[], rfl, hf, hs, none, 0, rfl, ⟨by simp [maxLen], by simp⟩, .inl rfl⟩

set_option maxHeartbeats 8000000 in
theorem head_quote (B : Nat) (l : Toks) (d : Nat) (T : Res Ex) (i i1 : Nat) (e : Int) (tx : ByteArray) (hsz : tx.size ≤ maxLen) (w : World) (h : EyeAt B l i e d w) (hs : seesB l i e [40] = false) (hs2 : seesB l i e [91] = false)
    (hone : ∀ W, EyeAt B l i e d W → Calls Tryz.prog 45 #[.pointer (some ⟨B, 0, none⟩)] W fun r w' => r = .returned (.agg #[.int .i64 3, .string tx]) ∧ EyeAt B l i1 e d w' ∧ Moved B W w')
    (he : e = 0) (hT : T = .ok (exQuote tx) i1) :
    Calls Tryz.prog 137 #[.pointer (some ⟨B, 0, none⟩)] w (ExprR B l d T w) := by
  have hlt := ey_lt h
  have HA := veil (ey_alloc h (.cells #[.int .i64 0, .int .i64 0, .string ⟨#[]⟩, .string ⟨#[]⟩, .slice none 0 0] 52))
  have HM : Hid (Moved B w (w.alloc (.cells #[.int .i64 0, .int .i64 0, .string ⟨#[]⟩, .string ⟨#[]⟩, .slice none 0 0] 52))) := Moved.of_below ((Below.refl _ _).alloc (Nat.le_refl _) _) (by omega)
  have HSg : Hid (seesB l i e (ByteArray.mk #[40]).data.toList = false) := hs
  have HSg2 : Hid (seesB l i e (ByteArray.mk #[91]).data.toList = false) := hs2
  have HOne := veil hone
  have HT := veil hT
  have HE := veil he
  clear h hs hs2 hone hT he
  go_enter Tryz.func137, Tryz.ntmps137
  go_wp2_with fail
  refine (sees_eye B l i e _ ⟨#[40]⟩ _ HA.out).mono ?_
  rintro r w1 ⟨rfl, q1, q2⟩
  rw [HSg.out] at q1
  rw [HSg.out]
  have hE1 : EyeAt B l i e d w1 := q1
  have hs1 : w.heap.size + 1 ≤ w1.heap.size := by have := q2.below.size; simpa using this
  have HZ1 := veil ((q2.above w.heap.size hlt (by simp)).trans (heap_alloc_new w (.cells #[.int .i64 0, .int .i64 0, .string ⟨#[]⟩, .string ⟨#[]⟩, .slice none 0 0] 52)))
  have HM1 := veil (HM.out.trans q2)
  clear q1 q2
  go_wp2_with fail
  refine (sees_eye B l i e _ ⟨#[91]⟩ _ hE1).mono ?_
  rintro r w2 ⟨rfl, q1, q2⟩
  rw [HSg2.out] at q1
  rw [HSg2.out]
  have hE2 : EyeAt B l i e d w2 := q1
  have HX := veil (HOne.out w2 hE2)
  have hs2 := q2.below.size
  have HZ2 := veil ((q2.above w.heap.size hlt (by omega)).trans HZ1.out)
  have HM2 := veil (HM1.out.trans q2)
  clear q1 q2 hE1 hE2
  go_wp2_with fail
  refine HX.out.mono ?_
  rintro r w3 ⟨rfl, hE3, q2⟩
  have hs3 := q2.below.size
  have hz3 := (heap_alloc_old w3 (.cells #[.int .i64 3, .string tx] 90) (by omega)).trans ((q2.above w.heap.size hlt (by omega)).trans HZ2.out)
  have hM3 := (HM2.out.trans q2).alloc (by omega) (.cells #[.int .i64 3, .string tx] 90)
  have hE4 := ey_alloc hE3 (.cells #[.int .i64 3, .string tx] 90)
  have t0 : (w3.alloc (.cells #[.int .i64 3, .string tx] 90)).cell? ⟨w3.heap.size, 0, none⟩ = some (.int .i64 3) := World.cell?_alloc_at _ _ _ _ rfl
  have t1 : (w3.alloc (.cells #[.int .i64 3, .string tx] 90)).cell? ⟨w3.heap.size, 1, none⟩ = some (.string tx) := World.cell?_alloc_at _ _ _ _ rfl
  clear q2 hE3 HX HA HM HZ1 HM1 HZ2 HM2 HSg HSg2 HOne
  have HFin := veil (expr_fin (T := T) (ob := w.heap.size) (k := 2) (n := 0) (f := ⟨#[]⟩) (s := tx) (a := none) (m := 0) (c := 0) hE4 hM3 hlt hz3 (.inl ⟨HE.out, _, ex_leaf 2 0 empty_le hsz, HT.out⟩))
  obtain ⟨⟨r0, r1, r2, r3, r4⟩, ⟨g0, g1, g2, g3, g4⟩⟩ := five_cells hz3
  clear hE4 hM3 hz3
  go_wp2_with fail
  obtain ⟨F, hF, ⟨y0, y1, y2, y3, y4⟩, hR⟩ := HFin.out
  rw [hF]
  exact bodyPost_ret (v := .agg #[.int .i64 2, .int .i64 0, .string ⟨#[]⟩, .string tx, .slice none 0 0]) (by simp [results, Tryz.results137, go_sem, y0, y1, y2, y3, y4]) rfl hR

set_option maxHeartbeats 8000000 in
theorem head_bad (B : Nat) (l : Toks) (d : Nat) (T : Res Ex) (i i1 : Nat) (e kd : Int) (tx : ByteArray) (hsz : tx.size ≤ maxLen) (w : World) (h : EyeAt B l i e d w) (hs : seesB l i e [40] = false) (hs2 : seesB l i e [91] = false)
    (hone : ∀ W, EyeAt B l i e d W → Calls Tryz.prog 45 #[.pointer (some ⟨B, 0, none⟩)] W fun r w' => r = .returned (.agg #[.int .i64 kd, .string tx]) ∧ EyeAt B l i1 e d w' ∧ Moved B W w')
    (hq : (kd == 3) = false) (hn : (kd == 2) = false) (hw : (kd != 1) = true ∨ (kd = 1 ∧ identOk tx = false)) (hT : T = .bad (firstOf e 4)) :
    Calls Tryz.prog 137 #[.pointer (some ⟨B, 0, none⟩)] w (ExprR B l d T w) := by
  have HNe : Hid (firstOf e 4 ≠ 0) := by show ¬ _; unfold firstOf; split <;> omega
  rcases hw with hw | ⟨rfl, hid⟩
  · have hlt := ey_lt h
    have HA := veil (ey_alloc h (.cells #[.int .i64 0, .int .i64 0, .string ⟨#[]⟩, .string ⟨#[]⟩, .slice none 0 0] 52))
    have HM : Hid (Moved B w (w.alloc (.cells #[.int .i64 0, .int .i64 0, .string ⟨#[]⟩, .string ⟨#[]⟩, .slice none 0 0] 52))) := Moved.of_below ((Below.refl _ _).alloc (Nat.le_refl _) _) (by omega)
    have HSg : Hid (seesB l i e (ByteArray.mk #[40]).data.toList = false) := hs
    have HSg2 : Hid (seesB l i e (ByteArray.mk #[91]).data.toList = false) := hs2
    have HOne := veil hone
    have HT := veil hT
    clear h hs hs2 hone hT
    go_enter Tryz.func137, Tryz.ntmps137
    go_wp2_with fail
    refine (sees_eye B l i e _ ⟨#[40]⟩ _ HA.out).mono ?_
    rintro r w1 ⟨rfl, q1, q2⟩
    rw [HSg.out] at q1
    rw [HSg.out]
    have hE1 : EyeAt B l i e d w1 := q1
    have hs1 : w.heap.size + 1 ≤ w1.heap.size := by have := q2.below.size; simpa using this
    have HZ1 := veil ((q2.above w.heap.size hlt (by simp)).trans (heap_alloc_new w (.cells #[.int .i64 0, .int .i64 0, .string ⟨#[]⟩, .string ⟨#[]⟩, .slice none 0 0] 52)))
    have HM1 := veil (HM.out.trans q2)
    clear q1 q2
    go_wp2_with fail
    refine (sees_eye B l i e _ ⟨#[91]⟩ _ hE1).mono ?_
    rintro r w2 ⟨rfl, q1, q2⟩
    rw [HSg2.out] at q1
    rw [HSg2.out]
    have hE2 : EyeAt B l i e d w2 := q1
    have HX := veil (HOne.out w2 hE2)
    have hs2 := q2.below.size
    have HZ2 := veil ((q2.above w.heap.size hlt (by omega)).trans HZ1.out)
    have HM2 := veil (HM1.out.trans q2)
    clear q1 q2 hE1 hE2
    go_wp2_with fail
    refine HX.out.mono ?_
    rintro r w3 ⟨rfl, hE3, q2⟩
    have hs3 := q2.below.size
    have hz3 := (heap_alloc_old w3 (.cells #[.int .i64 kd, .string tx] 90) (by omega)).trans ((q2.above w.heap.size hlt (by omega)).trans HZ2.out)
    have hM3 := (HM2.out.trans q2).alloc (by omega) (.cells #[.int .i64 kd, .string tx] 90)
    have hE4 := ey_alloc hE3 (.cells #[.int .i64 kd, .string tx] 90)
    have t0 : (w3.alloc (.cells #[.int .i64 kd, .string tx] 90)).cell? ⟨w3.heap.size, 0, none⟩ = some (.int .i64 kd) := World.cell?_alloc_at _ _ _ _ rfl
    have t1 : (w3.alloc (.cells #[.int .i64 kd, .string tx] 90)).cell? ⟨w3.heap.size, 1, none⟩ = some (.string tx) := World.cell?_alloc_at _ _ _ _ rfl
    clear q2 hE3 HX HA HM HZ1 HM1 HZ2 HM2 HSg HSg2 HOne
    have HE4 := veil hE4
    have HM3 := veil hM3
    have HZ3 := veil hz3
    clear hE4 hM3 hz3
    go_wp2_with fail
    refine (bad_eye B l i1 e _ 4 _ HE4.out).mono ?_
    rintro r w5 ⟨rfl, q1, q2⟩
    have hs5 : w3.heap.size + 1 ≤ w5.heap.size := by have := q2.below.size; simpa using this
    have hz5 := (q2.above w.heap.size hlt (by simp; omega)).trans HZ3.out
    have HFin := veil (expr_fin (T := T) (ob := w.heap.size) (k := 0) (n := 0) (f := ⟨#[]⟩) (s := ⟨#[]⟩) (a := none) (m := 0) (c := 0) q1 (HM3.out.trans q2) hlt hz5 (.inr ⟨HNe.out, HT.out⟩))
    obtain ⟨⟨r0, r1, r2, r3, r4⟩, ⟨g0, g1, g2, g3, g4⟩⟩ := five_cells hz5
    clear q1 q2 hz5
    go_wp2_with fail
    obtain ⟨F, hF, ⟨y0, y1, y2, y3, y4⟩, hR⟩ := HFin.out
    rw [hF]
    exact bodyPost_ret (v := .agg #[.int .i64 0, .int .i64 0, .string ⟨#[]⟩, .string ⟨#[]⟩, .slice none 0 0]) (by simp [results, Tryz.results137, go_sem, y0, y1, y2, y3, y4]) rfl hR
  · have hlt := ey_lt h
    have HA := veil (ey_alloc h (.cells #[.int .i64 0, .int .i64 0, .string ⟨#[]⟩, .string ⟨#[]⟩, .slice none 0 0] 52))
    have HM : Hid (Moved B w (w.alloc (.cells #[.int .i64 0, .int .i64 0, .string ⟨#[]⟩, .string ⟨#[]⟩, .slice none 0 0] 52))) := Moved.of_below ((Below.refl _ _).alloc (Nat.le_refl _) _) (by omega)
    have HSg : Hid (seesB l i e (ByteArray.mk #[40]).data.toList = false) := hs
    have HSg2 : Hid (seesB l i e (ByteArray.mk #[91]).data.toList = false) := hs2
    have HOne := veil hone
    have HT := veil hT
    clear h hs hs2 hone hT
    go_enter Tryz.func137, Tryz.ntmps137
    go_wp2_with fail
    refine (sees_eye B l i e _ ⟨#[40]⟩ _ HA.out).mono ?_
    rintro r w1 ⟨rfl, q1, q2⟩
    rw [HSg.out] at q1
    rw [HSg.out]
    have hE1 : EyeAt B l i e d w1 := q1
    have hs1 : w.heap.size + 1 ≤ w1.heap.size := by have := q2.below.size; simpa using this
    have HZ1 := veil ((q2.above w.heap.size hlt (by simp)).trans (heap_alloc_new w (.cells #[.int .i64 0, .int .i64 0, .string ⟨#[]⟩, .string ⟨#[]⟩, .slice none 0 0] 52)))
    have HM1 := veil (HM.out.trans q2)
    clear q1 q2
    go_wp2_with fail
    refine (sees_eye B l i e _ ⟨#[91]⟩ _ hE1).mono ?_
    rintro r w2 ⟨rfl, q1, q2⟩
    rw [HSg2.out] at q1
    rw [HSg2.out]
    have hE2 : EyeAt B l i e d w2 := q1
    have HX := veil (HOne.out w2 hE2)
    have hs2 := q2.below.size
    have HZ2 := veil ((q2.above w.heap.size hlt (by omega)).trans HZ1.out)
    have HM2 := veil (HM1.out.trans q2)
    clear q1 q2 hE1 hE2
    go_wp2_with fail
    refine HX.out.mono ?_
    rintro r w3 ⟨rfl, hE3, q2⟩
    have hs3 := q2.below.size
    have hz3 := (heap_alloc_old w3 (.cells #[.int .i64 1, .string tx] 90) (by omega)).trans ((q2.above w.heap.size hlt (by omega)).trans HZ2.out)
    have hM3 := (HM2.out.trans q2).alloc (by omega) (.cells #[.int .i64 1, .string tx] 90)
    have hE4 := ey_alloc hE3 (.cells #[.int .i64 1, .string tx] 90)
    have t0 : (w3.alloc (.cells #[.int .i64 1, .string tx] 90)).cell? ⟨w3.heap.size, 0, none⟩ = some (.int .i64 1) := World.cell?_alloc_at _ _ _ _ rfl
    have t1 : (w3.alloc (.cells #[.int .i64 1, .string tx] 90)).cell? ⟨w3.heap.size, 1, none⟩ = some (.string tx) := World.cell?_alloc_at _ _ _ _ rfl
    clear q2 hE3 HX HA HM HZ1 HM1 HZ2 HM2 HSg HSg2 HOne
    have HE4 := veil hE4
    have HM3 := veil hM3
    have HZ3 := veil hz3
    clear hE4 hM3 hz3
    go_wp2_with fail
    refine (nameMay_any tx hsz _).mono ?_
    rintro r w4 ⟨rfl, rfl⟩
    rw [hid]
    go_wp2_with fail
    refine (bad_eye B l i1 e _ 4 _ HE4.out).mono ?_
    rintro r w5 ⟨rfl, q1, q2⟩
    have hs5 : w3.heap.size + 1 ≤ w5.heap.size := by have := q2.below.size; simpa using this
    have hz5 := (q2.above w.heap.size hlt (by simp; omega)).trans HZ3.out
    have HFin := veil (expr_fin (T := T) (ob := w.heap.size) (k := 0) (n := 0) (f := ⟨#[]⟩) (s := ⟨#[]⟩) (a := none) (m := 0) (c := 0) q1 (HM3.out.trans q2) hlt hz5 (.inr ⟨HNe.out, HT.out⟩))
    obtain ⟨⟨r0, r1, r2, r3, r4⟩, ⟨g0, g1, g2, g3, g4⟩⟩ := five_cells hz5
    clear q1 q2 hz5
    go_wp2_with fail
    obtain ⟨F, hF, ⟨y0, y1, y2, y3, y4⟩, hR⟩ := HFin.out
    rw [hF]
    exact bodyPost_ret (v := .agg #[.int .i64 0, .int .i64 0, .string ⟨#[]⟩, .string ⟨#[]⟩, .slice none 0 0]) (by simp [results, Tryz.results137, go_sem, y0, y1, y2, y3, y4]) rfl hR

end Go.Proofs.YtpamadnckijfkabGreatDoor
