/- What the reference's tail answers: something, and places in it. -/
import Derived.Test.YtpamadnckijfkabGreatDoorEyeX
namespace Go.Proofs.YtpamadnckijfkabGreatDoor
open Go.RowKit
set_option maxRecDepth 100000

set_option maxHeartbeats 8000000 in
theorem tail_eye (B : Nat) (l : Toks) (d : Nat) (sub : Nat → Res Ex) (hE : ExprEye B l d sub) (hH : HeadEye B l d sub) (hadv : ∀ i x j, sub i = .ok x j → i ≤ j) : TailEye B l d sub := by
  intro i e w h
  have hlt := ey_lt h
  have HE := veil hE
  have HAdv := veil hadv
  have HH := veil (fun W hW => hH i e W hW)
  have HA := veil (ey_alloc h (.cells #[.int .i64 0, .int .i64 0, .string ⟨#[]⟩, .string ⟨#[]⟩, .slice none 0 0] 52))
  have HM : Hid (Moved B w (w.alloc (.cells #[.int .i64 0, .int .i64 0, .string ⟨#[]⟩, .string ⟨#[]⟩, .slice none 0 0] 52))) := Moved.of_below ((Below.refl _ _).alloc (Nat.le_refl _) _) (by omega)
  clear h hE hH hadv
  go_enter Tryz.func120, Tryz.ntmps120
  go_wp2_with fail
  refine (HH.out _ HA.out).mono ?_
  rintro r w1 ⟨q2, k, n, f, s, a, m, c, rfl, q1⟩
  have hs1 : w.heap.size + 1 ≤ w1.heap.size := by have := q2.below.size; simpa using this
  have hz1 : w1.heap[w.heap.size]? = some (.cells #[.int .i64 0, .int .i64 0, .string ⟨#[]⟩, .string ⟨#[]⟩, .slice none 0 0] 52 (0, 0)) := (q2.above w.heap.size hlt (by simp)).trans (heap_alloc_new w _)
  have HL : Hid (LoopAt B l d w1.heap.size w (after e (pTail sub l i)) (pPlaces sub l) (l.length + 1) (w1.alloc (.cells #[.int .i64 k, .int .i64 n, .string f, .string s, .slice a m c] 52))) := by
    obtain ⟨e1, j1, hE1, hr⟩ := q1.state
    refine ⟨e1, j1, k, n, f, s, a, m, c, ey_alloc hE1 _, (HM.out.trans q2).alloc (by omega) _, by omega, (heap_alloc_old _ _ (by omega)).trans hz1, heap_alloc_new _ _, ?_⟩
    rcases hr with ⟨rfl, x, hT, hx⟩ | ⟨hne, hT⟩
    · have he : e = 0 := by
        by_cases he : e = 0
        · exact he
        · rw [after_bad he] at hT; cases hT
      subst he
      rw [after_ok] at hT
      refine .inl ⟨rfl, x, hx.keep ⟨fun b hb => heap_alloc_old _ _ hb.2, fun b hb => ⟨by have := hb.1; simpa using this, by simp; have := hb.2; omega, by have := hb.2; omega⟩⟩, ?_, by omega⟩
      rw [after_ok, pTail, hT]
    · refine .inr ⟨hne, ?_⟩
      by_cases he : e = 0
      · subst he
        rw [after_ok] at hT ⊢
        rw [pTail, hT]
      · rw [after_bad he] at hT ⊢
        exact hT
  clear q1 q2 HH HA HM hz1
  go_wp2_with fail
  go_loopg [4] (l.length + 1) (fun g _ wx => LoopAt B l d w1.heap.size w (after e (pTail sub l i)) (pPlaces sub l) g wx)
  case atStart => exact HL.out
  case round =>
    clear HL
    obtain ⟨e1, j, k1, n1, f1, s1, a1, m1, c1, hE1, hM1, hob, hz, ho, hres⟩ := hrel
    go_wp2_with fail
    refine (sees_eye B l j e1 _ ⟨#[91]⟩ _ hE1).mono ?_
    rintro r w2 ⟨rfl, q1, q2⟩
    have hlt1 := heap_lt' ho
    have hz2 := (q2.above w.heap.size hlt (by omega)).trans hz
    have ho2 := (q2.above w1.heap.size (by omega) hlt1).trans ho
    have hM2 := hM1.trans q2
    have hk2 : Keeps (OwnB (w.heap.size + 1) w1.heap.size wr) (OwnB (w.heap.size + 1) w1.heap.size w2) wr w2 := ⟨fun b hb => q2.above b (by have := hb.1; omega) hb.2.1, fun b hb => ⟨hb.1, Nat.lt_of_lt_of_le hb.2.1 q2.below.size, hb.2.2⟩⟩
    cases hsg : seesB l j e1 (ByteArray.mk #[91]).data.toList with
    | false =>
      rw [hsg] at q1
      have hE2 : EyeAt B l j e1 d w2 := q1
      have HFin := veil (expr_fin (T := after e (pTail sub l i)) (ob := w1.heap.size) (k := k1) (n := n1) (f := f1) (s := s1) (a := a1) (m := m1) (c := c1) hE2 hM2 hlt hz2 (by
        rcases hres with ⟨rfl, x, hx, hT, hg⟩ | ⟨hne, hT⟩
        · refine .inl ⟨rfl, x, hx.keep hk2, ?_⟩
          have hs : sgn l j [91] = false := by simpa [seesB] using hsg
          rw [hT]
          cases gk with
          | zero => omega
          | succ g => rw [pPlaces, hs]; rfl
        · exact .inr ⟨hne, hT⟩))
      obtain ⟨⟨o0, o1, o2, o3, o4⟩, _⟩ := five_cells ho2
      obtain ⟨⟨r0, r1, r2, r3, r4⟩, ⟨g0, g1, g2, g3, g4⟩⟩ := five_cells hz2
      clear q1 q2 hE1 hM1 hz ho hres hk2 hsg hE2 hM2 hz2 ho2
      go_wp2_with fail
      obtain ⟨F, hF, ⟨y0, y1, y2, y3, y4⟩, hR⟩ := HFin.out
      rw [hF]
      exact bodyPost_ret (v := .agg #[.int .i64 k1, .int .i64 n1, .string f1, .string s1, .slice a1 m1 c1]) (by simp [results, Tryz.results120, go_sem, y0, y1, y2, y3, y4]) rfl hR
    | true =>
      rw [hsg] at q1
      have hb : e1 = 0 ∧ sgn l j [91] = true := by simpa [seesB] using hsg
      obtain ⟨he1, hs⟩ := hb
      subst he1
      have hE2 : EyeAt B l (j + 1) 0 d w2 := q1
      have HX := veil (HE.out (j + 1) 0 w2 hE2)
      have HZ2 := veil hz2
      have HO2 := veil ho2
      have HM2 := veil hM2
      have hs2 := q2.below.size
      clear q1 q2 hE1 hM1 hz ho hsg hE2 hM2 hz2 ho2
      go_wp2_with fail
      refine HX.out.mono ?_
      rintro r w3 ⟨q2, k2, n2, f2, s2, a2, m2, c2, rfl, q1⟩
      obtain ⟨e3, j3, hE3, hr3⟩ := q1.state
      clear q1
      have hs3 := q2.below.size
      have hz3 := (q2.above w.heap.size hlt (by omega)).trans HZ2.out
      have ho3 := (q2.above w1.heap.size (by omega) (by omega)).trans HO2.out
      have HM3 := veil ((HM2.out.trans q2).alloc (by omega) (.cells #[.int .i64 k2, .int .i64 n2, .string f2, .string s2, .slice a2 m2 c2] 52))
      have HZ3 := veil ((heap_alloc_old w3 (.cells #[.int .i64 k2, .int .i64 n2, .string f2, .string s2, .slice a2 m2 c2] 52) (by omega)).trans hz3)
      have HO3 := veil ((heap_alloc_old w3 (.cells #[.int .i64 k2, .int .i64 n2, .string f2, .string s2, .slice a2 m2 c2] 52) (by omega)).trans ho3)
      have hE4 := ey_alloc hE3 (.cells #[.int .i64 k2, .int .i64 n2, .string f2, .string s2, .slice a2 m2 c2] 52)
      go_wp2_with fail
      refine (wants_eye B l j3 e3 _ ⟨#[93]⟩ _ hE4).mono ?_
      rintro r w5 ⟨rfl, q3, q4⟩
      have hs4 : w3.heap.size + 1 ≤ w5.heap.size := by have := q4.below.size; simpa using this
      have hz5 := (q4.above w.heap.size hlt (by simp; omega)).trans HZ3.out
      have ho5 := (q4.above w1.heap.size (by omega) (by simp; omega)).trans HO3.out
      have ha5 := (q4.above w3.heap.size (by omega) (by simp)).trans (heap_alloc_new w3 (.cells #[.int .i64 k2, .int .i64 n2, .string f2, .string s2, .slice a2 m2 c2] 52))
      obtain ⟨⟨o0, o1, o2, o3, o4⟩, ⟨g0, g1, g2, g3, g4⟩⟩ := five_cells ho5
      obtain ⟨⟨r0, r1, r2, r3, r4⟩, _⟩ := five_cells ha5
      have b1 : w3.heap.size ≠ w1.heap.size := by omega
      have b2 : w1.heap.size ≠ w3.heap.size := by omega
      have b3 : w1.heap.size ≠ w5.heap.size := by omega
      have hl5 : w1.heap.size < w5.heap.size := by omega
      have hoA : (w5.alloc (.cells #[.int .i64 k1, .int .i64 n1, .string f1, .string s1, .slice a1 m1 c1, .int .i64 k2, .int .i64 n2, .string f2, .string s2, .slice a2 m2 c2] 52)).heap[w1.heap.size]? = some (.cells #[.int .i64 k1, .int .i64 n1, .string f1, .string s1, .slice a1 m1 c1] 52 (0, 0)) := (heap_alloc_old _ _ (by omega)).trans ho5
      obtain ⟨⟨x0, x1, x2, x3, x4⟩, ⟨v0, v1, v2, v3, v4⟩⟩ := five_cells hoA
      have HRes := veil hres
      have HR3 := veil hr3
      have HK2 := veil hk2
      have HQ2 := veil q2
      have HQ4 := veil q4
      have HQ3 := veil q3
      have HZ5 := veil hz5
      have HO5 := veil ho5
      have HS := veil hs
      clear hres hr3 hk2 q2 q3 q4 hz5 ho5 ha5 hoA hs hE4 hE3 hz3 ho3
      go_wp2_with fail
      obtain ⟨x, hx, hT, hg⟩ : ∃ x, ExCs (OwnB (w.heap.size + 1) w1.heap.size wr) wr x k1 n1 f1 s1 (.slice a1 m1 c1) ∧ after e (pTail sub l i) = pPlaces sub l gk x j ∧ l.length - j < gk := by
        rcases HRes.out with ⟨_, x, hx, hT, hg⟩ | ⟨hne, _⟩
        · exact ⟨x, hx, hT, hg⟩
        · exact absurd rfl hne
      have hjl := sgn_lt HS.out
      cases gk with
      | zero => omega
      | succ g =>
        go_roundg g
        case measure => omega
        case rel =>
          have hk5 : Keeps (OwnB (w.heap.size + 1) w1.heap.size w2) (OwnB (w.heap.size + 1) w1.heap.size w5) w2 w5 := ⟨fun b hb => (HQ4.out.above b (by have := hb.1; omega) (by simp; have := hb.2.1; omega)).trans ((heap_alloc_old _ _ (by have := hb.2.1; omega)).trans (HQ2.out.above b (by have := hb.1; omega) hb.2.1)), fun b hb => ⟨hb.1, by have := hb.2.1; omega, hb.2.2⟩⟩
          have hk6 : Keeps (Fresh w2.heap.size w3) (OwnB (w.heap.size + 1) w1.heap.size w5) w3 w5 := ⟨fun b hb => (HQ4.out.above b (by have := hb.1; omega) (by simp; have := hb.2; omega)).trans (heap_alloc_old _ _ hb.2), fun b hb => ⟨by have := hb.1; omega, by have := hb.2; omega, by have := hb.1; omega⟩⟩
          refine pair_made 7 HQ3.out (HM3.out.trans HQ4.out) hlt hob HZ5.out HO5.out ?_
          rw [pPlaces, if_pos HS.out] at hT
          rcases HR3.out with ⟨rfl, p, hp, hpx⟩ | ⟨hne, hp⟩
          · rw [after_ok] at hp
            have hadv2 := HAdv.out _ _ _ hp
            rw [hp] at hT
            cases hs93 : sgn l j3 [93] with
            | true =>
              have hsd : seesB l j3 0 (ByteArray.mk #[93]).data.toList = true := by unfold seesB; rw [show sgn l j3 (ByteArray.mk #[93]).data.toList = true from hs93]; simp
              rw [hsd]
              refine .inl ⟨rfl, x, p, (hx.keep HK2.out).keep hk5, hpx.keep hk6, ?_, ?_⟩
              · rw [hT]; simp only [hs93, if_true]; rfl
              · show l.length - (j3 + 1) < g; omega
            | false =>
              have hsd : seesB l j3 0 (ByteArray.mk #[93]).data.toList = false := by unfold seesB; rw [show sgn l j3 (ByteArray.mk #[93]).data.toList = false from hs93]; simp
              rw [hsd]
              refine .inr ⟨by decide, ?_⟩
              rw [hT]; simp only [hs93]; rfl
          · rw [after_ok] at hp
            rw [hp] at hT
            have hsd : seesB l j3 e3 (ByteArray.mk #[93]).data.toList = false := by unfold seesB; simp [hne]
            rw [hsd]
            have he : wantE false e3 = e3 := by unfold wantE firstOf; simp [hne]
            rw [he]
            exact .inr ⟨hne, hT⟩

end Go.Proofs.YtpamadnckijfkabGreatDoor
