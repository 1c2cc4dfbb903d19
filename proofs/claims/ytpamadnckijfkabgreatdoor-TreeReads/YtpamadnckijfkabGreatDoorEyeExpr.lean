/- What the reference's expr answers: something, and what is added to it. -/
import Derived.Test.YtpamadnckijfkabGreatDoorEyeTail
namespace Go.Proofs.YtpamadnckijfkabGreatDoor
open Go.RowKit
set_option maxRecDepth 100000

/-- the end of expr: one depth less, the result laid. -/
theorem expr_end {B : Nat} {l : Toks} {j d ob : Nat} {e : Int} {w w2 : World} {T : Res Ex} {k n : Int} {f s : ByteArray} {a : Option Addr} {m c : Nat} {x0 y0 z0 u0 v0 : Value} (hE : EyeAt B l j e ((d + 1 : Nat) : Int) w2) (hM : Moved B w w2) (hlt : B < w.heap.size)
    (hz : w2.heap[w.heap.size]? = some (.cells #[x0, y0, z0, u0, v0] 52 (0, 0)))
    (hres : (e = 0 ∧ ∃ x, ExCs (OwnB (w.heap.size + 1) ob w2) w2 x k n f s (.slice a m c) ∧ T = .ok x j) ∨ (e ≠ 0 ∧ T = .bad e)) :
    ∃ F, ((((((w2.setCell ⟨B, 3, none⟩ (.int .i64 (d : Int))).setCell ⟨w.heap.size, 0, none⟩ (.int .i64 k)).setCell ⟨w.heap.size, 1, none⟩ (.int .i64 n)).setCell ⟨w.heap.size, 2, none⟩ (.string f)).setCell ⟨w.heap.size, 3, none⟩ (.string s)).setCell ⟨w.heap.size, 4, none⟩ (.slice a m c)) = F ∧
      (F.cell? ⟨w.heap.size, 0, none⟩ = some (.int .i64 k) ∧ F.cell? ⟨w.heap.size, 1, none⟩ = some (.int .i64 n) ∧ F.cell? ⟨w.heap.size, 2, none⟩ = some (.string f) ∧ F.cell? ⟨w.heap.size, 3, none⟩ = some (.string s) ∧ F.cell? ⟨w.heap.size, 4, none⟩ = some (.slice a m c)) ∧
      ExprR B l d T w (.returned (.agg #[.int .i64 k, .int .i64 n, .string f, .string s, .slice a m c])) F := by
  have hk : Keeps (OwnB (w.heap.size + 1) ob w2) (OwnB (w.heap.size + 1) ob (w2.setCell ⟨B, 3, none⟩ (.int .i64 (d : Int)))) w2 (w2.setCell ⟨B, 3, none⟩ (.int .i64 (d : Int))) :=
    ⟨fun b hb => Below.heap_setCell _ _ _ _ (by show b ≠ B; have := hb.1; omega), fun b hb => ⟨hb.1, by rw [heap_size_setCell]; exact hb.2.1, hb.2.2⟩⟩
  refine expr_fin (ob := ob) (ey_set3 hE _) (hM.set 3 _) hlt ((Below.heap_setCell _ _ _ _ (by show w.heap.size ≠ B; omega)).trans hz) ?_
  rcases hres with ⟨h0, x, hx, hT⟩ | h
  · exact .inl ⟨h0, x, hx.keep hk, hT⟩
  · exact .inr h

set_option maxHeartbeats 4000000 in
/-- from a state in which something is wrong, or too deep: nothing is read. -/
theorem expr_skip (B : Nat) (l : Toks) (i : Nat) (e e1 : Int) (d : Nat) (hd : d < 1000) (T : Res Ex) (w : World) (h : EyeAt B l i e d w) (he1 : (if 40 < d + 1 then firstOf e 1 else e) = e1) (hne : e1 ≠ 0) (hT : T = .bad e1) :
    Calls Tryz.prog 86 #[.pointer (some ⟨B, 0, none⟩)] w (ExprR B l d T w) := by
  have hlt := ey_lt h
  have HH := veil (ey_alloc h (.cells #[.int .i64 0, .int .i64 0, .string ⟨#[]⟩, .string ⟨#[]⟩, .slice none 0 0] 52))
  have HM : Hid (Moved B w (w.alloc (.cells #[.int .i64 0, .int .i64 0, .string ⟨#[]⟩, .string ⟨#[]⟩, .slice none 0 0] 52))) := Moved.of_below ((Below.refl _ _).alloc (Nat.le_refl _) _) (by omega)
  have HE1 := veil he1
  have hne' : (e1 == 0) = false := beq_eq_false_iff_ne.2 hne
  have HNe := veil hne
  have HT := veil hT
  clear h he1 hne hT
  go_enter Tryz.func86, Tryz.ntmps86
  go_wp2_with fail
  refine (down_eye B l i e d hd _ HH.out).mono ?_
  rintro r w1 ⟨rfl, q1, q2⟩
  rw [HE1.out] at q1
  have hs1 : w.heap.size + 1 ≤ w1.heap.size := by have := q2.below.size; simpa using this
  have hz1 : w1.heap[w.heap.size]? = some (.cells #[.int .i64 0, .int .i64 0, .string ⟨#[]⟩, .string ⟨#[]⟩, .slice none 0 0] 52 (0, 0)) := (q2.above w.heap.size hlt (by simp)).trans (heap_alloc_new w _)
  have hE2 := ey_alloc q1 (.cells #[.int .i64 0, .int .i64 0, .string ⟨#[]⟩, .string ⟨#[]⟩, .slice none 0 0] 52)
  have hM2 := (HM.out.trans q2).alloc (by omega) (.cells #[.int .i64 0, .int .i64 0, .string ⟨#[]⟩, .string ⟨#[]⟩, .slice none 0 0] 52)
  have hz2 := (heap_alloc_old w1 (.cells #[.int .i64 0, .int .i64 0, .string ⟨#[]⟩, .string ⟨#[]⟩, .slice none 0 0] 52) (by omega)).trans hz1
  have HFin := veil (expr_end (T := T) (ob := w1.heap.size) (k := 0) (n := 0) (f := ⟨#[]⟩) (s := ⟨#[]⟩) (a := none) (m := 0) (c := 0) hE2 hM2 hlt hz2 (.inr ⟨HNe.out, HT.out⟩))
  obtain ⟨⟨r0, r1, r2, r3, r4⟩, ⟨g0, g1, g2, g3, g4⟩⟩ := five_cells hz2
  obtain ⟨⟨o0, o1, o2, o3, o4⟩, _⟩ := five_cells (heap_alloc_new w1 (.cells #[.int .i64 0, .int .i64 0, .string ⟨#[]⟩, .string ⟨#[]⟩, .slice none 0 0] 52))
  obtain ⟨ta, tcap, c0, c1, c2, c3, x1, x2, x3, hi, h200, htok⟩ := ey_cells hE2
  have en : ((d + 1 : Nat) : Int) = (d : Int) + 1 := by omega
  rw [en] at c3
  have hd' : (d : Int) < 1000 := by omega
  have hd0 : (0 : Int) ≤ (d : Int) := by omega
  have b1 : w1.heap.size ≠ B := by omega
  have b2 : w.heap.size ≠ B := by omega
  have b3 : B ≠ w.heap.size := by omega
  have b4 : w1.heap.size ≠ w.heap.size := by omega
  have b5 : w.heap.size ≠ w1.heap.size := by omega
  have b6 : B ≠ w1.heap.size := by omega
  clear q1 q2 c0 c1 x1 x2 htok hz1 hz2 hE2 hM2
  go_wp2_with fail
  obtain ⟨F, hF, ⟨y0, y1, y2, y3, y4⟩, hR⟩ := HFin.out
  rw [hF]
  exact bodyPost_ret (v := .agg #[.int .i64 0, .int .i64 0, .string ⟨#[]⟩, .string ⟨#[]⟩, .slice none 0 0]) (by simp [results, Tryz.results86, go_sem, y0, y1, y2, y3, y4]) rfl hR

set_option maxHeartbeats 8000000 in
theorem expr_step (B : Nat) (l : Toks) (d f : Nat) (hd : d < 40) (hT : TailEye B l (d + 1) (pEx l f)) (i : Nat) (w : World) (h : EyeAt B l i 0 d w) :
    Calls Tryz.prog 86 #[.pointer (some ⟨B, 0, none⟩)] w (ExprR B l d (pEx l (f + 1) i) w) := by
  have hlt := ey_lt h
  have HH := veil (ey_alloc h (.cells #[.int .i64 0, .int .i64 0, .string ⟨#[]⟩, .string ⟨#[]⟩, .slice none 0 0] 52))
  have HM : Hid (Moved B w (w.alloc (.cells #[.int .i64 0, .int .i64 0, .string ⟨#[]⟩, .string ⟨#[]⟩, .slice none 0 0] 52))) := Moved.of_below ((Below.refl _ _).alloc (Nat.le_refl _) _) (by omega)
  have HTl := veil hT
  clear h hT
  go_enter Tryz.func86, Tryz.ntmps86
  go_wp2_with fail
  refine (down_eye B l i 0 d (by omega) _ HH.out).mono ?_
  rintro r w1 ⟨rfl, q1, q2⟩
  rw [if_neg (by omega)] at q1
  have hs1 : w.heap.size + 1 ≤ w1.heap.size := by have := q2.below.size; simpa using this
  have hz1 : w1.heap[w.heap.size]? = some (.cells #[.int .i64 0, .int .i64 0, .string ⟨#[]⟩, .string ⟨#[]⟩, .slice none 0 0] 52 (0, 0)) := (q2.above w.heap.size hlt (by simp)).trans (heap_alloc_new w _)
  have hE2 := ey_alloc q1 (.cells #[.int .i64 0, .int .i64 0, .string ⟨#[]⟩, .string ⟨#[]⟩, .slice none 0 0] 52)
  have HM2 := veil ((HM.out.trans q2).alloc (by omega) (.cells #[.int .i64 0, .int .i64 0, .string ⟨#[]⟩, .string ⟨#[]⟩, .slice none 0 0] 52))
  have HZ2 := veil ((heap_alloc_old w1 (.cells #[.int .i64 0, .int .i64 0, .string ⟨#[]⟩, .string ⟨#[]⟩, .slice none 0 0] 52) (by omega)).trans hz1)
  have HE2 := veil hE2
  obtain ⟨ta, tcap, c0, c1, c2, c3, x1, x2, x3, hi, h200, htok⟩ := ey_cells hE2
  have hd' : (d : Int) < 1000 := by omega
  have hd0 : (0 : Int) ≤ (d : Int) := by omega
  clear q1 q2 c0 c1 c3 x1 x2 x3 htok hz1 hE2
  go_wp2_with fail
  refine (HTl.out i 0 _ HE2.out).mono ?_
  rintro r w3 ⟨q2, k, n, fo, s, a, m, c, rfl, q1⟩
  rw [after_ok] at q1
  have hs3 : w1.heap.size + 1 ≤ w3.heap.size := by have := q2.below.size; simpa using this
  have hz3 := (q2.above w.heap.size hlt (by simp; omega)).trans HZ2.out
  have ho3 := (q2.above w1.heap.size (by omega) (by simp)).trans (heap_alloc_new w1 (.cells #[.int .i64 0, .int .i64 0, .string ⟨#[]⟩, .string ⟨#[]⟩, .slice none 0 0] 52))
  have HL : Hid (LoopAt B l (d + 1) w1.heap.size w (pEx l (f + 1) i) (pSums (pEx l f) l) (l.length + 1) (((((w3.setCell ⟨w1.heap.size, 0, none⟩ (.int .i64 k)).setCell ⟨w1.heap.size, 1, none⟩ (.int .i64 n)).setCell ⟨w1.heap.size, 2, none⟩ (.string fo)).setCell ⟨w1.heap.size, 3, none⟩ (.string s)).setCell ⟨w1.heap.size, 4, none⟩ (.slice a m c))) := by
    obtain ⟨e1, j1, hE1, hr⟩ := q1.state
    obtain ⟨hE', hM'⟩ := five_far hE1 (HM2.out.trans q2) (c := w1.heap.size) (by omega) (by omega) (.int .i64 k) (.int .i64 n) (.string fo) (.string s) (.slice a m c)
    refine ⟨e1, j1, k, n, fo, s, a, m, c, hE', hM', by omega, (five_other (by omega) _ _ _ _ _).trans hz3, five_set ho3 _ _ _ _ _, ?_⟩
    rcases hr with ⟨rfl, x, hT, hx⟩ | ⟨hne, hT⟩
    · refine .inl ⟨rfl, x, hx.keep ⟨fun b hb => five_other (by have := hb.1; simp at this; omega) _ _ _ _ _, fun b hb => ⟨by have := hb.1; simp at this; omega, by rw [five_size]; exact hb.2, by have := hb.1; simp at this; omega⟩⟩, ?_, by omega⟩
      rw [pEx, hT]
    · refine .inr ⟨hne, ?_⟩
      rw [pEx, hT]
  obtain ⟨⟨o0, o1, o2, o3, o4⟩, ⟨g0, g1, g2, g3, g4⟩⟩ := five_cells ho3
  clear q1 q2 HH HM HM2 HZ2 HE2 hz3 ho3 c2
  go_wp2_with fail
  go_loopg [4] (l.length + 1) (fun g _ wx => LoopAt B l (d + 1) w1.heap.size w (pEx l (f + 1) i) (pSums (pEx l f) l) g wx)
  case atStart => exact HL.out
  case round =>
    clear HL o0 o1 o2 o3 o4 g0 g1 g2 g3 g4
    obtain ⟨e1, j, k1, n1, f1, s1, a1, m1, c1, hE1, hM1, hob, hz, ho, hres⟩ := hrel
    go_wp2_with fail
    refine (sees_eye B l j e1 _ ⟨#[43]⟩ _ hE1).mono ?_
    rintro r w2 ⟨rfl, q1, q2⟩
    have hlt1 := heap_lt' ho
    have hz2 := (q2.above w.heap.size hlt (by omega)).trans hz
    have ho2 := (q2.above w1.heap.size (by omega) hlt1).trans ho
    have hM2 := hM1.trans q2
    have hk2 : Keeps (OwnB (w.heap.size + 1) w1.heap.size wr) (OwnB (w.heap.size + 1) w1.heap.size w2) wr w2 := ⟨fun b hb => q2.above b (by have := hb.1; omega) hb.2.1, fun b hb => ⟨hb.1, Nat.lt_of_lt_of_le hb.2.1 q2.below.size, hb.2.2⟩⟩
    cases hsg : seesB l j e1 (ByteArray.mk #[43]).data.toList with
    | false =>
      rw [hsg] at q1
      have hE2 : EyeAt B l j e1 ((d + 1 : Nat) : Int) w2 := q1
      have HFin := veil (expr_end (T := pEx l (f + 1) i) (ob := w1.heap.size) (k := k1) (n := n1) (f := f1) (s := s1) (a := a1) (m := m1) (c := c1) hE2 hM2 hlt hz2 (by
        rcases hres with ⟨rfl, x, hx, hT, hg⟩ | ⟨hne, hT⟩
        · refine .inl ⟨rfl, x, hx.keep hk2, ?_⟩
          have hs : sgn l j [43] = false := by simpa [seesB] using hsg
          rw [hT]
          cases gk with
          | zero => omega
          | succ g => rw [pSums, hs]; rfl
        · exact .inr ⟨hne, hT⟩))
      obtain ⟨⟨o0, o1, o2, o3, o4⟩, _⟩ := five_cells ho2
      obtain ⟨⟨r0, r1, r2, r3, r4⟩, ⟨g0, g1, g2, g3, g4⟩⟩ := five_cells hz2
      obtain ⟨_, _, _, _, _, c3, _, _, x3, _⟩ := ey_cells hE2
      have en : ((d + 1 : Nat) : Int) = (d : Int) + 1 := by omega
      rw [en] at c3
      have b1 : w1.heap.size ≠ B := by omega
      have b2 : w.heap.size ≠ B := by omega
      have b3 : B ≠ w.heap.size := by omega
      have b4 : w1.heap.size ≠ w.heap.size := by omega
      have b5 : w.heap.size ≠ w1.heap.size := by omega
      have b6 : B ≠ w1.heap.size := by omega
      clear q1 q2 hE1 hM1 hz ho hres hk2 hsg hE2 hM2 hz2 ho2
      go_wp2_with fail
      obtain ⟨F, hF, ⟨y0, y1, y2, y3, y4⟩, hR⟩ := HFin.out
      rw [hF]
      exact bodyPost_ret (v := .agg #[.int .i64 k1, .int .i64 n1, .string f1, .string s1, .slice a1 m1 c1]) (by simp [results, Tryz.results86, go_sem, y0, y1, y2, y3, y4]) rfl hR
    | true =>
      rw [hsg] at q1
      have hb : e1 = 0 ∧ sgn l j [43] = true := by simpa [seesB] using hsg
      obtain ⟨he1, hs⟩ := hb
      subst he1
      have hE2 : EyeAt B l (j + 1) 0 ((d + 1 : Nat) : Int) w2 := q1
      have HX := veil (HTl.out (j + 1) 0 w2 hE2)
      have HZ2 := veil hz2
      have HO2 := veil ho2
      have HM2 := veil hM2
      have hs2 := q2.below.size
      clear q1 q2 hE1 hM1 hz ho hsg hE2 hM2 hz2 ho2
      go_wp2_with fail
      refine HX.out.mono ?_
      rintro r w4 ⟨q2, k2, n2, f2, s2, a2, m2, c2, rfl, q1⟩
      obtain ⟨e3, j3, hE3, hr3⟩ := q1.state
      clear q1
      have hs4 := q2.below.size
      have hz4 := (q2.above w.heap.size hlt (by omega)).trans HZ2.out
      have ho4 := (q2.above w1.heap.size (by omega) (by omega)).trans HO2.out
      obtain ⟨⟨o0, o1, o2, o3, o4⟩, ⟨g0, g1, g2, g3, g4⟩⟩ := five_cells ho4
      have b1 : w4.heap.size ≠ w1.heap.size := by omega
      have b2 : w1.heap.size ≠ w4.heap.size := by omega
      have hl4 : w1.heap.size < w4.heap.size := by omega
      have HRes := veil hres
      have HR3 := veil hr3
      have HK2 := veil hk2
      have HQ2 := veil q2
      have HE3 := veil hE3
      have HZ4 := veil hz4
      have HO4 := veil ho4
      have HS := veil hs
      clear hres hr3 hk2 q2 hz4 ho4 hs hE3
      go_wp2_with fail
      obtain ⟨x, hx, hT, hg⟩ : ∃ x, ExCs (OwnB (w.heap.size + 1) w1.heap.size wr) wr x k1 n1 f1 s1 (.slice a1 m1 c1) ∧ pEx l (f + 1) i = pSums (pEx l f) l gk x j ∧ l.length - j < gk := by
        rcases HRes.out with ⟨_, x, hx, hT, hg⟩ | ⟨hne, _⟩
        · exact ⟨x, hx, hT, hg⟩
        · exact absurd rfl hne
      have hjl := sgn_lt HS.out
      cases gk with
      | zero => omega
      | succ g =>
        go_roundg g
        case measure => omega
        case rel =>
          have hk5 : Keeps (OwnB (w.heap.size + 1) w1.heap.size w2) (OwnB (w.heap.size + 1) w1.heap.size (w4.alloc (.cells #[.int .i64 k2, .int .i64 n2, .string f2, .string s2, .slice a2 m2 c2] 52))) w2 (w4.alloc (.cells #[.int .i64 k2, .int .i64 n2, .string f2, .string s2, .slice a2 m2 c2] 52)) :=
            ⟨fun b hb => (heap_alloc_old _ _ (by have := hb.2.1; omega)).trans (HQ2.out.above b (by have := hb.1; omega) hb.2.1), fun b hb => ⟨hb.1, by simp; have := hb.2.1; omega, hb.2.2⟩⟩
          have hk6 : Keeps (Fresh w2.heap.size w4) (OwnB (w.heap.size + 1) w1.heap.size (w4.alloc (.cells #[.int .i64 k2, .int .i64 n2, .string f2, .string s2, .slice a2 m2 c2] 52))) w4 (w4.alloc (.cells #[.int .i64 k2, .int .i64 n2, .string f2, .string s2, .slice a2 m2 c2] 52)) :=
            ⟨fun b hb => heap_alloc_old _ _ hb.2, fun b hb => ⟨by have := hb.1; omega, by simp; have := hb.2; omega, by have := hb.1; omega⟩⟩
          have key := pair_made (g := g) (T := pEx l (f + 1) i) (P := pSums (pEx l f) l) (k2 := k2) (n2 := n2) (f2 := f2) (s2 := s2) (a2 := a2) (m2 := m2) (c2 := c2) 5
            (ey_alloc HE3.out (.cells #[.int .i64 k2, .int .i64 n2, .string f2, .string s2, .slice a2 m2 c2] 52)) ((HM2.out.trans HQ2.out).alloc (by omega) _) hlt hob ((heap_alloc_old _ _ (by omega)).trans HZ4.out) ((heap_alloc_old _ _ (by omega)).trans HO4.out) (by
              rw [pSums, if_pos HS.out] at hT
              rcases HR3.out with ⟨rfl, p, hp, hpx⟩ | ⟨hne, hp⟩
              · rw [after_ok] at hp
                have hadv2 := pTail_adv (fun i x j h => pEx_adv f i x j h) hp
                rw [hp] at hT
                exact .inl ⟨rfl, x, p, (hx.keep HK2.out).keep hk5, hpx.keep hk6, hT, by omega⟩
              · rw [after_ok] at hp
                rw [hp] at hT
                exact .inr ⟨hne, hT⟩)
          rw [five_past hl4, show (w4.alloc (.cells #[.int .i64 k2, .int .i64 n2, .string f2, .string s2, .slice a2 m2 c2] 52)).heap.size = w4.heap.size + 1 by simp] at key
          exact key

/-- expr reads as the plain reading says, where tail does one step deeper. -/
theorem expr_eye (B : Nat) (l : Toks) (hT : ∀ f d, d + f = 40 → ExprEye B l d (pEx l f) → TailEye B l d (pEx l f)) : ∀ f d, d + f = 40 → ExprEye B l d (pEx l f) := by
  intro f
  induction f with
  | zero =>
    intro d hd i e w h
    by_cases he : e = 0
    · subst he
      exact expr_skip B l i 0 1 d (by omega) _ w h (by rw [if_pos (by omega)]; rfl) (by decide) (by rw [after_ok, pEx])
    · exact expr_skip B l i e e d (by omega) _ w h (by rw [if_pos (by omega)]; unfold firstOf; rw [if_neg he]) he (by rw [after_bad he])
  | succ f ih =>
    intro d hd i e w h
    by_cases he : e = 0
    · subst he
      rw [after_ok]
      exact expr_step B l d f (by omega) (hT f (d + 1) (by omega) (ih (d + 1) (by omega))) i w h
    · exact expr_skip B l i e e d (by omega) _ w h (by rw [if_neg (by omega)]) he (by rw [after_bad he])

end Go.Proofs.YtpamadnckijfkabGreatDoor
