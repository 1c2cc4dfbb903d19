/- What the reference's head answers at a bracket: what is within, or a list of it. -/
import Derived.Test.YtieoddnaknpmlabGreatDoorJEe
namespace Go.Proofs.YtieoddnaknpmlabGreatDoor
open Go.RowKit
set_option maxRecDepth 100000

theorem sees_is {l : Toks} {i : Nat} {e : Int} {s : ByteArray} {b : Bool} (he : e = 0) (h : sgn l i s.data.toList = b) : seesB l i e s.data.toList = b := by unfold seesB; rw [he, h]; simp
theorem sees_wrong {l : Toks} {i : Nat} {e : Int} {s : List UInt8} (he : e ≠ 0) : seesB l i e s = false := by unfold seesB; simp [he]
theorem want_wrong {e : Int} (he : e ≠ 0) : wantE false e = e := by unfold wantE firstOf; simp [he]

set_option maxHeartbeats 8000000 in
theorem head_paren (B : Nat) (l : Toks) (d : Nat) (sub : Nat → Res Ex) (hE : ExprEye B l d sub) (i : Nat) (w : World) (h : EyeAt B l i 0 d w) (hs : sgn l i [40] = true) :
    Calls Tryz.prog 137 #[.pointer (some ⟨B, 0, none⟩)] w (ExprR B l d (pHead sub l i) w) := by
  have hlt := ey_lt h
  have HE := veil hE
  have HA := veil (ey_alloc h (.cells #[.int .i64 0, .int .i64 0, .string ⟨#[]⟩, .string ⟨#[]⟩, .slice none 0 0] 52))
  have HM : Hid (Moved B w (w.alloc (.cells #[.int .i64 0, .int .i64 0, .string ⟨#[]⟩, .string ⟨#[]⟩, .slice none 0 0] 52))) := Moved.of_below ((Below.refl _ _).alloc (Nat.le_refl _) _) (by omega)
  have HT : Hid (pHead sub l i = match sub (i + 1) with
    | .bad e => .bad e
    | .ok x j => if sgn l j [41] = true then .ok x (j + 1) else .bad 4) := by show _ = _; rw [pHead, if_pos hs]; rfl
  have HSg : Hid (seesB l i 0 (ByteArray.mk #[40]).data.toList = true) := sees_is rfl hs
  clear h hE hs
  go_enter Tryz.func137, Tryz.ntmps137
  go_wp2_with fail
  refine (sees_eye B l i 0 _ ⟨#[40]⟩ _ HA.out).mono ?_
  rintro r w1 ⟨rfl, q1, q2⟩
  rw [HSg.out] at q1
  rw [HSg.out]
  have hE1 : EyeAt B l (i + 1) 0 d w1 := q1
  have HX := veil (HE.out (i + 1) 0 w1 hE1)
  have hs1 : w.heap.size + 1 ≤ w1.heap.size := by have := q2.below.size; simpa using this
  have HZ1 := veil ((q2.above w.heap.size hlt (by simp)).trans (heap_alloc_new w (.cells #[.int .i64 0, .int .i64 0, .string ⟨#[]⟩, .string ⟨#[]⟩, .slice none 0 0] 52)))
  have HM1 := veil (HM.out.trans q2)
  clear q1 q2 hE1
  go_wp2_with fail
  refine HX.out.mono ?_
  rintro r w2 ⟨q2, k2, n2, f2, s2, a2, m2, c2, rfl, q1⟩
  obtain ⟨e3, j3, hE3, hr3⟩ := q1.state
  rw [after_ok] at hr3
  have hs2 := q2.below.size
  have HZ2 := veil ((heap_alloc_old w2 (.cells #[.int .i64 k2, .int .i64 n2, .string f2, .string s2, .slice a2 m2 c2] 52) (by omega)).trans ((q2.above w.heap.size hlt (by omega)).trans HZ1.out))
  have HM2 := veil ((HM1.out.trans q2).alloc (by omega) (.cells #[.int .i64 k2, .int .i64 n2, .string f2, .string s2, .slice a2 m2 c2] 52))
  have hE4 := ey_alloc hE3 (.cells #[.int .i64 k2, .int .i64 n2, .string f2, .string s2, .slice a2 m2 c2] 52)
  have HR3 := veil hr3
  clear q1 q2 hE3 hr3
  go_wp2_with fail
  refine (wants_eye B l j3 e3 _ ⟨#[41]⟩ _ hE4).mono ?_
  rintro r w5 ⟨rfl, q3, q4⟩
  have hs5 : w2.heap.size + 1 ≤ w5.heap.size := by have := q4.below.size; simpa using this
  have hz5 := (q4.above w.heap.size hlt (by simp; omega)).trans HZ2.out
  have ho5 := (q4.above w2.heap.size (by omega) (by simp)).trans (heap_alloc_new w2 (.cells #[.int .i64 k2, .int .i64 n2, .string f2, .string s2, .slice a2 m2 c2] 52))
  have hk6 : Keeps (Fresh w1.heap.size w2) (OwnB (w.heap.size + 1) w2.heap.size w5) w2 w5 := ⟨fun b hb => (q4.above b (by have := hb.1; omega) (by simp; have := hb.2; omega)).trans (heap_alloc_old _ _ hb.2), fun b hb => ⟨by have := hb.1; omega, by have := hb.2; omega, by have := hb.2; omega⟩⟩
  have HFin := veil (expr_fin (T := pHead sub l i) (ob := w2.heap.size) (k := k2) (n := n2) (f := f2) (s := s2) (a := a2) (m := m2) (c := c2) q3 (HM2.out.trans q4) hlt hz5 (by
    rw [HT.out]
    rcases HR3.out with ⟨rfl, x, hp, hpx⟩ | ⟨hne, hp⟩
    · rw [hp]
      cases hs41 : sgn l j3 [41] with
      | true =>
        rw [show seesB l j3 0 (ByteArray.mk #[41]).data.toList = true from sees_is rfl hs41]
        exact .inl ⟨rfl, x, hpx.keep hk6, by simp [hs41, adv]⟩
      | false =>
        rw [show seesB l j3 0 (ByteArray.mk #[41]).data.toList = false from sees_is rfl hs41]
        exact .inr ⟨by decide, by simp [hs41, wantE, firstOf]⟩
    · rw [hp, sees_wrong hne, want_wrong hne]
      exact .inr ⟨hne, rfl⟩))
  obtain ⟨⟨o0, o1, o2, o3, o4⟩, _⟩ := five_cells ho5
  obtain ⟨⟨r0, r1, r2, r3, r4⟩, ⟨g0, g1, g2, g3, g4⟩⟩ := five_cells hz5
  clear q3 q4 hz5 ho5 hk6 hE4 HR3
  go_wp2_with fail
  obtain ⟨F, hF, ⟨y0, y1, y2, y3, y4⟩, hR⟩ := HFin.out
  rw [hF]
  exact bodyPost_ret (v := .agg #[.int .i64 k2, .int .i64 n2, .string f2, .string s2, .slice a2 m2 c2]) (by simp [results, Tryz.results137, go_sem, y0, y1, y2, y3, y4]) rfl hR

set_option maxHeartbeats 8000000 in
theorem head_items (B : Nat) (l : Toks) (d : Nat) (sub : Nat → Res Ex) (hA : AllEye B l d sub) (i : Nat) (w : World) (h : EyeAt B l i 0 d w) (hs : sgn l i [40] = false) (hs2 : sgn l i [91] = true) :
    Calls Tryz.prog 137 #[.pointer (some ⟨B, 0, none⟩)] w (ExprR B l d (pHead sub l i) w) := by
  have hlt := ey_lt h
  have HAl := veil hA
  have HA := veil (ey_alloc h (.cells #[.int .i64 0, .int .i64 0, .string ⟨#[]⟩, .string ⟨#[]⟩, .slice none 0 0] 52))
  have HM : Hid (Moved B w (w.alloc (.cells #[.int .i64 0, .int .i64 0, .string ⟨#[]⟩, .string ⟨#[]⟩, .slice none 0 0] 52))) := Moved.of_below ((Below.refl _ _).alloc (Nat.le_refl _) _) (by omega)
  have HT : Hid (pHead sub l i = match pList sub l [93] (l.length + 1) [] (i + 1) with
    | .bad e => .bad e
    | .ok xs j => .ok (exItems xs) j) := by show _ = _; rw [pHead, if_neg (by rw [hs]; simp), if_pos hs2]; rfl
  have HSg : Hid (seesB l i 0 (ByteArray.mk #[40]).data.toList = false) := sees_is rfl hs
  have HSg2 : Hid (seesB l i 0 (ByteArray.mk #[91]).data.toList = true) := sees_is rfl hs2
  clear h hA hs hs2
  go_enter Tryz.func137, Tryz.ntmps137
  go_wp2_with fail
  refine (sees_eye B l i 0 _ ⟨#[40]⟩ _ HA.out).mono ?_
  rintro r w1 ⟨rfl, q1, q2⟩
  rw [HSg.out] at q1
  rw [HSg.out]
  have hE1 : EyeAt B l i 0 d w1 := q1
  have hs1 : w.heap.size + 1 ≤ w1.heap.size := by have := q2.below.size; simpa using this
  have HZ1 := veil ((q2.above w.heap.size hlt (by simp)).trans (heap_alloc_new w (.cells #[.int .i64 0, .int .i64 0, .string ⟨#[]⟩, .string ⟨#[]⟩, .slice none 0 0] 52)))
  have HM1 := veil (HM.out.trans q2)
  clear q1 q2
  go_wp2_with fail
  refine (sees_eye B l i 0 _ ⟨#[91]⟩ _ hE1).mono ?_
  rintro r w2 ⟨rfl, q1, q2⟩
  rw [HSg2.out] at q1
  rw [HSg2.out]
  have hE2 : EyeAt B l (i + 1) 0 d w2 := q1
  have HX := veil (HAl.out ⟨#[93]⟩ (i + 1) 0 w2 hE2)
  have hs2 := q2.below.size
  have HZ2 := veil ((q2.above w.heap.size hlt (by omega)).trans HZ1.out)
  have HM2 := veil (HM1.out.trans q2)
  clear q1 q2 hE1 hE2
  go_wp2_with fail
  refine HX.out.mono ?_
  rintro r w3 ⟨q2, a, m, c, rfl, q1⟩
  rw [after_ok] at q1
  have hs3 := q2.below.size
  have hz3 := (q2.above w.heap.size hlt (by omega)).trans HZ2.out
  have hst : ∃ e j, EyeAt B l j e d w3 ∧ ((e = 0 ∧ ∃ xs, pList sub l [93] (l.length + 1) [] (i + 1) = .ok xs j ∧ SlAt (Fresh w2.heap.size w3) (ExAt (Fresh w2.heap.size w3) w3) 5 xs (.slice a m c)) ∨ (e ≠ 0 ∧ pList sub l [93] (l.length + 1) [] (i + 1) = .bad e)) := by
    rcases q1 with ⟨xs, j, h1, h2, h3⟩ | ⟨e, j, h1, h2, h3⟩
    · exact ⟨0, j, h2, .inl ⟨rfl, xs, h1, h3⟩⟩
    · exact ⟨e, j, h3, .inr ⟨h2, h1⟩⟩
  obtain ⟨e3, j3, hE3, hr3⟩ := hst
  have HFin := veil (expr_fin (T := pHead sub l i) (ob := w.heap.size) (k := 6) (n := 0) (f := ⟨#[]⟩) (s := ⟨#[]⟩) (a := a) (m := m) (c := c) hE3 (HM2.out.trans q2) hlt hz3 (by
    rw [HT.out]
    rcases hr3 with ⟨rfl, xs, hp, hpx⟩ | ⟨hne, hp⟩
    · rw [hp]
      have hcs : ExCs (Fresh w2.heap.size w3) w3 (exItems xs) 6 0 ⟨#[]⟩ ⟨#[]⟩ (.slice a m c) := ⟨xs, rfl, empty_le, empty_le, hpx⟩
      exact .inl ⟨rfl, _, hcs.keep ⟨fun _ _ => rfl, fun b hb => ⟨by have := hb.1; omega, hb.2, by have := hb.1; omega⟩⟩, rfl⟩
    · rw [hp]
      exact .inr ⟨hne, rfl⟩))
  obtain ⟨⟨r0, r1, r2, r3, r4⟩, ⟨g0, g1, g2, g3, g4⟩⟩ := five_cells hz3
  clear q1 q2 hz3 hE3 hr3
  go_wp2_with fail
  obtain ⟨F, hF, ⟨y0, y1, y2, y3, y4⟩, hR⟩ := HFin.out
  rw [hF]
  exact bodyPost_ret (v := .agg #[.int .i64 6, .int .i64 0, .string ⟨#[]⟩, .string ⟨#[]⟩, .slice a m c]) (by simp [results, Tryz.results137, go_sem, y0, y1, y2, y3, y4]) rfl hR

end Go.Proofs.YtieoddnaknpmlabGreatDoor

/- What the reference's head answers at a token that is a quote, a number, or none of what it may be. -/
namespace Go.Proofs.YtieoddnaknpmlabGreatDoor
open Go.RowKit
set_option maxRecDepth 100000

theorem ex_leaf {S : Nat → Prop} {w : World} (k n : Int) {f s : ByteArray} (hf : f.size ≤ maxLen) (hs : s.size ≤ maxLen) : ExCs S w (.mk k n f s []) k n f s (.slice none 0 0) :=
  ⟨[], rfl, hf, hs, none, 0, rfl, ⟨by simp [maxLen], by simp⟩, .inl rfl⟩

set_option maxHeartbeats 8000000 in
theorem head_quote (B : Nat) (l : Toks) (d : Nat) (T : Res Ex) (i i1 : Nat) (e : Int) (tx : ByteArray) (hsz : tx.size ≤ maxLen) (w : World) (h : EyeAt B l i e d w) (hs : seesB l i e [40] = false) (hs2 : seesB l i e [91] = false)
    (hone : ∀ W, EyeAt B l i e d W → Calls Tryz.prog 45 #[.pointer (some ⟨B, 0, none⟩)] W fun r w' => r = .returned (.agg #[.int .i64 3, .string tx]) ∧ EyeAt B l i1 e d w' ∧ Moved B W w')
    (he : e = 0) (hT : T = .ok (exQuote tx) i1) :
    Calls Tryz.prog 137 #[.pointer (some ⟨B, 0, none⟩)] w (ExprR B l d T w) := by
  have hlt := ey_lt h
  have HA := veil (ey_alloc h (.cells #[.int .i64 0, .int .i64 0, .string ⟨#[]⟩, .string ⟨#[]⟩, .slice none 0 0] 52))
  have HM : Hid (Moved B w (w.alloc (.cells #[.int .i64 0, .int .i64 0, .string ⟨#[]⟩, .string ⟨#[]⟩, .slice none 0 0] 52))) := Moved.of_below ((Below.refl _ _).alloc (Nat.le_refl _) _) (by omega)
  have HSg : Hid (seesB l i e (ByteArray.mk #[40]).data.toList = false) := hs
  have HSg2 : Hid (seesB l i e (ByteArray.mk #[91]).data.toList = false) := hs2
  have HOne := veil hone
  have HT := veil hT
  have HE := veil he
  clear h hs hs2 hone hT he
  go_enter Tryz.func137, Tryz.ntmps137
  go_wp2_with fail
  refine (sees_eye B l i e _ ⟨#[40]⟩ _ HA.out).mono ?_
  rintro r w1 ⟨rfl, q1, q2⟩
  rw [HSg.out] at q1
  rw [HSg.out]
  have hE1 : EyeAt B l i e d w1 := q1
  have hs1 : w.heap.size + 1 ≤ w1.heap.size := by have := q2.below.size; simpa using this
  have HZ1 := veil ((q2.above w.heap.size hlt (by simp)).trans (heap_alloc_new w (.cells #[.int .i64 0, .int .i64 0, .string ⟨#[]⟩, .string ⟨#[]⟩, .slice none 0 0] 52)))
  have HM1 := veil (HM.out.trans q2)
  clear q1 q2
  go_wp2_with fail
  refine (sees_eye B l i e _ ⟨#[91]⟩ _ hE1).mono ?_
  rintro r w2 ⟨rfl, q1, q2⟩
  rw [HSg2.out] at q1
  rw [HSg2.out]
  have hE2 : EyeAt B l i e d w2 := q1
  have HX := veil (HOne.out w2 hE2)
  have hs2 := q2.below.size
  have HZ2 := veil ((q2.above w.heap.size hlt (by omega)).trans HZ1.out)
  have HM2 := veil (HM1.out.trans q2)
  clear q1 q2 hE1 hE2
  go_wp2_with fail
  refine HX.out.mono ?_
  rintro r w3 ⟨rfl, hE3, q2⟩
  have hs3 := q2.below.size
  have hz3 := (heap_alloc_old w3 (.cells #[.int .i64 3, .string tx] 90) (by omega)).trans ((q2.above w.heap.size hlt (by omega)).trans HZ2.out)
  have hM3 := (HM2.out.trans q2).alloc (by omega) (.cells #[.int .i64 3, .string tx] 90)
  have hE4 := ey_alloc hE3 (.cells #[.int .i64 3, .string tx] 90)
  have t0 : (w3.alloc (.cells #[.int .i64 3, .string tx] 90)).cell? ⟨w3.heap.size, 0, none⟩ = some (.int .i64 3) := World.cell?_alloc_at _ _ _ _ rfl
  have t1 : (w3.alloc (.cells #[.int .i64 3, .string tx] 90)).cell? ⟨w3.heap.size, 1, none⟩ = some (.string tx) := World.cell?_alloc_at _ _ _ _ rfl
  clear q2 hE3 HX HA HM HZ1 HM1 HZ2 HM2 HSg HSg2 HOne
  have HFin := veil (expr_fin (T := T) (ob := w.heap.size) (k := 2) (n := 0) (f := ⟨#[]⟩) (s := tx) (a := none) (m := 0) (c := 0) hE4 hM3 hlt hz3 (.inl ⟨HE.out, _, ex_leaf 2 0 empty_le hsz, HT.out⟩))
  obtain ⟨⟨r0, r1, r2, r3, r4⟩, ⟨g0, g1, g2, g3, g4⟩⟩ := five_cells hz3
  clear hE4 hM3 hz3
  go_wp2_with fail
  obtain ⟨F, hF, ⟨y0, y1, y2, y3, y4⟩, hR⟩ := HFin.out
  rw [hF]
  exact bodyPost_ret (v := .agg #[.int .i64 2, .int .i64 0, .string ⟨#[]⟩, .string tx, .slice none 0 0]) (by simp [results, Tryz.results137, go_sem, y0, y1, y2, y3, y4]) rfl hR

set_option maxHeartbeats 8000000 in
theorem head_bad (B : Nat) (l : Toks) (d : Nat) (T : Res Ex) (i i1 : Nat) (e kd : Int) (tx : ByteArray) (hsz : tx.size ≤ maxLen) (w : World) (h : EyeAt B l i e d w) (hs : seesB l i e [40] = false) (hs2 : seesB l i e [91] = false)
    (hone : ∀ W, EyeAt B l i e d W → Calls Tryz.prog 45 #[.pointer (some ⟨B, 0, none⟩)] W fun r w' => r = .returned (.agg #[.int .i64 kd, .string tx]) ∧ EyeAt B l i1 e d w' ∧ Moved B W w')
    (hq : (kd == 3) = false) (hn : (kd == 2) = false) (hw : (kd != 1) = true ∨ (kd = 1 ∧ identOk tx = false)) (hT : T = .bad (firstOf e 4)) :
    Calls Tryz.prog 137 #[.pointer (some ⟨B, 0, none⟩)] w (ExprR B l d T w) := by
  have HNe : Hid (firstOf e 4 ≠ 0) := by show ¬ _; unfold firstOf; split <;> omega
  rcases hw with hw | ⟨rfl, hid⟩
  · have hlt := ey_lt h
    have HA := veil (ey_alloc h (.cells #[.int .i64 0, .int .i64 0, .string ⟨#[]⟩, .string ⟨#[]⟩, .slice none 0 0] 52))
    have HM : Hid (Moved B w (w.alloc (.cells #[.int .i64 0, .int .i64 0, .string ⟨#[]⟩, .string ⟨#[]⟩, .slice none 0 0] 52))) := Moved.of_below ((Below.refl _ _).alloc (Nat.le_refl _) _) (by omega)
    have HSg : Hid (seesB l i e (ByteArray.mk #[40]).data.toList = false) := hs
    have HSg2 : Hid (seesB l i e (ByteArray.mk #[91]).data.toList = false) := hs2
    have HOne := veil hone
    have HT := veil hT
    clear h hs hs2 hone hT
    go_enter Tryz.func137, Tryz.ntmps137
    go_wp2_with fail
    refine (sees_eye B l i e _ ⟨#[40]⟩ _ HA.out).mono ?_
    rintro r w1 ⟨rfl, q1, q2⟩
    rw [HSg.out] at q1
    rw [HSg.out]
    have hE1 : EyeAt B l i e d w1 := q1
    have hs1 : w.heap.size + 1 ≤ w1.heap.size := by have := q2.below.size; simpa using this
    have HZ1 := veil ((q2.above w.heap.size hlt (by simp)).trans (heap_alloc_new w (.cells #[.int .i64 0, .int .i64 0, .string ⟨#[]⟩, .string ⟨#[]⟩, .slice none 0 0] 52)))
    have HM1 := veil (HM.out.trans q2)
    clear q1 q2
    go_wp2_with fail
    refine (sees_eye B l i e _ ⟨#[91]⟩ _ hE1).mono ?_
    rintro r w2 ⟨rfl, q1, q2⟩
    rw [HSg2.out] at q1
    rw [HSg2.out]
    have hE2 : EyeAt B l i e d w2 := q1
    have HX := veil (HOne.out w2 hE2)
    have hs2 := q2.below.size
    have HZ2 := veil ((q2.above w.heap.size hlt (by omega)).trans HZ1.out)
    have HM2 := veil (HM1.out.trans q2)
    clear q1 q2 hE1 hE2
    go_wp2_with fail
    refine HX.out.mono ?_
    rintro r w3 ⟨rfl, hE3, q2⟩
    have hs3 := q2.below.size
    have hz3 := (heap_alloc_old w3 (.cells #[.int .i64 kd, .string tx] 90) (by omega)).trans ((q2.above w.heap.size hlt (by omega)).trans HZ2.out)
    have hM3 := (HM2.out.trans q2).alloc (by omega) (.cells #[.int .i64 kd, .string tx] 90)
    have hE4 := ey_alloc hE3 (.cells #[.int .i64 kd, .string tx] 90)
    have t0 : (w3.alloc (.cells #[.int .i64 kd, .string tx] 90)).cell? ⟨w3.heap.size, 0, none⟩ = some (.int .i64 kd) := World.cell?_alloc_at _ _ _ _ rfl
    have t1 : (w3.alloc (.cells #[.int .i64 kd, .string tx] 90)).cell? ⟨w3.heap.size, 1, none⟩ = some (.string tx) := World.cell?_alloc_at _ _ _ _ rfl
    clear q2 hE3 HX HA HM HZ1 HM1 HZ2 HM2 HSg HSg2 HOne
    have HE4 := veil hE4
    have HM3 := veil hM3
    have HZ3 := veil hz3
    clear hE4 hM3 hz3
    go_wp2_with fail
    refine (bad_eye B l i1 e _ 4 _ HE4.out).mono ?_
    rintro r w5 ⟨rfl, q1, q2⟩
    have hs5 : w3.heap.size + 1 ≤ w5.heap.size := by have := q2.below.size; simpa using this
    have hz5 := (q2.above w.heap.size hlt (by simp; omega)).trans HZ3.out
    have HFin := veil (expr_fin (T := T) (ob := w.heap.size) (k := 0) (n := 0) (f := ⟨#[]⟩) (s := ⟨#[]⟩) (a := none) (m := 0) (c := 0) q1 (HM3.out.trans q2) hlt hz5 (.inr ⟨HNe.out, HT.out⟩))
    obtain ⟨⟨r0, r1, r2, r3, r4⟩, ⟨g0, g1, g2, g3, g4⟩⟩ := five_cells hz5
    clear q1 q2 hz5
    go_wp2_with fail
    obtain ⟨F, hF, ⟨y0, y1, y2, y3, y4⟩, hR⟩ := HFin.out
    rw [hF]
    exact bodyPost_ret (v := .agg #[.int .i64 0, .int .i64 0, .string ⟨#[]⟩, .string ⟨#[]⟩, .slice none 0 0]) (by simp [results, Tryz.results137, go_sem, y0, y1, y2, y3, y4]) rfl hR
  · have hlt := ey_lt h
    have HA := veil (ey_alloc h (.cells #[.int .i64 0, .int .i64 0, .string ⟨#[]⟩, .string ⟨#[]⟩, .slice none 0 0] 52))
    have HM : Hid (Moved B w (w.alloc (.cells #[.int .i64 0, .int .i64 0, .string ⟨#[]⟩, .string ⟨#[]⟩, .slice none 0 0] 52))) := Moved.of_below ((Below.refl _ _).alloc (Nat.le_refl _) _) (by omega)
    have HSg : Hid (seesB l i e (ByteArray.mk #[40]).data.toList = false) := hs
    have HSg2 : Hid (seesB l i e (ByteArray.mk #[91]).data.toList = false) := hs2
    have HOne := veil hone
    have HT := veil hT
    clear h hs hs2 hone hT
    go_enter Tryz.func137, Tryz.ntmps137
    go_wp2_with fail
    refine (sees_eye B l i e _ ⟨#[40]⟩ _ HA.out).mono ?_
    rintro r w1 ⟨rfl, q1, q2⟩
    rw [HSg.out] at q1
    rw [HSg.out]
    have hE1 : EyeAt B l i e d w1 := q1
    have hs1 : w.heap.size + 1 ≤ w1.heap.size := by have := q2.below.size; simpa using this
    have HZ1 := veil ((q2.above w.heap.size hlt (by simp)).trans (heap_alloc_new w (.cells #[.int .i64 0, .int .i64 0, .string ⟨#[]⟩, .string ⟨#[]⟩, .slice none 0 0] 52)))
    have HM1 := veil (HM.out.trans q2)
    clear q1 q2
    go_wp2_with fail
    refine (sees_eye B l i e _ ⟨#[91]⟩ _ hE1).mono ?_
    rintro r w2 ⟨rfl, q1, q2⟩
    rw [HSg2.out] at q1
    rw [HSg2.out]
    have hE2 : EyeAt B l i e d w2 := q1
    have HX := veil (HOne.out w2 hE2)
    have hs2 := q2.below.size
    have HZ2 := veil ((q2.above w.heap.size hlt (by omega)).trans HZ1.out)
    have HM2 := veil (HM1.out.trans q2)
    clear q1 q2 hE1 hE2
    go_wp2_with fail
    refine HX.out.mono ?_
    rintro r w3 ⟨rfl, hE3, q2⟩
    have hs3 := q2.below.size
    have hz3 := (heap_alloc_old w3 (.cells #[.int .i64 1, .string tx] 90) (by omega)).trans ((q2.above w.heap.size hlt (by omega)).trans HZ2.out)
    have hM3 := (HM2.out.trans q2).alloc (by omega) (.cells #[.int .i64 1, .string tx] 90)
    have hE4 := ey_alloc hE3 (.cells #[.int .i64 1, .string tx] 90)
    have t0 : (w3.alloc (.cells #[.int .i64 1, .string tx] 90)).cell? ⟨w3.heap.size, 0, none⟩ = some (.int .i64 1) := World.cell?_alloc_at _ _ _ _ rfl
    have t1 : (w3.alloc (.cells #[.int .i64 1, .string tx] 90)).cell? ⟨w3.heap.size, 1, none⟩ = some (.string tx) := World.cell?_alloc_at _ _ _ _ rfl
    clear q2 hE3 HX HA HM HZ1 HM1 HZ2 HM2 HSg HSg2 HOne
    have HE4 := veil hE4
    have HM3 := veil hM3
    have HZ3 := veil hz3
    clear hE4 hM3 hz3
    go_wp2_with fail
    refine (nameMay_any tx hsz _).mono ?_
    rintro r w4 ⟨rfl, rfl⟩
    rw [hid]
    go_wp2_with fail
    refine (bad_eye B l i1 e _ 4 _ HE4.out).mono ?_
    rintro r w5 ⟨rfl, q1, q2⟩
    have hs5 : w3.heap.size + 1 ≤ w5.heap.size := by have := q2.below.size; simpa using this
    have hz5 := (q2.above w.heap.size hlt (by simp; omega)).trans HZ3.out
    have HFin := veil (expr_fin (T := T) (ob := w.heap.size) (k := 0) (n := 0) (f := ⟨#[]⟩) (s := ⟨#[]⟩) (a := none) (m := 0) (c := 0) q1 (HM3.out.trans q2) hlt hz5 (.inr ⟨HNe.out, HT.out⟩))
    obtain ⟨⟨r0, r1, r2, r3, r4⟩, ⟨g0, g1, g2, g3, g4⟩⟩ := five_cells hz5
    clear q1 q2 hz5
    go_wp2_with fail
    obtain ⟨F, hF, ⟨y0, y1, y2, y3, y4⟩, hR⟩ := HFin.out
    rw [hF]
    exact bodyPost_ret (v := .agg #[.int .i64 0, .int .i64 0, .string ⟨#[]⟩, .string ⟨#[]⟩, .slice none 0 0]) (by simp [results, Tryz.results137, go_sem, y0, y1, y2, y3, y4]) rfl hR

end Go.Proofs.YtieoddnaknpmlabGreatDoor

/- What the reference's head answers at a number. -/
namespace Go.Proofs.YtieoddnaknpmlabGreatDoor
open Go.RowKit
set_option maxRecDepth 100000

theorem numVal_snoc (l : List UInt8) (c : UInt8) : numVal (l ++ [c]) = 10 * numVal l + ((c.toNat : Int) - 48) := by
  unfold numVal
  rw [List.foldl_append]
  rfl

theorem num_fold : ∀ (l : List UInt8) (n : Int), 0 ≤ n → (∀ c ∈ l, 48 ≤ c.toNat ∧ c.toNat ≤ 57) → 0 ≤ l.foldl (fun n c => 10 * n + ((c.toNat : Int) - 48)) n ∧ l.foldl (fun n c => 10 * n + ((c.toNat : Int) - 48)) n < (n + 1) * 10 ^ l.length
  | [], n, h, _ => by simp; omega
  | c :: l, n, h, hl => by
    have hc := hl c (by simp)
    have ih := num_fold l (10 * n + ((c.toNat : Int) - 48)) (by omega) (fun d hd => hl d (by simp [hd]))
    rw [List.foldl_cons, List.length_cons, Int.pow_succ]
    refine ⟨ih.1, Int.lt_of_lt_of_le ih.2 ?_⟩
    have hp : (0 : Int) ≤ 10 ^ l.length := Int.pow_nonneg (by omega)
    have := Int.mul_le_mul_of_nonneg_right (show 10 * n + ((c.toNat : Int) - 48) + 1 ≤ (n + 1) * 10 by omega) hp
    rw [Int.mul_assoc, Int.mul_comm 10 (10 ^ l.length)] at this
    exact this

theorem numVal_bd (l : List UInt8) (h : ∀ c ∈ l, 48 ≤ c.toNat ∧ c.toNat ≤ 57) : 0 ≤ numVal l ∧ numVal l < 10 ^ l.length := by
  have := num_fold l 0 (by omega) h
  rw [Int.zero_add, Int.one_mul] at this
  exact this

set_option maxHeartbeats 8000000 in
theorem head_num (B : Nat) (l : Toks) (d : Nat) (T : Res Ex) (i i1 : Nat) (e : Int) (tx : ByteArray) (_hsz : tx.size ≤ maxLen) (w : World) (h : EyeAt B l i e d w) (hs : seesB l i e [40] = false) (hs2 : seesB l i e [91] = false)
    (hone : ∀ W, EyeAt B l i e d W → Calls Tryz.prog 45 #[.pointer (some ⟨B, 0, none⟩)] W fun r w' => r = .returned (.agg #[.int .i64 2, .string tx]) ∧ EyeAt B l i1 e d w' ∧ Moved B W w')
    (he : e = 0) (hnum : numOk tx = true) (hT : T = .ok (exNum tx) i1) :
    Calls Tryz.prog 137 #[.pointer (some ⟨B, 0, none⟩)] w (ExprR B l d T w) := by
  have hz6 : tx.size ≤ 6 := by
    simp only [numOk, Bool.and_eq_true, isIn, decide_eq_true_eq] at hnum
    omega
  have hdig : ∀ k (hk : k < tx.size), 48 ≤ ((tx[k]'hk).toNat : Int) ∧ ((tx[k]'hk).toNat : Int) ≤ 57 := by
    intro k hk
    simp only [numOk, Bool.and_eq_true, allB_iff] at hnum
    have := digit_bd (hnum.1 k hk)
    rw [← byteAt_get tx k hk] at this
    exact this
  have hbd : ∀ k, k ≤ tx.size → 0 ≤ numVal (tx.data.toList.take k) ∧ numVal (tx.data.toList.take k) < 1000000 := by
    intro k hk
    have h1 := numVal_bd (tx.data.toList.take k) (fun c hc => by
      obtain ⟨j, hj, rfl⟩ := List.getElem_of_mem hc
      rw [List.length_take] at hj
      have hj' : j < tx.size := by rw [Lib.size_eq]; omega
      rw [List.getElem_take]
      have := hdig j hj'
      have e : ((tx[j]'hj').toNat : Int) = ((tx.data.toList[j]'(by rw [← Lib.size_eq]; exact hj')).toNat : Int) := rfl
      omega)
    have h2 : (10 : Int) ^ (tx.data.toList.take k).length ≤ 10 ^ 6 := by
      have : (tx.data.toList.take k).length ≤ 6 := by rw [List.length_take, ← Lib.size_eq]; omega
      exact_mod_cast Nat.pow_le_pow_right (by omega) this
    omega
  have hstep : ∀ k (hk : k < tx.size), numVal (tx.data.toList.take (k + 1)) = 10 * numVal (tx.data.toList.take k) + (((tx[k]'hk).toNat : Int) - 48) := by
    intro k hk
    have hl : k < tx.data.toList.length := by rw [← Lib.size_eq]; exact hk
    rw [List.take_succ_eq_append_getElem hl, numVal_snoc]
    rfl
  have HDig := veil hdig
  have HBd := veil hbd
  have HStep := veil hstep
  clear hdig hbd hstep hnum
  have hlt := ey_lt h
  have HA := veil (ey_alloc h (.cells #[.int .i64 0, .int .i64 0, .string ⟨#[]⟩, .string ⟨#[]⟩, .slice none 0 0] 52))
  have HM : Hid (Moved B w (w.alloc (.cells #[.int .i64 0, .int .i64 0, .string ⟨#[]⟩, .string ⟨#[]⟩, .slice none 0 0] 52))) := Moved.of_below ((Below.refl _ _).alloc (Nat.le_refl _) _) (by omega)
  have HSg : Hid (seesB l i e (ByteArray.mk #[40]).data.toList = false) := hs
  have HSg2 : Hid (seesB l i e (ByteArray.mk #[91]).data.toList = false) := hs2
  have HOne := veil hone
  have HT := veil hT
  have HE := veil he
  clear h hs hs2 hone hT he
  go_enter Tryz.func137, Tryz.ntmps137
  go_wp2_with fail
  refine (sees_eye B l i e _ ⟨#[40]⟩ _ HA.out).mono ?_
  rintro r w1 ⟨rfl, q1, q2⟩
  rw [HSg.out] at q1
  rw [HSg.out]
  have hE1 : EyeAt B l i e d w1 := q1
  have hs1 : w.heap.size + 1 ≤ w1.heap.size := by have := q2.below.size; simpa using this
  have HZ1 := veil ((q2.above w.heap.size hlt (by simp)).trans (heap_alloc_new w (.cells #[.int .i64 0, .int .i64 0, .string ⟨#[]⟩, .string ⟨#[]⟩, .slice none 0 0] 52)))
  have HM1 := veil (HM.out.trans q2)
  clear q1 q2
  go_wp2_with fail
  refine (sees_eye B l i e _ ⟨#[91]⟩ _ hE1).mono ?_
  rintro r w2 ⟨rfl, q1, q2⟩
  rw [HSg2.out] at q1
  rw [HSg2.out]
  have hE2 : EyeAt B l i e d w2 := q1
  have HX := veil (HOne.out w2 hE2)
  have hs2 := q2.below.size
  have HZ2 := veil ((q2.above w.heap.size hlt (by omega)).trans HZ1.out)
  have HM2 := veil (HM1.out.trans q2)
  clear q1 q2 hE1 hE2
  go_wp2_with fail
  refine HX.out.mono ?_
  rintro r w3 ⟨rfl, hE3, q2⟩
  have hs3 := q2.below.size
  have hz3 := (heap_alloc_old w3 (.cells #[.int .i64 2, .string tx] 90) (by omega)).trans ((q2.above w.heap.size hlt (by omega)).trans HZ2.out)
  have hM3 := (HM2.out.trans q2).alloc (by omega) (.cells #[.int .i64 2, .string tx] 90)
  have hE4 := ey_alloc hE3 (.cells #[.int .i64 2, .string tx] 90)
  have t0 : (w3.alloc (.cells #[.int .i64 2, .string tx] 90)).cell? ⟨w3.heap.size, 0, none⟩ = some (.int .i64 2) := World.cell?_alloc_at _ _ _ _ rfl
  have t1 : (w3.alloc (.cells #[.int .i64 2, .string tx] 90)).cell? ⟨w3.heap.size, 1, none⟩ = some (.string tx) := World.cell?_alloc_at _ _ _ _ rfl
  clear q2 hE3 HX HA HM HZ1 HM1 HZ2 HM2 HSg HSg2 HOne
  have HFin := veil (expr_fin (T := T) (ob := w.heap.size) (k := 1) (n := numVal tx.data.toList) (f := ⟨#[]⟩) (s := ⟨#[]⟩) (a := none) (m := 0) (c := 0) hE4 hM3 hlt hz3 (.inl ⟨HE.out, _, ex_leaf 1 _ empty_le empty_le, HT.out⟩))
  obtain ⟨⟨r0, r1, r2, r3, r4⟩, ⟨g0, g1, g2, g3, g4⟩⟩ := five_cells hz3
  clear hE4 hM3 hz3
  go_wp2_with fail
  go_loop [5, 6] (fun n i => ∃ k : Nat, k ≤ tx.size ∧ n = .int .i64 (numVal (tx.data.toList.take k)) ∧ i = .int .i64 k) (fun _ i => tx.size - (intOf i).toNat)
  case atStart => exact ⟨0, Nat.zero_le _, rfl, rfl⟩
  case round =>
    obtain ⟨k, hk, rfl, rfl⟩ := hrel
    by_cases hlt2 : k < tx.size
    · obtain ⟨d0, d1⟩ := HDig.out k hlt2
      obtain ⟨b0, b1⟩ := HBd.out k hk
      obtain ⟨b2, b3⟩ := HBd.out (k + 1) hlt2
      have HSt := veil (HStep.out k hlt2)
      rw [HSt.out] at b2 b3
      generalize numVal (tx.data.toList.take k) = nv at *
      have hlt3 : (k : Int) < (tx.size : Int) := by omega
      have hwr : IntKind.u8.wrap (((tx[k]'hlt2).toNat : Int) - 48) = ((tx[k]'hlt2).toNat : Int) - 48 := by
        unfold IntKind.wrap
        simp [IntKind.signed, IntKind.bits]
        omega
      go_wp2_with fail
      go_round
      · exact ⟨k + 1, by omega, by rw [HSt.out], by simp⟩
      · simp [intOf]; omega
    · have hk' : k = tx.size := by omega
      subst hk'
      have HN : Hid (tx.data.toList.take tx.size = tx.data.toList) := by show _ = _; rw [Lib.size_eq, List.take_length]
      rw [HN.out]
      go_wp2_with fail
      obtain ⟨F, hF, ⟨y0, y1, y2, y3, y4⟩, hR⟩ := HFin.out
      rw [hF]
      exact bodyPost_ret (v := .agg #[.int .i64 1, .int .i64 (numVal tx.data.toList), .string ⟨#[]⟩, .string ⟨#[]⟩, .slice none 0 0]) (by simp [results, Tryz.results137, go_sem, y0, y1, y2, y3, y4]) rfl hR

end Go.Proofs.YtieoddnaknpmlabGreatDoor
