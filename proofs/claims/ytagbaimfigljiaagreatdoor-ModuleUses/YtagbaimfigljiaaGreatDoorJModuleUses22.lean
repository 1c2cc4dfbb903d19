import Derived.Test.YtagbaimfigljiaaGreatDoorJModuleUses21
import Derived.Test.YtagbaimfigljiaaGreatDoorJModuleUses19
namespace Go.Proofs.YtagbaimfigljiaaGreatDoor
open Go.RowKit
set_option maxRecDepth 100000

/-- what is told of the arguments of a call, and of it. -/
def argsRes (sub : Nat → Res Ex) (l : Toks) (o n : ByteArray) (j : Nat) : Res Ex := if sgn l j [41] = true then .ok (exCall o n []) (j + 1) else match pList sub l [41] (l.length + 1) [] j with
  | .bad e => .bad e
  | .ok xs j' => .ok (exCall o n xs) j'

set_option maxHeartbeats 8000000 in
theorem head_param (B : Nat) (l : Toks) (d : Nat) (T : Res Ex) (i i1 : Nat) (e : Int) (tx : ByteArray) (hsz : tx.size ≤ maxLen) (w : World) (h : EyeAt B l i e d w) (hs : seesB l i e [40] = false) (hs2 : seesB l i e [91] = false)
    (hone : ∀ W, EyeAt B l i e d W → Calls Tryz.prog 140 #[.pointer (some ⟨B, 0, none⟩)] W fun r w' => r = .returned (.agg #[.int .i64 1, .string tx]) ∧ EyeAt B l i1 e d w' ∧ Moved B W w')
    (he : e = 0) (hid : identOk tx = true) (hd : sgn l i1 [46] = false) (hp : sgn l i1 [40] = false) (hT : T = .ok (exParam tx) i1) :
    Calls Tryz.prog 317 #[.pointer (some ⟨B, 0, none⟩)] w (ExprR B l d T w) := by
  have hlt := ey_lt h
  have HA := veil (ey_alloc h (.cells #[.int .i64 0, .int .i64 0, .string ⟨#[]⟩, .string ⟨#[]⟩, .slice none 0 0] 87))
  have HM : Hid (Moved B w (w.alloc (.cells #[.int .i64 0, .int .i64 0, .string ⟨#[]⟩, .string ⟨#[]⟩, .slice none 0 0] 87))) := Moved.of_below ((Below.refl _ _).alloc (Nat.le_refl _) _) (by omega)
  have HSg : Hid (seesB l i e (ByteArray.mk #[40]).data.toList = false) := hs
  have HSg2 : Hid (seesB l i e (ByteArray.mk #[91]).data.toList = false) := hs2
  have HOne := veil hone
  have HT := veil hT
  have HSd : Hid (seesB l i1 e (ByteArray.mk #[46]).data.toList = false) := sees_is he hd
  have HSp : Hid (seesB l i1 e (ByteArray.mk #[40]).data.toList = false) := sees_is he hp
  have HE := veil he
  clear h hs hs2 hone hT hd hp he
  go_enter Tryz.func317, Tryz.ntmps317
  go_wp2_with fail
  refine (sees_eye B l i e _ ⟨#[40]⟩ _ HA.out).mono ?_
  rintro r w1 ⟨rfl, q1, q2⟩
  rw [HSg.out] at q1
  rw [HSg.out]
  have hE1 : EyeAt B l i e d w1 := q1
  have hs1 : w.heap.size + 1 ≤ w1.heap.size := by have := q2.below.size; simpa using this
  have HZ1 := veil ((q2.above w.heap.size hlt (by simp)).trans (heap_alloc_new w (.cells #[.int .i64 0, .int .i64 0, .string ⟨#[]⟩, .string ⟨#[]⟩, .slice none 0 0] 87)))
  have HM1 := veil (HM.out.trans q2)
  clear q1 q2
  go_wp2_with fail
  refine (sees_eye B l i e _ ⟨#[91]⟩ _ hE1).mono ?_
  rintro r w2 ⟨rfl, q1, q2⟩
  rw [HSg2.out] at q1
  rw [HSg2.out]
  have hE2 : EyeAt B l i e d w2 := q1
  have HX := veil (HOne.out w2 hE2)
  have hs2 := q2.below.size
  have HZ2 := veil ((q2.above w.heap.size hlt (by omega)).trans HZ1.out)
  have HM2 := veil (HM1.out.trans q2)
  clear q1 q2 hE1 hE2
  go_wp2_with fail
  refine HX.out.mono ?_
  rintro r w3 ⟨rfl, hE3, q2⟩
  have hs3 := q2.below.size
  have hz3 := (heap_alloc_old w3 (.cells #[.int .i64 1, .string tx] 199) (by omega)).trans ((q2.above w.heap.size hlt (by omega)).trans HZ2.out)
  have hM3 := (HM2.out.trans q2).alloc (by omega) (.cells #[.int .i64 1, .string tx] 199)
  have hE4 := ey_alloc hE3 (.cells #[.int .i64 1, .string tx] 199)
  have t0 : (w3.alloc (.cells #[.int .i64 1, .string tx] 199)).cell? ⟨w3.heap.size, 0, none⟩ = some (.int .i64 1) := World.cell?_alloc_at _ _ _ _ rfl
  have t1 : (w3.alloc (.cells #[.int .i64 1, .string tx] 199)).cell? ⟨w3.heap.size, 1, none⟩ = some (.string tx) := World.cell?_alloc_at _ _ _ _ rfl
  clear q2 hE3 HX HA HM HZ1 HM1 HZ2 HM2 HSg HSg2 HOne
  have HE4 := veil hE4
  have HM3 := veil hM3
  have HZ3 := veil hz3
  clear hE4 hM3 hz3
  go_wp2_with fail
  refine (nameMay_any tx hsz _).mono ?_
  rintro r w4 ⟨rfl, rfl⟩
  rw [hid]
  have hEo := ey_alloc HE4.out (.cells #[.int .i64 4, .int .i64 0, .string ⟨#[]⟩, .string tx, .slice none 0 0] 87)
  have HMo := veil (HM3.out.alloc (by simp; omega) (.cells #[.int .i64 4, .int .i64 0, .string ⟨#[]⟩, .string tx, .slice none 0 0] 87))
  have HZo := veil ((heap_alloc_old (w3.alloc (.cells #[.int .i64 1, .string tx] 199)) (.cells #[.int .i64 4, .int .i64 0, .string ⟨#[]⟩, .string tx, .slice none 0 0] 87) (by simp; omega)).trans HZ3.out)
  have HOo : Hid (((w3.alloc (.cells #[.int .i64 1, .string tx] 199)).alloc (.cells #[.int .i64 4, .int .i64 0, .string ⟨#[]⟩, .string tx, .slice none 0 0] 87)).heap[w3.heap.size + 1]? = some (.cells #[.int .i64 4, .int .i64 0, .string ⟨#[]⟩, .string tx, .slice none 0 0] 87 (0, 0))) := by
    have := heap_alloc_new (w3.alloc (.cells #[.int .i64 1, .string tx] 199)) (.cells #[.int .i64 4, .int .i64 0, .string ⟨#[]⟩, .string tx, .slice none 0 0] 87)
    rwa [show (w3.alloc (.cells #[.int .i64 1, .string tx] 199)).heap.size = w3.heap.size + 1 by simp] at this
  have HTo : Hid (((w3.alloc (.cells #[.int .i64 1, .string tx] 199)).alloc (.cells #[.int .i64 4, .int .i64 0, .string ⟨#[]⟩, .string tx, .slice none 0 0] 87)).heap[w3.heap.size]? = some (.cells #[.int .i64 1, .string tx] 199 (0, 0))) := (heap_alloc_old _ _ (by simp)).trans (heap_alloc_new w3 _)
  have HSo : Hid (((w3.alloc (.cells #[.int .i64 1, .string tx] 199)).alloc (.cells #[.int .i64 4, .int .i64 0, .string ⟨#[]⟩, .string tx, .slice none 0 0] 87)).heap.size = w3.heap.size + 2) := by show _ = _; simp
  go_wp2_with fail
  refine (sees_eye B l i1 e _ ⟨#[46]⟩ _ hEo).mono ?_
  rintro r w5 ⟨rfl, q1, q2⟩
  rw [HSd.out] at q1
  rw [HSd.out]
  have hE5 : EyeAt B l i1 e d w5 := q1
  have hs5 : w3.heap.size + 2 ≤ w5.heap.size := by have := q2.below.size; rw [HSo.out] at this; exact this
  have HZ5 := veil ((q2.above w.heap.size hlt (by rw [HSo.out]; omega)).trans HZo.out)
  have HT5 := veil ((q2.above w3.heap.size (by omega) (by rw [HSo.out]; omega)).trans HTo.out)
  have HM5 := veil (HMo.out.trans q2)
  clear q1 q2 hEo
  go_wp2_with fail
  refine (sees_eye B l i1 e _ ⟨#[40]⟩ _ hE5).mono ?_
  rintro r w6 ⟨rfl, q1, q2⟩
  rw [HSp.out] at q1
  rw [HSp.out]
  have hE6 : EyeAt B l i1 e d w6 := q1
  have hs6 := q2.below.size
  have hz6 := (q2.above w.heap.size hlt (by omega)).trans HZ5.out
  have ht6 := (q2.above w3.heap.size (by omega) (by omega)).trans HT5.out
  have u1 : w6.cell? ⟨w3.heap.size, 1, none⟩ = some (.string tx) := by rw [cell_of_row _ _ 1 _ _ _ ht6]; rfl
  have HFin := veil (expr_fin (T := T) (ob := w.heap.size) (k := 3) (n := 0) (f := ⟨#[]⟩) (s := tx) (a := none) (m := 0) (c := 0) hE6 (HM5.out.trans q2) hlt hz6 (.inl ⟨HE.out, _, ex_leaf 3 0 empty_le hsz, HT.out⟩))
  obtain ⟨⟨r0, r1, r2, r3, r4⟩, ⟨g0, g1, g2, g3, g4⟩⟩ := five_cells hz6
  clear q1 q2 hz6 ht6 hE5 hE6 t0 t1
  go_wp2_with fail
  obtain ⟨F, hF, ⟨y0, y1, y2, y3, y4⟩, hR⟩ := HFin.out
  rw [hF]
  exact bodyPost_ret (v := .agg #[.int .i64 3, .int .i64 0, .string ⟨#[]⟩, .string tx, .slice none 0 0]) (by simp [results, Tryz.results317, go_sem, y0, y1, y2, y3, y4]) rfl hR

end Go.Proofs.YtagbaimfigljiaaGreatDoor
namespace Go.Proofs.YtagbaimfigljiaaGreatDoor
open Go.RowKit
set_option maxRecDepth 100000

set_option maxHeartbeats 8000000 in
theorem head_call (B : Nat) (l : Toks) (d : Nat) (T : Res Ex) (i i1 : Nat) (e : Int) (tx : ByteArray) (hsz : tx.size ≤ maxLen) (w : World) (h : EyeAt B l i e d w) (hs : seesB l i e [40] = false) (hs2 : seesB l i e [91] = false)
    (hone : ∀ W, EyeAt B l i e d W → Calls Tryz.prog 140 #[.pointer (some ⟨B, 0, none⟩)] W fun r w' => r = .returned (.agg #[.int .i64 1, .string tx]) ∧ EyeAt B l i1 e d w' ∧ Moved B W w')
    (sub : Nat → Res Ex) (hA : AllEye B l d sub) (he : e = 0) (hid : identOk tx = true) (hd : sgn l i1 [46] = false) (hp : sgn l i1 [40] = true) (hT : T = argsRes sub l emptyText tx (i1 + 1)) :
    Calls Tryz.prog 317 #[.pointer (some ⟨B, 0, none⟩)] w (ExprR B l d T w) := by
  have hlt := ey_lt h
  have HA := veil (ey_alloc h (.cells #[.int .i64 0, .int .i64 0, .string ⟨#[]⟩, .string ⟨#[]⟩, .slice none 0 0] 87))
  have HM : Hid (Moved B w (w.alloc (.cells #[.int .i64 0, .int .i64 0, .string ⟨#[]⟩, .string ⟨#[]⟩, .slice none 0 0] 87))) := Moved.of_below ((Below.refl _ _).alloc (Nat.le_refl _) _) (by omega)
  have HSg : Hid (seesB l i e (ByteArray.mk #[40]).data.toList = false) := hs
  have HSg2 : Hid (seesB l i e (ByteArray.mk #[91]).data.toList = false) := hs2
  have HOne := veil hone
  have HAl := veil hA
  have HSd : Hid (seesB l i1 e (ByteArray.mk #[46]).data.toList = false) := sees_is he hd
  have HSp : Hid (seesB l i1 e (ByteArray.mk #[40]).data.toList = true) := sees_is he hp
  have HTa : Hid ((e = 0 → T = argsRes sub l emptyText tx (i1 + 1)) ∧ (e ≠ 0 → T = .bad e)) := ⟨fun _ => hT, fun h => absurd he h⟩
  clear h hs hs2 hone hT hd hp he hA
  go_enter Tryz.func317, Tryz.ntmps317
  go_wp2_with fail
  refine (sees_eye B l i e _ ⟨#[40]⟩ _ HA.out).mono ?_
  rintro r w1 ⟨rfl, q1, q2⟩
  rw [HSg.out] at q1
  rw [HSg.out]
  have hE1 : EyeAt B l i e d w1 := q1
  have hs1 : w.heap.size + 1 ≤ w1.heap.size := by have := q2.below.size; simpa using this
  have HZ1 := veil ((q2.above w.heap.size hlt (by simp)).trans (heap_alloc_new w (.cells #[.int .i64 0, .int .i64 0, .string ⟨#[]⟩, .string ⟨#[]⟩, .slice none 0 0] 87)))
  have HM1 := veil (HM.out.trans q2)
  clear q1 q2
  go_wp2_with fail
  refine (sees_eye B l i e _ ⟨#[91]⟩ _ hE1).mono ?_
  rintro r w2 ⟨rfl, q1, q2⟩
  rw [HSg2.out] at q1
  rw [HSg2.out]
  have hE2 : EyeAt B l i e d w2 := q1
  have HX := veil (HOne.out w2 hE2)
  have hs2 := q2.below.size
  have HZ2 := veil ((q2.above w.heap.size hlt (by omega)).trans HZ1.out)
  have HM2 := veil (HM1.out.trans q2)
  clear q1 q2 hE1 hE2
  go_wp2_with fail
  refine HX.out.mono ?_
  rintro r w3 ⟨rfl, hE3, q2⟩
  have hs3 := q2.below.size
  have hz3 := (heap_alloc_old w3 (.cells #[.int .i64 1, .string tx] 199) (by omega)).trans ((q2.above w.heap.size hlt (by omega)).trans HZ2.out)
  have hM3 := (HM2.out.trans q2).alloc (by omega) (.cells #[.int .i64 1, .string tx] 199)
  have hE4 := ey_alloc hE3 (.cells #[.int .i64 1, .string tx] 199)
  have t0 : (w3.alloc (.cells #[.int .i64 1, .string tx] 199)).cell? ⟨w3.heap.size, 0, none⟩ = some (.int .i64 1) := World.cell?_alloc_at _ _ _ _ rfl
  have t1 : (w3.alloc (.cells #[.int .i64 1, .string tx] 199)).cell? ⟨w3.heap.size, 1, none⟩ = some (.string tx) := World.cell?_alloc_at _ _ _ _ rfl
  clear q2 hE3 HX HA HM HZ1 HM1 HZ2 HM2 HSg HSg2 HOne
  have HE4 := veil hE4
  have HM3 := veil hM3
  have HZ3 := veil hz3
  clear hE4 hM3 hz3
  go_wp2_with fail
  refine (nameMay_any tx hsz _).mono ?_
  rintro r w4 ⟨rfl, rfl⟩
  rw [hid]
  have hEo := ey_alloc HE4.out (.cells #[.int .i64 4, .int .i64 0, .string ⟨#[]⟩, .string tx, .slice none 0 0] 87)
  have HMo := veil (HM3.out.alloc (by simp; omega) (.cells #[.int .i64 4, .int .i64 0, .string ⟨#[]⟩, .string tx, .slice none 0 0] 87))
  have HZo := veil ((heap_alloc_old (w3.alloc (.cells #[.int .i64 1, .string tx] 199)) (.cells #[.int .i64 4, .int .i64 0, .string ⟨#[]⟩, .string tx, .slice none 0 0] 87) (by simp; omega)).trans HZ3.out)
  have HOo : Hid (((w3.alloc (.cells #[.int .i64 1, .string tx] 199)).alloc (.cells #[.int .i64 4, .int .i64 0, .string ⟨#[]⟩, .string tx, .slice none 0 0] 87)).heap[w3.heap.size + 1]? = some (.cells #[.int .i64 4, .int .i64 0, .string ⟨#[]⟩, .string tx, .slice none 0 0] 87 (0, 0))) := by
    have := heap_alloc_new (w3.alloc (.cells #[.int .i64 1, .string tx] 199)) (.cells #[.int .i64 4, .int .i64 0, .string ⟨#[]⟩, .string tx, .slice none 0 0] 87)
    rwa [show (w3.alloc (.cells #[.int .i64 1, .string tx] 199)).heap.size = w3.heap.size + 1 by simp] at this
  have HTo : Hid (((w3.alloc (.cells #[.int .i64 1, .string tx] 199)).alloc (.cells #[.int .i64 4, .int .i64 0, .string ⟨#[]⟩, .string tx, .slice none 0 0] 87)).heap[w3.heap.size]? = some (.cells #[.int .i64 1, .string tx] 199 (0, 0))) := (heap_alloc_old _ _ (by simp)).trans (heap_alloc_new w3 _)
  have HSo : Hid (((w3.alloc (.cells #[.int .i64 1, .string tx] 199)).alloc (.cells #[.int .i64 4, .int .i64 0, .string ⟨#[]⟩, .string tx, .slice none 0 0] 87)).heap.size = w3.heap.size + 2) := by show _ = _; simp
  go_wp2_with fail
  refine (sees_eye B l i1 e _ ⟨#[46]⟩ _ hEo).mono ?_
  rintro r w5 ⟨rfl, q1, q2⟩
  rw [HSd.out] at q1
  rw [HSd.out]
  have hE5 : EyeAt B l i1 e d w5 := q1
  have hs5 : w3.heap.size + 2 ≤ w5.heap.size := by have := q2.below.size; rw [HSo.out] at this; exact this
  have HZ5 := veil ((q2.above w.heap.size hlt (by rw [HSo.out]; omega)).trans HZo.out)
  have HO5 := veil ((q2.above (w3.heap.size + 1) (by omega) (by rw [HSo.out]; omega)).trans HOo.out)
  have HM5 := veil (HMo.out.trans q2)
  clear q1 q2 hEo t0 t1
  go_wp2_with fail
  refine (sees_eye B l i1 e _ ⟨#[40]⟩ _ hE5).mono ?_
  rintro r w6 ⟨rfl, q1, q2⟩
  rw [HSp.out] at q1
  rw [HSp.out]
  have hEA : EyeAt B l (i1 + 1) e d w6 := q1
  have hs6 := q2.below.size
  have HZA := veil ((q2.above w.heap.size hlt (by omega)).trans HZ5.out)
  have HOA := veil ((q2.above (w3.heap.size + 1) (by omega) (by omega)).trans HO5.out)
  have HMA := veil (HM5.out.trans q2)
  clear q1 q2 hE5 HZ5 HO5 HM5 HZo HOo HMo HTo HSo HZ3 HM3 HE4
  go_wp2_with fail
  refine (sees_eye B l (i1 + 1) e _ ⟨#[41]⟩ _ hEA).mono ?_
  rintro r w7 ⟨rfl, q1, q2⟩
  have hs7 := q2.below.size
  have hz7 := (q2.above w.heap.size hlt (by omega)).trans HZA.out
  have ho7 := (q2.above (w3.heap.size + 1) (by omega) (by omega)).trans HOA.out
  have HM7 := veil (HMA.out.trans q2)
  have n1 : w3.heap.size + 1 ≠ w.heap.size := by omega
  have n2 : w.heap.size ≠ w3.heap.size + 1 := by omega
  cases hsg : seesB l (i1 + 1) e (ByteArray.mk #[41]).data.toList with
  | true =>
    rw [hsg] at q1
    have hb : e = 0 ∧ sgn l (i1 + 1) [41] = true := by simpa [seesB] using hsg
    have HFin := veil (expr_fin (T := T) (ob := w.heap.size) (k := 4) (n := 0) (f := ⟨#[]⟩) (s := tx) (a := none) (m := 0) (c := 0) q1 HM7.out hlt hz7 (.inl ⟨hb.1, _, ex_leaf 4 0 empty_le hsz, by rw [HTa.out.1 hb.1, argsRes, if_pos hb.2]; rfl⟩))
    obtain ⟨⟨o0, o1, o2, o3, o4⟩, _⟩ := five_cells ho7
    obtain ⟨⟨r0, r1, r2, r3, r4⟩, ⟨g0, g1, g2, g3, g4⟩⟩ := five_cells hz7
    clear q1 q2 hz7 ho7 hEA hb hsg
    go_wp2_with fail
    obtain ⟨F, hF, ⟨y0, y1, y2, y3, y4⟩, hR⟩ := HFin.out
    rw [hF]
    exact bodyPost_ret (v := .agg #[.int .i64 4, .int .i64 0, .string ⟨#[]⟩, .string tx, .slice none 0 0]) (by simp [results, Tryz.results317, go_sem, y0, y1, y2, y3, y4]) rfl hR
  | false =>
    rw [hsg] at q1
    have hE7 : EyeAt B l (i1 + 1) e d w7 := q1
    have hn41 : e = 0 → sgn l (i1 + 1) [41] = false := fun h0 => by
      have : (decide (e = 0) && sgn l (i1 + 1) [41]) = false := hsg
      rw [h0] at this
      simpa using this
    have HN41 := veil hn41
    have HX := veil (HAl.out ⟨#[41]⟩ (i1 + 1) e w7 hE7)
    have HZ7 := veil hz7
    have HO7 := veil ho7
    clear q1 q2 hz7 ho7 hEA hE7 hsg hn41
    go_wp2_with fail
    refine HX.out.mono ?_
    rintro r w8 ⟨q2, a, m, c, rfl, q1⟩
    have hs8 := q2.below.size
    have hz8 := (q2.above w.heap.size hlt (by omega)).trans HZ7.out
    have ho8 := (q2.above (w3.heap.size + 1) (by omega) (by omega)).trans HO7.out
    have hst : ∃ e8 j8, EyeAt B l j8 e8 d w8 ∧ ((e8 = 0 ∧ ∃ xs, after e (pList sub l [41] (l.length + 1) [] (i1 + 1)) = .ok xs j8 ∧ SlAt (Fresh w7.heap.size w8) (ExAt (Fresh w7.heap.size w8) w8) 5 xs (.slice a m c)) ∨ (e8 ≠ 0 ∧ after e (pList sub l [41] (l.length + 1) [] (i1 + 1)) = .bad e8)) := by
      rcases q1 with ⟨xs, j, h1, h2, h3⟩ | ⟨e, j, h1, h2, h3⟩
      · exact ⟨0, j, h2, .inl ⟨rfl, xs, h1, h3⟩⟩
      · exact ⟨e, j, h3, .inr ⟨h2, h1⟩⟩
    obtain ⟨e8, j8, hE8, hr8⟩ := hst
    have hTe : (e8 = 0 ∧ ∃ x, ExCs (OwnB (w.heap.size + 1) (w3.heap.size + 1) (w8.setCell ⟨w3.heap.size + 1, 4, none⟩ (.slice a m c))) (w8.setCell ⟨w3.heap.size + 1, 4, none⟩ (.slice a m c)) x 4 0 (⟨#[]⟩) (tx) (.slice a m c) ∧ T = .ok x j8) ∨ (e8 ≠ 0 ∧ T = .bad e8) := by
      by_cases h0 : e = 0
      · have hT0 := HTa.out.1 h0
        rw [argsRes, if_neg (by rw [HN41.out h0]; simp)] at hT0
        have e0 : after e (pList sub l [41] (l.length + 1) [] (i1 + 1)) = pList sub l [41] (l.length + 1) [] (i1 + 1) := by rw [h0, after_ok]
        rw [e0] at hr8
        rcases hr8 with ⟨rfl, xs, hp, hpx⟩ | ⟨hne, hp⟩
        · rw [hp] at hT0
          have hcs : ExCs (Fresh w7.heap.size w8) w8 (exCall (⟨#[]⟩) (tx) xs) 4 0 (⟨#[]⟩) (tx) (.slice a m c) := ⟨xs, rfl, empty_le, hsz, hpx⟩
          exact .inl ⟨rfl, _, hcs.keep ⟨fun b hb => Below.heap_setCell _ _ _ _ (by show b ≠ w3.heap.size + 1; have := hb.1; omega), fun b hb => ⟨by have := hb.1; omega, by rw [heap_size_setCell]; exact hb.2, by have := hb.1; omega⟩⟩, hT0⟩
        · rw [hp] at hT0
          exact .inr ⟨hne, hT0⟩
      · have hT0 := HTa.out.2 h0
        rw [after_bad h0] at hr8
        rcases hr8 with ⟨_, xs, hp, _⟩ | ⟨hne, hp⟩
        · cases hp
        · injection hp with hp
          exact .inr ⟨hne, by rw [hT0, hp]⟩
    have HFin := veil (expr_fin (T := T) (ob := w3.heap.size + 1) (k := 4) (n := 0) (f := ⟨#[]⟩) (s := tx) (a := a) (m := m) (c := c) (ey_far hE8 (c := w3.heap.size + 1) (by omega) 4 (.slice a m c)) (mv_far (HM7.out.trans q2) (c := w3.heap.size + 1) (by omega) (by omega) 4 (.slice a m c)) hlt ((Below.heap_setCell _ _ _ _ (by show w.heap.size ≠ w3.heap.size + 1; omega)).trans hz8) hTe)
    obtain ⟨⟨o0, o1, o2, o3, o4⟩, ⟨v0, v1, v2, v3, v4⟩⟩ := five_cells ho8
    obtain ⟨⟨r0, r1, r2, r3, r4⟩, ⟨g0, g1, g2, g3, g4⟩⟩ := five_cells hz8
    clear q1 q2 hz8 ho8 hE8 hr8 hTe
    go_wp2_with fail
    obtain ⟨F, hF, ⟨y0, y1, y2, y3, y4⟩, hR⟩ := HFin.out
    rw [hF]
    exact bodyPost_ret (v := .agg #[.int .i64 4, .int .i64 0, .string ⟨#[]⟩, .string tx, .slice a m c]) (by simp [results, Tryz.results317, go_sem, y0, y1, y2, y3, y4]) rfl hR

end Go.Proofs.YtagbaimfigljiaaGreatDoor
namespace Go.Proofs.YtagbaimfigljiaaGreatDoor
open Go.RowKit
set_option maxRecDepth 100000

set_option maxHeartbeats 8000000 in
theorem head_of (B : Nat) (l : Toks) (d : Nat) (T : Res Ex) (i i1 : Nat) (e : Int) (tx : ByteArray) (hsz : tx.size ≤ maxLen) (w : World) (h : EyeAt B l i e d w) (hs : seesB l i e [40] = false) (hs2 : seesB l i e [91] = false)
    (hone : ∀ W, EyeAt B l i e d W → Calls Tryz.prog 140 #[.pointer (some ⟨B, 0, none⟩)] W fun r w' => r = .returned (.agg #[.int .i64 1, .string tx]) ∧ EyeAt B l i1 e d w' ∧ Moved B W w')
    (sub : Nat → Res Ex) (hA : AllEye B l d sub) (he : e = 0) (hid : identOk tx = true) (hd : sgn l i1 [46] = true) (hTn : identAt l (i1 + 1) = none → T = .bad 4) (hTs : ∀ m, identAt l (i1 + 1) = some m → T = if sgn l (i1 + 2) [40] = true then argsRes sub l tx m (i1 + 3) else .bad 4) :
    Calls Tryz.prog 317 #[.pointer (some ⟨B, 0, none⟩)] w (ExprR B l d T w) := by
  have hlt := ey_lt h
  have HA := veil (ey_alloc h (.cells #[.int .i64 0, .int .i64 0, .string ⟨#[]⟩, .string ⟨#[]⟩, .slice none 0 0] 87))
  have HM : Hid (Moved B w (w.alloc (.cells #[.int .i64 0, .int .i64 0, .string ⟨#[]⟩, .string ⟨#[]⟩, .slice none 0 0] 87))) := Moved.of_below ((Below.refl _ _).alloc (Nat.le_refl _) _) (by omega)
  have HSg : Hid (seesB l i e (ByteArray.mk #[40]).data.toList = false) := hs
  have HSg2 : Hid (seesB l i e (ByteArray.mk #[91]).data.toList = false) := hs2
  have HOne := veil hone
  have HAl := veil hA
  have HSd : Hid (seesB l i1 e (ByteArray.mk #[46]).data.toList = true) := sees_is he hd
  have HTn := veil hTn
  have HTs := veil hTs
  have HE := veil he
  clear h hs hs2 hone hTn hTs hd he hA
  go_enter Tryz.func317, Tryz.ntmps317
  go_wp2_with fail
  refine (sees_eye B l i e _ ⟨#[40]⟩ _ HA.out).mono ?_
  rintro r w1 ⟨rfl, q1, q2⟩
  rw [HSg.out] at q1
  rw [HSg.out]
  have hE1 : EyeAt B l i e d w1 := q1
  have hs1 : w.heap.size + 1 ≤ w1.heap.size := by have := q2.below.size; simpa using this
  have HZ1 := veil ((q2.above w.heap.size hlt (by simp)).trans (heap_alloc_new w (.cells #[.int .i64 0, .int .i64 0, .string ⟨#[]⟩, .string ⟨#[]⟩, .slice none 0 0] 87)))
  have HM1 := veil (HM.out.trans q2)
  clear q1 q2
  go_wp2_with fail
  refine (sees_eye B l i e _ ⟨#[91]⟩ _ hE1).mono ?_
  rintro r w2 ⟨rfl, q1, q2⟩
  rw [HSg2.out] at q1
  rw [HSg2.out]
  have hE2 : EyeAt B l i e d w2 := q1
  have HX := veil (HOne.out w2 hE2)
  have hs2 := q2.below.size
  have HZ2 := veil ((q2.above w.heap.size hlt (by omega)).trans HZ1.out)
  have HM2 := veil (HM1.out.trans q2)
  clear q1 q2 hE1 hE2
  go_wp2_with fail
  refine HX.out.mono ?_
  rintro r w3 ⟨rfl, hE3, q2⟩
  have hs3 := q2.below.size
  have hz3 := (heap_alloc_old w3 (.cells #[.int .i64 1, .string tx] 199) (by omega)).trans ((q2.above w.heap.size hlt (by omega)).trans HZ2.out)
  have hM3 := (HM2.out.trans q2).alloc (by omega) (.cells #[.int .i64 1, .string tx] 199)
  have hE4 := ey_alloc hE3 (.cells #[.int .i64 1, .string tx] 199)
  have t0 : (w3.alloc (.cells #[.int .i64 1, .string tx] 199)).cell? ⟨w3.heap.size, 0, none⟩ = some (.int .i64 1) := World.cell?_alloc_at _ _ _ _ rfl
  have t1 : (w3.alloc (.cells #[.int .i64 1, .string tx] 199)).cell? ⟨w3.heap.size, 1, none⟩ = some (.string tx) := World.cell?_alloc_at _ _ _ _ rfl
  clear q2 hE3 HX HA HM HZ1 HM1 HZ2 HM2 HSg HSg2 HOne
  have HE4 := veil hE4
  have HM3 := veil hM3
  have HZ3 := veil hz3
  clear hE4 hM3 hz3
  go_wp2_with fail
  refine (nameMay_any tx hsz _).mono ?_
  rintro r w4 ⟨rfl, rfl⟩
  rw [hid]
  have hEo := ey_alloc HE4.out (.cells #[.int .i64 4, .int .i64 0, .string ⟨#[]⟩, .string tx, .slice none 0 0] 87)
  have HMo := veil (HM3.out.alloc (by simp; omega) (.cells #[.int .i64 4, .int .i64 0, .string ⟨#[]⟩, .string tx, .slice none 0 0] 87))
  have HZo := veil ((heap_alloc_old (w3.alloc (.cells #[.int .i64 1, .string tx] 199)) (.cells #[.int .i64 4, .int .i64 0, .string ⟨#[]⟩, .string tx, .slice none 0 0] 87) (by simp; omega)).trans HZ3.out)
  have HOo : Hid (((w3.alloc (.cells #[.int .i64 1, .string tx] 199)).alloc (.cells #[.int .i64 4, .int .i64 0, .string ⟨#[]⟩, .string tx, .slice none 0 0] 87)).heap[w3.heap.size + 1]? = some (.cells #[.int .i64 4, .int .i64 0, .string ⟨#[]⟩, .string tx, .slice none 0 0] 87 (0, 0))) := by
    have := heap_alloc_new (w3.alloc (.cells #[.int .i64 1, .string tx] 199)) (.cells #[.int .i64 4, .int .i64 0, .string ⟨#[]⟩, .string tx, .slice none 0 0] 87)
    rwa [show (w3.alloc (.cells #[.int .i64 1, .string tx] 199)).heap.size = w3.heap.size + 1 by simp] at this
  have HTo : Hid (((w3.alloc (.cells #[.int .i64 1, .string tx] 199)).alloc (.cells #[.int .i64 4, .int .i64 0, .string ⟨#[]⟩, .string tx, .slice none 0 0] 87)).heap[w3.heap.size]? = some (.cells #[.int .i64 1, .string tx] 199 (0, 0))) := (heap_alloc_old _ _ (by simp)).trans (heap_alloc_new w3 _)
  have HSo : Hid (((w3.alloc (.cells #[.int .i64 1, .string tx] 199)).alloc (.cells #[.int .i64 4, .int .i64 0, .string ⟨#[]⟩, .string tx, .slice none 0 0] 87)).heap.size = w3.heap.size + 2) := by show _ = _; simp
  go_wp2_with fail
  refine (sees_eye B l i1 e _ ⟨#[46]⟩ _ hEo).mono ?_
  rintro r w5 ⟨rfl, q1, q2⟩
  rw [HSd.out] at q1
  rw [HSd.out]
  have hE5 : EyeAt B l (i1 + 1) e d w5 := q1
  have hs5 : w3.heap.size + 2 ≤ w5.heap.size := by have := q2.below.size; rw [HSo.out] at this; exact this
  have hz5 := (q2.above w.heap.size hlt (by rw [HSo.out]; omega)).trans HZo.out
  have ho5 := (q2.above (w3.heap.size + 1) (by omega) (by rw [HSo.out]; omega)).trans HOo.out
  have ht5 := (q2.above w3.heap.size (by omega) (by rw [HSo.out]; omega)).trans HTo.out
  have u1 : w5.cell? ⟨w3.heap.size, 1, none⟩ = some (.string tx) := by rw [cell_of_row _ _ 1 _ _ _ ht5]; rfl
  obtain ⟨⟨o0, o1, o2, o3, o4⟩, ⟨v0, v1, v2, v3, v4⟩⟩ := five_cells ho5
  have HE6 := veil (ey_far hE5 (c := w3.heap.size + 1) (by omega) 2 (.string tx))
  have HM6 := veil (mv_far (HMo.out.trans q2) (c := w3.heap.size + 1) (by omega) (by omega) 2 (.string tx))
  have HZ6 := veil ((Below.heap_setCell w5 ⟨w3.heap.size + 1, 2, none⟩ (.string tx) w.heap.size (by show w.heap.size ≠ w3.heap.size + 1; omega)).trans hz5)
  have HO6 := veil (block_set ho5 2 (.string tx))
  have HS6 : Hid ((w5.setCell ⟨w3.heap.size + 1, 2, none⟩ (.string tx)).heap.size = w5.heap.size) := heap_size_setCell _ _ _
  clear q1 q2 hEo t0 t1 hz5 ho5 ht5 hE5
  go_wp2_with fail
  generalize w5.setCell ⟨w3.heap.size + 1, 2, none⟩ (.string tx) = w6 at *
  clear o0 o1 o2 o3 o4 v0 v1 v2 v3 v4 u1
  refine (ident_eye B l (i1 + 1) e d w6 HE6.out).mono ?_
  rintro r w9 ⟨q2, nm, i', rfl, hnm, q1⟩
  have hs9 := q2.below.size
  have hs6 := HS6.out
  have hz9 := (q2.above w.heap.size hlt (by omega)).trans HZ6.out
  have ho9 := (q2.above (w3.heap.size + 1) (by omega) (by omega)).trans HO6.out
  obtain ⟨⟨o0, o1, o2, o3, o4⟩, ⟨v0, v1, v2, v3, v4⟩⟩ := five_cells ho9
  obtain ⟨e2, j2, hE9, hr9⟩ : ∃ e2 j2, EyeAt B l j2 e2 d w9 ∧ ((e2 = 0 ∧ j2 = i1 + 2 ∧ identAt l (i1 + 1) = some nm) ∨ (e2 = 4 ∧ identAt l (i1 + 1) = none)) := by
    rcases q1 with ⟨_, h2, h3⟩ | ⟨h2, h3⟩
    · exact ⟨0, i1 + 2, h3, .inl ⟨rfl, rfl, h2⟩⟩
    · refine ⟨_, i', h3, .inr ⟨?_, ?_⟩⟩
      · rw [HE.out]; rfl
      · rcases h2 with h2 | h2
        · exact absurd HE.out h2
        · exact h2
  have HE10 := veil (ey_far hE9 (c := w3.heap.size + 1) (by omega) 3 (.string nm))
  have HM10 := veil (mv_far (HM6.out.trans q2) (c := w3.heap.size + 1) (by omega) (by omega) 3 (.string nm))
  have HZ10 := veil ((Below.heap_setCell w9 ⟨w3.heap.size + 1, 3, none⟩ (.string nm) w.heap.size (by show w.heap.size ≠ w3.heap.size + 1; omega)).trans hz9)
  have HO10 := veil (block_set ho9 3 (.string nm))
  have HS10 : Hid ((w9.setCell ⟨w3.heap.size + 1, 3, none⟩ (.string nm)).heap.size = w9.heap.size) := heap_size_setCell _ _ _
  have HR9 := veil hr9
  clear q1 q2 hz9 ho9 hE9 hr9
  go_wp2_with fail
  generalize w9.setCell ⟨w3.heap.size + 1, 3, none⟩ (.string nm) = w10 at *
  clear o0 o1 o2 o3 o4 v0 v1 v2 v3 v4
  refine (wants_eye B l j2 e2 _ ⟨#[40]⟩ _ HE10.out).mono ?_
  rintro r w11 ⟨rfl, q1, q2⟩
  have hs11 := q2.below.size
  have hs10 := HS10.out
  have HZA := veil ((q2.above w.heap.size hlt (by omega)).trans HZ10.out)
  have HOA : Hid (w11.heap[w3.heap.size + 1]? = some (.cells #[.int .i64 4, .int .i64 0, .string tx, .string nm, .slice none 0 0] 87 (0, 0))) := (q2.above (w3.heap.size + 1) (by omega) (by omega)).trans HO10.out
  have HMA := veil (HM10.out.trans q2)
  have HTa : Hid ((wantE (seesB l j2 e2 (ByteArray.mk #[40]).data.toList) e2 = 0 → T = argsRes sub l tx nm (adv (seesB l j2 e2 (ByteArray.mk #[40]).data.toList) j2)) ∧ (wantE (seesB l j2 e2 (ByteArray.mk #[40]).data.toList) e2 ≠ 0 → T = .bad (wantE (seesB l j2 e2 (ByteArray.mk #[40]).data.toList) e2))) := by
    rcases HR9.out with ⟨rfl, rfl, hi⟩ | ⟨rfl, hi⟩
    · have hT := HTs.out nm hi
      cases hp : sgn l (i1 + 2) [40] with
      | true =>
        rw [show seesB l (i1 + 2) 0 (ByteArray.mk #[40]).data.toList = true from sees_is rfl hp]
        rw [if_pos hp] at hT
        exact ⟨fun _ => hT, fun h => absurd rfl h⟩
      | false =>
        rw [show seesB l (i1 + 2) 0 (ByteArray.mk #[40]).data.toList = false from sees_is rfl hp]
        rw [if_neg (by rw [hp]; simp)] at hT
        exact ⟨fun h => absurd h (by decide), fun _ => hT⟩
    · rw [sees_wrong (show (4 : Int) ≠ 0 by decide), want_wrong (show (4 : Int) ≠ 0 by decide)]
      exact ⟨fun h => absurd h (by decide), fun _ => HTn.out hi⟩
  have hEA := q1
  generalize adv (seesB l j2 e2 (ByteArray.mk #[40]).data.toList) j2 = jA at *
  generalize wantE (seesB l j2 e2 (ByteArray.mk #[40]).data.toList) e2 = eA at *
  clear q1 q2 HZo HOo HMo HTo HSo HZ3 HM3 HE4 HE6 HM6 HZ6 HO6 HS6 HE10 HM10 HZ10 HO10 HS10 HR9 HTn HTs
  go_wp2_with fail
  refine (sees_eye B l (jA) eA _ ⟨#[41]⟩ _ hEA).mono ?_
  rintro r w7 ⟨rfl, q1, q2⟩
  have hs7 := q2.below.size
  have hz7 := (q2.above w.heap.size hlt (by omega)).trans HZA.out
  have ho7 := (q2.above (w3.heap.size + 1) (by omega) (by omega)).trans HOA.out
  have HM7 := veil (HMA.out.trans q2)
  have n1 : w3.heap.size + 1 ≠ w.heap.size := by omega
  have n2 : w.heap.size ≠ w3.heap.size + 1 := by omega
  cases hsg : seesB l (jA) eA (ByteArray.mk #[41]).data.toList with
  | true =>
    rw [hsg] at q1
    have hb : eA = 0 ∧ sgn l (jA) [41] = true := by simpa [seesB] using hsg
    have HFin := veil (expr_fin (T := T) (ob := w.heap.size) (k := 4) (n := 0) (f := tx) (s := nm) (a := none) (m := 0) (c := 0) q1 HM7.out hlt hz7 (.inl ⟨hb.1, _, ex_leaf 4 0 hsz hnm, by rw [HTa.out.1 hb.1, argsRes, if_pos hb.2]; rfl⟩))
    obtain ⟨⟨o0, o1, o2, o3, o4⟩, _⟩ := five_cells ho7
    obtain ⟨⟨r0, r1, r2, r3, r4⟩, ⟨g0, g1, g2, g3, g4⟩⟩ := five_cells hz7
    clear q1 q2 hz7 ho7 hEA hb hsg
    go_wp2_with fail
    obtain ⟨F, hF, ⟨y0, y1, y2, y3, y4⟩, hR⟩ := HFin.out
    rw [hF]
    exact bodyPost_ret (v := .agg #[.int .i64 4, .int .i64 0, .string tx, .string nm, .slice none 0 0]) (by simp [results, Tryz.results317, go_sem, y0, y1, y2, y3, y4]) rfl hR
  | false =>
    rw [hsg] at q1
    have hE7 : EyeAt B l (jA) eA d w7 := q1
    have hn41 : eA = 0 → sgn l (jA) [41] = false := fun h0 => by
      have : (decide (eA = 0) && sgn l (jA) [41]) = false := hsg
      rw [h0] at this
      simpa using this
    have HN41 := veil hn41
    have HX := veil (HAl.out ⟨#[41]⟩ (jA) eA w7 hE7)
    have HZ7 := veil hz7
    have HO7 := veil ho7
    clear q1 q2 hz7 ho7 hEA hE7 hsg hn41
    go_wp2_with fail
    refine HX.out.mono ?_
    rintro r w8 ⟨q2, a, m, c, rfl, q1⟩
    have hs8 := q2.below.size
    have hz8 := (q2.above w.heap.size hlt (by omega)).trans HZ7.out
    have ho8 := (q2.above (w3.heap.size + 1) (by omega) (by omega)).trans HO7.out
    have hst : ∃ e8 j8, EyeAt B l j8 e8 d w8 ∧ ((e8 = 0 ∧ ∃ xs, after eA (pList sub l [41] (l.length + 1) [] (jA)) = .ok xs j8 ∧ SlAt (Fresh w7.heap.size w8) (ExAt (Fresh w7.heap.size w8) w8) 5 xs (.slice a m c)) ∨ (e8 ≠ 0 ∧ after eA (pList sub l [41] (l.length + 1) [] (jA)) = .bad e8)) := by
      rcases q1 with ⟨xs, j, h1, h2, h3⟩ | ⟨e, j, h1, h2, h3⟩
      · exact ⟨0, j, h2, .inl ⟨rfl, xs, h1, h3⟩⟩
      · exact ⟨e, j, h3, .inr ⟨h2, h1⟩⟩
    obtain ⟨e8, j8, hE8, hr8⟩ := hst
    have hTe : (e8 = 0 ∧ ∃ x, ExCs (OwnB (w.heap.size + 1) (w3.heap.size + 1) (w8.setCell ⟨w3.heap.size + 1, 4, none⟩ (.slice a m c))) (w8.setCell ⟨w3.heap.size + 1, 4, none⟩ (.slice a m c)) x 4 0 (tx) (nm) (.slice a m c) ∧ T = .ok x j8) ∨ (e8 ≠ 0 ∧ T = .bad e8) := by
      by_cases h0 : eA = 0
      · have hT0 := HTa.out.1 h0
        rw [argsRes, if_neg (by rw [HN41.out h0]; simp)] at hT0
        have e0 : after eA (pList sub l [41] (l.length + 1) [] (jA)) = pList sub l [41] (l.length + 1) [] (jA) := by rw [h0, after_ok]
        rw [e0] at hr8
        rcases hr8 with ⟨rfl, xs, hp, hpx⟩ | ⟨hne, hp⟩
        · rw [hp] at hT0
          have hcs : ExCs (Fresh w7.heap.size w8) w8 (exCall (tx) (nm) xs) 4 0 (tx) (nm) (.slice a m c) := ⟨xs, rfl, hsz, hnm, hpx⟩
          exact .inl ⟨rfl, _, hcs.keep ⟨fun b hb => Below.heap_setCell _ _ _ _ (by show b ≠ w3.heap.size + 1; have := hb.1; omega), fun b hb => ⟨by have := hb.1; omega, by rw [heap_size_setCell]; exact hb.2, by have := hb.1; omega⟩⟩, hT0⟩
        · rw [hp] at hT0
          exact .inr ⟨hne, hT0⟩
      · have hT0 := HTa.out.2 h0
        rw [after_bad h0] at hr8
        rcases hr8 with ⟨_, xs, hp, _⟩ | ⟨hne, hp⟩
        · cases hp
        · injection hp with hp
          exact .inr ⟨hne, by rw [hT0, hp]⟩
    have HFin := veil (expr_fin (T := T) (ob := w3.heap.size + 1) (k := 4) (n := 0) (f := tx) (s := nm) (a := a) (m := m) (c := c) (ey_far hE8 (c := w3.heap.size + 1) (by omega) 4 (.slice a m c)) (mv_far (HM7.out.trans q2) (c := w3.heap.size + 1) (by omega) (by omega) 4 (.slice a m c)) hlt ((Below.heap_setCell _ _ _ _ (by show w.heap.size ≠ w3.heap.size + 1; omega)).trans hz8) hTe)
    obtain ⟨⟨o0, o1, o2, o3, o4⟩, ⟨v0, v1, v2, v3, v4⟩⟩ := five_cells ho8
    obtain ⟨⟨r0, r1, r2, r3, r4⟩, ⟨g0, g1, g2, g3, g4⟩⟩ := five_cells hz8
    clear q1 q2 hz8 ho8 hE8 hr8 hTe
    go_wp2_with fail
    obtain ⟨F, hF, ⟨y0, y1, y2, y3, y4⟩, hR⟩ := HFin.out
    rw [hF]
    exact bodyPost_ret (v := .agg #[.int .i64 4, .int .i64 0, .string tx, .string nm, .slice a m c]) (by simp [results, Tryz.results317, go_sem, y0, y1, y2, y3, y4]) rfl hR

end Go.Proofs.YtagbaimfigljiaaGreatDoor
namespace Go.Proofs.YtagbaimfigljiaaGreatDoor
open Go.RowKit
set_option maxRecDepth 100000

set_option maxHeartbeats 8000000 in
theorem kind_no (B : Nat) (l : Toks) (i i1 d f : Nat) (hd : d < 40) (kd : Int) (tx : ByteArray) (w : World) (h : EyeAt B l i 0 d w) (hs : sgn l i [91] = false)
    (hone : ∀ W, EyeAt B l i 0 ((d + 1 : Nat) : Int) W → Calls Tryz.prog 140 #[.pointer (some ⟨B, 0, none⟩)] W fun r w' => r = .returned (.agg #[.int .i64 kd, .string tx]) ∧ EyeAt B l i1 0 ((d + 1 : Nat) : Int) w' ∧ Moved B W w') (hk : (kd == 1) = false) (hp : pTy l (f + 1) i = .bad 4) :
    Calls Tryz.prog 143 #[.pointer (some ⟨B, 0, none⟩)] w (KindR B l i d (f + 1) w) := by
  have hlt := ey_lt h
  have HH := veil (ey_alloc h (.cells #[.int .i64 0, .string ⟨#[]⟩, .string ⟨#[]⟩, .slice none 0 0] 84))
  have HM : Hid (Moved B w (w.alloc (.cells #[.int .i64 0, .string ⟨#[]⟩, .string ⟨#[]⟩, .slice none 0 0] 84))) := Moved.of_below ((Below.refl _ _).alloc (Nat.le_refl _) _) (by omega)
  have HOne := veil hone
  have HPt := veil hp
  have HSg : Hid (seesB l i 0 [91] = false) := by show _ = _; unfold seesB; simp [hs]
  clear h hone hp hs
  go_enter Tryz.func143, Tryz.ntmps143
  go_wp2_with fail
  refine (down_eye B l i 0 d (by omega) _ HH.out).mono ?_
  rintro r w1 ⟨rfl, q1, q2⟩
  rw [if_neg (by omega)] at q1
  have hs1 : w.heap.size + 1 ≤ w1.heap.size := by have := q2.below.size; simpa using this
  have hz1 : w1.heap[w.heap.size]? = some (.cells #[.int .i64 0, .string ⟨#[]⟩, .string ⟨#[]⟩, .slice none 0 0] 84 (0, 0)) := (q2.above w.heap.size hlt (by simp)).trans (heap_alloc_new w _)
  have hw2 : ∃ w2, ((((w1.alloc (.cells #[.int .i64 0, .string ⟨#[]⟩, .string ⟨#[]⟩, .slice none 0 0] 84)))) = w2) ∧ EyeAt B l i 0 ((d + 1 : Nat) : Int) w2 ∧ Moved B w w2 ∧ w2.heap[w.heap.size]? = some (.cells #[.int .i64 0, .string ⟨#[]⟩, .string ⟨#[]⟩, .slice none 0 0] 84 (0, 0)) ∧ w2.heap[w1.heap.size]? = some (.cells #[.int .i64 0, .string ⟨#[]⟩, .string ⟨#[]⟩, .slice none 0 0] 84 (0, 0)) :=
    ⟨_, rfl, ey_alloc q1 _, (HM.out.trans q2).alloc (by omega) _, (heap_alloc_old _ _ (by omega)).trans hz1, heap_alloc_new w1 _⟩
  obtain ⟨w2, hwe, hE2, hM2, hz2, ho2⟩ := hw2
  have c2 : w2.cell? ⟨B, 2, none⟩ = some (.int .i64 0) := by
    obtain ⟨_, _, _, _, c2, _⟩ := ey_cells hE2
    exact c2
  have HE2 := veil hE2
  have HM2 := veil hM2
  have HZ2 := veil hz2
  have HO2 := veil ho2
  clear q1 q2 hz1 hE2 hM2
  have b5 : B ≠ w1.heap.size := by omega
  have HW3 : Hid (∃ w3, ((((w2.setCell ⟨w1.heap.size, 0, none⟩ (.int .i64 0)).setCell ⟨w1.heap.size, 1, none⟩ (.string ⟨#[]⟩)).setCell ⟨w1.heap.size, 2, none⟩ (.string ⟨#[]⟩)).setCell ⟨w1.heap.size, 3, none⟩ (.slice none 0 0)) = w3 ∧ EyeAt B l i 0 ((d + 1 : Nat) : Int) w3 ∧ Moved B w w3 ∧ w3.heap[w.heap.size]? = some (.cells #[.int .i64 0, .string ⟨#[]⟩, .string ⟨#[]⟩, .slice none 0 0] 84 (0, 0)) ∧ w3.heap[w1.heap.size]? = some (.cells #[.int .i64 0, .string ⟨#[]⟩, .string ⟨#[]⟩, .slice none 0 0] 84 (0, 0))) := by
    refine ⟨_, rfl, ey_far (ey_far (ey_far (ey_far HE2.out (c := w1.heap.size) (by omega) 0 _) (c := w1.heap.size) (by omega) 1 _) (c := w1.heap.size) (by omega) 2 _) (c := w1.heap.size) (by omega) 3 _, mv_far (mv_far (mv_far (mv_far HM2.out (c := w1.heap.size) (by omega) (by omega) 0 _) (c := w1.heap.size) (by omega) (by omega) 1 _) (c := w1.heap.size) (by omega) (by omega) 2 _) (c := w1.heap.size) (by omega) (by omega) 3 _, ?_, four_set HO2.out _ _ _ _⟩
    rw [Below.heap_setCell _ _ _ _ (by show w.heap.size ≠ w1.heap.size; omega), Below.heap_setCell _ _ _ _ (by show w.heap.size ≠ w1.heap.size; omega), Below.heap_setCell _ _ _ _ (by show w.heap.size ≠ w1.heap.size; omega), Below.heap_setCell _ _ _ _ (by show w.heap.size ≠ w1.heap.size; omega)]
    exact HZ2.out
  obtain ⟨⟨r0, r1, r2, r3⟩, ⟨o0, o1, o2, o3⟩, _, ⟨x0, x1, x2, x3⟩⟩ := kind_cells hz2 ho2
  clear hz2 ho2 r0 r1 r2 r3
  go_wp2_with fail
  try rw [hwe]
  obtain ⟨w3, hw3, hE3, hM3, hz3, ho3⟩ := HW3.out
  rw [hw3]
  have HM3 := veil hM3
  have HZ3 := veil hz3
  have HO3 := veil ho3
  have hs3 : w1.heap.size < w3.heap.size := by rcases Nat.lt_or_ge w1.heap.size w3.heap.size with h' | h'; exact h'; rw [Array.getElem?_eq_none h'] at ho3; cases ho3
  clear o0 o1 o2 o3 x0 x1 x2 x3 c2 hwe HW3 HE2 HM2 HZ2 HO2 hM3 hz3 ho3
  refine (sees_eye B l i 0 _ ⟨#[91]⟩ w3 hE3).mono ?_
  rintro r w4 ⟨rfl, q1, q2⟩
  have hsg : seesB l i 0 (ByteArray.mk #[91]).data.toList = false := HSg.out
  rw [hsg] at q1
  try rw [hsg]
  have HQ1 : Hid (EyeAt B l i 0 ((d + 1 : Nat) : Int) w4) := q1
  have HQ2 := veil q2
  clear q1 q2 hE3 hw3
  go_wp2_with fail
  refine (HOne.out w4 HQ1.out).mono ?_
  rintro r w5 ⟨rfl, q1, q2⟩
  have hs5 : w3.heap.size ≤ w5.heap.size := Nat.le_trans HQ2.out.below.size q2.below.size
  have HM6 : Hid (Moved B w3 (w5.alloc (.cells #[.int .i64 kd, .string tx] 199))) := (HQ2.out.trans q2).alloc (by omega) _
  have HE6 := veil (ey_alloc q1 (.cells #[.int .i64 kd, .string tx] 199))
  clear q1 q2 HQ1 HQ2 HOne
  go_wp2_with fail
  refine (bad_eye B l _ 0 _ 4 _ HE6.out).mono ?_
  rintro r w7 ⟨rfl, q1, q2⟩
  have q1' : EyeAt B l i1 4 ((d + 1 : Nat) : Int) w7 := q1
  have hM7 := HM6.out.trans q2
  have hz7 := (hM7.above w.heap.size hlt (by omega)).trans HZ3.out
  have ho7 := (hM7.above w1.heap.size (by omega) (by omega)).trans HO3.out
  obtain ⟨⟨r0, r1, r2, r3⟩, ⟨o0, o1, o2, o3⟩, ⟨g0, g1, g2, g3⟩, _⟩ := kind_cells hz7 ho7
  have hc3 : w7.cell? ⟨B, 3, none⟩ = some (.int .i64 ((d : Int) + 1)) ∧ w7.frozen? ⟨B, 3, none⟩ = false := by
    obtain ⟨_, _, _, _, _, c3, _, _, f3, _⟩ := ey_cells q1'
    exact ⟨c3, f3⟩
  obtain ⟨c3, f3⟩ := hc3
  have HFin := veil (kind_fin q1' (HM3.out.trans hM7) hlt hz7 (.int .i64 0) (.string ⟨#[]⟩) (.string ⟨#[]⟩) (.slice none 0 0))
  have b1 : w1.heap.size ≠ B := by omega
  have b2 : w.heap.size ≠ B := by omega
  have b3 : B ≠ w.heap.size := by omega
  have b4 : w1.heap.size ≠ w.heap.size := by omega
  have hd' : (d : Int) < 40 := by omega
  have hd0 : (0 : Int) ≤ (d : Int) := by omega
  clear q1 q1' q2 hM7 hz7 ho7 HE6 HM6 HM3 HZ3 HO3
  go_wp2_with fail
  obtain ⟨F, hF, hEF, hMF, y0, y1, y2, y3⟩ := HFin.out
  rw [hF]
  exact bodyPost_ret (v := .agg #[.int .i64 0, .string ⟨#[]⟩, .string ⟨#[]⟩, .slice none 0 0]) (by simp [results, Tryz.results143, go_sem, y0, y1, y2, y3]) rfl ⟨hMF, 0, _, _, none, 0, 0, rfl, Or.inr ⟨4, _, HPt.out, by decide, hEF⟩⟩

end Go.Proofs.YtagbaimfigljiaaGreatDoor
