/- What the reference's head answers at a name: a param. -/
import Derived.Test.YtpamadnckijfkabGreatDoorEyeHead3
namespace Go.Proofs.YtpamadnckijfkabGreatDoor
open Go.RowKit
set_option maxRecDepth 100000

/-- what is told of the arguments of a call, and of it. -/
def argsRes (sub : Nat → Res Ex) (l : Toks) (o n : ByteArray) (j : Nat) : Res Ex := if sgn l j [41] = true then .ok (exCall o n []) (j + 1) else match pList sub l [41] (l.length + 1) [] j with
  | .bad e => .bad e
  | .ok xs j' => .ok (exCall o n xs) j'

set_option maxHeartbeats 8000000 in
theorem head_param (B : Nat) (l : Toks) (d : Nat) (T : Res Ex) (i i1 : Nat) (e : Int) (tx : ByteArray) (hsz : tx.size ≤ maxLen) (w : World) (h : EyeAt B l i e d w) (hs : seesB l i e [40] = false) (hs2 : seesB l i e [91] = false)
    (hone : ∀ W, EyeAt B l i e d W → Calls Tryz.prog 45 #[.pointer (some ⟨B, 0, none⟩)] W fun r w' => r = .returned (.agg #[.int .i64 1, .string tx]) ∧ EyeAt B l i1 e d w' ∧ Moved B W w')
    (he : e = 0) (hid : identOk tx = true) (hd : sgn l i1 [46] = false) (hp : sgn l i1 [40] = false) (hT : T = .ok (exParam tx) i1) :
    Calls Tryz.prog 137 #[.pointer (some ⟨B, 0, none⟩)] w (ExprR B l d T w) := by
  have hlt := ey_lt h
  have HA := veil (ey_alloc h (.cells #[.int .i64 0, .int .i64 0, .string ⟨#[]⟩, .string ⟨#[]⟩, .slice none 0 0] 52))
  have HM : Hid (Moved B w (w.alloc (.cells #[.int .i64 0, .int .i64 0, .string ⟨#[]⟩, .string ⟨#[]⟩, .slice none 0 0] 52))) := Moved.of_below ((Below.refl _ _).alloc (Nat.le_refl _) _) (by omega)
  have HSg : Hid (seesB l i e (ByteArray.mk #[40]).data.toList = false) := hs
  have HSg2 : Hid (seesB l i e (ByteArray.mk #[91]).data.toList = false) := hs2
  have HOne := veil hone
  have HT := veil hT
  have HSd : Hid (seesB l i1 e (ByteArray.mk #[46]).data.toList = false) := sees_is he hd
  have HSp : Hid (seesB l i1 e (ByteArray.mk #[40]).data.toList = false) := sees_is he hp
  have HE := veil he
  clear h hs hs2 hone hT hd hp he
  go_enter Tryz.func137, Tryz.ntmps137
  go_wp2_with fail
  refine (sees_eye B l i e _ ⟨#[40]⟩ _ HA.out).mono ?_
  rintro r w1 ⟨rfl, q1, q2⟩
  rw [HSg.out] at q1
  rw [HSg.out]
  have hE1 : EyeAt B l i e d w1 := q1
  have hs1 : w.heap.size + 1 ≤ w1.heap.size := by have := q2.below.size; simpa using this
  have HZ1 := veil ((q2.above w.heap.size hlt (by simp)).trans (heap_alloc_new w (.cells #[.int .i64 0, .int .i64 0, .string ⟨#[]⟩, .string ⟨#[]⟩, .slice none 0 0] 52)))
  have HM1 := veil (HM.out.trans q2)
  clear q1 q2
  go_wp2_with fail
  refine (sees_eye B l i e _ ⟨#[91]⟩ _ hE1).mono ?_
  rintro r w2 ⟨rfl, q1, q2⟩
  rw [HSg2.out] at q1
  rw [HSg2.out]
  have hE2 : EyeAt B l i e d w2 := q1
  have HX := veil (HOne.out w2 hE2)
  have hs2 := q2.below.size
  have HZ2 := veil ((q2.above w.heap.size hlt (by omega)).trans HZ1.out)
  have HM2 := veil (HM1.out.trans q2)
  clear q1 q2 hE1 hE2
  go_wp2_with fail
  refine HX.out.mono ?_
  rintro r w3 ⟨rfl, hE3, q2⟩
  have hs3 := q2.below.size
  have hz3 := (heap_alloc_old w3 (.cells #[.int .i64 1, .string tx] 90) (by omega)).trans ((q2.above w.heap.size hlt (by omega)).trans HZ2.out)
  have hM3 := (HM2.out.trans q2).alloc (by omega) (.cells #[.int .i64 1, .string tx] 90)
  have hE4 := ey_alloc hE3 (.cells #[.int .i64 1, .string tx] 90)
  have t0 : (w3.alloc (.cells #[.int .i64 1, .string tx] 90)).cell? ⟨w3.heap.size, 0, none⟩ = some (.int .i64 1) := World.cell?_alloc_at _ _ _ _ rfl
  have t1 : (w3.alloc (.cells #[.int .i64 1, .string tx] 90)).cell? ⟨w3.heap.size, 1, none⟩ = some (.string tx) := World.cell?_alloc_at _ _ _ _ rfl
  clear q2 hE3 HX HA HM HZ1 HM1 HZ2 HM2 HSg HSg2 HOne
  have HE4 := veil hE4
  have HM3 := veil hM3
  have HZ3 := veil hz3
  clear hE4 hM3 hz3
  go_wp2_with fail
  refine (nameMay_any tx hsz _).mono ?_
  rintro r w4 ⟨rfl, rfl⟩
  rw [hid]
  have hEo := ey_alloc HE4.out (.cells #[.int .i64 4, .int .i64 0, .string ⟨#[]⟩, .string tx, .slice none 0 0] 52)
  have HMo := veil (HM3.out.alloc (by simp; omega) (.cells #[.int .i64 4, .int .i64 0, .string ⟨#[]⟩, .string tx, .slice none 0 0] 52))
  have HZo := veil ((heap_alloc_old (w3.alloc (.cells #[.int .i64 1, .string tx] 90)) (.cells #[.int .i64 4, .int .i64 0, .string ⟨#[]⟩, .string tx, .slice none 0 0] 52) (by simp; omega)).trans HZ3.out)
  have HOo : Hid (((w3.alloc (.cells #[.int .i64 1, .string tx] 90)).alloc (.cells #[.int .i64 4, .int .i64 0, .string ⟨#[]⟩, .string tx, .slice none 0 0] 52)).heap[w3.heap.size + 1]? = some (.cells #[.int .i64 4, .int .i64 0, .string ⟨#[]⟩, .string tx, .slice none 0 0] 52 (0, 0))) := by
    have := heap_alloc_new (w3.alloc (.cells #[.int .i64 1, .string tx] 90)) (.cells #[.int .i64 4, .int .i64 0, .string ⟨#[]⟩, .string tx, .slice none 0 0] 52)
    rwa [show (w3.alloc (.cells #[.int .i64 1, .string tx] 90)).heap.size = w3.heap.size + 1 by simp] at this
  have HTo : Hid (((w3.alloc (.cells #[.int .i64 1, .string tx] 90)).alloc (.cells #[.int .i64 4, .int .i64 0, .string ⟨#[]⟩, .string tx, .slice none 0 0] 52)).heap[w3.heap.size]? = some (.cells #[.int .i64 1, .string tx] 90 (0, 0))) := (heap_alloc_old _ _ (by simp)).trans (heap_alloc_new w3 _)
  have HSo : Hid (((w3.alloc (.cells #[.int .i64 1, .string tx] 90)).alloc (.cells #[.int .i64 4, .int .i64 0, .string ⟨#[]⟩, .string tx, .slice none 0 0] 52)).heap.size = w3.heap.size + 2) := by show _ = _; simp
  go_wp2_with fail
  refine (sees_eye B l i1 e _ ⟨#[46]⟩ _ hEo).mono ?_
  rintro r w5 ⟨rfl, q1, q2⟩
  rw [HSd.out] at q1
  rw [HSd.out]
  have hE5 : EyeAt B l i1 e d w5 := q1
  have hs5 : w3.heap.size + 2 ≤ w5.heap.size := by have := q2.below.size; rw [HSo.out] at this; exact this
  have HZ5 := veil ((q2.above w.heap.size hlt (by rw [HSo.out]; omega)).trans HZo.out)
  have HT5 := veil ((q2.above w3.heap.size (by omega) (by rw [HSo.out]; omega)).trans HTo.out)
  have HM5 := veil (HMo.out.trans q2)
  clear q1 q2 hEo
  go_wp2_with fail
  refine (sees_eye B l i1 e _ ⟨#[40]⟩ _ hE5).mono ?_
  rintro r w6 ⟨rfl, q1, q2⟩
  rw [HSp.out] at q1
  rw [HSp.out]
  have hE6 : EyeAt B l i1 e d w6 := q1
  have hs6 := q2.below.size
  have hz6 := (q2.above w.heap.size hlt (by omega)).trans HZ5.out
  have ht6 := (q2.above w3.heap.size (by omega) (by omega)).trans HT5.out
  have u1 : w6.cell? ⟨w3.heap.size, 1, none⟩ = some (.string tx) := by rw [cell_of_row _ _ 1 _ _ _ ht6]; rfl
  have HFin := veil (expr_fin (T := T) (ob := w.heap.size) (k := 3) (n := 0) (f := ⟨#[]⟩) (s := tx) (a := none) (m := 0) (c := 0) hE6 (HM5.out.trans q2) hlt hz6 (.inl ⟨HE.out, _, ex_leaf 3 0 empty_le hsz, HT.out⟩))
  obtain ⟨⟨r0, r1, r2, r3, r4⟩, ⟨g0, g1, g2, g3, g4⟩⟩ := five_cells hz6
  clear q1 q2 hz6 ht6 hE5 hE6 t0 t1
  go_wp2_with fail
  obtain ⟨F, hF, ⟨y0, y1, y2, y3, y4⟩, hR⟩ := HFin.out
  rw [hF]
  exact bodyPost_ret (v := .agg #[.int .i64 3, .int .i64 0, .string ⟨#[]⟩, .string tx, .slice none 0 0]) (by simp [results, Tryz.results137, go_sem, y0, y1, y2, y3, y4]) rfl hR

end Go.Proofs.YtpamadnckijfkabGreatDoor
