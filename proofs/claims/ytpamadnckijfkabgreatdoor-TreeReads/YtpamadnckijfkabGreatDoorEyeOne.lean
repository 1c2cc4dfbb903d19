/- What the reference's one and ident answer. -/
import Derived.Test.YtpamadnckijfkabGreatDoorEye
import Derived.Test.YtpamadnckijfkabGreatDoorIdent
namespace Go.Proofs.YtpamadnckijfkabGreatDoor
open Go.RowKit
set_option maxRecDepth 100000

theorem ey_alloc {B : Nat} {l : Toks} {i : Nat} {e d : Int} {w : World} (h : EyeAt B l i e d w) (o : Obj) : EyeAt B l i e d (w.alloc o) := ey_below h ((Below.refl _ _).alloc (Nat.le_refl _) o)

/-- two cells of a block that is there take what is stored. -/
theorem pair_set {w : World} {b : Nat} {x y : Value} {T : TypeId} (h : w.heap[b]? = some (.cells #[x, y] T (0, 0))) (u v : Value) :
    ((w.setCell ⟨b, 0, none⟩ u).setCell ⟨b, 1, none⟩ v).cell? ⟨b, 0, none⟩ = some u ∧ ((w.setCell ⟨b, 0, none⟩ u).setCell ⟨b, 1, none⟩ v).cell? ⟨b, 1, none⟩ = some v := by
  have h3 := block_set (block_set h 0 u) 1 v
  refine ⟨?_, ?_⟩ <;> (rw [cell_of_row _ b _ _ _ _ h3]; rfl)

/-- a store above the eye. -/
theorem ey_far {B : Nat} {l : Toks} {i : Nat} {e d : Int} {w : World} (h : EyeAt B l i e d w) {c : Nat} (hc : B < c) (o : Nat) (u : Value) : EyeAt B l i e d (w.setCell ⟨c, o, none⟩ u) := by
  obtain ⟨tv, h1, h2, h3⟩ := h
  exact ⟨tv, (Below.heap_setCell _ _ _ _ (by show B ≠ c; omega)).trans h1, h2.keep ((Below.refl B _).setCell (p := ⟨c, o, none⟩) (by show B ≤ c; omega) _), h3⟩
theorem mv_far {B : Nat} {w w' : World} (h : Moved B w w') {c : Nat} (hc : w.heap.size ≤ c) (hB : B < c) (o : Nat) (u : Value) : Moved B w (w'.setCell ⟨c, o, none⟩ u) :=
  ⟨h.below.trans ((Below.refl B _).setCell (p := ⟨c, o, none⟩) (by show B ≤ c; omega) _), fun k hk hlt => (Below.heap_setCell _ _ _ _ (by show k ≠ c; omega)).trans (h.above k hk hlt)⟩

set_option maxHeartbeats 4000000 in
theorem one_none (B : Nat) (l : Toks) (i : Nat) (e d : Int) (w : World) (h : EyeAt B l i e d w) (hn : e ≠ 0 ∨ ¬ i < l.length) :
    Calls Tryz.prog 45 #[.pointer (some ⟨B, 0, none⟩)] w fun r w' => r = .returned (.agg #[.int .i64 0, .string ⟨#[]⟩]) ∧ EyeAt B l i e d w' ∧ Moved B w w' := by
  have hlt := ey_lt h
  have HH := veil (ey_alloc h (.cells #[.int .i64 0, .string ⟨#[]⟩] 90))
  have HM : Hid (Moved B w (w.alloc (.cells #[.int .i64 0, .string ⟨#[]⟩] 90))) := Moved.of_below ((Below.refl _ _).alloc (Nat.le_refl _) _) (by omega)
  obtain ⟨ta, tcap, c0, c1, c2, c3, f1, f2, f3, hi, h200, htok⟩ := ey_cells h
  have hBn : B ≠ w.heap.size := by omega
  have HP := veil (fun n => pair_set (w := (w.alloc (.cells #[.int .i64 0, .string ⟨#[]⟩] 90)).drewN n) (b := w.heap.size) (heap_alloc_new w _) (.int .i64 0) (.string ⟨#[]⟩))
  have HF := veil (fun n => ey_far (ey_far (ey_drewN HH.out n) (c := w.heap.size) hlt 0 (.int .i64 0)) (c := w.heap.size) hlt 1 (.string ⟨#[]⟩))
  have HG := veil (fun n => mv_far (mv_far (HM.out.drewN n) (c := w.heap.size) (Nat.le_refl _) hlt 0 (.int .i64 0)) (c := w.heap.size) (Nat.le_refl _) hlt 1 (.string ⟨#[]⟩))
  clear h c3 f1 f2 f3 htok
  by_cases he : e = 0
  · subst he
    have hlt' : ((l.length : Nat) : Int) ≤ (i : Int) := by rcases hn with h | h <;> omega
    clear hn
    go_enter Tryz.func45, Tryz.ntmps45
    go_wp2_with fail
    go_quiet (fail)
    all_goals
      go_wp2_with fail
      obtain ⟨q0, q1⟩ := HP.out nq
      exact bodyPost_ret (v := .agg #[.int .i64 0, .string ⟨#[]⟩]) (by simp [results, Tryz.results45, go_sem, q0, q1]) rfl ⟨rfl, HF.out nq, HG.out nq⟩
  · have he' : (e != 0) = true := bne_iff_ne.2 he
    clear hn he
    go_enter Tryz.func45, Tryz.ntmps45
    go_wp2_with fail
    go_quiet (fail)
    all_goals
      go_wp2_with fail
      obtain ⟨q0, q1⟩ := HP.out nq
      exact bodyPost_ret (v := .agg #[.int .i64 0, .string ⟨#[]⟩]) (by simp [results, Tryz.results45, go_sem, q0, q1]) rfl ⟨rfl, HF.out nq, HG.out nq⟩

set_option maxHeartbeats 4000000 in
theorem one_some (B : Nat) (l : Toks) (i : Nat) (d : Int) (w : World) (h : EyeAt B l i 0 d w) (hlt2 : i < l.length) :
    Calls Tryz.prog 45 #[.pointer (some ⟨B, 0, none⟩)] w fun r w' => r = .returned (.agg #[.int .i64 l[i].1, .string l[i].2]) ∧ EyeAt B l (i + 1) 0 d w' ∧ Moved B w w' := by
  have hlt := ey_lt h
  have HH := veil (ey_alloc h (.cells #[.int .i64 0, .string ⟨#[]⟩] 90))
  have HM : Hid (Moved B w (w.alloc (.cells #[.int .i64 0, .string ⟨#[]⟩] 90))) := Moved.of_below ((Below.refl _ _).alloc (Nat.le_refl _) _) (by omega)
  obtain ⟨ta, tcap, c0, c1, c2, c3, f1, f2, f3, hi, h200, htok⟩ := ey_cells h
  obtain ⟨b, off, rfl, hbB, t0, t1, hsz⟩ := htok hlt2
  have hBn : B ≠ w.heap.size := by omega
  have hbn : b ≠ w.heap.size := by omega
  have hbB2 : b ≠ B := by omega
  have hlt' : ¬ ((l.length : Nat) : Int) ≤ (i : Int) := by omega
  have hlt3 : (i : Int) < (l.length : Int) := by omega
  have hi0 : (0 : Int) ≤ (i : Int) := by omega
  have HX : Hid (∀ n, ∃ W1, (((w.alloc (.cells #[.int .i64 0, .string ⟨#[]⟩] 90)).drewN n).setCell ⟨B, 1, none⟩ (.int .i64 ((i : Int) + 1))) = W1 ∧ EyeAt B l (i + 1) 0 d W1 ∧ Moved B w W1 ∧ W1.heap[w.heap.size]? = some (.cells #[.int .i64 0, .string ⟨#[]⟩] 90 (0, 0)) ∧ W1.cell? ⟨B, 0, none⟩ = some (.slice (some ⟨b, off, none⟩) l.length tcap)) := by
    intro n
    refine ⟨_, rfl, ey_set1 (ey_drewN HH.out n) hlt2, (HM.out.drewN n).set 1 _, (Below.heap_setCell _ _ _ _ (by show w.heap.size ≠ B; omega)).trans (heap_alloc_new w _), ?_⟩
    rw [World.cell?_setCell_other _ _ _ _ (by intro h; injection h with _ h _; cases h)]
    show (w.alloc _).cell? _ = _
    rw [World.cell?_alloc_old _ _ _ (by show B ≠ _; omega)]
    exact c0
  have HT0 := veil t0
  have HT1 := veil t1
  clear h c3 f2 f3 htok
  generalize l[i].1 = kd at *
  generalize l[i].2 = tx at *
  go_enter Tryz.func45, Tryz.ntmps45
  go_wp2_with fail
  go_quiet (fail)
  go_wp2_with fail
  obtain ⟨W1, hW1, hE, hMv, hown, k0⟩ := HX.out nq
  rw [hW1]
  have k1 : W1.cell? ⟨B, 1, none⟩ = some (.int .i64 ((i : Int) + 1)) := by
    obtain ⟨_, _, _, k1, _⟩ := ey_cells hE
    exact k1
  have u0 : W1.cell? ⟨b, off + i * 2, none⟩ = some (.int .i64 kd) := (hMv.below.cell (p := ⟨b, off + i * 2, none⟩) hbB).trans HT0.out
  have u1 : W1.cell? ⟨b, off + i * 2 + 1, none⟩ = some (.string tx) := (hMv.below.cell (p := ⟨b, off + i * 2 + 1, none⟩) hbB).trans HT1.out
  have g0 : W1.cell? ⟨w.heap.size, 0, none⟩ = some (.int .i64 0) := by rw [cell_of_row W1 _ 0 _ _ _ hown]; rfl
  have g1 : W1.cell? ⟨w.heap.size, 1, none⟩ = some (.string ⟨#[]⟩) := by rw [cell_of_row W1 _ 1 _ _ _ hown]; rfl
  have y0 := Lib.frozen_of_heap hown 0
  have y1 := Lib.frozen_of_heap hown 1
  have hwr : IntKind.i64.wrap (i : Int) = (i : Int) := by
    unfold IntKind.wrap
    simp [IntKind.signed, IntKind.bits]
    omega
  have HP := veil (pair_set (w := W1) (b := w.heap.size) hown (.int .i64 kd) (.string tx))
  have HP0 : Hid ((W1.setCell ⟨w.heap.size, 0, none⟩ (.int .i64 kd)).cell? ⟨w.heap.size, 0, none⟩ = some (.int .i64 kd)) := by show _ = _; rw [cell_of_row _ _ 0 _ _ _ (block_set hown 0 _)]; rfl
  have HF := veil (ey_far (ey_far (ey_below hE (Below.refl _ _).drew) (c := w.heap.size) hlt 0 (.int .i64 kd)) (c := w.heap.size) hlt 1 (.string tx))
  have HG := veil (mv_far (mv_far hMv.drew (c := w.heap.size) (Nat.le_refl _) hlt 0 (.int .i64 kd)) (c := w.heap.size) (Nat.le_refl _) hlt 1 (.string tx))
  clear hE hMv hown hW1 HX HH HM t0 t1 c0 c1 c2
  go_region
  all_goals
    go_wp2_with fail
    obtain ⟨_, q1⟩ := HP.out
    have q0 := HP0.out
    exact bodyPost_ret (v := .agg #[.int .i64 kd, .string tx]) (by simp [results, Tryz.results45, go_sem, q0, q1]) rfl ⟨rfl, HF.out, HG.out⟩

end Go.Proofs.YtpamadnckijfkabGreatDoor
