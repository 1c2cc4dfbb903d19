import Derived.Test.YtagbaimfigljiaaGreatDoorJModuleUses18
import Derived.Test.YtagbaimfigljiaaGreatDoorJModuleUses1
import Derived.Test.YtagbaimfigljiaaGreatDoorJModuleUses12
namespace Go.Proofs.YtagbaimfigljiaaGreatDoor
open Go.RowKit
set_option maxRecDepth 100000

set_option maxHeartbeats 20000000 in
theorem sees_text (B : Nat) (l : Toks) (i : Nat) (d : Int) (s : ByteArray) (w : World) (h : EyeAt B l i 0 d w) (hlt : i < l.length) (hk : l[i].1 = 4) (hs : (l[i].2.toList == s.toList) = false) :
    Calls Tryz.prog 213 #[.pointer (some ⟨B, 0, none⟩), .string s] w fun r w' => r = .returned (.bool false) ∧ EyeAt B l i 0 d w' ∧ Moved B w w' := by
  have HH := veil h
  have HM := veil (Moved.refl B w)
  obtain ⟨ta, tcap, c0, c1, c2, c3, f1, f2, f3, hi, h200, htok⟩ := ey_cells h
  clear h c3 f2 f3
  obtain ⟨b, off, rfl, hbB, t0, t1, hsz⟩ := htok hlt
  have hlt' : ¬ ((l.length : Nat) : Int) ≤ (i : Int) := by omega
  have hlt3 : (i : Int) < (l.length : Int) := by omega
  have HN2 := veil (fun n => ey_set1 (ey_drewN HH.out n) hlt)
  clear htok
  rw [hk] at t0
  have hs' : (l[i].2.toList != s.toList) = true := by simp [bne, hs]
  clear hk HN2
  generalize l[i].2 = tx at *
  go_enter Tryz.func213, Tryz.ntmps213
  go_wp2_with fail
  go_quiet (fail)
  all_goals
    go_wp2_with fail
    go_ret
    exact ⟨rfl, ey_drewN HH.out nq, HM.out.drewN nq⟩

end Go.Proofs.YtagbaimfigljiaaGreatDoor
namespace Go.Proofs.YtagbaimfigljiaaGreatDoor
open Go.RowKit
set_option maxRecDepth 100000

set_option maxHeartbeats 20000000 in
theorem sees_sign (B : Nat) (l : Toks) (i : Nat) (d : Int) (s : ByteArray) (w : World) (h : EyeAt B l i 0 d w) (hlt : i < l.length) (hk : l[i].1 = 4) (hs : (l[i].2.toList == s.toList) = true) :
    Calls Tryz.prog 213 #[.pointer (some ⟨B, 0, none⟩), .string s] w fun r w' => r = .returned (.bool true) ∧ EyeAt B l (i + 1) 0 d w' ∧ Moved B w w' := by
  have HH := veil h
  have HM := veil (Moved.refl B w)
  obtain ⟨ta, tcap, c0, c1, c2, c3, f1, f2, f3, hi, h200, htok⟩ := ey_cells h
  clear h c3 f2 f3
  obtain ⟨b, off, rfl, hbB, t0, t1, hsz⟩ := htok hlt
  have hlt' : ¬ ((l.length : Nat) : Int) ≤ (i : Int) := by omega
  have hlt3 : (i : Int) < (l.length : Int) := by omega
  have HN2 := veil (fun n => ey_set1 (ey_drewN HH.out n) hlt)
  clear htok
  rw [hk] at t0
  have hs' : (l[i].2.toList != s.toList) = false := by simp [bne, hs]
  clear hk
  generalize l[i].2 = tx at *
  go_enter Tryz.func213, Tryz.ntmps213
  go_wp2_with fail
  go_quiet (fail)
  all_goals
    go_wp2_with fail
    go_ret
    exact ⟨rfl, HN2.out nq, (HM.out.drewN nq).set 1 _⟩

end Go.Proofs.YtagbaimfigljiaaGreatDoor
namespace Go.Proofs.YtagbaimfigljiaaGreatDoor
open Go.RowKit
set_option maxRecDepth 100000

set_option maxHeartbeats 8000000 in
theorem sees_err (B : Nat) (l : Toks) (i : Nat) (e d : Int) (s : ByteArray) (w : World) (h : EyeAt B l i e d w) (he : e ≠ 0) :
    Calls Tryz.prog 213 #[.pointer (some ⟨B, 0, none⟩), .string s] w fun r w' => r = .returned (.bool false) ∧ EyeAt B l i e d w' ∧ Moved B w w' := by
  have HH := veil h
  have HM := veil (Moved.refl B w)
  obtain ⟨ta, tcap, c0, c1, c2, c3, f1, f2, f3, hi, h200, htok⟩ := ey_cells h
  have he' : (e != 0) = true := bne_iff_ne.2 he
  clear htok he h c3 f1 f2 f3
  go_enter Tryz.func213, Tryz.ntmps213
  go_wp2_with fail
  go_quiet (fail)
  all_goals
    go_wp2_with fail
    go_ret
    exact ⟨rfl, ey_drewN HH.out nq, HM.out.drewN nq⟩

end Go.Proofs.YtagbaimfigljiaaGreatDoor
namespace Go.Proofs.YtagbaimfigljiaaGreatDoor
open Go.RowKit
set_option maxRecDepth 100000

set_option maxHeartbeats 8000000 in
theorem sees_end (B : Nat) (l : Toks) (i : Nat) (d : Int) (s : ByteArray) (w : World) (h : EyeAt B l i 0 d w) (hlt : ¬ i < l.length) :
    Calls Tryz.prog 213 #[.pointer (some ⟨B, 0, none⟩), .string s] w fun r w' => r = .returned (.bool false) ∧ EyeAt B l i 0 d w' ∧ Moved B w w' := by
  have HH := veil h
  have HM := veil (Moved.refl B w)
  obtain ⟨ta, tcap, c0, c1, c2, c3, f1, f2, f3, hi, h200, htok⟩ := ey_cells h
  have hlt' : ((l.length : Nat) : Int) ≤ (i : Int) := by omega
  clear htok hlt h c3 f1 f2 f3
  go_enter Tryz.func213, Tryz.ntmps213
  go_wp2_with fail
  go_quiet (fail)
  all_goals
    go_wp2_with fail
    go_ret
    exact ⟨rfl, ey_drewN HH.out nq, HM.out.drewN nq⟩

end Go.Proofs.YtagbaimfigljiaaGreatDoor
namespace Go.Proofs.YtagbaimfigljiaaGreatDoor
open Go.RowKit
set_option maxRecDepth 100000

set_option maxHeartbeats 4000000 in
theorem sees_eye (B : Nat) (l : Toks) (i : Nat) (e d : Int) (s : ByteArray) (w : World) (h : EyeAt B l i e d w) :
    Calls Tryz.prog 213 #[.pointer (some ⟨B, 0, none⟩), .string s] w fun r w' => r = .returned (.bool (seesB l i e s.data.toList)) ∧ EyeAt B l (adv (seesB l i e s.data.toList) i) e d w' ∧ Moved B w w' := by
  by_cases he : e = 0
  · subst he
    have hS : seesB l i 0 s.data.toList = sgn l i s.data.toList := by unfold seesB; simp
    by_cases hlt : i < l.length
    · have hT := tok_at hlt 4 s.data.toList
      have hT3 : (l[i].2.toList == s.toList) = (l[i].2.data.toList == s.data.toList) := by rw [Lib.toList_data, Lib.toList_data]
      by_cases hk : l[i].1 = 4
      · cases hs : (l[i].2.toList == s.toList)
        · have hR : sgn l i s.data.toList = false := by unfold sgn; rw [hT, ← hT3, hs, hk]; rfl
          rw [hS, hR]
          exact sees_text B l i d s w h hlt hk hs
        · have hR : sgn l i s.data.toList = true := by unfold sgn; rw [hT, ← hT3, hs, hk]; rfl
          rw [hS, hR]
          exact sees_sign B l i d s w h hlt hk hs
      · have hR : sgn l i s.data.toList = false := by unfold sgn; rw [hT, beq_eq_false_iff_ne.2 hk]; rfl
        rw [hS, hR]
        exact sees_kind B l i d s w h hlt hk
    · have hR : sgn l i s.data.toList = false := tok_end hlt 4 _
      rw [hS, hR]
      exact sees_end B l i d s w h hlt
  · have hS : seesB l i e s.data.toList = false := by unfold seesB; simp [he]
    rw [hS]
    exact sees_err B l i e d s w h he

/-- what is wrong behind a sign that was wanted. -/
def wantE (b : Bool) (e : Int) : Int := if b = true then e else firstOf e 4

/-- a sign is wanted. -/
theorem wants_eye (B : Nat) (l : Toks) (i : Nat) (e d : Int) (s : ByteArray) (w : World) (h : EyeAt B l i e d w) :
    Calls Tryz.prog 142 #[.pointer (some ⟨B, 0, none⟩), .string s] w fun r w' => r = .returned (.tuple #[]) ∧ EyeAt B l (adv (seesB l i e s.data.toList) i) (wantE (seesB l i e s.data.toList) e) d w' ∧ Moved B w w' := by
  have HH := veil h
  clear h
  go_enter Tryz.func142, Tryz.ntmps142
  go_wp2_with fail
  refine (sees_eye B l i e d s w HH.out).mono ?_
  rintro r w1 ⟨rfl, q1, q2⟩
  cases hs : seesB l i e s.data.toList
  · rw [hs] at q1
    have HQ1 := veil q1
    have HQ2 := veil q2
    have HSV := veil hs
    clear q1 q2 hs
    go_wp2_with fail
    refine (bad_eye B l _ e d 4 w1 HQ1.out).mono ?_
    rintro r w2 ⟨rfl, q1, q2⟩
    have HQ3 := veil q1
    have HQ4 := veil (HQ2.out.trans q2)
    clear q1 q2
    go_wp2_with fail
    go_end0
    exact ⟨rfl, by rw [HSV.out]; exact HQ3.out, HQ4.out⟩
  · rw [hs] at q1
    have HQ1 := veil q1
    have HQ2 := veil q2
    have HSV := veil hs
    clear q1 q2 hs
    go_wp2_with fail
    go_end0
    exact ⟨rfl, by rw [HSV.out]; exact HQ1.out, HQ2.out⟩

end Go.Proofs.YtagbaimfigljiaaGreatDoor
namespace Go.Proofs.YtagbaimfigljiaaGreatDoor
open Go.RowKit
set_option maxRecDepth 100000

theorem ey_alloc {B : Nat} {l : Toks} {i : Nat} {e d : Int} {w : World} (h : EyeAt B l i e d w) (o : Obj) : EyeAt B l i e d (w.alloc o) := ey_below h ((Below.refl _ _).alloc (Nat.le_refl _) o)

/-- two cells of a block that is there take what is stored. -/
theorem pair_set {w : World} {b : Nat} {x y : Value} {T : TypeId} (h : w.heap[b]? = some (.cells #[x, y] T (0, 0))) (u v : Value) :
    ((w.setCell ⟨b, 0, none⟩ u).setCell ⟨b, 1, none⟩ v).cell? ⟨b, 0, none⟩ = some u ∧ ((w.setCell ⟨b, 0, none⟩ u).setCell ⟨b, 1, none⟩ v).cell? ⟨b, 1, none⟩ = some v := by
  have h3 := block_set (block_set h 0 u) 1 v
  refine ⟨?_, ?_⟩ <;> (rw [cell_of_row _ b _ _ _ _ h3]; rfl)

/-- a store above the eye. -/
theorem ey_far {B : Nat} {l : Toks} {i : Nat} {e d : Int} {w : World} (h : EyeAt B l i e d w) {c : Nat} (hc : B < c) (o : Nat) (u : Value) : EyeAt B l i e d (w.setCell ⟨c, o, none⟩ u) := by
  obtain ⟨tv, h1, h2, h3⟩ := h
  exact ⟨tv, (Below.heap_setCell _ _ _ _ (by show B ≠ c; omega)).trans h1, h2.keep ((Below.refl B _).setCell (p := ⟨c, o, none⟩) (by show B ≤ c; omega) _), h3⟩
theorem mv_far {B : Nat} {w w' : World} (h : Moved B w w') {c : Nat} (hc : w.heap.size ≤ c) (hB : B < c) (o : Nat) (u : Value) : Moved B w (w'.setCell ⟨c, o, none⟩ u) :=
  ⟨h.below.trans ((Below.refl B _).setCell (p := ⟨c, o, none⟩) (by show B ≤ c; omega) _), fun k hk hlt => (Below.heap_setCell _ _ _ _ (by show k ≠ c; omega)).trans (h.above k hk hlt)⟩

set_option maxHeartbeats 4000000 in
theorem one_none (B : Nat) (l : Toks) (i : Nat) (e d : Int) (w : World) (h : EyeAt B l i e d w) (hn : e ≠ 0 ∨ ¬ i < l.length) :
    Calls Tryz.prog 140 #[.pointer (some ⟨B, 0, none⟩)] w fun r w' => r = .returned (.agg #[.int .i64 0, .string ⟨#[]⟩]) ∧ EyeAt B l i e d w' ∧ Moved B w w' := by
  have hlt := ey_lt h
  have HH := veil (ey_alloc h (.cells #[.int .i64 0, .string ⟨#[]⟩] 199))
  have HM : Hid (Moved B w (w.alloc (.cells #[.int .i64 0, .string ⟨#[]⟩] 199))) := Moved.of_below ((Below.refl _ _).alloc (Nat.le_refl _) _) (by omega)
  obtain ⟨ta, tcap, c0, c1, c2, c3, f1, f2, f3, hi, h200, htok⟩ := ey_cells h
  have hBn : B ≠ w.heap.size := by omega
  have HP := veil (fun n => pair_set (w := (w.alloc (.cells #[.int .i64 0, .string ⟨#[]⟩] 199)).drewN n) (b := w.heap.size) (heap_alloc_new w _) (.int .i64 0) (.string ⟨#[]⟩))
  have HF := veil (fun n => ey_far (ey_far (ey_drewN HH.out n) (c := w.heap.size) hlt 0 (.int .i64 0)) (c := w.heap.size) hlt 1 (.string ⟨#[]⟩))
  have HG := veil (fun n => mv_far (mv_far (HM.out.drewN n) (c := w.heap.size) (Nat.le_refl _) hlt 0 (.int .i64 0)) (c := w.heap.size) (Nat.le_refl _) hlt 1 (.string ⟨#[]⟩))
  clear h c3 f1 f2 f3 htok
  by_cases he : e = 0
  · subst he
    have hlt' : ((l.length : Nat) : Int) ≤ (i : Int) := by rcases hn with h | h <;> omega
    clear hn
    go_enter Tryz.func140, Tryz.ntmps140
    go_wp2_with fail
    go_quiet (fail)
    all_goals
      go_wp2_with fail
      obtain ⟨q0, q1⟩ := HP.out nq
      exact bodyPost_ret (v := .agg #[.int .i64 0, .string ⟨#[]⟩]) (by simp [results, Tryz.results140, go_sem, q0, q1]) rfl ⟨rfl, HF.out nq, HG.out nq⟩
  · have he' : (e != 0) = true := bne_iff_ne.2 he
    clear hn he
    go_enter Tryz.func140, Tryz.ntmps140
    go_wp2_with fail
    go_quiet (fail)
    all_goals
      go_wp2_with fail
      obtain ⟨q0, q1⟩ := HP.out nq
      exact bodyPost_ret (v := .agg #[.int .i64 0, .string ⟨#[]⟩]) (by simp [results, Tryz.results140, go_sem, q0, q1]) rfl ⟨rfl, HF.out nq, HG.out nq⟩

set_option maxHeartbeats 4000000 in
theorem one_some (B : Nat) (l : Toks) (i : Nat) (d : Int) (w : World) (h : EyeAt B l i 0 d w) (hlt2 : i < l.length) :
    Calls Tryz.prog 140 #[.pointer (some ⟨B, 0, none⟩)] w fun r w' => r = .returned (.agg #[.int .i64 l[i].1, .string l[i].2]) ∧ EyeAt B l (i + 1) 0 d w' ∧ Moved B w w' := by
  have hlt := ey_lt h
  have HH := veil (ey_alloc h (.cells #[.int .i64 0, .string ⟨#[]⟩] 199))
  have HM : Hid (Moved B w (w.alloc (.cells #[.int .i64 0, .string ⟨#[]⟩] 199))) := Moved.of_below ((Below.refl _ _).alloc (Nat.le_refl _) _) (by omega)
  obtain ⟨ta, tcap, c0, c1, c2, c3, f1, f2, f3, hi, h200, htok⟩ := ey_cells h
  obtain ⟨b, off, rfl, hbB, t0, t1, hsz⟩ := htok hlt2
  have hBn : B ≠ w.heap.size := by omega
  have hbn : b ≠ w.heap.size := by omega
  have hbB2 : b ≠ B := by omega
  have hlt' : ¬ ((l.length : Nat) : Int) ≤ (i : Int) := by omega
  have hlt3 : (i : Int) < (l.length : Int) := by omega
  have hi0 : (0 : Int) ≤ (i : Int) := by omega
  have HX : Hid (∀ n, ∃ W1, (((w.alloc (.cells #[.int .i64 0, .string ⟨#[]⟩] 199)).drewN n).setCell ⟨B, 1, none⟩ (.int .i64 ((i : Int) + 1))) = W1 ∧ EyeAt B l (i + 1) 0 d W1 ∧ Moved B w W1 ∧ W1.heap[w.heap.size]? = some (.cells #[.int .i64 0, .string ⟨#[]⟩] 199 (0, 0)) ∧ W1.cell? ⟨B, 0, none⟩ = some (.slice (some ⟨b, off, none⟩) l.length tcap)) := by
    intro n
    refine ⟨_, rfl, ey_set1 (ey_drewN HH.out n) hlt2, (HM.out.drewN n).set 1 _, (Below.heap_setCell _ _ _ _ (by show w.heap.size ≠ B; omega)).trans (heap_alloc_new w _), ?_⟩
    rw [World.cell?_setCell_other _ _ _ _ (by intro h; injection h with _ h _; cases h)]
    show (w.alloc _).cell? _ = _
    rw [World.cell?_alloc_old _ _ _ (by show B ≠ _; omega)]
    exact c0
  have HT0 := veil t0
  have HT1 := veil t1
  clear h c3 f2 f3 htok
  generalize l[i].1 = kd at *
  generalize l[i].2 = tx at *
  go_enter Tryz.func140, Tryz.ntmps140
  go_wp2_with fail
  go_quiet (fail)
  go_wp2_with fail
  obtain ⟨W1, hW1, hE, hMv, hown, k0⟩ := HX.out nq
  rw [hW1]
  have k1 : W1.cell? ⟨B, 1, none⟩ = some (.int .i64 ((i : Int) + 1)) := by
    obtain ⟨_, _, _, k1, _⟩ := ey_cells hE
    exact k1
  have u0 : W1.cell? ⟨b, off + i * 2, none⟩ = some (.int .i64 kd) := (hMv.below.cell (p := ⟨b, off + i * 2, none⟩) hbB).trans HT0.out
  have u1 : W1.cell? ⟨b, off + i * 2 + 1, none⟩ = some (.string tx) := (hMv.below.cell (p := ⟨b, off + i * 2 + 1, none⟩) hbB).trans HT1.out
  have g0 : W1.cell? ⟨w.heap.size, 0, none⟩ = some (.int .i64 0) := by rw [cell_of_row W1 _ 0 _ _ _ hown]; rfl
  have g1 : W1.cell? ⟨w.heap.size, 1, none⟩ = some (.string ⟨#[]⟩) := by rw [cell_of_row W1 _ 1 _ _ _ hown]; rfl
  have y0 := Lib.frozen_of_heap hown 0
  have y1 := Lib.frozen_of_heap hown 1
  have hwr : IntKind.i64.wrap (i : Int) = (i : Int) := by
    unfold IntKind.wrap
    simp [IntKind.signed, IntKind.bits]
    omega
  have HP := veil (pair_set (w := W1) (b := w.heap.size) hown (.int .i64 kd) (.string tx))
  have HP0 : Hid ((W1.setCell ⟨w.heap.size, 0, none⟩ (.int .i64 kd)).cell? ⟨w.heap.size, 0, none⟩ = some (.int .i64 kd)) := by show _ = _; rw [cell_of_row _ _ 0 _ _ _ (block_set hown 0 _)]; rfl
  have HF := veil (ey_far (ey_far (ey_below hE (Below.refl _ _).drew) (c := w.heap.size) hlt 0 (.int .i64 kd)) (c := w.heap.size) hlt 1 (.string tx))
  have HG := veil (mv_far (mv_far hMv.drew (c := w.heap.size) (Nat.le_refl _) hlt 0 (.int .i64 kd)) (c := w.heap.size) (Nat.le_refl _) hlt 1 (.string tx))
  clear hE hMv hown hW1 HX HH HM t0 t1 c0 c1 c2
  go_region
  all_goals
    go_wp2_with fail
    obtain ⟨_, q1⟩ := HP.out
    have q0 := HP0.out
    exact bodyPost_ret (v := .agg #[.int .i64 kd, .string tx]) (by simp [results, Tryz.results140, go_sem, q0, q1]) rfl ⟨rfl, HF.out, HG.out⟩

end Go.Proofs.YtagbaimfigljiaaGreatDoor
namespace Go.Proofs.YtagbaimfigljiaaGreatDoor
open Go.RowKit
set_option maxRecDepth 100000

/-- an ident is read, or something is wrong. -/
def IdentR (B : Nat) (l : Toks) (i : Nat) (e d : Int) (w : World) (r : Ending) (w' : World) : Prop := Moved B w w' ∧ ∃ t i', r = .returned (.string t) ∧ t.size ≤ maxLen ∧
  ((e = 0 ∧ identAt l i = some t ∧ EyeAt B l (i + 1) 0 d w') ∨ ((e ≠ 0 ∨ identAt l i = none) ∧ EyeAt B l i' (firstOf e 4) d w'))

set_option maxHeartbeats 2000000 in
/-- behind a token that is no ident. -/
theorem ident_no (B : Nat) (l : Toks) (i i1 : Nat) (e d kd : Int) (tx : ByteArray) (hsz : tx.size ≤ maxLen) (w : World)
    (h1 : Calls Tryz.prog 140 #[.pointer (some ⟨B, 0, none⟩)] w fun r w' => r = .returned (.agg #[.int .i64 kd, .string tx]) ∧ EyeAt B l i1 e d w' ∧ Moved B w w') (hB : B < w.heap.size)
    (hn : e ≠ 0 ∨ identAt l i = none) (hk : (kd != 1) = true ∨ (kd = 1 ∧ identOk tx = false)) :
    Calls Tryz.prog 141 #[.pointer (some ⟨B, 0, none⟩)] w (IdentR B l i e d w) := by
  have HO := veil h1
  have HN := veil hn
  clear h1 hn
  rcases hk with hk | ⟨rfl, hid⟩
  · go_enter Tryz.func141, Tryz.ntmps141
    go_wp2_with fail
    refine HO.out.mono ?_
    rintro r w1 ⟨rfl, q1, q2⟩
    have HQ1 := veil (ey_alloc q1 (.cells #[.int .i64 kd, .string tx] 199))
    have HQ2 := veil (q2.trans (Moved.of_below ((Below.refl _ _).alloc (Nat.le_refl _) (.cells #[.int .i64 kd, .string tx] 199)) (by have := q2.below.size; omega)))
    have hs1 := q2.below.size
    clear q1 q2 HO
    go_wp2_with fail
    refine (bad_eye B l _ e d 4 _ HQ1.out).mono ?_
    rintro r w2 ⟨rfl, q1, q2⟩
    have c1 : w2.cell? ⟨w1.heap.size, 1, none⟩ = some (.string tx) := (q2.cell (by omega) (by simp) 1).trans (World.cell?_alloc_at _ _ _ _ rfl)
    have HQ3 := veil q1
    have HQ4 := veil (HQ2.out.trans q2)
    clear q1 q2
    go_wp2_with fail
    go_ret
    exact ⟨HQ4.out, tx, _, rfl, hsz, Or.inr ⟨HN.out, HQ3.out⟩⟩
  · go_enter Tryz.func141, Tryz.ntmps141
    go_wp2_with fail
    refine HO.out.mono ?_
    rintro r w1 ⟨rfl, q1, q2⟩
    have HQ1 := veil (ey_alloc q1 (.cells #[.int .i64 1, .string tx] 199))
    have HQ2 := veil (q2.trans (Moved.of_below ((Below.refl _ _).alloc (Nat.le_refl _) (.cells #[.int .i64 1, .string tx] 199)) (by have := q2.below.size; omega)))
    have hs1 := q2.below.size
    clear q1 q2 HO
    go_wp2_with fail
    refine (nameMay_any tx hsz _).mono ?_
    rintro r w2 ⟨rfl, hbe⟩
    have hb : Below (w1.alloc (.cells #[.int .i64 1, .string tx] 199)).heap.size (w1.alloc (.cells #[.int .i64 1, .string tx] 199)) w2 := hbe ▸ Below.refl _ _
    clear hbe
    rw [hid]
    have HB := veil hb
    clear hb
    have c0 : w2.cell? ⟨w1.heap.size, 1, none⟩ = some (.string tx) := (HB.out.cell (p := ⟨w1.heap.size, 1, none⟩) (by simp)).trans (World.cell?_alloc_at _ _ _ _ rfl)
    have hs2 : w1.heap.size < w2.heap.size := by have := HB.out.size; simp at this; omega
    have HQ3 := veil (ey_below HQ1.out HB.out)
    have HQ4 := veil (HQ2.out.trans (Moved.of_below HB.out (by simp; omega)))
    go_wp2_with fail
    refine (bad_eye B l _ e d 4 _ HQ3.out).mono ?_
    rintro r w3 ⟨rfl, q1, q2⟩
    have c1 : w3.cell? ⟨w1.heap.size, 1, none⟩ = some (.string tx) := (q2.cell (by omega) (by omega) 1).trans c0
    have HQ5 := veil q1
    have HQ6 := veil (HQ4.out.trans q2)
    clear q1 q2 c0
    go_wp2_with fail
    go_ret
    exact ⟨HQ6.out, tx, _, rfl, hsz, Or.inr ⟨HN.out, HQ5.out⟩⟩

set_option maxHeartbeats 2000000 in
theorem ident_yes (B : Nat) (l : Toks) (i : Nat) (d : Int) (tx : ByteArray) (hsz : tx.size ≤ maxLen) (w : World)
    (h1 : Calls Tryz.prog 140 #[.pointer (some ⟨B, 0, none⟩)] w fun r w' => r = .returned (.agg #[.int .i64 1, .string tx]) ∧ EyeAt B l (i + 1) 0 d w' ∧ Moved B w w') (hB : B < w.heap.size)
    (hn : identAt l i = some tx) (hid : identOk tx = true) :
    Calls Tryz.prog 141 #[.pointer (some ⟨B, 0, none⟩)] w (IdentR B l i 0 d w) := by
  have HO := veil h1
  have HN := veil hn
  clear h1 hn
  go_enter Tryz.func141, Tryz.ntmps141
  go_wp2_with fail
  refine HO.out.mono ?_
  rintro r w1 ⟨rfl, q1, q2⟩
  have HQ1 := veil (ey_alloc q1 (.cells #[.int .i64 1, .string tx] 199))
  have HQ2 := veil (q2.trans (Moved.of_below ((Below.refl _ _).alloc (Nat.le_refl _) (.cells #[.int .i64 1, .string tx] 199)) (by have := q2.below.size; omega)))
  have hs1 := q2.below.size
  clear q1 q2 HO
  go_wp2_with fail
  refine (nameMay_any tx hsz _).mono ?_
  rintro r w2 ⟨rfl, hbe⟩
  have hb : Below (w1.alloc (.cells #[.int .i64 1, .string tx] 199)).heap.size (w1.alloc (.cells #[.int .i64 1, .string tx] 199)) w2 := hbe ▸ Below.refl _ _
  clear hbe
  rw [hid]
  have HB := veil hb
  clear hb
  have c0 : w2.cell? ⟨w1.heap.size, 1, none⟩ = some (.string tx) := (HB.out.cell (p := ⟨w1.heap.size, 1, none⟩) (by simp)).trans (World.cell?_alloc_at _ _ _ _ rfl)
  have HQ3 := veil (ey_below HQ1.out HB.out)
  have HQ4 := veil (HQ2.out.trans (Moved.of_below HB.out (by simp; omega)))
  go_wp2_with fail
  go_ret
  exact ⟨HQ4.out, tx, i, rfl, hsz, Or.inl ⟨rfl, HN.out, HQ3.out⟩⟩

theorem ident_eye (B : Nat) (l : Toks) (i : Nat) (e d : Int) (w : World) (h : EyeAt B l i e d w) :
    Calls Tryz.prog 141 #[.pointer (some ⟨B, 0, none⟩)] w (IdentR B l i e d w) := by
  have hlt := ey_lt h
  by_cases hc : e ≠ 0 ∨ ¬ i < l.length
  · refine ident_no B l i i e d 0 ⟨#[]⟩ (Nat.zero_le _) w (one_none B l i e d w h hc) hlt ?_ (Or.inl rfl)
    rcases hc with h | h
    · exact Or.inl h
    · right
      unfold identAt
      rw [take_end h]
  · have he : e = 0 := Classical.byContradiction fun h => hc (Or.inl h)
    have hi : i < l.length := Classical.byContradiction fun h => hc (Or.inr h)
    subst he
    obtain ⟨ta, tcap, c0, c1, c2, c3, f1, f2, f3, hil, h200, htok⟩ := ey_cells h
    obtain ⟨b, off, rfl, hbB, t0, t1, hsz⟩ := htok hi
    have h1 := one_some B l i d w h hi
    by_cases hk : l[i].1 = 1
    · cases hid : identOk l[i].2
      · refine ident_no B l i (i + 1) 0 d _ _ hsz w h1 hlt (Or.inr ?_) (Or.inr ⟨hk, hid⟩)
        unfold identAt
        rw [take_at hi, if_pos hk]
        simp [hid]
      · rw [hk] at h1
        refine ident_yes B l i d _ hsz w h1 hlt ?_ hid
        unfold identAt
        rw [take_at hi, if_pos hk]
        simp [hid]
    · refine ident_no B l i (i + 1) 0 d _ _ hsz w h1 hlt (Or.inr ?_) (Or.inl (bne_iff_ne.2 hk))
      unfold identAt
      rw [take_at hi, if_neg hk]

end Go.Proofs.YtagbaimfigljiaaGreatDoor
namespace Go.Proofs.YtagbaimfigljiaaGreatDoor
open Go.RowKit
set_option maxRecDepth 100000

theorem four_set {w : World} {b : Nat} {x y z u : Value} {T : TypeId} (h : w.heap[b]? = some (.cells #[x, y, z, u] T (0, 0))) (p q r t : Value) :
    ((((w.setCell ⟨b, 0, none⟩ p).setCell ⟨b, 1, none⟩ q).setCell ⟨b, 2, none⟩ r).setCell ⟨b, 3, none⟩ t).heap[b]? = some (.cells #[p, q, r, t] T (0, 0)) := block_set (block_set (block_set (block_set h 0 p) 1 q) 2 r) 3 t

set_option maxHeartbeats 4000000 in
/-- from a state in which something is wrong, or too deep: nothing is read. -/
theorem kind_skip (B : Nat) (l : Toks) (i : Nat) (e e1 : Int) (d : Nat) (hd : d < 1000) (w : World) (h : EyeAt B l i e d w) (he1 : (if 40 < d + 1 then firstOf e 1 else e) = e1) (hne : e1 ≠ 0) :
    Calls Tryz.prog 143 #[.pointer (some ⟨B, 0, none⟩)] w fun r w' => r = .returned (.agg #[.int .i64 0, .string ⟨#[]⟩, .string ⟨#[]⟩, .slice none 0 0]) ∧ EyeAt B l i e1 d w' ∧ Moved B w w' := by
  have hlt := ey_lt h
  have HH := veil (ey_alloc h (.cells #[.int .i64 0, .string ⟨#[]⟩, .string ⟨#[]⟩, .slice none 0 0] 84))
  have HM : Hid (Moved B w (w.alloc (.cells #[.int .i64 0, .string ⟨#[]⟩, .string ⟨#[]⟩, .slice none 0 0] 84))) := Moved.of_below ((Below.refl _ _).alloc (Nat.le_refl _) _) (by omega)
  have HE1 := veil he1
  have hne' : (e1 == 0) = false := beq_eq_false_iff_ne.2 hne
  have HNe := veil hne
  clear h he1 hne
  go_enter Tryz.func143, Tryz.ntmps143
  go_wp2_with fail
  refine (down_eye B l i e d hd _ HH.out).mono ?_
  rintro r w1 ⟨rfl, q1, q2⟩
  rw [HE1.out] at q1
  have hs1 : w.heap.size + 1 ≤ w1.heap.size := by have := q2.below.size; simpa using this
  have hz1 : w1.heap[w.heap.size]? = some (.cells #[.int .i64 0, .string ⟨#[]⟩, .string ⟨#[]⟩, .slice none 0 0] 84 (0, 0)) := (q2.above w.heap.size hlt (by simp)).trans (heap_alloc_new w _)
  have hw2 : ∃ w2, w1.alloc (.cells #[.int .i64 0, .string ⟨#[]⟩, .string ⟨#[]⟩, .slice none 0 0] 84) = w2 ∧ EyeAt B l i e1 ((d + 1 : Nat) : Int) w2 ∧ Moved B w w2 ∧ w2.heap[w.heap.size]? = some (.cells #[.int .i64 0, .string ⟨#[]⟩, .string ⟨#[]⟩, .slice none 0 0] 84 (0, 0)) ∧ w2.heap[w1.heap.size]? = some (.cells #[.int .i64 0, .string ⟨#[]⟩, .string ⟨#[]⟩, .slice none 0 0] 84 (0, 0)) :=
    ⟨_, rfl, ey_alloc q1 _, (HM.out.trans q2).alloc (by omega) _, (heap_alloc_old _ _ (by omega)).trans hz1, heap_alloc_new w1 _⟩
  obtain ⟨w2, hwe, hE2, hM2, hz2, ho2⟩ := hw2
  have hE2' := hE2
  obtain ⟨ta, tcap, c0, c1, c2, c3, f1, f2, f3, hi, h200, htok⟩ := ey_cells hE2
  have en : ((d + 1 : Nat) : Int) = (d : Int) + 1 := by omega
  rw [en] at c3
  have hd' : (d : Int) < 1000 := by omega
  have hd0 : (0 : Int) ≤ (d : Int) := by omega
  clear q1 q2 c0 c1 f1 f2 htok hz1
  have o0 : w2.cell? ⟨w1.heap.size, 0, none⟩ = some (.int .i64 0) := by rw [cell_of_row w2 _ 0 _ _ _ ho2]; rfl
  have o1 : w2.cell? ⟨w1.heap.size, 1, none⟩ = some (.string ⟨#[]⟩) := by rw [cell_of_row w2 _ 1 _ _ _ ho2]; rfl
  have o2 : w2.cell? ⟨w1.heap.size, 2, none⟩ = some (.string ⟨#[]⟩) := by rw [cell_of_row w2 _ 2 _ _ _ ho2]; rfl
  have o3 : w2.cell? ⟨w1.heap.size, 3, none⟩ = some (.slice none 0 0) := by rw [cell_of_row w2 _ 3 _ _ _ ho2]; rfl
  have r0 : w2.cell? ⟨w.heap.size, 0, none⟩ = some (.int .i64 0) := by rw [cell_of_row w2 _ 0 _ _ _ hz2]; rfl
  have r1 : w2.cell? ⟨w.heap.size, 1, none⟩ = some (.string ⟨#[]⟩) := by rw [cell_of_row w2 _ 1 _ _ _ hz2]; rfl
  have r2 : w2.cell? ⟨w.heap.size, 2, none⟩ = some (.string ⟨#[]⟩) := by rw [cell_of_row w2 _ 2 _ _ _ hz2]; rfl
  have r3 : w2.cell? ⟨w.heap.size, 3, none⟩ = some (.slice none 0 0) := by rw [cell_of_row w2 _ 3 _ _ _ hz2]; rfl
  have g0 := Lib.frozen_of_heap hz2 0
  have g1 := Lib.frozen_of_heap hz2 1
  have g2 := Lib.frozen_of_heap hz2 2
  have g3 := Lib.frozen_of_heap hz2 3
  have x0 := Lib.frozen_of_heap ho2 0
  have x1 := Lib.frozen_of_heap ho2 1
  have x2 := Lib.frozen_of_heap ho2 2
  have x3 := Lib.frozen_of_heap ho2 3
  have b1 : w1.heap.size ≠ B := by omega
  have b2 : w.heap.size ≠ B := by omega
  have b3 : B ≠ w.heap.size := by omega
  have b4 : w1.heap.size ≠ w.heap.size := by omega
  have HE2 := veil hE2
  have HM2 := veil hM2
  have HZ2 := veil hz2
  clear hE2 hE2' hM2 hz2 ho2
  have HW5 : Hid (∃ W5, (((((w2.setCell ⟨w1.heap.size, 0, none⟩ (.int .i64 0)).setCell ⟨w1.heap.size, 1, none⟩ (.string ⟨#[]⟩)).setCell ⟨w1.heap.size, 2, none⟩ (.string ⟨#[]⟩)).setCell ⟨w1.heap.size, 3, none⟩ (.slice none 0 0)).setCell ⟨B, 3, none⟩ (.int .i64 (d : Int))) = W5 ∧ EyeAt B l i e1 d W5 ∧ Moved B w W5 ∧ W5.heap[w.heap.size]? = some (.cells #[.int .i64 0, .string ⟨#[]⟩, .string ⟨#[]⟩, .slice none 0 0] 84 (0, 0))) := by
    refine ⟨_, rfl, ey_set3 (ey_far (ey_far (ey_far (ey_far HE2.out (c := w1.heap.size) (by omega) 0 _) (c := w1.heap.size) (by omega) 1 _) (c := w1.heap.size) (by omega) 2 _) (c := w1.heap.size) (by omega) 3 _) _, ?_, ?_⟩
    · exact (mv_far (mv_far (mv_far (mv_far HM2.out (c := w1.heap.size) (by omega) (by omega) 0 _) (c := w1.heap.size) (by omega) (by omega) 1 _) (c := w1.heap.size) (by omega) (by omega) 2 _) (c := w1.heap.size) (by omega) (by omega) 3 _).set 3 _
    · rw [Below.heap_setCell _ _ _ _ (by show w.heap.size ≠ B; omega), Below.heap_setCell _ _ _ _ (by show w.heap.size ≠ w1.heap.size; omega), Below.heap_setCell _ _ _ _ (by show w.heap.size ≠ w1.heap.size; omega), Below.heap_setCell _ _ _ _ (by show w.heap.size ≠ w1.heap.size; omega), Below.heap_setCell _ _ _ _ (by show w.heap.size ≠ w1.heap.size; omega)]
      exact HZ2.out
  go_wp2_with fail
  obtain ⟨W5, hW5, hE5, hM5, hz5⟩ := HW5.out
  try rw [hwe]
  rw [hW5]
  have hF := four_set hz5 (.int .i64 0) (.string ⟨#[]⟩) (.string ⟨#[]⟩) (.slice none 0 0)
  have HEF := veil (ey_far (ey_far (ey_far (ey_far hE5 (c := w.heap.size) hlt 0 (.int .i64 0)) (c := w.heap.size) hlt 1 (.string ⟨#[]⟩)) (c := w.heap.size) hlt 2 (.string ⟨#[]⟩)) (c := w.heap.size) hlt 3 (.slice none 0 0))
  have HMF := veil (mv_far (mv_far (mv_far (mv_far hM5 (c := w.heap.size) (Nat.le_refl _) hlt 0 (.int .i64 0)) (c := w.heap.size) (Nat.le_refl _) hlt 1 (.string ⟨#[]⟩)) (c := w.heap.size) (Nat.le_refl _) hlt 2 (.string ⟨#[]⟩)) (c := w.heap.size) (Nat.le_refl _) hlt 3 (.slice none 0 0))
  generalize ((((W5.setCell ⟨w.heap.size, 0, none⟩ (.int .i64 0)).setCell ⟨w.heap.size, 1, none⟩ (.string ⟨#[]⟩)).setCell ⟨w.heap.size, 2, none⟩ (.string ⟨#[]⟩)).setCell ⟨w.heap.size, 3, none⟩ (.slice none 0 0)) = F at *
  have q0 : F.cell? ⟨w.heap.size, 0, none⟩ = some (.int .i64 0) := by rw [cell_of_row F _ 0 _ _ _ hF]; rfl
  have q1 : F.cell? ⟨w.heap.size, 1, none⟩ = some (.string ⟨#[]⟩) := by rw [cell_of_row F _ 1 _ _ _ hF]; rfl
  have q2 : F.cell? ⟨w.heap.size, 2, none⟩ = some (.string ⟨#[]⟩) := by rw [cell_of_row F _ 2 _ _ _ hF]; rfl
  have q3 : F.cell? ⟨w.heap.size, 3, none⟩ = some (.slice none 0 0) := by rw [cell_of_row F _ 3 _ _ _ hF]; rfl
  exact bodyPost_ret (v := .agg #[.int .i64 0, .string ⟨#[]⟩, .string ⟨#[]⟩, .slice none 0 0]) (by simp [results, Tryz.results143, go_sem, q0, q1, q2, q3]) rfl ⟨rfl, HEF.out, HMF.out⟩

end Go.Proofs.YtagbaimfigljiaaGreatDoor
namespace Go.Proofs.YtagbaimfigljiaaGreatDoor
open Go.RowKit
set_option maxRecDepth 100000

/-- what is told of a type: it is read, or something is wrong. -/
def KindR (B : Nat) (l : Toks) (i d f : Nat) (w : World) (r : Ending) (w' : World) : Prop := Moved B w w' ∧ ∃ k o n va1 va2 va3, r = .returned (.agg #[.int .i64 k, .string o, .string n, .slice va1 va2 va3]) ∧
  ((∃ t j, pTy l f i = .ok t j ∧ EyeAt B l j 0 d w' ∧ TyCs (Fresh w.heap.size w') w' t k o n (.slice va1 va2 va3)) ∨ ∃ e i', pTy l f i = .bad e ∧ e ≠ 0 ∧ EyeAt B l i' e d w')

/-- the end of kind: one depth less, the result laid. -/
theorem kind_fin {B : Nat} {l : Toks} {j d : Nat} {e : Int} {w w5 : World} (hE : EyeAt B l j e ((d + 1 : Nat) : Int) w5) (hM : Moved B w w5) (hlt : B < w.heap.size) {x y z u : Value} (hz : w5.heap[w.heap.size]? = some (.cells #[x, y, z, u] 84 (0, 0))) (k o n va : Value) :
    ∃ F, (((((w5.setCell ⟨B, 3, none⟩ (.int .i64 (d : Int))).setCell ⟨w.heap.size, 0, none⟩ k).setCell ⟨w.heap.size, 1, none⟩ o).setCell ⟨w.heap.size, 2, none⟩ n).setCell ⟨w.heap.size, 3, none⟩ va) = F ∧ EyeAt B l j e d F ∧ Moved B w F ∧
      F.cell? ⟨w.heap.size, 0, none⟩ = some k ∧ F.cell? ⟨w.heap.size, 1, none⟩ = some o ∧ F.cell? ⟨w.heap.size, 2, none⟩ = some n ∧ F.cell? ⟨w.heap.size, 3, none⟩ = some va := by
  have h5 : (w5.setCell ⟨B, 3, none⟩ (.int .i64 (d : Int))).heap[w.heap.size]? = some (.cells #[x, y, z, u] 84 (0, 0)) := (Below.heap_setCell _ _ _ _ (by show w.heap.size ≠ B; omega)).trans hz
  have hF := four_set h5 k o n va
  refine ⟨_, rfl, ey_far (ey_far (ey_far (ey_far (ey_set3 hE _) (c := w.heap.size) hlt 0 _) (c := w.heap.size) hlt 1 _) (c := w.heap.size) hlt 2 _) (c := w.heap.size) hlt 3 _,
    mv_far (mv_far (mv_far (mv_far (hM.set 3 _) (c := w.heap.size) (Nat.le_refl _) hlt 0 _) (c := w.heap.size) (Nat.le_refl _) hlt 1 _) (c := w.heap.size) (Nat.le_refl _) hlt 2 _) (c := w.heap.size) (Nat.le_refl _) hlt 3 _, ?_, ?_, ?_, ?_⟩ <;>
  (rw [cell_of_row _ _ _ _ _ _ hF]; rfl)

/-- the cells that the end of kind reads and writes. -/
theorem kind_cells {w5 : World} {b c : Nat} {x y z u k o n va : Value} (hz : w5.heap[b]? = some (.cells #[x, y, z, u] 84 (0, 0))) (ho : w5.heap[c]? = some (.cells #[k, o, n, va] 84 (0, 0))) :
    (w5.cell? ⟨b, 0, none⟩ = some x ∧ w5.cell? ⟨b, 1, none⟩ = some y ∧ w5.cell? ⟨b, 2, none⟩ = some z ∧ w5.cell? ⟨b, 3, none⟩ = some u) ∧ (w5.cell? ⟨c, 0, none⟩ = some k ∧ w5.cell? ⟨c, 1, none⟩ = some o ∧ w5.cell? ⟨c, 2, none⟩ = some n ∧ w5.cell? ⟨c, 3, none⟩ = some va) ∧
    (w5.frozen? ⟨b, 0, none⟩ = false ∧ w5.frozen? ⟨b, 1, none⟩ = false ∧ w5.frozen? ⟨b, 2, none⟩ = false ∧ w5.frozen? ⟨b, 3, none⟩ = false) ∧ (w5.frozen? ⟨c, 0, none⟩ = false ∧ w5.frozen? ⟨c, 1, none⟩ = false ∧ w5.frozen? ⟨c, 2, none⟩ = false ∧ w5.frozen? ⟨c, 3, none⟩ = false) := by
  refine ⟨⟨?_, ?_, ?_, ?_⟩, ⟨?_, ?_, ?_, ?_⟩, ⟨Lib.frozen_of_heap hz 0, Lib.frozen_of_heap hz 1, Lib.frozen_of_heap hz 2, Lib.frozen_of_heap hz 3⟩, ⟨Lib.frozen_of_heap ho 0, Lib.frozen_of_heap ho 1, Lib.frozen_of_heap ho 2, Lib.frozen_of_heap ho 3⟩⟩
  all_goals first | (rw [cell_of_row _ b _ _ _ _ hz]; rfl) | (rw [cell_of_row _ c _ _ _ _ ho]; rfl)

end Go.Proofs.YtagbaimfigljiaaGreatDoor
