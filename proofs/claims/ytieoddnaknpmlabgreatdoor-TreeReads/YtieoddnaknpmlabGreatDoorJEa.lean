/- The reference's eye on a line's tokens: what its small functions answer. -/
import Derived.Test.YtieoddnaknpmlabGreatDoorJF
namespace Go.Proofs.YtieoddnaknpmlabGreatDoor
open Go.RowKit
set_option maxRecDepth 100000

/-- the eye in block B is at token i; e: what went wrong; d: how deep it is. -/
def EyeAt (B : Nat) (l : Toks) (i : Nat) (e d : Int) (w : World) : Prop := ∃ tv, w.heap[B]? = some (.cells #[tv, .int .i64 i, .int .i64 e, .int .i64 d] 95 (0, 0)) ∧ ToksAt B w tv l ∧ i ≤ l.length ∧ ∀ t ∈ l, t.1 = 1 ∨ t.1 = 2 ∨ t.1 = 3 ∨ t.1 = 4

theorem ey_lt {B : Nat} {l : Toks} {i : Nat} {e d : Int} {w : World} (h : EyeAt B l i e d w) : B < w.heap.size := by
  obtain ⟨tv, hb, _⟩ := h
  rcases Nat.lt_or_ge B w.heap.size with h' | h'
  · exact h'
  · rw [Array.getElem?_eq_none h'] at hb; cases hb

theorem ey_below {B : Nat} {l : Toks} {i : Nat} {e d : Int} {w w' : World} (h : EyeAt B l i e d w) (hb : Below w.heap.size w w') : EyeAt B l i e d w' := by
  have hlt := ey_lt h
  obtain ⟨tv, h1, h2, h3⟩ := h
  exact ⟨tv, (hb.block B hlt).trans h1, h2.keep (hb.mono (by omega)), h3⟩

theorem ey_drewN {B : Nat} {l : Toks} {i : Nat} {e d : Int} {w : World} (h : EyeAt B l i e d w) (n : Nat) : EyeAt B l i e d (w.drewN n) := ey_below h (below_drewN (Below.refl _ _) n)

theorem ey_set1 {B : Nat} {l : Toks} {i : Nat} {e d : Int} {w : World} (h : EyeAt B l i e d w) (hi : i < l.length) : EyeAt B l (i + 1) e d (w.setCell ⟨B, 1, none⟩ (.int .i64 ((i : Int) + 1))) := by
  obtain ⟨tv, h1, h2, h3⟩ := h
  exact ⟨tv, block_set h1 1 _, h2.keep ((Below.refl B _).setCell (p := ⟨B, 1, none⟩) (Nat.le_refl B) _), hi, h3.2⟩
theorem ey_set2 {B : Nat} {l : Toks} {i : Nat} {e d : Int} {w : World} (h : EyeAt B l i e d w) (e' : Int) : EyeAt B l i e' d (w.setCell ⟨B, 2, none⟩ (.int .i64 e')) := by
  obtain ⟨tv, h1, h2, h3⟩ := h
  exact ⟨tv, block_set h1 2 _, h2.keep ((Below.refl B _).setCell (p := ⟨B, 2, none⟩) (Nat.le_refl B) _), h3⟩
theorem ey_set3 {B : Nat} {l : Toks} {i : Nat} {e d : Int} {w : World} (h : EyeAt B l i e d w) (d' : Int) : EyeAt B l i e d' (w.setCell ⟨B, 3, none⟩ (.int .i64 d')) := by
  obtain ⟨tv, h1, h2, h3⟩ := h
  exact ⟨tv, block_set h1 3 _, h2.keep ((Below.refl B _).setCell (p := ⟨B, 3, none⟩) (Nat.le_refl B) _), h3⟩

/-- what is wrong first stays. -/
def firstOf (e e' : Int) : Int := if e = 0 then e' else e

theorem bad_eye (B : Nat) (l : Toks) (i : Nat) (e d e' : Int) (w : World) (h : EyeAt B l i e d w) :
    Calls Tryz.prog 50 #[.pointer (some ⟨B, 0, none⟩), .int .i64 e'] w fun r w' => r = .returned (.tuple #[]) ∧ EyeAt B l i (firstOf e e') d w' ∧ Moved B w w' := by
  have HH := veil h
  have HM := veil (Moved.refl B w)
  obtain ⟨tv, hb, _, _⟩ := h
  have b2 : w.cell? ⟨B, 2, none⟩ = some (.int .i64 e) := by rw [cell_of_row w B 2 _ _ _ hb]; rfl
  have hfz : w.frozen? ⟨B, 2, none⟩ = false := Lib.frozen_of_heap hb 2
  clear hb
  by_cases he : e = 0
  · subst he
    have HS := veil (ey_set2 HH.out e')
    have e0 : firstOf 0 e' = e' := if_pos rfl
    rw [e0]
    go_enter Tryz.func50, Tryz.ntmps50
    go_wp2_with fail
    go_end0
    exact ⟨rfl, HS.out, HM.out.set 2 _⟩
  · have he' : (e == 0) = false := by simpa using he
    have e0 : firstOf e e' = e := if_neg he
    rw [e0]
    clear he
    go_enter Tryz.func50, Tryz.ntmps50
    go_wp2_with fail
    go_end0
    exact ⟨rfl, HH.out, HM.out⟩

theorem ey_cells {B : Nat} {l : Toks} {i : Nat} {e d : Int} {w : World} (h : EyeAt B l i e d w) : ∃ ta tcap, w.cell? ⟨B, 0, none⟩ = some (.slice ta l.length tcap) ∧ w.cell? ⟨B, 1, none⟩ = some (.int .i64 i) ∧ w.cell? ⟨B, 2, none⟩ = some (.int .i64 e) ∧ w.cell? ⟨B, 3, none⟩ = some (.int .i64 d) ∧
    w.frozen? ⟨B, 1, none⟩ = false ∧ w.frozen? ⟨B, 2, none⟩ = false ∧ w.frozen? ⟨B, 3, none⟩ = false ∧ i ≤ l.length ∧ l.length ≤ 200 ∧ (∀ (hi : i < l.length), ∃ b off, ta = some ⟨b, off, none⟩ ∧ b < B ∧ w.cell? ⟨b, off + i * 2, none⟩ = some (.int .i64 l[i].1) ∧ w.cell? ⟨b, off + i * 2 + 1, none⟩ = some (.string l[i].2) ∧ l[i].2.size ≤ maxLen) := by
  obtain ⟨tv, hb, ⟨⟨h200, _⟩, htk⟩, hi, _⟩ := h
  have c1 : w.cell? ⟨B, 1, none⟩ = some (.int .i64 i) := by rw [cell_of_row w B 1 _ _ _ hb]; rfl
  have c2 : w.cell? ⟨B, 2, none⟩ = some (.int .i64 e) := by rw [cell_of_row w B 2 _ _ _ hb]; rfl
  have c3 : w.cell? ⟨B, 3, none⟩ = some (.int .i64 d) := by rw [cell_of_row w B 3 _ _ _ hb]; rfl
  have c0 : w.cell? ⟨B, 0, none⟩ = some tv := by rw [cell_of_row w B 0 _ _ _ hb]; rfl
  have f1 := Lib.frozen_of_heap hb 1
  have f2 := Lib.frozen_of_heap hb 2
  have f3 := Lib.frozen_of_heap hb 3
  rcases htk with ⟨hl, a, cap, rfl⟩ | ⟨b, off, cap, rfl, hbB, hc⟩
  · subst hl
    exact ⟨a, cap, c0, c1, c2, c3, f1, f2, f3, hi, h200, fun h => absurd h (by simp)⟩
  · exact ⟨_, cap, c0, c1, c2, c3, f1, f2, f3, hi, h200, fun h => ⟨b, off, rfl, hbB, hc i h⟩⟩

theorem ey_kinds {B : Nat} {l : Toks} {i : Nat} {e d : Int} {w : World} (h : EyeAt B l i e d w) : ∀ t ∈ l, t.1 = 1 ∨ t.1 = 2 ∨ t.1 = 3 ∨ t.1 = 4 := by obtain ⟨_, _, _, _, h⟩ := h; exact h

/-- the eye sees a sign if nothing is wrong yet. -/
def seesB (l : Toks) (i : Nat) (e : Int) (s : List UInt8) : Bool := decide (e = 0) && sgn l i s

theorem down_eye (B : Nat) (l : Toks) (i : Nat) (e : Int) (d : Nat) (hd : d < 1000) (w : World) (h : EyeAt B l i e d w) :
    Calls Tryz.prog 85 #[.pointer (some ⟨B, 0, none⟩)] w fun r w' => r = .returned (.tuple #[]) ∧ EyeAt B l i (if 40 < d + 1 then firstOf e 1 else e) ((d + 1 : Nat) : Int) w' ∧ Moved B w w' := by
  obtain ⟨ta, tcap, c0, c1, c2, c3, f1, f2, f3, hi, h200, htok⟩ := ey_cells h
  have HS : Hid (EyeAt B l i e ((d : Int) + 1) (w.setCell ⟨B, 3, none⟩ (.int .i64 ((d : Int) + 1)))) := ey_set3 h _
  have HM : Hid (Moved B w (w.setCell ⟨B, 3, none⟩ (.int .i64 ((d : Int) + 1)))) := (Moved.refl B w).set 3 _
  have en : ((d + 1 : Nat) : Int) = (d : Int) + 1 := by omega
  rw [en]
  have hd' : (d : Int) < 1000 := by omega
  clear h htok c0 c1 c2 f1 f2
  by_cases h4 : 40 < d + 1
  · have h4' : (40 : Int) < (d : Int) + 1 := by omega
    rw [if_pos h4]
    clear h4
    go_enter Tryz.func85, Tryz.ntmps85
    go_wp2_with fail
    refine (bad_eye B l i e _ 1 _ HS.out).mono ?_
    rintro r w2 ⟨rfl, q1, q2⟩
    have HQ3 := veil q1
    have HQ4 := veil (HM.out.trans q2)
    clear q1 q2
    go_wp2_with fail
    go_end0
    exact ⟨rfl, HQ3.out, HQ4.out⟩
  · have h4' : ¬ (40 : Int) < (d : Int) + 1 := by omega
    rw [if_neg h4]
    clear h4
    go_enter Tryz.func85, Tryz.ntmps85
    go_wp2_with fail
    go_end0
    exact ⟨rfl, HS.out, HM.out⟩

end Go.Proofs.YtieoddnaknpmlabGreatDoor

/- What the reference's sees answers, where the next token is no sign. -/
namespace Go.Proofs.YtieoddnaknpmlabGreatDoor
open Go.RowKit
set_option maxRecDepth 100000

set_option maxHeartbeats 20000000 in
theorem sees_kind (B : Nat) (l : Toks) (i : Nat) (d : Int) (s : ByteArray) (w : World) (h : EyeAt B l i 0 d w) (hlt : i < l.length) (hk : l[i].1 ≠ 4) :
    Calls Tryz.prog 84 #[.pointer (some ⟨B, 0, none⟩), .string s] w fun r w' => r = .returned (.bool false) ∧ EyeAt B l i 0 d w' ∧ Moved B w w' := by
  have HH := veil h
  have HM := veil (Moved.refl B w)
  obtain ⟨ta, tcap, c0, c1, c2, c3, f1, f2, f3, hi, h200, htok⟩ := ey_cells h
  clear h c3 f2 f3
  obtain ⟨b, off, rfl, hbB, t0, t1, hsz⟩ := htok hlt
  have hlt' : ¬ ((l.length : Nat) : Int) ≤ (i : Int) := by omega
  have hlt3 : (i : Int) < (l.length : Int) := by omega
  have HN2 := veil (fun n => ey_set1 (ey_drewN HH.out n) hlt)
  clear htok
  have hk' : (l[i].1 != 4) = true := bne_iff_ne.2 hk
  have hdn : decide (l.length ≤ i) = false := by simp; omega
  have hdi : decide (((l.length : Nat) : Int) ≤ (i : Int)) = false := by simp; omega
  clear hk HN2
  generalize l[i].1 = kd at *
  generalize l[i].2 = tx at *
  go_enter Tryz.func84, Tryz.ntmps84
  go_wp2_with fail
  go_quiet (fail)
  all_goals
    go_wp2_with fail
    go_ret
    exact ⟨rfl, ey_drewN HH.out nq, HM.out.drewN nq⟩

end Go.Proofs.YtieoddnaknpmlabGreatDoor

/- What the reference's sees answers, where the next token is another sign. -/
namespace Go.Proofs.YtieoddnaknpmlabGreatDoor
open Go.RowKit
set_option maxRecDepth 100000

set_option maxHeartbeats 20000000 in
theorem sees_text (B : Nat) (l : Toks) (i : Nat) (d : Int) (s : ByteArray) (w : World) (h : EyeAt B l i 0 d w) (hlt : i < l.length) (hk : l[i].1 = 4) (hs : (l[i].2.toList == s.toList) = false) :
    Calls Tryz.prog 84 #[.pointer (some ⟨B, 0, none⟩), .string s] w fun r w' => r = .returned (.bool false) ∧ EyeAt B l i 0 d w' ∧ Moved B w w' := by
  have HH := veil h
  have HM := veil (Moved.refl B w)
  obtain ⟨ta, tcap, c0, c1, c2, c3, f1, f2, f3, hi, h200, htok⟩ := ey_cells h
  clear h c3 f2 f3
  obtain ⟨b, off, rfl, hbB, t0, t1, hsz⟩ := htok hlt
  have hlt' : ¬ ((l.length : Nat) : Int) ≤ (i : Int) := by omega
  have hlt3 : (i : Int) < (l.length : Int) := by omega
  have HN2 := veil (fun n => ey_set1 (ey_drewN HH.out n) hlt)
  clear htok
  rw [hk] at t0
  have hs' : (l[i].2.toList != s.toList) = true := by simp [bne, hs]
  clear hk HN2
  generalize l[i].2 = tx at *
  go_enter Tryz.func84, Tryz.ntmps84
  go_wp2_with fail
  go_quiet (fail)
  all_goals
    go_wp2_with fail
    go_ret
    exact ⟨rfl, ey_drewN HH.out nq, HM.out.drewN nq⟩

end Go.Proofs.YtieoddnaknpmlabGreatDoor

/- What the reference's sees answers, where the next token is that sign. -/
namespace Go.Proofs.YtieoddnaknpmlabGreatDoor
open Go.RowKit
set_option maxRecDepth 100000

set_option maxHeartbeats 20000000 in
theorem sees_sign (B : Nat) (l : Toks) (i : Nat) (d : Int) (s : ByteArray) (w : World) (h : EyeAt B l i 0 d w) (hlt : i < l.length) (hk : l[i].1 = 4) (hs : (l[i].2.toList == s.toList) = true) :
    Calls Tryz.prog 84 #[.pointer (some ⟨B, 0, none⟩), .string s] w fun r w' => r = .returned (.bool true) ∧ EyeAt B l (i + 1) 0 d w' ∧ Moved B w w' := by
  have HH := veil h
  have HM := veil (Moved.refl B w)
  obtain ⟨ta, tcap, c0, c1, c2, c3, f1, f2, f3, hi, h200, htok⟩ := ey_cells h
  clear h c3 f2 f3
  obtain ⟨b, off, rfl, hbB, t0, t1, hsz⟩ := htok hlt
  have hlt' : ¬ ((l.length : Nat) : Int) ≤ (i : Int) := by omega
  have hlt3 : (i : Int) < (l.length : Int) := by omega
  have HN2 := veil (fun n => ey_set1 (ey_drewN HH.out n) hlt)
  clear htok
  rw [hk] at t0
  have hs' : (l[i].2.toList != s.toList) = false := by simp [bne, hs]
  clear hk
  generalize l[i].2 = tx at *
  go_enter Tryz.func84, Tryz.ntmps84
  go_wp2_with fail
  go_quiet (fail)
  all_goals
    go_wp2_with fail
    go_ret
    exact ⟨rfl, HN2.out nq, (HM.out.drewN nq).set 1 _⟩

end Go.Proofs.YtieoddnaknpmlabGreatDoor

/- What the reference's sees answers where something is wrong already. -/
namespace Go.Proofs.YtieoddnaknpmlabGreatDoor
open Go.RowKit
set_option maxRecDepth 100000

set_option maxHeartbeats 8000000 in
theorem sees_err (B : Nat) (l : Toks) (i : Nat) (e d : Int) (s : ByteArray) (w : World) (h : EyeAt B l i e d w) (he : e ≠ 0) :
    Calls Tryz.prog 84 #[.pointer (some ⟨B, 0, none⟩), .string s] w fun r w' => r = .returned (.bool false) ∧ EyeAt B l i e d w' ∧ Moved B w w' := by
  have HH := veil h
  have HM := veil (Moved.refl B w)
  obtain ⟨ta, tcap, c0, c1, c2, c3, f1, f2, f3, hi, h200, htok⟩ := ey_cells h
  have he' : (e != 0) = true := bne_iff_ne.2 he
  clear htok he h c3 f1 f2 f3
  go_enter Tryz.func84, Tryz.ntmps84
  go_wp2_with fail
  go_quiet (fail)
  all_goals
    go_wp2_with fail
    go_ret
    exact ⟨rfl, ey_drewN HH.out nq, HM.out.drewN nq⟩

end Go.Proofs.YtieoddnaknpmlabGreatDoor

/- What the reference's sees answers at the end. -/
namespace Go.Proofs.YtieoddnaknpmlabGreatDoor
open Go.RowKit
set_option maxRecDepth 100000

set_option maxHeartbeats 8000000 in
theorem sees_end (B : Nat) (l : Toks) (i : Nat) (d : Int) (s : ByteArray) (w : World) (h : EyeAt B l i 0 d w) (hlt : ¬ i < l.length) :
    Calls Tryz.prog 84 #[.pointer (some ⟨B, 0, none⟩), .string s] w fun r w' => r = .returned (.bool false) ∧ EyeAt B l i 0 d w' ∧ Moved B w w' := by
  have HH := veil h
  have HM := veil (Moved.refl B w)
  obtain ⟨ta, tcap, c0, c1, c2, c3, f1, f2, f3, hi, h200, htok⟩ := ey_cells h
  have hlt' : ((l.length : Nat) : Int) ≤ (i : Int) := by omega
  clear htok hlt h c3 f1 f2 f3
  go_enter Tryz.func84, Tryz.ntmps84
  go_wp2_with fail
  go_quiet (fail)
  all_goals
    go_wp2_with fail
    go_ret
    exact ⟨rfl, ey_drewN HH.out nq, HM.out.drewN nq⟩

end Go.Proofs.YtieoddnaknpmlabGreatDoor
