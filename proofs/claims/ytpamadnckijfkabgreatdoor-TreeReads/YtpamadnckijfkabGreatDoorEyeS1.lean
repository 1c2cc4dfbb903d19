/- What the reference's sees answers, where the next token is no sign. -/
import Derived.Test.YtpamadnckijfkabGreatDoorEye
namespace Go.Proofs.YtpamadnckijfkabGreatDoor
open Go.RowKit
set_option maxRecDepth 100000

set_option maxHeartbeats 20000000 in
theorem sees_kind (B : Nat) (l : Toks) (i : Nat) (d : Int) (s : ByteArray) (w : World) (h : EyeAt B l i 0 d w) (hlt : i < l.length) (hk : l[i].1 ≠ 4) :
    Calls Tryz.prog 84 #[.pointer (some ⟨B, 0, none⟩), .string s] w fun r w' => r = .returned (.bool false) ∧ EyeAt B l i 0 d w' ∧ Moved B w w' := by
  have HH := veil h
  have HM := veil (Moved.refl B w)
  obtain ⟨ta, tcap, c0, c1, c2, c3, f1, f2, f3, hi, h200, htok⟩ := ey_cells h
  clear h c3 f2 f3
  obtain ⟨b, off, rfl, hbB, t0, t1, hsz⟩ := htok hlt
  have hlt' : ¬ ((l.length : Nat) : Int) ≤ (i : Int) := by omega
  have hlt3 : (i : Int) < (l.length : Int) := by omega
  have HN2 := veil (fun n => ey_set1 (ey_drewN HH.out n) hlt)
  clear htok
  have hk' : (l[i].1 != 4) = true := bne_iff_ne.2 hk
  have hdn : decide (l.length ≤ i) = false := by simp; omega
  have hdi : decide (((l.length : Nat) : Int) ≤ (i : Int)) = false := by simp; omega
  clear hk HN2
  generalize l[i].1 = kd at *
  generalize l[i].2 = tx at *
  go_enter Tryz.func84, Tryz.ntmps84
  go_wp2_with fail
  go_quiet (fail)
  all_goals
    go_wp2_with fail
    go_ret
    exact ⟨rfl, ey_drewN HH.out nq, HM.out.drewN nq⟩

end Go.Proofs.YtpamadnckijfkabGreatDoor
