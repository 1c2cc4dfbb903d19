/- What the reference's sees answers, where the next token is that sign. -/
import Derived.Test.YtpamadnckijfkabGreatDoorEye
namespace Go.Proofs.YtpamadnckijfkabGreatDoor
open Go.RowKit
set_option maxRecDepth 100000

set_option maxHeartbeats 20000000 in
theorem sees_sign (B : Nat) (l : Toks) (i : Nat) (d : Int) (s : ByteArray) (w : World) (h : EyeAt B l i 0 d w) (hlt : i < l.length) (hk : l[i].1 = 4) (hs : (l[i].2.toList == s.toList) = true) :
    Calls Tryz.prog 84 #[.pointer (some ⟨B, 0, none⟩), .string s] w fun r w' => r = .returned (.bool true) ∧ EyeAt B l (i + 1) 0 d w' ∧ Moved B w w' := by
  have HH := veil h
  have HM := veil (Moved.refl B w)
  obtain ⟨ta, tcap, c0, c1, c2, c3, f1, f2, f3, hi, h200, htok⟩ := ey_cells h
  clear h c3 f2 f3
  obtain ⟨b, off, rfl, hbB, t0, t1, hsz⟩ := htok hlt
  have hlt' : ¬ ((l.length : Nat) : Int) ≤ (i : Int) := by omega
  have hlt3 : (i : Int) < (l.length : Int) := by omega
  have HN2 := veil (fun n => ey_set1 (ey_drewN HH.out n) hlt)
  clear htok
  rw [hk] at t0
  have hs' : (l[i].2.toList != s.toList) = false := by simp [bne, hs]
  clear hk
  generalize l[i].2 = tx at *
  go_enter Tryz.func84, Tryz.ntmps84
  go_wp2_with fail
  go_quiet (fail)
  all_goals
    go_wp2_with fail
    go_ret
    exact ⟨rfl, HN2.out nq, (HM.out.drewN nq).set 1 _⟩

end Go.Proofs.YtpamadnckijfkabGreatDoor
