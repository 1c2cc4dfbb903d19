/- What the reference's sees answers where something is wrong already. -/
import Derived.Test.YtpamadnckijfkabGreatDoorEye
namespace Go.Proofs.YtpamadnckijfkabGreatDoor
open Go.RowKit
set_option maxRecDepth 100000

set_option maxHeartbeats 8000000 in
theorem sees_err (B : Nat) (l : Toks) (i : Nat) (e d : Int) (s : ByteArray) (w : World) (h : EyeAt B l i e d w) (he : e ≠ 0) :
    Calls Tryz.prog 84 #[.pointer (some ⟨B, 0, none⟩), .string s] w fun r w' => r = .returned (.bool false) ∧ EyeAt B l i e d w' ∧ Moved B w w' := by
  have HH := veil h
  have HM := veil (Moved.refl B w)
  obtain ⟨ta, tcap, c0, c1, c2, c3, f1, f2, f3, hi, h200, htok⟩ := ey_cells h
  have he' : (e != 0) = true := bne_iff_ne.2 he
  clear htok he h c3 f1 f2 f3
  go_enter Tryz.func84, Tryz.ntmps84
  go_wp2_with fail
  go_quiet (fail)
  all_goals
    go_wp2_with fail
    go_ret
    exact ⟨rfl, ey_drewN HH.out nq, HM.out.drewN nq⟩

end Go.Proofs.YtpamadnckijfkabGreatDoor
