/- The closed facts of FacesGood's row, each for itself. -/
import Derived.Test.YtedpiamfpbdhoaaGreatDoorRows
import Derived.JoinedOf
import Derived.SevenTiedAt
namespace Go.Proofs.YtedpiamfpbdhoaaGreatDoor.facesGood

theorem and_t {a b : Bool} (h : a = true) (g : b = true) : (a && b) = true := by rw [h, g]; rfl
set_option maxHeartbeats 4000000 in
set_option maxRecDepth 1000000 in
theorem closed : joinedFacts Tryz.prog 4 Tryz.f4 Rows.facesGoodSpec Rows.facesGoodRow = true := by
  unfold joinedFacts
  iterate 31 refine and_t ?_ ?_
  all_goals as_aux_lemma => kernel_rfl
theorem named : Tryz.prog.funcNamed "scullery/scullerykeep.FacesGood" = some 4 := by kernel_rfl
theorem inst : Tryz.f4.isInstance Tryz.prog Rows.facesGoodRow.origin Rows.facesGoodRow.targs := of_decide_eq_true (by kernel_rfl)
theorem wrap : Tryz.f4.isWrapper Tryz.prog Rows.facesGoodRow.wrapper Rows.facesGoodRow.mainSum := by unfold Func.isWrapper; first | (rw [if_pos (by decide +kernel)]; kernel_rfl) | (rw [if_neg (by decide +kernel)]; exact ⟨rfl, rfl⟩)
theorem byText : Rows.facesGoodRow.wfByText (OpenSpec.ofChange Rows.facesGoodSpec) = true := by kernel_rfl
theorem mainOk : Tryz.prog.mainIs = some (true, "49e8a0c8b53c6ea70ced2ad59d07a0deae070f3f842ac8893ac6b759739e2ada".toList) := by kernel_rfl
theorem looksOk : true = Tryz.prog.looks [] := by kernel_rfl
theorem standIns : ([34, 34].all fun u => !Tryz.prog.wantsStandIn u) = true := by kernel_rfl
theorem goesOk : false = Rows.facesGoodRow.goesBy Tryz.prog := by kernel_rfl
theorem laidBut : laidOutB Tryz.prog = true := by kernel_rfl
end Go.Proofs.YtedpiamfpbdhoaaGreatDoor.facesGood
