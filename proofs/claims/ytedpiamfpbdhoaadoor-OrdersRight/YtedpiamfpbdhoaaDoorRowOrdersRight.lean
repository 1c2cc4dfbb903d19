/- The closed facts of OrdersRight's row, each for itself. -/
import Derived.Test.YtedpiamfpbdhoaaDoorRows
import Derived.JoinedOf
import Derived.SevenTiedAt
namespace Go.Proofs.YtedpiamfpbdhoaaDoor.ordersRight

theorem and_t {a b : Bool} (h : a = true) (g : b = true) : (a && b) = true := by rw [h, g]; rfl
set_option maxHeartbeats 4000000 in
set_option maxRecDepth 1000000 in
theorem closed : joinedFacts Tryd.prog 3 Tryd.f3 Rows.ordersRightSpec Rows.ordersRightRow = true := by
  unfold joinedFacts
  iterate 31 refine and_t ?_ ?_
  all_goals as_aux_lemma => kernel_rfl
theorem named : Tryd.prog.funcNamed "scullery/scullerykeep.OrdersRight" = some 3 := by kernel_rfl
theorem inst : Tryd.f3.isInstance Tryd.prog Rows.ordersRightRow.origin Rows.ordersRightRow.targs := of_decide_eq_true (by kernel_rfl)
theorem wrap : Tryd.f3.isWrapper Tryd.prog Rows.ordersRightRow.wrapper Rows.ordersRightRow.mainSum := by unfold Func.isWrapper; first | (rw [if_pos (by decide +kernel)]; kernel_rfl) | (rw [if_neg (by decide +kernel)]; exact ⟨rfl, rfl⟩)
theorem byText : Rows.ordersRightRow.wfByText (OpenSpec.ofChange Rows.ordersRightSpec) = true := by kernel_rfl
theorem mainOk : Tryd.prog.mainIs = some (true, "cb04e2d4f27873b7ddbedade7c49562d8937ae04711c9173ffa6a621e054f4df".toList) := by kernel_rfl
theorem looksOk : false = Tryd.prog.looks [] := by kernel_rfl
theorem standIns : ([22].all fun u => !Tryd.prog.wantsStandIn u) = true := by kernel_rfl
theorem goesOk : false = Rows.ordersRightRow.goesBy Tryd.prog := by kernel_rfl
theorem laidBut : laidOutB Tryd.prog = true := by kernel_rfl
end Go.Proofs.YtedpiamfpbdhoaaDoor.ordersRight
