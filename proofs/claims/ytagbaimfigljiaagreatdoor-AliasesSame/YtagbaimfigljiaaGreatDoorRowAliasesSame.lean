/- The closed facts of AliasesSame's row, each for itself. -/
import Derived.Test.YtagbaimfigljiaaGreatDoorRows
import Derived.JoinedOf
import Derived.SevenTiedAt
namespace Go.Proofs.YtagbaimfigljiaaGreatDoor.aliasesSame

theorem and_t {a b : Bool} (h : a = true) (g : b = true) : (a && b) = true := by rw [h, g]; rfl
theorem q0 : (Rows.aliasesSameRow.wf (OpenSpec.ofChange Rows.aliasesSameSpec)) = true := by kernel_rfl
theorem q1 : (laidOutB Tryz.prog) = true := by kernel_rfl
theorem q2 : (mapsRowed Tryz.prog) = true := by kernel_rfl
theorem q3 : (Tryz.f8.params.all (Tryz.prog.readableRec ·)) = true := by kernel_rfl
theorem q4 : (namedTie Tryz.prog Rows.aliasesSameRow.named Rows.aliasesSameSpec.vars) = true := by kernel_rfl
theorem q5 : ((Rows.aliasesSameRow.stops == [])) = true := by kernel_rfl
theorem q6 : ((Tryz.prog.stops == [])) = true := by kernel_rfl
theorem q7 : ((Rows.aliasesSameRow.knobs == [])) = true := by kernel_rfl
theorem q8 : ((Tryz.prog.stopKnobs == [])) = true := by kernel_rfl
theorem q9 : ((Rows.aliasesSameRow.inPlace == Tryz.prog.inPlace 8)) = true := by kernel_rfl
theorem q10 : ((Rows.aliasesSameRow.unfollowed == Tryz.prog.unfollowed 8)) = true := by kernel_rfl
theorem q11 : ((Rows.aliasesSameRow.recurses == Tryz.prog.recurses 8)) = true := by kernel_rfl
theorem q12 : ((Rows.aliasesSameRow.named == Tryz.prog.varsNamed 8)) = true := by kernel_rfl
theorem q13 : ((Rows.aliasesSameRow.maps == (Tryz.f8.params.toList ++ Rows.aliasesSameSpec.plain.varTypes Tryz.prog).any (Tryz.prog.mapsRec ·))) = true := by kernel_rfl
theorem q14 : ((Rows.aliasesSameRow.ifaces == (Tryz.f8.params.toList ++ Rows.aliasesSameSpec.plain.varTypes Tryz.prog).any (Tryz.prog.ifacesRec ·))) = true := by kernel_rfl
theorem q15 : ((Rows.aliasesSameRow.mapsOut == Tryz.prog.mapsAmong Tryz.f8.resultTypes.toList)) = true := by kernel_rfl
theorem q16 : ((Rows.aliasesSameRow.loops == (Tryz.f8.params.toList ++ Rows.aliasesSameSpec.plain.varTypes Tryz.prog).any (Tryz.prog.loopsFrom ·))) = true := by kernel_rfl
theorem q17 : ((Rows.aliasesSameRow.wideKeys == (Tryz.f8.params.toList ++ Rows.aliasesSameSpec.plain.varTypes Tryz.prog ++ Tryz.f8.resultTypes.toList).any (Tryz.prog.wideKeysFrom ·))) = true := by kernel_rfl
theorem q18 : (Rows.aliasesSameSpec.vars.all (Tryz.prog.varReadable ·)) = true := by kernel_rfl
theorem q19 : (Tryz.f8.resultTypes.all (fun t => Tryz.prog.readableRec t && decide (t < Tryz.prog.types.size))) = true := by kernel_rfl
theorem q20 : ((Rows.aliasesSameRow.ifacesOut == Tryz.f8.resultTypes.toList.any (Tryz.prog.ifacesRec ·))) = true := by kernel_rfl
theorem q21 : ((Rows.aliasesSameRow.loopsOut == Tryz.f8.resultTypes.toList.any (Tryz.prog.loopsFrom ·))) = true := by kernel_rfl
theorem q22 : ((Rows.aliasesSameRow.plainKeys == Tryz.prog.plainKeys)) = true := by kernel_rfl
theorem q23 : (Rows.aliasesSameRow.shortTexts.isNone) = true := by kernel_rfl
theorem q24 : (Tryz.prog.stopsHeard) = true := by kernel_rfl
theorem q25 : (Tryz.prog.mayEnter) = true := by kernel_rfl
theorem q26 : ((Rows.aliasesSameRow.lifted == Tryz.prog.liftsFinal)) = true := by kernel_rfl
theorem q27 : ((Tryz.prog.make == some Rows.aliasesSameRow.make)) = true := by kernel_rfl
theorem q28 : ((Rows.aliasesSameRow.kinds == (if Rows.aliasesSameRow.domain.isEmpty then [] else Tryz.f8.params.toList.map fun t => match Tryz.prog.underlying t with | some (.int k) => some k | _ => none))) = true := by kernel_rfl
theorem q29 : ((Rows.aliasesSameRow.pinned == Rows.aliasesSameRow.pinnedBy)) = true := by kernel_rfl
theorem q30 : ((Rows.aliasesSameRow.veiled == (Tryz.f8.params.toList ++ Rows.aliasesSameSpec.plain.varTypes Tryz.prog ++ Tryz.f8.resultTypes.toList).any (Tryz.prog.veiledRec ·))) = true := by kernel_rfl
theorem q31 : (Rows.aliasesSameRow.veiledFits Tryz.prog Tryz.f8.params.toList (Tryz.f8.params.toList ++ Rows.aliasesSameSpec.plain.varTypes Tryz.prog ++ Tryz.f8.resultTypes.toList)) = true := by kernel_rfl
set_option maxRecDepth 1000000 in
theorem closed : joinedFacts Tryz.prog 8 Tryz.f8 Rows.aliasesSameSpec Rows.aliasesSameRow = true := by
  unfold joinedFacts
  exact (and_t (and_t (and_t (and_t (and_t (and_t (and_t (and_t (and_t (and_t (and_t (and_t (and_t (and_t (and_t (and_t (and_t (and_t (and_t (and_t (and_t (and_t (and_t (and_t (and_t (and_t (and_t (and_t (and_t (and_t (and_t q0 q1) q2) q3) q4) q5) q6) q7) q8) q9) q10) q11) q12) q13) q14) q15) q16) q17) q18) q19) q20) q21) q22) q23) q24) q25) q26) q27) q28) q29) q30) q31)
theorem named : Tryz.prog.funcNamed "scullery/scullerykeep.AliasesSame" = some 8 := by kernel_rfl
theorem inst : Tryz.f8.isInstance Tryz.prog Rows.aliasesSameRow.origin Rows.aliasesSameRow.targs := of_decide_eq_true (by kernel_rfl)
theorem wrap : Tryz.f8.isWrapper Tryz.prog Rows.aliasesSameRow.wrapper Rows.aliasesSameRow.mainSum := by unfold Func.isWrapper; first | (rw [if_pos (by decide +kernel)]; kernel_rfl) | (rw [if_neg (by decide +kernel)]; exact ⟨rfl, rfl⟩)
theorem byText : Rows.aliasesSameRow.wfByText (OpenSpec.ofChange Rows.aliasesSameSpec) = true := by kernel_rfl
theorem mainOk : Tryz.prog.mainIs = some (true, "89924557b17f9ccb6b44d3a0bc7c3e5a3c527105e4d42c0ac174a6be0c85f341".toList) := by kernel_rfl
theorem looksOk : true = Tryz.prog.looks [] := by kernel_rfl
theorem standIns : ([59, 3].all fun u => !Tryz.prog.wantsStandIn u) = true := by kernel_rfl
theorem goesOk : false = Rows.aliasesSameRow.goesBy Tryz.prog := by kernel_rfl
theorem laidBut : laidOutB Tryz.prog = true := q1
end Go.Proofs.YtagbaimfigljiaaGreatDoor.aliasesSame
