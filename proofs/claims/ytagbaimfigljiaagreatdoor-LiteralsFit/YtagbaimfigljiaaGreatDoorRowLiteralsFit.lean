/- The closed facts of LiteralsFit's row, each for itself. -/
import Derived.Test.YtagbaimfigljiaaGreatDoorRows
import Derived.JoinedOf
import Derived.SevenTiedAt
namespace Go.Proofs.YtagbaimfigljiaaGreatDoor.literalsFit

theorem and_t {a b : Bool} (h : a = true) (g : b = true) : (a && b) = true := by rw [h, g]; rfl
theorem q0 : (Rows.literalsFitRow.wf (OpenSpec.ofChange Rows.literalsFitSpec)) = true := by kernel_rfl
theorem q1 : (laidOutB Tryz.prog) = true := by kernel_rfl
theorem q2 : (mapsRowed Tryz.prog) = true := by kernel_rfl
theorem q3 : (Tryz.f6.params.all (Tryz.prog.readableRec ·)) = true := by kernel_rfl
theorem q4 : (namedTie Tryz.prog Rows.literalsFitRow.named Rows.literalsFitSpec.vars) = true := by kernel_rfl
theorem q5 : ((Rows.literalsFitRow.stops == [])) = true := by kernel_rfl
theorem q6 : ((Tryz.prog.stops == [])) = true := by kernel_rfl
theorem q7 : ((Rows.literalsFitRow.knobs == [])) = true := by kernel_rfl
theorem q8 : ((Tryz.prog.stopKnobs == [])) = true := by kernel_rfl
theorem q9 : ((Rows.literalsFitRow.inPlace == Tryz.prog.inPlace 6)) = true := by kernel_rfl
theorem q10 : ((Rows.literalsFitRow.unfollowed == Tryz.prog.unfollowed 6)) = true := by kernel_rfl
theorem q11 : ((Rows.literalsFitRow.recurses == Tryz.prog.recurses 6)) = true := by kernel_rfl
theorem q12 : ((Rows.literalsFitRow.named == Tryz.prog.varsNamed 6)) = true := by kernel_rfl
theorem q13 : ((Rows.literalsFitRow.maps == (Tryz.f6.params.toList ++ Rows.literalsFitSpec.plain.varTypes Tryz.prog).any (Tryz.prog.mapsRec ·))) = true := by kernel_rfl
theorem q14 : ((Rows.literalsFitRow.ifaces == (Tryz.f6.params.toList ++ Rows.literalsFitSpec.plain.varTypes Tryz.prog).any (Tryz.prog.ifacesRec ·))) = true := by kernel_rfl
theorem q15 : ((Rows.literalsFitRow.mapsOut == Tryz.prog.mapsAmong Tryz.f6.resultTypes.toList)) = true := by kernel_rfl
theorem q16 : ((Rows.literalsFitRow.loops == (Tryz.f6.params.toList ++ Rows.literalsFitSpec.plain.varTypes Tryz.prog).any (Tryz.prog.loopsFrom ·))) = true := by kernel_rfl
theorem q17 : ((Rows.literalsFitRow.wideKeys == (Tryz.f6.params.toList ++ Rows.literalsFitSpec.plain.varTypes Tryz.prog ++ Tryz.f6.resultTypes.toList).any (Tryz.prog.wideKeysFrom ·))) = true := by kernel_rfl
theorem q18 : (Rows.literalsFitSpec.vars.all (Tryz.prog.varReadable ·)) = true := by kernel_rfl
theorem q19 : (Tryz.f6.resultTypes.all (fun t => Tryz.prog.readableRec t && decide (t < Tryz.prog.types.size))) = true := by kernel_rfl
theorem q20 : ((Rows.literalsFitRow.ifacesOut == Tryz.f6.resultTypes.toList.any (Tryz.prog.ifacesRec ·))) = true := by kernel_rfl
theorem q21 : ((Rows.literalsFitRow.loopsOut == Tryz.f6.resultTypes.toList.any (Tryz.prog.loopsFrom ·))) = true := by kernel_rfl
theorem q22 : ((Rows.literalsFitRow.plainKeys == Tryz.prog.plainKeys)) = true := by kernel_rfl
theorem q23 : (Rows.literalsFitRow.shortTexts.isNone) = true := by kernel_rfl
theorem q24 : (Tryz.prog.stopsHeard) = true := by kernel_rfl
theorem q25 : (Tryz.prog.mayEnter) = true := by kernel_rfl
theorem q26 : ((Rows.literalsFitRow.lifted == Tryz.prog.liftsFinal)) = true := by kernel_rfl
theorem q27 : ((Tryz.prog.make == some Rows.literalsFitRow.make)) = true := by kernel_rfl
theorem q28 : ((Rows.literalsFitRow.kinds == (if Rows.literalsFitRow.domain.isEmpty then [] else Tryz.f6.params.toList.map fun t => match Tryz.prog.underlying t with | some (.int k) => some k | _ => none))) = true := by kernel_rfl
theorem q29 : ((Rows.literalsFitRow.pinned == Rows.literalsFitRow.pinnedBy)) = true := by kernel_rfl
theorem q30 : ((Rows.literalsFitRow.veiled == (Tryz.f6.params.toList ++ Rows.literalsFitSpec.plain.varTypes Tryz.prog ++ Tryz.f6.resultTypes.toList).any (Tryz.prog.veiledRec ·))) = true := by kernel_rfl
theorem q31 : (Rows.literalsFitRow.veiledFits Tryz.prog Tryz.f6.params.toList (Tryz.f6.params.toList ++ Rows.literalsFitSpec.plain.varTypes Tryz.prog ++ Tryz.f6.resultTypes.toList)) = true := by kernel_rfl
set_option maxRecDepth 1000000 in
theorem closed : joinedFacts Tryz.prog 6 Tryz.f6 Rows.literalsFitSpec Rows.literalsFitRow = true := by
  unfold joinedFacts
  exact (and_t (and_t (and_t (and_t (and_t (and_t (and_t (and_t (and_t (and_t (and_t (and_t (and_t (and_t (and_t (and_t (and_t (and_t (and_t (and_t (and_t (and_t (and_t (and_t (and_t (and_t (and_t (and_t (and_t (and_t (and_t q0 q1) q2) q3) q4) q5) q6) q7) q8) q9) q10) q11) q12) q13) q14) q15) q16) q17) q18) q19) q20) q21) q22) q23) q24) q25) q26) q27) q28) q29) q30) q31)
theorem named : Tryz.prog.funcNamed "scullery/scullerykeep.LiteralsFit" = some 6 := by kernel_rfl
theorem inst : Tryz.f6.isInstance Tryz.prog Rows.literalsFitRow.origin Rows.literalsFitRow.targs := of_decide_eq_true (by kernel_rfl)
theorem wrap : Tryz.f6.isWrapper Tryz.prog Rows.literalsFitRow.wrapper Rows.literalsFitRow.mainSum := by unfold Func.isWrapper; first | (rw [if_pos (by decide +kernel)]; kernel_rfl) | (rw [if_neg (by decide +kernel)]; exact ⟨rfl, rfl⟩)
theorem byText : Rows.literalsFitRow.wfByText (OpenSpec.ofChange Rows.literalsFitSpec) = true := by kernel_rfl
theorem mainOk : Tryz.prog.mainIs = some (true, "89924557b17f9ccb6b44d3a0bc7c3e5a3c527105e4d42c0ac174a6be0c85f341".toList) := by kernel_rfl
theorem looksOk : true = Tryz.prog.looks [] := by kernel_rfl
theorem standIns : ([3, 4].all fun u => !Tryz.prog.wantsStandIn u) = true := by kernel_rfl
theorem goesOk : false = Rows.literalsFitRow.goesBy Tryz.prog := by kernel_rfl
theorem laidBut : laidOutB Tryz.prog = true := q1
end Go.Proofs.YtagbaimfigljiaaGreatDoor.literalsFit
