/- The closed facts of VarsFit's row, each for itself. -/
import Derived.Test.YtagbaimfigljiaaGreatDoorRows
import Derived.JoinedOf
import Derived.SevenTiedAt
namespace Go.Proofs.YtagbaimfigljiaaGreatDoor.varsFit

theorem and_t {a b : Bool} (h : a = true) (g : b = true) : (a && b) = true := by rw [h, g]; rfl
theorem q0 : (Rows.varsFitRow.wf (OpenSpec.ofChange Rows.varsFitSpec)) = true := by kernel_rfl
theorem q1 : (laidOutB Tryz.prog) = true := by kernel_rfl
theorem q2 : (mapsRowed Tryz.prog) = true := by kernel_rfl
theorem q3 : (Tryz.f7.params.all (Tryz.prog.readableRec ·)) = true := by kernel_rfl
theorem q4 : (namedTie Tryz.prog Rows.varsFitRow.named Rows.varsFitSpec.vars) = true := by kernel_rfl
theorem q5 : ((Rows.varsFitRow.stops == [])) = true := by kernel_rfl
theorem q6 : ((Tryz.prog.stops == [])) = true := by kernel_rfl
theorem q7 : ((Rows.varsFitRow.knobs == [])) = true := by kernel_rfl
theorem q8 : ((Tryz.prog.stopKnobs == [])) = true := by kernel_rfl
theorem q9 : ((Rows.varsFitRow.inPlace == Tryz.prog.inPlace 7)) = true := by kernel_rfl
theorem q10 : ((Rows.varsFitRow.unfollowed == Tryz.prog.unfollowed 7)) = true := by kernel_rfl
theorem q11 : ((Rows.varsFitRow.recurses == Tryz.prog.recurses 7)) = true := by kernel_rfl
theorem q12 : ((Rows.varsFitRow.named == Tryz.prog.varsNamed 7)) = true := by kernel_rfl
theorem q13 : ((Rows.varsFitRow.maps == (Tryz.f7.params.toList ++ Rows.varsFitSpec.plain.varTypes Tryz.prog).any (Tryz.prog.mapsRec ·))) = true := by kernel_rfl
theorem q14 : ((Rows.varsFitRow.ifaces == (Tryz.f7.params.toList ++ Rows.varsFitSpec.plain.varTypes Tryz.prog).any (Tryz.prog.ifacesRec ·))) = true := by kernel_rfl
theorem q15 : ((Rows.varsFitRow.mapsOut == Tryz.prog.mapsAmong Tryz.f7.resultTypes.toList)) = true := by kernel_rfl
theorem q16 : ((Rows.varsFitRow.loops == (Tryz.f7.params.toList ++ Rows.varsFitSpec.plain.varTypes Tryz.prog).any (Tryz.prog.loopsFrom ·))) = true := by kernel_rfl
theorem q17 : ((Rows.varsFitRow.wideKeys == (Tryz.f7.params.toList ++ Rows.varsFitSpec.plain.varTypes Tryz.prog ++ Tryz.f7.resultTypes.toList).any (Tryz.prog.wideKeysFrom ·))) = true := by kernel_rfl
theorem q18 : (Rows.varsFitSpec.vars.all (Tryz.prog.varReadable ·)) = true := by kernel_rfl
theorem q19 : (Tryz.f7.resultTypes.all (fun t => Tryz.prog.readableRec t && decide (t < Tryz.prog.types.size))) = true := by kernel_rfl
theorem q20 : ((Rows.varsFitRow.ifacesOut == Tryz.f7.resultTypes.toList.any (Tryz.prog.ifacesRec ·))) = true := by kernel_rfl
theorem q21 : ((Rows.varsFitRow.loopsOut == Tryz.f7.resultTypes.toList.any (Tryz.prog.loopsFrom ·))) = true := by kernel_rfl
theorem q22 : ((Rows.varsFitRow.plainKeys == Tryz.prog.plainKeys)) = true := by kernel_rfl
theorem q23 : (Rows.varsFitRow.shortTexts.isNone) = true := by kernel_rfl
theorem q24 : (Tryz.prog.stopsHeard) = true := by kernel_rfl
theorem q25 : (Tryz.prog.mayEnter) = true := by kernel_rfl
theorem q26 : ((Rows.varsFitRow.lifted == Tryz.prog.liftsFinal)) = true := by kernel_rfl
theorem q27 : ((Tryz.prog.make == some Rows.varsFitRow.make)) = true := by kernel_rfl
theorem q28 : ((Rows.varsFitRow.kinds == (if Rows.varsFitRow.domain.isEmpty then [] else Tryz.f7.params.toList.map fun t => match Tryz.prog.underlying t with | some (.int k) => some k | _ => none))) = true := by kernel_rfl
theorem q29 : ((Rows.varsFitRow.pinned == Rows.varsFitRow.pinnedBy)) = true := by kernel_rfl
theorem q30 : ((Rows.varsFitRow.veiled == (Tryz.f7.params.toList ++ Rows.varsFitSpec.plain.varTypes Tryz.prog ++ Tryz.f7.resultTypes.toList).any (Tryz.prog.veiledRec ·))) = true := by kernel_rfl
theorem q31 : (Rows.varsFitRow.veiledFits Tryz.prog Tryz.f7.params.toList (Tryz.f7.params.toList ++ Rows.varsFitSpec.plain.varTypes Tryz.prog ++ Tryz.f7.resultTypes.toList)) = true := by kernel_rfl
set_option maxRecDepth 1000000 in
theorem closed : joinedFacts Tryz.prog 7 Tryz.f7 Rows.varsFitSpec Rows.varsFitRow = true := by
  unfold joinedFacts
  exact (and_t (and_t (and_t (and_t (and_t (and_t (and_t (and_t (and_t (and_t (and_t (and_t (and_t (and_t (and_t (and_t (and_t (and_t (and_t (and_t (and_t (and_t (and_t (and_t (and_t (and_t (and_t (and_t (and_t (and_t (and_t q0 q1) q2) q3) q4) q5) q6) q7) q8) q9) q10) q11) q12) q13) q14) q15) q16) q17) q18) q19) q20) q21) q22) q23) q24) q25) q26) q27) q28) q29) q30) q31)
theorem named : Tryz.prog.funcNamed "scullery/scullerykeep.VarsFit" = some 7 := by kernel_rfl
theorem inst : Tryz.f7.isInstance Tryz.prog Rows.varsFitRow.origin Rows.varsFitRow.targs := of_decide_eq_true (by kernel_rfl)
theorem wrap : Tryz.f7.isWrapper Tryz.prog Rows.varsFitRow.wrapper Rows.varsFitRow.mainSum := by unfold Func.isWrapper; first | (rw [if_pos (by decide +kernel)]; kernel_rfl) | (rw [if_neg (by decide +kernel)]; exact ⟨rfl, rfl⟩)
theorem byText : Rows.varsFitRow.wfByText (OpenSpec.ofChange Rows.varsFitSpec) = true := by kernel_rfl
theorem mainOk : Tryz.prog.mainIs = some (true, "89924557b17f9ccb6b44d3a0bc7c3e5a3c527105e4d42c0ac174a6be0c85f341".toList) := by kernel_rfl
theorem looksOk : true = Tryz.prog.looks [] := by kernel_rfl
theorem standIns : ([59, 59].all fun u => !Tryz.prog.wantsStandIn u) = true := by kernel_rfl
theorem goesOk : false = Rows.varsFitRow.goesBy Tryz.prog := by kernel_rfl
theorem laidBut : laidOutB Tryz.prog = true := q1
end Go.Proofs.YtagbaimfigljiaaGreatDoor.varsFit
