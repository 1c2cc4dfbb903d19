/- At every text tree.Read answers what the reference's ModuleOf answers (TreeReads), without conditions. The card is tied to the program's text. -/
import Derived.Test.YtieoddnaknpmlabGreatDoorJEyeMod2
import Derived.Test.YtieoddnaknpmlabGreatDoorJEk
import Derived.Test.YtieoddnaknpmlabGreatDoorTie
import Derived.Test.YtieoddnaknpmlabGreatDoorCards
import Derived.ProofKit
import Derived.OpenShut
import Derived.ShutString
import Derived.ChangeOld
import Derived.Lay
import Derived.LaidMore
import Derived.Stop.Joined
import Derived.SevenTiedAt
import Derived.SizedLaws
namespace Go.Proofs.YtieoddnaknpmlabGreatDoor.treeReads
open Go.ChangeShapes Go.WideShapes Go.ChangeAt Go.RowKit
set_option maxRecDepth 100000
open Go.ChangeMaps (open_string shut_string)

theorem own : ownKnob Tryz.prog.godebug = none := by kernel_rfl

theorem mo_slices {S : Nat → Prop} {w : World} {m : Mo} {v : Value} (h : MoIs S w m v) : ∃ a1 c1 a2 c2 a3 c3, v = .agg #[.slice a1 m.uses.length c1, .slice a2 m.types.length c2, .slice a3 m.funcs.length c3] := by
  obtain ⟨vu, vt, vf, rfl, ⟨a1, c1, rfl, _⟩, ⟨a2, c2, rfl, _⟩, ⟨a3, c3, rfl, _⟩⟩ := h
  exact ⟨a1, c1, a2, c2, a3, c3, rfl⟩

set_option maxHeartbeats 4000000 in
theorem walk (s : ByteArray) (w : World) :
    Calls Tryz.prog 3 #[.string s] w fun e w' => e = .returned (.bool true) ∧ Below w.heap.size w w' := by
  have hr : (readErr s == readErr s) = true := by simp
  have HRead := veil (read_all s)
  have HRef := veil (moduleOf_all s)
  have HSame := veil (fun (S : Nat → Prop) (v u : Value) (w : World) => sameModule_any S (readMo s) v u w)
  go_enter Tryz.func3, Tryz.ntmps3
  go_wp2_with fail
  refine (HRead.out _).mono ?_
  rintro e w2 ⟨hb2, v2, rfl, hm2⟩
  obtain ⟨a1, c1, a2, c2, a3, c3, rfl⟩ := mo_slices hm2
  have HM2 := veil hm2
  generalize readErr s = n at *
  generalize (readMo s).uses.length = q1 at *
  generalize (readMo s).types.length = q2 at *
  generalize (readMo s).funcs.length = q3 at *
  have hw3 : ∃ w3, w2.alloc (.cells #[.slice a1 q1 c1, .slice a2 q2 c2, .slice a3 q3 c3] 26) = w3 ∧ w3.heap.size = w2.heap.size + 1 ∧ w3.cell? ⟨w2.heap.size, 0, none⟩ = some (.slice a1 q1 c1) ∧ w3.cell? ⟨w2.heap.size, 1, none⟩ = some (.slice a2 q2 c2) ∧ w3.cell? ⟨w2.heap.size, 2, none⟩ = some (.slice a3 q3 c3) ∧ Below w2.heap.size w2 w3 :=
    ⟨_, rfl, by simp, World.cell?_alloc_at _ _ _ _ rfl, World.cell?_alloc_at _ _ _ _ rfl, World.cell?_alloc_at _ _ _ _ rfl, (Below.refl _ _).alloc (Nat.le_refl _) _⟩
  obtain ⟨w3, hwe, hs3, x0, x1, x2, hb3⟩ := hw3
  have HB2 := veil hb2
  have HB3 := veil hb3
  have HWe := veil hwe
  clear hwe hb2 hb3 hm2 HRead
  go_wp2_with fail
  rw [HWe.out]
  refine (HRef.out _).mono ?_
  rintro e w4 ⟨hb4, v4, rfl, hm4⟩
  obtain ⟨d1, e1, d2, e2, d3, e3, rfl⟩ := mo_slices hm4
  have HM4 := veil hm4
  clear HWe
  generalize (readMo s).uses.length = q4 at *
  generalize (readMo s).types.length = q5 at *
  generalize (readMo s).funcs.length = q6 at *
  have hs4 := hb4.size
  have HB5 : Hid (Below w2.heap.size w2 (w4.alloc (.cells #[.slice d1 q4 e1, .slice d2 q5 e2, .slice d3 q6 e3] 26))) := (HB3.out.trans (hb4.mono (by omega))).alloc (by omega) _
  have HB6 : Hid (Below w4.heap.size w4 (w4.alloc (.cells #[.slice d1 q4 e1, .slice d2 q5 e2, .slice d3 q6 e3] 26))) := (Below.refl _ _).alloc (Nat.le_refl _) _
  have HFin := veil (HB2.out.trans (HB5.out.mono HB2.out.size))
  have HN : Hid (w4.heap.size ≤ (w4.alloc (.cells #[.slice d1 q4 e1, .slice d2 q5 e2, .slice d3 q6 e3] 26)).heap.size) := HB6.out.size
  have y0 := (World.cell?_alloc_old w4 (.cells #[.slice d1 q4 e1, .slice d2 q5 e2, .slice d3 q6 e3] 26) ⟨w2.heap.size, 0, none⟩ (by show w2.heap.size ≠ w4.heap.size; omega)).trans ((hb4.cell (p := ⟨w2.heap.size, 0, none⟩) (by show w2.heap.size < _; omega)).trans x0)
  have y1 := (World.cell?_alloc_old w4 (.cells #[.slice d1 q4 e1, .slice d2 q5 e2, .slice d3 q6 e3] 26) ⟨w2.heap.size, 1, none⟩ (by show w2.heap.size ≠ w4.heap.size; omega)).trans ((hb4.cell (p := ⟨w2.heap.size, 1, none⟩) (by show w2.heap.size < _; omega)).trans x1)
  have y2 := (World.cell?_alloc_old w4 (.cells #[.slice d1 q4 e1, .slice d2 q5 e2, .slice d3 q6 e3] 26) ⟨w2.heap.size, 2, none⟩ (by show w2.heap.size ≠ w4.heap.size; omega)).trans ((hb4.cell (p := ⟨w2.heap.size, 2, none⟩) (by show w2.heap.size < _; omega)).trans x2)
  clear hb4 hm4 x0 x1 x2
  go_wp2_with fail
  refine (HSame.out (fun b => b < (w4.alloc (.cells #[.slice d1 q4 e1, .slice d2 q5 e2, .slice d3 q6 e3] 26)).heap.size) _ _ _ (fun _ h => h) (HM2.out.keep ⟨fun b hb => HB5.out.block b hb.2, fun b hb => Nat.lt_of_lt_of_le hb.2 HB5.out.size⟩) (HM4.out.keep ⟨fun b hb => HB6.out.block b hb.2, fun b hb => Nat.lt_of_lt_of_le hb.2 HN.out⟩)).mono ?_
  rintro e w6 ⟨rfl, hb6⟩
  have HEnd := veil (HFin.out.trans (hb6.mono HFin.out.size))
  clear hb6 HB5 HB6 HFin
  go_wp2_with fail
  go_ret
  exact ⟨rfl, HEnd.out⟩

/-! ### The row, and the card -/

abbrev laidRows : List (String × DataW Unit) := Rows.treeReadsRow.laid

theorem laid_met (os : Os) (args : Array Value) : laidMetH Tryz.prog laidRows ((World.laidAll Tryz.prog os laidRows).forCall (fun _ _ => 0) ⟨#[], args, []⟩).memory := by
  rw [MakeChecks.laidMetH_plain _ _ _ (by kernel_rfl)]
  exact laidMet_laidAll _ (by kernel_rfl) (by kernel_rfl)

set_option maxRecDepth 100000 in
theorem lifted (os : Os) (started : os.Started) (H : Type) (enc : TypeId × Value → H) :
    ReturnsInHanded {} Tryz.checked os 3 .any (fun w args => (Rows.treeReadsSpec.pre enc Tryz.prog Tryz.f3 [] false w args ∧ laidMetH Tryz.prog laidRows w) ∧ sizedMet enc Tryz.prog Tryz.f3 (OpenSpec.ofChange Rows.treeReadsSpec) false w args)
      (Rows.treeReadsSpec.post enc Tryz.prog Tryz.f3 false true false false) := by
  refine returnsInHanded_of_change_and (C := Tryz.checked) (X := fun w _ => laidMetH Tryz.prog laidRows w) (fun _ _ _ hh h => h.of_heap hh) own started (by kernel_rfl) Tryz.func3
    (ChangeSpec.witness_shaped (enc := enc) (C := Tryz.checked) (os := os) (X := fun w _ => laidMetH Tryz.prog laidRows w) false (World.laidAll Tryz.prog os laidRows) #[.string ByteArray.empty] 8 rfl (World.shaped_of_ZipB (by kernel_rfl) (by kernel_rfl)) (by kernel_rfl) (by kernel_rfl) (by kernel_rfl) (laid_met os _)) ?_
  intro W base args ds gs before hval0 hW _ hsz hL _
  have hval : ∀ (j : Nat) t v, Tryz.f3.params[j]? = some t → args[j]? = some v → Value.okWide Tryz.prog W .any base t v := hval0
  have hW' := hW
  obtain ⟨p, q, hA0, hV, rfl, hfz, hnd⟩ := hW
  have hA : DataW.TrodAll enc Tryz.prog W 0 (fun _ => true) true Tryz.f3.params.toList args.toList ds p := hA0
  rw [Tryz.params3] at hA hval
  obtain ⟨v0, vs0, d0, ds0, p0, q0, hargs, rfl, rfl, h0, r0⟩ := trodAll_cons hA
  obtain ⟨rfl, rfl, rfl⟩ := trodAll_nil r0
  obtain rfl : args = #[v0] := by cases args; simp_all
  obtain ⟨rfl, rfl⟩ := trodVars_none hV
  obtain ⟨a0, rfl, rfl, rfl, w0⟩ := open_string Tryz.underlying9 (hval 0 9 v0 rfl rfl) h0
  clear hA0 hval0 hsz hL
  simp only [List.append_nil] at hW'
  refine (walk a0 W).mono fun e W' ⟨he, hg⟩ => ?_
  subst he
  refine ⟨_, rfl, _, _, _, [], [], [], hW', ?_, ?_, ?_, hg.frame _, fun h => by cases h⟩
  · exact trodAll_cons_mk (shut_bool Tryz.underlying4 _) trodAll_mk0
  · exact trodAll_cons_mk (shut_string Tryz.underlying9 w0) trodAll_mk0
  · rfl

theorem over : Rows.TreeReadsSaid :=
  OpenClaim.holds_of_wide 3 Tryz.f3 rfl rfl rfl rfl rfl rfl rfl ⟨rfl, rfl, rfl, rfl, rfl⟩ rfl rfl rfl rfl rfl (by kernel_rfl) Tryz.func3 (by kernel_rfl)
    (of_decide_eq_true (by kernel_rfl)) (by unfold Func.isWrapper; first | (rw [if_pos (by decide +kernel)]; kernel_rfl) | (rw [if_neg (by decide +kernel)]; exact ⟨rfl, rfl⟩))
    (fun os started H enc _ => lifted os started H enc)

theorem proved : Rows.TreeReadsCardSaid :=
  Claim7.holds_tied_plain_at .later [] [.data, .data, .data, .data, .sentinel, .sentinel, .pinned] true (true, "82e91238c515189ecd4931e99543513ab3ce080ed6a736506114f6ab961845af") true
    over (fun _ h => by cases h) (by kernel_rfl) (fun _ h => by cases h) treeReads_row_tie rfl ⟨rfl, rfl⟩ (by kernel_rfl) rfl
    (fun f fn hf hfn => by
      obtain rfl : f = 3 := Option.some.inj ((show Tryz.prog.funcNamed "scullery/scullerylaw.TreeReads" = some 3 by kernel_rfl).symm.trans hf) |>.symm
      obtain rfl : fn = Tryz.f3 := (Option.some.inj (Tryz.func3.symm.trans hfn)).symm
      exact ⟨by kernel_rfl, fun j t ht => by
        rw [Tryz.params3] at ht
        have hm : t ∈ [9] := by simpa using Array.mem_of_getElem? ht
        have hall : ([9].all fun u => !Tryz.prog.wantsStandIn u) = true := by kernel_rfl
        exact (show Tryz.prog.wantsStandIn t = false by simpa using List.all_eq_true.1 hall t hm)⟩)
    (by kernel_rfl)
#print axioms proved
end Go.Proofs.YtieoddnaknpmlabGreatDoor.treeReads
