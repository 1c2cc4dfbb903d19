/- At every module tree.Show answers what the reference's ModuleText answers (TreeShows); what Go's own table of the powers of ten holds is tied to the program's text (a tied card). -/
import Derived.Test.YtaphjoggjfmbfabDoorTextMo
import Derived.Test.YtaphjoggjfmbfabDoorReadTree
import Derived.Test.YtaphjoggjfmbfabDoorCards
import Derived.Test.YtaphjoggjfmbfabDoorTie
import Derived.ProofKit
import Derived.LaidMore
import Derived.OpenShut
import Derived.ChangeOld
import Derived.Stop.Joined
import Derived.SevenTiedAt
import Derived.Lib.LaidTab
import Derived.Stop.LaidErr
import Derived.SizedLaws
namespace Go.Proofs.YtaphjoggjfmbfabDoor.treeShows
open Go.ChangeShapes Go.WideShapes Go.ChangeAt Go.RowKit

theorem own : ownKnob Tryd.prog.godebug = none := by kernel_rfl
theorem laidOut : laidOutB Tryd.prog = true := by kernel_rfl

set_option maxHeartbeats 1000000 in
theorem walk (v : Value) (m : Mo) (w : World) (h : MoIs (fun b => b < w.heap.size) w m v) (ht : TabIn w.heap.size w) (hs : m.uses.length + m.types.length + m.funcs.length < 4611686018427387904) :
    Calls Tryd.prog 3 #[v] w fun e w' => e = .returned (.bool true) ∧ Below w.heap.size w w' := by
  obtain ⟨vu, vt, vf, rfl, h1, h2, h3⟩ := h
  obtain ⟨u1, u2, u3, rfl⟩ := h1.slice
  obtain ⟨t1, t2, t3, rfl⟩ := h2.slice
  obtain ⟨f1, f2, f3, rfl⟩ := h3.slice
  have hm : MoIs (fun b => b < w.heap.size) w m (.agg #[.slice u1 u2 u3, .slice t1 t2 t3, .slice f1 f2 f3]) := ⟨_, _, _, rfl, h1, h2, h3⟩
  have HB : Hid (Below w.heap.size w (w.alloc (.cells #[.slice u1 u2 u3, .slice t1 t2 t3, .slice f1 f2 f3] 26))) := (Below.refl _ _).alloc (Nat.le_refl _) _
  have hks : Keeps (fun b => b < w.heap.size) (fun b => b < w.heap.size) w (w.alloc (.cells #[.slice u1 u2 u3, .slice t1 t2 t3, .slice f1 f2 f3] 26)) := Keeps.below HB.out (fun _ h => h)
  have ht' : TabIn (w.alloc (.cells #[.slice u1 u2 u3, .slice t1 t2 t3, .slice f1 f2 f3] 26)).heap.size (w.alloc (.cells #[.slice u1 u2 u3, .slice t1 t2 t3, .slice f1 f2 f3] 26)) := by
    obtain ⟨g, hg, hgB, hT⟩ := ht.keep HB.out
    exact ⟨g, hg, by simp; omega, hT⟩
  have C1 := veil (treeShow_any (fun b => b < w.heap.size) m (.agg #[.slice u1 u2 u3, .slice t1 t2 t3, .slice f1 f2 f3]) _ (fdIs_first (fun _ h => h) HB.out) (hm.keep hks) ht' hs)
  have HM := veil hm
  clear hm h1 h2 h3 hks ht'
  go_enter Tryd.func3, Tryd.ntmps3
  go_wp2_with fail
  refine C1.out.mono ?_
  rintro e w1 ⟨rfl, hb⟩
  have hc := bcell hb
  have HB1 := veil (HB.out.trans (hb.mono (by simp)))
  clear hb
  go_wp2_with fail
  refine (moduleText_any (fun b => b < w.heap.size) m _ w1 (fdIs_first (fun _ h => h) HB1.out) (HM.out.keep (Keeps.below HB1.out (fun _ h => h))) hs).mono ?_
  rintro e w2 ⟨rfl, hb2⟩
  go_wp2_with fail
  go_ret
  exact ⟨by simp, HB1.out.trans (hb2.mono HB1.out.size)⟩

/-! ### What the condition on the listed variables gives -/

abbrev laidRows : List (String × DataW Unit) := Rows.treeShowsRow.laid

theorem gPow : Tryd.prog.globalNamed "internal/strconv.uint64pow10" = some 0 := by kernel_rfl
theorem tPow : (Tryd.prog.globals[0]?).map (·.type) = some 97 := by kernel_rfl
theorem cellsU64 : Tryd.prog.cellsOf 90 = 1 := by kernel_rfl
theorem cellsTab : Tryd.prog.cellsOf 97 = 20 := by kernel_rfl
theorem datum : (Rows.laid_internal_strconv_uint64pow10 : DataW Unit) = Lib.tabData .u64 Lib.pow10Tab := rfl

theorem tab_of_laid {W : World} (h : laidMetH Tryd.prog laidRows W) : TabIn W.heap.size W := by
  rw [MakeChecks.laidMetH_plain _ _ _ (by kernel_rfl)] at h
  have h' : laidMet Tryd.prog [("internal/strconv.uint64pow10", Lib.tabData .u64 Lib.pow10Tab)] W := laidMet.tail (laidMet.tail h)
  have ht := Lib.tabIs_of_head gPow tPow Tryd.underlying97 Tryd.underlying90 cellsU64 cellsTab h'
  refine ⟨_, gPow, ?_, ht⟩
  have := ht.cell gPow 0 (by rw [Lib.pow10Tab_length]; omega)
  exact World.block_lt_of_cell? W _ this

theorem door_met (os : Os) (args : Array Value) : laidMetH Tryd.prog laidRows ((World.doorLaid Tryd.prog 400 os).forCall (fun _ _ => 0) ⟨#[], args, []⟩).memory :=
  laidMetH_of_parts3 (fuel := 8) (laidMet_of_run' 8 (by kernel_rfl) (by kernel_rfl)) (by kernel_rfl) (by kernel_rfl)

/-! ### No list is longer than memory allows -/

theorem sl_len {α : Type} {H : Type} {enc : TypeId × Value → H} {W : World} {base : Nat} {spare : Nat → Bool} {held : Bool} {S : Nat → Prop} {P : α → Nat → Nat → Prop} {c fuel : Nat} {t e : TypeId} {v : Value} {l : List α} {x : DataW H × List MemPlace} (ht : Tryd.prog.underlying t = some (.slice e)) (hb : 0 < Tryd.prog.bytesOf e)
    (h : DataW.trod enc Tryd.prog W base spare held fuel t [v] = some x) (hw : (x.1.weights Tryd.prog t).all (· ≤ reachBytes) = true) (hl : SlAt S P c l v) : l.length ≤ reachBytes := by
  obtain ⟨a, cap, rfl, _, _⟩ := hl
  rcases DataW.trod_slice ht h with ⟨hcs, _⟩ | ⟨a', len, cap', elems, rest, n, _, hcs, rfl, _, _, _, hlen, _, _, _⟩
  · simp at hcs
    rw [hcs.2.1]
    simp [reachBytes]
  · simp at hcs
    obtain ⟨rfl, hln, rfl⟩ := hcs
    simp only [DataW.weights, ht, List.all_cons, Bool.and_eq_true, decide_eq_true_eq, List.length_map] at hw
    have h1 := hw.1
    rw [hlen, ← hln] at h1
    have h2 : l.length * 1 ≤ (l.length + rest.length) * Tryd.prog.bytesOf e := Nat.mul_le_mul (by omega) hb
    omega

theorem bytesS : 0 < Tryd.prog.bytesOf 9 := of_decide_eq_true (by kernel_rfl)
theorem bytesFd : 0 < Tryd.prog.bytesOf 43 := of_decide_eq_true (by kernel_rfl)
theorem bytesFu : 0 < Tryd.prog.bytesOf 49 := of_decide_eq_true (by kernel_rfl)

set_option maxRecDepth 100000 in
theorem mo_len {H : Type} {enc : TypeId × Value → H} {W : World} {base : Nat} {spare : Nat → Bool} {held : Bool} {fuel : Nat} {vu vt vf : Value} {x : DataW H × List MemPlace} {m : Mo} (h : DataW.trod enc Tryd.prog W base spare held fuel 26 [vu, vt, vf] = some x)
    (hw : (x.1.weights Tryd.prog 26).all (· ≤ reachBytes) = true) (hm : MoIs (fun b => b < W.heap.size) W m (.agg #[vu, vt, vf])) : m.uses.length + m.types.length + m.funcs.length < 4611686018427387904 := by
  obtain ⟨ys, n, _, rfl, _, hyl, hf⟩ := DataW.trod_struct Tryd.underlying26 h
  have g0 : DataW.trod enc Tryd.prog W base spare held n 22 (([vu, vt, vf].drop 0).take (Tryd.prog.cellsOf 22)) = ys[0]? := hf 0 _ rfl
  have g1 : DataW.trod enc Tryd.prog W base spare held n 23 (([vu, vt, vf].drop 1).take (Tryd.prog.cellsOf 23)) = ys[1]? := hf 1 _ rfl
  have g2 : DataW.trod enc Tryd.prog W base spare held n 24 (([vu, vt, vf].drop 2).take (Tryd.prog.cellsOf 24)) = ys[2]? := hf 2 _ rfl
  rw [cellsStrs] at g0
  rw [cellsFds] at g1
  rw [cellsFus] at g2
  match ys, hyl with
  | [y0, y1, y2], _ =>
    simp only [DataW.weights, Tryd.underlying26, List.map_cons, List.map_nil] at hw
    have hw' : ((y0.1.weights Tryd.prog 22 ++ (y1.1.weights Tryd.prog 23 ++ (y2.1.weights Tryd.prog 24 ++ []))).all (· ≤ reachBytes)) = true := hw
    simp only [List.all_append, Bool.and_eq_true, List.append_nil] at hw'
    obtain ⟨vu', vt', vf', hv, hu, hty, hfu⟩ := hm
    simp at hv
    obtain ⟨rfl, rfl, rfl⟩ := hv
    have a1 := sl_len Tryd.underlying22 bytesS (x := y0) g0 hw'.1 hu
    have a2 := sl_len Tryd.underlying23 bytesFd (x := y1) g1 hw'.2.1 hty
    have a3 := sl_len Tryd.underlying24 bytesFu (x := y2) g2 hw'.2.2 hfu
    have : reachBytes = 140737488351232 := rfl
    omega

set_option maxRecDepth 100000 in
theorem lifted (os : Os) (started : os.Started) (H : Type) (enc : TypeId × Value → H) :
    ReturnsInHanded {} Tryd.checked os 3 .any (fun w args => (Rows.treeShowsSpec.pre enc Tryd.prog Tryd.f3 [] false w args ∧ laidMetH Tryd.prog laidRows w) ∧ sizedMet enc Tryd.prog Tryd.f3 (OpenSpec.ofChange Rows.treeShowsSpec) false w args)
      (Rows.treeShowsSpec.post enc Tryd.prog Tryd.f3 false true false false) := by
  refine returnsInHanded_of_change_and (C := Tryd.checked) (X := fun w _ => laidMetH Tryd.prog laidRows w) (fun _ _ _ hh h => h.of_heap hh) own started (by kernel_rfl) Tryd.func3
    (ChangeSpec.witness_shaped (enc := enc) (C := Tryd.checked) (os := os) (X := fun w _ => laidMetH Tryd.prog laidRows w) false (World.doorLaid Tryd.prog 400 os) #[.agg #[.slice none 0 0, .slice none 0 0, .slice none 0 0]] 8 rfl (World.shaped_of_RefB (by kernel_rfl) (by kernel_rfl)) (by kernel_rfl) (by kernel_rfl) (by kernel_rfl) (door_met os _)) ?_
  intro W base args ds gs before hval0 hW _ hsz hL _
  have hval : ∀ (j : Nat) t v, Tryd.f3.params[j]? = some t → args[j]? = some v → Value.okWide Tryd.prog W .any base t v := hval0
  have hW' := hW
  obtain ⟨p, q, hA0, hV, rfl, hfz, hnd⟩ := hW
  have hA : DataW.TrodAll enc Tryd.prog W 0 (fun _ => true) true Tryd.f3.params.toList args.toList ds p := hA0
  have hsz1 : (DataW.weightsEach Tryd.prog (Tryd.f3.params.toList ++ Rows.treeShowsSpec.plain.varTypes Tryd.prog) (ds ++ gs)).all (· ≤ reachBytes) = true := hsz
  rw [Tryd.params3] at hA hval hsz1
  obtain ⟨v0, vs0, d0, ds0, p0, q0, hargs, rfl, rfl, h0, r0⟩ := trodAll_cons hA
  obtain ⟨rfl, rfl, rfl⟩ := trodAll_nil r0
  obtain rfl : args = #[v0] := by cases args; simp_all
  obtain ⟨rfl, rfl⟩ := trodVars_none hV
  obtain ⟨cs0, rfl, _⟩ := okWide_struct Tryd.underlying26 (hval 0 26 v0 rfl rfl)
  have k0 := h0
  have lt0 : ∀ x ∈ p0, x.block < W.heap.size := by obtain ⟨m, hm⟩ := k0; exact DataW.trod_lt m _ _ _ hm
  have hwt : (d0.weights Tryd.prog 26).all (· ≤ reachBytes) = true := by
    have : ((d0.weights Tryd.prog 26 ++ DataW.weightsEach Tryd.prog (Rows.treeShowsSpec.plain.varTypes Tryd.prog) []).all (· ≤ reachBytes)) = true := hsz1
    simp only [List.all_append, Bool.and_eq_true] at this
    exact this.1
  obtain ⟨l, w0, hln⟩ : ∃ l, MoIs (fun b => b < W.heap.size) W l (.agg cs0) ∧ l.uses.length + l.types.length + l.funcs.length < 4611686018427387904 := by
    obtain ⟨fuel, hf⟩ := h0
    obtain ⟨m, vu, vt, vf, hcs, hm⟩ := mo_read fuel _ _ hf
    have e : cs0 = #[vu, vt, vf] := by
      have : cs0.toList = [vu, vt, vf] := hcs
      cases cs0; simp_all
    subst e
    exact ⟨m, hm, mo_len (x := (d0, p0)) hf hwt hm⟩
  clear hA0 hval0 hsz
  refine (walk _ l W w0 (tab_of_laid hL) hln).mono fun e W' ⟨he, bel⟩ => ?_
  subst he
  exact ⟨_, rfl, _, _, _, [], _, [], hW', trodAll_mk1 (shut_bool Tryd.underlying4 _), (trodAll_cons_mk (Below.trod laidOut (by kernel_rfl) (of_decide_eq_true (by kernel_rfl)) k0 bel lt0) trodAll_mk0), rfl, bel.frame _, fun h => by cases h⟩

theorem over : Rows.TreeShowsSaid :=
  OpenClaim.holds_of_wide 3 Tryd.f3 rfl rfl rfl rfl rfl rfl rfl ⟨rfl, rfl, rfl, rfl, rfl⟩ rfl rfl rfl rfl rfl (by kernel_rfl) Tryd.func3 (by kernel_rfl)
    (of_decide_eq_true (by kernel_rfl)) (by unfold Func.isWrapper; first | (rw [if_pos (by decide +kernel)]; kernel_rfl) | (rw [if_neg (by decide +kernel)]; exact ⟨rfl, rfl⟩))
    (fun os started H enc _ => lifted os started H enc)

theorem proved : Rows.TreeShowsCardSaid :=
  Claim7.holds_tied_plain_at .later [] [.data, .data, .data] true (true, "5d5663f3e09bf78fb4648df0c06e9dfdbb59728657919aec92d25df246a808fd") false
    over (fun _ h => by cases h) (by kernel_rfl) (fun _ h => by cases h) treeShows_row_tie rfl ⟨rfl, rfl⟩ (by kernel_rfl) rfl
    (fun f fn hf hfn => by
      obtain rfl : f = 3 := Option.some.inj ((show Tryd.prog.funcNamed "scullery/scullerylaw.TreeShows" = some 3 by kernel_rfl).symm.trans hf) |>.symm
      obtain rfl : fn = Tryd.f3 := (Option.some.inj (Tryd.func3.symm.trans hfn)).symm
      exact ⟨by kernel_rfl, fun j t ht => by
        rw [Tryd.params3] at ht
        have hm : t ∈ [26] := by simpa using Array.mem_of_getElem? ht
        have hall : ([26].all fun u => !Tryd.prog.wantsStandIn u) = true := by kernel_rfl
        exact (show Tryd.prog.wantsStandIn t = false by simpa using List.all_eq_true.1 hall t hm)⟩)
    (by kernel_rfl)
#print axioms proved
end Go.Proofs.YtaphjoggjfmbfabDoor.treeShows
