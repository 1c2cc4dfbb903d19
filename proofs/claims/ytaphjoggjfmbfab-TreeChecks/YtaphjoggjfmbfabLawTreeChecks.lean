/- At every module tree.Check answers what the reference's ModuleFault answers (TreeChecks), without conditions. -/
import Derived.Test.YtaphjoggjfmbfabFaultM
import Derived.Test.YtaphjoggjfmbfabReadTree
import Derived.OpenShut
import Derived.ChangeOld
namespace Go.Proofs.Ytaphjoggjfmbfab.treeChecks
open Go.ChangeShapes Go.WideShapes Go.ChangeAt Go.RowKit

theorem own : ownKnob Try.prog.godebug = none := by kernel_rfl
theorem laidOut : laidOutB Try.prog = true := by kernel_rfl

theorem walk (v : Value) (m : Mo) (w : World) (h : MoIs (fun b => b < w.heap.size) w m v) :
    Calls Try.prog 5 #[v] w fun e w' => e = .returned (.bool true) ∧ Below w.heap.size w w' := by
  obtain ⟨vu, vt, vf, rfl, h1, h2, h3⟩ := h
  obtain ⟨u1, u2, u3, rfl⟩ := h1.slice
  obtain ⟨t1, t2, t3, rfl⟩ := h2.slice
  obtain ⟨f1, f2, f3, rfl⟩ := h3.slice
  have hm : MoIs (fun b => b < w.heap.size) w m (.agg #[.slice u1 u2 u3, .slice t1 t2 t3, .slice f1 f2 f3]) := ⟨_, _, _, rfl, h1, h2, h3⟩
  have HB : Hid (Below w.heap.size w (w.alloc (.cells #[.slice u1 u2 u3, .slice t1 t2 t3, .slice f1 f2 f3] 38))) := (Below.refl _ _).alloc (Nat.le_refl _) _
  have HM := veil hm
  clear hm h1 h2 h3
  go_enter Try.func5, Try.ntmps5
  go_wp2_with fail
  refine (treeCheck_any (fun b => b < w.heap.size) m _ _ (fdIs_first (fun _ h => h) HB.out) (HM.out.keep (Keeps.below HB.out (fun _ h => h)))).mono ?_
  rintro e w1 ⟨rfl, hb⟩
  have hc := bcell hb
  have HB1 := veil (HB.out.trans (hb.mono (by simp)))
  clear hb
  go_wp2_with fail
  refine (moduleFault_any (fun b => b < w.heap.size) m _ w1 (fdIs_first (fun _ h => h) HB1.out) (HM.out.keep (Keeps.below HB1.out (fun _ h => h)))).mono ?_
  rintro e w2 ⟨rfl, hb2⟩
  go_wp2
  go_ret
  exact ⟨by simp, HB1.out.trans (hb2.mono HB1.out.size)⟩

set_option maxRecDepth 100000 in
theorem lifted (os : Os) (started : os.Started) (H : Type) (enc : TypeId × Value → H) :
    ReturnsInHanded {} Try.checked os 5 .any (Rows.treeChecksSpec.pre6 enc Try.prog Try.f5 Rows.treeChecksRow.domain false) (Rows.treeChecksSpec.post enc Try.prog Try.f5 false true false false) := by
  refine returnsInHanded_of_change (C := Try.checked) own started (by kernel_rfl) Try.func5
    (ChangeSpec.witness6 (enc := enc) (C := Try.checked) false ⟨#[], #[.agg #[.slice none 0 0, .slice none 0 0, .slice none 0 0]], []⟩ 8 (by kernel_rfl) (by kernel_rfl) (by kernel_rfl) (by kernel_rfl)) ?_
  intro W base args ds gs before hval0 hW hcnd _
  have hval : ∀ (j : Nat) t v, Try.f5.params[j]? = some t → args[j]? = some v → Value.okWide Try.prog W .any base t v := hval0
  have hW' := hW
  obtain ⟨p, q, hA0, hV, rfl, hfz, hnd⟩ := hW
  have hA : DataW.TrodAll enc Try.prog W 0 (fun _ => true) true Try.f5.params.toList args.toList ds p := hA0
  rw [Try.params5] at hA hval
  obtain ⟨v0, vs0, d0, ds0, p0, q0, hargs, rfl, rfl, h0, r0⟩ := trodAll_cons hA
  obtain ⟨rfl, rfl, rfl⟩ := trodAll_nil r0
  obtain rfl : args = #[v0] := by cases args; simp_all
  obtain ⟨rfl, rfl⟩ := trodVars_none hV
  obtain ⟨cs0, rfl, _⟩ := okWide_struct Try.underlying38 (hval 0 38 v0 rfl rfl)
  have k0 := h0
  have lt0 : ∀ x ∈ p0, x.block < W.heap.size := by obtain ⟨m, hm⟩ := k0; exact DataW.trod_lt m _ _ _ hm
  obtain ⟨l, w0⟩ : ∃ l, MoIs (fun b => b < W.heap.size) W l (.agg cs0) := by
    obtain ⟨fuel, hf⟩ := h0
    obtain ⟨m, vu, vt, vf, hcs, hm⟩ := mo_read fuel _ _ hf
    have e : cs0 = #[vu, vt, vf] := by
      have : cs0.toList = [vu, vt, vf] := hcs
      cases cs0; simp_all
    exact ⟨m, by rw [e]; exact hm⟩
  clear hA0 hval0
  refine (walk _ l W w0).mono fun e W' ⟨he, bel⟩ => ?_
  subst he
  exact ⟨_, rfl, _, _, _, [], _, [], hW', trodAll_mk1 (shut_bool Try.underlying4 _), (trodAll_cons_mk (Below.trod laidOut (by kernel_rfl) (of_decide_eq_true (by kernel_rfl)) k0 bel lt0) trodAll_mk0), rfl, bel.frame _, fun h => by cases h⟩

theorem over : Rows.treeChecksRow.holds Try.pinned (OpenSpec.ofChange Rows.treeChecksSpec) :=
  OpenClaim.holds_of_wide 5 Try.f5 rfl rfl rfl rfl rfl rfl rfl ⟨rfl, rfl, rfl, rfl, rfl⟩ rfl rfl rfl rfl rfl (by kernel_rfl) Try.func5 (by kernel_rfl)
    (of_decide_eq_true (by kernel_rfl)) (by unfold Func.isWrapper; first | (rw [if_pos (by decide +kernel)]; kernel_rfl) | (rw [if_neg (by decide +kernel)]; exact ⟨rfl, rfl⟩))
    (fun os started H enc _ => lifted os started H enc)

theorem proved : Rows.TreeChecksSaid :=
  over
#print axioms proved
end Go.Proofs.Ytaphjoggjfmbfab.treeChecks
