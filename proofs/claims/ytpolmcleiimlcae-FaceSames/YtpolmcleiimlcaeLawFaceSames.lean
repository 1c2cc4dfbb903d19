/- At every two faces face.Same answers what the reference's SameFace answers (FaceSames), without conditions. -/
import Derived.Test.YtpolmcleiimlcaeFaceRef
import Derived.Test.YtpolmcleiimlcaeFaceRead
import Derived.OpenShut
import Derived.ChangeOld
namespace Go.Proofs.Ytpolmcleiimlcae.faceSames
open Go.ChangeShapes Go.WideShapes Go.ChangeAt Go.RowKit

theorem own : ownKnob Try.prog.godebug = none := by kernel_rfl
theorem laidOut : laidOutB Try.prog = true := by kernel_rfl

theorem walk (v u : Value) (f g : Fc) (w : World) (hv : FcIs (fun b => b < w.heap.size) w f v) (hu : FcIs (fun b => b < w.heap.size) w g u) :
    Calls Try.prog 3 #[v, u] w fun e w' => e = .returned (.bool true) ∧ Below w.heap.size w w' := by
  have HV := veil hv
  have HU := veil hu
  obtain ⟨vt, vf, rfl, ht, hf⟩ := hv
  obtain ⟨ut, uf, rfl, kt, kf⟩ := hu
  obtain ⟨a, n, cap, rfl⟩ := ht.slice
  obtain ⟨a2, n2, cap2, rfl⟩ := hf.slice
  obtain ⟨a3, n3, cap3, rfl⟩ := kt.slice
  obtain ⟨a4, n4, cap4, rfl⟩ := kf.slice
  have HB : Hid (∀ x y, Below w.heap.size w ((w.alloc x).alloc y)) := fun x y => ((Below.refl _ _).alloc (Nat.le_refl _) _).alloc (by simp) _
  have HC : Hid (∀ W : World, Below w.heap.size w W → Calls Try.prog 9 #[.agg #[.slice a n cap, .slice a2 n2 cap2], .agg #[.slice a3 n3 cap3, .slice a4 n4 cap4]] W fun e w' => e = .returned (.bool (fcEq f g)) ∧ Below W.heap.size W w') := fun W hW =>
    same_face (fun b => b < w.heap.size) _ _ _ _ W (fun b hb => Nat.lt_of_lt_of_le hb hW.size) (HV.out.keep (Keeps.below hW fun _ h => h)) (HU.out.keep (Keeps.below hW fun _ h => h))
  have HD : Hid (∀ W : World, Below w.heap.size w W → Calls Try.prog 10 #[.agg #[.slice a n cap, .slice a2 n2 cap2], .agg #[.slice a3 n3 cap3, .slice a4 n4 cap4]] W fun e w' => e = .returned (.bool (fcEq f g)) ∧ Below W.heap.size W w') := fun W hW =>
    sameFace_any (fun b => b < w.heap.size) _ _ _ _ W (fun b hb => Nat.lt_of_lt_of_le hb hW.size) (HV.out.keep (Keeps.below hW fun _ h => h)) (HU.out.keep (Keeps.below hW fun _ h => h))
  clear ht hf kt kf
  generalize fcEq f g = q at *
  go_enter Try.func3, Try.ntmps3
  go_wp2_with fail
  refine (HC.out _ (HB.out _ _)).mono ?_
  rintro e w' ⟨rfl, hb⟩
  have HB' := veil ((HB.out _ _).trans (hb.mono (by simp; omega)))
  have hc : ∀ b o, b < w.heap.size + 2 → w'.cell? ⟨b, o, none⟩ = ((w.alloc (.cells #[.slice a n cap, .slice a2 n2 cap2] 25)).alloc (.cells #[.slice a3 n3 cap3, .slice a4 n4 cap4] 25)).cell? ⟨b, o, none⟩ := fun b o h => hb.cell (p := ⟨b, o, none⟩) (by show b < _; simp; omega)
  clear hb
  go_wp2_with fail
  refine (HD.out _ HB'.out).mono ?_
  rintro e w2 ⟨rfl, hb2⟩
  have HB2 := veil (HB'.out.trans (hb2.mono HB'.out.size))
  clear hb2 hc
  go_wp2_with fail
  go_ret
  exact ⟨by simp, HB2.out⟩

set_option maxRecDepth 100000 in
theorem lifted (os : Os) (started : os.Started) (H : Type) (enc : TypeId × Value → H) :
    ReturnsInHanded {} Try.checked os 3 .any (Rows.faceSamesSpec.pre6 enc Try.prog Try.f3 Rows.faceSamesRow.domain false) (Rows.faceSamesSpec.post enc Try.prog Try.f3 false true false false) := by
  refine returnsInHanded_of_change_sized (C := Try.checked) own started (by kernel_rfl) Try.func3
    (ChangeSpec.witness6 (enc := enc) (C := Try.checked) false ⟨#[], #[.agg #[.slice none 0 0, .slice none 0 0], .agg #[.slice none 0 0, .slice none 0 0]], []⟩ 8 (by kernel_rfl) (by kernel_rfl) (by kernel_rfl) (by kernel_rfl)) ?_
  intro W base args ds gs before hval0 hW hcnd hsz _
  have hval : ∀ (j : Nat) t v, Try.f3.params[j]? = some t → args[j]? = some v → Value.okWide Try.prog W .any base t v := hval0
  have hW' := hW
  obtain ⟨p, q, hA0, hV, rfl, hfz, hnd⟩ := hW
  have hA : DataW.TrodAll enc Try.prog W 0 (fun _ => true) true Try.f3.params.toList args.toList ds p := hA0
  rw [Try.params3] at hA hval hsz
  obtain ⟨v0, vs0, d0, ds0, p0, q0, hargs, rfl, rfl, h0, r0⟩ := trodAll_cons hA
  obtain ⟨v1, vs1, d1, ds1, p1, q1, hargs1, rfl, rfl, h1, r1⟩ := trodAll_cons r0
  obtain ⟨rfl, rfl, rfl⟩ := trodAll_nil r1
  obtain rfl : args = #[v0, v1] := by cases args; simp_all
  obtain ⟨rfl, rfl⟩ := trodVars_none hV
  obtain ⟨cs0, rfl, _⟩ := okWide_struct Try.underlying25 (hval 0 25 v0 rfl rfl)
  obtain ⟨cs1, rfl, _⟩ := okWide_struct Try.underlying25 (hval 1 25 v1 rfl rfl)
  have k0 := h0
  have lt0 : ∀ x ∈ p0, x.block < W.heap.size := by obtain ⟨m, hm⟩ := k0; exact DataW.trod_lt m _ _ _ hm
  have k1 := h1
  have lt1 : ∀ x ∈ p1, x.block < W.heap.size := by obtain ⟨m, hm⟩ := k1; exact DataW.trod_lt m _ _ _ hm
  have z0 : ∀ n ∈ d0.weights Try.prog 25, n ≤ reachBytes := fun n hn => by
    have := List.all_eq_true.1 hsz n (DataW.weights_mem_each (j := 0) (t := 25) (d := d0) rfl rfl n hn)
    simpa using this
  have z1 : ∀ n ∈ d1.weights Try.prog 25, n ≤ reachBytes := fun n hn => by
    have := List.all_eq_true.1 hsz n (DataW.weights_mem_each (j := 1) (t := 25) (d := d1) rfl rfl n hn)
    simpa using this
  obtain ⟨f0, w0⟩ : ∃ l, FcIs (fun b => b < W.heap.size) W l (.agg cs0) := by
    obtain ⟨fuel, hf⟩ := h0
    obtain ⟨f, vt, vf, hcs, hm, _⟩ := fc_read fuel _ _ hf z0
    have e : cs0 = #[vt, vf] := by
      have : cs0.toList = [vt, vf] := hcs
      cases cs0; simp_all
    exact ⟨f, vt, vf, by rw [e], hm⟩
  obtain ⟨f1, w1⟩ : ∃ l, FcIs (fun b => b < W.heap.size) W l (.agg cs1) := by
    obtain ⟨fuel, hf⟩ := h1
    obtain ⟨f, vt, vf, hcs, hm, _⟩ := fc_read fuel _ _ hf z1
    have e : cs1 = #[vt, vf] := by
      have : cs1.toList = [vt, vf] := hcs
      cases cs1; simp_all
    exact ⟨f, vt, vf, by rw [e], hm⟩
  clear hA0 hval0
  refine (walk _ _ f0 f1 W w0 w1).mono fun e W' ⟨he, bel⟩ => ?_
  subst he
  exact ⟨_, rfl, _, _, _, [], _, [], hW', trodAll_mk1 (shut_bool Try.underlying4 _), (trodAll_cons_mk (Below.trod laidOut (by kernel_rfl) (of_decide_eq_true (by kernel_rfl)) k0 bel lt0) (trodAll_cons_mk (Below.trod laidOut (by kernel_rfl) (of_decide_eq_true (by kernel_rfl)) k1 bel lt1) trodAll_mk0)), rfl, bel.frame _, fun h => by cases h⟩

theorem over : Rows.faceSamesRow.holds Try.pinned (OpenSpec.ofChange Rows.faceSamesSpec) :=
  OpenClaim.holds_of_wide 3 Try.f3 rfl rfl rfl rfl rfl rfl rfl ⟨rfl, rfl, rfl, rfl, rfl⟩ rfl rfl rfl rfl rfl (by kernel_rfl) Try.func3 (by kernel_rfl)
    (of_decide_eq_true (by kernel_rfl)) (by unfold Func.isWrapper; first | (rw [if_pos (by decide +kernel)]; kernel_rfl) | (rw [if_neg (by decide +kernel)]; exact ⟨rfl, rfl⟩))
    (fun os started H enc _ => lifted os started H enc)

theorem proved : Rows.FaceSamesSaid :=
  over
#print axioms proved
end Go.Proofs.Ytpolmcleiimlcae.faceSames
