/- At every face that can be read face.Show answers what the reference's FaceText answers (FaceShows), without conditions. -/
import Derived.Test.YtpolmcleiimlcaeFaceShow
import Derived.Test.YtpolmcleiimlcaeFaceText
import Derived.OpenShut
import Derived.ChangeOld
namespace Go.Proofs.Ytpolmcleiimlcae.faceShows
open Go.ChangeShapes Go.WideShapes Go.ChangeAt Go.RowKit

theorem own : ownKnob Try.prog.godebug = none := by kernel_rfl
theorem laidOut : laidOutB Try.prog = true := by kernel_rfl

set_option maxHeartbeats 2000000 in
theorem walk (v : Value) (f : Fc) (w : World) (hv : FcIs (fun b => b < w.heap.size) w f v) (hz : fcSmall f) :
    Calls Try.prog 6 #[v] w fun e w' => e = .returned (.bool true) ∧ Below w.heap.size w w' := by
  have HV := veil hv
  obtain ⟨vt, vf, rfl, ht, hf⟩ := hv
  obtain ⟨a, n, cap, rfl⟩ := ht.slice
  obtain ⟨a2, n2, cap2, rfl⟩ := hf.slice
  have HB : Hid (∀ x, Below w.heap.size w (w.alloc x)) := fun x => (Below.refl _ _).alloc (Nat.le_refl _) _
  have HC : Hid (∀ W : World, Below w.heap.size w W → Calls Try.prog 17 #[.agg #[.slice a n cap, .slice a2 n2 cap2]] W fun e w' => e = .returned (.tuple #[.string (fcShown f), .int .i64 (fcFault f)]) ∧ Below W.heap.size W w') := fun W hW =>
    show_face (fun b => b < w.heap.size) _ _ W (fun b hb => Nat.lt_of_lt_of_le hb hW.size) (HV.out.keep (Keeps.below hW fun _ h => h)) hz
  have HD : Hid (∀ W : World, Below w.heap.size w W → Calls Try.prog 18 #[.agg #[.slice a n cap, .slice a2 n2 cap2]] W fun e w' => e = .returned (.tuple #[.string (fcShown f), .int .i64 (fcFault f)]) ∧ Below W.heap.size W w') := fun W hW =>
    text_face (fun b => b < w.heap.size) _ _ W (fun b hb => Nat.lt_of_lt_of_le hb hW.size) (HV.out.keep (Keeps.below hW fun _ h => h)) hz
  clear ht hf HV hz
  generalize fcFault f = r at *
  generalize fcShown f = t at *
  have hq : ((t.toList == t.toList)) = true := by simp
  have hq2 : (r == r) = true := by simp
  go_enter Try.func6, Try.ntmps6
  go_wp2_with fail
  refine (HC.out _ (HB.out _)).mono ?_
  rintro e w' ⟨rfl, hb⟩
  have HB' := veil ((HB.out _).trans (hb.mono (by simp)))
  have hc : ∀ b o, b < w.heap.size + 1 → w'.cell? ⟨b, o, none⟩ = (w.alloc (.cells #[.slice a n cap, .slice a2 n2 cap2] 25)).cell? ⟨b, o, none⟩ := fun b o h => hb.cell (p := ⟨b, o, none⟩) (by show b < _; simp; omega)
  clear hb
  go_wp2_with fail
  refine (HD.out _ HB'.out).mono ?_
  rintro e w2 ⟨rfl, hb2⟩
  have HB2 := veil (HB'.out.trans (hb2.mono HB'.out.size))
  clear hb2 hc
  go_wp2_with fail
  go_ret
  exact ⟨rfl, HB2.out⟩


set_option maxRecDepth 100000 in
theorem lifted (os : Os) (started : os.Started) (H : Type) (enc : TypeId × Value → H) :
    ReturnsInHanded {} Try.checked os 6 .any (Rows.faceShowsSpec.pre6 enc Try.prog Try.f6 Rows.faceShowsRow.domain false) (Rows.faceShowsSpec.post enc Try.prog Try.f6 false true false false) := by
  refine returnsInHanded_of_change_sized (C := Try.checked) own started (by kernel_rfl) Try.func6
    (ChangeSpec.witness6 (enc := enc) (C := Try.checked) false ⟨#[], #[.agg #[.slice none 0 0, .slice none 0 0]], []⟩ 8 (by kernel_rfl) (by kernel_rfl) (by kernel_rfl) (by kernel_rfl)) ?_
  intro W base args ds gs before hval0 hW hcnd hsz _
  have hval : ∀ (j : Nat) t v, Try.f6.params[j]? = some t → args[j]? = some v → Value.okWide Try.prog W .any base t v := hval0
  have hW' := hW
  obtain ⟨p, q, hA0, hV, rfl, hfz, hnd⟩ := hW
  have hA : DataW.TrodAll enc Try.prog W 0 (fun _ => true) true Try.f6.params.toList args.toList ds p := hA0
  rw [Try.params6] at hA hval hsz
  obtain ⟨v0, vs0, d0, ds0, p0, q0, hargs, rfl, rfl, h0, r0⟩ := trodAll_cons hA
  obtain ⟨rfl, rfl, rfl⟩ := trodAll_nil r0
  obtain rfl : args = #[v0] := by cases args; simp_all
  obtain ⟨rfl, rfl⟩ := trodVars_none hV
  obtain ⟨cs0, rfl, _⟩ := okWide_struct Try.underlying25 (hval 0 25 v0 rfl rfl)
  have k0 := h0
  have lt0 : ∀ x ∈ p0, x.block < W.heap.size := by obtain ⟨m, hm⟩ := k0; exact DataW.trod_lt m _ _ _ hm
  have z0 : ∀ n ∈ d0.weights Try.prog 25, n ≤ reachBytes := fun n hn => by
    have := List.all_eq_true.1 hsz n (DataW.weights_mem_each (j := 0) (t := 25) (d := d0) rfl rfl n hn)
    simpa using this
  obtain ⟨f0, w0, s0⟩ : ∃ l, FcIs (fun b => b < W.heap.size) W l (.agg cs0) ∧ fcSmall l := by
    obtain ⟨fuel, hf⟩ := h0
    obtain ⟨f, vt, vf, hcs, hm, hs⟩ := fc_read fuel _ _ hf z0
    have e : cs0 = #[vt, vf] := by
      have : cs0.toList = [vt, vf] := hcs
      cases cs0; simp_all
    exact ⟨f, ⟨vt, vf, by rw [e], hm⟩, hs⟩
  clear hA0 hval0
  refine (walk _ f0 W w0 s0).mono fun e W' ⟨he, bel⟩ => ?_
  subst he
  exact ⟨_, rfl, _, _, _, [], _, [], hW', trodAll_mk1 (shut_bool Try.underlying4 _), (trodAll_cons_mk (Below.trod laidOut (by kernel_rfl) (of_decide_eq_true (by kernel_rfl)) k0 bel lt0) trodAll_mk0), rfl, bel.frame _, fun h => by cases h⟩

theorem over : Rows.faceShowsRow.holds Try.pinned (OpenSpec.ofChange Rows.faceShowsSpec) :=
  OpenClaim.holds_of_wide 6 Try.f6 rfl rfl rfl rfl rfl rfl rfl ⟨rfl, rfl, rfl, rfl, rfl⟩ rfl rfl rfl rfl rfl (by kernel_rfl) Try.func6 (by kernel_rfl)
    (of_decide_eq_true (by kernel_rfl)) (by unfold Func.isWrapper; first | (rw [if_pos (by decide +kernel)]; kernel_rfl) | (rw [if_neg (by decide +kernel)]; exact ⟨rfl, rfl⟩))
    (fun os started H enc _ => lifted os started H enc)

theorem proved : Rows.FaceShowsSaid :=
  over
#print axioms proved
end Go.Proofs.Ytpolmcleiimlcae.faceShows
