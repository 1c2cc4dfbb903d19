/- At every face that may be, and every text, face.Type answers what the reference's TypeIn answers (FaceTypes), without conditions. -/
import Derived.Test.YtpolmcleiimlcaeFaceFault
import Derived.Test.YtpolmcleiimlcaeFaceType
import Derived.OpenShut
import Derived.ShutString
import Derived.ChangeOld
namespace Go.Proofs.Ytpolmcleiimlcae.faceTypes
open Go.ChangeShapes Go.WideShapes Go.ChangeAt Go.RowKit
open Go.ChangeMaps (open_string shut_string)

theorem own : ownKnob Try.prog.godebug = none := by kernel_rfl
theorem laidOut : laidOutB Try.prog = true := by kernel_rfl

set_option maxHeartbeats 2000000 in
theorem walk (v : Value) (f : Fc) (s : ByteArray) (_ : s.size ≤ maxLen) (w : World) (hv : FcIs (fun b => b < w.heap.size) w f v) (hz : fcSmall f) :
    Calls Try.prog 4 #[v, .string s] w fun e w' => e = .returned (.bool true) ∧ Below w.heap.size w w' := by
  have HV := veil hv
  obtain ⟨vt, vf, rfl, ht, hf⟩ := hv
  obtain ⟨a, n, cap, rfl⟩ := ht.slice
  obtain ⟨a2, n2, cap2, rfl⟩ := hf.slice
  have HB : Hid (∀ x, Below w.heap.size w (w.alloc x)) := fun x => (Below.refl _ _).alloc (Nat.le_refl _) _
  have HD : Hid (∀ W : World, Below w.heap.size w W → Calls Try.prog 11 #[.agg #[.slice a n cap, .slice a2 n2 cap2]] W fun e w' => e = .returned (.int .i64 (fcFault f)) ∧ Below W.heap.size W w') := fun W hW =>
    faceFault_any (fun b => b < w.heap.size) _ _ W (fun b hb => Nat.lt_of_lt_of_le hb hW.size) (HV.out.keep (Keeps.below hW fun _ h => h))
  have HC : Hid (∀ W : World, Below w.heap.size w W → Calls Try.prog 12 #[.agg #[.slice a n cap, .slice a2 n2 cap2], .string s] W fun e w' => e = .returned (.tuple #[.string (typeVal f s), .int .i64 (typeErr f s)]) ∧ Below W.heap.size W w') := fun W hW =>
    type_any (fun b => b < w.heap.size) _ _ _ W (fun b hb => Nat.lt_of_lt_of_le hb hW.size) (HV.out.keep (Keeps.below hW fun _ h => h)) hz
  have HR : Hid (∀ W : World, Below w.heap.size w W → Calls Try.prog 13 #[.agg #[.slice a n cap, .slice a2 n2 cap2], .string s] W fun e w' => e = .returned (.tuple #[.string (typeVal f s), .int .i64 (typeErr f s)]) ∧ Below W.heap.size W w') := fun W hW =>
    typeIn_any (fun b => b < w.heap.size) _ _ _ W (fun b hb => Nat.lt_of_lt_of_le hb hW.size) (HV.out.keep (Keeps.below hW fun _ h => h))
  clear ht hf HV hz
  generalize fcFault f = r at *
  generalize typeVal f s = t at *
  generalize typeErr f s = q at *
  have hq : ((t.toList == t.toList)) = true := by simp
  have hq2 : (q == q) = true := by simp
  by_cases hr : r = 0
  · subst hr
    go_enter Try.func4, Try.ntmps4
    go_wp2_with fail
    refine (HD.out _ (HB.out _)).mono ?_
    rintro e w' ⟨rfl, hb⟩
    have HB' := veil ((HB.out _).trans (hb.mono (by simp)))
    have hlt : w.heap.size < w'.heap.size := by have := hb.size; simp at this; omega
    have hc : ∀ o, w'.cell? ⟨w.heap.size, o, none⟩ = (w.alloc (.cells #[.slice a n cap, .slice a2 n2 cap2] 25)).cell? ⟨w.heap.size, o, none⟩ := fun o => hb.cell (p := ⟨w.heap.size, o, none⟩) (by simp)
    clear hb
    go_wp2_with fail
    refine (HC.out _ HB'.out).mono ?_
    rintro e w2 ⟨rfl, hb2⟩
    have HB2 := veil (HB'.out.trans (hb2.mono HB'.out.size))
    have hc2 : ∀ o, w2.cell? ⟨w.heap.size, o, none⟩ = w'.cell? ⟨w.heap.size, o, none⟩ := fun o => hb2.cell (p := ⟨w.heap.size, o, none⟩) hlt
    clear hb2
    go_wp2_with fail
    refine (HR.out _ HB2.out).mono ?_
    rintro e w3 ⟨rfl, hb3⟩
    have HB3 := veil (HB2.out.trans (hb3.mono HB2.out.size))
    clear hb3 hc hc2
    go_wp2_with fail
    go_ret
    exact ⟨rfl, HB3.out⟩
  · have hr' : (r != 0) = true := by simpa using hr
    clear hr
    go_enter Try.func4, Try.ntmps4
    go_wp2_with fail
    refine (HD.out _ (HB.out _)).mono ?_
    rintro e w' ⟨rfl, hb⟩
    have HB' := veil ((HB.out _).trans (hb.mono (by simp)))
    clear hb
    go_wp2_with fail
    go_ret
    exact ⟨rfl, HB'.out⟩


set_option maxRecDepth 100000 in
theorem lifted (os : Os) (started : os.Started) (H : Type) (enc : TypeId × Value → H) :
    ReturnsInHanded {} Try.checked os 4 .any (Rows.faceTypesSpec.pre6 enc Try.prog Try.f4 Rows.faceTypesRow.domain false) (Rows.faceTypesSpec.post enc Try.prog Try.f4 false true false false) := by
  refine returnsInHanded_of_change_sized (C := Try.checked) own started (by kernel_rfl) Try.func4
    (ChangeSpec.witness6 (enc := enc) (C := Try.checked) false ⟨#[], #[.agg #[.slice none 0 0, .slice none 0 0], .string ByteArray.empty], []⟩ 8 (by kernel_rfl) (by kernel_rfl) (by kernel_rfl) (by kernel_rfl)) ?_
  intro W base args ds gs before hval0 hW hcnd hsz _
  have hval : ∀ (j : Nat) t v, Try.f4.params[j]? = some t → args[j]? = some v → Value.okWide Try.prog W .any base t v := hval0
  have hW' := hW
  obtain ⟨p, q, hA0, hV, rfl, hfz, hnd⟩ := hW
  have hA : DataW.TrodAll enc Try.prog W 0 (fun _ => true) true Try.f4.params.toList args.toList ds p := hA0
  rw [Try.params4] at hA hval hsz
  obtain ⟨v0, vs0, d0, ds0, p0, q0, hargs, rfl, rfl, h0, r0⟩ := trodAll_cons hA
  obtain ⟨v1, vs1, d1, ds1, p1, q1, hargs1, rfl, rfl, h1, r1⟩ := trodAll_cons r0
  obtain ⟨rfl, rfl, rfl⟩ := trodAll_nil r1
  obtain rfl : args = #[v0, v1] := by cases args; simp_all
  obtain ⟨rfl, rfl⟩ := trodVars_none hV
  obtain ⟨cs0, rfl, _⟩ := okWide_struct Try.underlying25 (hval 0 25 v0 rfl rfl)
  obtain ⟨a1, rfl, rfl, rfl, w1⟩ := open_string Try.underlying9 (hval 1 9 v1 rfl rfl) h1
  have k0 := h0
  have lt0 : ∀ x ∈ p0, x.block < W.heap.size := by obtain ⟨m, hm⟩ := k0; exact DataW.trod_lt m _ _ _ hm
  have z0 : ∀ n ∈ d0.weights Try.prog 25, n ≤ reachBytes := fun n hn => by
    have := List.all_eq_true.1 hsz n (DataW.weights_mem_each (j := 0) (t := 25) (d := d0) rfl rfl n hn)
    simpa using this
  obtain ⟨f0, w0, s0⟩ : ∃ l, FcIs (fun b => b < W.heap.size) W l (.agg cs0) ∧ fcSmall l := by
    obtain ⟨fuel, hf⟩ := h0
    obtain ⟨f, vt, vf, hcs, hm, hs⟩ := fc_read fuel _ _ hf z0
    have e : cs0 = #[vt, vf] := by
      have : cs0.toList = [vt, vf] := hcs
      cases cs0; simp_all
    exact ⟨f, ⟨vt, vf, by rw [e], hm⟩, hs⟩
  clear hA0 hval0
  refine (walk _ f0 a1 w1 W w0 s0).mono fun e W' ⟨he, bel⟩ => ?_
  subst he
  exact ⟨_, rfl, _, _, _, [], _, [], hW', trodAll_mk1 (shut_bool Try.underlying4 _), (trodAll_cons_mk (Below.trod laidOut (by kernel_rfl) (of_decide_eq_true (by kernel_rfl)) k0 bel lt0) (trodAll_cons_mk (shut_string Try.underlying9 w1) trodAll_mk0)), rfl, bel.frame _, fun h => by cases h⟩

theorem over : Rows.faceTypesRow.holds Try.pinned (OpenSpec.ofChange Rows.faceTypesSpec) :=
  OpenClaim.holds_of_wide 4 Try.f4 rfl rfl rfl rfl rfl rfl rfl ⟨rfl, rfl, rfl, rfl, rfl⟩ rfl rfl rfl rfl rfl (by kernel_rfl) Try.func4 (by kernel_rfl)
    (of_decide_eq_true (by kernel_rfl)) (by unfold Func.isWrapper; first | (rw [if_pos (by decide +kernel)]; kernel_rfl) | (rw [if_neg (by decide +kernel)]; exact ⟨rfl, rfl⟩))
    (fun os started H enc _ => lifted os started H enc)

theorem proved : Rows.FaceTypesSaid :=
  over
#print axioms proved
end Go.Proofs.Ytpolmcleiimlcae.faceTypes
