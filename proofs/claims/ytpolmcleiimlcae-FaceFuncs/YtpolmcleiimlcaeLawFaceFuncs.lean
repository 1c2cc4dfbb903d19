/- At every face that may be, and every text, face.Func answers what the reference's FuncIn answers (FaceFuncs), without conditions. -/
import Derived.Test.YtpolmcleiimlcaeFaceFault
import Derived.Test.YtpolmcleiimlcaeFaceFunc
import Derived.OpenShut
import Derived.ShutString
import Derived.ChangeOld
namespace Go.Proofs.Ytpolmcleiimlcae.faceFuncs
open Go.ChangeShapes Go.WideShapes Go.ChangeAt Go.RowKit
open Go.ChangeMaps (open_string shut_string)

theorem own : ownKnob Try.prog.godebug = none := by kernel_rfl
theorem laidOut : laidOutB Try.prog = true := by kernel_rfl

set_option maxHeartbeats 2000000 in
theorem walk (v : Value) (f : Fc) (s : ByteArray) (_ : s.size ≤ maxLen) (w : World) (hv : FcIs (fun b => b < w.heap.size) w f v) (hz : fcSmall f) :
    Calls Try.prog 5 #[v, .string s] w fun e w' => e = .returned (.bool true) ∧ Below w.heap.size w w' := by
  have HV := veil hv
  obtain ⟨vt, vf, rfl, ht, hf⟩ := hv
  obtain ⟨a, n, cap, rfl⟩ := ht.slice
  obtain ⟨a2, n2, cap2, rfl⟩ := hf.slice
  have HB : Hid (∀ x, Below w.heap.size w (w.alloc x)) := fun x => (Below.refl _ _).alloc (Nat.le_refl _) _
  have HD : Hid (∀ W : World, Below w.heap.size w W → Calls Try.prog 11 #[.agg #[.slice a n cap, .slice a2 n2 cap2]] W fun e w' => e = .returned (.int .i64 (fcFault f)) ∧ Below W.heap.size W w') := fun W hW =>
    faceFault_any (fun b => b < w.heap.size) _ _ W (fun b hb => Nat.lt_of_lt_of_le hb hW.size) (HV.out.keep (Keeps.below hW fun _ h => h))
  have HC : Hid (∀ W : World, Below w.heap.size w W → Calls Try.prog 14 #[.agg #[.slice a n cap, .slice a2 n2 cap2], .string s] W fun e w' => ∃ a n cap, e = .returned (.tuple #[.agg #[.string (funcVal f s).name, .slice a n cap, .string (funcVal f s).result], .int .i64 (funcErr f s)]) ∧ SgIs (fun b => b < w'.heap.size) w' (funcVal f s) (.agg #[.string (funcVal f s).name, .slice a n cap, .string (funcVal f s).result]) ∧ Below W.heap.size W w') := fun W hW =>
    func_any (fun b => b < w.heap.size) _ _ _ W (fun b hb => Nat.lt_of_lt_of_le hb hW.size) (HV.out.keep (Keeps.below hW fun _ h => h)) hz
  have HR : Hid (∀ W : World, Below w.heap.size w W → Calls Try.prog 15 #[.agg #[.slice a n cap, .slice a2 n2 cap2], .string s] W fun e w' => ∃ a n cap, e = .returned (.tuple #[.agg #[.string (funcVal f s).name, .slice a n cap, .string (funcVal f s).result], .int .i64 (funcErr f s)]) ∧ SgIs (fun b => b < w'.heap.size) w' (funcVal f s) (.agg #[.string (funcVal f s).name, .slice a n cap, .string (funcVal f s).result]) ∧ Below W.heap.size W w') := fun W hW =>
    funcIn_any (fun b => b < w.heap.size) _ _ _ W (fun b hb => Nat.lt_of_lt_of_le hb hW.size) (HV.out.keep (Keeps.below hW fun _ h => h))
  have HKp : Hid (∀ (W W' : World) (g : Sg) (u : Value), SgIs (fun b => b < W.heap.size) W g u → Below W.heap.size W W' → SgIs (fun b => b < W'.heap.size) W' g u) := fun W W' g u h hb =>
    h.keep ⟨fun b hb' => hb.block b hb', fun b hb' => Nat.lt_of_lt_of_le hb' hb.size⟩
  have HAl : Hid (∀ (W : World) o, Below W.heap.size W (W.alloc o)) := fun W o => (Below.refl _ _).alloc (Nat.le_refl _) _
  clear ht hf HV hz
  generalize fcFault f = r at *
  generalize funcVal f s = g at *
  generalize funcErr f s = q at *
  have hq2 : (q == q) = true := by simp
  by_cases hr : r = 0
  · subst hr
    go_enter Try.func5, Try.ntmps5
    go_wp2_with fail
    refine (HD.out _ (HB.out _)).mono ?_
    rintro e w' ⟨rfl, hb⟩
    have HB' := veil ((HB.out _).trans (hb.mono (by simp)))
    have hlt : w.heap.size < w'.heap.size := by have := hb.size; simp at this; omega
    have hc : ∀ o, w'.cell? ⟨w.heap.size, o, none⟩ = (w.alloc (.cells #[.slice a n cap, .slice a2 n2 cap2] 25)).cell? ⟨w.heap.size, o, none⟩ := fun o => hb.cell (p := ⟨w.heap.size, o, none⟩) (by simp)
    clear hb
    go_wp2_with fail
    refine (HC.out _ HB'.out).mono ?_
    rintro e w2 ⟨b1, m1, c1, rfl, hs1, hb2⟩
    have HB2 := veil (HB'.out.trans (hb2.mono HB'.out.size))
    have hlt2 : w.heap.size < w2.heap.size := Nat.lt_of_lt_of_le hlt hb2.size
    have hc2 : ∀ o, w2.cell? ⟨w.heap.size, o, none⟩ = w'.cell? ⟨w.heap.size, o, none⟩ := fun o => hb2.cell (p := ⟨w.heap.size, o, none⟩) hlt
    have HS1 := veil hs1
    obtain ⟨w3, hw3, hs3, e0, e1, e2, hb3, hc3⟩ : ∃ w3, w2.alloc (.cells #[.string g.name, .slice b1 m1 c1, .string g.result] 34) = w3 ∧ w3.heap.size = w2.heap.size + 1 ∧ w3.cell? ⟨w2.heap.size, 0, none⟩ = some (.string g.name) ∧ w3.cell? ⟨w2.heap.size, 1, none⟩ = some (.slice b1 m1 c1) ∧ w3.cell? ⟨w2.heap.size, 2, none⟩ = some (.string g.result) ∧ Below w2.heap.size w2 w3 ∧ (∀ o, w3.cell? ⟨w.heap.size, o, none⟩ = w'.cell? ⟨w.heap.size, o, none⟩) :=
      ⟨_, rfl, by simp, by simp [go_sem], by simp [go_sem], by simp [go_sem], HAl.out _ _, fun o => ((HAl.out w2 _).cell (p := ⟨w.heap.size, o, none⟩) hlt2).trans (hc2 o)⟩
    have HW3 := veil hw3
    have HB3 := veil (HB2.out.trans (hb3.mono HB2.out.size))
    have HS3 := veil (HKp.out _ _ _ _ HS1.out hb3)
    have HE0 := veil e0
    have HE1 := veil e1
    have HE2 := veil e2
    clear hb2 hs1 hb3 hw3 HS1 e0 e1 e2 hc3
    go_wp2_with fail
    rw [HW3.out]
    refine (HR.out _ HB3.out).mono ?_
    rintro e w4 ⟨b4, m4, c4, rfl, hs4, hb4⟩
    obtain ⟨w5, hw5, hs5, g0, g1, g2, hb5⟩ : ∃ w5, w4.alloc (.cells #[.string g.name, .slice b4 m4 c4, .string g.result] 34) = w5 ∧ w5.heap.size = w4.heap.size + 1 ∧ w5.cell? ⟨w4.heap.size, 0, none⟩ = some (.string g.name) ∧ w5.cell? ⟨w4.heap.size, 1, none⟩ = some (.slice b4 m4 c4) ∧ w5.cell? ⟨w4.heap.size, 2, none⟩ = some (.string g.result) ∧ Below w4.heap.size w4 w5 :=
      ⟨_, rfl, by simp, by simp [go_sem], by simp [go_sem], by simp [go_sem], HAl.out _ _⟩
    have hb35 := hb4.trans (hb5.mono hb4.size)
    have i0 := (hb4.cell (p := ⟨w2.heap.size, 0, none⟩) (by show w2.heap.size < _; omega)).trans HE0.out
    have i1 := (hb4.cell (p := ⟨w2.heap.size, 1, none⟩) (by show w2.heap.size < _; omega)).trans HE1.out
    have i2 := (hb4.cell (p := ⟨w2.heap.size, 2, none⟩) (by show w2.heap.size < _; omega)).trans HE2.out
    have hlt4 : w2.heap.size < w4.heap.size := by have := hb4.size; omega
    have HW5 := veil hw5
    have HB5 := veil (HB3.out.trans (hb35.mono HB3.out.size))
    have HF : Hid (Calls Try.prog 16 #[.agg #[.string g.name, .slice b1 m1 c1, .string g.result], .agg #[.string g.name, .slice b4 m4 c4, .string g.result]] w5 fun e w' => e = .returned (.bool true) ∧ Below w5.heap.size w5 w') :=
      same_sig (fun b => b < w5.heap.size) g _ _ w5 (fun _ h => h) (HKp.out _ _ _ _ HS3.out hb35) (HKp.out _ _ _ _ hs4 hb5)
    clear hb4 hs4 hb5 hb35 hw5 hc hc2 HS3 HE0 HE1 HE2 g0 g1 g2
    go_wp2_with fail
    rw [HW5.out]
    refine HF.out.mono ?_
    rintro e w6 ⟨rfl, hb6⟩
    have HB6 := veil (HB5.out.trans (hb6.mono HB5.out.size))
    clear hb6
    go_wp2_with fail
    go_ret
    exact ⟨rfl, HB6.out⟩
  · have hr' : (r != 0) = true := by simpa using hr
    clear hr
    go_enter Try.func5, Try.ntmps5
    go_wp2_with fail
    refine (HD.out _ (HB.out _)).mono ?_
    rintro e w' ⟨rfl, hb⟩
    have HB' := veil ((HB.out _).trans (hb.mono (by simp)))
    clear hb
    go_wp2_with fail
    go_ret
    exact ⟨rfl, HB'.out⟩


set_option maxRecDepth 100000 in
theorem lifted (os : Os) (started : os.Started) (H : Type) (enc : TypeId × Value → H) :
    ReturnsInHanded {} Try.checked os 5 .any (Rows.faceFuncsSpec.pre6 enc Try.prog Try.f5 Rows.faceFuncsRow.domain false) (Rows.faceFuncsSpec.post enc Try.prog Try.f5 false true false false) := by
  refine returnsInHanded_of_change_sized (C := Try.checked) own started (by kernel_rfl) Try.func5
    (ChangeSpec.witness6 (enc := enc) (C := Try.checked) false ⟨#[], #[.agg #[.slice none 0 0, .slice none 0 0], .string ByteArray.empty], []⟩ 8 (by kernel_rfl) (by kernel_rfl) (by kernel_rfl) (by kernel_rfl)) ?_
  intro W base args ds gs before hval0 hW hcnd hsz _
  have hval : ∀ (j : Nat) t v, Try.f5.params[j]? = some t → args[j]? = some v → Value.okWide Try.prog W .any base t v := hval0
  have hW' := hW
  obtain ⟨p, q, hA0, hV, rfl, hfz, hnd⟩ := hW
  have hA : DataW.TrodAll enc Try.prog W 0 (fun _ => true) true Try.f5.params.toList args.toList ds p := hA0
  rw [Try.params5] at hA hval hsz
  obtain ⟨v0, vs0, d0, ds0, p0, q0, hargs, rfl, rfl, h0, r0⟩ := trodAll_cons hA
  obtain ⟨v1, vs1, d1, ds1, p1, q1, hargs1, rfl, rfl, h1, r1⟩ := trodAll_cons r0
  obtain ⟨rfl, rfl, rfl⟩ := trodAll_nil r1
  obtain rfl : args = #[v0, v1] := by cases args; simp_all
  obtain ⟨rfl, rfl⟩ := trodVars_none hV
  obtain ⟨cs0, rfl, _⟩ := okWide_struct Try.underlying25 (hval 0 25 v0 rfl rfl)
  obtain ⟨a1, rfl, rfl, rfl, w1⟩ := open_string Try.underlying9 (hval 1 9 v1 rfl rfl) h1
  have k0 := h0
  have lt0 : ∀ x ∈ p0, x.block < W.heap.size := by obtain ⟨m, hm⟩ := k0; exact DataW.trod_lt m _ _ _ hm
  have z0 : ∀ n ∈ d0.weights Try.prog 25, n ≤ reachBytes := fun n hn => by
    have := List.all_eq_true.1 hsz n (DataW.weights_mem_each (j := 0) (t := 25) (d := d0) rfl rfl n hn)
    simpa using this
  obtain ⟨f0, w0, s0⟩ : ∃ l, FcIs (fun b => b < W.heap.size) W l (.agg cs0) ∧ fcSmall l := by
    obtain ⟨fuel, hf⟩ := h0
    obtain ⟨f, vt, vf, hcs, hm, hs⟩ := fc_read fuel _ _ hf z0
    have e : cs0 = #[vt, vf] := by
      have : cs0.toList = [vt, vf] := hcs
      cases cs0; simp_all
    exact ⟨f, ⟨vt, vf, by rw [e], hm⟩, hs⟩
  clear hA0 hval0
  refine (walk _ f0 a1 w1 W w0 s0).mono fun e W' ⟨he, bel⟩ => ?_
  subst he
  exact ⟨_, rfl, _, _, _, [], _, [], hW', trodAll_mk1 (shut_bool Try.underlying4 _), (trodAll_cons_mk (Below.trod laidOut (by kernel_rfl) (of_decide_eq_true (by kernel_rfl)) k0 bel lt0) (trodAll_cons_mk (shut_string Try.underlying9 w1) trodAll_mk0)), rfl, bel.frame _, fun h => by cases h⟩

theorem over : Rows.faceFuncsRow.holds Try.pinned (OpenSpec.ofChange Rows.faceFuncsSpec) :=
  OpenClaim.holds_of_wide 5 Try.f5 rfl rfl rfl rfl rfl rfl rfl ⟨rfl, rfl, rfl, rfl, rfl⟩ rfl rfl rfl rfl rfl (by kernel_rfl) Try.func5 (by kernel_rfl)
    (of_decide_eq_true (by kernel_rfl)) (by unfold Func.isWrapper; first | (rw [if_pos (by decide +kernel)]; kernel_rfl) | (rw [if_neg (by decide +kernel)]; exact ⟨rfl, rfl⟩))
    (fun os started H enc _ => lifted os started H enc)

theorem proved : Rows.FaceFuncsSaid :=
  over
#print axioms proved
end Go.Proofs.Ytpolmcleiimlcae.faceFuncs
