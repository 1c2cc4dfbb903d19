/- At every module and list of imports that can be read sign.Face answers what the reference's FaceOf answers, where module and imports may be (SignFaces), without conditions. -/
import Derived.Test.YtkdailcadcfepafGreatJSign8
import Derived.Test.YtkdailcadcfepafGreatJSign9
import Derived.Test.YtkdailcadcfepafGreatJReadTree
import Derived.OpenShut
import Derived.ShutString
import Derived.ChangeOld
namespace Go.Proofs.YtkdailcadcfepafGreat.signFaces
open Go.ChangeShapes Go.WideShapes Go.ChangeAt Go.RowKit
set_option maxRecDepth 100000
open Go.ChangeMaps (open_string shut_string)

theorem own : ownKnob Tryz.prog.godebug = none := by kernel_rfl
theorem laidOut : laidOutB Tryz.prog = true := by kernel_rfl

theorem fc_slices {S : Nat → Prop} {w : World} {f : Fc} {u v : Value} (h : FcIs S w f (.agg #[u, v])) : ∃ x1 x2 x3 y1 y2 y3, u = .slice x1 x2 x3 ∧ v = .slice y1 y2 y3 := by
  obtain ⟨vt, vf, hv, hk, hg⟩ := h
  obtain ⟨a1, a2, a3, ha⟩ := hk.slice
  obtain ⟨b1, b2, b3, hb⟩ := hg.slice
  injection hv with hv
  have hv' : [u, v] = [vt, vf] := congrArg Array.toList hv
  injection hv' with h1 h2
  injection h2 with h2 _
  exact ⟨a1, a2, a3, b1, b2, b3, h1.trans ha, h2.trans hb⟩

set_option maxHeartbeats 4000000 in
theorem walk (vm v : Value) (m : Mo) (l : List Im) (w : World) (hm : MoIs (fun b => b < w.heap.size) w m vm) (hl : SlAt (fun b => b < w.heap.size) (ImAt (fun b => b < w.heap.size) w) 4 l v) (hz : ∀ i ∈ l, fcSmall i.face) (hzm : moSmall m) :
    Calls Tryz.prog 3 #[vm, v] w fun e w' => e = .returned (.bool true) ∧ Below w.heap.size w w' := by
  have hS0 : ∀ W : World, Below w.heap.size w W → ∀ b, b < w.heap.size → b < W.heap.size := fun W hW b hb => Nat.lt_of_lt_of_le hb hW.size
  have HMay : Hid (∀ W, Below w.heap.size w W → Calls Tryz.prog 4 #[vm, v] W fun e w' => e = .returned (.bool (moFault m == 0 && imsFault l == 0)) ∧ Below W.heap.size W w') := fun W hW =>
    may_any (fun b => b < w.heap.size) m l vm v W (hS0 W hW) (hm.keep (Keeps.below hW (fun _ h => h))) (imSl_keep (Keeps.below hW (fun _ h => h)) hl)
  have HC : Hid (moFault m = 0 → ∀ W, Below w.heap.size w W → Calls Tryz.prog 5 #[vm, v] W fun e w' => ∃ u v d, e = .returned (.tuple #[.agg #[u, v], d]) ∧ FcIs (fun b => W.heap.size ≤ b ∧ b < w'.heap.size) w' ⟨tyIns m l m.types.length, fnIns m l m.funcs.length⟩ (.agg #[u, v]) ∧ SlAt (fun b => W.heap.size ≤ b ∧ b < w'.heap.size) (DgAt w') 2 (fnBads m l m.funcs.length) d ∧ Below W.heap.size W w') := fun h0 W hW =>
    face_any (fun b => b < w.heap.size) m l vm v W (hS0 W hW) (hm.keep (Keeps.below hW (fun _ h => h))) (imSl_keep (Keeps.below hW (fun _ h => h)) hl) hz (mo_types h0) (by have := mo_counts h0 hzm; omega) (by have := mo_counts h0 hzm; omega) (mo_funcs h0)
  have HD : Hid (moFault m = 0 → imsFault l = 0 → ∀ W, Below w.heap.size w W → Calls Tryz.prog 6 #[vm, v] W fun e w' => ∃ u v d, e = .returned (.tuple #[.agg #[u, v], d]) ∧ FcIs (fun b => W.heap.size ≤ b ∧ b < w'.heap.size) w' ⟨tyIns m l m.types.length, fnIns m l m.funcs.length⟩ (.agg #[u, v]) ∧ SlAt (fun b => W.heap.size ≤ b ∧ b < w'.heap.size) (DgAt w') 2 (fnBads m l m.funcs.length) d ∧ Below W.heap.size W w') := fun h0 hi W hW =>
    faceOf_any (fun b => b < w.heap.size) m l vm v W (hS0 W hW) (hm.keep (Keeps.below hW (fun _ h => h))) (imSl_keep (Keeps.below hW (fun _ h => h)) hl) hz hi (mo_types h0) (by have := mo_counts h0 hzm; omega) (by have := mo_counts h0 hzm; omega) (mo_funcs h0)
  obtain ⟨vu, vt, vf, rfl, hu, ht, hf⟩ := hm
  obtain ⟨u1, u2, u3, rfl⟩ := hu.slice
  obtain ⟨t1, t2, t3, rfl⟩ := ht.slice
  obtain ⟨f1, f2, f3, rfl⟩ := hf.slice
  obtain ⟨a, n, cap, rfl⟩ := hl.slice
  obtain ⟨w0, hwe, hs0, hA, q0, q1, q2⟩ : ∃ w0, w.alloc (.cells #[.slice u1 u2 u3, .slice t1 t2 t3, .slice f1 f2 f3] 26) = w0 ∧ w0.heap.size = w.heap.size + 1 ∧ Below w.heap.size w w0 ∧
      w0.cell? ⟨w.heap.size, 0, none⟩ = some (.slice u1 u2 u3) ∧ w0.cell? ⟨w.heap.size, 1, none⟩ = some (.slice t1 t2 t3) ∧ w0.cell? ⟨w.heap.size, 2, none⟩ = some (.slice f1 f2 f3) :=
    ⟨_, rfl, by simp, (Below.refl _ _).alloc (Nat.le_refl _) _, by simp [go_sem], by simp [go_sem], by simp [go_sem]⟩
  have HBox : Hid (∀ W, Below w0.heap.size w0 W → (W.cell? ⟨w.heap.size, 0, none⟩ = some (.slice u1 u2 u3) ∧ W.cell? ⟨w.heap.size, 1, none⟩ = some (.slice t1 t2 t3) ∧ W.cell? ⟨w.heap.size, 2, none⟩ = some (.slice f1 f2 f3)) ∧ Below w.heap.size w W) := fun W h =>
    ⟨⟨(h.cell (p := ⟨w.heap.size, 0, none⟩) (by show w.heap.size < _; omega)).trans q0, (h.cell (p := ⟨w.heap.size, 1, none⟩) (by show w.heap.size < _; omega)).trans q1, (h.cell (p := ⟨w.heap.size, 2, none⟩) (by show w.heap.size < _; omega)).trans q2⟩, hA.trans (h.mono hA.size)⟩
  have HA := veil hA
  have HWe := veil hwe
  clear hwe hA q0 q1 q2
  clear hu ht hf hl hz hS0 hzm
  cases hg : (moFault m == 0 && imsFault l == 0) with
  | false =>
    have HG : Hid ((moFault m == 0 && imsFault l == 0) = false) := hg
    rw [hg] at HMay
    go_enter Tryz.func3, Tryz.ntmps3
    go_wp2_with fail
    rw [HWe.out]
    refine (HMay.out _ HA.out).mono ?_
    rintro e w' ⟨rfl, hb⟩
    have HB := veil (HA.out.trans (hb.mono HA.out.size))
    clear hb
    go_wp2_with fail
    go_ret
    exact ⟨rfl, HB.out⟩
  | true =>
    have hi : moFault m = 0 ∧ imsFault l = 0 := by
      rw [Bool.and_eq_true] at hg
      exact ⟨eq_of_beq hg.1, eq_of_beq hg.2⟩
    have HC2 := veil (HC.out hi.1)
    have HE := veil (HD.out hi.1 hi.2)
    rw [hg] at HMay
    clear HC HD hg hi
    generalize tyIns m l m.types.length = ks at *
    generalize fnIns m l m.funcs.length = fs at *
    generalize fnBads m l m.funcs.length = ds at *
    go_enter Tryz.func3, Tryz.ntmps3
    go_wp2_with fail
    rw [HWe.out]
    refine (HMay.out _ HA.out).mono ?_
    rintro e w1 ⟨rfl, hb⟩
    obtain ⟨⟨c0, c1, c2⟩, hb1⟩ := HBox.out _ hb
    have HB := veil hb
    have HB1 := veil hb1
    clear hb hb1 HMay
    go_wp2_with fail
    refine (HC2.out _ HB1.out).mono ?_
    rintro e w2 ⟨xu, xv, dv, rfl, hfx, hdl, hb2⟩
    have hb3 := HB.out.trans (hb2.mono HB.out.size)
    obtain ⟨x1, x2, x3, y1, y2, y3, hux, hvx⟩ := fc_slices hfx
    subst hux hvx
    obtain ⟨z1, z2, z3, rfl⟩ := hdl.slice
    obtain ⟨W4, HW4, hb4, hs4, e0, e1⟩ : ∃ W4, Hid (w2.alloc (.cells #[.slice x1 x2 x3, .slice y1 y2 y3] 32) = W4) ∧ Below w2.heap.size w2 W4 ∧ W4.heap.size = w2.heap.size + 1 ∧ W4.cell? ⟨w2.heap.size, 0, none⟩ = some (.slice x1 x2 x3) ∧ W4.cell? ⟨w2.heap.size, 1, none⟩ = some (.slice y1 y2 y3) :=
      ⟨_, rfl, (Below.refl _ _).alloc (Nat.le_refl _) _, by simp, by simp [go_sem], by simp [go_sem]⟩
    obtain ⟨⟨c3, c4, c5⟩, hb5⟩ := HBox.out _ (hb3.trans (hb4.mono hb3.size))
    have HFX : Hid (FcIs (fun b => b < W4.heap.size) W4 ⟨ks, fs⟩ (.agg #[.slice x1 x2 x3, .slice y1 y2 y3])) := hfx.keep ⟨fun b hb => hb4.block b hb.2, fun b hb => Nat.lt_of_lt_of_le hb.2 hb4.size⟩
    have HDL := veil (dgSl_keep (S' := fun b => b < W4.heap.size) ⟨fun b hb => hb4.block b hb.2, fun b hb => Nat.lt_of_lt_of_le hb.2 hb4.size⟩ hdl)
    have HB5 := veil hb5
    have HS4 := veil hs4
    clear c0 c1 c2 hfx hdl hb2 hb3 hb4 hb5 HC2 hs4
    go_wp2_with (rw [HW4.out]; clear HW4)
    refine (HE.out _ HB5.out).mono ?_
    rintro e w6 ⟨xu, xv, dv, rfl, hfy, hdl2, hb6⟩
    obtain ⟨p1, p2, p3, t4, t5, t6, hux, hvx⟩ := fc_slices hfy
    subst hux hvx
    obtain ⟨q1, q2, q3, rfl⟩ := hdl2.slice
    have hlt4 : w2.heap.size < W4.heap.size := by rw [HS4.out]; omega
    obtain ⟨W8, HW8, hb8, hs8, r2, r3⟩ : ∃ W8, Hid (w6.alloc (.cells #[.slice p1 p2 p3, .slice t4 t5 t6] 32) = W8) ∧ Below w6.heap.size w6 W8 ∧ W8.heap.size = w6.heap.size + 1 ∧ W8.cell? ⟨w6.heap.size, 0, none⟩ = some (.slice p1 p2 p3) ∧ W8.cell? ⟨w6.heap.size, 1, none⟩ = some (.slice t4 t5 t6) :=
      ⟨_, rfl, (Below.refl _ _).alloc (Nat.le_refl _) _, by simp, by simp [go_sem], by simp [go_sem]⟩
    have hb68 := hb6.trans (hb8.mono hb6.size)
    have r0 := (hb68.cell (p := ⟨w2.heap.size, 0, none⟩) hlt4).trans e0
    have r1 := (hb68.cell (p := ⟨w2.heap.size, 1, none⟩) hlt4).trans e1
    have HB9 := veil (HB5.out.trans (hb68.mono HB5.out.size))
    have HSF : Hid (Calls Tryz.prog 7 #[.agg #[.slice x1 x2 x3, .slice y1 y2 y3], .agg #[.slice p1 p2 p3, .slice t4 t5 t6]] W8 fun e w' => e = .returned (.bool (fcEq ⟨ks, fs⟩ ⟨ks, fs⟩)) ∧ Below W8.heap.size W8 w') :=
      sameFace_any (fun b => b < W8.heap.size) ⟨ks, fs⟩ ⟨ks, fs⟩ _ _ W8 (fun _ h => h)
        (HFX.out.keep ⟨fun b hb => hb68.block b hb, fun b hb => Nat.lt_of_lt_of_le hb hb68.size⟩)
        (hfy.keep ⟨fun b hb => hb8.block b hb.2, fun b hb => Nat.lt_of_lt_of_le hb.2 hb8.size⟩)
    rw [fcEq_refl] at HSF
    have HSD : Hid (∀ W, Below W8.heap.size W8 W → Calls Tryz.prog 8 #[.slice z1 z2 z3, .slice q1 q2 q3] W fun e w' => e = .returned (.bool true) ∧ Below W.heap.size W w') := fun W hW =>
      sameDiags_any (fun b => b < W8.heap.size) ds _ _ W (fun b hb => Nat.lt_of_lt_of_le hb hW.size)
        (dgSl_keep (S' := fun b => b < W8.heap.size) ⟨fun b hb => (hW.block b (Nat.lt_of_lt_of_le hb hb68.size)).trans (hb68.block b hb), fun b hb => Nat.lt_of_lt_of_le hb hb68.size⟩ HDL.out)
        (dgSl_keep (S' := fun b => b < W8.heap.size) ⟨fun b hb => (hW.block b (Nat.lt_of_lt_of_le hb.2 hb8.size)).trans (hb8.block b hb.2), fun b hb => Nat.lt_of_lt_of_le hb.2 hb8.size⟩ hdl2)
    clear c3 c4 c5 hfy hdl2 hb6 hb8 hb68 hs8 HE HFX HDL e0 e1 hlt4
    go_wp2_with (rw [HW8.out]; clear HW8)
    refine HSF.out.mono ?_
    rintro e wa ⟨rfl, hba⟩
    have HBa := veil hba
    clear hba
    go_wp2_with fail
    refine (HSD.out _ HBa.out).mono ?_
    rintro e wb ⟨rfl, hbb⟩
    have HB10 := veil (HB9.out.trans ((HBa.out.trans (hbb.mono HBa.out.size)).mono HB9.out.size))
    clear hbb
    go_wp2_with fail
    go_ret
    exact ⟨by simp, HB10.out⟩

set_option maxRecDepth 100000 in
theorem lifted (os : Os) (started : os.Started) (H : Type) (enc : TypeId × Value → H) :
    ReturnsInHanded {} Tryz.checked os 3 .any (Rows.signFacesSpec.pre6 enc Tryz.prog Tryz.f3 Rows.signFacesRow.domain false) (Rows.signFacesSpec.post enc Tryz.prog Tryz.f3 false true false false) := by
  refine returnsInHanded_of_change_sized (C := Tryz.checked) own started (by kernel_rfl) Tryz.func3
    (ChangeSpec.witness6 (enc := enc) (C := Tryz.checked) false ⟨#[], #[.agg #[.slice none 0 0, .slice none 0 0, .slice none 0 0], .slice none 0 0], []⟩ 8 (by kernel_rfl) (by kernel_rfl) (by kernel_rfl) (by kernel_rfl)) ?_
  intro W base args ds gs before hval0 hW hcnd hsz _
  have hval : ∀ (j : Nat) t v, Tryz.f3.params[j]? = some t → args[j]? = some v → Value.okWide Tryz.prog W .any base t v := hval0
  have hW' := hW
  obtain ⟨p, q, hA0, hV, rfl, hfz, hnd⟩ := hW
  have hA : DataW.TrodAll enc Tryz.prog W 0 (fun _ => true) true Tryz.f3.params.toList args.toList ds p := hA0
  rw [Tryz.params3] at hA hval hsz
  obtain ⟨v0, vs0, d0, ds0, p0, q0, hargs, rfl, rfl, h0, r0⟩ := trodAll_cons hA
  obtain ⟨v1, vs1, d1, ds1, p1, q1, hargs1, rfl, rfl, h1, r1⟩ := trodAll_cons r0
  obtain ⟨rfl, rfl, rfl⟩ := trodAll_nil r1
  obtain rfl : args = #[v0, v1] := by cases args; simp_all
  obtain ⟨rfl, rfl⟩ := trodVars_none hV
  obtain ⟨cs0, rfl, _⟩ := okWide_struct Tryz.underlying26 (hval 0 26 v0 rfl rfl)
  obtain ⟨a1, len1, cap1, rfl⟩ := okWide_slice Tryz.underlying27 (hval 1 27 v1 rfl rfl)
  have k0 := h0
  have k1 := h1
  have lt0 : ∀ x ∈ p0, x.block < W.heap.size := by obtain ⟨m, hm⟩ := k0; exact DataW.trod_lt m _ _ _ hm
  have lt1 : ∀ x ∈ p1, x.block < W.heap.size := by obtain ⟨m, hm⟩ := k1; exact DataW.trod_lt m _ _ _ hm
  have z1 : ∀ n ∈ d1.weights Tryz.prog 27, n ≤ reachBytes := fun n hn => by
    have := List.all_eq_true.1 hsz n (DataW.weights_mem_each (j := 1) (t := 27) (d := d1) rfl rfl n hn)
    simpa using this
  have z0 : ∀ n ∈ d0.weights Tryz.prog 26, n ≤ reachBytes := fun n hn => by
    have := List.all_eq_true.1 hsz n (DataW.weights_mem_each (j := 0) (t := 26) (d := d0) rfl rfl n hn)
    simpa using this
  obtain ⟨m0, w0, s0⟩ : ∃ l, MoIs (fun b => b < W.heap.size) W l (.agg cs0) ∧ moSmall l := by
    obtain ⟨fuel, hf⟩ := h0
    obtain ⟨m, vu, vt, vf, hcs, hm, hsm⟩ := mo_readZ fuel _ _ hf z0
    have e : cs0 = #[vu, vt, vf] := by
      have : cs0.toList = [vu, vt, vf] := hcs
      cases cs0; simp_all
    exact ⟨m, by rw [e]; exact hm, hsm⟩
  obtain ⟨l1, w1, s1⟩ : ∃ l, SlAt (fun b => b < W.heap.size) (ImAt (fun b => b < W.heap.size) W) 4 l (.slice a1 len1 cap1) ∧ ∀ i ∈ l, fcSmall i.face := by
    obtain ⟨fuel, hf⟩ := h1
    obtain ⟨v, l, hv, hl, _, hq⟩ := sl_readZ (P := ImAt (fun b => b < W.heap.size) W) (Q := fun i => fcSmall i.face) Tryz.underlying27 cellsIm bytesIm (by omega) hf z1 (fun m' cs' x' b o hx' hz' _ hl' => by
      obtain ⟨i, vt, vf, rfl, h1, h2, h3⟩ := im_readZ _ _ _ hx' hz'
      exact ⟨i, ⟨⟨hl'.2 0 (by simp), h1⟩, hl'.2 1 (by simp), vt, vf, hl'.2 2 (by simp), hl'.2 3 (by simp), h2⟩, h3⟩)
    have e : Value.slice a1 len1 cap1 = v := by simpa [Value.cells] using hv
    exact ⟨l, by rw [e]; exact hl, hq⟩
  clear hA0 hval0
  refine (walk _ _ m0 l1 W w0 w1 s1 s0).mono fun e W' ⟨he, bel⟩ => ?_
  subst he
  exact ⟨_, rfl, _, _, _, [], _, [], hW', trodAll_mk1 (shut_bool Tryz.underlying4 _), (trodAll_cons_mk (Below.trod laidOut (by kernel_rfl) (of_decide_eq_true (by kernel_rfl)) k0 bel lt0) (trodAll_cons_mk (Below.trod laidOut (by kernel_rfl) (of_decide_eq_true (by kernel_rfl)) k1 bel lt1) trodAll_mk0)), rfl, bel.frame _, fun h => by cases h⟩

theorem over : Rows.signFacesRow.holds Tryz.pinned (OpenSpec.ofChange Rows.signFacesSpec) :=
  OpenClaim.holds_of_wide 3 Tryz.f3 rfl rfl rfl rfl rfl rfl rfl ⟨rfl, rfl, rfl, rfl, rfl⟩ rfl rfl rfl rfl rfl (by kernel_rfl) Tryz.func3 (by kernel_rfl)
    (of_decide_eq_true (by kernel_rfl)) (by unfold Func.isWrapper; first | (rw [if_pos (by decide +kernel)]; kernel_rfl) | (rw [if_neg (by decide +kernel)]; exact ⟨rfl, rfl⟩))
    (fun os started H enc _ => lifted os started H enc)

theorem proved : Rows.SignFacesSaid :=
  over
#print axioms proved
end Go.Proofs.YtkdailcadcfepafGreat.signFaces
