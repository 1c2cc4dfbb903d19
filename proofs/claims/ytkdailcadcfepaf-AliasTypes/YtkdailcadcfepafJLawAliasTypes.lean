/- At every module and list of imports that can be read alias.Types answers what the reference's TypesOf answers, where module and imports may be (AliasTypes), without conditions. -/
import Derived.Test.YtkdailcadcfepafJAlias30
import Derived.Test.YtkdailcadcfepafJReadTree
import Derived.OpenShut
import Derived.ShutString
import Derived.ChangeOld
namespace Go.Proofs.Ytkdailcadcfepaf.aliasTypes
open Go.ChangeShapes Go.WideShapes Go.ChangeAt Go.RowKit
open Go.ChangeMaps (open_string shut_string)

theorem own : ownKnob Try.prog.godebug = none := by kernel_rfl
theorem laidOut : laidOutB Try.prog = true := by kernel_rfl

set_option maxHeartbeats 4000000 in
theorem walk (vm v : Value) (m : Mo) (l : List Im) (w : World) (hm : MoIs (fun b => b < w.heap.size) w m vm) (hl : SlAt (fun b => b < w.heap.size) (ImAt (fun b => b < w.heap.size) w) 4 l v) (hz : ∀ i ∈ l, fcSmall i.face) (hzm : moSmall m) :
    Calls Try.prog 5 #[vm, v] w fun e w' => e = .returned (.bool true) ∧ Below w.heap.size w w' := by
  have hS0 : ∀ W : World, Below w.heap.size w W → ∀ b, b < w.heap.size → b < W.heap.size := fun W hW b hb => Nat.lt_of_lt_of_le hb hW.size
  have HMay : Hid (∀ W, Below w.heap.size w W → Calls Try.prog 8 #[vm, v] W fun e w' => e = .returned (.bool (moFault m == 0 && imsFault l == 0)) ∧ Below W.heap.size W w') := fun W hW =>
    may_any (fun b => b < w.heap.size) m l vm v W (hS0 W hW) (hm.keep (Keeps.below hW (fun _ h => h))) (imSl_keep (Keeps.below hW (fun _ h => h)) hl)
  have HC : Hid (moFault m = 0 → ∀ W, Below w.heap.size w W → Calls Try.prog 15 #[vm, v] W fun e w' => ∃ u v, e = .returned (.tuple #[u, v]) ∧ SlAt (fun b => W.heap.size ≤ b ∧ b < w'.heap.size) (KnAt w') 2 (tyIns m l m.types.length) u ∧ SlAt (fun b => W.heap.size ≤ b ∧ b < w'.heap.size) (DgAt w') 2 (tyBads m l m.types.length) v ∧ Below W.heap.size W w') := fun h0 W hW =>
    types_any (fun b => b < w.heap.size) m l vm v W (hS0 W hW) (hm.keep (Keeps.below hW (fun _ h => h))) (imSl_keep (Keeps.below hW (fun _ h => h)) hl) hz (mo_types h0) (by have := mo_counts h0 hzm; omega)
  have HD : Hid (moFault m = 0 → imsFault l = 0 → ∀ W, Below w.heap.size w W → Calls Try.prog 16 #[vm, v] W fun e w' => ∃ u v, e = .returned (.tuple #[u, v]) ∧ SlAt (fun b => W.heap.size ≤ b ∧ b < w'.heap.size) (KnAt w') 2 (tyIns m l m.types.length) u ∧ SlAt (fun b => W.heap.size ≤ b ∧ b < w'.heap.size) (DgAt w') 2 (tyBads m l m.types.length) v ∧ Below W.heap.size W w') := fun h0 hi W hW =>
    typesOf_any (fun b => b < w.heap.size) m l vm v W (hS0 W hW) (hm.keep (Keeps.below hW (fun _ h => h))) (imSl_keep (Keeps.below hW (fun _ h => h)) hl) hz hi (mo_types h0) (by have := mo_counts h0 hzm; omega)
  obtain ⟨vu, vt, vf, rfl, hu, ht, hf⟩ := hm
  obtain ⟨u1, u2, u3, rfl⟩ := hu.slice
  obtain ⟨t1, t2, t3, rfl⟩ := ht.slice
  obtain ⟨f1, f2, f3, rfl⟩ := hf.slice
  obtain ⟨a, n, cap, rfl⟩ := hl.slice
  obtain ⟨w0, hwe, hs0, hA, q0, q1, q2⟩ : ∃ w0, w.alloc (.cells #[.slice u1 u2 u3, .slice t1 t2 t3, .slice f1 f2 f3] 26) = w0 ∧ w0.heap.size = w.heap.size + 1 ∧ Below w.heap.size w w0 ∧
      w0.cell? ⟨w.heap.size, 0, none⟩ = some (.slice u1 u2 u3) ∧ w0.cell? ⟨w.heap.size, 1, none⟩ = some (.slice t1 t2 t3) ∧ w0.cell? ⟨w.heap.size, 2, none⟩ = some (.slice f1 f2 f3) :=
    ⟨_, rfl, by simp, (Below.refl _ _).alloc (Nat.le_refl _) _, by simp [go_sem], by simp [go_sem], by simp [go_sem]⟩
  have HBox : Hid (∀ W, Below w0.heap.size w0 W → (W.cell? ⟨w.heap.size, 0, none⟩ = some (.slice u1 u2 u3) ∧ W.cell? ⟨w.heap.size, 1, none⟩ = some (.slice t1 t2 t3) ∧ W.cell? ⟨w.heap.size, 2, none⟩ = some (.slice f1 f2 f3)) ∧ Below w.heap.size w W) := fun W h =>
    ⟨⟨(h.cell (p := ⟨w.heap.size, 0, none⟩) (by show w.heap.size < _; omega)).trans q0, (h.cell (p := ⟨w.heap.size, 1, none⟩) (by show w.heap.size < _; omega)).trans q1, (h.cell (p := ⟨w.heap.size, 2, none⟩) (by show w.heap.size < _; omega)).trans q2⟩, hA.trans (h.mono hA.size)⟩
  have HA := veil hA
  have HWe := veil hwe
  clear hwe hA q0 q1 q2
  clear hu ht hf hl hz hS0 hzm
  cases hg : (moFault m == 0 && imsFault l == 0) with
  | false =>
    have HG : Hid ((moFault m == 0 && imsFault l == 0) = false) := hg
    rw [hg] at HMay
    go_enter Try.func5, Try.ntmps5
    go_wp2_with fail
    rw [HWe.out]
    refine (HMay.out _ HA.out).mono ?_
    rintro e w' ⟨rfl, hb⟩
    have HB := veil (HA.out.trans (hb.mono HA.out.size))
    clear hb
    go_wp2_with fail
    go_ret
    exact ⟨rfl, HB.out⟩
  | true =>
    have hi : moFault m = 0 ∧ imsFault l = 0 := by
      rw [Bool.and_eq_true] at hg
      exact ⟨eq_of_beq hg.1, eq_of_beq hg.2⟩
    have HC2 := veil (HC.out hi.1)
    have HE := veil (HD.out hi.1 hi.2)
    rw [hg] at HMay
    clear HC HD hg hi
    generalize tyIns m l m.types.length = ks at *
    generalize tyBads m l m.types.length = ds at *
    go_enter Try.func5, Try.ntmps5
    go_wp2_with fail
    rw [HWe.out]
    refine (HMay.out _ HA.out).mono ?_
    rintro e w1 ⟨rfl, hb⟩
    obtain ⟨⟨c0, c1, c2⟩, hb1⟩ := HBox.out _ hb
    have HB := veil hb
    have HB1 := veil hb1
    clear hb hb1 HMay
    go_wp2_with fail
    refine (HC2.out _ HB1.out).mono ?_
    rintro e w2 ⟨u, dv, rfl, hsl, hdl, hb2⟩
    have hb3 := HB.out.trans (hb2.mono HB.out.size)
    obtain ⟨⟨c3, c4, c5⟩, hb5⟩ := HBox.out _ hb3
    obtain ⟨x1, x2, x3, rfl⟩ := hsl.slice
    obtain ⟨z1, z2, z3, rfl⟩ := hdl.slice
    have HSL := veil hsl
    have HDL := veil hdl
    have HB5 := veil hb5
    clear c0 c1 c2 hsl hdl hb2 hb3 hb5 HC2
    go_wp2_with fail
    refine (HE.out _ HB5.out).mono ?_
    rintro e w6 ⟨u, dv, rfl, hsl2, hdl2, hb6⟩
    obtain ⟨y1, y2, y3, rfl⟩ := hsl2.slice
    obtain ⟨q1, q2, q3, rfl⟩ := hdl2.slice
    have HB7 := veil (HB5.out.trans (hb6.mono HB5.out.size))
    have HSF : Hid (Calls Try.prog 17 #[.agg #[.slice x1 x2 x3, .slice none 0 0], .agg #[.slice y1 y2 y3, .slice none 0 0]] w6 fun e w' => e = .returned (.bool (fcEq ⟨ks, []⟩ ⟨ks, []⟩)) ∧ Below w6.heap.size w6 w') :=
      sameFace_any (fun b => b < w6.heap.size) ⟨ks, []⟩ ⟨ks, []⟩ _ _ w6 (fun _ h => h)
        ⟨_, _, rfl, knSl_keep (S' := fun b => b < w6.heap.size) ⟨fun b hb => hb6.block b hb.2, fun b hb => Nat.lt_of_lt_of_le hb.2 hb6.size⟩ HSL.out, none, 0, rfl, ⟨by simp, by simp⟩, Or.inl rfl⟩
        ⟨_, _, rfl, knSl_keep (S' := fun b => b < w6.heap.size) ⟨fun _ _ => rfl, fun b hb => hb.2⟩ hsl2, none, 0, rfl, ⟨by simp, by simp⟩, Or.inl rfl⟩
    rw [fcEq_refl] at HSF
    have HSD : Hid (∀ W, Below w6.heap.size w6 W → Calls Try.prog 11 #[.slice z1 z2 z3, .slice q1 q2 q3] W fun e w' => e = .returned (.bool true) ∧ Below W.heap.size W w') := fun W hW =>
      sameDiags_any (fun b => b < w6.heap.size) ds _ _ W (fun b hb => Nat.lt_of_lt_of_le hb hW.size)
        (dgSl_keep (S' := fun b => b < w6.heap.size) ⟨fun b hb => (hW.block b (Nat.lt_of_lt_of_le hb.2 hb6.size)).trans (hb6.block b hb.2), fun b hb => Nat.lt_of_lt_of_le hb.2 hb6.size⟩ HDL.out)
        (dgSl_keep (S' := fun b => b < w6.heap.size) ⟨fun b hb => hW.block b hb.2, fun b hb => hb.2⟩ hdl2)
    clear c3 c4 c5 hsl2 hdl2 hb6 HE HSL HDL
    go_wp2_with fail
    refine HSF.out.mono ?_
    rintro e w8 ⟨rfl, hb8⟩
    have HB8 := veil hb8
    clear hb8
    go_wp2_with fail
    refine (HSD.out _ HB8.out).mono ?_
    rintro e w9 ⟨rfl, hb9⟩
    have HB9 := veil (HB7.out.trans ((HB8.out.trans (hb9.mono HB8.out.size)).mono HB7.out.size))
    clear hb9
    go_wp2_with fail
    go_ret
    exact ⟨by simp, HB9.out⟩

set_option maxRecDepth 100000 in
theorem lifted (os : Os) (started : os.Started) (H : Type) (enc : TypeId × Value → H) :
    ReturnsInHanded {} Try.checked os 5 .any (Rows.aliasTypesSpec.pre6 enc Try.prog Try.f5 Rows.aliasTypesRow.domain false) (Rows.aliasTypesSpec.post enc Try.prog Try.f5 false true false false) := by
  refine returnsInHanded_of_change_sized (C := Try.checked) own started (by kernel_rfl) Try.func5
    (ChangeSpec.witness6 (enc := enc) (C := Try.checked) false ⟨#[], #[.agg #[.slice none 0 0, .slice none 0 0, .slice none 0 0], .slice none 0 0], []⟩ 8 (by kernel_rfl) (by kernel_rfl) (by kernel_rfl) (by kernel_rfl)) ?_
  intro W base args ds gs before hval0 hW hcnd hsz _
  have hval : ∀ (j : Nat) t v, Try.f5.params[j]? = some t → args[j]? = some v → Value.okWide Try.prog W .any base t v := hval0
  have hW' := hW
  obtain ⟨p, q, hA0, hV, rfl, hfz, hnd⟩ := hW
  have hA : DataW.TrodAll enc Try.prog W 0 (fun _ => true) true Try.f5.params.toList args.toList ds p := hA0
  rw [Try.params5] at hA hval hsz
  obtain ⟨v0, vs0, d0, ds0, p0, q0, hargs, rfl, rfl, h0, r0⟩ := trodAll_cons hA
  obtain ⟨v1, vs1, d1, ds1, p1, q1, hargs1, rfl, rfl, h1, r1⟩ := trodAll_cons r0
  obtain ⟨rfl, rfl, rfl⟩ := trodAll_nil r1
  obtain rfl : args = #[v0, v1] := by cases args; simp_all
  obtain ⟨rfl, rfl⟩ := trodVars_none hV
  obtain ⟨cs0, rfl, _⟩ := okWide_struct Try.underlying26 (hval 0 26 v0 rfl rfl)
  obtain ⟨a1, len1, cap1, rfl⟩ := okWide_slice Try.underlying27 (hval 1 27 v1 rfl rfl)
  have k0 := h0
  have k1 := h1
  have lt0 : ∀ x ∈ p0, x.block < W.heap.size := by obtain ⟨m, hm⟩ := k0; exact DataW.trod_lt m _ _ _ hm
  have lt1 : ∀ x ∈ p1, x.block < W.heap.size := by obtain ⟨m, hm⟩ := k1; exact DataW.trod_lt m _ _ _ hm
  have z1 : ∀ n ∈ d1.weights Try.prog 27, n ≤ reachBytes := fun n hn => by
    have := List.all_eq_true.1 hsz n (DataW.weights_mem_each (j := 1) (t := 27) (d := d1) rfl rfl n hn)
    simpa using this
  have z0 : ∀ n ∈ d0.weights Try.prog 26, n ≤ reachBytes := fun n hn => by
    have := List.all_eq_true.1 hsz n (DataW.weights_mem_each (j := 0) (t := 26) (d := d0) rfl rfl n hn)
    simpa using this
  obtain ⟨m0, w0, s0⟩ : ∃ l, MoIs (fun b => b < W.heap.size) W l (.agg cs0) ∧ moSmall l := by
    obtain ⟨fuel, hf⟩ := h0
    obtain ⟨m, vu, vt, vf, hcs, hm, hsm⟩ := mo_readZ fuel _ _ hf z0
    have e : cs0 = #[vu, vt, vf] := by
      have : cs0.toList = [vu, vt, vf] := hcs
      cases cs0; simp_all
    exact ⟨m, by rw [e]; exact hm, hsm⟩
  obtain ⟨l1, w1, s1⟩ : ∃ l, SlAt (fun b => b < W.heap.size) (ImAt (fun b => b < W.heap.size) W) 4 l (.slice a1 len1 cap1) ∧ ∀ i ∈ l, fcSmall i.face := by
    obtain ⟨fuel, hf⟩ := h1
    obtain ⟨v, l, hv, hl, _, hq⟩ := sl_readZ (P := ImAt (fun b => b < W.heap.size) W) (Q := fun i => fcSmall i.face) Try.underlying27 cellsIm bytesIm (by omega) hf z1 (fun m' cs' x' b o hx' hz' _ hl' => by
      obtain ⟨i, vt, vf, rfl, h1, h2, h3⟩ := im_readZ _ _ _ hx' hz'
      exact ⟨i, ⟨⟨hl'.2 0 (by simp), h1⟩, hl'.2 1 (by simp), vt, vf, hl'.2 2 (by simp), hl'.2 3 (by simp), h2⟩, h3⟩)
    have e : Value.slice a1 len1 cap1 = v := by simpa [Value.cells] using hv
    exact ⟨l, by rw [e]; exact hl, hq⟩
  clear hA0 hval0
  refine (walk _ _ m0 l1 W w0 w1 s1 s0).mono fun e W' ⟨he, bel⟩ => ?_
  subst he
  exact ⟨_, rfl, _, _, _, [], _, [], hW', trodAll_mk1 (shut_bool Try.underlying4 _), (trodAll_cons_mk (Below.trod laidOut (by kernel_rfl) (of_decide_eq_true (by kernel_rfl)) k0 bel lt0) (trodAll_cons_mk (Below.trod laidOut (by kernel_rfl) (of_decide_eq_true (by kernel_rfl)) k1 bel lt1) trodAll_mk0)), rfl, bel.frame _, fun h => by cases h⟩

theorem over : Rows.aliasTypesRow.holds Try.pinned (OpenSpec.ofChange Rows.aliasTypesSpec) :=
  OpenClaim.holds_of_wide 5 Try.f5 rfl rfl rfl rfl rfl rfl rfl ⟨rfl, rfl, rfl, rfl, rfl⟩ rfl rfl rfl rfl rfl (by kernel_rfl) Try.func5 (by kernel_rfl)
    (of_decide_eq_true (by kernel_rfl)) (by unfold Func.isWrapper; first | (rw [if_pos (by decide +kernel)]; kernel_rfl) | (rw [if_neg (by decide +kernel)]; exact ⟨rfl, rfl⟩))
    (fun os started H enc _ => lifted os started H enc)

theorem proved : Rows.AliasTypesSaid :=
  over
#print axioms proved
end Go.Proofs.Ytkdailcadcfepaf.aliasTypes
