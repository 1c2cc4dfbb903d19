/- At every module, list of imports and name that can be read alias.From answers what the reference's FromOf answers, where module and imports may be (AliasFroms), without conditions. -/
import Derived.Test.YtieoddnaknpmlaeAlias5
import Derived.Test.YtieoddnaknpmlaeReadTree

import Derived.OpenShut
import Derived.ShutString
import Derived.ChangeOld
namespace Go.Proofs.Ytieoddnaknpmlae.aliasFroms
open Go.ChangeShapes Go.WideShapes Go.ChangeAt Go.RowKit
open Go.ChangeMaps (open_string shut_string)

theorem own : ownKnob Try.prog.godebug = none := by kernel_rfl
theorem laidOut : laidOutB Try.prog = true := by kernel_rfl

set_option maxHeartbeats 2000000 in
theorem walk (vm v : Value) (m : Mo) (l : List Im) (s : ByteArray) (_ : s.size ≤ maxLen) (w : World) (hm : MoIs (fun b => b < w.heap.size) w m vm) (hl : SlAt (fun b => b < w.heap.size) (ImAt (fun b => b < w.heap.size) w) 4 l v) (hz : ∀ i ∈ l, fcSmall i.face) (_ : moSmall m) :
    Calls Try.prog 8 #[vm, v, .string s] w fun e w' => e = .returned (.bool true) ∧ Below w.heap.size w w' := by
  have hS0 : ∀ W : World, Below w.heap.size w W → ∀ b, b < w.heap.size → b < W.heap.size := fun W hW b hb => Nat.lt_of_lt_of_le hb hW.size
  have HMay : Hid (∀ W, Below w.heap.size w W → Calls Try.prog 21 #[vm, v] W fun e w' => e = .returned (.bool (moFault m == 0 && imsFault l == 0)) ∧ Below W.heap.size W w') := fun W hW =>
    may_any (fun b => b < w.heap.size) m l vm v W (hS0 W hW) (hm.keep (Keeps.below hW (fun _ h => h))) (imSl_keep (Keeps.below hW (fun _ h => h)) hl)
  have HC : Hid (∀ W, Below w.heap.size w W → Calls Try.prog 22 #[vm, v, .string s] W fun e w' => ∃ a n cap a2 n2 cap2, e = .returned (.tuple #[.agg #[.slice a n cap, .slice a2 n2 cap2], .bool (fromOk m.uses l s)]) ∧ FcIs (fun b => b < w'.heap.size) w' (fromFc m.uses l s) (.agg #[.slice a n cap, .slice a2 n2 cap2]) ∧ Below W.heap.size W w') := fun W hW =>
    from_any (fun b => b < w.heap.size) m l s vm v W (hS0 W hW) (hm.keep (Keeps.below hW (fun _ h => h))) (imSl_keep (Keeps.below hW (fun _ h => h)) hl) hz
  have HD : Hid (imsFault l = 0 → ∀ W, Below w.heap.size w W → Calls Try.prog 23 #[vm, v, .string s] W fun e w' => ∃ a n cap a2 n2 cap2, e = .returned (.tuple #[.agg #[.slice a n cap, .slice a2 n2 cap2], .bool (fromOk m.uses l s)]) ∧ FcIs (fun b => b < w.heap.size) W (fromFc m.uses l s) (.agg #[.slice a n cap, .slice a2 n2 cap2]) ∧ Below W.heap.size W w') := fun hi W hW =>
    fromOf_any (fun b => b < w.heap.size) m l s vm v W (hS0 W hW) (hm.keep (Keeps.below hW (fun _ h => h))) (imSl_keep (Keeps.below hW (fun _ h => h)) hl) hi
  obtain ⟨vu, vt, vf, rfl, hu, ht, hf⟩ := hm
  obtain ⟨u1, u2, u3, rfl⟩ := hu.slice
  obtain ⟨t1, t2, t3, rfl⟩ := ht.slice
  obtain ⟨f1, f2, f3, rfl⟩ := hf.slice
  obtain ⟨a, n, cap, rfl⟩ := hl.slice
  obtain ⟨w0, hwe, hs0, hA, q0, q1, q2⟩ : ∃ w0, w.alloc (.cells #[.slice u1 u2 u3, .slice t1 t2 t3, .slice f1 f2 f3] 46) = w0 ∧ w0.heap.size = w.heap.size + 1 ∧ Below w.heap.size w w0 ∧
      w0.cell? ⟨w.heap.size, 0, none⟩ = some (.slice u1 u2 u3) ∧ w0.cell? ⟨w.heap.size, 1, none⟩ = some (.slice t1 t2 t3) ∧ w0.cell? ⟨w.heap.size, 2, none⟩ = some (.slice f1 f2 f3) :=
    ⟨_, rfl, by simp, (Below.refl _ _).alloc (Nat.le_refl _) _, by simp [go_sem], by simp [go_sem], by simp [go_sem]⟩
  have HBox : Hid (∀ W, Below w0.heap.size w0 W → (W.cell? ⟨w.heap.size, 0, none⟩ = some (.slice u1 u2 u3) ∧ W.cell? ⟨w.heap.size, 1, none⟩ = some (.slice t1 t2 t3) ∧ W.cell? ⟨w.heap.size, 2, none⟩ = some (.slice f1 f2 f3)) ∧ Below w.heap.size w W) := fun W h =>
    ⟨⟨(h.cell (p := ⟨w.heap.size, 0, none⟩) (by show w.heap.size < _; omega)).trans q0, (h.cell (p := ⟨w.heap.size, 1, none⟩) (by show w.heap.size < _; omega)).trans q1, (h.cell (p := ⟨w.heap.size, 2, none⟩) (by show w.heap.size < _; omega)).trans q2⟩, hA.trans (h.mono hA.size)⟩
  have HA := veil hA
  have HWe := veil hwe
  clear hwe hA q0 q1 q2
  clear hu ht hf hl hz hS0
  cases hg : (moFault m == 0 && imsFault l == 0) with
  | false =>
    have HG : Hid ((moFault m == 0 && imsFault l == 0) = false) := hg
    rw [hg] at HMay
    go_enter Try.func8, Try.ntmps8
    go_wp2_with fail
    rw [HWe.out]
    refine (HMay.out _ HA.out).mono ?_
    rintro e w' ⟨rfl, hb⟩
    have HB := veil (HA.out.trans (hb.mono HA.out.size))
    clear hb
    go_wp2_with fail
    go_ret
    exact ⟨rfl, HB.out⟩
  | true =>
    have hi : imsFault l = 0 := by
      rw [Bool.and_eq_true] at hg
      exact eq_of_beq hg.2
    have HE := veil (HD.out hi)
    rw [hg] at HMay
    clear HD hg hi
    generalize fromFc m.uses l s = fc at *
    generalize fromOk m.uses l s = ok at *
    go_enter Try.func8, Try.ntmps8
    go_wp2_with fail
    rw [HWe.out]
    refine (HMay.out _ HA.out).mono ?_
    rintro e w1 ⟨rfl, hb⟩
    obtain ⟨⟨c0, c1, c2⟩, hb1⟩ := HBox.out _ hb
    have HB := veil hb
    have HB1 := veil hb1
    clear hb hb1 HMay
    go_wp2_with fail
    refine (HC.out _ HB1.out).mono ?_
    rintro e w2 ⟨x1, x2, x3, y1, y2, y3, rfl, hfx, hb2⟩
    have hb3 := HB.out.trans (hb2.mono HB.out.size)
    have hb4 : Below w2.heap.size w2 (w2.alloc (.cells #[.slice x1 x2 x3, .slice y1 y2 y3] 25)) := (Below.refl _ _).alloc (Nat.le_refl _) _
    obtain ⟨⟨c3, c4, c5⟩, hb5⟩ := HBox.out _ (hb3.trans (hb4.mono hb3.size))
    have e0 : (w2.alloc (.cells #[.slice x1 x2 x3, .slice y1 y2 y3] 25)).cell? ⟨w2.heap.size, 0, none⟩ = some (.slice x1 x2 x3) := by simp [go_sem]
    have e1 : (w2.alloc (.cells #[.slice x1 x2 x3, .slice y1 y2 y3] 25)).cell? ⟨w2.heap.size, 1, none⟩ = some (.slice y1 y2 y3) := by simp [go_sem]
    have HFX := veil (hfx.keep (Keeps.below hb4 (fun _ h => h)))
    have HB5 := veil hb5
    have hs4 : (w2.alloc (.cells #[.slice x1 x2 x3, .slice y1 y2 y3] 25)).heap.size = w2.heap.size + 1 := by simp
    have HS4 := veil hs4
    clear c0 c1 c2 hfx hb2 hb3 hb4 hb5 HC hs4
    go_wp2_with fail
    refine (HE.out _ HB5.out).mono ?_
    rintro e w6 ⟨z1, z2, z3, t4, t5, t6, rfl, hfy, hb6⟩
    have hb7 := HB5.out.trans (hb6.mono HB5.out.size)
    have hsz6 := hb6.size
    rw [HS4.out] at hsz6
    have hb8 : Below w6.heap.size w6 (w6.alloc (.cells #[.slice z1 z2 z3, .slice t4 t5 t6] 25)) := (Below.refl _ _).alloc (Nat.le_refl _) _
    have hb9 := hb6.trans (hb8.mono hb6.size)
    have r0 := (hb9.cell (p := ⟨w2.heap.size, 0, none⟩) (by show w2.heap.size < _; rw [HS4.out]; omega)).trans e0
    have r1 := (hb9.cell (p := ⟨w2.heap.size, 1, none⟩) (by show w2.heap.size < _; rw [HS4.out]; omega)).trans e1
    have r2 : (w6.alloc (.cells #[.slice z1 z2 z3, .slice t4 t5 t6] 25)).cell? ⟨w6.heap.size, 0, none⟩ = some (.slice z1 z2 z3) := by simp [go_sem]
    have r3 : (w6.alloc (.cells #[.slice z1 z2 z3, .slice t4 t5 t6] 25)).cell? ⟨w6.heap.size, 1, none⟩ = some (.slice t4 t5 t6) := by simp [go_sem]
    have hb10 := hb7.trans (hb8.mono hb7.size)
    have HSF : Hid (Calls Try.prog 10 #[.agg #[.slice x1 x2 x3, .slice y1 y2 y3], .agg #[.slice z1 z2 z3, .slice t4 t5 t6]] (w6.alloc (.cells #[.slice z1 z2 z3, .slice t4 t5 t6] 25)) fun e w' => e = .returned (.bool (fcEq fc fc)) ∧ Below (w6.alloc (.cells #[.slice z1 z2 z3, .slice t4 t5 t6] 25)).heap.size (w6.alloc (.cells #[.slice z1 z2 z3, .slice t4 t5 t6] 25)) w') :=
      sameFace_any (fun b => b < (w6.alloc (.cells #[.slice z1 z2 z3, .slice t4 t5 t6] 25)).heap.size) fc fc _ _ _ (fun _ h => h)
        ((HFX.out.keep (Keeps.below hb9 (fun b hb => by rw [HS4.out]; omega))).keep ⟨fun _ _ => rfl, fun b hb => by have := hb9.size; rw [HS4.out] at this; omega⟩)
        ((hfy.keep (Keeps.below hb9 (fun b hb => Nat.lt_of_lt_of_le hb HB5.out.size))).keep ⟨fun _ _ => rfl, fun b hb => Nat.lt_of_lt_of_le hb hb10.size⟩)
    rw [fcEq_refl] at HSF
    have HB10 := veil hb10
    clear hb6 hb7 hb8 hb9 hb10 hfy e0 e1 c3 c4 c5 HE
    go_wp2_with fail
    refine HSF.out.mono ?_
    rintro e w11 ⟨rfl, hb11⟩
    have HB11 := veil (HB10.out.trans (hb11.mono HB10.out.size))
    clear hb11
    go_wp2_with fail
    go_ret
    exact ⟨by simp, HB11.out⟩

set_option maxRecDepth 100000 in
theorem lifted (os : Os) (started : os.Started) (H : Type) (enc : TypeId × Value → H) :
    ReturnsInHanded {} Try.checked os 8 .any (Rows.aliasFromsSpec.pre6 enc Try.prog Try.f8 Rows.aliasFromsRow.domain false) (Rows.aliasFromsSpec.post enc Try.prog Try.f8 false true false false) := by
  refine returnsInHanded_of_change_sized (C := Try.checked) own started (by kernel_rfl) Try.func8
    (ChangeSpec.witness6 (enc := enc) (C := Try.checked) false ⟨#[], #[.agg #[.slice none 0 0, .slice none 0 0, .slice none 0 0], .slice none 0 0, .string ByteArray.empty], []⟩ 8 (by kernel_rfl) (by kernel_rfl) (by kernel_rfl) (by kernel_rfl)) ?_
  intro W base args ds gs before hval0 hW hcnd hsz _
  have hval : ∀ (j : Nat) t v, Try.f8.params[j]? = some t → args[j]? = some v → Value.okWide Try.prog W .any base t v := hval0
  have hW' := hW
  obtain ⟨p, q, hA0, hV, rfl, hfz, hnd⟩ := hW
  have hA : DataW.TrodAll enc Try.prog W 0 (fun _ => true) true Try.f8.params.toList args.toList ds p := hA0
  rw [Try.params8] at hA hval hsz
  obtain ⟨v0, vs0, d0, ds0, p0, q0, hargs, rfl, rfl, h0, r0⟩ := trodAll_cons hA
  obtain ⟨v1, vs1, d1, ds1, p1, q1, hargs1, rfl, rfl, h1, r1⟩ := trodAll_cons r0
  obtain ⟨v2, vs2, d2, ds2, p2, q2, hargs2, rfl, rfl, h2, r2⟩ := trodAll_cons r1
  obtain ⟨rfl, rfl, rfl⟩ := trodAll_nil r2
  obtain rfl : args = #[v0, v1, v2] := by cases args; simp_all
  obtain ⟨rfl, rfl⟩ := trodVars_none hV
  obtain ⟨cs0, rfl, _⟩ := okWide_struct Try.underlying46 (hval 0 46 v0 rfl rfl)
  obtain ⟨a1, len1, cap1, rfl⟩ := okWide_slice Try.underlying40 (hval 1 40 v1 rfl rfl)
  obtain ⟨a2, rfl, rfl, rfl, w2⟩ := open_string Try.underlying9 (hval 2 9 v2 rfl rfl) h2
  have k0 := h0
  have k1 := h1
  have lt0 : ∀ x ∈ p0, x.block < W.heap.size := by obtain ⟨m, hm⟩ := k0; exact DataW.trod_lt m _ _ _ hm
  have lt1 : ∀ x ∈ p1, x.block < W.heap.size := by obtain ⟨m, hm⟩ := k1; exact DataW.trod_lt m _ _ _ hm
  have z1 : ∀ n ∈ d1.weights Try.prog 40, n ≤ reachBytes := fun n hn => by
    have := List.all_eq_true.1 hsz n (DataW.weights_mem_each (j := 1) (t := 40) (d := d1) rfl rfl n hn)
    simpa using this
  have z0 : ∀ n ∈ d0.weights Try.prog 46, n ≤ reachBytes := fun n hn => by
    have := List.all_eq_true.1 hsz n (DataW.weights_mem_each (j := 0) (t := 46) (d := d0) rfl rfl n hn)
    simpa using this
  obtain ⟨m0, w0, s0⟩ : ∃ l, MoIs (fun b => b < W.heap.size) W l (.agg cs0) ∧ moSmall l := by
    obtain ⟨fuel, hf⟩ := h0
    obtain ⟨m, vu, vt, vf, hcs, hm, hsm⟩ := mo_readZ fuel _ _ hf z0
    have e : cs0 = #[vu, vt, vf] := by
      have : cs0.toList = [vu, vt, vf] := hcs
      cases cs0; simp_all
    exact ⟨m, by rw [e]; exact hm, hsm⟩
  obtain ⟨l1, w1, s1⟩ : ∃ l, SlAt (fun b => b < W.heap.size) (ImAt (fun b => b < W.heap.size) W) 4 l (.slice a1 len1 cap1) ∧ ∀ i ∈ l, fcSmall i.face := by
    obtain ⟨fuel, hf⟩ := h1
    obtain ⟨v, l, hv, hl, _, hq⟩ := sl_readZ (P := ImAt (fun b => b < W.heap.size) W) (Q := fun i => fcSmall i.face) Try.underlying40 cellsIm bytesIm (by omega) hf z1 (fun m' cs' x' b o hx' hz' _ hl' => by
      obtain ⟨i, vt, vf, rfl, h1, h2, h3⟩ := im_readZ _ _ _ hx' hz'
      exact ⟨i, ⟨⟨hl'.2 0 (by simp), h1⟩, hl'.2 1 (by simp), vt, vf, hl'.2 2 (by simp), hl'.2 3 (by simp), h2⟩, h3⟩)
    have e : Value.slice a1 len1 cap1 = v := by simpa [Value.cells] using hv
    exact ⟨l, by rw [e]; exact hl, hq⟩
  clear hA0 hval0
  refine (walk _ _ m0 l1 a2 w2 W w0 w1 s1 s0).mono fun e W' ⟨he, bel⟩ => ?_
  subst he
  exact ⟨_, rfl, _, _, _, [], _, [], hW', trodAll_mk1 (shut_bool Try.underlying4 _), (trodAll_cons_mk (Below.trod laidOut (by kernel_rfl) (of_decide_eq_true (by kernel_rfl)) k0 bel lt0) (trodAll_cons_mk (Below.trod laidOut (by kernel_rfl) (of_decide_eq_true (by kernel_rfl)) k1 bel lt1) (trodAll_cons_mk (shut_string Try.underlying9 w2) trodAll_mk0))), rfl, bel.frame _, fun h => by cases h⟩

theorem over : Rows.aliasFromsRow.holds Try.pinned (OpenSpec.ofChange Rows.aliasFromsSpec) :=
  OpenClaim.holds_of_wide 8 Try.f8 rfl rfl rfl rfl rfl rfl rfl ⟨rfl, rfl, rfl, rfl, rfl⟩ rfl rfl rfl rfl rfl (by kernel_rfl) Try.func8 (by kernel_rfl)
    (of_decide_eq_true (by kernel_rfl)) (by unfold Func.isWrapper; first | (rw [if_pos (by decide +kernel)]; kernel_rfl) | (rw [if_neg (by decide +kernel)]; exact ⟨rfl, rfl⟩))
    (fun os started H enc _ => lifted os started H enc)

theorem proved : Rows.AliasFromsSaid :=
  over
#print axioms proved
end Go.Proofs.Ytieoddnaknpmlae.aliasFroms
