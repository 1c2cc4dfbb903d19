/- At every module, list of imports and place that can be read sign.One answers what the reference's SigOf answers, where module and imports may be and the place is there (SignOnes), without conditions. -/
import Derived.Test.YtkdailcadcfepafJSign5
import Derived.Test.YtkdailcadcfepafJSign6
import Derived.Test.YtkdailcadcfepafJReadTree
import Derived.OpenShut
import Derived.ShutString
import Derived.ChangeOld
namespace Go.Proofs.Ytkdailcadcfepaf.signOnes
open Go.ChangeShapes Go.WideShapes Go.ChangeAt Go.RowKit
open Go.ChangeMaps (open_string shut_string)

theorem own : ownKnob Try.prog.godebug = none := by kernel_rfl
theorem laidOut : laidOutB Try.prog = true := by kernel_rfl

set_option maxHeartbeats 4000000 in
theorem walk (vm v : Value) (m : Mo) (l : List Im) (k : Int) (_ : (Lit.int .i64 k).wf = true) (w : World) (hm : MoIs (fun b => b < w.heap.size) w m vm) (hl : SlAt (fun b => b < w.heap.size) (ImAt (fun b => b < w.heap.size) w) 4 l v) (hz : ∀ i ∈ l, fcSmall i.face) (hzm : moSmall m) :
    Calls Try.prog 6 #[vm, v, .int .i64 k] w fun e w' => e = .returned (.bool true) ∧ Below w.heap.size w w' := by
  have hS0 : ∀ W : World, Below w.heap.size w W → ∀ b, b < w.heap.size → b < W.heap.size := fun W hW b hb => Nat.lt_of_lt_of_le hb hW.size
  have HMay : Hid (∀ W, Below w.heap.size w W → Calls Try.prog 8 #[vm, v] W fun e w' => e = .returned (.bool (moFault m == 0 && imsFault l == 0)) ∧ Below W.heap.size W w') := fun W hW =>
    may_any (fun b => b < w.heap.size) m l vm v W (hS0 W hW) (hm.keep (Keeps.below hW (fun _ h => h))) (imSl_keep (Keeps.below hW (fun _ h => h)) hl)
  have HC : Hid (moFault m = 0 → ∀ j, j < m.funcs.length → ∀ W, Below w.heap.size w W → Calls Try.prog 18 #[vm, v, .int .i64 (j : Nat)] W (Signs W (oneSg m l j) (oneCode m l j))) := fun h0 j hj W hW =>
    one_any (fun b => b < w.heap.size) m l j vm v W (hS0 W hW) (hm.keep (Keeps.below hW (fun _ h => h))) (imSl_keep (Keeps.below hW (fun _ h => h)) hl) hz (fun f hf => (mo_types h0 f hf).2) (by have := mo_counts h0 hzm; unfold reachBytes; omega) (mo_funcs h0) hj
  have HD : Hid (moFault m = 0 → imsFault l = 0 → ∀ j, j < m.funcs.length → ∀ W, Below w.heap.size w W → Calls Try.prog 19 #[vm, v, .int .i64 (j : Nat)] W (Signs W (oneSg m l j) (oneCode m l j))) := fun h0 hi j hj W hW =>
    sigOf_any (fun b => b < w.heap.size) m l j vm v W (hS0 W hW) (hm.keep (Keeps.below hW (fun _ h => h))) (imSl_keep (Keeps.below hW (fun _ h => h)) hl) hz hi (mo_types h0) (by have := mo_counts h0 hzm; omega) (mo_funcs h0) hj
  obtain ⟨vu, vt, vf, rfl, hu, ht, hf⟩ := hm
  obtain ⟨u1, u2, u3, rfl⟩ := hu.slice
  obtain ⟨t1, t2, t3, rfl⟩ := ht.slice
  have hfs := hf
  obtain ⟨f1, f3, rfl⟩ := hf.is
  obtain ⟨a, n, cap, rfl⟩ := hl.slice
  obtain ⟨w0, hwe, hs0, hA, q0, q1, q2⟩ : ∃ w0, w.alloc (.cells #[.slice u1 u2 u3, .slice t1 t2 t3, .slice f1 m.funcs.length f3] 26) = w0 ∧ w0.heap.size = w.heap.size + 1 ∧ Below w.heap.size w w0 ∧
      w0.cell? ⟨w.heap.size, 0, none⟩ = some (.slice u1 u2 u3) ∧ w0.cell? ⟨w.heap.size, 1, none⟩ = some (.slice t1 t2 t3) ∧ w0.cell? ⟨w.heap.size, 2, none⟩ = some (.slice f1 m.funcs.length f3) :=
    ⟨_, rfl, by simp, (Below.refl _ _).alloc (Nat.le_refl _) _, by simp [go_sem], by simp [go_sem], by simp [go_sem]⟩
  have HBox : Hid (∀ W, Below w0.heap.size w0 W → (W.cell? ⟨w.heap.size, 0, none⟩ = some (.slice u1 u2 u3) ∧ W.cell? ⟨w.heap.size, 1, none⟩ = some (.slice t1 t2 t3) ∧ W.cell? ⟨w.heap.size, 2, none⟩ = some (.slice f1 m.funcs.length f3)) ∧ Below w.heap.size w W) := fun W h =>
    ⟨⟨(h.cell (p := ⟨w.heap.size, 0, none⟩) (by show w.heap.size < _; omega)).trans q0, (h.cell (p := ⟨w.heap.size, 1, none⟩) (by show w.heap.size < _; omega)).trans q1, (h.cell (p := ⟨w.heap.size, 2, none⟩) (by show w.heap.size < _; omega)).trans q2⟩, hA.trans (h.mono hA.size)⟩
  have HA := veil hA
  have HWe := veil hwe
  clear hwe hA q0 q1 q2
  clear hu ht hf hfs hl hz hS0 hzm
  cases hg : (moFault m == 0 && imsFault l == 0) with
  | false =>
    have HG : Hid ((moFault m == 0 && imsFault l == 0) = false) := hg
    rw [hg] at HMay
    go_enter Try.func6, Try.ntmps6
    go_wp2_with fail
    rw [HWe.out]
    refine (HMay.out _ HA.out).mono ?_
    rintro e w' ⟨rfl, hb⟩
    have HB := veil (HA.out.trans (hb.mono HA.out.size))
    clear hb
    go_wp2_with fail
    go_ret
    exact ⟨rfl, HB.out⟩
  | true =>
    have hi : moFault m = 0 ∧ imsFault l = 0 := by
      rw [Bool.and_eq_true] at hg
      exact ⟨eq_of_beq hg.1, eq_of_beq hg.2⟩
    have HC2 := veil (HC.out hi.1)
    have HE := veil (HD.out hi.1 hi.2)
    rw [hg] at HMay
    clear HC HD hg hi
    by_cases hk0 : k < 0
    · clear HC2 HE
      go_enter Try.func6, Try.ntmps6
      go_wp2_with fail
      rw [HWe.out]
      refine (HMay.out _ HA.out).mono ?_
      rintro e w1 ⟨rfl, hb⟩
      have HB := veil (HA.out.trans (hb.mono HA.out.size))
      clear hb
      go_wp2_with fail
      go_ret
      exact ⟨rfl, HB.out⟩
    · obtain ⟨j, rfl⟩ : ∃ j : Nat, k = (j : Int) := ⟨k.toNat, by omega⟩
      have hk1 : (0 : Int) ≤ (j : Int) := by omega
      by_cases hj : j < m.funcs.length
      · have hj1 : ¬ (m.funcs.length : Int) ≤ (j : Int) := by omega
        have HC3 := veil (HC2.out j hj)
        have HE3 := veil (HE.out j hj)
        clear HC2 HE
        unfold Signs at HC3 HE3
        generalize oneSg m l j = og at *
        generalize oneCode m l j = oc at *
        have hoc : (oc == oc) = true := by simp
        go_enter Try.func6, Try.ntmps6
        go_wp2_with fail
        rw [HWe.out]
        refine (HMay.out _ HA.out).mono ?_
        rintro e w1 ⟨rfl, hb⟩
        obtain ⟨⟨c0, c1, c2⟩, hb1⟩ := HBox.out _ hb
        have HB := veil hb
        have HB1 := veil hb1
        clear hb hb1 HMay
        go_wp2_with fail
        refine (HC3.out _ HB1.out).mono ?_
        rintro e w2 ⟨xa, xn, xc, rfl, hsg, hb2⟩
        have hb3 := HB.out.trans (hb2.mono HB.out.size)
        generalize hsn : og.name = sn at *
        generalize hsr : og.result = sr at *
        obtain ⟨W4, HW4, hb4, hs4, e0, e1, e2⟩ : ∃ W4, Hid (w2.alloc (.cells #[.string sn, .slice xa xn xc, .string sr] 49) = W4) ∧ Below w2.heap.size w2 W4 ∧ W4.heap.size = w2.heap.size + 1 ∧ W4.cell? ⟨w2.heap.size, 0, none⟩ = some (.string sn) ∧ W4.cell? ⟨w2.heap.size, 1, none⟩ = some (.slice xa xn xc) ∧ W4.cell? ⟨w2.heap.size, 2, none⟩ = some (.string sr) :=
          ⟨_, rfl, (Below.refl _ _).alloc (Nat.le_refl _) _, by simp, by simp [go_sem], by simp [go_sem], by simp [go_sem]⟩
        obtain ⟨⟨c3, c4, c5⟩, hb5⟩ := HBox.out _ (hb3.trans (hb4.mono hb3.size))
        have HSg := veil (hsg.keep (S' := fun b => b < W4.heap.size) ⟨fun b hb => hb4.block b hb.2, fun b hb => Nat.lt_of_lt_of_le hb.2 hb4.size⟩)
        have HSn := veil hsn
        have HSr := veil hsr
        have HB5 := veil hb5
        have HS4 := veil hs4
        clear c0 c1 c2 hsg hb2 hb3 hb4 hb5 HC3 hsn hsr hs4
        go_wp2_with (rw [HW4.out]; clear HW4)
        refine (HE3.out _ HB5.out).mono ?_
        rintro e w6 ⟨ya, yn, yc, rfl, hsg2, hb6⟩
        have hlt4 : w2.heap.size < W4.heap.size := by rw [HS4.out]; omega
        obtain ⟨W8, HW8, hb8, hs8, y0, y1, y2⟩ : ∃ W8, Hid (w6.alloc (.cells #[.string sn, .slice ya yn yc, .string sr] 49) = W8) ∧ Below w6.heap.size w6 W8 ∧ W8.heap.size = w6.heap.size + 1 ∧ W8.cell? ⟨w6.heap.size, 0, none⟩ = some (.string sn) ∧ W8.cell? ⟨w6.heap.size, 1, none⟩ = some (.slice ya yn yc) ∧ W8.cell? ⟨w6.heap.size, 2, none⟩ = some (.string sr) :=
          ⟨_, rfl, (Below.refl _ _).alloc (Nat.le_refl _) _, by simp, by simp [go_sem], by simp [go_sem], by simp [go_sem]⟩
        have hb68 := hb6.trans (hb8.mono hb6.size)
        have z0 := (hb68.cell (p := ⟨w2.heap.size, 0, none⟩) hlt4).trans e0
        have z1 := (hb68.cell (p := ⟨w2.heap.size, 1, none⟩) hlt4).trans e1
        have z2 := (hb68.cell (p := ⟨w2.heap.size, 2, none⟩) hlt4).trans e2
        have HB9 := veil (HB5.out.trans (hb68.mono HB5.out.size))
        have HSS : Hid (Calls Try.prog 20 #[.agg #[.string sn, .slice xa xn xc, .string sr], .agg #[.string sn, .slice ya yn yc, .string sr]] W8 fun e w' => e = .returned (.bool true) ∧ Below W8.heap.size W8 w') := by
          rw [← HSn.out, ← HSr.out]
          refine sameSig_any (fun b => b < W8.heap.size) og xa ya xn xc yn yc W8 (fun _ h => h) ?_ ?_
          · have := HSg.out
            rw [← HSn.out, ← HSr.out] at this
            exact this.keep (S' := fun b => b < W8.heap.size) ⟨fun b hb => hb68.block b hb, fun b hb => Nat.lt_of_lt_of_le hb hb68.size⟩
          · have := hsg2
            rw [← HSn.out, ← HSr.out] at this
            exact this.keep (S' := fun b => b < W8.heap.size) ⟨fun b hb => hb8.block b hb.2, fun b hb => Nat.lt_of_lt_of_le hb.2 hb8.size⟩
        clear c3 c4 c5 hsg2 hb6 hb8 hb68 HE3 HSg e0 e1 e2 hlt4
        go_wp2_with (rw [HW8.out]; clear HW8)
        refine HSS.out.mono ?_
        rintro e w10 ⟨rfl, hb10⟩
        have HB10 := veil (HB9.out.trans (hb10.mono HB9.out.size))
        clear hb10
        go_wp2_with fail
        go_ret
        exact ⟨rfl, HB10.out⟩
      · have hj1 : (m.funcs.length : Int) ≤ (j : Int) := by omega
        clear HC2 HE
        go_enter Try.func6, Try.ntmps6
        go_wp2_with fail
        rw [HWe.out]
        refine (HMay.out _ HA.out).mono ?_
        rintro e w1 ⟨rfl, hb⟩
        obtain ⟨⟨c0, c1, c2⟩, hb1⟩ := HBox.out _ hb
        have HB := veil (HA.out.trans (hb.mono HA.out.size))
        clear hb hb1
        go_wp2_with fail
        go_ret
        exact ⟨rfl, HB.out⟩

set_option maxRecDepth 100000 in
theorem lifted (os : Os) (started : os.Started) (H : Type) (enc : TypeId × Value → H) :
    ReturnsInHanded {} Try.checked os 6 .any (Rows.signOnesSpec.pre6 enc Try.prog Try.f6 Rows.signOnesRow.domain false) (Rows.signOnesSpec.post enc Try.prog Try.f6 false true false false) := by
  refine returnsInHanded_of_change_sized (C := Try.checked) own started (by kernel_rfl) Try.func6
    (ChangeSpec.witness6 (enc := enc) (C := Try.checked) false ⟨#[], #[.agg #[.slice none 0 0, .slice none 0 0, .slice none 0 0], .slice none 0 0, .int .i64 0], []⟩ 8 (by kernel_rfl) (by kernel_rfl) (by kernel_rfl) (by kernel_rfl)) ?_
  intro W base args ds gs before hval0 hW hcnd hsz _
  have hval : ∀ (j : Nat) t v, Try.f6.params[j]? = some t → args[j]? = some v → Value.okWide Try.prog W .any base t v := hval0
  have hW' := hW
  obtain ⟨p, q, hA0, hV, rfl, hfz, hnd⟩ := hW
  have hA : DataW.TrodAll enc Try.prog W 0 (fun _ => true) true Try.f6.params.toList args.toList ds p := hA0
  rw [Try.params6] at hA hval hsz
  obtain ⟨v0, vs0, d0, ds0, p0, q0, hargs, rfl, rfl, h0, r0⟩ := trodAll_cons hA
  obtain ⟨v1, vs1, d1, ds1, p1, q1, hargs1, rfl, rfl, h1, r1⟩ := trodAll_cons r0
  obtain ⟨v2, vs2, d2, ds2, p2, q2, hargs2, rfl, rfl, h2, r2⟩ := trodAll_cons r1
  obtain ⟨rfl, rfl, rfl⟩ := trodAll_nil r2
  obtain rfl : args = #[v0, v1, v2] := by cases args; simp_all
  obtain ⟨rfl, rfl⟩ := trodVars_none hV
  obtain ⟨cs0, rfl, _⟩ := okWide_struct Try.underlying26 (hval 0 26 v0 rfl rfl)
  obtain ⟨a1, len1, cap1, rfl⟩ := okWide_slice Try.underlying27 (hval 1 27 v1 rfl rfl)
  obtain ⟨a2, rfl, rfl, rfl, w2⟩ := open_int Try.underlying3 (hval 2 3 v2 rfl rfl) h2
  have k0 := h0
  have k1 := h1
  have lt0 : ∀ x ∈ p0, x.block < W.heap.size := by obtain ⟨m, hm⟩ := k0; exact DataW.trod_lt m _ _ _ hm
  have lt1 : ∀ x ∈ p1, x.block < W.heap.size := by obtain ⟨m, hm⟩ := k1; exact DataW.trod_lt m _ _ _ hm
  have z1 : ∀ n ∈ d1.weights Try.prog 27, n ≤ reachBytes := fun n hn => by
    have := List.all_eq_true.1 hsz n (DataW.weights_mem_each (j := 1) (t := 27) (d := d1) rfl rfl n hn)
    simpa using this
  have z0 : ∀ n ∈ d0.weights Try.prog 26, n ≤ reachBytes := fun n hn => by
    have := List.all_eq_true.1 hsz n (DataW.weights_mem_each (j := 0) (t := 26) (d := d0) rfl rfl n hn)
    simpa using this
  obtain ⟨m0, w0, s0⟩ : ∃ l, MoIs (fun b => b < W.heap.size) W l (.agg cs0) ∧ moSmall l := by
    obtain ⟨fuel, hf⟩ := h0
    obtain ⟨m, vu, vt, vf, hcs, hm, hsm⟩ := mo_readZ fuel _ _ hf z0
    have e : cs0 = #[vu, vt, vf] := by
      have : cs0.toList = [vu, vt, vf] := hcs
      cases cs0; simp_all
    exact ⟨m, by rw [e]; exact hm, hsm⟩
  obtain ⟨l1, w1, s1⟩ : ∃ l, SlAt (fun b => b < W.heap.size) (ImAt (fun b => b < W.heap.size) W) 4 l (.slice a1 len1 cap1) ∧ ∀ i ∈ l, fcSmall i.face := by
    obtain ⟨fuel, hf⟩ := h1
    obtain ⟨v, l, hv, hl, _, hq⟩ := sl_readZ (P := ImAt (fun b => b < W.heap.size) W) (Q := fun i => fcSmall i.face) Try.underlying27 cellsIm bytesIm (by omega) hf z1 (fun m' cs' x' b o hx' hz' _ hl' => by
      obtain ⟨i, vt, vf, rfl, h1, h2, h3⟩ := im_readZ _ _ _ hx' hz'
      exact ⟨i, ⟨⟨hl'.2 0 (by simp), h1⟩, hl'.2 1 (by simp), vt, vf, hl'.2 2 (by simp), hl'.2 3 (by simp), h2⟩, h3⟩)
    have e : Value.slice a1 len1 cap1 = v := by simpa [Value.cells] using hv
    exact ⟨l, by rw [e]; exact hl, hq⟩
  clear hA0 hval0
  refine (walk _ _ m0 l1 a2 w2 W w0 w1 s1 s0).mono fun e W' ⟨he, bel⟩ => ?_
  subst he
  exact ⟨_, rfl, _, _, _, [], _, [], hW', trodAll_mk1 (shut_bool Try.underlying4 _), (trodAll_cons_mk (Below.trod laidOut (by kernel_rfl) (of_decide_eq_true (by kernel_rfl)) k0 bel lt0) (trodAll_cons_mk (Below.trod laidOut (by kernel_rfl) (of_decide_eq_true (by kernel_rfl)) k1 bel lt1) (trodAll_cons_mk (shut_int Try.underlying3 w2) trodAll_mk0))), rfl, bel.frame _, fun h => by cases h⟩

theorem over : Rows.signOnesRow.holds Try.pinned (OpenSpec.ofChange Rows.signOnesSpec) :=
  OpenClaim.holds_of_wide 6 Try.f6 rfl rfl rfl rfl rfl rfl rfl ⟨rfl, rfl, rfl, rfl, rfl⟩ rfl rfl rfl rfl rfl (by kernel_rfl) Try.func6 (by kernel_rfl)
    (of_decide_eq_true (by kernel_rfl)) (by unfold Func.isWrapper; first | (rw [if_pos (by decide +kernel)]; kernel_rfl) | (rw [if_neg (by decide +kernel)]; exact ⟨rfl, rfl⟩))
    (fun os started H enc _ => lifted os started H enc)

theorem proved : Rows.SignOnesSaid :=
  over
#print axioms proved
end Go.Proofs.Ytkdailcadcfepaf.signOnes
