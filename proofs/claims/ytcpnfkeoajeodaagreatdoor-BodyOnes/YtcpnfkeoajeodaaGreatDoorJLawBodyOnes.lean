/- At every module, list of imports, face and place that can be read body.One answers what the reference's BodyOf answers, where module, imports and face may be and the place is there (BodyOnes), without conditions. The card is tied to the program's text. -/
import Derived.Test.YtcpnfkeoajeodaaGreatDoorJBodyR
import Derived.Test.YtcpnfkeoajeodaaGreatDoorJFaceFault
import Derived.Test.YtcpnfkeoajeodaaGreatDoorJReadTree
import Derived.Test.YtcpnfkeoajeodaaGreatDoorTie
import Derived.Test.YtcpnfkeoajeodaaGreatDoorCards
import Derived.ProofKit
import Derived.OpenShut
import Derived.ShutString
import Derived.ChangeOld
import Derived.Lay
import Derived.LaidMore
import Derived.Stop.Joined
import Derived.SevenTiedAt
import Derived.SizedLaws
namespace Go.Proofs.YtcpnfkeoajeodaaGreatDoor.bodyOnes
open Go.ChangeShapes Go.WideShapes Go.ChangeAt Go.RowKit
set_option maxRecDepth 100000
open Go.ChangeMaps (open_string shut_string)

theorem own : ownKnob Tryz.prog.godebug = none := by kernel_rfl
theorem laidOut : laidOutB Tryz.prog = true := by kernel_rfl

set_option maxHeartbeats 4000000 in
theorem walk (vm v vo : Value) (m : Mo) (l : List Im) (o : Fc) (k : Int) (_ : (Lit.int .i64 k).wf = true) (w : World) (hm : MoIs (fun b => b < w.heap.size) w m vm) (hl : SlAt (fun b => b < w.heap.size) (ImAt (fun b => b < w.heap.size) w) 4 l v) (ho : FcIs (fun b => b < w.heap.size) w o vo) (hz : ∀ i ∈ l, fcSmall i.face) (hzm : moSmall m) (hzo : fcSmall o) :
    Calls Tryz.prog 3 #[vm, v, vo, .int .i64 k] w fun e w' => e = .returned (.bool true) ∧ Below w.heap.size w w' := by
  have hS0 : ∀ W : World, Below w.heap.size w W → ∀ b, b < w.heap.size → b < W.heap.size := fun W hW b hb => Nat.lt_of_lt_of_le hb hW.size
  have HMay : Hid (∀ W, Below w.heap.size w W → Calls Tryz.prog 4 #[vm, v] W fun e w' => e = .returned (.bool (moFault m == 0 && imsFault l == 0)) ∧ Below W.heap.size W w') := fun W hW =>
    may_any (fun b => b < w.heap.size) m l vm v W (hS0 W hW) (hm.keep (Keeps.below hW (fun _ h => h))) (imSl_keep (Keeps.below hW (fun _ h => h)) hl)
  have HFf : Hid (∀ W, Below w.heap.size w W → Calls Tryz.prog 5 #[vo] W fun e w' => e = .returned (.int .i64 (fcFault o)) ∧ Below W.heap.size W w') := fun W hW =>
    faceFault_any (fun b => b < w.heap.size) o vo W (hS0 W hW) (ho.keep (Keeps.below hW (fun _ h => h)))
  have HC : Hid (moFault m = 0 → ∀ j, j < m.funcs.length → ∀ W, Below w.heap.size w W → Calls Tryz.prog 6 #[vm, v, vo, .int .i64 (j : Nat)] W fun e w' => e = .returned (.int .i64 (bodyCode m l o j)) ∧ Below W.heap.size W w') := fun h0 j hj W hW =>
    bodyOne_any (fun b => b < w.heap.size) m l o j vm v vo W (hS0 W hW) (hm.keep (Keeps.below hW (fun _ h => h))) (imSl_keep (Keeps.below hW (fun _ h => h)) hl) (ho.keep (Keeps.below hW (fun _ h => h))) hz hzo (fun f hf => (mo_types h0 f hf).2) (by have := mo_counts h0 hzm; unfold reachBytes; omega) (mo_funcs h0) (fu_body h0) hj
  have HD : Hid (moFault m = 0 → imsFault l = 0 → ∀ j, j < m.funcs.length → ∀ W, Below w.heap.size w W → Calls Tryz.prog 7 #[vm, v, vo, .int .i64 (j : Nat)] W fun e w' => e = .returned (.int .i64 (bodyCode m l o j)) ∧ Below W.heap.size W w') := fun h0 hi j hj W hW =>
    bodyOf_any (fun b => b < w.heap.size) m l o j vm v vo W (hS0 W hW) (hm.keep (Keeps.below hW (fun _ h => h))) (imSl_keep (Keeps.below hW (fun _ h => h)) hl) (ho.keep (Keeps.below hW (fun _ h => h))) hz hi h0 (by have := mo_counts h0 hzm; omega) hj
  obtain ⟨vu, vt, vf, rfl, hu, ht, hf⟩ := hm
  obtain ⟨u1, u2, u3, rfl⟩ := hu.slice
  obtain ⟨t1, t2, t3, rfl⟩ := ht.slice
  obtain ⟨f1, f3, rfl⟩ := hf.is
  obtain ⟨a, n, cap, rfl⟩ := hl.slice
  obtain ⟨vt', vf', rfl, ho1, ho2⟩ := ho
  obtain ⟨o1, o2, o3, rfl⟩ := ho1.slice
  obtain ⟨o4, o5, o6, rfl⟩ := ho2.slice
  obtain ⟨w0, hwe, hs0, hA, q0, q1, q2, q3, q4⟩ : ∃ w0, (w.alloc (.cells #[.slice u1 u2 u3, .slice t1 t2 t3, .slice f1 m.funcs.length f3] 26)).alloc (.cells #[.slice o1 o2 o3, .slice o4 o5 o6] 31) = w0 ∧ w0.heap.size = w.heap.size + 2 ∧ Below w.heap.size w w0 ∧
      w0.cell? ⟨w.heap.size, 0, none⟩ = some (.slice u1 u2 u3) ∧ w0.cell? ⟨w.heap.size, 1, none⟩ = some (.slice t1 t2 t3) ∧ w0.cell? ⟨w.heap.size, 2, none⟩ = some (.slice f1 m.funcs.length f3) ∧ w0.cell? ⟨w.heap.size + 1, 0, none⟩ = some (.slice o1 o2 o3) ∧ w0.cell? ⟨w.heap.size + 1, 1, none⟩ = some (.slice o4 o5 o6) :=
    ⟨_, rfl, by simp, ((Below.refl _ _).alloc (Nat.le_refl _) _).alloc (by simp) _, by simp [go_sem], by simp [go_sem], by simp [go_sem], by simp [go_sem], by simp [go_sem]⟩
  have HBox : Hid (∀ W, Below w0.heap.size w0 W → (W.cell? ⟨w.heap.size, 0, none⟩ = some (.slice u1 u2 u3) ∧ W.cell? ⟨w.heap.size, 1, none⟩ = some (.slice t1 t2 t3) ∧ W.cell? ⟨w.heap.size, 2, none⟩ = some (.slice f1 m.funcs.length f3) ∧ W.cell? ⟨w.heap.size + 1, 0, none⟩ = some (.slice o1 o2 o3) ∧ W.cell? ⟨w.heap.size + 1, 1, none⟩ = some (.slice o4 o5 o6)) ∧ Below w.heap.size w W) := fun W h => by
    have l0 : w.heap.size < w0.heap.size := by omega
    have l1 : w.heap.size + 1 < w0.heap.size := by omega
    exact ⟨⟨(h.cell (p := ⟨w.heap.size, 0, none⟩) l0).trans q0, (h.cell (p := ⟨w.heap.size, 1, none⟩) l0).trans q1, (h.cell (p := ⟨w.heap.size, 2, none⟩) l0).trans q2, (h.cell (p := ⟨w.heap.size + 1, 0, none⟩) l1).trans q3, (h.cell (p := ⟨w.heap.size + 1, 1, none⟩) l1).trans q4⟩, hA.trans (h.mono hA.size)⟩
  have HA := veil hA
  have HWe := veil hwe
  clear hwe hA hs0 q0 q1 q2 q3 q4
  clear hu ht hf hl hz hS0 hzm hzo ho1 ho2
  cases hg : (moFault m == 0 && imsFault l == 0) with
  | false =>
    rw [hg] at HMay
    clear HC HD HFf HBox hg
    go_enter Tryz.func3, Tryz.ntmps3
    go_wp2_with fail
    rw [HWe.out]
    refine (HMay.out _ HA.out).mono ?_
    rintro e w' ⟨rfl, hb⟩
    have HB := veil (HA.out.trans (hb.mono HA.out.size))
    clear hb
    go_wp2_with fail
    go_ret
    exact ⟨rfl, HB.out⟩
  | true =>
    have hi : moFault m = 0 ∧ imsFault l = 0 := by
      rw [Bool.and_eq_true] at hg
      exact ⟨eq_of_beq hg.1, eq_of_beq hg.2⟩
    have HC2 := veil (HC.out hi.1)
    have HE := veil (HD.out hi.1 hi.2)
    rw [hg] at HMay
    clear HC HD hg hi
    generalize hfo : fcFault o = fo at *
    clear hfo
    by_cases hf0 : fo = 0
    · subst hf0
      by_cases hk0 : k < 0
      · clear HC2 HE
        go_enter Tryz.func3, Tryz.ntmps3
        go_wp2_with fail
        rw [HWe.out]
        refine (HMay.out _ HA.out).mono ?_
        rintro e w1 ⟨rfl, hb⟩
        obtain ⟨⟨c0, c1, c2, c3, c4⟩, hb1⟩ := HBox.out _ hb
        have HB1 := veil hb1
        clear hb hb1
        go_wp2_with fail
        refine (HFf.out _ HB1.out).mono ?_
        rintro e w2 ⟨rfl, hb2⟩
        have HB2 := veil (HB1.out.trans (hb2.mono HB1.out.size))
        clear hb2 c0 c1 c2 c3 c4
        go_wp2_with fail
        go_ret
        exact ⟨rfl, HB2.out⟩
      · obtain ⟨j, rfl⟩ : ∃ j : Nat, k = (j : Int) := ⟨k.toNat, by omega⟩
        by_cases hj : j < m.funcs.length
        · have hj1 : ¬ (m.funcs.length : Int) ≤ (j : Int) := by omega
          have HC3 := veil (HC2.out j hj)
          have HE3 := veil (HE.out j hj)
          clear HC2 HE
          generalize bodyCode m l o j = bc at *
          go_enter Tryz.func3, Tryz.ntmps3
          go_wp2_with fail
          rw [HWe.out]
          refine (HMay.out _ HA.out).mono ?_
          rintro e w1 ⟨rfl, hb⟩
          obtain ⟨⟨c0, c1, c2, c3, c4⟩, hb1⟩ := HBox.out _ hb
          have HB := veil hb
          have HB1 := veil hb1
          clear hb hb1
          go_wp2_with fail
          refine (HFf.out _ HB1.out).mono ?_
          rintro e w2 ⟨rfl, hb2⟩
          have hb02 := HB.out.trans (hb2.mono HB.out.size)
          clear c0 c1 c2 c3 c4
          obtain ⟨⟨c0, c1, c2, c3, c4⟩, hbw2⟩ := HBox.out _ hb02
          have HB02 := veil hb02
          have HBw2 := veil hbw2
          clear hb2 hb02 hbw2 HFf HMay
          go_wp2_with fail
          refine (HC3.out _ HBw2.out).mono ?_
          rintro e w3 ⟨rfl, hb3⟩
          have hb03 := HB02.out.trans (hb3.mono HB02.out.size)
          clear c0 c1 c2 c3 c4
          obtain ⟨⟨c0, c1, c2, c3, c4⟩, hbw3⟩ := HBox.out _ hb03
          have HBw3 := veil hbw3
          clear hb3 hb03 hbw3 HC3
          go_wp2_with fail
          refine (HE3.out _ HBw3.out).mono ?_
          rintro e w4 ⟨rfl, hb4⟩
          have HB4 := veil (HBw3.out.trans (hb4.mono HBw3.out.size))
          have hbc : (bc == bc) = true := by simp
          clear hb4
          go_wp2_with fail
          go_ret
          exact ⟨rfl, HB4.out⟩
        · have hj1 : (m.funcs.length : Int) ≤ (j : Int) := by omega
          have hj0 : ¬ (j : Int) < 0 := by omega
          clear HC2 HE
          go_enter Tryz.func3, Tryz.ntmps3
          go_wp2_with fail
          rw [HWe.out]
          refine (HMay.out _ HA.out).mono ?_
          rintro e w1 ⟨rfl, hb⟩
          obtain ⟨⟨c0, c1, c2, c3, c4⟩, hb1⟩ := HBox.out _ hb
          have HB := veil hb
          have HB1 := veil hb1
          clear hb hb1
          go_wp2_with fail
          refine (HFf.out _ HB1.out).mono ?_
          rintro e w2 ⟨rfl, hb2⟩
          have hb02 := HB.out.trans (hb2.mono HB.out.size)
          clear c0 c1 c2 c3 c4
          obtain ⟨⟨c0, c1, c2, c3, c4⟩, hbw2⟩ := HBox.out _ hb02
          have HBw2 := veil hbw2
          clear hb2 hb02 hbw2
          go_wp2_with fail
          go_ret
          exact ⟨rfl, HBw2.out⟩
    · have hf1 : (fo != 0) = true := by simp [hf0]
      clear HC2 HE hf0
      go_enter Tryz.func3, Tryz.ntmps3
      go_wp2_with fail
      rw [HWe.out]
      refine (HMay.out _ HA.out).mono ?_
      rintro e w1 ⟨rfl, hb⟩
      obtain ⟨⟨c0, c1, c2, c3, c4⟩, hb1⟩ := HBox.out _ hb
      have HB1 := veil hb1
      clear hb hb1
      go_wp2_with fail
      refine (HFf.out _ HB1.out).mono ?_
      rintro e w2 ⟨rfl, hb2⟩
      have HB2 := veil (HB1.out.trans (hb2.mono HB1.out.size))
      clear hb2 c0 c1 c2 c3 c4
      go_wp2_with fail
      go_ret
      exact ⟨rfl, HB2.out⟩

abbrev laidRows : List (String × DataW Unit) := Rows.bodyOnesRow.laid

theorem laid_met (os : Os) (args : Array Value) : laidMetH Tryz.prog laidRows ((World.laidAll Tryz.prog os laidRows).forCall (fun _ _ => 0) ⟨#[], args, []⟩).memory := by
  rw [MakeChecks.laidMetH_plain _ _ _ (by kernel_rfl)]
  exact laidMet_laidAll _ (by kernel_rfl) (by kernel_rfl)

set_option maxRecDepth 100000 in
theorem lifted (os : Os) (started : os.Started) (H : Type) (enc : TypeId × Value → H) :
    ReturnsInHanded {} Tryz.checked os 3 .any (fun w args => (Rows.bodyOnesSpec.pre enc Tryz.prog Tryz.f3 [] false w args ∧ laidMetH Tryz.prog laidRows w) ∧ sizedMet enc Tryz.prog Tryz.f3 (OpenSpec.ofChange Rows.bodyOnesSpec) false w args)
      (Rows.bodyOnesSpec.post enc Tryz.prog Tryz.f3 false true false false) := by
  refine returnsInHanded_of_change_and (C := Tryz.checked) (X := fun w _ => laidMetH Tryz.prog laidRows w) (fun _ _ _ hh h => h.of_heap hh) own started (by kernel_rfl) Tryz.func3
    (ChangeSpec.witness_shaped (enc := enc) (C := Tryz.checked) (os := os) (X := fun w _ => laidMetH Tryz.prog laidRows w) false (World.laidAll Tryz.prog os laidRows) #[.agg #[.slice none 0 0, .slice none 0 0, .slice none 0 0], .slice none 0 0, .agg #[.slice none 0 0, .slice none 0 0], .int .i64 0] 8 rfl (World.shaped_of_ZipB (by kernel_rfl) (by kernel_rfl)) (by kernel_rfl) (by kernel_rfl) (by kernel_rfl) (laid_met os _)) ?_
  intro W base args ds gs before hval0 hW _ hsz hL _
  have hval : ∀ (j : Nat) t v, Tryz.f3.params[j]? = some t → args[j]? = some v → Value.okWide Tryz.prog W .any base t v := hval0
  have hW' := hW
  obtain ⟨p, q, hA0, hV, rfl, hfz, hnd⟩ := hW
  have hA : DataW.TrodAll enc Tryz.prog W 0 (fun _ => true) true Tryz.f3.params.toList args.toList ds p := hA0
  rw [Tryz.params3] at hA hval hsz
  obtain ⟨v0, vs0, d0, ds0, p0, q0, hargs, rfl, rfl, h0, r0⟩ := trodAll_cons hA
  obtain ⟨v1, vs1, d1, ds1, p1, q1, hargs1, rfl, rfl, h1, r1⟩ := trodAll_cons r0
  obtain ⟨v2, vs2, d2, ds2, p2, q2, hargs2, rfl, rfl, h2, r2⟩ := trodAll_cons r1
  obtain ⟨v3, vs3, d3, ds3, p3, q3, hargs3, rfl, rfl, h3, r3⟩ := trodAll_cons r2
  obtain ⟨rfl, rfl, rfl⟩ := trodAll_nil r3
  obtain rfl : args = #[v0, v1, v2, v3] := by cases args; simp_all
  obtain ⟨rfl, rfl⟩ := trodVars_none hV
  obtain ⟨cs0, rfl, _⟩ := okWide_struct Tryz.underlying26 (hval 0 26 v0 rfl rfl)
  obtain ⟨a1, len1, cap1, rfl⟩ := okWide_slice Tryz.underlying27 (hval 1 27 v1 rfl rfl)
  obtain ⟨cs2, rfl, _⟩ := okWide_struct Tryz.underlying31 (hval 2 31 v2 rfl rfl)
  obtain ⟨a3, rfl, rfl, rfl, w3⟩ := open_int Tryz.underlying3 (hval 3 3 v3 rfl rfl) h3
  have k0 := h0
  have k1 := h1
  have k2 := h2
  have lt0 : ∀ x ∈ p0, x.block < W.heap.size := by obtain ⟨m, hm⟩ := k0; exact DataW.trod_lt m _ _ _ hm
  have lt1 : ∀ x ∈ p1, x.block < W.heap.size := by obtain ⟨m, hm⟩ := k1; exact DataW.trod_lt m _ _ _ hm
  have lt2 : ∀ x ∈ p2, x.block < W.heap.size := by obtain ⟨m, hm⟩ := k2; exact DataW.trod_lt m _ _ _ hm
  have z0 : ∀ n ∈ d0.weights Tryz.prog 26, n ≤ reachBytes := fun n hn => by
    have := List.all_eq_true.1 hsz n (DataW.weights_mem_each (j := 0) (t := 26) (d := d0) rfl rfl n hn)
    simpa using this
  have z1 : ∀ n ∈ d1.weights Tryz.prog 27, n ≤ reachBytes := fun n hn => by
    have := List.all_eq_true.1 hsz n (DataW.weights_mem_each (j := 1) (t := 27) (d := d1) rfl rfl n hn)
    simpa using this
  have z2 : ∀ n ∈ d2.weights Tryz.prog 31, n ≤ reachBytes := fun n hn => by
    have := List.all_eq_true.1 hsz n (DataW.weights_mem_each (j := 2) (t := 31) (d := d2) rfl rfl n hn)
    simpa using this
  obtain ⟨m0, w0, s0⟩ : ∃ l, MoIs (fun b => b < W.heap.size) W l (.agg cs0) ∧ moSmall l := by
    obtain ⟨fuel, hf⟩ := h0
    obtain ⟨m, vu, vt, vf, hcs, hm, hsm⟩ := mo_readZ fuel _ _ hf z0
    have e : cs0 = #[vu, vt, vf] := by
      have : cs0.toList = [vu, vt, vf] := hcs
      cases cs0; simp_all
    exact ⟨m, by rw [e]; exact hm, hsm⟩
  obtain ⟨l1, w1, s1⟩ : ∃ l, SlAt (fun b => b < W.heap.size) (ImAt (fun b => b < W.heap.size) W) 4 l (.slice a1 len1 cap1) ∧ ∀ i ∈ l, fcSmall i.face := by
    obtain ⟨fuel, hf⟩ := h1
    obtain ⟨v, l, hv, hl, _, hq⟩ := sl_readZ (P := ImAt (fun b => b < W.heap.size) W) (Q := fun i => fcSmall i.face) Tryz.underlying27 cellsIm bytesIm (by omega) hf z1 (fun m' cs' x' b o hx' hz' _ hl' => by
      obtain ⟨i, vt, vf, rfl, h1, h2, h3⟩ := im_readZ _ _ _ hx' hz'
      exact ⟨i, ⟨⟨hl'.2 0 (by simp), h1⟩, hl'.2 1 (by simp), vt, vf, hl'.2 2 (by simp), hl'.2 3 (by simp), h2⟩, h3⟩)
    have e : Value.slice a1 len1 cap1 = v := by simpa [Value.cells] using hv
    exact ⟨l, by rw [e]; exact hl, hq⟩
  obtain ⟨f2, w2, s2⟩ : ∃ l, FcIs (fun b => b < W.heap.size) W l (.agg cs2) ∧ fcSmall l := by
    obtain ⟨fuel, hf⟩ := h2
    obtain ⟨f, vt, vf, hcs, hm, hs⟩ := fc_read fuel _ _ hf z2
    have e : cs2 = #[vt, vf] := by
      have : cs2.toList = [vt, vf] := hcs
      cases cs2; simp_all
    exact ⟨f, ⟨vt, vf, by rw [e], hm⟩, hs⟩
  clear hA0 hval0 hsz hL
  refine (walk _ _ _ m0 l1 f2 a3 w3 W w0 w1 w2 s1 s0 s2).mono fun e W' ⟨he, bel⟩ => ?_
  subst he
  exact ⟨_, rfl, _, _, _, [], _, [], hW', trodAll_mk1 (shut_bool Tryz.underlying4 _), (trodAll_cons_mk (Below.trod laidOut (by kernel_rfl) (of_decide_eq_true (by kernel_rfl)) k0 bel lt0) (trodAll_cons_mk (Below.trod laidOut (by kernel_rfl) (of_decide_eq_true (by kernel_rfl)) k1 bel lt1) (trodAll_cons_mk (Below.trod laidOut (by kernel_rfl) (of_decide_eq_true (by kernel_rfl)) k2 bel lt2) (trodAll_cons_mk (shut_int Tryz.underlying3 w3) trodAll_mk0)))), rfl, bel.frame _, fun h => by cases h⟩

theorem over : Rows.BodyOnesSaid :=
  OpenClaim.holds_of_wide 3 Tryz.f3 rfl rfl rfl rfl rfl rfl rfl ⟨rfl, rfl, rfl, rfl, rfl⟩ rfl rfl rfl rfl rfl (by kernel_rfl) Tryz.func3 (by kernel_rfl)
    (of_decide_eq_true (by kernel_rfl)) (by unfold Func.isWrapper; first | (rw [if_pos (by decide +kernel)]; kernel_rfl) | (rw [if_neg (by decide +kernel)]; exact ⟨rfl, rfl⟩))
    (fun os started H enc _ => lifted os started H enc)

theorem proved : Rows.BodyOnesCardSaid :=
  Claim7.holds_tied_plain_at .later [] [.data, .pinned] true (true, "ef1eb219813b27990477ef889c6134e57022318fbd02fbf3878200a56876318a") false
    over (fun _ h => by cases h) (by kernel_rfl) (fun _ h => by cases h) bodyOnes_row_tie rfl ⟨rfl, rfl⟩ (by kernel_rfl) rfl
    (fun f fn hf hfn => by
      obtain rfl : f = 3 := Option.some.inj ((show Tryz.prog.funcNamed "scullery/scullerylaw.BodyOnes" = some 3 by kernel_rfl).symm.trans hf) |>.symm
      obtain rfl : fn = Tryz.f3 := (Option.some.inj (Tryz.func3.symm.trans hfn)).symm
      exact ⟨by kernel_rfl, fun j t ht => by
        rw [Tryz.params3] at ht
        have hm : t ∈ [26, 27, 31, 3] := by simpa using Array.mem_of_getElem? ht
        have hall : ([26, 27, 31, 3].all fun u => !Tryz.prog.wantsStandIn u) = true := by kernel_rfl
        exact (show Tryz.prog.wantsStandIn t = false by simpa using List.all_eq_true.1 hall t hm)⟩)
    (by kernel_rfl)
#print axioms proved
end Go.Proofs.YtcpnfkeoajeodaaGreatDoor.bodyOnes
