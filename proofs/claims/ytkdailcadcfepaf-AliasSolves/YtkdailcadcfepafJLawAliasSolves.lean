/- At every module, list of imports, name and place that can be read alias.Solve answers for the type at that place what the reference's SolvedOf answers, where module, imports and variable may be and the place is there (AliasSolves), without conditions. -/
import Derived.Test.YtkdailcadcfepafJAlias26
import Derived.Test.YtkdailcadcfepafJReadTree
import Derived.OpenShut
import Derived.ShutString
import Derived.ChangeOld
namespace Go.Proofs.Ytkdailcadcfepaf.aliasSolves
open Go.ChangeShapes Go.WideShapes Go.ChangeAt Go.RowKit
open Go.ChangeMaps (open_string shut_string)

theorem own : ownKnob Try.prog.godebug = none := by kernel_rfl
theorem laidOut : laidOutB Try.prog = true := by kernel_rfl

set_option maxHeartbeats 4000000 in
theorem walk (vm v : Value) (m : Mo) (l : List Im) (s : ByteArray) (hs : s.size ≤ maxLen) (k : Int) (_ : (Lit.int .i64 k).wf = true) (w : World) (hm : MoIs (fun b => b < w.heap.size) w m vm) (hl : SlAt (fun b => b < w.heap.size) (ImAt (fun b => b < w.heap.size) w) 4 l v) (hz : ∀ i ∈ l, fcSmall i.face) (hzm : moSmall m) :
    Calls Try.prog 4 #[vm, v, .string s, .int .i64 k] w fun e w' => e = .returned (.bool true) ∧ Below w.heap.size w w' := by
  have hS0 : ∀ W : World, Below w.heap.size w W → ∀ b, b < w.heap.size → b < W.heap.size := fun W hW b hb => Nat.lt_of_lt_of_le hb hW.size
  have HMay : Hid (∀ W, Below w.heap.size w W → Calls Try.prog 8 #[vm, v] W fun e w' => e = .returned (.bool (moFault m == 0 && imsFault l == 0)) ∧ Below W.heap.size W w') := fun W hW =>
    may_any (fun b => b < w.heap.size) m l vm v W (hS0 W hW) (hm.keep (Keeps.below hW (fun _ h => h))) (imSl_keep (Keeps.below hW (fun _ h => h)) hl)
  have HNm : Hid (∀ W, Calls Try.prog 12 #[.string s] W fun e w' => e = .returned (.bool (identOk s)) ∧ W = w') := fun W => nameMay_any s hs W
  have HSol : Hid (moFault m = 0 → ∀ j (hj : j < m.types.length) W vt, Below w.heap.size w W → TyIs (fun b => b < w.heap.size) W m.types[j].is vt → Calls Try.prog 13 #[vm, v, .string s, vt] W (Tells W (solveP (refR m l m.types.length s []) 10 m.types[j].is))) := fun h0 j hj W vt hW hvt => by
    have ht := mo_types h0
    have := solveAll_any (fun b => b < w.heap.size) m l s m.types[j].is vm v vt W (hS0 W hW) (hm.keep (Keeps.below hW (fun _ h => h))) (imSl_keep (Keeps.below hW (fun _ h => h)) hl) hz (fun f hf => (ht f hf).2) (ht _ (List.getElem_mem hj)).2 hvt (by have := mo_counts h0 hzm; unfold reachBytes; omega)
    rwa [solve_same (ht _ (List.getElem_mem hj)).2] at this
  have HRef : Hid (moFault m = 0 → imsFault l = 0 → ∀ j (hj : j < m.types.length) W vt, Below w.heap.size w W → TyIs (fun b => b < w.heap.size) W m.types[j].is vt → Calls Try.prog 14 #[vm, v, .string s, vt] W (Tells W (solveP (refR m l m.types.length s []) 10 m.types[j].is))) := fun h0 hi j hj W vt hW hvt =>
    solvedOf_any (fun b => b < w.heap.size) m l s m.types[j].is vm v vt W (hS0 W hW) (hm.keep (Keeps.below hW (fun _ h => h))) (imSl_keep (Keeps.below hW (fun _ h => h)) hl) hz hi (mo_types h0) (by have := mo_counts h0 hzm; omega) (mo_types h0 _ (List.getElem_mem hj)).2 hvt
  obtain ⟨vu, vt, vf, rfl, hu, ht, hf⟩ := hm
  obtain ⟨u1, u2, u3, rfl⟩ := hu.slice
  have hts := ht
  obtain ⟨t1, t3, rfl⟩ := ht.is
  obtain ⟨f1, f2, f3, rfl⟩ := hf.slice
  obtain ⟨a, n, cap, rfl⟩ := hl.slice
  obtain ⟨w0, hwe, hs0, hA, q0, q1, q2⟩ : ∃ w0, w.alloc (.cells #[.slice u1 u2 u3, .slice t1 m.types.length t3, .slice f1 f2 f3] 26) = w0 ∧ w0.heap.size = w.heap.size + 1 ∧ Below w.heap.size w w0 ∧
      w0.cell? ⟨w.heap.size, 0, none⟩ = some (.slice u1 u2 u3) ∧ w0.cell? ⟨w.heap.size, 1, none⟩ = some (.slice t1 m.types.length t3) ∧ w0.cell? ⟨w.heap.size, 2, none⟩ = some (.slice f1 f2 f3) :=
    ⟨_, rfl, by simp, (Below.refl _ _).alloc (Nat.le_refl _) _, by simp [go_sem], by simp [go_sem], by simp [go_sem]⟩
  have HBox : Hid (∀ W, Below w0.heap.size w0 W → (W.cell? ⟨w.heap.size, 0, none⟩ = some (.slice u1 u2 u3) ∧ W.cell? ⟨w.heap.size, 1, none⟩ = some (.slice t1 m.types.length t3) ∧ W.cell? ⟨w.heap.size, 2, none⟩ = some (.slice f1 f2 f3)) ∧ Below w.heap.size w W) := fun W h =>
    ⟨⟨(h.cell (p := ⟨w.heap.size, 0, none⟩) (by show w.heap.size < _; omega)).trans q0, (h.cell (p := ⟨w.heap.size, 1, none⟩) (by show w.heap.size < _; omega)).trans q1, (h.cell (p := ⟨w.heap.size, 2, none⟩) (by show w.heap.size < _; omega)).trans q2⟩, hA.trans (h.mono hA.size)⟩
  have HA := veil hA
  have HWe := veil hwe
  clear hwe hA q0 q1 q2
  clear hu ht hf hl hz hS0 hzm
  cases hg : (moFault m == 0 && imsFault l == 0) with
  | false =>
    have HG : Hid ((moFault m == 0 && imsFault l == 0) = false) := hg
    rw [hg] at HMay
    go_enter Try.func4, Try.ntmps4
    go_wp2_with fail
    rw [HWe.out]
    refine (HMay.out _ HA.out).mono ?_
    rintro e w' ⟨rfl, hb⟩
    have HB := veil (HA.out.trans (hb.mono HA.out.size))
    clear hb
    go_wp2_with fail
    go_ret
    exact ⟨rfl, HB.out⟩
  | true =>
    have hi : moFault m = 0 ∧ imsFault l = 0 := by
      rw [Bool.and_eq_true] at hg
      exact ⟨eq_of_beq hg.1, eq_of_beq hg.2⟩
    rw [hg] at HMay
    have HSol2 := veil (HSol.out hi.1)
    have HRef2 := veil (HRef.out hi.1 hi.2)
    clear HSol HRef hi hg
    by_cases hbad : s.toList.isEmpty = false ∧ identOk s = false
    · obtain ⟨hb1, hb2⟩ := hbad
      rw [hb2] at HNm
      clear hts HSol2 HRef2 hb2
      go_enter Try.func4, Try.ntmps4
      go_wp2_with fail
      rw [HWe.out]
      refine (HMay.out _ HA.out).mono ?_
      rintro e w' ⟨rfl, hb⟩
      have HB := veil (HA.out.trans (hb.mono HA.out.size))
      clear hb
      go_wp2_with fail
      refine (HNm.out _).mono ?_
      rintro e w' ⟨rfl, rfl⟩
      go_wp2_with fail
      go_ret
      exact ⟨rfl, HB.out⟩
    · have hok : s.toList.isEmpty = true ∨ s.toList.isEmpty = false ∧ identOk s = true := by
        cases h1 : s.toList.isEmpty with
        | true => exact Or.inl rfl
        | false => exact Or.inr ⟨rfl, by simpa [h1] using hbad⟩
      clear hbad
      by_cases hk0 : k < 0
      · clear hts HSol2 HRef2
        rcases hok with h1 | ⟨h1, h2⟩
        · go_enter Try.func4, Try.ntmps4
          go_wp2_with fail
          rw [HWe.out]
          refine (HMay.out _ HA.out).mono ?_
          rintro e w' ⟨rfl, hb⟩
          have HB := veil (HA.out.trans (hb.mono HA.out.size))
          clear hb
          go_wp2_with fail
          go_ret
          exact ⟨rfl, HB.out⟩
        · rw [h2] at HNm
          clear h2
          go_enter Try.func4, Try.ntmps4
          go_wp2_with fail
          rw [HWe.out]
          refine (HMay.out _ HA.out).mono ?_
          rintro e w' ⟨rfl, hb⟩
          have HB := veil (HA.out.trans (hb.mono HA.out.size))
          clear hb
          go_wp2_with fail
          refine (HNm.out _).mono ?_
          rintro e w' ⟨rfl, rfl⟩
          go_wp2_with fail
          go_ret
          exact ⟨rfl, HB.out⟩
      · obtain ⟨j, rfl⟩ : ∃ j : Nat, k = (j : Int) := ⟨k.toNat, by omega⟩
        have hk1 : (0 : Int) ≤ (j : Int) := by omega
        by_cases hj : j < m.types.length
        · have hj1 : (j : Int) < (m.types.length : Int) := by omega
          obtain ⟨_, b, off, rfl, hb, hat⟩ := hts.at hj
          obtain ⟨kd, fo, na, p1, p2, p3, a0, a1, a2, a3, a4, hcs⟩ := fd_cells hat
          have HCells : Hid (∀ W, Below w.heap.size w W → (W.cell? ⟨b, off + j * 5 + 1, none⟩ = some (.int .i64 kd) ∧ W.cell? ⟨b, off + j * 5 + 2, none⟩ = some (.string fo) ∧ W.cell? ⟨b, off + j * 5 + 3, none⟩ = some (.string na) ∧ W.cell? ⟨b, off + j * 5 + 4, none⟩ = some (.slice p1 p2 p3)) ∧ TyIs (fun b => b < w.heap.size) W m.types[j].is (.agg #[.int .i64 kd, .string fo, .string na, .slice p1 p2 p3])) := fun W hW =>
            ⟨⟨(hW.cell (p := ⟨b, _, none⟩) hb).trans a1, (hW.cell (p := ⟨b, _, none⟩) hb).trans a2, (hW.cell (p := ⟨b, _, none⟩) hb).trans a3, (hW.cell (p := ⟨b, _, none⟩) hb).trans a4⟩, _, _, _, _, rfl, hcs.keep (Keeps.below hW (fun _ h => h))⟩
          have HSol3 : Hid (∀ W, Below w.heap.size w W → Calls Try.prog 13 #[.agg #[.slice u1 u2 u3, .slice (some ⟨b, off, none⟩) m.types.length t3, .slice f1 f2 f3], .slice a n cap, .string s, .agg #[.int .i64 kd, .string fo, .string na, .slice p1 p2 p3]] W (Tells W (solveP (refR m l m.types.length s []) 10 m.types[j].is))) := fun W hW => HSol2.out j hj W _ hW (HCells.out W hW).2
          have HRef3 : Hid (∀ W, Below w.heap.size w W → Calls Try.prog 14 #[.agg #[.slice u1 u2 u3, .slice (some ⟨b, off, none⟩) m.types.length t3, .slice f1 f2 f3], .slice a n cap, .string s, .agg #[.int .i64 kd, .string fo, .string na, .slice p1 p2 p3]] W (Tells W (solveP (refR m l m.types.length s []) 10 m.types[j].is))) := fun W hW => HRef2.out j hj W _ hW (HCells.out W hW).2
          clear hts HSol2 HRef2 hat a0 a1 a2 a3 a4 hcs
          generalize solveP (refR m l m.types.length s []) 10 m.types[j].is = r at *
          obtain ⟨rs, rc⟩ := r
          have hrs : (rs.toList == rs.toList) = true := by simp
          have hrc : (rc == rc) = true := by simp
          rcases hok with h1 | ⟨h1, h2⟩
          · go_enter Try.func4, Try.ntmps4
            go_wp2_with fail
            rw [HWe.out]
            refine (HMay.out _ HA.out).mono ?_
            rintro e w1 ⟨rfl, hb⟩
            obtain ⟨⟨c0, c1, c2⟩, hb1⟩ := HBox.out _ hb
            obtain ⟨⟨g1, g2, g3, g4⟩, _⟩ := HCells.out _ hb1
            have HB := veil hb
            have HB1 := veil hb1
            clear hb hb1 HMay
            have HB1d := veil (HB1.out.drew)
            have HBd := veil (HB.out.drew)
            go_wp2_with fail
            go_region_with (go_at_call 13; refine (HSol3.out _ HB1d.out).mono ?_; rintro e w2 ⟨rfl, hb2⟩)
            all_goals
              have hb3 := HBd.out.trans (hb2.mono HBd.out.size)
              obtain ⟨⟨c0', c1', c2'⟩, hb5⟩ := HBox.out _ hb3
              obtain ⟨⟨g1', g2', g3', g4'⟩, _⟩ := HCells.out _ hb5
              have HB5 := veil (hb5.drew)
              clear c0 c1 c2 g1 g2 g3 g4 hb2 hb3 hb5
              go_wp2_with fail
              go_region_with (go_at_call 14; refine (HRef3.out _ HB5.out).mono ?_; rintro e w6 ⟨rfl, hb6⟩)
              all_goals
                have HB8 := veil (HB5.out.trans (hb6.mono HB5.out.size))
                clear hb6 c0' c1' c2' g1' g2' g3' g4'
                go_wp2_with fail
                go_ret
                exact ⟨rfl, HB8.out⟩
          · rw [h2] at HNm
            clear h2
            go_enter Try.func4, Try.ntmps4
            go_wp2_with fail
            rw [HWe.out]
            refine (HMay.out _ HA.out).mono ?_
            rintro e w1 ⟨rfl, hb⟩
            obtain ⟨⟨c0, c1, c2⟩, hb1⟩ := HBox.out _ hb
            obtain ⟨⟨g1, g2, g3, g4⟩, _⟩ := HCells.out _ hb1
            have HB := veil hb
            have HB1 := veil hb1
            clear hb hb1 HMay
            go_wp2_with fail
            refine (HNm.out _).mono ?_
            rintro e w' ⟨rfl, rfl⟩
            have HB1d := veil (HB1.out.drew)
            have HBd := veil (HB.out.drew)
            go_wp2_with fail
            go_region_with (go_at_call 13; refine (HSol3.out _ HB1d.out).mono ?_; rintro e w2 ⟨rfl, hb2⟩)
            all_goals
              have hb3 := HBd.out.trans (hb2.mono HBd.out.size)
              obtain ⟨⟨c0', c1', c2'⟩, hb5⟩ := HBox.out _ hb3
              obtain ⟨⟨g1', g2', g3', g4'⟩, _⟩ := HCells.out _ hb5
              have HB5 := veil (hb5.drew)
              clear c0 c1 c2 g1 g2 g3 g4 hb2 hb3 hb5
              go_wp2_with fail
              go_region_with (go_at_call 14; refine (HRef3.out _ HB5.out).mono ?_; rintro e w6 ⟨rfl, hb6⟩)
              all_goals
                have HB8 := veil (HB5.out.trans (hb6.mono HB5.out.size))
                clear hb6 c0' c1' c2' g1' g2' g3' g4'
                go_wp2_with fail
                go_ret
                exact ⟨rfl, HB8.out⟩
        · have hj1 : ¬ (j : Int) < (m.types.length : Int) := by omega
          have hj2 : (m.types.length : Int) ≤ (j : Int) := by omega
          clear hts HSol2 HRef2
          rcases hok with h1 | ⟨h1, h2⟩
          · go_enter Try.func4, Try.ntmps4
            go_wp2_with fail
            rw [HWe.out]
            refine (HMay.out _ HA.out).mono ?_
            rintro e w' ⟨rfl, hb⟩
            obtain ⟨⟨c0, c1, c2⟩, hb1⟩ := HBox.out _ hb
            have HB := veil (HA.out.trans (hb.mono HA.out.size))
            clear hb hb1
            go_wp2_with fail
            go_ret
            exact ⟨rfl, HB.out⟩
          · rw [h2] at HNm
            clear h2
            go_enter Try.func4, Try.ntmps4
            go_wp2_with fail
            rw [HWe.out]
            refine (HMay.out _ HA.out).mono ?_
            rintro e w' ⟨rfl, hb⟩
            obtain ⟨⟨c0, c1, c2⟩, hb1⟩ := HBox.out _ hb
            have HB := veil (HA.out.trans (hb.mono HA.out.size))
            clear hb hb1
            go_wp2_with fail
            refine (HNm.out _).mono ?_
            rintro e w' ⟨rfl, rfl⟩
            go_wp2_with fail
            go_ret
            exact ⟨rfl, HB.out⟩

set_option maxRecDepth 100000 in
theorem lifted (os : Os) (started : os.Started) (H : Type) (enc : TypeId × Value → H) :
    ReturnsInHanded {} Try.checked os 4 .any (Rows.aliasSolvesSpec.pre6 enc Try.prog Try.f4 Rows.aliasSolvesRow.domain false) (Rows.aliasSolvesSpec.post enc Try.prog Try.f4 false true false false) := by
  refine returnsInHanded_of_change_sized (C := Try.checked) own started (by kernel_rfl) Try.func4
    (ChangeSpec.witness6 (enc := enc) (C := Try.checked) false ⟨#[], #[.agg #[.slice none 0 0, .slice none 0 0, .slice none 0 0], .slice none 0 0, .string ByteArray.empty, .int .i64 0], []⟩ 8 (by kernel_rfl) (by kernel_rfl) (by kernel_rfl) (by kernel_rfl)) ?_
  intro W base args ds gs before hval0 hW hcnd hsz _
  have hval : ∀ (j : Nat) t v, Try.f4.params[j]? = some t → args[j]? = some v → Value.okWide Try.prog W .any base t v := hval0
  have hW' := hW
  obtain ⟨p, q, hA0, hV, rfl, hfz, hnd⟩ := hW
  have hA : DataW.TrodAll enc Try.prog W 0 (fun _ => true) true Try.f4.params.toList args.toList ds p := hA0
  rw [Try.params4] at hA hval hsz
  obtain ⟨v0, vs0, d0, ds0, p0, q0, hargs, rfl, rfl, h0, r0⟩ := trodAll_cons hA
  obtain ⟨v1, vs1, d1, ds1, p1, q1, hargs1, rfl, rfl, h1, r1⟩ := trodAll_cons r0
  obtain ⟨v2, vs2, d2, ds2, p2, q2, hargs2, rfl, rfl, h2, r2⟩ := trodAll_cons r1
  obtain ⟨v3, vs3, d3, ds3, p3, q3, hargs3, rfl, rfl, h3, r3⟩ := trodAll_cons r2
  obtain ⟨rfl, rfl, rfl⟩ := trodAll_nil r3
  obtain rfl : args = #[v0, v1, v2, v3] := by cases args; simp_all
  obtain ⟨rfl, rfl⟩ := trodVars_none hV
  obtain ⟨cs0, rfl, _⟩ := okWide_struct Try.underlying26 (hval 0 26 v0 rfl rfl)
  obtain ⟨a1, len1, cap1, rfl⟩ := okWide_slice Try.underlying27 (hval 1 27 v1 rfl rfl)
  obtain ⟨a2, rfl, rfl, rfl, w2⟩ := open_string Try.underlying9 (hval 2 9 v2 rfl rfl) h2
  obtain ⟨a3, rfl, rfl, rfl, w3⟩ := open_int Try.underlying3 (hval 3 3 v3 rfl rfl) h3
  have k0 := h0
  have k1 := h1
  have lt0 : ∀ x ∈ p0, x.block < W.heap.size := by obtain ⟨m, hm⟩ := k0; exact DataW.trod_lt m _ _ _ hm
  have lt1 : ∀ x ∈ p1, x.block < W.heap.size := by obtain ⟨m, hm⟩ := k1; exact DataW.trod_lt m _ _ _ hm
  have z1 : ∀ n ∈ d1.weights Try.prog 27, n ≤ reachBytes := fun n hn => by
    have := List.all_eq_true.1 hsz n (DataW.weights_mem_each (j := 1) (t := 27) (d := d1) rfl rfl n hn)
    simpa using this
  have z0 : ∀ n ∈ d0.weights Try.prog 26, n ≤ reachBytes := fun n hn => by
    have := List.all_eq_true.1 hsz n (DataW.weights_mem_each (j := 0) (t := 26) (d := d0) rfl rfl n hn)
    simpa using this
  obtain ⟨m0, w0, s0⟩ : ∃ l, MoIs (fun b => b < W.heap.size) W l (.agg cs0) ∧ moSmall l := by
    obtain ⟨fuel, hf⟩ := h0
    obtain ⟨m, vu, vt, vf, hcs, hm, hsm⟩ := mo_readZ fuel _ _ hf z0
    have e : cs0 = #[vu, vt, vf] := by
      have : cs0.toList = [vu, vt, vf] := hcs
      cases cs0; simp_all
    exact ⟨m, by rw [e]; exact hm, hsm⟩
  obtain ⟨l1, w1, s1⟩ : ∃ l, SlAt (fun b => b < W.heap.size) (ImAt (fun b => b < W.heap.size) W) 4 l (.slice a1 len1 cap1) ∧ ∀ i ∈ l, fcSmall i.face := by
    obtain ⟨fuel, hf⟩ := h1
    obtain ⟨v, l, hv, hl, _, hq⟩ := sl_readZ (P := ImAt (fun b => b < W.heap.size) W) (Q := fun i => fcSmall i.face) Try.underlying27 cellsIm bytesIm (by omega) hf z1 (fun m' cs' x' b o hx' hz' _ hl' => by
      obtain ⟨i, vt, vf, rfl, h1, h2, h3⟩ := im_readZ _ _ _ hx' hz'
      exact ⟨i, ⟨⟨hl'.2 0 (by simp), h1⟩, hl'.2 1 (by simp), vt, vf, hl'.2 2 (by simp), hl'.2 3 (by simp), h2⟩, h3⟩)
    have e : Value.slice a1 len1 cap1 = v := by simpa [Value.cells] using hv
    exact ⟨l, by rw [e]; exact hl, hq⟩
  clear hA0 hval0
  refine (walk _ _ m0 l1 a2 w2 a3 w3 W w0 w1 s1 s0).mono fun e W' ⟨he, bel⟩ => ?_
  subst he
  exact ⟨_, rfl, _, _, _, [], _, [], hW', trodAll_mk1 (shut_bool Try.underlying4 _), (trodAll_cons_mk (Below.trod laidOut (by kernel_rfl) (of_decide_eq_true (by kernel_rfl)) k0 bel lt0) (trodAll_cons_mk (Below.trod laidOut (by kernel_rfl) (of_decide_eq_true (by kernel_rfl)) k1 bel lt1) (trodAll_cons_mk (shut_string Try.underlying9 w2) (trodAll_cons_mk (shut_int Try.underlying3 w3) trodAll_mk0)))), rfl, bel.frame _, fun h => by cases h⟩

theorem over : Rows.aliasSolvesRow.holds Try.pinned (OpenSpec.ofChange Rows.aliasSolvesSpec) :=
  OpenClaim.holds_of_wide 4 Try.f4 rfl rfl rfl rfl rfl rfl rfl ⟨rfl, rfl, rfl, rfl, rfl⟩ rfl rfl rfl rfl rfl (by kernel_rfl) Try.func4 (by kernel_rfl)
    (of_decide_eq_true (by kernel_rfl)) (by unfold Func.isWrapper; first | (rw [if_pos (by decide +kernel)]; kernel_rfl) | (rw [if_neg (by decide +kernel)]; exact ⟨rfl, rfl⟩))
    (fun os started H enc _ => lifted os started H enc)

theorem proved : Rows.AliasSolvesSaid :=
  over
#print axioms proved
end Go.Proofs.Ytkdailcadcfepaf.aliasSolves
