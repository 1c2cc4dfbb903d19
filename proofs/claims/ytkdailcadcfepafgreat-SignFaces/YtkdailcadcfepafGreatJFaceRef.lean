/- What the reference's SameFace answers: whether two faces are the same, one by one. -/
import Derived.Test.YtkdailcadcfepafGreatJFa
namespace Go.Proofs.YtkdailcadcfepafGreat
open Go.RowKit
set_option maxRecDepth 100000

theorem sg_cells {S : Nat → Prop} {w : World} {g : Sg} {b o : Nat} (h : SgAt S w g b o) : ∃ a cap, w.cell? ⟨b, o, none⟩ = some (.string g.name) ∧ w.cell? ⟨b, o + 1, none⟩ = some (.slice a g.params.length cap) ∧ w.cell? ⟨b, o + 2, none⟩ = some (.string g.result) ∧ SlAt S (StrAt w) 1 g.params (.slice a g.params.length cap) := by
  obtain ⟨⟨h0, z0⟩, ⟨v, hv, hp⟩, h1, z1⟩ := h
  obtain ⟨a, cap, rfl⟩ := hp.is
  exact ⟨a, cap, h0, hv, h1, hp⟩

set_option maxHeartbeats 8000000 in
theorem sameFace_any (S : Nat → Prop) (f g : Fc) (v u : Value) (w : World) (hS : ∀ b, S b → b < w.heap.size) (hv : FcIs S w f v) (hu : FcIs S w g u) :
    Calls Tryz.prog 7 #[v, u] w fun e w' => e = .returned (.bool (fcEq f g)) ∧ Below w.heap.size w w' := by
  obtain ⟨vt, vf, rfl, ht, hf⟩ := hv
  obtain ⟨ut, uf, rfl, kt, kf⟩ := hu
  have HE : Hid (fcEq f g = (eqL knEq f.types g.types && eqL sgEq f.funcs g.funcs)) := rfl
  have HT := veil ht
  have HF := veil hf
  have KT := veil kt
  have KF := veil kf
  have h1 := ht.len
  have h2 := hf.len
  unfold maxLen at h1 h2
  obtain ⟨a, cap, rfl⟩ := ht.is
  obtain ⟨a2, cap2, rfl⟩ := hf.is
  obtain ⟨a3, cap3, rfl⟩ := kt.is
  obtain ⟨a4, cap4, rfl⟩ := kf.is
  clear ht hf kt kf
  obtain ⟨w2, hwe, hs2, p0, p1, q0, q1, hbel⟩ : ∃ w2, (w.alloc (.cells #[.slice a f.types.length cap, .slice a2 f.funcs.length cap2] 32)).alloc (.cells #[.slice a3 g.types.length cap3, .slice a4 g.funcs.length cap4] 32) = w2 ∧ w2.heap.size = w.heap.size + 2 ∧
      w2.cell? ⟨w.heap.size, 0, none⟩ = some (.slice a f.types.length cap) ∧ w2.cell? ⟨w.heap.size, 1, none⟩ = some (.slice a2 f.funcs.length cap2) ∧ w2.cell? ⟨w.heap.size + 1, 0, none⟩ = some (.slice a3 g.types.length cap3) ∧ w2.cell? ⟨w.heap.size + 1, 1, none⟩ = some (.slice a4 g.funcs.length cap4) ∧ Below w.heap.size w w2 := by
    have n0 : (w.alloc (.cells #[.slice a f.types.length cap, .slice a2 f.funcs.length cap2] 32)).heap.size = w.heap.size + 1 := by simp
    refine ⟨_, rfl, by simp, ?_, ?_, ?_, ?_, ((Below.refl _ _).alloc (Nat.le_refl _) _).alloc (by omega) _⟩
    · rw [World.cell?_alloc_old _ _ _ (by show w.heap.size ≠ _; omega)]
      exact World.cell?_alloc_at _ _ _ _ rfl
    · rw [World.cell?_alloc_old _ _ _ (by show w.heap.size ≠ _; omega)]
      exact World.cell?_alloc_at _ _ _ _ rfl
    · rw [← n0]
      exact World.cell?_alloc_at _ _ _ _ rfl
    · rw [← n0]
      exact World.cell?_alloc_at _ _ _ _ rfl
  by_cases hl1 : f.types.length = g.types.length
  case neg =>
    have hne : ((f.types.length : Int) != (g.types.length : Int)) = true := by simpa using fun e : (f.types.length : Int) = g.types.length => hl1 (by omega)
    have HF1 : Hid (fcEq f g = false) := by show _ = _; rw [HE.out, eqL_len hl1]; rfl
    have HB := veil (hwe ▸ hbel)
    clear hl1 HT HF KT KF hwe hbel p0 p1 q0 q1
    go_enter Tryz.func7, Tryz.ntmps7
    go_wp2_with fail
    go_ret
    exact ⟨by rw [HF1.out]; rfl, HB.out⟩
  by_cases hl2 : f.funcs.length = g.funcs.length
  case neg =>
    have hne : ((f.types.length : Int) != (g.types.length : Int)) = false := by rw [hl1]; simp
    have hne2 : ((f.funcs.length : Int) != (g.funcs.length : Int)) = true := by simpa using fun e : (f.funcs.length : Int) = g.funcs.length => hl2 (by omega)
    have HF1 : Hid (fcEq f g = false) := by show _ = _; rw [HE.out, eqL_len hl2]; simp
    have HB := veil (hwe ▸ hbel)
    clear hl1 hl2 HT HF KT KF hwe hbel p0 p1 q0 q1
    go_enter Tryz.func7, Tryz.ntmps7
    go_wp2_with fail
    go_ret
    exact ⟨by rw [HF1.out]; rfl, HB.out⟩
  have hne : ((f.types.length : Int) != (g.types.length : Int)) = false := by rw [hl1]; simp
  have hne2 : ((f.funcs.length : Int) != (g.funcs.length : Int)) = false := by rw [hl2]; simp
  have HL1 := veil hl1
  have HL2 := veil hl2
  have HWe := veil hwe
  have HP0 := veil p0
  have HP1 := veil p1
  have HQ0 := veil q0
  have HQ1 := veil q1
  have HBel := veil hbel
  clear hwe p0 p1 q0 q1 hbel hl1 hl2
  go_enter Tryz.func7, Tryz.ntmps7
  go_wp2_with fail
  rw [HWe.out]
  clear HWe
  go_loopw [5] (fun i wr => ∃ j : Nat, j ≤ f.types.length ∧ i = .int .i64 j ∧ eqL knEq f.types g.types = eqL knEq (f.types.drop j) (g.types.drop j) ∧ Below (w.heap.size + 2) w2 wr) (fun i _ => f.types.length - (intOf i).toNat)
  case atStart => exact ⟨0, Nat.zero_le _, rfl, rfl, Below.refl _ _⟩
  case round =>
    obtain ⟨j, hj, rfl, hq, hbl⟩ := hrel
    have HQ := veil hq
    clear hq
    have hbw := HBel.out.trans (hbl.mono (show w.heap.size ≤ w.heap.size + 2 by omega))
    have HBL := veil hbl
    have HBW := veil hbw
    have hszr := hbl.size
    have c0 := (hbl.cell (p := ⟨w.heap.size, 0, none⟩) (by show w.heap.size < _; omega)).trans HP0.out
    have c2 := (hbl.cell (p := ⟨w.heap.size + 1, 0, none⟩) (by show w.heap.size + 1 < _; omega)).trans HQ0.out
    clear hbl
    by_cases hlt : j < f.types.length
    · have hlt' : (j : Int) < (f.types.length : Int) := by omega
      have hltm : j < g.types.length := by have := HL1.out; omega
      have hltm' : (j : Int) < (g.types.length : Int) := by omega
      obtain ⟨_, b, off, rfl, hb, ⟨a0, _⟩, a1, _⟩ := HT.out.at hlt
      obtain ⟨_, b2, off2, rfl, hb2, ⟨b0, _⟩, b1, _⟩ := KT.out.at hltm
      have hbk := hS b hb
      have hbk2 := hS b2 hb2
      have d0 := (hbw.cell (p := ⟨b, off + j * 2, none⟩) hbk).trans a0
      have e0 := (hbw.cell (p := ⟨b2, off2 + j * 2, none⟩) hbk2).trans b0
      have d1 := (hbw.cell (p := ⟨b, off + j * 2 + 1, none⟩) hbk).trans a1
      have e1 := (hbw.cell (p := ⟨b2, off2 + j * 2 + 1, none⟩) hbk2).trans b1
      have HD : Hid (Below (w.heap.size + 2) w2 wr.drew) := HBL.out.drew
      have HDW : Hid (Below w.heap.size w wr.drew) := HBW.out.drew
      have HS : Hid (eqL knEq f.types g.types = (((f.types[j].name.toList == g.types[j].name.toList) && (f.types[j].is.toList == g.types[j].is.toList)) && eqL knEq (f.types.drop (j + 1)) (g.types.drop (j + 1)))) := HQ.out.trans (eqL_step hlt hltm)
      clear a0 b0 a1 b1 HT KT HF KF hbw HP0 HP1 HQ0 HQ1 HBel HL1 HL2
      generalize f.types[j].name = x at *
      generalize g.types[j].name = y at *
      generalize f.types[j].is = x' at *
      generalize g.types[j].is = y' at *
      cases hxy : (x.toList == y.toList) with
      | true =>
        cases hxy' : (x'.toList == y'.toList) with
        | true =>
          go_wp2_with fail
          go_region
          all_goals
            go_wp2_with fail
            exact ⟨⟨j + 1, by omega, by go_num, by rw [HS.out, hxy, hxy']; rfl, HD.out⟩, by simp [intOf]; omega⟩
        | false =>
          go_wp2_with fail
          go_region
          all_goals
            go_wp2_with fail
            go_ret
            exact ⟨by rw [HE.out, HS.out, hxy, hxy']; rfl, HDW.out⟩
      | false =>
        go_wp2_with fail
        go_region
        all_goals
          go_wp2_with fail
          go_ret
          exact ⟨by rw [HE.out, HS.out, hxy]; rfl, HDW.out⟩
    · have hnl : ¬ (j : Int) < (f.types.length : Int) := by omega
      have HE1 : Hid (fcEq f g = eqL sgEq f.funcs g.funcs) := by
        show _ = _
        rw [HE.out, HQ.out, eqL_end (by omega) (by have := HL1.out; omega)]
        rfl
      clear HQ HT KT HE HL1
      go_wp2_with fail
      clear c0 c2 hnl hlt hj hbw HP0 HQ0 HBW
      rename World => wo
      go_loopw [6] (fun i wr => ∃ j : Nat, j ≤ f.funcs.length ∧ i = .int .i64 j ∧ eqL sgEq f.funcs g.funcs = eqL sgEq (f.funcs.drop j) (g.funcs.drop j) ∧ Below (w.heap.size + 2) w2 wr) (fun i _ => f.funcs.length - (intOf i).toNat)
      case atStart => exact ⟨0, Nat.zero_le _, rfl, rfl, HBL.out⟩
      case round =>
        obtain ⟨j, hj, rfl, hq, hbl⟩ := hrel
        rename World => wo2
        have HQ := veil hq
        clear hq
        have hbw := HBel.out.trans (hbl.mono (show w.heap.size ≤ w.heap.size + 2 by omega))
        have HBW := veil hbw
        have hszr := hbl.size
        have c0 := (hbl.cell (p := ⟨w.heap.size, 1, none⟩) (by show w.heap.size < _; omega)).trans HP1.out
        have c2 := (hbl.cell (p := ⟨w.heap.size + 1, 1, none⟩) (by show w.heap.size + 1 < _; omega)).trans HQ1.out
        have HBl := veil hbl
        clear hbl HBL
        by_cases hlt : j < f.funcs.length
        · have hlt' : (j : Int) < (f.funcs.length : Int) := by omega
          have hltm : j < g.funcs.length := by have := HL2.out; omega
          have hltm' : (j : Int) < (g.funcs.length : Int) := by omega
          obtain ⟨_, b, off, rfl, hb, hat⟩ := HF.out.at hlt
          obtain ⟨_, b2, off2, rfl, hb2, hat2⟩ := KF.out.at hltm
          have hbk := hS b hb
          have hbk2 := hS b2 hb2
          have hbr : b < wo2.heap.size := by omega
          have hbr2 : b2 < wo2.heap.size := by omega
          have hrw : w.heap.size < wo2.heap.size := by omega
          have hrw2 : w.heap.size + 1 < wo2.heap.size := by omega
          obtain ⟨p1, p3, a0, a1, a2', hps⟩ := sg_cells hat
          obtain ⟨q1, q3, b0, b1, b2', hqs⟩ := sg_cells hat2
          have d0 := (hbw.cell (p := ⟨b, off + j * 3, none⟩) hbk).trans a0
          have d1 := (hbw.cell (p := ⟨b, off + j * 3 + 1, none⟩) hbk).trans a1
          have d2 := (hbw.cell (p := ⟨b, off + j * 3 + 2, none⟩) hbk).trans a2'
          have e0 := (hbw.cell (p := ⟨b2, off2 + j * 3, none⟩) hbk2).trans b0
          have e1 := (hbw.cell (p := ⟨b2, off2 + j * 3 + 1, none⟩) hbk2).trans b1
          have e2 := (hbw.cell (p := ⟨b2, off2 + j * 3 + 2, none⟩) hbk2).trans b2'
          have HPS := veil hps
          have HQS := veil hqs
          have hpl := hps.len
          unfold maxLen at hpl
          have HS : Hid (eqL sgEq f.funcs g.funcs = (((f.funcs[j].name.toList == g.funcs[j].name.toList) && ((f.funcs[j].result.toList == g.funcs[j].result.toList) && eqL sEq f.funcs[j].params g.funcs[j].params)) && eqL sgEq (f.funcs.drop (j + 1)) (g.funcs.drop (j + 1)))) := HQ.out.trans (eqL_step hlt hltm)
          have HB2 : Hid (∀ x y, Below w.heap.size w ((wo2.alloc x).alloc y)) := fun x y => (HBW.out.alloc (by omega) _).alloc (by simp; omega) _
          clear a0 a1 a2' b0 b1 b2' HF KF hbw HP1 HQ1 HL2 hat hat2 hps hqs HQ
          generalize f.funcs[j].name = x at *
          generalize g.funcs[j].name = y at *
          generalize f.funcs[j].result = x' at *
          generalize g.funcs[j].result = y' at *
          generalize f.funcs[j].params = ps at *
          generalize g.funcs[j].params = qs at *
          cases hxy : (x.toList == y.toList) with
          | false =>
            go_wp2_with fail
            go_ret
            exact ⟨by rw [HE1.out, HS.out, hxy]; rfl, HB2.out _ _⟩
          | true =>
            cases hxy' : (x'.toList == y'.toList) with
            | false =>
              go_wp2_with fail
              go_ret
              exact ⟨by rw [HE1.out, HS.out, hxy, hxy']; rfl, HB2.out _ _⟩
            | true =>
              by_cases hpq : ps.length = qs.length
              · have hpn : ((ps.length : Int) != (qs.length : Int)) = false := by rw [hpq]; simp
                have HPQ := veil hpq
                obtain ⟨wb, hwb, hsb, g0, g1, hbb, hbbw⟩ : ∃ wb, (wo2.alloc (.cells #[.string x, .slice p1 ps.length p3, .string x'] 52)).alloc (.cells #[.string y, .slice q1 qs.length q3, .string y'] 52) = wb ∧ wb.heap.size = wo2.heap.size + 2 ∧
                    wb.cell? ⟨wo2.heap.size, 1, none⟩ = some (.slice p1 ps.length p3) ∧ wb.cell? ⟨wo2.heap.size + 1, 1, none⟩ = some (.slice q1 qs.length q3) ∧ Below (w.heap.size + 2) w2 wb ∧ Below w.heap.size w wb := by
                  have n0 : (wo2.alloc (.cells #[.string x, .slice p1 ps.length p3, .string x'] 52)).heap.size = wo2.heap.size + 1 := by simp
                  refine ⟨_, rfl, by simp, ?_, ?_, (HBl.out.alloc (by omega) _).alloc (by simp; omega) _, HB2.out _ _⟩
                  · rw [World.cell?_alloc_old _ _ _ (by show wo2.heap.size ≠ _; omega)]
                    exact World.cell?_alloc_at _ _ _ _ rfl
                  · rw [← n0]
                    exact World.cell?_alloc_at _ _ _ _ rfl
                have HWB := veil hwb
                have HG0 := veil g0
                have HG1 := veil g1
                have HBB := veil hbb
                have HBBW := veil hbbw
                have HS' : Hid (eqL sgEq f.funcs g.funcs = (eqL sEq ps qs && eqL sgEq (f.funcs.drop (j + 1)) (g.funcs.drop (j + 1)))) := by
                  show _ = _
                  rw [HS.out, hxy, hxy']; rfl
                clear hwb g0 g1 hbb hbbw hpq HS
                go_wp2_with fail
                rw [HWB.out]
                clear HWB
                clear d0 d1 d2 e0 e1 e2 c0 c2 HB2 HBl HBW
                go_loopw [9] (fun i wr => ∃ k : Nat, k ≤ ps.length ∧ i = .int .i64 k ∧ eqL sEq ps qs = eqL sEq (ps.drop k) (qs.drop k) ∧ Below (wo2.heap.size + 2) wb wr) (fun i _ => ps.length - (intOf i).toNat)
                case atStart => exact ⟨0, Nat.zero_le _, rfl, rfl, Below.refl _ _⟩
                case round =>
                  obtain ⟨k, hk, rfl, hq, hbl⟩ := hrel
                  have HQ := veil hq
                  clear hq
                  have hszk := hbl.size
                  have c0 := (hbl.cell (p := ⟨wo2.heap.size, 1, none⟩) (by show wo2.heap.size < _; omega)).trans HG0.out
                  have c2 := (hbl.cell (p := ⟨wo2.heap.size + 1, 1, none⟩) (by show wo2.heap.size + 1 < _; omega)).trans HG1.out
                  have hbw := HBBW.out.trans (hbl.mono (show w.heap.size ≤ wo2.heap.size + 2 by omega))
                  have HBW := veil hbw
                  have HBL := veil (HBB.out.trans (hbl.mono (show w.heap.size + 2 ≤ wo2.heap.size + 2 by omega)))
                  have HBl := veil hbl
                  clear hbl
                  by_cases hlk : k < ps.length
                  · have hlk' : (k : Int) < (ps.length : Int) := by omega
                    have hlkm : k < qs.length := by have := HPQ.out; omega
                    have hlkm' : (k : Int) < (qs.length : Int) := by omega
                    obtain ⟨_, b3, off3, rfl, hb3, a0, _⟩ := HPS.out.at hlk
                    obtain ⟨_, b4, off4, rfl, hb4, b0, _⟩ := HQS.out.at hlkm
                    have hbk3 := hS b3 hb3
                    have hbk4 := hS b4 hb4
                    rw [Nat.mul_one] at a0 b0
                    have d0 := (hbw.cell (p := ⟨b3, off3 + k, none⟩) hbk3).trans a0
                    have e0 := (hbw.cell (p := ⟨b4, off4 + k, none⟩) hbk4).trans b0
                    have HD : Hid (Below (wo2.heap.size + 2) wb wr.drew) := HBl.out.drew
                    have HDW : Hid (Below w.heap.size w wr.drew) := HBW.out.drew
                    have HT : Hid (eqL sEq ps qs = ((ps[k].toList == qs[k].toList) && eqL sEq (ps.drop (k + 1)) (qs.drop (k + 1)))) := HQ.out.trans (eqL_step hlk hlkm)
                    clear a0 b0 HPS HQS hbw HG0 HG1 HBB HBBW HPQ
                    generalize ps[k] = x3 at *
                    generalize qs[k] = y3 at *
                    cases hxy3 : (x3.toList == y3.toList) with
                    | true =>
                      go_wp2_with fail
                      go_region
                      all_goals
                        go_wp2_with fail
                        exact ⟨⟨k + 1, by omega, by go_num, by rw [HT.out, hxy3]; rfl, HD.out⟩, by simp [intOf]; omega⟩
                    | false =>
                      go_wp2_with fail
                      go_region
                      all_goals
                        go_wp2_with fail
                        go_ret
                        exact ⟨by rw [HE1.out, HS'.out, HT.out, hxy3]; rfl, HDW.out⟩
                  · have hnk : ¬ (k : Int) < (ps.length : Int) := by omega
                    have HE3 : Hid (eqL sgEq f.funcs g.funcs = eqL sgEq (f.funcs.drop (j + 1)) (g.funcs.drop (j + 1))) := by
                      show _ = _
                      rw [HS'.out, HQ.out, eqL_end (by omega) (by have := HPQ.out; omega)]
                      rfl
                    clear HPS HQS hbw HG0 HG1 HBB HBBW HPQ HS' HQ
                    go_wp2_with fail
                    exact ⟨⟨j + 1, by omega, by go_num, HE3.out, HBL.out⟩, by simp [intOf]; omega⟩
              · have hpn : ((ps.length : Int) != (qs.length : Int)) = true := by simpa using fun e : (ps.length : Int) = qs.length => hpq (by omega)
                have HF1 := veil (eqL_len (p := sEq) hpq)
                go_wp2_with fail
                go_ret
                exact ⟨by rw [HE1.out, HS.out, hxy, hxy', HF1.out]; rfl, HB2.out _ _⟩
        · have hnl : ¬ (j : Int) < (f.funcs.length : Int) := by omega
          have HE2 : Hid (fcEq f g = true) := by
            show _ = _
            rw [HE1.out, HQ.out, eqL_end (by omega) (by have := HL2.out; omega)]
          clear HQ HF KF HE1 HL2
          go_wp2_with fail
          go_ret
          exact ⟨by rw [HE2.out]; rfl, HBW.out⟩

end Go.Proofs.YtkdailcadcfepafGreat
