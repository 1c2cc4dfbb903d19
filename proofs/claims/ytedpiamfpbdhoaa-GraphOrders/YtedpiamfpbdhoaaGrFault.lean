/- What the reference's NodesFault answers: the first thing that is wrong with nodes. -/
import Derived.Test.YtedpiamfpbdhoaaGrCheck2
namespace Go.Proofs.Ytedpiamfpbdhoaa
open Go.RowKit

theorem nd_ident {n : Nd} (h : ndOk n = true) : identOk n.name = true := by
  unfold ndOk at h
  simp only [Bool.and_eq_true] at h
  exact h.1

set_option maxHeartbeats 4000000 in
theorem nodesFault_any (S : Nat → Prop) (l : List Nd) (v : Value) (w : World) (hS : ∀ b, S b → b < w.heap.size) (hv : SlAt S (NdAt S w) 2 l v) :
    Calls Try.prog 6 #[v] w fun e w' => e = .returned (.int .i64 (ndsFault l)) ∧ Below w.heap.size w w' := by
  have HV := veil hv
  have hlen := hv.len
  unfold maxLen at hlen
  obtain ⟨a, cap, rfl⟩ := hv.is
  have HE : Hid (ndsFault l = if 10 < (l.length : Int) then 1 else orderFault ndFault Nd.name l ⟨#[]⟩) := rfl
  clear hv
  generalize ndsFault l = r at *
  by_cases h10 : (10 : Int) < (l.length : Int)
  · have HE' : Hid (r = 1) := HE.out.trans (if_pos h10)
    clear HE
    go_enter Try.func6, Try.ntmps6
    go_wp2_with fail
    go_ret
    exact ⟨by rw [HE'.out]; rfl, Below.refl _ _⟩
  have HE' : Hid (r = orderFault ndFault Nd.name l ⟨#[]⟩) := HE.out.trans (if_neg h10)
  clear HE
  go_enter Try.func6, Try.ntmps6
  go_wp2_with fail
  go_loopw [3] (fun i wr => ∃ j : Nat, j ≤ l.length ∧ i = .int .i64 j ∧ r = orderFault ndFault Nd.name (l.drop j) (aheadOf Nd.name l j) ∧ Below w.heap.size w wr) (fun i _ => l.length - (intOf i).toNat)
  case atStart => exact ⟨0, Nat.zero_le _, rfl, HE'.out, Below.refl _ _⟩
  case round =>
    obtain ⟨j, hj, rfl, hq, hbl⟩ := hrel
    obtain ⟨wo, hwo⟩ : ∃ wo, wo = wr := ⟨_, rfl⟩
    subst hwo
    have HQ := veil hq
    have HBW := veil hbl
    clear hq HE'
    by_cases hlt : j < l.length
    · have hlt' : (j : Int) < (l.length : Int) := by omega
      have hj0 : (0 : Int) ≤ (j : Int) := by omega
      obtain ⟨_, b, off, rfl, hb, hat⟩ := HV.out.at hlt
      obtain ⟨a1, cap1, c0, m0, c1, hu⟩ := nd_cells hat
      have hbk := hS b hb
      have d0 := (hbl.cell (p := ⟨b, off + j * 2, none⟩) hbk).trans c0
      have d1 := (hbl.cell (p := ⟨b, off + j * 2 + 1, none⟩) hbk).trans c1
      have HI : Hid (∀ W, Calls Try.prog 11 #[.string l[j].name] W fun e w' => e = .returned (.bool (identOk l[j].name)) ∧ W = w') := fun W => nameMay_any _ m0 W
      have HU := veil hu
      have hul := hu.len
      unfold maxLen at hul
      have HOk : Hid (ndOk l[j] = (identOk l[j].name && (decide (l[j].uses.length ≤ 24) && l[j].uses.all identOk))) := rfl
      have HNo : Hid (ndOk l[j] = false → r = 4) := fun h => by
        have h4 : ndFault l[j] = 4 := by unfold ndFault bad4; rw [if_neg (by rw [h]; simp)]
        rw [HQ.out, order_bad hlt (by rw [h4]; decide), h4]
      have HYes : Hid (ndOk l[j] = true → (j = 0 → r = orderFault ndFault Nd.name (l.drop (j + 1)) (aheadOf Nd.name l (j + 1))) ∧ (∀ h0 : 0 < j, (leB l[j].name (l[j - 1]'(by omega)).name = true → r = 7) ∧ (leB l[j].name (l[j - 1]'(by omega)).name = false → r = orderFault ndFault Nd.name (l.drop (j + 1)) (aheadOf Nd.name l (j + 1))))) := fun h => by
        have hf0 : ndFault l[j] = 0 := by unfold ndFault bad4; rw [if_pos h]
        refine ⟨fun h0 => ?_, fun h0 => ⟨fun hle => ?_, fun hle => ?_⟩⟩
        · rw [ahead_succ hlt, HQ.out]
          refine order_on hlt hf0 ?_
          subst h0
          exact gt_empty (nd_ident h)
        · exact HQ.out.trans (order_low hlt hf0 (by rw [ahead_prev h0 hlt, gt_not_le, hle]; rfl))
        · rw [ahead_succ hlt, HQ.out]
          exact order_on hlt hf0 (by rw [ahead_prev h0 hlt, gt_not_le, hle]; rfl)
      have HPrev : Hid (∀ h0 : 0 < j, wo.cell? ⟨b, off + (j - 1) * 2, none⟩ = some (.string (l[j - 1]'(by omega)).name)) := fun h0 => by
        obtain ⟨_, b', off', e, hb', hat'⟩ := HV.out.at (k := j - 1) (by omega)
        injection e with e; injection e with e1 e2; subst e1 e2
        obtain ⟨_, _, c0', _⟩ := nd_cells hat'
        exact (hbl.cell (p := ⟨b, off + (j - 1) * 2, none⟩) hbk).trans c0'
      have HDw : Hid (∀ n, Below w.heap.size w (wo.drewN n)) := fun n => below_drewN HBW.out n
      clear c0 c1 m0 hat hu HV HQ
      generalize ndOk l[j] = ok at *
      generalize l[j].name = x at *
      generalize l[j].uses = us at *
      cases hi : identOk x with
      | false =>
        rw [hi] at HI
        have HR := veil (HNo.out (by rw [HOk.out, hi]; rfl))
        clear HNo HYes HOk hi HPrev hbl
        go_wp2_with fail
        refine (HI.out _).mono ?_
        rintro e w1 ⟨rfl, rfl⟩
        go_wp2_with fail
        go_ret
        exact ⟨by rw [HR.out]; rfl, HBW.out⟩
      | true =>
        rw [hi] at HI
        by_cases h8 : us.length ≤ 24
        case neg =>
          have h8' : (24 : Int) < (us.length : Int) := by omega
          have HR := veil (HNo.out (by rw [HOk.out, hi]; simp [h8]))
          clear HNo HYes HOk hi HPrev hbl h8
          go_wp2_with fail
          refine (HI.out _).mono ?_
          rintro e w1 ⟨rfl, rfl⟩
          go_wp2_with fail
          go_ret
          exact ⟨by rw [HR.out]; rfl, HBW.out⟩
        have h8' : ¬ (24 : Int) < (us.length : Int) := by omega
        have HOk' : Hid (ok = us.all identOk) := by show _ = _; rw [HOk.out, hi]; simp [h8]
        clear HOk hi h8
        go_wp2_with fail
        refine (HI.out _).mono ?_
        rintro e w1 ⟨rfl, rfl⟩
        go_wp2_with fail
        go_loopw [4] (fun i wz => ∃ k : Nat, k ≤ us.length ∧ i = .int .i64 k ∧ us.all identOk = (us.drop k).all identOk ∧ wz = wo) (fun i _ => us.length - (intOf i).toNat)
        case atStart => exact ⟨0, Nat.zero_le _, rfl, rfl, rfl⟩
        case round =>
          obtain ⟨k, hk, rfl, hqk, rfl⟩ := hrel
          have HQk := veil hqk
          clear hqk
          by_cases hkt : k < us.length
          · have hkt' : (k : Int) < (us.length : Int) := by omega
            have hk0 : (0 : Int) ≤ (k : Int) := by omega
            obtain ⟨_, b2, off2, rfl, hb2, u0, n0⟩ := HU.out.at hkt
            rw [Nat.mul_one] at u0
            have e0 := (hbl.cell (p := ⟨b2, off2 + k, none⟩) (hS b2 hb2)).trans u0
            have HS : Hid (us.all identOk = (identOk us[k] && (us.drop (k + 1)).all identOk)) := HQk.out.trans (all_at hkt)
            have HK : Hid (∀ W, Calls Try.prog 11 #[.string us[k]] W fun e w' => e = .returned (.bool (identOk us[k])) ∧ W = w') := fun W => nameMay_any _ n0 W
            clear u0 n0 HU HQk HYes HPrev hbl
            generalize us[k] = z at *
            cases hz : identOk z with
            | true =>
              rw [hz] at HK
              have HS' : Hid (us.all identOk = (us.drop (k + 1)).all identOk) := by show _ = _; rw [HS.out, hz]; rfl
              clear HS hz
              go_wp2_with fail
              refine (HK.out _).mono ?_
              rintro e w2 ⟨rfl, rfl⟩
              go_wp2_with fail
              exact ⟨⟨k + 1, by omega, by go_num, HS'.out, by simp⟩, by simp [intOf]; omega⟩
            | false =>
              rw [hz] at HK
              have HR := veil (HNo.out (by rw [HOk'.out, HS.out, hz]; rfl))
              clear HS hz
              go_wp2_with fail
              refine (HK.out _).mono ?_
              rintro e w2 ⟨rfl, rfl⟩
              go_wp2_with fail
              go_ret
              exact ⟨by rw [HR.out]; rfl, HBW.out⟩
          · have hnk : ¬ (k : Int) < (us.length : Int) := by omega
            have HY := veil (HYes.out (by rw [HOk'.out, HQk.out, List.drop_eq_nil_of_le (by omega)]; rfl))
            clear HNo HYes HOk' HQk HU hbl
            by_cases h0 : j = 0
            · have HY0 := veil (HY.out.1 h0)
              have hg : decide ((0 : Int) < (j : Int)) = false := by simp; omega
              have hgn : decide (0 < j) = false := by simp; omega
              clear HY HPrev h0
              go_wp2_with fail
              go_quiet (fail)
              go_wp2_with fail
              exact ⟨⟨j + 1, by omega, by go_num, HY0.out, HDw.out _⟩, by simp [intOf]; omega⟩
            · have hpos : 0 < j := by omega
              have hg : decide ((0 : Int) < (j : Int)) = true := by simp; omega
              have hgi : (0 : Int) < (j : Int) := by omega
              have hm1 : (0 : Int) ≤ (j : Int) - 1 := by omega
              have hm2 : (j : Int) - 1 < (l.length : Int) := by omega
              have hm3 : ((j : Int) - 1).toNat = j - 1 := by omega
              have e0 := HPrev.out hpos
              have HY0 := veil (HY.out.2 hpos)
              clear HY HPrev h0
              generalize (l[j - 1]'(by omega)).name = px at *
              cases hle : leB x px with
              | true =>
                have HR := veil (HY0.out.1 hle)
                have hle' : (Op.bytesLess x.toList px.toList || x.toList == px.toList) = true := hle
                clear HY0 hle
                go_wp2_with fail
                go_quiet (fail)
                go_wp2_with fail
                go_ret
                exact ⟨by rw [HR.out]; rfl, HDw.out _⟩
              | false =>
                have HR := veil (HY0.out.2 hle)
                have hle' : (Op.bytesLess x.toList px.toList || x.toList == px.toList) = false := hle
                clear HY0 hle
                go_wp2_with fail
                go_quiet (fail)
                go_wp2_with fail
                exact ⟨⟨j + 1, by omega, by go_num, HR.out, HDw.out _⟩, by simp [intOf]; omega⟩
    · have hnl : ¬ (j : Int) < (l.length : Int) := by omega
      have HR : Hid (r = 0) := HQ.out.trans (order_end (by omega))
      clear HV hbl HQ
      go_wp2_with fail
      go_ret
      exact ⟨by rw [HR.out]; rfl, HBW.out⟩

end Go.Proofs.Ytedpiamfpbdhoaa
