/- What face.empty, importName, checkImport, inOrder at imports, CheckImports, and the reference's ImportsFault answer: the first thing that is wrong with a list of imports. -/
import Derived.Test.YtcpnfkeoajeodaaGreatDoorJFaceFault
namespace Go.Proofs.YtcpnfkeoajeodaaGreatDoor
open Go.RowKit
set_option maxRecDepth 100000

def fcNone (f : Fc) : Bool := ((f.types.length : Int) == 0) && ((f.funcs.length : Int) == 0)
def imFault (i : Im) : Int := if identOk i.name = true then (if fcFault i.face = 0 then bad4 (i.there || fcNone i.face) else fcFault i.face) else 4
def imsFault (l : List Im) : Int := if 24 < (l.length : Int) then 1 else orderFault imFault Im.name l ⟨#[]⟩

theorem im_ident {i : Im} (h : imFault i = 0) : identOk i.name = true := by
  unfold imFault at h
  by_cases hi : identOk i.name = true
  · exact hi
  · rw [if_neg hi] at h
    cases h

def ImIs (S : Nat → Prop) (w : World) (i : Im) (v : Value) : Prop := ∃ vt vf, v = .agg #[.string i.name, .bool i.there, vt, vf] ∧ i.name.size ≤ maxLen ∧ FcCs S w i.face vt vf
theorem ImIs.keep {S S' : Nat → Prop} {w w' : World} (hk : Keeps S S' w w') {i : Im} {v : Value} (h : ImIs S w i v) : ImIs S' w' i v := by
  obtain ⟨vt, vf, rfl, h1, h2⟩ := h
  exact ⟨vt, vf, rfl, h1, h2.keep hk⟩
theorem imIs_at {S : Nat → Prop} {w : World} {i : Im} {b o : Nat} (h : ImAt S w i b o) : ∃ a n cap a2 n2 cap2, w.cell? ⟨b, o, none⟩ = some (.string i.name) ∧ w.cell? ⟨b, o + 1, none⟩ = some (.bool i.there) ∧ w.cell? ⟨b, o + 2, none⟩ = some (.slice a n cap) ∧ w.cell? ⟨b, o + 3, none⟩ = some (.slice a2 n2 cap2) ∧ ImIs S w i (.agg #[.string i.name, .bool i.there, .slice a n cap, .slice a2 n2 cap2]) := by
  obtain ⟨⟨h0, z0⟩, h1, vt, vf, h2, h3, h4⟩ := h
  obtain ⟨a, n, cap, rfl⟩ := h4.1.slice
  obtain ⟨a2, n2, cap2, rfl⟩ := h4.2.slice
  exact ⟨a, n, cap, a2, n2, cap2, h0, h1, h2, h3, _, _, rfl, z0, h4⟩

end Go.Proofs.YtcpnfkeoajeodaaGreatDoor

/- What face.CheckImports and the reference's ImportsFault answer: the first thing that is wrong with a list of imports. -/
namespace Go.Proofs.YtcpnfkeoajeodaaGreatDoor
open Go.RowKit
set_option maxRecDepth 100000

set_option maxHeartbeats 8000000 in
set_option maxRecDepth 100000 in
theorem importsFault_any (S : Nat → Prop) (l : List Im) (v : Value) (w : World) (hS : ∀ b, S b → b < w.heap.size) (hv : SlAt S (ImAt S w) 4 l v) :
    Calls Tryz.prog 9 #[v] w fun e w' => e = .returned (.int .i64 (imsFault l)) ∧ Below w.heap.size w w' := by
  have HE : Hid (imsFault l = if 24 < (l.length : Int) then 1 else orderFault imFault Im.name l ⟨#[]⟩) := rfl
  have HV := veil hv
  have hlen := hv.len
  unfold maxLen at hlen
  obtain ⟨a, cap, rfl⟩ := hv.is
  clear hv
  generalize imsFault l = r at *
  by_cases h24 : 24 < (l.length : Int)
  · have HR : Hid (r = 1) := HE.out.trans (if_pos h24)
    clear HE HV
    go_enter Tryz.func9, Tryz.ntmps9
    go_wp2_with fail
    go_ret
    exact ⟨by rw [HR.out]; rfl, Below.refl _ _⟩
  have HE1 : Hid (r = orderFault imFault Im.name l ⟨#[]⟩) := HE.out.trans (if_neg h24)
  clear HE
  go_enter Tryz.func9, Tryz.ntmps9
  go_wp2_with fail
  clear h24
  go_loopw [3] (fun i wr => ∃ j : Nat, j ≤ l.length ∧ i = .int .i64 j ∧ orderFault imFault Im.name l ⟨#[]⟩ = orderFault imFault Im.name (l.drop j) (aheadOf Im.name l j) ∧ Below w.heap.size w wr) (fun i _ => l.length - (intOf i).toNat)
  case atStart => exact ⟨0, Nat.zero_le _, rfl, rfl, Below.refl _ _⟩
  case round =>
    obtain ⟨j, hj, rfl, hq, hbw⟩ := hrel
    have HQ := veil hq
    clear hq
    have HBW := veil hbw
    by_cases hlt : j < l.length
    · have hlt' : (j : Int) < (l.length : Int) := by omega
      have hj0 : (0 : Int) ≤ (j : Int) := by omega
      obtain ⟨_, b, off, rfl, hb, hat⟩ := HV.out.at hlt
      have hbk := hS b hb
      obtain ⟨p1, p3, q1, q3, a0, a1, a2, a3, m0, hcs⟩ : ∃ p1 p3 q1 q3, w.cell? ⟨b, off + j * 4, none⟩ = some (.string l[j].name) ∧ w.cell? ⟨b, off + j * 4 + 1, none⟩ = some (.bool l[j].there) ∧ w.cell? ⟨b, off + j * 4 + 2, none⟩ = some (.slice p1 l[j].face.types.length p3) ∧ w.cell? ⟨b, off + j * 4 + 3, none⟩ = some (.slice q1 l[j].face.funcs.length q3) ∧ l[j].name.size ≤ maxLen ∧ FcCs S w l[j].face (.slice p1 l[j].face.types.length p3) (.slice q1 l[j].face.funcs.length q3) := by
        obtain ⟨⟨h0, z0⟩, h1, vt, vf, h2, h3, h4⟩ := hat
        obtain ⟨a, cap, rfl⟩ := h4.1.is
        obtain ⟨a2, cap2, rfl⟩ := h4.2.is
        exact ⟨a, cap, a2, cap2, h0, h1, h2, h3, z0, h4⟩
      have HCell : Hid (∀ W, Below w.heap.size w W → W.cell? ⟨b, off + j * 4, none⟩ = some (.string l[j].name) ∧ W.cell? ⟨b, off + j * 4 + 1, none⟩ = some (.bool l[j].there) ∧ W.cell? ⟨b, off + j * 4 + 2, none⟩ = some (.slice p1 l[j].face.types.length p3) ∧ W.cell? ⟨b, off + j * 4 + 3, none⟩ = some (.slice q1 l[j].face.funcs.length q3)) := fun W h =>
        ⟨(h.cell (p := ⟨b, off + j * 4, none⟩) hbk).trans a0, (h.cell (p := ⟨b, off + j * 4 + 1, none⟩) hbk).trans a1, (h.cell (p := ⟨b, off + j * 4 + 2, none⟩) hbk).trans a2, (h.cell (p := ⟨b, off + j * 4 + 3, none⟩) hbk).trans a3⟩
      have HI : Hid (∀ W, Calls Tryz.prog 10 #[.string l[j].name] W fun e w' => e = .returned (.bool (identOk l[j].name)) ∧ W = w') := fun W => nameMay_any _ m0 W
      have HF : Hid (∀ W, Below w.heap.size w W → Calls Tryz.prog 5 #[.agg #[.slice p1 l[j].face.types.length p3, .slice q1 l[j].face.funcs.length q3]] W fun e w' => e = .returned (.int .i64 (fcFault l[j].face)) ∧ Below W.heap.size W w') := fun W hW =>
        faceFault_any S _ _ W (fun b hb => Nat.lt_of_lt_of_le (hS b hb) hW.size) ⟨_, _, rfl, hcs.keep (Keeps.below hW hS)⟩
      have HIm : Hid (imFault l[j] = if identOk l[j].name = true then (if fcFault l[j].face = 0 then bad4 (l[j].there || (((l[j].face.types.length : Int) == 0) && ((l[j].face.funcs.length : Int) == 0))) else fcFault l[j].face) else 4) := rfl
      have HNo : Hid (imFault l[j] ≠ 0 → r = imFault l[j]) := fun h => HE1.out.trans (HQ.out.trans (order_bad hlt h))
      have HYes : Hid (imFault l[j] = 0 → (j = 0 → orderFault imFault Im.name l ⟨#[]⟩ = orderFault imFault Im.name (l.drop (j + 1)) (aheadOf Im.name l (j + 1))) ∧ (∀ h0 : 0 < j, (leB l[j].name (l[j - 1]'(by omega)).name = true → r = 7) ∧ (leB l[j].name (l[j - 1]'(by omega)).name = false → orderFault imFault Im.name l ⟨#[]⟩ = orderFault imFault Im.name (l.drop (j + 1)) (aheadOf Im.name l (j + 1))))) := fun hf0 => by
        refine ⟨fun h0 => ?_, fun h0 => ⟨fun hle => ?_, fun hle => ?_⟩⟩
        · rw [ahead_succ hlt, HQ.out]
          refine order_on hlt hf0 ?_
          subst h0
          exact gt_empty (im_ident hf0)
        · exact HE1.out.trans (HQ.out.trans (order_low hlt hf0 (by rw [ahead_prev h0 hlt, gt_not_le, hle]; rfl)))
        · rw [ahead_succ hlt, HQ.out]
          exact order_on hlt hf0 (by rw [ahead_prev h0 hlt, gt_not_le, hle]; rfl)
      have HPrev : Hid (∀ (h0 : 0 < j) W, Below w.heap.size w W → W.cell? ⟨b, off + (j - 1) * 4, none⟩ = some (.string (l[j - 1]'(by omega)).name)) := fun h0 W hW => by
        obtain ⟨_, b', off', e, hb', hat'⟩ := HV.out.at (k := j - 1) (by omega)
        injection e with e; injection e with e1 e2; subst e1 e2
        exact (hW.cell (p := ⟨b, off + (j - 1) * 4, none⟩) hbk).trans hat'.1.1
      clear a0 a1 a2 a3 hcs hat m0 HV HQ HE1
      obtain ⟨d0, d1, d2, d3⟩ := HCell.out _ hbw
      clear hbw
      generalize imFault l[j] = im at *
      generalize fcFault l[j].face = q at *
      generalize l[j].face.types.length = n at *
      generalize l[j].face.funcs.length = m at *
      generalize l[j].name = x at *
      generalize l[j].there = th at *
      cases hi : identOk x with
      | false =>
        rw [hi] at HI
        have hv4 : im = 4 := HIm.out.trans (if_neg (by rw [hi]; simp))
        have HR := veil (HNo.out (by rw [hv4]; decide))
        have HV4 := veil hv4
        clear HNo HYes HIm hi HPrev hv4
        go_wp2_with fail
        refine (HI.out _).mono ?_
        rintro e w1 ⟨rfl, rfl⟩
        go_wp2_with fail
        go_ret
        exact ⟨by rw [HR.out, HV4.out]; rfl, HBW.out⟩
      | true =>
        rw [hi] at HI
        have HI1 : Hid (im = if q = 0 then bad4 (th || (((n : Int) == 0) && ((m : Int) == 0))) else q) := HIm.out.trans (if_pos hi)
        clear HIm hi
        by_cases hq : q = 0
        case neg =>
          have hv4 : im = q := HI1.out.trans (if_neg hq)
          have HR := veil (HNo.out (by rw [hv4]; exact hq))
          have HV4 := veil hv4
          have hq' : (q != 0) = true := by simpa using hq
          clear HNo HYes HI1 HPrev hv4 hq
          go_wp2_with fail
          refine (HI.out _).mono ?_
          rintro e w1 ⟨rfl, rfl⟩
          go_wp2_with fail
          refine (HF.out _ HBW.out).mono ?_
          rintro e w2 ⟨rfl, hb2⟩
          have HB2 := veil (HBW.out.trans (hb2.mono HBW.out.size))
          clear hb2
          go_wp2_with fail
          go_ret
          exact ⟨by rw [HR.out, HV4.out]; rfl, HB2.out⟩
        have HI2 : Hid (im = bad4 (th || (((n : Int) == 0) && ((m : Int) == 0)))) := HI1.out.trans (if_pos hq)
        subst hq
        clear HI1
        have hcase : (th = true) ∨ (th = false ∧ 0 < n) ∨ (th = false ∧ n = 0 ∧ 0 < m) ∨ (th = false ∧ n = 0 ∧ m = 0) := by
          cases th with
          | true => exact .inl rfl
          | false =>
            by_cases hn : 0 < n
            · exact .inr (.inl ⟨rfl, hn⟩)
            · by_cases hm : 0 < m
              · exact .inr (.inr (.inl ⟨rfl, by omega, hm⟩))
              · exact .inr (.inr (.inr ⟨rfl, by omega, by omega⟩))
        have HBadIf : Hid (th = false → ((n : Int) == 0 && (m : Int) == 0) = false → r = 4) := fun h1 h2 => by
          have hv4 : im = 4 := by rw [HI2.out, h1, h2]; rfl
          rw [HNo.out (by rw [hv4]; decide), hv4]
        have HOkIf : Hid ((th || ((n : Int) == 0 && (m : Int) == 0)) = true → im = 0) := fun h => by rw [HI2.out, h]; rfl
        clear HI2 HNo
        rcases hcase with rfl | ⟨rfl, hn⟩ | ⟨rfl, rfl, hm⟩ | ⟨rfl, rfl, rfl⟩
        case' inr.inl =>
          have hn' : (0 : Int) < (n : Int) := by omega
          have HR := veil (HBadIf.out rfl (by
            have : ((n : Int) == 0) = false := by simp; omega
            rw [this]; rfl))
          clear HBadIf HOkIf HYes HPrev
          go_wp2_with fail
          refine (HI.out _).mono ?_
          rintro e w1 ⟨rfl, rfl⟩
          go_wp2_with fail
          refine (HF.out _ HBW.out).mono ?_
          rintro e w2 ⟨rfl, hb2⟩
          have hb3 := HBW.out.trans (hb2.mono HBW.out.size)
          obtain ⟨g0, g1, g2, g3⟩ := HCell.out _ hb3
          have HB2 := veil hb3
          clear hb2 hb3
          go_wp2_with fail
          go_ret
          exact ⟨by rw [HR.out]; rfl, HB2.out⟩
        case' inr.inr.inl =>
          have hm' : (0 : Int) < (m : Int) := by omega
          have HR := veil (HBadIf.out rfl (by
            have : ((m : Int) == 0) = false := by simp; omega
            rw [this]; rfl))
          clear HBadIf HOkIf HYes HPrev
          go_wp2_with fail
          refine (HI.out _).mono ?_
          rintro e w1 ⟨rfl, rfl⟩
          go_wp2_with fail
          refine (HF.out _ HBW.out).mono ?_
          rintro e w2 ⟨rfl, hb2⟩
          have hb3 := HBW.out.trans (hb2.mono HBW.out.size)
          obtain ⟨g0, g1, g2, g3⟩ := HCell.out _ hb3
          have HB2 := veil hb3
          clear hb2 hb3
          go_wp2_with fail
          go_ret
          exact ⟨by rw [HR.out]; rfl, HB2.out⟩
        all_goals
          have HY := veil (HYes.out (HOkIf.out rfl))
          clear HBadIf HOkIf HYes
          by_cases h0 : j = 0
          · have HY0 := veil (HY.out.1 h0)
            have hg : decide ((0 : Int) < (j : Int)) = false := by simp; omega
            have hgn : decide (0 < j) = false := by simp; omega
            clear HY HPrev h0
            go_wp2_with fail
            refine (HI.out _).mono ?_
            rintro e w1 ⟨rfl, rfl⟩
            go_wp2_with fail
            refine (HF.out _ HBW.out).mono ?_
            rintro e w2 ⟨rfl, hb2⟩
            have hb3 := HBW.out.trans (hb2.mono HBW.out.size)
            obtain ⟨g0, g1, g2, g3⟩ := HCell.out _ hb3
            have HDw : Hid (∀ n, Below w.heap.size w (w2.drewN n)) := fun n => below_drewN hb3 n
            clear hb2 hb3
            go_wp2_with fail
            go_quiet (fail)
            go_wp2_with fail
            exact ⟨⟨j + 1, by omega, by go_num, HY0.out, HDw.out _⟩, by simp [intOf]; omega⟩
          · have hpos : 0 < j := by omega
            have hg : decide ((0 : Int) < (j : Int)) = true := by simp; omega
            have hgi : (0 : Int) < (j : Int) := by omega
            have hm1 : (0 : Int) ≤ (j : Int) - 1 := by omega
            have hm2 : (j : Int) - 1 < (l.length : Int) := by omega
            have hm3 : ((j : Int) - 1).toNat = j - 1 := by omega
            have HY0 := veil (HY.out.2 hpos)
            have HP1 := veil (HPrev.out hpos)
            clear HY HPrev h0
            generalize (l[j - 1]'(by omega)).name = px at *
            cases hle : leB x px with
            | true =>
              have HR := veil (HY0.out.1 hle)
              have hle' : (Op.bytesLess x.toList px.toList || x.toList == px.toList) = true := hle
              clear HY0 hle
              go_wp2_with fail
              refine (HI.out _).mono ?_
              rintro e w1 ⟨rfl, rfl⟩
              go_wp2_with fail
              refine (HF.out _ HBW.out).mono ?_
              rintro e w2 ⟨rfl, hb2⟩
              have hb3 := HBW.out.trans (hb2.mono HBW.out.size)
              obtain ⟨g0, g1, g2, g3⟩ := HCell.out _ hb3
              have e0 := HP1.out _ hb3
              have HDw : Hid (∀ n, Below w.heap.size w (w2.drewN n)) := fun n => below_drewN hb3 n
              clear hb2 hb3
              go_wp2_with fail
              go_quiet (fail)
              go_wp2_with fail
              go_ret
              exact ⟨by rw [HR.out]; rfl, HDw.out _⟩
            | false =>
              have HR := veil (HY0.out.2 hle)
              have hle' : (Op.bytesLess x.toList px.toList || x.toList == px.toList) = false := hle
              clear HY0 hle
              go_wp2_with fail
              refine (HI.out _).mono ?_
              rintro e w1 ⟨rfl, rfl⟩
              go_wp2_with fail
              refine (HF.out _ HBW.out).mono ?_
              rintro e w2 ⟨rfl, hb2⟩
              have hb3 := HBW.out.trans (hb2.mono HBW.out.size)
              obtain ⟨g0, g1, g2, g3⟩ := HCell.out _ hb3
              have e0 := HP1.out _ hb3
              have HDw : Hid (∀ n, Below w.heap.size w (w2.drewN n)) := fun n => below_drewN hb3 n
              clear hb2 hb3
              go_wp2_with fail
              go_quiet (fail)
              go_wp2_with fail
              exact ⟨⟨j + 1, by omega, by go_num, HR.out, HDw.out _⟩, by simp [intOf]; omega⟩
    · have hnl : ¬ (j : Int) < (l.length : Int) := by omega
      have HR : Hid (r = 0) := by
        show _ = _
        rw [HE1.out, HQ.out, order_end (by omega)]
      clear HQ HV HE1 hbw
      go_wp2_with fail
      go_ret
      exact ⟨by rw [HR.out]; rfl, HBW.out⟩

end Go.Proofs.YtcpnfkeoajeodaaGreatDoor
