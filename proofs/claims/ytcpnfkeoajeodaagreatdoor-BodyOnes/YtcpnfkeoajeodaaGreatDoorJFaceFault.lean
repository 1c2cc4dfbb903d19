/- What the reference's FaceFault answers: the first thing that is wrong with a face. -/
import Derived.Test.YtcpnfkeoajeodaaGreatDoorJFe
import Derived.Test.YtcpnfkeoajeodaaGreatDoorJFaceRef
import Derived.BigQuiet
import Derived.Deep.QuietTactic
namespace Go.Proofs.YtcpnfkeoajeodaaGreatDoor
open Go.RowKit
set_option maxRecDepth 100000

theorem ident_size {s : ByteArray} (h : identOk s = true) : 0 < s.size := by
  have h1 : wordOk s = true := by
    unfold identOk at h
    simp only [Bool.and_eq_true] at h
    exact h.1
  by_cases hs : 1 ≤ s.size ∧ s.size ≤ 8
  · omega
  · rw [word_long s hs] at h1
    cases h1

theorem gt_empty {s : ByteArray} (h : identOk s = true) : gtB s ⟨#[]⟩ = true := by
  have hz := ident_size h
  have h0 : s.toList ≠ [] := by
    rw [Lib.toList_data]
    intro e
    have h1 := congrArg List.length e
    rw [Array.length_toList] at h1
    have h2 : s.size = 0 := h1
    omega
  have he : (⟨#[]⟩ : ByteArray).toList = [] := by rw [Lib.toList_data]
  unfold gtB
  rw [he]
  cases hs : s.toList with
  | nil => exact absurd hs h0
  | cons a r => rfl

def leB (s p : ByteArray) : Bool := Op.bytesLess s.toList p.toList || s.toList == p.toList
theorem gt_not_le (s p : ByteArray) : gtB s p = !leB s p := by unfold gtB leB; rw [Bool.not_or]

theorem kn_ident {k : Kn} (h : knOk k = true) : identOk k.name = true := by
  unfold knOk at h
  simp only [Bool.and_eq_true] at h
  exact h.1
theorem sg_ident {g : Sg} (h : sgOk g = true) : identOk g.name = true := by
  unfold sgOk at h
  simp only [Bool.and_eq_true] at h
  exact h.1

/-- the name ahead of the j-th. -/
def aheadOf {α : Type} (name : α → ByteArray) (l : List α) (j : Nat) : ByteArray := if j = 0 then ⟨#[]⟩ else ((l[j - 1]?).map name).getD ⟨#[]⟩

theorem ahead_zero {α : Type} {name : α → ByteArray} {l : List α} : aheadOf name l 0 = ⟨#[]⟩ := rfl
theorem ahead_succ {α : Type} {name : α → ByteArray} {l : List α} {j : Nat} (h : j < l.length) : aheadOf name l (j + 1) = name l[j] := by
  unfold aheadOf
  rw [if_neg (by omega), Nat.add_sub_cancel, List.getElem?_eq_getElem h]
  rfl
theorem ahead_prev {α : Type} {name : α → ByteArray} {l : List α} {j : Nat} (h0 : 0 < j) (h : j < l.length) : aheadOf name l j = name (l[j - 1]'(by omega)) := by
  unfold aheadOf
  rw [if_neg (by omega), List.getElem?_eq_getElem (by omega)]
  rfl

theorem below_drewN {B : Nat} {a w : World} (h : Below B a w) (n : Nat) : Below B a (w.drewN n) := ⟨h.os, h.tape, h.output, h.size, h.block⟩

theorem bad4_ne : bad4 false ≠ 0 := by decide

set_option maxHeartbeats 8000000 in
set_option maxRecDepth 100000 in
theorem faceFault_any (S : Nat → Prop) (f : Fc) (v : Value) (w : World) (hS : ∀ b, S b → b < w.heap.size) (hv : FcIs S w f v) :
    Calls Tryz.prog 5 #[v] w fun e w' => e = .returned (.int .i64 (fcFault f)) ∧ Below w.heap.size w w' := by
  obtain ⟨vt, vf, rfl, ht, hf⟩ := hv
  have HE : Hid (fcFault f = if 24 < wrap64 ((f.types.length : Int) + f.funcs.length) then 1 else if orderFault knFault Kn.name f.types ⟨#[]⟩ = 0 then orderFault sgFault Sg.name f.funcs ⟨#[]⟩ else orderFault knFault Kn.name f.types ⟨#[]⟩) := rfl
  have HT := veil ht
  have HF := veil hf
  have h1 := ht.len
  have h2 := hf.len
  unfold maxLen at h1 h2
  obtain ⟨a, cap, rfl⟩ := ht.is
  obtain ⟨a2, cap2, rfl⟩ := hf.is
  clear ht hf
  obtain ⟨w2, hwe, hs2, p0, p1, hbel⟩ : ∃ w2, w.alloc (.cells #[.slice a f.types.length cap, .slice a2 f.funcs.length cap2] 31) = w2 ∧ w2.heap.size = w.heap.size + 1 ∧
      w2.cell? ⟨w.heap.size, 0, none⟩ = some (.slice a f.types.length cap) ∧ w2.cell? ⟨w.heap.size, 1, none⟩ = some (.slice a2 f.funcs.length cap2) ∧ Below w.heap.size w w2 :=
    ⟨_, rfl, by simp, by simp [go_sem], by simp [go_sem], (Below.refl _ _).alloc (Nat.le_refl _) _⟩
  generalize hr : fcFault f = r at *
  by_cases h24 : 24 < wrap64 ((f.types.length : Int) + f.funcs.length)
  · have HE' : Hid (r = 1) := HE.out.trans (if_pos h24)
    have HB := veil (hwe ▸ hbel)
    clear HE HT HF hwe hbel p0 p1 hr
    go_enter Tryz.func5, Tryz.ntmps5
    go_wp2_with fail
    go_ret
    exact ⟨by rw [HE'.out]; rfl, HB.out⟩
  have HE1 : Hid (r = if orderFault knFault Kn.name f.types ⟨#[]⟩ = 0 then orderFault sgFault Sg.name f.funcs ⟨#[]⟩ else orderFault knFault Kn.name f.types ⟨#[]⟩) := HE.out.trans (if_neg h24)
  have HWe := veil hwe
  have HP0 := veil p0
  have HP1 := veil p1
  have HBel := veil hbel
  clear HE hwe p0 p1 hbel hr
  go_enter Tryz.func5, Tryz.ntmps5
  go_wp2_with fail
  rw [HWe.out]
  clear HWe h24
  go_loopw [3] (fun i wr => ∃ j : Nat, j ≤ f.types.length ∧ i = .int .i64 j ∧ orderFault knFault Kn.name f.types ⟨#[]⟩ = orderFault knFault Kn.name (f.types.drop j) (aheadOf Kn.name f.types j) ∧ Below (w.heap.size + 1) w2 wr) (fun i _ => f.types.length - (intOf i).toNat)
  case atStart => exact ⟨0, Nat.zero_le _, rfl, rfl, Below.refl _ _⟩
  case round =>
    obtain ⟨j, hj, rfl, hq, hbl⟩ := hrel
    have HQ := veil hq
    clear hq
    have hbw := HBel.out.trans (hbl.mono (show w.heap.size ≤ w.heap.size + 1 by omega))
    have HBL := veil hbl
    have HBW := veil hbw
    have c0 := (hbl.cell (p := ⟨w.heap.size, 0, none⟩) (by show w.heap.size < _; omega)).trans HP0.out
    clear hbl
    by_cases hlt : j < f.types.length
    · have hlt' : (j : Int) < (f.types.length : Int) := by omega
      have hj0 : (0 : Int) ≤ (j : Int) := by omega
      obtain ⟨_, b, off, rfl, hb, ⟨a0, m0⟩, a1, m1⟩ := HT.out.at hlt
      have hbk := hS b hb
      have d0 := (hbw.cell (p := ⟨b, off + j * 2, none⟩) hbk).trans a0
      have d1 := (hbw.cell (p := ⟨b, off + j * 2 + 1, none⟩) hbk).trans a1
      have HI : Hid (∀ W, Calls Tryz.prog 10 #[.string f.types[j].name] W fun e w' => e = .returned (.bool (identOk f.types[j].name)) ∧ W = w') := fun W => nameMay_any _ m0 W
      have HK : Hid (∀ W, Calls Tryz.prog 11 #[.string f.types[j].is] W fun e w' => e = .returned (.int .i64 (kindErr f.types[j].is)) ∧ W = w') := fun W => kindFault_any _ m1 W
      have HO : Hid (∀ W, Calls Tryz.prog 12 #[.string f.types[j].is] W fun e w' => e = .returned (.bool (hasVar f.types[j].is)) ∧ W = w') := fun W => isOpen_any _ m1 W
      have HOk : Hid (knOk f.types[j] = (identOk f.types[j].name && ((kindErr f.types[j].is == 0) && !hasVar f.types[j].is))) := rfl
      have HNo : Hid (knOk f.types[j] = false → r = 4) := fun h => by
        have hf4 : knFault f.types[j] = 4 := by unfold knFault; rw [h]; rfl
        have := HQ.out.trans (order_bad hlt (by rw [hf4]; decide))
        rw [hf4] at this
        rw [HE1.out, this]; rfl
      have HYes : Hid (knOk f.types[j] = true → (j = 0 → orderFault knFault Kn.name f.types ⟨#[]⟩ = orderFault knFault Kn.name (f.types.drop (j + 1)) (aheadOf Kn.name f.types (j + 1))) ∧ (∀ h0 : 0 < j, (leB f.types[j].name (f.types[j - 1]'(by omega)).name = true → r = 7) ∧ (leB f.types[j].name (f.types[j - 1]'(by omega)).name = false → orderFault knFault Kn.name f.types ⟨#[]⟩ = orderFault knFault Kn.name (f.types.drop (j + 1)) (aheadOf Kn.name f.types (j + 1))))) := fun h => by
        have hf0 : knFault f.types[j] = 0 := by unfold knFault; rw [h]; rfl
        refine ⟨fun h0 => ?_, fun h0 => ⟨fun hle => ?_, fun hle => ?_⟩⟩
        · rw [ahead_succ hlt, HQ.out]
          refine order_on hlt hf0 ?_
          subst h0
          exact gt_empty (kn_ident h)
        · have := HQ.out.trans (order_low hlt hf0 (by rw [ahead_prev h0 hlt, gt_not_le, hle]; rfl))
          rw [HE1.out, this]; rfl
        · rw [ahead_succ hlt, HQ.out]
          exact order_on hlt hf0 (by rw [ahead_prev h0 hlt, gt_not_le, hle]; rfl)
      have HPrev : Hid (∀ h0 : 0 < j, wr.cell? ⟨b, off + (j - 1) * 2, none⟩ = some (.string (f.types[j - 1]'(by omega)).name)) := fun h0 => by
        obtain ⟨_, b', off', e, hb', ⟨a0', _⟩, _⟩ := HT.out.at (k := j - 1) (by omega)
        injection e with e; injection e with e1 e2; subst e1 e2
        exact (hbw.cell (p := ⟨b, off + (j - 1) * 2, none⟩) hbk).trans a0'
      have HDr : Hid (∀ n, Below (w.heap.size + 1) w2 (wr.drewN n)) := fun n => below_drewN HBL.out n
      have HDw : Hid (∀ n, Below w.heap.size w (wr.drewN n)) := fun n => below_drewN HBW.out n
      clear a0 a1 m0 m1 HT HF hbw HP0 HP1 HBel HQ HE1
      generalize knOk f.types[j] = ok at *
      generalize f.types[j].name = x at *
      generalize f.types[j].is = y at *
      cases hi : identOk x with
      | false =>
        rw [hi] at HI
        have HR := veil (HNo.out (by rw [HOk.out, hi]; rfl))
        clear HNo HYes HOk hi HPrev
        go_wp2_with fail
        refine (HI.out _).mono ?_
        rintro e w1 ⟨rfl, rfl⟩
        go_wp2_with fail
        go_ret
        exact ⟨by rw [HR.out]; rfl, HBW.out⟩
      | true =>
        rw [hi] at HI
        by_cases hk : kindErr y = 0
        case neg =>
          have hk' : (kindErr y == 0) = false := by simpa using hk
          have hk2 : (kindErr y != 0) = true := by simpa using hk
          have HR := veil (HNo.out (by rw [HOk.out, hi, hk']; rfl))
          clear HNo HYes HOk hi HPrev hk hk'
          go_wp2_with fail
          refine (HI.out _).mono ?_
          rintro e w1 ⟨rfl, rfl⟩
          go_wp2_with fail
          refine (HK.out _).mono ?_
          rintro e w1 ⟨rfl, rfl⟩
          go_wp2_with fail
          go_ret
          exact ⟨by rw [HR.out]; rfl, HBW.out⟩
        have hk' : (kindErr y == 0) = true := by simpa using hk
        rw [hk] at HK
        cases ho : hasVar y with
        | true =>
          rw [ho] at HO
          have HR := veil (HNo.out (by rw [HOk.out, hi, hk', ho]; rfl))
          clear HNo HYes HOk hi HPrev hk hk' ho
          go_wp2_with fail
          refine (HI.out _).mono ?_
          rintro e w1 ⟨rfl, rfl⟩
          go_wp2_with fail
          refine (HK.out _).mono ?_
          rintro e w1 ⟨rfl, rfl⟩
          go_wp2_with fail
          refine (HO.out _).mono ?_
          rintro e w1 ⟨rfl, rfl⟩
          go_wp2_with fail
          go_ret
          exact ⟨by rw [HR.out]; rfl, HBW.out⟩
        | false =>
          rw [ho] at HO
          have HY := veil (HYes.out (by rw [HOk.out, hi, hk', ho]; rfl))
          clear HNo HYes HOk hi hk hk' ho
          by_cases h0 : j = 0
          · have HY0 := veil (HY.out.1 h0)
            have hg : decide ((0 : Int) < (j : Int)) = false := by simp; omega
            have hgn : decide (0 < j) = false := by simp; omega
            clear HY HPrev h0
            go_wp2_with fail
            refine (HI.out _).mono ?_
            rintro e w1 ⟨rfl, rfl⟩
            go_wp2_with fail
            refine (HK.out _).mono ?_
            rintro e w1 ⟨rfl, rfl⟩
            go_wp2_with fail
            refine (HO.out _).mono ?_
            rintro e w1 ⟨rfl, rfl⟩
            go_wp2_with fail
            go_quiet (fail)
            go_wp2_with fail
            exact ⟨⟨j + 1, by omega, by go_num, HY0.out, HDr.out _⟩, by simp [intOf]; omega⟩
          · have hpos : 0 < j := by omega
            have hg : decide ((0 : Int) < (j : Int)) = true := by simp; omega
            have hgi : (0 : Int) < (j : Int) := by omega
            have hm1 : (0 : Int) ≤ (j : Int) - 1 := by omega
            have hm2 : (j : Int) - 1 < (f.types.length : Int) := by omega
            have hm3 : ((j : Int) - 1).toNat = j - 1 := by omega
            have e0 := HPrev.out hpos
            have HY0 := veil (HY.out.2 hpos)
            clear HY HPrev h0
            generalize (f.types[j - 1]'(by omega)).name = px at *
            cases hle : leB x px with
            | true =>
              have HR := veil (HY0.out.1 hle)
              have hle' : (Op.bytesLess x.toList px.toList || x.toList == px.toList) = true := hle
              clear HY0 hle
              go_wp2_with fail
              refine (HI.out _).mono ?_
              rintro e w1 ⟨rfl, rfl⟩
              go_wp2_with fail
              refine (HK.out _).mono ?_
              rintro e w1 ⟨rfl, rfl⟩
              go_wp2_with fail
              refine (HO.out _).mono ?_
              rintro e w1 ⟨rfl, rfl⟩
              go_wp2_with fail
              go_quiet (fail)
              go_wp2_with fail
              go_ret
              exact ⟨by rw [HR.out]; rfl, HDw.out _⟩
            | false =>
              have HR := veil (HY0.out.2 hle)
              have hle' : (Op.bytesLess x.toList px.toList || x.toList == px.toList) = false := hle
              clear HY0 hle
              go_wp2_with fail
              refine (HI.out _).mono ?_
              rintro e w1 ⟨rfl, rfl⟩
              go_wp2_with fail
              refine (HK.out _).mono ?_
              rintro e w1 ⟨rfl, rfl⟩
              go_wp2_with fail
              refine (HO.out _).mono ?_
              rintro e w1 ⟨rfl, rfl⟩
              go_wp2_with fail
              go_quiet (fail)
              go_wp2_with fail
              exact ⟨⟨j + 1, by omega, by go_num, HR.out, HDr.out _⟩, by simp [intOf]; omega⟩
    · have hnl : ¬ (j : Int) < (f.types.length : Int) := by omega
      have HE2 : Hid (r = orderFault sgFault Sg.name f.funcs ⟨#[]⟩) := by
        show _ = _
        rw [HE1.out, HQ.out, order_end (by omega)]
        rfl
      clear HQ HT HE1
      go_wp2_with fail
      clear c0 hnl hlt hj hbw HP0 HBW
      rename World => wo
      go_loopw [4] (fun i wr => ∃ j : Nat, j ≤ f.funcs.length ∧ i = .int .i64 j ∧ orderFault sgFault Sg.name f.funcs ⟨#[]⟩ = orderFault sgFault Sg.name (f.funcs.drop j) (aheadOf Sg.name f.funcs j) ∧ Below (w.heap.size + 1) w2 wr) (fun i _ => f.funcs.length - (intOf i).toNat)
      case atStart => exact ⟨0, Nat.zero_le _, rfl, rfl, HBL.out⟩
      case round =>
        obtain ⟨j, hj, rfl, hq, hbl⟩ := hrel
        rename World => wo2
        have HQ := veil hq
        clear hq
        have hbw := HBel.out.trans (hbl.mono (show w.heap.size ≤ w.heap.size + 1 by omega))
        have HBW := veil hbw
        have hszr := hbl.size
        have c0 := (hbl.cell (p := ⟨w.heap.size, 1, none⟩) (by show w.heap.size < _; omega)).trans HP1.out
        have HBl := veil hbl
        clear hbl HBL
        by_cases hlt : j < f.funcs.length
        · have hlt' : (j : Int) < (f.funcs.length : Int) := by omega
          obtain ⟨_, b, off, rfl, hb, hat⟩ := HF.out.at hlt
          have hbk := hS b hb
          have hbr : b < wo2.heap.size := by omega
          have hrw : w.heap.size < wo2.heap.size := by omega
          have m0 := hat.1.2
          have m1 := hat.2.2.2
          obtain ⟨p1, p3, a0, a1, a2', hps⟩ := sg_cells hat
          have d0 := (hbw.cell (p := ⟨b, off + j * 3, none⟩) hbk).trans a0
          have d1 := (hbw.cell (p := ⟨b, off + j * 3 + 1, none⟩) hbk).trans a1
          have d2 := (hbw.cell (p := ⟨b, off + j * 3 + 2, none⟩) hbk).trans a2'
          have HPS := veil hps
          have hpl := hps.len
          unfold maxLen at hpl
          have HI : Hid (∀ W, Calls Tryz.prog 10 #[.string f.funcs[j].name] W fun e w' => e = .returned (.bool (identOk f.funcs[j].name)) ∧ W = w') := fun W => nameMay_any _ m0 W
          have HK : Hid (∀ W, Calls Tryz.prog 11 #[.string f.funcs[j].result] W fun e w' => e = .returned (.int .i64 (kindErr f.funcs[j].result)) ∧ W = w') := fun W => kindFault_any _ m1 W
          have HOk : Hid (sgOk f.funcs[j] = (identOk f.funcs[j].name && (decide (f.funcs[j].params.length ≤ 8) && ((kindErr f.funcs[j].result == 0) && f.funcs[j].params.all kindB)))) := rfl
          have HNo : Hid (sgOk f.funcs[j] = false → r = 4) := fun h => by
            have hf4 : sgFault f.funcs[j] = 4 := by unfold sgFault; rw [h]; rfl
            have := HQ.out.trans (order_bad hlt (by rw [hf4]; decide))
            rw [hf4] at this
            rw [HE2.out, this]
          have HYes : Hid (sgOk f.funcs[j] = true → (j = 0 → orderFault sgFault Sg.name f.funcs ⟨#[]⟩ = orderFault sgFault Sg.name (f.funcs.drop (j + 1)) (aheadOf Sg.name f.funcs (j + 1))) ∧ (∀ h0 : 0 < j, (leB f.funcs[j].name (f.funcs[j - 1]'(by omega)).name = true → r = 7) ∧ (leB f.funcs[j].name (f.funcs[j - 1]'(by omega)).name = false → orderFault sgFault Sg.name f.funcs ⟨#[]⟩ = orderFault sgFault Sg.name (f.funcs.drop (j + 1)) (aheadOf Sg.name f.funcs (j + 1))))) := fun h => by
            have hf0 : sgFault f.funcs[j] = 0 := by unfold sgFault; rw [h]; rfl
            refine ⟨fun h0 => ?_, fun h0 => ⟨fun hle => ?_, fun hle => ?_⟩⟩
            · rw [ahead_succ hlt, HQ.out]
              refine order_on hlt hf0 ?_
              subst h0
              exact gt_empty (sg_ident h)
            · have := HQ.out.trans (order_low hlt hf0 (by rw [ahead_prev h0 hlt, gt_not_le, hle]; rfl))
              rw [HE2.out, this]
            · rw [ahead_succ hlt, HQ.out]
              exact order_on hlt hf0 (by rw [ahead_prev h0 hlt, gt_not_le, hle]; rfl)
          obtain ⟨wb, hwb, hsb, g0, g1, hbb, hbbw, cb, hob⟩ : ∃ wb, wo2.alloc (.cells #[.string f.funcs[j].name, .slice p1 f.funcs[j].params.length p3, .string f.funcs[j].result] 44) = wb ∧ wb.heap.size = wo2.heap.size + 1 ∧
              wb.cell? ⟨wo2.heap.size, 0, none⟩ = some (.string f.funcs[j].name) ∧ wb.cell? ⟨wo2.heap.size, 1, none⟩ = some (.slice p1 f.funcs[j].params.length p3) ∧ Below (w.heap.size + 1) w2 wb ∧ Below w.heap.size w wb ∧
              wb.cell? ⟨w.heap.size, 1, none⟩ = some (.slice (some ⟨b, off, none⟩) f.funcs.length cap2) ∧ (∀ h0 : 0 < j, wb.cell? ⟨b, off + (j - 1) * 3, none⟩ = some (.string (f.funcs[j - 1]'(by omega)).name)) := by
            have hal : Below wo2.heap.size wo2 (wo2.alloc (.cells #[.string f.funcs[j].name, .slice p1 f.funcs[j].params.length p3, .string f.funcs[j].result] 44)) := (Below.refl _ _).alloc (Nat.le_refl _) _
            refine ⟨_, rfl, by simp, by simp [go_sem], by simp [go_sem], HBl.out.trans (hal.mono (by omega)), HBW.out.trans (hal.mono HBW.out.size), (hal.cell (p := ⟨w.heap.size, 1, none⟩) hrw).trans c0, fun h0 => ?_⟩
            obtain ⟨_, b', off', e, hb', hat'⟩ := HF.out.at (k := j - 1) (by omega)
            injection e with e; injection e with e1 e2; subst e1 e2
            exact (hal.cell (p := ⟨b, off + (j - 1) * 3, none⟩) hbr).trans ((hbw.cell (p := ⟨b, off + (j - 1) * 3, none⟩) hbk).trans hat'.1.1)
          have HWB := veil hwb
          have HG0 := veil g0
          have HG1 := veil g1
          have HBB := veil hbb
          have HBBW := veil hbbw
          have HCB := veil cb
          have HPrev := veil hob
          have HDr : Hid (∀ n, Below (w.heap.size + 1) w2 (wb.drewN n)) := fun n => below_drewN HBB.out n
          have HDw : Hid (∀ n, Below w.heap.size w (wb.drewN n)) := fun n => below_drewN HBBW.out n
          clear hwb g0 g1 hbb hbbw cb hob a0 a1 a2' hps hat m0 m1 hbw HP1 HF HBel HQ HE2 HBl HBW
          generalize sgOk f.funcs[j] = ok at *
          generalize f.funcs[j].name = x at *
          generalize f.funcs[j].result = y at *
          generalize f.funcs[j].params = ps at *
          have HCase : Hid ((identOk x = false ∧ (true || !ps.all kindB) = !ok) ∨ (identOk x = true ∧ (kindErr y != 0) = true ∧ (true || !ps.all kindB) = !ok) ∨ (identOk x = true ∧ kindErr y = 0 ∧ (decide ((8 : Int) < (ps.length : Int)) || !ps.all kindB) = !ok)) := by
            show _ ∨ _
            rw [HOk.out]
            cases hi : identOk x with
            | false => exact .inl ⟨rfl, rfl⟩
            | true =>
              by_cases hk : kindErr y = 0
              · refine .inr (.inr ⟨rfl, hk, ?_⟩)
                rw [hk]
                by_cases h8 : ps.length ≤ 8
                · have : ¬ (8 : Int) < (ps.length : Int) := by omega
                  simp [h8, this]
                · have : (8 : Int) < (ps.length : Int) := by omega
                  simp [h8, this]
              · have h2 : (kindErr y == 0) = false := by simpa using hk
                refine .inr (.inl ⟨rfl, by simpa using hk, ?_⟩)
                rw [h2]; simp
          clear HOk
          rcases HCase.out with ⟨hi, hbad⟩ | ⟨hi, hk, hbad⟩ | ⟨hi, hk, hbad⟩
          case' inl =>
            rw [hi] at HI
            have HB0 := veil hbad
            clear hbad HCase hi
            go_wp2_with fail
            refine (HI.out _).mono ?_
            rintro e w1 ⟨rfl, rfl⟩
            go_wp2_with fail
          case' inr.inl =>
            rw [hi] at HI
            have HB0 := veil hbad
            clear hbad HCase hi
            go_wp2_with fail
            refine (HI.out _).mono ?_
            rintro e w1 ⟨rfl, rfl⟩
            go_wp2_with fail
            refine (HK.out _).mono ?_
            rintro e w1 ⟨rfl, rfl⟩
            go_wp2_with fail
          case' inr.inr =>
            rw [hi] at HI
            rw [hk] at HK
            have HB0 := veil hbad
            clear hbad HCase hi hk
            go_wp2_with fail
            refine (HI.out _).mono ?_
            rintro e w1 ⟨rfl, rfl⟩
            go_wp2_with fail
            refine (HK.out _).mono ?_
            rintro e w1 ⟨rfl, rfl⟩
            go_wp2_with fail
          all_goals
            rw [HWB.out]
            clear HWB d0 d1 d2 c0 HI HK
            go_loopw [6, 7] (fun bv i wr => ∃ (k : Nat) (bk : Bool), k ≤ ps.length ∧ bv = .bool bk ∧ i = .int .i64 k ∧ (bk || !(ps.drop k).all kindB) = !ok ∧ wr = wb) (fun _ i _ => ps.length - (intOf i).toNat)
            case atStart => exact ⟨0, _, Nat.zero_le _, rfl, rfl, HB0.out, rfl⟩
            case round =>
              obtain ⟨k, bk, hk, rfl, rfl, hq, rfl⟩ := hrel
              have HQ := veil hq
              clear hq HB0
              have g1 := HG1.out
              by_cases hlk : k < ps.length
              · have hlk' : (k : Int) < (ps.length : Int) := by omega
                obtain ⟨_, b3, off3, rfl, hb3, a0, m0⟩ := HPS.out.at hlk
                rw [Nat.mul_one] at a0
                have d0 := (HBBW.out.cell (p := ⟨b3, off3 + k, none⟩) (hS b3 hb3)).trans a0
                have HK : Hid (∀ W, Calls Tryz.prog 11 #[.string ps[k]] W fun e w' => e = .returned (.int .i64 (kindErr ps[k])) ∧ W = w') := fun W => kindFault_any _ m0 W
                have HT : Hid ((bk || !((kindErr ps[k] == 0) && (ps.drop (k + 1)).all kindB)) = !ok) := by
                  have := HQ.out
                  rw [all_at hlk] at this
                  exact this
                clear a0 m0 HPS HQ HNo HYes HPrev
                generalize ps[k] = z at *
                cases bk with
                | true =>
                  have HT' : Hid ((true || !(ps.drop (k + 1)).all kindB) = !ok) := HT.out
                  go_wp2_with fail
                  exact ⟨⟨k + 1, true, by omega, rfl, by go_num, HT'.out, by simp⟩, by simp [intOf]; omega⟩
                | false =>
                  by_cases hz : kindErr z = 0
                  · rw [hz] at HK
                    have HT' : Hid ((false || !(ps.drop (k + 1)).all kindB) = !ok) := by
                      have := HT.out
                      rw [hz] at this
                      exact this
                    clear hz HT
                    go_wp2_with fail
                    refine (HK.out _).mono ?_
                    rintro e w1 ⟨rfl, rfl⟩
                    go_wp2_with fail
                    exact ⟨⟨k + 1, false, by omega, rfl, by go_num, HT'.out, by simp⟩, by simp [intOf]; omega⟩
                  · have hz' : (kindErr z != 0) = true := by simpa using hz
                    have HT' : Hid ((true || !(ps.drop (k + 1)).all kindB) = !ok) := by
                      have := HT.out
                      have h2 : (kindErr z == 0) = false := by simpa using hz
                      rw [h2] at this
                      exact this
                    clear hz HT
                    go_wp2_with fail
                    refine (HK.out _).mono ?_
                    rintro e w1 ⟨rfl, rfl⟩
                    go_wp2_with fail
                    exact ⟨⟨k + 1, true, by omega, rfl, by go_num, HT'.out, by simp⟩, by simp [intOf]; omega⟩
              · have hnk : ¬ (k : Int) < (ps.length : Int) := by omega
                have hbok : bk = !ok := by
                  have := HQ.out
                  rw [List.drop_eq_nil_of_le (by omega)] at this
                  simpa using this
                clear HPS HQ
                cases ok with
                | false =>
                  obtain rfl : bk = true := hbok
                  have HR := veil (HNo.out rfl)
                  clear HNo HYes HPrev
                  go_wp2_with fail
                  go_ret
                  exact ⟨by rw [HR.out]; rfl, HBBW.out⟩
                | true =>
                  obtain rfl : bk = false := hbok
                  have HY := veil (HYes.out rfl)
                  have g0 := HG0.out
                  have cb := HCB.out
                  clear HNo HYes
                  by_cases h0 : j = 0
                  · have HY0 := veil (HY.out.1 h0)
                    have hg : decide ((0 : Int) < (j : Int)) = false := by simp; omega
                    have hgn : decide (0 < j) = false := by simp; omega
                    clear HY HPrev h0
                    go_wp2_with fail
                    go_quiet (fail)
                    go_wp2_with fail
                    exact ⟨⟨j + 1, by omega, by go_num, HY0.out, HDr.out _⟩, by simp [intOf]; omega⟩
                  · have hpos : 0 < j := by omega
                    have hg : decide ((0 : Int) < (j : Int)) = true := by simp; omega
                    have hgi : (0 : Int) < (j : Int) := by omega
                    have hm1 : (0 : Int) ≤ (j : Int) - 1 := by omega
                    have hm2 : (j : Int) - 1 < (f.funcs.length : Int) := by omega
                    have hm3 : ((j : Int) - 1).toNat = j - 1 := by omega
                    have e0 := HPrev.out hpos
                    have HY0 := veil (HY.out.2 hpos)
                    clear HY HPrev h0
                    generalize (f.funcs[j - 1]'(by omega)).name = px at *
                    cases hle : leB x px with
                    | true =>
                      have HR := veil (HY0.out.1 hle)
                      have hle' : (Op.bytesLess x.toList px.toList || x.toList == px.toList) = true := hle
                      clear HY0 hle
                      go_wp2_with fail
                      go_quiet (fail)
                      go_wp2_with fail
                      go_ret
                      exact ⟨by rw [HR.out]; rfl, HDw.out _⟩
                    | false =>
                      have HR := veil (HY0.out.2 hle)
                      have hle' : (Op.bytesLess x.toList px.toList || x.toList == px.toList) = false := hle
                      clear HY0 hle
                      go_wp2_with fail
                      go_quiet (fail)
                      go_wp2_with fail
                      exact ⟨⟨j + 1, by omega, by go_num, HR.out, HDr.out _⟩, by simp [intOf]; omega⟩
        · have hnl : ¬ (j : Int) < (f.funcs.length : Int) := by omega
          have HR : Hid (r = 0) := by
            show _ = _
            rw [HE2.out, HQ.out, order_end (by omega)]
          clear HQ HF HE2
          go_wp2_with fail
          go_ret
          exact ⟨by rw [HR.out]; rfl, HBW.out⟩

end Go.Proofs.YtcpnfkeoajeodaaGreatDoor
