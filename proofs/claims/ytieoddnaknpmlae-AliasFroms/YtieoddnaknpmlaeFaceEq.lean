/- What slices.Equal answers at two lists of texts, and of types' names with what they are: whether they are the same, one by one. -/
import Derived.Test.YtieoddnaknpmlaeFace
import Derived.Deep.RegionWith
namespace Go.Proofs.Ytieoddnaknpmlae
open Go.RowKit

set_option maxHeartbeats 4000000 in
theorem equal_str (S : Nat → Prop) (l m : List ByteArray) (v u : Value) (w : World) (hS : ∀ b, S b → b < w.heap.size) (hv : SlAt S (StrAt w) 1 l v) (hu : SlAt S (StrAt w) 1 m u) :
    Calls Try.prog 48 #[v, u] w fun e w' => e = .returned (.bool (eqL sEq l m)) ∧ Below w.heap.size w w' := by
  have HL := veil (SlAt.len hv)
  have HM := veil (SlAt.len hu)
  have HV := veil hv
  have HU := veil hu
  obtain ⟨a, cap, rfl⟩ := hv.is
  obtain ⟨a2, cap2, rfl⟩ := hu.is
  clear hv hu
  by_cases hlm : l.length = m.length
  · have hne : ((l.length : Int) != (m.length : Int)) = false := by rw [hlm]; simp
    have hlen : l.length ≤ 9223372036854775807 := by have := HL.out; unfold maxLen at this; omega
    have HLM := veil hlm
    clear hlm
    go_enter Try.func48, Try.ntmps48
    go_wp2_with fail
    go_loopw [13] (fun i wr => ∃ j : Nat, j ≤ l.length ∧ i = .int .i64 j ∧ eqL sEq l m = eqL sEq (l.drop j) (m.drop j) ∧ Below w.heap.size w wr) (fun i _ => l.length - (intOf i).toNat)
    case atStart => exact ⟨0, Nat.zero_le _, rfl, rfl, Below.refl _ _⟩
    case round =>
      obtain ⟨j, hj, rfl, hq, hbl⟩ := hrel
      have HBL := veil hbl
      have HQ := veil hq
      clear hq
      by_cases hlt : j < l.length
      · have hlt' : (j : Int) < (l.length : Int) := by omega
        have hltm : j < m.length := by have := HLM.out; omega
        have hltm' : (j : Int) < (m.length : Int) := by omega
        obtain ⟨_, b, off, rfl, hb, a0, _⟩ := HV.out.at hlt
        obtain ⟨_, b2, off2, rfl, hb2, b0, _⟩ := HU.out.at hltm
        have hbk := hS b hb
        have hbk2 := hS b2 hb2
        rw [Nat.mul_one] at a0 b0
        have d0 := (hbl.cell (p := ⟨b, off + j, none⟩) hbk).trans a0
        have e0 := (hbl.cell (p := ⟨b2, off2 + j, none⟩) hbk2).trans b0
        have HD : Hid (Below w.heap.size w wr.drew) := HBL.out.drew
        have HS : Hid (eqL sEq l m = ((l[j].toList == m[j].toList) && eqL sEq (l.drop (j + 1)) (m.drop (j + 1)))) := HQ.out.trans (eqL_step hlt hltm)
        clear a0 b0 HV HU hbl HL HM
        generalize l[j] = x at *
        generalize m[j] = y at *
        cases hxy : (x.toList == y.toList) with
        | true =>
          go_wp2_with fail
          go_region
          all_goals
            go_wp2_with fail
            exact ⟨⟨j + 1, by omega, by go_num, by rw [HS.out, hxy]; rfl, HD.out⟩, by simp [intOf]; omega⟩
        | false =>
          go_wp2_with fail
          go_region
          all_goals
            go_wp2_with fail
            go_ret
            exact ⟨by rw [HS.out, hxy]; rfl, HD.out⟩
      · have hnl : ¬ (j : Int) < (l.length : Int) := by omega
        have HE : Hid (eqL sEq l m = true) := HQ.out.trans (eqL_end (by omega) (by have := HLM.out; omega))
        clear HV HU hbl
        go_wp2_with fail
        go_ret
        exact ⟨by rw [HE.out]; rfl, HBL.out⟩
  · have hne : ((l.length : Int) != (m.length : Int)) = true := by simpa using fun e : (l.length : Int) = m.length => hlm (by omega)
    have HE := veil (eqL_len (p := sEq) hlm)
    clear hlm HV HU
    go_enter Try.func48, Try.ntmps48
    go_wp2_with fail
    go_ret
    exact ⟨by rw [HE.out]; rfl, Below.refl _ _⟩

set_option maxHeartbeats 4000000 in
theorem equal_kn (S : Nat → Prop) (l m : List Kn) (v u : Value) (w : World) (hS : ∀ b, S b → b < w.heap.size) (hv : SlAt S (KnAt w) 2 l v) (hu : SlAt S (KnAt w) 2 m u) :
    Calls Try.prog 24 #[v, u] w fun e w' => e = .returned (.bool (eqL knEq l m)) ∧ Below w.heap.size w w' := by
  have HL := veil (SlAt.len hv)
  have HM := veil (SlAt.len hu)
  have HV := veil hv
  have HU := veil hu
  obtain ⟨a, cap, rfl⟩ := hv.is
  obtain ⟨a2, cap2, rfl⟩ := hu.is
  clear hv hu
  by_cases hlm : l.length = m.length
  · have hne : ((l.length : Int) != (m.length : Int)) = false := by rw [hlm]; simp
    have hlen : l.length ≤ 9223372036854775807 := by have := HL.out; unfold maxLen at this; omega
    have HLM := veil hlm
    clear hlm
    go_enter Try.func24, Try.ntmps24
    go_wp2_with fail
    go_loopw [13] (fun i wr => ∃ j : Nat, j ≤ l.length ∧ i = .int .i64 j ∧ eqL knEq l m = eqL knEq (l.drop j) (m.drop j) ∧ Below w.heap.size w wr) (fun i _ => l.length - (intOf i).toNat)
    case atStart => exact ⟨0, Nat.zero_le _, rfl, rfl, Below.refl _ _⟩
    case round =>
      obtain ⟨j, hj, rfl, hq, hbl⟩ := hrel
      have HBL := veil hbl
      have HQ := veil hq
      clear hq
      by_cases hlt : j < l.length
      · have hlt' : (j : Int) < (l.length : Int) := by omega
        have hltm : j < m.length := by have := HLM.out; omega
        have hltm' : (j : Int) < (m.length : Int) := by omega
        obtain ⟨_, b, off, rfl, hb, ⟨a0, _⟩, a1, _⟩ := HV.out.at hlt
        obtain ⟨_, b2, off2, rfl, hb2, ⟨b0, _⟩, b1, _⟩ := HU.out.at hltm
        have hbk := hS b hb
        have hbk2 := hS b2 hb2
        have d0 := (hbl.cell (p := ⟨b, off + j * 2, none⟩) hbk).trans a0
        have e0 := (hbl.cell (p := ⟨b2, off2 + j * 2, none⟩) hbk2).trans b0
        have d1 := (hbl.cell (p := ⟨b, off + j * 2 + 1, none⟩) hbk).trans a1
        have e1 := (hbl.cell (p := ⟨b2, off2 + j * 2 + 1, none⟩) hbk2).trans b1
        have HD : Hid (Below w.heap.size w wr.drew) := HBL.out.drew
        have HS : Hid (eqL knEq l m = (((l[j].name.toList == m[j].name.toList) && (l[j].is.toList == m[j].is.toList)) && eqL knEq (l.drop (j + 1)) (m.drop (j + 1)))) := HQ.out.trans (eqL_step hlt hltm)
        clear a0 b0 a1 b1 HV HU hbl HL HM
        generalize l[j].name = x at *
        generalize m[j].name = y at *
        generalize l[j].is = x' at *
        generalize m[j].is = y' at *
        cases hxy : (x.toList == y.toList) with
        | true =>
          cases hxy' : (x'.toList == y'.toList) with
          | true =>
            go_wp2_with fail
            go_region
            all_goals
              go_wp2_with fail
              exact ⟨⟨j + 1, by omega, by go_num, by rw [HS.out, hxy, hxy']; rfl, HD.out⟩, by simp [intOf]; omega⟩
          | false =>
            go_wp2_with fail
            go_region
            all_goals
              go_wp2_with fail
              go_ret
              exact ⟨by rw [HS.out, hxy, hxy']; rfl, HD.out⟩
        | false =>
          go_wp2_with fail
          go_region
          all_goals
            go_wp2_with fail
            go_ret
            exact ⟨by rw [HS.out, hxy]; rfl, HD.out⟩
      · have hnl : ¬ (j : Int) < (l.length : Int) := by omega
        have HE : Hid (eqL knEq l m = true) := HQ.out.trans (eqL_end (by omega) (by have := HLM.out; omega))
        clear HV HU hbl
        go_wp2_with fail
        go_ret
        exact ⟨by rw [HE.out]; rfl, HBL.out⟩
  · have hne : ((l.length : Int) != (m.length : Int)) = true := by simpa using fun e : (l.length : Int) = m.length => hlm (by omega)
    have HE := veil (eqL_len (p := knEq) hlm)
    clear hlm HV HU
    go_enter Try.func24, Try.ntmps24
    go_wp2_with fail
    go_ret
    exact ⟨by rw [HE.out]; rfl, Below.refl _ _⟩

end Go.Proofs.Ytieoddnaknpmlae
