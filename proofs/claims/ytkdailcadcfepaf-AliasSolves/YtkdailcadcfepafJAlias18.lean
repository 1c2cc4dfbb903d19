/- What the reference's typeAt answers: the place of the first type of a name. -/
import Derived.Test.YtkdailcadcfepafJAlias17
namespace Go.Proofs.Ytkdailcadcfepaf
open Go.RowKit

set_option maxHeartbeats 2000000 in
theorem typeAt_any (S : Nat → Prop) (m : Mo) (s : ByteArray) (vm : Value) (w : World) (hS : ∀ b, S b → b < w.heap.size) (hm : MoIs S w m vm) :
    Calls Try.prog 40 #[vm, .string s] w fun e w' => e = .returned (.int .i64 (idxOf (fun k : Fd => sEq k.name s) m.types)) ∧ Below w.heap.size w w' := by
  obtain ⟨vu, vt, vf, rfl, hu, hts, hf⟩ := hm
  obtain ⟨u1, u2, u3, rfl⟩ := hu.slice
  obtain ⟨t1, t3, rfl⟩ := hts.is
  obtain ⟨f1, f2, f3, rfl⟩ := hf.slice
  have HV := veil hts
  have hlen := hts.len
  unfold maxLen at hlen
  obtain ⟨w2, hwe, hs2, p1, hbel⟩ : ∃ w2, w.alloc (.cells #[.slice u1 u2 u3, .slice t1 m.types.length t3, .slice f1 f2 f3] 26) = w2 ∧ w2.heap.size = w.heap.size + 1 ∧ w2.cell? ⟨w.heap.size, 1, none⟩ = some (.slice t1 m.types.length t3) ∧ Below w.heap.size w w2 :=
    ⟨_, rfl, by simp, by simp [go_sem], (Below.refl _ _).alloc (Nat.le_refl _) _⟩
  have HWe := veil hwe
  have HBel := veil hbel
  have HP := veil p1
  clear hu hts hf hwe hbel p1
  go_enter Try.func40, Try.ntmps40
  go_wp2_with fail
  rw [HWe.out]
  clear HWe
  go_loopw [5] (fun i wr => ∃ j : Nat, j ≤ m.types.length ∧ i = .int .i64 j ∧ findAt (fun k : Fd => sEq k.name s) m.types = j + findAt (fun k : Fd => sEq k.name s) (m.types.drop j) ∧ wr = w2) (fun i _ => m.types.length - (intOf i).toNat)
  case atStart => exact ⟨0, Nat.zero_le _, rfl, (Nat.zero_add _).symm, rfl⟩
  case round =>
    obtain ⟨j, hj, rfl, hq, rfl⟩ := hrel
    have HQ := veil hq
    clear hq
    have c1 := HP.out
    by_cases hlt : j < m.types.length
    · have hlt' : (j : Int) < (m.types.length : Int) := by omega
      obtain ⟨_, b, off, rfl, hb, hat⟩ := HV.out.at hlt
      have hbk := hS b hb
      obtain ⟨kd, fo, na, p1, p2, p3, a0, _⟩ := fd_cells hat
      have d0 := (HBel.out.cell (p := ⟨b, off + j * 5, none⟩) hbk).trans a0
      have HYes : Hid ((m.types[j].name.toList == s.toList) = true → idxOf (fun k : Fd => sEq k.name s) m.types = (j : Int)) := fun h => by
        have : findAt (fun k : Fd => sEq k.name s) m.types = j := by rw [HQ.out, find_yes hlt h]; rfl
        unfold idxOf
        rw [this, if_pos hlt]
      have HNo : Hid ((m.types[j].name.toList == s.toList) = false → findAt (fun k : Fd => sEq k.name s) m.types = (j + 1) + findAt (fun k : Fd => sEq k.name s) (m.types.drop (j + 1))) := fun h => by
        rw [HQ.out, find_no hlt h]; omega
      clear a0 hat HV HQ
      generalize m.types[j].name = x at *
      cases hx : (x.toList == s.toList) with
      | true =>
        have HI := veil (HYes.out hx)
        clear HYes HNo
        go_wp2_with fail
        go_ret
        exact ⟨by rw [HI.out]; rfl, HBel.out⟩
      | false =>
        have HN := veil (HNo.out hx)
        clear HYes HNo
        go_wp2_with fail
        exact ⟨⟨j + 1, by omega, by go_num, HN.out, by simp⟩, by simp [intOf]; omega⟩
    · have hnl : ¬ (j : Int) < (m.types.length : Int) := by omega
      have HI : Hid (idxOf (fun k : Fd => sEq k.name s) m.types = -1) := by
        show _ = _
        unfold idxOf
        rw [HQ.out, find_end (by omega), if_neg (by omega)]
      clear HV HQ
      go_wp2_with fail
      go_ret
      exact ⟨by rw [HI.out]; rfl, HBel.out⟩

end Go.Proofs.Ytkdailcadcfepaf
