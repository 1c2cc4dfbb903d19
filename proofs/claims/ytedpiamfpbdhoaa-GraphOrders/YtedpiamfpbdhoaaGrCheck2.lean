/- What graph.Check answers: the first thing that is wrong with nodes. -/
import Derived.Test.YtedpiamfpbdhoaaGrCheck
namespace Go.Proofs.Ytedpiamfpbdhoaa
open Go.RowKit

set_option maxHeartbeats 4000000 in
theorem checkNodes_any (S : Nat → Prop) (l : List Nd) (v : Value) (w : World) (hS : ∀ b, S b → b < w.heap.size) (hv : SlAt S (NdAt S w) 2 l v) :
    Calls Try.prog 5 #[v] w fun e w' => e = .returned (.int .i64 (ndsFault l)) ∧ Below w.heap.size w w' := by
  have HV := veil hv
  have hlen := hv.len
  unfold maxLen at hlen
  obtain ⟨a, cap, rfl⟩ := hv.is
  have HE : Hid (ndsFault l = if 10 < (l.length : Int) then 1 else orderFault ndFault Nd.name l ⟨#[]⟩) := rfl
  clear hv
  generalize ndsFault l = r at *
  by_cases h10 : (10 : Int) < (l.length : Int)
  · have HE' : Hid (r = 1) := HE.out.trans (if_pos h10)
    clear HE
    go_enter Try.func5, Try.ntmps5
    go_wp2_with fail
    go_ret
    exact ⟨by rw [HE'.out]; rfl, Below.refl _ _⟩
  have HE' : Hid (r = orderFault ndFault Nd.name l ⟨#[]⟩) := HE.out.trans (if_neg h10)
  clear HE
  go_enter Try.func5, Try.ntmps5
  go_wp2_with fail
  go_loopw [3, 11] (fun s i wr => ∃ (j : Nat) (p : ByteArray), j ≤ l.length ∧ i = .int .i64 j ∧ s = .string p ∧ r = orderFault ndFault Nd.name (l.drop j) p ∧ Below w.heap.size w wr) (fun _ i _ => l.length - (intOf i).toNat)
  case atStart => exact ⟨0, _, Nat.zero_le _, rfl, rfl, HE'.out, Below.refl _ _⟩
  case round =>
    obtain ⟨j, p, hj, rfl, rfl, hq, hbl⟩ := hrel
    have HQ := veil hq
    have HBW := veil hbl
    clear hq HE'
    by_cases hlt : j < l.length
    · have hlt' : (j : Int) < (l.length : Int) := by omega
      obtain ⟨_, b, off, rfl, hb, hat⟩ := HV.out.at hlt
      obtain ⟨a1, cap1, c0, m0, c1, hu⟩ := nd_cells hat
      have hbk := hS b hb
      have d0 := (hbl.cell (p := ⟨b, off + j * 2, none⟩) hbk).trans c0
      have d1 := (hbl.cell (p := ⟨b, off + j * 2 + 1, none⟩) hbk).trans c1
      have hbr : b < wr.heap.size := Nat.lt_of_lt_of_le hbk hbl.size
      have HC : Hid (∀ W, Below wr.heap.size wr W → Calls Try.prog 10 #[.agg #[.string l[j].name, .slice a1 l[j].uses.length cap1]] W fun e w' => e = .returned (.bool (ndOk l[j])) ∧ Below W.heap.size W w') := fun W hW => by
        have hbW := HBW.out.trans (hW.mono hbl.size)
        exact fits_any S _ _ _ W (fun b hb => Nat.lt_of_lt_of_le (hS b hb) hbW.size) m0 (strSl_keep (Keeps.below hbW hS) hu)
      have HAl : Hid (∀ o, Below wr.heap.size wr (wr.alloc o)) := fun o => (Below.refl _ _).alloc (Nat.le_refl _) _
      have HB2 : Hid (∀ o W, Below (wr.alloc o).heap.size (wr.alloc o) W → Below w.heap.size w W) := fun o W hW => HBW.out.trans (((HAl.out o).trans (hW.mono (by simp))).mono hbl.size)
      have HCe : Hid (∀ x y W, Below (wr.alloc (.cells #[x, y] 31)).heap.size (wr.alloc (.cells #[x, y] 31)) W → W.cell? ⟨wr.heap.size, 0, none⟩ = some x) := fun x y W hW =>
        (hW.cell (p := ⟨wr.heap.size, 0, none⟩) (by simp)).trans (by simp [go_sem])
      have HBad : Hid (ndOk l[j] = false → r = 4) := fun h => by
        have h4 : ndFault l[j] = 4 := by unfold ndFault bad4; rw [if_neg (by rw [h]; simp)]
        rw [HQ.out, order_bad hlt (by rw [h4]; decide), h4]
      have HOk : Hid (ndOk l[j] = true → (leB l[j].name p = true → r = 7) ∧ (leB l[j].name p = false → r = orderFault ndFault Nd.name (l.drop (j + 1)) l[j].name)) := fun h => by
        have h0 : ndFault l[j] = 0 := by unfold ndFault bad4; rw [if_pos h]
        have hg := gt_not_le l[j].name p
        refine ⟨fun hl => ?_, fun hl => ?_⟩
        · rw [hl] at hg
          rw [HQ.out, order_low hlt h0 hg]
        · rw [hl] at hg
          rw [HQ.out, order_on hlt h0 hg]
      clear c0 c1 m0 hat hu HV hbl
      generalize ndOk l[j] = ok at *
      generalize l[j].name = x at *
      cases ok with
      | false =>
        have HR := veil (HBad.out rfl)
        clear HBad HOk HQ
        go_wp2_with fail
        refine (HC.out _ (HAl.out _)).mono ?_
        rintro e w1 ⟨rfl, hb1⟩
        have HB1 := veil (HB2.out _ _ hb1)
        clear hb1
        go_wp2_with fail
        go_ret
        exact ⟨by rw [HR.out]; rfl, HB1.out⟩
      | true =>
        have hh := HOk.out rfl
        have HR1 := veil hh.1
        have HR2 := veil hh.2
        clear HBad HOk HQ hh
        have hle : (Op.bytesLess x.toList p.toList || x.toList == p.toList) = leB x p := rfl
        cases hl : leB x p with
        | true =>
          have HR := veil (HR1.out hl)
          rw [hl] at hle
          clear HR1 HR2 hl
          go_wp2_with fail
          refine (HC.out _ (HAl.out _)).mono ?_
          rintro e w1 ⟨rfl, hb1⟩
          have e0 := HCe.out _ _ _ hb1
          have HB1 := veil (HB2.out _ _ hb1)
          clear hb1
          go_wp2_with fail
          go_ret
          exact ⟨by rw [HR.out]; rfl, HB1.out⟩
        | false =>
          have HR := veil (HR2.out hl)
          rw [hl] at hle
          clear HR1 HR2 hl
          go_wp2_with fail
          refine (HC.out _ (HAl.out _)).mono ?_
          rintro e w1 ⟨rfl, hb1⟩
          have e0 := HCe.out _ _ _ hb1
          have HB1 := veil (HB2.out _ _ hb1)
          clear hb1
          go_wp2_with fail
          exact ⟨⟨j + 1, x, by omega, by go_num, rfl, HR.out, HB1.out⟩, by simp [intOf]; omega⟩
    · have hnl : ¬ (j : Int) < (l.length : Int) := by omega
      have HR : Hid (r = 0) := HQ.out.trans (order_end (by omega))
      clear HV hbl HQ
      go_wp2_with fail
      go_ret
      exact ⟨by rw [HR.out]; rfl, HBW.out⟩

end Go.Proofs.Ytedpiamfpbdhoaa
