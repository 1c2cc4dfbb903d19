/- Two values that hold the same texts, or fields, are told to be the same. -/
import Derived.Test.YtedpiamfpbdhoaaSame1
import Derived.Deep.RegionWith
import Derived.Deep.RegionHeld3
namespace Go.Proofs.Ytedpiamfpbdhoaa
open Go.RowKit

set_option maxHeartbeats 4000000 in
theorem sameTexts_any (S : Nat → Prop) (l : List ByteArray) (v u : Value) (w : World) (hS : ∀ b, S b → b < w.heap.size) (hv : SlAt S (StrAt w) 1 l v) (hu : SlAt S (StrAt w) 1 l u) :
    Calls Try.prog 9 #[v, u] w fun e w' => e = .returned (.bool true) ∧ Below w.heap.size w w' := by
  obtain ⟨a, cap, rfl, ⟨hlen, hlenC⟩, hrest⟩ := hv
  obtain ⟨a2, cap2, rfl, ⟨hlen2, hlenC2⟩, hrest2⟩ := hu
  unfold maxLen at hlen
  have HR := veil hrest
  have HR2 := veil hrest2
  clear hrest hrest2 hlen2
  go_enter Try.func9, Try.ntmps9
  go_wp2_with fail
  go_loopw [5] (fun i wr => ∃ j : Nat, j ≤ l.length ∧ i = .int .i64 j ∧ Below w.heap.size w wr) (fun i _ => l.length - (intOf i).toNat)
  case atStart => exact ⟨0, Nat.zero_le _, rfl, Below.refl _ _⟩
  case round =>
    obtain ⟨j, hj, rfl, hbl⟩ := hrel
    have HBL := veil hbl
    by_cases hlt : j < l.length
    · have hlt' : (j : Int) < (l.length : Int) := by omega
      rcases HR.out with h0 | ⟨b, off, rfl, hb, hrow⟩
      · omega
      rcases HR2.out with h0 | ⟨b2, off2, rfl, hb2, hrow2⟩
      · omega
      have hbk := hS b hb
      have hbk2 := hS b2 hb2
      have a0 := (hrow.get j hlt).1
      have b0 := (hrow2.get j hlt).1
      rw [Nat.mul_one] at a0 b0
      have d0 := (hbl.cell (p := ⟨b, off + j, none⟩) hbk).trans a0
      have e0 := (hbl.cell (p := ⟨b2, off2 + j, none⟩) hbk2).trans b0
      have HD : Hid (Below w.heap.size w wr.drew) := HBL.out.drew
      clear hrow hrow2 a0 b0 HR HR2 hbl
      generalize l[j] = tx at *
      go_wp2_with fail
      go_region
      all_goals
        go_wp2_with fail
        exact ⟨⟨j + 1, by omega, by go_num, HD.out⟩, by simp [intOf]; omega⟩
    · have hnl : ¬ (j : Int) < (l.length : Int) := by omega
      clear HR HR2 hbl
      go_wp2_with fail
      go_ret
      exact ⟨rfl, HBL.out⟩

end Go.Proofs.Ytedpiamfpbdhoaa
