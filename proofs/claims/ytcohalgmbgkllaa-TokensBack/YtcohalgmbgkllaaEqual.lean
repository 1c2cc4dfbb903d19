/- Two lists that hold the same tokens: slices.Equal answers true. -/
import Derived.Test.YtcohalgmbgkllaaSame
namespace Go.Proofs.Ytcohalgmbgkllaa
open Go.RowKit

set_option maxHeartbeats 1000000 in
theorem equal_row (b off cap b' off' cap' : Nat) (l : List (Int × ByteArray)) (w : World) (hl : l.length ≤ maxLen)
    (h1 : ∀ i, i < l.length → w.cell? ⟨b, off + i * 2, none⟩ = some (.int .i64 (l.getD i (0, .empty)).1) ∧ w.cell? ⟨b, off + i * 2 + 1, none⟩ = some (.string (l.getD i (0, .empty)).2))
    (h2 : ∀ i, i < l.length → w.cell? ⟨b', off' + i * 2, none⟩ = some (.int .i64 (l.getD i (0, .empty)).1) ∧ w.cell? ⟨b', off' + i * 2 + 1, none⟩ = some (.string (l.getD i (0, .empty)).2)) :
    Calls Try.prog 22 #[.slice (some ⟨b, off, none⟩) l.length cap, .slice (some ⟨b', off', none⟩) l.length cap'] w fun e w' => e = .returned (.bool true) ∧ Below w.heap.size w w' := by
  unfold maxLen at hl
  have hne : ((l.length : Int) != (l.length : Int)) = false := by simp
  have H1 := veil h1
  have H2 := veil h2
  clear h1 h2
  go_enter Try.func22, Try.ntmps22
  go_wp2
  go_loopw [13] (fun i wr => ∃ k : Nat, k ≤ l.length ∧ i = .int .i64 k ∧ Below w.heap.size w wr) (fun i _ => l.length - (intOf i).toNat)
  case atStart => exact ⟨0, Nat.zero_le _, rfl, Below.refl _ _⟩
  case round =>
    obtain ⟨k, hk, rfl, hbl⟩ := hrel
    by_cases hlt : k < l.length
    · obtain ⟨a0, a1⟩ := H1.out k hlt
      obtain ⟨b0, b1⟩ := H2.out k hlt
      have c0 := (hbl.cell (p := ⟨b, off + k * 2, none⟩) (World.block_lt_of_cell? _ _ a0)).trans a0
      have c1 := (hbl.cell (p := ⟨b, off + k * 2 + 1, none⟩) (World.block_lt_of_cell? _ _ a1)).trans a1
      have d0 := (hbl.cell (p := ⟨b', off' + k * 2, none⟩) (World.block_lt_of_cell? _ _ b0)).trans b0
      have d1 := (hbl.cell (p := ⟨b', off' + k * 2 + 1, none⟩) (World.block_lt_of_cell? _ _ b1)).trans b1
      generalize (l.getD k (0, ByteArray.empty)).1 = kd at *
      generalize (l.getD k (0, ByteArray.empty)).2 = tx at *
      clear a0 a1 b0 b1 H1 H2
      go_wp2
      go_region
      all_goals go_wp2
      all_goals exact ⟨⟨k + 1, by omega, by go_num, hbl.drew⟩, by simp [intOf]; omega⟩
    · go_wp2
      go_ret
      exact ⟨rfl, hbl⟩

theorem equal_any (v v' : Value) (l : List (Int × ByteArray)) (w : World) (h : TokRow w v l) (h' : TokRow w v' l) :
    Calls Try.prog 22 #[v, v'] w fun e w' => e = .returned (.bool true) ∧ Below w.heap.size w w' := by
  by_cases hl : l = []
  · subst hl
    obtain ⟨a, cap, rfl⟩ := h.nothing
    obtain ⟨a', cap', rfl⟩ := h'.nothing
    clear h h'
    go_enter Try.func22, Try.ntmps22
    go_wp2
    refine wp_loop_rounds 1 ?_
    rw [rounds_succ]
    go_wp2
    go_ret
    exact ⟨rfl, Below.refl _ _⟩
  · obtain ⟨b, off, cap, rfl, _, hm, hc⟩ := h.some hl
    obtain ⟨b', off', cap', rfl, _, _, hc'⟩ := h'.some hl
    exact equal_row b off cap b' off' cap' l w hm (fun i hi => ⟨(hc i hi).1, (hc i hi).2.1⟩) (fun i hi => ⟨(hc' i hi).1, (hc' i hi).2.1⟩)

end Go.Proofs.Ytcohalgmbgkllaa
