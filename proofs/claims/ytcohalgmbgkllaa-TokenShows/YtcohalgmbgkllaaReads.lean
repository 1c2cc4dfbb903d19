/- A list of tokens that can be read as data lies in memory as kinds and texts. -/
import Derived.Test.YtcohalgmbgkllaaLists
import Derived.Deep.SlicePairs
import Derived.ProofKit
namespace Go.Proofs.Ytcohalgmbgkllaa
open Go.RowKit

theorem cellsTok : Try.prog.cellsOf 35 = 2 := by kernel_rfl
theorem cellsInt : Try.prog.cellsOf 3 = 1 := by kernel_rfl
theorem cellsStr : Try.prog.cellsOf 9 = 1 := by kernel_rfl

theorem tokRow_read {H : Type} {enc : TypeId × Value → H} {W : World} {base : Nat} {spare : Nat → Bool} {held : Bool} {fuel : Nat} {a : Option Addr} {len cap : Nat} {x : DataW H × List MemPlace}
    (h : DataW.trod enc Try.prog W base spare held fuel 23 [.slice a len cap] = some x) : ∃ l, TokRow W (.slice a len cap) l := by
  rcases Deep.open_slice_pairs Try.underlying23 Try.underlying35 cellsTok rfl rfl cellsInt cellsStr h with ⟨hcs, _⟩ | ⟨a', len', cap', m, n, V0, V1, D0, D1, P0, P1, hcs, _, hl, hm, hmm, _, hx⟩
  · simp at hcs
    obtain ⟨rfl, rfl, rfl⟩ := hcs
    exact ⟨[], Or.inl ⟨rfl, _, _, rfl⟩⟩
  · simp at hcs
    obtain ⟨rfl, rfl, rfl⟩ := hcs
    have hlm : len ≤ m := by rw [hmm]; split <;> omega
    by_cases h0 : len = 0
    · subst h0
      exact ⟨[], Or.inl ⟨rfl, _, _, rfl⟩⟩
    · obtain ⟨b, off, spot⟩ := a'
      have hspot : spot = none := by simpa [Addr.add] using World.cell?_spot (hx 0 (by omega)).1
      subst hspot
      have each : ∀ i, i < len → ∃ q : Int × ByteArray, W.cell? ⟨b, off + i * 2, none⟩ = some (.int .i64 q.1) ∧ W.cell? ⟨b, off + i * 2 + 1, none⟩ = some (.string q.2) ∧ q.2.size ≤ maxLen := by
        intro i hi
        obtain ⟨e0, e1, g0, g1⟩ := hx i (by omega)
        obtain ⟨k, hk, _, _⟩ := DataW.trod_int Try.underlying3 g0
        obtain ⟨t, ht, _, hsz⟩ := DataW.trod_string Try.underlying9 g1
        simp at hk ht
        rw [Go.WideShapes.add_plain] at e0 e1
        rw [hk] at e0
        rw [ht] at e1
        exact ⟨(k, t), e0, by simpa [Nat.add_assoc] using e1, hsz⟩
      have : Inhabited (Int × ByteArray) := ⟨(0, .empty)⟩
      obtain ⟨q, hq⟩ := Deep.choose_lt each
      refine ⟨(List.range len).map q, Or.inr ⟨b, off, cap, by simp, World.block_lt_of_cell? W _ (hx 0 (by omega)).1, by simp; omega, fun i hi => ?_⟩⟩
      have hi' : i < len := by simpa using hi
      have e : ((List.range len).map q).getD i (0, .empty) = q i := by simp [List.getD, hi']
      rw [e]
      exact hq i hi'

end Go.Proofs.Ytcohalgmbgkllaa
