/- What scullerykeep.picked answers: a number from 0 on, below the second one; and the form of a list of tokens. -/
import Derived.Test.YtcohalgmbgkllaaLists
namespace Go.Proofs.Ytcohalgmbgkllaa
open Go.RowKit

theorem tokRow_form {w : World} {v : Value} {l : List (Int × ByteArray)} (h : TokRow w v l) : ∃ a cap, v = .slice a l.length cap := by
  rcases h with ⟨rfl, a, cap, rfl⟩ | ⟨b, off, cap, rfl, _⟩
  · exact ⟨a, cap, rfl⟩
  · exact ⟨_, cap, rfl⟩

theorem picked_any (n : Int) (hn : (Lit.int .i64 n).wf = true) (m : Int) (h0 : 0 < m) (h1 : m ≤ 1000000) (w : World) :
    Calls Try.prog 21 #[.int .i64 n, .int .i64 m] w fun e w' => ∃ k : Nat, e = .returned (.int .i64 k) ∧ (k : Int) < m ∧ w = w' := by
  have hx : -9223372036854775808 ≤ n ∧ n ≤ 9223372036854775807 := by simpa [Lit.wf, IntKind.min, IntKind.max, IntKind.signed, IntKind.bits] using hn
  obtain ⟨hx0, hx1⟩ := hx
  clear hn
  by_cases hneg : n < 0
  · have e : -((n + 1).tmod m) = (((-(n + 1)) % m).toNat : Int) := by
      rw [← Int.neg_tmod, Int.tmod_eq_emod_of_nonneg (by omega), Int.toNat_of_nonneg (Int.emod_nonneg _ (by omega))]
    have hk : (((-(n + 1)) % m).toNat : Int) < m := by
      rw [Int.toNat_of_nonneg (Int.emod_nonneg _ (by omega))]
      exact Int.emod_lt_of_pos _ h0
    have HE := veil e
    have HK := veil hk
    clear e hk
    go_enter Try.func21, Try.ntmps21
    go_wp2
    go_ret
    exact ⟨_, by rw [← HE.out]; rfl, HK.out, rfl⟩
  · have hk : ((n % m).toNat : Int) < m := by
      rw [Int.toNat_of_nonneg (Int.emod_nonneg _ (by omega))]
      exact Int.emod_lt_of_pos _ h0
    have e : n.tmod m = ((n % m).toNat : Int) := by
      rw [Int.tmod_eq_emod_of_nonneg (by omega), Int.toNat_of_nonneg (Int.emod_nonneg _ (by omega))]
    have e' : n % m = ((n % m).toNat : Int) := by
      rw [Int.toNat_of_nonneg (Int.emod_nonneg _ (by omega))]
    have HE := veil e
    have HE' := veil e'
    have HK := veil hk
    clear e e' hk
    go_enter Try.func21, Try.ntmps21
    go_wp2
    go_ret
    exact ⟨_, by first | (rw [← HE.out]; rfl) | (rw [← HE'.out]; rfl), HK.out, rfl⟩

end Go.Proofs.Ytcohalgmbgkllaa
