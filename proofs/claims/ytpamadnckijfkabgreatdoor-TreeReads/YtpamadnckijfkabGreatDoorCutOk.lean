/- Plain facts: what is cut are tokens that may be. (As in BackSpec and Wide, without the showing.) -/
import Derived.Test.YtpamadnckijfkabGreatDoorCutSpec
namespace Go.Proofs.YtpamadnckijfkabGreatDoor
open Go.RowKit
set_option maxRecDepth 100000

theorem cutF_sound (s : ByteArray) : ∀ (f i : Nat) (l : List (Int × ByteArray)), cutF s f i = some l → ∀ t ∈ l, faultOf t = 0
  | 0, _, l, h, t, ht => by
    simp only [cutF, Option.some.injEq] at h
    rw [← h] at ht
    cases ht
  | f + 1, i, l, h, t, ht => by
    unfold cutF at h
    split at h
    · split at h
      · exact cutF_sound s f _ l h t ht
      · split at h
        · cases h
        · rename_i u e _
          split at h
          · rename_i hu
            obtain ⟨r, hr, rfl⟩ := Option.map_eq_some_iff.1 h
            rcases List.mem_cons.1 ht with rfl | ht
            · exact hu
            · exact cutF_sound s f e r hr t ht
          · cases h
    · simp only [Option.some.injEq] at h
      rw [← h] at ht
      cases ht

theorem fault_sound {k : Int} {t : ByteArray} (h : tokFault k t = 0) : (k = 1 ∧ wordOk t = true) ∨ (k = 2 ∧ numOk t = true) ∨ (k = 3 ∧ quoteOk t = true) ∨ (k = 4 ∧ signOk t = true) := by
  unfold tokFault at h
  split at h
  · rename_i hk
    split at h
    · rename_i ho
      unfold tokOk at ho
      split at ho
      · exact Or.inl ⟨‹_›, ho⟩
      · split at ho
        · exact Or.inr (Or.inl ⟨‹_›, ho⟩)
        · split at ho
          · exact Or.inr (Or.inr (Or.inl ⟨‹_›, ho⟩))
          · exact Or.inr (Or.inr (Or.inr ⟨by omega, ho⟩))
    · omega
  · omega

theorem cut_sound {s : ByteArray} (h : cutErr s = 0) : s.size ≤ 1500 ∧ cutAt s 0 = some (cutToks s) ∧ (cutToks s).length ≤ 200 ∧ (∀ t ∈ cutToks s, faultOf t = 0) := by
  unfold cutErr at h
  split at h
  · omega
  · rename_i hs
    cases hc : cutAt s 0 with
    | none => rw [hc] at h; simp at h
    | some l =>
      rw [hc] at h
      simp only at h
      split at h
      · omega
      · rename_i hl
        have e : cutToks s = l := by unfold cutToks; rw [if_neg hs, hc]; exact if_neg hl
        rw [e]
        exact ⟨by omega, rfl, by omega, cutF_sound s _ _ l hc⟩

theorem cut_empty {s : ByteArray} (h : cutErr s ≠ 0) : cutToks s = [] := by
  unfold cutErr at h
  unfold cutToks
  split
  · rfl
  · rename_i hs
    rw [if_neg hs] at h
    cases hc : cutAt s 0 with
    | none => rfl
    | some l =>
      rw [hc] at h
      simp only at h ⊢
      split
      · rfl
      · rename_i hl
        rw [if_neg hl] at h
        exact absurd rfl h

end Go.Proofs.YtpamadnckijfkabGreatDoor
