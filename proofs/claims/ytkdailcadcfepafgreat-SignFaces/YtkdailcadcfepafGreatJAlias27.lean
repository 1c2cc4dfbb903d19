/- The types of a module, in plain words: what each is, or what is wrong with it; those with which nothing is wrong, by their names. -/
import Derived.Test.YtkdailcadcfepafGreatJAlias23
import Derived.Test.YtkdailcadcfepafGreatJAlias26
namespace Go.Proofs.YtkdailcadcfepafGreat
open Go.RowKit
set_option maxRecDepth 100000

def tyName (m : Mo) (k : Nat) : ByteArray := ((m.types[k]?).map Fd.name).getD noneS
def tySol (m : Mo) (l : List Im) (k : Nat) : Sol := if ownAt m (tyName m k) < k then (noneS, 4) else refR m l m.types.length noneS [] noneS (tyName m k)
def tyOk (m : Mo) (l : List Im) (k : Nat) : List Kn := if (tySol m l k).2 = 0 then [⟨tyName m k, (tySol m l k).1⟩] else []
def tyBad (m : Mo) (l : List Im) (k : Nat) : List Dg := if (tySol m l k).2 = 0 then [] else [⟨tyName m k, (tySol m l k).2⟩]
def tyOks (m : Mo) (l : List Im) : Nat → List Kn
  | 0 => []
  | k + 1 => tyOks m l k ++ tyOk m l k
def tyBads (m : Mo) (l : List Im) : Nat → List Dg
  | 0 => []
  | k + 1 => tyBads m l k ++ tyBad m l k
def tyIns (m : Mo) (l : List Im) : Nat → List Kn
  | 0 => []
  | k + 1 => if (tySol m l k).2 = 0 then insB Kn.name ⟨tyName m k, (tySol m l k).1⟩ (tyIns m l k) else tyIns m l k

theorem tyName_at {m : Mo} {k : Nat} (h : k < m.types.length) : tyName m k = m.types[k].name := by
  unfold tyName
  rw [List.getElem?_eq_getElem h]; rfl

theorem find_le {α : Type} {p : α → Bool} : ∀ {l : List α} {k : Nat} (h : k < l.length), p l[k] = true → findAt p l ≤ k
  | x :: r, 0, _, h => by
    rw [findAt, if_pos (by simpa using h)]; exact Nat.le_refl _
  | x :: r, k + 1, hk, h => by
    rw [findAt]
    split
    · exact Nat.zero_le _
    · have := find_le (l := r) (k := k) (by simpa using hk) (by simpa using h)
      omega

theorem own_le {m : Mo} {k : Nat} (h : k < m.types.length) : ownAt m (tyName m k) ≤ k := by
  rw [tyName_at h]
  exact find_le h (sEq_refl _)

theorem tySol_code {m : Mo} {l : List Im} {k : Nat} (h : k < m.types.length) (hty : ∀ f ∈ m.types, tyFault f.is 1 = 0) : tySol m l k = if ownAt m m.types[k].name < k then (noneS, 4) else solveP (topR noneS (findR m l m.types.length [])) 10 m.types[k].is := by
  unfold tySol
  have hle := own_le h
  rw [tyName_at h] at hle ⊢
  by_cases hlt : ownAt m m.types[k].name < k
  · rw [if_pos hlt, if_pos hlt]
  · rw [if_neg hlt, if_neg hlt]
    have he : ownAt m m.types[k].name = k := by omega
    have ha : ownAt m m.types[k].name < m.types.length := by omega
    rw [solve_same (hty _ (List.getElem_mem h)), ← solve_name ha]
    congr 2
    exact getElem_congr_idx he

theorem tyOk_own {m : Mo} {l : List Im} {k : Nat} {x : Kn} (hx : x ∈ tyOk m l k) : x.name = tyName m k ∧ ¬ ownAt m (tyName m k) < k := by
  unfold tyOk at hx
  by_cases h : (tySol m l k).2 = 0
  · rw [if_pos h, List.mem_singleton] at hx
    subst hx
    refine ⟨rfl, fun hlt => ?_⟩
    unfold tySol at h
    rw [if_pos hlt] at h
    exact absurd h (by decide)
  · rw [if_neg h] at hx; cases hx

theorem tyOks_own {m : Mo} {l : List Im} : ∀ {k : Nat}, k ≤ m.types.length → ∀ x ∈ tyOks m l k, ownAt m x.name < k
  | 0, _, x, hx => by cases hx
  | k + 1, hk, x, hx => by
    rw [tyOks] at hx
    rcases List.mem_append.1 hx with h | h
    · have := tyOks_own (k := k) (by omega) x h; omega
    · rw [(tyOk_own h).1]
      have := own_le (m := m) (k := k) (by omega)
      omega

theorem tyOks_apart {m : Mo} {l : List Im} : ∀ {k : Nat}, k ≤ m.types.length → Apart Kn.name (tyOks m l k)
  | 0, _ => List.Pairwise.nil
  | k + 1, hk => by
    rw [tyOks]
    refine List.pairwise_append.2 ⟨tyOks_apart (by omega), ?_, fun x hx y hy => ?_⟩
    · unfold tyOk
      split
      · exact List.pairwise_singleton _ _
      · exact List.Pairwise.nil
    · have h1 := tyOks_own (k := k) (by omega) x hx
      obtain ⟨h2, h3⟩ := tyOk_own hy
      cases hs : sEq x.name y.name with
      | false => rfl
      | true =>
        rw [sEq_eq hs, h2] at h1
        exact absurd h1 h3

theorem tyIns_perm (m : Mo) (l : List Im) : ∀ k, (tyIns m l k).Perm (tyOks m l k)
  | 0 => List.Perm.refl _
  | k + 1 => by
    rw [tyIns, tyOks]
    unfold tyOk
    by_cases h : (tySol m l k).2 = 0
    · rw [if_pos h, if_pos h]
      refine (insB_perm Kn.name _ _).trans ?_
      refine ((tyIns_perm m l k).cons _).trans ?_
      exact (List.perm_append_singleton _ _).symm
    · rw [if_neg h, if_neg h, List.append_nil]
      exact tyIns_perm m l k

theorem tyIns_rises {m : Mo} {l : List Im} : ∀ {k : Nat}, k ≤ m.types.length → RisesB Kn.name (tyIns m l k)
  | 0, _ => List.Pairwise.nil
  | k + 1, hk => by
    rw [tyIns]
    by_cases h : (tySol m l k).2 = 0
    · rw [if_pos h]
      refine insB_rises Kn.name (tyIns_rises (by omega)) fun y hy => ?_
      have hy' := (tyIns_perm m l k).subset hy
      have hap := tyOks_apart (m := m) (l := l) hk
      rw [tyOks] at hap
      refine (List.pairwise_append.1 hap).2.2 y hy' _ ?_
      unfold tyOk
      rw [if_pos h]; exact List.mem_singleton.2 rfl
    · rw [if_neg h]
      exact tyIns_rises (by omega)

/-- what sorting leaves is what laying each where it belongs leaves. -/
theorem tySorted {m : Mo} {l : List Im} {l' : List Kn} (hp : l'.Perm (tyOks m l m.types.length)) (hr : RisesB Kn.name l') : l' = tyIns m l m.types.length :=
  rises_one Kn.name hr (tyIns_rises (Nat.le_refl _)) (hp.trans (tyIns_perm m l _).symm)

theorem tyOks_le (m : Mo) (l : List Im) : ∀ k, (tyOks m l k).length ≤ k
  | 0 => Nat.le_refl _
  | k + 1 => by
    have := tyOks_le m l k
    rw [tyOks, List.length_append]
    unfold tyOk
    split <;> simp <;> omega
theorem tyBads_le (m : Mo) (l : List Im) : ∀ k, (tyBads m l k).length ≤ k
  | 0 => Nat.le_refl _
  | k + 1 => by
    have := tyBads_le m l k
    rw [tyBads, List.length_append]
    unfold tyBad
    split <;> simp <;> omega
theorem tyIns_le (m : Mo) (l : List Im) (k : Nat) : (tyIns m l k).length ≤ k := by
  rw [(tyIns_perm m l k).length_eq]; exact tyOks_le m l k

theorem tyOks_ok {m : Mo} {l : List Im} {k : Nat} (h : (tySol m l k).2 = 0) : tyOks m l (k + 1) = tyOks m l k ++ [⟨tyName m k, (tySol m l k).1⟩] ∧ tyBads m l (k + 1) = tyBads m l k ∧ tyIns m l (k + 1) = insB Kn.name ⟨tyName m k, (tySol m l k).1⟩ (tyIns m l k) := by
  refine ⟨?_, ?_, ?_⟩
  · rw [tyOks, tyOk, if_pos h]
  · rw [tyBads, tyBad, if_pos h, List.append_nil]
  · rw [tyIns, if_pos h]
theorem tyOks_bad {m : Mo} {l : List Im} {k : Nat} (h : (tySol m l k).2 ≠ 0) : tyOks m l (k + 1) = tyOks m l k ∧ tyBads m l (k + 1) = tyBads m l k ++ [⟨tyName m k, (tySol m l k).2⟩] ∧ tyIns m l (k + 1) = tyIns m l k := by
  refine ⟨?_, ?_, ?_⟩
  · rw [tyOks, tyOk, if_neg h, List.append_nil]
  · rw [tyBads, tyBad, if_neg h]
  · rw [tyIns, if_neg h]

theorem tySol_size {m : Mo} {l : List Im} (hz : ∀ i ∈ l, fcSmall i.face) (hn : ∀ f ∈ m.types, f.name.size ≤ 8) (k : Nat) : (tySol m l k).1.size ≤ maxLen ∧ (tyName m k).size ≤ maxLen := by
  constructor
  · unfold tySol
    split
    · exact Nat.zero_le _
    · cases hl : m.types.length <;> exact refR_size hz _ _ _ _ _
  · unfold tyName
    cases h : m.types[k]? with
    | none => exact Nat.zero_le _
    | some f =>
      have := hn f (List.mem_of_getElem? h)
      show f.name.size ≤ _
      unfold maxLen; omega

theorem tyOks_small {m : Mo} {l : List Im} (hz : ∀ i ∈ l, fcSmall i.face) (hn : ∀ f ∈ m.types, f.name.size ≤ 8) : ∀ (k : Nat), ∀ x ∈ tyOks m l k, x.name.size ≤ maxLen ∧ x.is.size ≤ maxLen
  | 0, x, hx => by cases hx
  | k + 1, x, hx => by
    rw [tyOks] at hx
    rcases List.mem_append.1 hx with h | h
    · exact tyOks_small hz hn k x h
    · unfold tyOk at h
      split at h
      · rw [List.mem_singleton.1 h]
        exact ⟨(tySol_size hz hn k).2, (tySol_size hz hn k).1⟩
      · cases h
theorem tyIns_small {m : Mo} {l : List Im} (hz : ∀ i ∈ l, fcSmall i.face) (hn : ∀ f ∈ m.types, f.name.size ≤ 8) (k : Nat) (x : Kn) (hx : x ∈ tyIns m l k) : x.name.size ≤ maxLen ∧ x.is.size ≤ maxLen :=
  tyOks_small hz hn k x ((tyIns_perm m l k).subset hx)
theorem tyBads_small {m : Mo} {l : List Im} (hn : ∀ f ∈ m.types, f.name.size ≤ 8) : ∀ (k : Nat), ∀ x ∈ tyBads m l k, x.wh.size ≤ maxLen
  | 0, x, hx => by cases hx
  | k + 1, x, hx => by
    rw [tyBads] at hx
    rcases List.mem_append.1 hx with h | h
    · exact tyBads_small hn k x h
    · unfold tyBad at h
      split at h
      · cases h
      · rw [List.mem_singleton.1 h]
        show (tyName m k).size ≤ _
        unfold tyName
        cases h : m.types[k]? with
        | none => exact Nat.zero_le _
        | some f =>
          have := hn f (List.mem_of_getElem? h)
          show f.name.size ≤ _
          unfold maxLen; omega

end Go.Proofs.YtkdailcadcfepafGreat
