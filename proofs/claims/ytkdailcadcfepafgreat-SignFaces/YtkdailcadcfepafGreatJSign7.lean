/- The functions of a module, in plain words: those with which nothing is wrong, by their names; what is wrong with others. -/
import Derived.Test.YtkdailcadcfepafGreatJSign4
import Derived.Test.YtkdailcadcfepafGreatJAlias27
namespace Go.Proofs.YtkdailcadcfepafGreat
open Go.RowKit
set_option maxRecDepth 100000

def fnOk (m : Mo) (l : List Im) (k : Nat) : List Sg := if oneCode m l k = 0 then [oneSg m l k] else []
def fnBad (m : Mo) (l : List Im) (k : Nat) : List Dg := if oneCode m l k = 0 then [] else [⟨fnName m k, oneCode m l k⟩]
def fnOks (m : Mo) (l : List Im) : Nat → List Sg
  | 0 => []
  | k + 1 => fnOks m l k ++ fnOk m l k
def fnBads (m : Mo) (l : List Im) : Nat → List Dg
  | 0 => []
  | k + 1 => fnBads m l k ++ fnBad m l k
def fnIns (m : Mo) (l : List Im) : Nat → List Sg
  | 0 => []
  | k + 1 => if oneCode m l k = 0 then insB Sg.name (oneSg m l k) (fnIns m l k) else fnIns m l k

theorem has_all {α : Type} {p : α → Bool} {l : List α} {k : Nat} (hk : k ≤ l.length) (h : decide (findAt p (l.take k) < (l.take k).length) = false) : ∀ q (hq : q < k), p (l[q]'(by omega)) = false := fun q hq => by
  cases hp : p (l[q]'(by omega)) with
  | false => rfl
  | true =>
    have hl : (l.take k).length = k := by rw [List.length_take]; omega
    have h1 : q < (l.take k).length := by omega
    have := find_le (p := p) (l := l.take k) (k := q) h1 (by rw [List.getElem_take]; exact hp)
    have := of_decide_eq_false h
    omega

/-- a function with which nothing is wrong has its name, and none ahead has it. -/
theorem oneSg_name {m : Mo} {l : List Im} {k : Nat} (hk : k < m.funcs.length) (h : oneCode m l k = 0) : (oneSg m l k).name = m.funcs[k].name ∧ ∀ q (hq : q < k), sEq (m.funcs[q]'(by omega)).name m.funcs[k].name = false := by
  obtain ⟨h1, h2⟩ := oneCode_at (l := l) hk
  by_cases hh : hasFu (m.funcs.take k) m.funcs[k].name = true
  · rw [h1, if_pos hh] at h; exact absurd h (by decide)
  · rw [h1, if_neg hh] at h
    rw [h2, if_neg hh]
    have hh' : hasFu (m.funcs.take k) m.funcs[k].name = false := by simpa using hh
    refine ⟨?_, has_all (p := fun x : Fu => sEq x.name m.funcs[k].name) (by omega) hh'⟩
    unfold sigOf
    rw [if_pos h]

theorem fnOks_from {m : Mo} {l : List Im} : ∀ {k : Nat}, k ≤ m.funcs.length → ∀ x ∈ fnOks m l k, ∃ (q : Nat) (hq : q < m.funcs.length), q < k ∧ x.name = m.funcs[q].name
  | 0, _, x, hx => by cases hx
  | k + 1, hk, x, hx => by
    rw [fnOks] at hx
    rcases List.mem_append.1 hx with h | h
    · obtain ⟨q, hq, h1, h2⟩ := fnOks_from (k := k) (by omega) x h
      exact ⟨q, hq, by omega, h2⟩
    · unfold fnOk at h
      by_cases hc : oneCode m l k = 0
      · rw [if_pos hc, List.mem_singleton] at h
        subst h
        exact ⟨k, by omega, by omega, (oneSg_name (by omega) hc).1⟩
      · rw [if_neg hc] at h; cases h

theorem fnOks_apart {m : Mo} {l : List Im} : ∀ {k : Nat}, k ≤ m.funcs.length → Apart Sg.name (fnOks m l k)
  | 0, _ => List.Pairwise.nil
  | k + 1, hk => by
    rw [fnOks]
    refine List.pairwise_append.2 ⟨fnOks_apart (by omega), ?_, fun x hx y hy => ?_⟩
    · unfold fnOk
      split
      · exact List.pairwise_singleton _ _
      · exact List.Pairwise.nil
    · unfold fnOk at hy
      by_cases hc : oneCode m l k = 0
      · rw [if_pos hc, List.mem_singleton] at hy
        subst hy
        obtain ⟨q, hq, h1, h2⟩ := fnOks_from (k := k) (by omega) x hx
        obtain ⟨h3, h4⟩ := oneSg_name (m := m) (l := l) (k := k) (by omega) hc
        rw [h2, h3]
        exact h4 q h1
      · rw [if_neg hc] at hy; cases hy

theorem fnIns_perm (m : Mo) (l : List Im) : ∀ k, (fnIns m l k).Perm (fnOks m l k)
  | 0 => List.Perm.refl _
  | k + 1 => by
    rw [fnIns, fnOks]
    unfold fnOk
    by_cases h : oneCode m l k = 0
    · rw [if_pos h, if_pos h]
      refine (insB_perm Sg.name _ _).trans ?_
      refine ((fnIns_perm m l k).cons _).trans ?_
      exact (List.perm_append_singleton _ _).symm
    · rw [if_neg h, if_neg h, List.append_nil]
      exact fnIns_perm m l k

theorem fnIns_rises {m : Mo} {l : List Im} : ∀ {k : Nat}, k ≤ m.funcs.length → RisesB Sg.name (fnIns m l k)
  | 0, _ => List.Pairwise.nil
  | k + 1, hk => by
    rw [fnIns]
    by_cases h : oneCode m l k = 0
    · rw [if_pos h]
      refine insB_rises Sg.name (fnIns_rises (by omega)) fun y hy => ?_
      have hy' := (fnIns_perm m l k).subset hy
      have hap := fnOks_apart (m := m) (l := l) hk
      rw [fnOks] at hap
      refine (List.pairwise_append.1 hap).2.2 y hy' _ ?_
      unfold fnOk
      rw [if_pos h]; exact List.mem_singleton.2 rfl
    · rw [if_neg h]
      exact fnIns_rises (by omega)

theorem fnSorted {m : Mo} {l : List Im} {l' : List Sg} (hp : l'.Perm (fnOks m l m.funcs.length)) (hr : RisesB Sg.name l') : l' = fnIns m l m.funcs.length :=
  rises_one Sg.name hr (fnIns_rises (Nat.le_refl _)) (hp.trans (fnIns_perm m l _).symm)

theorem fnOks_le (m : Mo) (l : List Im) : ∀ k, (fnOks m l k).length ≤ k
  | 0 => Nat.le_refl _
  | k + 1 => by
    have := fnOks_le m l k
    rw [fnOks, List.length_append]
    unfold fnOk
    split <;> simp <;> omega
theorem fnBads_le (m : Mo) (l : List Im) : ∀ k, (fnBads m l k).length ≤ k
  | 0 => Nat.le_refl _
  | k + 1 => by
    have := fnBads_le m l k
    rw [fnBads, List.length_append]
    unfold fnBad
    split <;> simp <;> omega
theorem fnIns_le (m : Mo) (l : List Im) (k : Nat) : (fnIns m l k).length ≤ k := by
  rw [(fnIns_perm m l k).length_eq]; exact fnOks_le m l k

theorem fnOks_ok {m : Mo} {l : List Im} {k : Nat} (h : oneCode m l k = 0) : fnOks m l (k + 1) = fnOks m l k ++ [oneSg m l k] ∧ fnBads m l (k + 1) = fnBads m l k ∧ fnIns m l (k + 1) = insB Sg.name (oneSg m l k) (fnIns m l k) := by
  refine ⟨?_, ?_, ?_⟩
  · rw [fnOks, fnOk, if_pos h]
  · rw [fnBads, fnBad, if_pos h, List.append_nil]
  · rw [fnIns, if_pos h]
theorem fnOks_bad {m : Mo} {l : List Im} {k : Nat} (h : oneCode m l k ≠ 0) : fnOks m l (k + 1) = fnOks m l k ∧ fnBads m l (k + 1) = fnBads m l k ++ [⟨fnName m k, oneCode m l k⟩] ∧ fnIns m l (k + 1) = fnIns m l k := by
  refine ⟨?_, ?_, ?_⟩
  · rw [fnOks, fnOk, if_neg h, List.append_nil]
  · rw [fnBads, fnBad, if_neg h]
  · rw [fnIns, if_neg h]

theorem fnBads_small {m : Mo} {l : List Im} (hn : ∀ f ∈ m.funcs, f.name.size ≤ 8) : ∀ (k : Nat), ∀ x ∈ fnBads m l k, x.wh.size ≤ maxLen
  | 0, x, hx => by cases hx
  | k + 1, x, hx => by
    rw [fnBads] at hx
    rcases List.mem_append.1 hx with h | h
    · exact fnBads_small hn k x h
    · unfold fnBad at h
      split at h
      · cases h
      · rw [List.mem_singleton.1 h]
        show (fnName m k).size ≤ _
        unfold fnName
        cases h : m.funcs[k]? with
        | none => exact Nat.zero_le _
        | some f =>
          have := hn f (List.mem_of_getElem? h)
          show f.name.size ≤ _
          unfold maxLen; omega

end Go.Proofs.YtkdailcadcfepafGreat
