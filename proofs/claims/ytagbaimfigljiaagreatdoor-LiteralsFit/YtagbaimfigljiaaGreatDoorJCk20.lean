import Derived.Test.YtagbaimfigljiaaGreatDoorJCk18
import Derived.Test.YtagbaimfigljiaaGreatDoorJCk19
import Derived.Test.YtagbaimfigljiaaGreatDoorProg
import Derived.Shelf.SlSortCmp.NoneTotal
import Derived.Shelf.Small.Strs
import Derived.Shelf.SlSortCmp.WholeK
import Derived.Deep.RegionWith
namespace Go.Proofs.YtagbaimfigljiaaGreatDoor
open Go.RowKit
set_option maxRecDepth 100000

def tyName (m : Mo) (k : Nat) : ByteArray := ((m.types[k]?).map Fd.name).getD noneS
def tySol (m : Mo) (l : List Im) (k : Nat) : Sol := if ownAt m (tyName m k) < k then (noneS, 4) else refR m l m.types.length noneS [] noneS (tyName m k)
def tyOk (m : Mo) (l : List Im) (k : Nat) : List Kn := if (tySol m l k).2 = 0 then [⟨tyName m k, (tySol m l k).1⟩] else []
def tyBad (m : Mo) (l : List Im) (k : Nat) : List Dg := if (tySol m l k).2 = 0 then [] else [⟨tyName m k, (tySol m l k).2⟩]
def tyOks (m : Mo) (l : List Im) : Nat → List Kn
  | 0 => []
  | k + 1 => tyOks m l k ++ tyOk m l k
def tyBads (m : Mo) (l : List Im) : Nat → List Dg
  | 0 => []
  | k + 1 => tyBads m l k ++ tyBad m l k
def tyIns (m : Mo) (l : List Im) : Nat → List Kn
  | 0 => []
  | k + 1 => if (tySol m l k).2 = 0 then insB Kn.name ⟨tyName m k, (tySol m l k).1⟩ (tyIns m l k) else tyIns m l k

theorem tyName_at {m : Mo} {k : Nat} (h : k < m.types.length) : tyName m k = m.types[k].name := by
  unfold tyName
  rw [List.getElem?_eq_getElem h]; rfl


theorem own_le {m : Mo} {k : Nat} (h : k < m.types.length) : ownAt m (tyName m k) ≤ k := by
  rw [tyName_at h]
  exact find_le h (sEq_refl _)

theorem tySol_code {m : Mo} {l : List Im} {k : Nat} (h : k < m.types.length) (hty : ∀ f ∈ m.types, tyFault f.is 1 = 0) : tySol m l k = if ownAt m m.types[k].name < k then (noneS, 4) else solveP (topR noneS (findR m l m.types.length [])) 10 m.types[k].is := by
  unfold tySol
  have hle := own_le h
  rw [tyName_at h] at hle ⊢
  by_cases hlt : ownAt m m.types[k].name < k
  · rw [if_pos hlt, if_pos hlt]
  · rw [if_neg hlt, if_neg hlt]
    have he : ownAt m m.types[k].name = k := by omega
    have ha : ownAt m m.types[k].name < m.types.length := by omega
    rw [solve_same (hty _ (List.getElem_mem h)), ← solve_name ha]
    congr 2
    exact getElem_congr_idx he

theorem tyOk_own {m : Mo} {l : List Im} {k : Nat} {x : Kn} (hx : x ∈ tyOk m l k) : x.name = tyName m k ∧ ¬ ownAt m (tyName m k) < k := by
  unfold tyOk at hx
  by_cases h : (tySol m l k).2 = 0
  · rw [if_pos h, List.mem_singleton] at hx
    subst hx
    refine ⟨rfl, fun hlt => ?_⟩
    unfold tySol at h
    rw [if_pos hlt] at h
    exact absurd h (by decide)
  · rw [if_neg h] at hx; cases hx

theorem tyOks_own {m : Mo} {l : List Im} : ∀ {k : Nat}, k ≤ m.types.length → ∀ x ∈ tyOks m l k, ownAt m x.name < k
  | 0, _, x, hx => by cases hx
  | k + 1, hk, x, hx => by
    rw [tyOks] at hx
    rcases List.mem_append.1 hx with h | h
    · have := tyOks_own (k := k) (by omega) x h; omega
    · rw [(tyOk_own h).1]
      have := own_le (m := m) (k := k) (by omega)
      omega

theorem tyOks_apart {m : Mo} {l : List Im} : ∀ {k : Nat}, k ≤ m.types.length → Apart Kn.name (tyOks m l k)
  | 0, _ => List.Pairwise.nil
  | k + 1, hk => by
    rw [tyOks]
    refine List.pairwise_append.2 ⟨tyOks_apart (by omega), ?_, fun x hx y hy => ?_⟩
    · unfold tyOk
      split
      · exact List.pairwise_singleton _ _
      · exact List.Pairwise.nil
    · have h1 := tyOks_own (k := k) (by omega) x hx
      obtain ⟨h2, h3⟩ := tyOk_own hy
      cases hs : sEq x.name y.name with
      | false => rfl
      | true =>
        rw [sEq_eq hs, h2] at h1
        exact absurd h1 h3

theorem tyIns_perm (m : Mo) (l : List Im) : ∀ k, (tyIns m l k).Perm (tyOks m l k)
  | 0 => List.Perm.refl _
  | k + 1 => by
    rw [tyIns, tyOks]
    unfold tyOk
    by_cases h : (tySol m l k).2 = 0
    · rw [if_pos h, if_pos h]
      refine (insB_perm Kn.name _ _).trans ?_
      refine ((tyIns_perm m l k).cons _).trans ?_
      exact (List.perm_append_singleton _ _).symm
    · rw [if_neg h, if_neg h, List.append_nil]
      exact tyIns_perm m l k

theorem tyIns_rises {m : Mo} {l : List Im} : ∀ {k : Nat}, k ≤ m.types.length → RisesB Kn.name (tyIns m l k)
  | 0, _ => List.Pairwise.nil
  | k + 1, hk => by
    rw [tyIns]
    by_cases h : (tySol m l k).2 = 0
    · rw [if_pos h]
      refine insB_rises Kn.name (tyIns_rises (by omega)) fun y hy => ?_
      have hy' := (tyIns_perm m l k).subset hy
      have hap := tyOks_apart (m := m) (l := l) hk
      rw [tyOks] at hap
      refine (List.pairwise_append.1 hap).2.2 y hy' _ ?_
      unfold tyOk
      rw [if_pos h]; exact List.mem_singleton.2 rfl
    · rw [if_neg h]
      exact tyIns_rises (by omega)

/-- what sorting leaves is what laying each where it belongs leaves. -/
theorem tySorted {m : Mo} {l : List Im} {l' : List Kn} (hp : l'.Perm (tyOks m l m.types.length)) (hr : RisesB Kn.name l') : l' = tyIns m l m.types.length :=
  rises_one Kn.name hr (tyIns_rises (Nat.le_refl _)) (hp.trans (tyIns_perm m l _).symm)

theorem tyOks_le (m : Mo) (l : List Im) : ∀ k, (tyOks m l k).length ≤ k
  | 0 => Nat.le_refl _
  | k + 1 => by
    have := tyOks_le m l k
    rw [tyOks, List.length_append]
    unfold tyOk
    split <;> simp <;> omega
theorem tyBads_le (m : Mo) (l : List Im) : ∀ k, (tyBads m l k).length ≤ k
  | 0 => Nat.le_refl _
  | k + 1 => by
    have := tyBads_le m l k
    rw [tyBads, List.length_append]
    unfold tyBad
    split <;> simp <;> omega
theorem tyIns_le (m : Mo) (l : List Im) (k : Nat) : (tyIns m l k).length ≤ k := by
  rw [(tyIns_perm m l k).length_eq]; exact tyOks_le m l k

theorem tyOks_ok {m : Mo} {l : List Im} {k : Nat} (h : (tySol m l k).2 = 0) : tyOks m l (k + 1) = tyOks m l k ++ [⟨tyName m k, (tySol m l k).1⟩] ∧ tyBads m l (k + 1) = tyBads m l k ∧ tyIns m l (k + 1) = insB Kn.name ⟨tyName m k, (tySol m l k).1⟩ (tyIns m l k) := by
  refine ⟨?_, ?_, ?_⟩
  · rw [tyOks, tyOk, if_pos h]
  · rw [tyBads, tyBad, if_pos h, List.append_nil]
  · rw [tyIns, if_pos h]
theorem tyOks_bad {m : Mo} {l : List Im} {k : Nat} (h : (tySol m l k).2 ≠ 0) : tyOks m l (k + 1) = tyOks m l k ∧ tyBads m l (k + 1) = tyBads m l k ++ [⟨tyName m k, (tySol m l k).2⟩] ∧ tyIns m l (k + 1) = tyIns m l k := by
  refine ⟨?_, ?_, ?_⟩
  · rw [tyOks, tyOk, if_neg h, List.append_nil]
  · rw [tyBads, tyBad, if_neg h]
  · rw [tyIns, if_neg h]

theorem tySol_size {m : Mo} {l : List Im} (hz : ∀ i ∈ l, fcSmall i.face) (hn : ∀ f ∈ m.types, f.name.size ≤ 8) (k : Nat) : (tySol m l k).1.size ≤ maxLen ∧ (tyName m k).size ≤ maxLen := by
  constructor
  · unfold tySol
    split
    · exact Nat.zero_le _
    · cases hl : m.types.length <;> exact refR_size hz _ _ _ _ _
  · unfold tyName
    cases h : m.types[k]? with
    | none => exact Nat.zero_le _
    | some f =>
      have := hn f (List.mem_of_getElem? h)
      show f.name.size ≤ _
      unfold maxLen; omega

theorem tyOks_small {m : Mo} {l : List Im} (hz : ∀ i ∈ l, fcSmall i.face) (hn : ∀ f ∈ m.types, f.name.size ≤ 8) : ∀ (k : Nat), ∀ x ∈ tyOks m l k, x.name.size ≤ maxLen ∧ x.is.size ≤ maxLen
  | 0, x, hx => by cases hx
  | k + 1, x, hx => by
    rw [tyOks] at hx
    rcases List.mem_append.1 hx with h | h
    · exact tyOks_small hz hn k x h
    · unfold tyOk at h
      split at h
      · rw [List.mem_singleton.1 h]
        exact ⟨(tySol_size hz hn k).2, (tySol_size hz hn k).1⟩
      · cases h
theorem tyBads_small {m : Mo} {l : List Im} (hn : ∀ f ∈ m.types, f.name.size ≤ 8) : ∀ (k : Nat), ∀ x ∈ tyBads m l k, x.wh.size ≤ maxLen
  | 0, x, hx => by cases hx
  | k + 1, x, hx => by
    rw [tyBads] at hx
    rcases List.mem_append.1 hx with h | h
    · exact tyBads_small hn k x h
    · unfold tyBad at h
      split at h
      · cases h
      · rw [List.mem_singleton.1 h]
        show (tyName m k).size ≤ _
        unfold tyName
        cases h : m.types[k]? with
        | none => exact Nat.zero_le _
        | some f =>
          have := hn f (List.mem_of_getElem? h)
          show f.name.size ≤ _
          unfold maxLen; omega

end Go.Proofs.YtagbaimfigljiaaGreatDoor
namespace Go.Proofs.YtagbaimfigljiaaGreatDoor
open Go.RowKit
set_option maxRecDepth 100000

def fnOk (m : Mo) (l : List Im) (k : Nat) : List Sg := if oneCode m l k = 0 then [oneSg m l k] else []
def fnBad (m : Mo) (l : List Im) (k : Nat) : List Dg := if oneCode m l k = 0 then [] else [⟨fnName m k, oneCode m l k⟩]
def fnOks (m : Mo) (l : List Im) : Nat → List Sg
  | 0 => []
  | k + 1 => fnOks m l k ++ fnOk m l k
def fnBads (m : Mo) (l : List Im) : Nat → List Dg
  | 0 => []
  | k + 1 => fnBads m l k ++ fnBad m l k
def fnIns (m : Mo) (l : List Im) : Nat → List Sg
  | 0 => []
  | k + 1 => if oneCode m l k = 0 then insB Sg.name (oneSg m l k) (fnIns m l k) else fnIns m l k

theorem has_all {α : Type} {p : α → Bool} {l : List α} {k : Nat} (hk : k ≤ l.length) (h : decide (findAt p (l.take k) < (l.take k).length) = false) : ∀ q (hq : q < k), p (l[q]'(by omega)) = false := fun q hq => by
  cases hp : p (l[q]'(by omega)) with
  | false => rfl
  | true =>
    have hl : (l.take k).length = k := by rw [List.length_take]; omega
    have h1 : q < (l.take k).length := by omega
    have := find_le (p := p) (l := l.take k) (k := q) h1 (by rw [List.getElem_take]; exact hp)
    have := of_decide_eq_false h
    omega

/-- a function with which nothing is wrong has its name, and none ahead has it. -/
theorem oneSg_name {m : Mo} {l : List Im} {k : Nat} (hk : k < m.funcs.length) (h : oneCode m l k = 0) : (oneSg m l k).name = m.funcs[k].name ∧ ∀ q (hq : q < k), sEq (m.funcs[q]'(by omega)).name m.funcs[k].name = false := by
  obtain ⟨h1, h2⟩ := oneCode_at (l := l) hk
  by_cases hh : hasFu (m.funcs.take k) m.funcs[k].name = true
  · rw [h1, if_pos hh] at h; exact absurd h (by decide)
  · rw [h1, if_neg hh] at h
    rw [h2, if_neg hh]
    have hh' : hasFu (m.funcs.take k) m.funcs[k].name = false := by simpa using hh
    refine ⟨?_, has_all (p := fun x : Fu => sEq x.name m.funcs[k].name) (by omega) hh'⟩
    unfold sigOf
    rw [if_pos h]

theorem fnOks_from {m : Mo} {l : List Im} : ∀ {k : Nat}, k ≤ m.funcs.length → ∀ x ∈ fnOks m l k, ∃ (q : Nat) (hq : q < m.funcs.length), q < k ∧ x.name = m.funcs[q].name
  | 0, _, x, hx => by cases hx
  | k + 1, hk, x, hx => by
    rw [fnOks] at hx
    rcases List.mem_append.1 hx with h | h
    · obtain ⟨q, hq, h1, h2⟩ := fnOks_from (k := k) (by omega) x h
      exact ⟨q, hq, by omega, h2⟩
    · unfold fnOk at h
      by_cases hc : oneCode m l k = 0
      · rw [if_pos hc, List.mem_singleton] at h
        subst h
        exact ⟨k, by omega, by omega, (oneSg_name (by omega) hc).1⟩
      · rw [if_neg hc] at h; cases h

theorem fnOks_apart {m : Mo} {l : List Im} : ∀ {k : Nat}, k ≤ m.funcs.length → Apart Sg.name (fnOks m l k)
  | 0, _ => List.Pairwise.nil
  | k + 1, hk => by
    rw [fnOks]
    refine List.pairwise_append.2 ⟨fnOks_apart (by omega), ?_, fun x hx y hy => ?_⟩
    · unfold fnOk
      split
      · exact List.pairwise_singleton _ _
      · exact List.Pairwise.nil
    · unfold fnOk at hy
      by_cases hc : oneCode m l k = 0
      · rw [if_pos hc, List.mem_singleton] at hy
        subst hy
        obtain ⟨q, hq, h1, h2⟩ := fnOks_from (k := k) (by omega) x hx
        obtain ⟨h3, h4⟩ := oneSg_name (m := m) (l := l) (k := k) (by omega) hc
        rw [h2, h3]
        exact h4 q h1
      · rw [if_neg hc] at hy; cases hy

theorem fnIns_perm (m : Mo) (l : List Im) : ∀ k, (fnIns m l k).Perm (fnOks m l k)
  | 0 => List.Perm.refl _
  | k + 1 => by
    rw [fnIns, fnOks]
    unfold fnOk
    by_cases h : oneCode m l k = 0
    · rw [if_pos h, if_pos h]
      refine (insB_perm Sg.name _ _).trans ?_
      refine ((fnIns_perm m l k).cons _).trans ?_
      exact (List.perm_append_singleton _ _).symm
    · rw [if_neg h, if_neg h, List.append_nil]
      exact fnIns_perm m l k

theorem fnIns_rises {m : Mo} {l : List Im} : ∀ {k : Nat}, k ≤ m.funcs.length → RisesB Sg.name (fnIns m l k)
  | 0, _ => List.Pairwise.nil
  | k + 1, hk => by
    rw [fnIns]
    by_cases h : oneCode m l k = 0
    · rw [if_pos h]
      refine insB_rises Sg.name (fnIns_rises (by omega)) fun y hy => ?_
      have hy' := (fnIns_perm m l k).subset hy
      have hap := fnOks_apart (m := m) (l := l) hk
      rw [fnOks] at hap
      refine (List.pairwise_append.1 hap).2.2 y hy' _ ?_
      unfold fnOk
      rw [if_pos h]; exact List.mem_singleton.2 rfl
    · rw [if_neg h]
      exact fnIns_rises (by omega)

theorem fnSorted {m : Mo} {l : List Im} {l' : List Sg} (hp : l'.Perm (fnOks m l m.funcs.length)) (hr : RisesB Sg.name l') : l' = fnIns m l m.funcs.length :=
  rises_one Sg.name hr (fnIns_rises (Nat.le_refl _)) (hp.trans (fnIns_perm m l _).symm)

theorem fnOks_le (m : Mo) (l : List Im) : ∀ k, (fnOks m l k).length ≤ k
  | 0 => Nat.le_refl _
  | k + 1 => by
    have := fnOks_le m l k
    rw [fnOks, List.length_append]
    unfold fnOk
    split <;> simp <;> omega
theorem fnBads_le (m : Mo) (l : List Im) : ∀ k, (fnBads m l k).length ≤ k
  | 0 => Nat.le_refl _
  | k + 1 => by
    have := fnBads_le m l k
    rw [fnBads, List.length_append]
    unfold fnBad
    split <;> simp <;> omega
theorem fnIns_le (m : Mo) (l : List Im) (k : Nat) : (fnIns m l k).length ≤ k := by
  rw [(fnIns_perm m l k).length_eq]; exact fnOks_le m l k

theorem fnOks_ok {m : Mo} {l : List Im} {k : Nat} (h : oneCode m l k = 0) : fnOks m l (k + 1) = fnOks m l k ++ [oneSg m l k] ∧ fnBads m l (k + 1) = fnBads m l k ∧ fnIns m l (k + 1) = insB Sg.name (oneSg m l k) (fnIns m l k) := by
  refine ⟨?_, ?_, ?_⟩
  · rw [fnOks, fnOk, if_pos h]
  · rw [fnBads, fnBad, if_pos h, List.append_nil]
  · rw [fnIns, if_pos h]
theorem fnOks_bad {m : Mo} {l : List Im} {k : Nat} (h : oneCode m l k ≠ 0) : fnOks m l (k + 1) = fnOks m l k ∧ fnBads m l (k + 1) = fnBads m l k ++ [⟨fnName m k, oneCode m l k⟩] ∧ fnIns m l (k + 1) = fnIns m l k := by
  refine ⟨?_, ?_, ?_⟩
  · rw [fnOks, fnOk, if_neg h, List.append_nil]
  · rw [fnBads, fnBad, if_neg h]
  · rw [fnIns, if_neg h]

theorem fnBads_small {m : Mo} {l : List Im} (hn : ∀ f ∈ m.funcs, f.name.size ≤ 8) : ∀ (k : Nat), ∀ x ∈ fnBads m l k, x.wh.size ≤ maxLen
  | 0, x, hx => by cases hx
  | k + 1, x, hx => by
    rw [fnBads] at hx
    rcases List.mem_append.1 hx with h | h
    · exact fnBads_small hn k x h
    · unfold fnBad at h
      split at h
      · cases h
      · rw [List.mem_singleton.1 h]
        show (fnName m k).size ≤ _
        unfold fnName
        cases h : m.funcs[k]? with
        | none => exact Nat.zero_le _
        | some f =>
          have := hn f (List.mem_of_getElem? h)
          show f.name.size ≤ _
          unfold maxLen; omega

end Go.Proofs.YtagbaimfigljiaaGreatDoor
namespace Go.Proofs.YtagbaimfigljiaaGreatDoor
open Go.RowKit Go.Shelf
set_option maxRecDepth 100000
open Go.Sort (grow putRowK putRow mapBlock ahead onCells HoldsK Holds flatK size_flatK get_flatK alloc_eq_grow grow_grow)

section
variable {α : Type} [Inhabited α] (enc : α → List Value) (k : Nat)

theorem flat_at (hk : ∀ x, (enc x).length = k) (hk0 : 0 < k) : ∀ (l : List α) (j : Nat), j < l.length * k → (l.flatMap enc)[j]? = some ((enc (l.toArray[j / k]!))[j % k]!)
  | [], j, h => by simp at h
  | x :: r, j, h => by
    rw [List.flatMap_cons]
    by_cases hj : j < k
    · rw [List.getElem?_append_left (by rw [hk]; exact hj), Nat.div_eq_of_lt hj, Nat.mod_eq_of_lt hj]
      have : (x :: r).toArray[0]! = x := by simp
      rw [this, List.getElem?_eq_getElem (by rw [hk]; exact hj), getElem!_pos]
    · have hj' : j - k < r.length * k := by rw [List.length_cons, Nat.add_mul, Nat.one_mul] at h; omega
      rw [List.getElem?_append_right (by rw [hk]; omega), hk, flat_at hk hk0 r (j - k) hj']
      have e1 : j / k = (j - k) / k + 1 := by
        conv => lhs; rw [show j = (j - k) + k by omega]
        exact Nat.add_div_right _ hk0
      have e2 : j % k = (j - k) % k := by
        conv => lhs; rw [show j = (j - k) + k by omega]
        exact Nat.add_mod_right _ _
      rw [e1, e2]
      have : (x :: r).toArray[(j - k) / k + 1]! = r.toArray[(j - k) / k]! := by
        simp [getElem!_def]
      rw [this]

theorem owns_holds {w : World} {base : Nat} {e : TypeId} {g cap : Nat} {l : List α} (hk : ∀ x, (enc x).length = k) (hk0 : 0 < k) (h : w.ownsRow base e k (.slice (some ⟨g, 0, none⟩) l.length cap) l.length (l.flatMap enc)) : HoldsK enc k w g 0 l.toArray := by
  obtain ⟨hx, ⟨hv, _⟩ | ⟨g', cap', cur, hv, hg, hh, h1, h2, h3, h4⟩⟩ := h
  · cases hv
  · injection hv with e1 e2 e3
    injection e1 with e1
    injection e1 with e1
    subst e1 e3
    intro j hj
    rw [size_flatK] at hj
    have hj' : j < l.length * k := by simpa using hj
    have hf := flat_at enc k hk hk0 l j hj'
    rw [← h4, List.getElem?_take_of_lt hj'] at hf
    rw [get_flatK enc k l.toArray j hj]
    refine ⟨?_, Lib.frozen_of_heap hh _⟩
    rw [cell_of_row w g (0 + j) cur e (0, 0) hh, Nat.zero_add]
    simpa using hf

theorem sortWorld_grown {w : World} {g m : Nat} {d : Array α} {os : Array Obj} : w.grownBy (sortWorldK enc k w g 0 m d os) (some g) := by
  refine ⟨rfl, rfl, rfl, ?_, fun j hj hjg => ?_⟩
  · simp [sortWorldK, grow, putRowK, putRow, mapBlock]
  · have hne : g ≠ j := fun e => hjg (by rw [e])
    simp [sortWorldK, grow, putRowK, putRow, mapBlock, Array.getElem?_append, hj, Array.getElem_modify, hne]

theorem sortWorld_holds {w : World} {g m : Nat} {d d' : Array α} {os : Array Obj} (hH : HoldsK enc k w g 0 d) (hg : g < w.heap.size) (hs : d'.size = d.size) : HoldsK enc k (sortWorldK enc k w g 0 m d' os) g 0 d' :=
  SWK.holds ⟨m, os, rfl⟩ hg hH hs

end

end Go.Proofs.YtagbaimfigljiaaGreatDoor
namespace Go.Proofs
open Go.Shelf
def Tryz.sortKn_ren : Go.Shelf.Ren := ⟨fun | 6 => 151 | 15 => 73 | 14 => 218 | 28 => 136 | 29 => 137 | 20 => 280 | 21 => 281 | 22 => 282 | 23 => 283 | 24 => 284 | 25 => 285 | 26 => 286 | 27 => 287 | 46 => 318 | 47 => 205 | 48 => 206 | 49 => 319 | 50 => 320 | 57 => 339 | n => n, fun | 22 => 27 | 24 => 91 | 25 => 215 | 3 => 3 | 39 => 133 | 0 => 0 | 53 => 195 | 55 => 197 | 4 => 4 | 46 => 188 | 45 => 187 | 50 => 192 | 5 => 5 | 9 => 9 | 66 => 251 | 70 => 255 | 76 => 299 | 77 => 300 | n => n, fun | n => n⟩
theorem Tryz.sortKn : Go.Proofs.SlLaysF0.n6 Tryz.prog Tryz.sortKn_ren := {
  mixed := by kernel_rfl
  f6 := ⟨Tryz.f151.name, by decide, Tryz.func151.trans (congrArg some (by kernel_rfl))⟩
  f14 := ⟨Tryz.f218.name, by decide, Tryz.func218.trans (congrArg some (by kernel_rfl))⟩
  f15 := Tryz.func73.trans (congrArg some (by kernel_rfl))
  f20 := ⟨Tryz.f280.name, by decide, Tryz.func280.trans (congrArg some (by kernel_rfl))⟩
  f21 := ⟨Tryz.f281.name, by decide, Tryz.func281.trans (congrArg some (by kernel_rfl))⟩
  f22 := ⟨Tryz.f282.name, by decide, Tryz.func282.trans (congrArg some (by kernel_rfl))⟩
  f23 := ⟨Tryz.f283.name, by decide, Tryz.func283.trans (congrArg some (by kernel_rfl))⟩
  f24 := ⟨Tryz.f284.name, by decide, Tryz.func284.trans (congrArg some (by kernel_rfl))⟩
  f25 := ⟨Tryz.f285.name, by decide, Tryz.func285.trans (congrArg some (by kernel_rfl))⟩
  f26 := ⟨Tryz.f286.name, by decide, Tryz.func286.trans (congrArg some (by kernel_rfl))⟩
  f27 := ⟨Tryz.f287.name, by decide, Tryz.func287.trans (congrArg some (by kernel_rfl))⟩
  f28 := Tryz.func136.trans (congrArg some (by kernel_rfl))
  f29 := Tryz.func137.trans (congrArg some (by kernel_rfl))
  f46 := ⟨Tryz.f318.name, by decide, Tryz.func318.trans (congrArg some (by kernel_rfl))⟩
  f47 := Tryz.func205.trans (congrArg some (by kernel_rfl))
  f48 := Tryz.func206.trans (congrArg some (by kernel_rfl))
  f49 := ⟨Tryz.f319.name, by decide, Tryz.func319.trans (congrArg some (by kernel_rfl))⟩
  f50 := ⟨Tryz.f320.name, by decide, Tryz.func320.trans (congrArg some (by kernel_rfl))⟩
  f57 := ⟨Tryz.f339.name, by decide, Tryz.func339.trans (congrArg some (by kernel_rfl))⟩
  t0 := Tryz.underlying0
  a0 := Tryz.isAgg0
  z0 := Tryz.sizeOf0
  v0 := Tryz.zeroValue0
  t3 := Tryz.underlying3
  a3 := Tryz.isAgg3
  z3 := Tryz.sizeOf3
  v3 := Tryz.zeroValue3
  t4 := Tryz.underlying4
  a4 := Tryz.isAgg4
  z4 := Tryz.sizeOf4
  v4 := Tryz.zeroValue4
  t5 := Tryz.underlying5
  a5 := Tryz.isAgg5
  z5 := Tryz.sizeOf5
  v5 := Tryz.zeroValue5
  t9 := Tryz.underlying9
  a9 := Tryz.isAgg9
  z9 := Tryz.sizeOf9
  v9 := Tryz.zeroValue9
  t22 := Tryz.underlying27
  a22 := Tryz.isAgg27
  z22 := Tryz.sizeOf27
  v22 := Tryz.zeroValue27
  t25 := Tryz.underlying215
  a25 := Tryz.isAgg215
  z25 := Tryz.sizeOf215
  v25 := Tryz.zeroValue215
  t39 := Tryz.underlying133
  a39 := Tryz.isAgg133
  z39 := Tryz.sizeOf133
  v39 := Tryz.zeroValue133
  t45 := Tryz.underlying187
  a45 := Tryz.isAgg187
  z45 := Tryz.sizeOf187
  v45 := Tryz.zeroValue187
  t46 := Tryz.underlying188
  a46 := Tryz.isAgg188
  z46 := Tryz.sizeOf188
  v46 := Tryz.zeroValue188
  t50 := Tryz.underlying192
  a50 := Tryz.isAgg192
  z50 := Tryz.sizeOf192
  v50 := Tryz.zeroValue192
  t53 := Tryz.underlying195
  a53 := Tryz.isAgg195
  z53 := Tryz.sizeOf195
  v53 := Tryz.zeroValue195
  t55 := Tryz.underlying197
  a55 := Tryz.isAgg197
  z55 := Tryz.sizeOf197
  v55 := Tryz.zeroValue197
  t66 := Tryz.underlying251
  a66 := Tryz.isAgg251
  z66 := Tryz.sizeOf251
  v66 := Tryz.zeroValue251
  t70 := Tryz.underlying255
  a70 := Tryz.isAgg255
  z70 := Tryz.sizeOf255
  v70 := Tryz.zeroValue255
  t76 := Tryz.underlying299
  a76 := Tryz.isAgg299
  z76 := Tryz.sizeOf299
  v76 := Tryz.zeroValue299
  t77 := Tryz.underlying300
  a77 := Tryz.isAgg300
  z77 := Tryz.sizeOf300
  v77 := Tryz.zeroValue300 }
def Tryz.sortSg_ren : Go.Shelf.Ren := ⟨fun | 6 => 82 | 15 => 73 | 14 => 157 | 28 => 136 | 29 => 137 | 20 => 225 | 21 => 226 | 22 => 227 | 23 => 228 | 24 => 229 | 25 => 230 | 26 => 231 | 27 => 232 | 46 => 293 | 47 => 205 | 48 => 206 | 49 => 294 | 50 => 295 | 57 => 324 | n => n, fun | 22 => 28 | 24 => 65 | 25 => 145 | 3 => 3 | 39 => 133 | 0 => 0 | 53 => 195 | 55 => 197 | 4 => 4 | 46 => 188 | 45 => 187 | 50 => 192 | 5 => 5 | 9 => 9 | 66 => 251 | 70 => 255 | 76 => 299 | 77 => 300 | n => n, fun | n => n⟩
theorem Tryz.sortSg : Go.Proofs.SlLaysF0.n6 Tryz.prog Tryz.sortSg_ren := {
  mixed := by kernel_rfl
  f6 := ⟨Tryz.f82.name, by decide, Tryz.func82.trans (congrArg some (by kernel_rfl))⟩
  f14 := ⟨Tryz.f157.name, by decide, Tryz.func157.trans (congrArg some (by kernel_rfl))⟩
  f15 := Tryz.func73.trans (congrArg some (by kernel_rfl))
  f20 := ⟨Tryz.f225.name, by decide, Tryz.func225.trans (congrArg some (by kernel_rfl))⟩
  f21 := ⟨Tryz.f226.name, by decide, Tryz.func226.trans (congrArg some (by kernel_rfl))⟩
  f22 := ⟨Tryz.f227.name, by decide, Tryz.func227.trans (congrArg some (by kernel_rfl))⟩
  f23 := ⟨Tryz.f228.name, by decide, Tryz.func228.trans (congrArg some (by kernel_rfl))⟩
  f24 := ⟨Tryz.f229.name, by decide, Tryz.func229.trans (congrArg some (by kernel_rfl))⟩
  f25 := ⟨Tryz.f230.name, by decide, Tryz.func230.trans (congrArg some (by kernel_rfl))⟩
  f26 := ⟨Tryz.f231.name, by decide, Tryz.func231.trans (congrArg some (by kernel_rfl))⟩
  f27 := ⟨Tryz.f232.name, by decide, Tryz.func232.trans (congrArg some (by kernel_rfl))⟩
  f28 := Tryz.func136.trans (congrArg some (by kernel_rfl))
  f29 := Tryz.func137.trans (congrArg some (by kernel_rfl))
  f46 := ⟨Tryz.f293.name, by decide, Tryz.func293.trans (congrArg some (by kernel_rfl))⟩
  f47 := Tryz.func205.trans (congrArg some (by kernel_rfl))
  f48 := Tryz.func206.trans (congrArg some (by kernel_rfl))
  f49 := ⟨Tryz.f294.name, by decide, Tryz.func294.trans (congrArg some (by kernel_rfl))⟩
  f50 := ⟨Tryz.f295.name, by decide, Tryz.func295.trans (congrArg some (by kernel_rfl))⟩
  f57 := ⟨Tryz.f324.name, by decide, Tryz.func324.trans (congrArg some (by kernel_rfl))⟩
  t0 := Tryz.underlying0
  a0 := Tryz.isAgg0
  z0 := Tryz.sizeOf0
  v0 := Tryz.zeroValue0
  t3 := Tryz.underlying3
  a3 := Tryz.isAgg3
  z3 := Tryz.sizeOf3
  v3 := Tryz.zeroValue3
  t4 := Tryz.underlying4
  a4 := Tryz.isAgg4
  z4 := Tryz.sizeOf4
  v4 := Tryz.zeroValue4
  t5 := Tryz.underlying5
  a5 := Tryz.isAgg5
  z5 := Tryz.sizeOf5
  v5 := Tryz.zeroValue5
  t9 := Tryz.underlying9
  a9 := Tryz.isAgg9
  z9 := Tryz.sizeOf9
  v9 := Tryz.zeroValue9
  t22 := Tryz.underlying28
  a22 := Tryz.isAgg28
  z22 := Tryz.sizeOf28
  v22 := Tryz.zeroValue28
  t25 := Tryz.underlying145
  a25 := Tryz.isAgg145
  z25 := Tryz.sizeOf145
  v25 := Tryz.zeroValue145
  t39 := Tryz.underlying133
  a39 := Tryz.isAgg133
  z39 := Tryz.sizeOf133
  v39 := Tryz.zeroValue133
  t45 := Tryz.underlying187
  a45 := Tryz.isAgg187
  z45 := Tryz.sizeOf187
  v45 := Tryz.zeroValue187
  t46 := Tryz.underlying188
  a46 := Tryz.isAgg188
  z46 := Tryz.sizeOf188
  v46 := Tryz.zeroValue188
  t50 := Tryz.underlying192
  a50 := Tryz.isAgg192
  z50 := Tryz.sizeOf192
  v50 := Tryz.zeroValue192
  t53 := Tryz.underlying195
  a53 := Tryz.isAgg195
  z53 := Tryz.sizeOf195
  v53 := Tryz.zeroValue195
  t55 := Tryz.underlying197
  a55 := Tryz.isAgg197
  z55 := Tryz.sizeOf197
  v55 := Tryz.zeroValue197
  t66 := Tryz.underlying251
  a66 := Tryz.isAgg251
  z66 := Tryz.sizeOf251
  v66 := Tryz.zeroValue251
  t70 := Tryz.underlying255
  a70 := Tryz.isAgg255
  z70 := Tryz.sizeOf255
  v70 := Tryz.zeroValue255
  t76 := Tryz.underlying299
  a76 := Tryz.isAgg299
  z76 := Tryz.sizeOf299
  v76 := Tryz.zeroValue299
  t77 := Tryz.underlying300
  a77 := Tryz.isAgg300
  z77 := Tryz.sizeOf300
  v77 := Tryz.zeroValue300 }
def Tryz.lays106_ren : Go.Shelf.Ren := ⟨fun | 106 => 84 | 213 => 158 | 265 => 233 | n => n, fun | 9 => 9 | 3 => 3 | n => n, fun | n => n⟩
theorem Tryz.lays106 : Go.Proofs.Lays.n106 Tryz.prog Tryz.lays106_ren := {
  mixed := by kernel_rfl
  f106 := Tryz.func84.trans (congrArg some (by kernel_rfl))
  f213 := Tryz.func158.trans (congrArg some (by kernel_rfl))
  f265 := Tryz.func233.trans (congrArg some (by kernel_rfl))
  t3 := Tryz.underlying3
  a3 := Tryz.isAgg3
  z3 := Tryz.sizeOf3
  v3 := Tryz.zeroValue3
  t9 := Tryz.underlying9
  a9 := Tryz.isAgg9
  z9 := Tryz.sizeOf9
  v9 := Tryz.zeroValue9 }
theorem Tryz.strings_Compare (a b : ByteArray) (w : World) :
    Calls Tryz.prog 84 #[.string a, .string b] w fun e w' => e = .returned (.int .i64 (Lib.compareBytes a.data.toList b.data.toList)) ∧ w' = w := Any.strings_Compare Tryz.lays106 a b w
end Go.Proofs
namespace Go.Proofs.YtagbaimfigljiaaGreatDoor
open Go.RowKit Go.Shelf
set_option maxRecDepth 100000
open Go.Sort (grow putRowK putRow mapBlock ahead onCells HoldsK Holds flatK size_flatK get_flatK alloc_eq_grow grow_grow)

/-- a signature, and where its params lie. -/
abbrev Sy := Sg × Option Addr × Nat × Nat
def syName (y : Sy) : ByteArray := y.1.name
def syVal (y : Sy) : Value := .slice y.2.1 y.2.2.1 y.2.2.2
def encSy (y : Sy) : List Value := [.string y.1.name, .slice y.2.1 y.2.2.1 y.2.2.2, .string y.1.result]
def syCells (l : List Sy) : List Value := l.flatMap encSy
theorem syCells_snoc (l : List Sy) (y : Sy) : syCells (l ++ [y]) = syCells l ++ [.string y.1.name, syVal y, .string y.1.result] := by simp [syCells, encSy, syVal]
def SyAt (w : World) (y : Sy) (b o : Nat) : Prop := w.cell? ⟨b, o, none⟩ = some (.string y.1.name) ∧ w.cell? ⟨b, o + 1, none⟩ = some (syVal y) ∧ w.cell? ⟨b, o + 2, none⟩ = some (.string y.1.result)

set_option maxHeartbeats 1000000 in
/-- the closure. -/
theorem byName_sg (x y : Sy) (W : World) : Calls Tryz.prog 83 #[.agg #[.string x.1.name, .slice x.2.1 x.2.2.1 x.2.2.2, .string x.1.result], .agg #[.string y.1.name, .slice y.2.1 y.2.2.1 y.2.2.2, .string y.1.result]] W fun e w' => e = .returned (.int .i64 (cmpN syName x y)) ∧ ∃ q os', w' = grow (W.drewN q) os' := by
  have HC : Hid (∀ W, Calls Tryz.prog 84 #[.string x.1.name, .string y.1.name] W fun e w' => e = .returned (.int .i64 (Lib.compareBytes x.1.name.data.toList y.1.name.data.toList)) ∧ w' = W) := fun W => Tryz.strings_Compare x.1.name y.1.name W
  have HE : Hid (cmpN syName x y = Lib.compareBytes x.1.name.data.toList y.1.name.data.toList) := rfl
  generalize cmpN syName x y = r at *
  generalize Lib.compareBytes x.1.name.data.toList y.1.name.data.toList = r' at *
  go_enter Tryz.func83, Tryz.ntmps83
  go_wp2_with fail
  refine (HC.out _).mono ?_
  rintro e w' ⟨rfl, rfl⟩
  go_wp2_with fail
  go_ret
  exact ⟨by rw [HE.out]; rfl, 0, _, by rw [alloc_eq_grow, alloc_eq_grow, grow_grow]; rfl⟩

theorem sort_sg {w : World} {base : Nat} {v : Value} {l : List Sy} (h : w.ownsRow base 65 3 v l.length (syCells l)) (hl : l.length ≤ 100) (ha : Apart syName l) :
    Calls Tryz.prog 82 #[v, .func (.func 83) #[] #[]] w fun e w' => e = .returned (.tuple #[]) ∧ (∃ l', l'.Perm l ∧ RisesB syName l' ∧ SlAt (fun b => (v.ownBlock = some b ∧ base ≤ b) ∧ b < w'.heap.size) (SyAt w') 3 l' v) ∧ w.grownBy w' v.ownBlock := by
  have hml : l.length ≤ maxLen := by unfold maxLen; omega
  by_cases he : l = []
  · subst he
    obtain ⟨a, cap, rfl⟩ : ∃ a cap, v = .slice a 0 cap := by
      obtain ⟨_, ⟨hv, _⟩ | ⟨g, cap, cur, hv, _⟩⟩ := h
      · exact ⟨_, _, hv⟩
      · exact ⟨_, _, hv⟩
    have hc := AnyF.slices_SortFunc_none Tryz.sortSg a cap (.func (.func 83) #[] #[]) w
    change Calls Tryz.prog 82 _ _ _ at hc
    refine hc.mono ?_
    rintro e w' ⟨rfl, rfl⟩
    refine ⟨rfl, ⟨[], List.Perm.refl _, List.Pairwise.nil, a, cap, rfl, ⟨by simp, by simp⟩, Or.inl rfl⟩, ⟨rfl, rfl, rfl, Nat.le_refl _, fun _ _ _ => rfl⟩⟩
  · have hpos : 0 < l.length := List.length_pos_iff.2 he
    obtain ⟨g, cap, rfl, hg, hgl⟩ := h.form hpos
    have hH : HoldsK encSy 3 w g 0 l.toArray := owns_holds encSy 3 (fun _ => rfl) (by omega) h
    have hcap : l.length ≤ cap := by
      obtain ⟨_, ⟨hv, _⟩ | ⟨g', cap', cur, hv, _, _, h1, _⟩⟩ := h
      · cases hv
      · injection hv with _ _ e3
        subst e3; exact h1
    have hsz : l.toArray.size = l.length := by simp
    have eg : ∀ args w, (callFunc 83 args).run Tryz.prog w = .ok (.enter 83 args) w := enters_of Tryz.func83 (by kernel_rfl) rfl
    have hcmp : CmpLays Tryz.prog 83 #[] encSy 3 (cmpN syName) g 0 l.toArray.size w := fun _ _ _ _ x y => byName_sg x y _
    have hc := AnyQ.slices_SortFunc Tryz.sortSg 3 Tryz.isAgg65 Tryz.sizeOf65 encSy (fun _ => rfl) (fun x v hv => by simp [encSy] at hv; rcases hv with rfl | rfl | rfl <;> rfl) (cmpN syName) (swo_cmpN syName) 83 #[] g 0 cap l.toArray w eg hcmp hH hgl (by rw [hsz]; omega)
    change Calls Tryz.prog 82 _ _ _ at hc
    rw [hsz] at hc
    refine hc.mono ?_
    rintro e w' ⟨rfl, d', n, os, hp, hs, rfl⟩
    have hp' : Sort.PermIn 0 l.toArray.size l.toArray d' := by rw [hsz]; exact hp
    have hs' : Sort.SortedIn (ltOf (cmpN syName)) 0 l.toArray.size d' := by rw [hsz]; exact hs
    obtain ⟨hperm, hrise⟩ := sorted_rises syName hp' hs' (by simpa using ha)
    have hlen : d'.toList.length = l.length := by rw [hperm.length_eq]
    have hds : d'.size = l.toArray.size := by rw [hsz, ← hlen, Array.length_toList]
    have hH' := sortWorld_holds encSy 3 (m := n) (os := os) hH hgl hds
    have hbl := sortWorld_grown encSy 3 (w := w) (g := g) (m := n) (d := d') (os := os)
    refine ⟨rfl, ⟨d'.toList, by simpa using hperm, hrise, some ⟨g, 0, none⟩, cap, by rw [hlen], ⟨by rw [hlen]; exact hml, by rw [hlen]; exact hcap⟩, Or.inr ⟨g, 0, rfl, ⟨⟨rfl, hg⟩, Nat.lt_of_lt_of_le hgl ?_⟩, RowAt.mk fun i hi => ?_⟩⟩, hbl⟩
    · simp [sortWorldK, grow, putRowK, putRow, mapBlock]
    · have hi' : i < d'.size := by simpa using hi
      have g0 := (hH' (i * 3) (by rw [size_flatK]; omega)).1
      have g1 := (hH' (i * 3 + 1) (by rw [size_flatK]; omega)).1
      have g2 := (hH' (i * 3 + 2) (by rw [size_flatK]; omega)).1
      rw [get_flatK _ _ _ _ (by omega), show i * 3 / 3 = i by omega, show i * 3 % 3 = 0 by omega] at g0
      rw [get_flatK _ _ _ _ (by omega), show (i * 3 + 1) / 3 = i by omega, show (i * 3 + 1) % 3 = 1 by omega] at g1
      rw [get_flatK _ _ _ _ (by omega), show (i * 3 + 2) / 3 = i by omega, show (i * 3 + 2) % 3 = 2 by omega] at g2
      have e0 : d'[i]! = d'.toList[i] := by simp [getElem!_pos, hi']
      rw [e0] at g0 g1 g2
      exact ⟨by simpa [encSy] using g0, by simpa [encSy, syVal, Nat.add_assoc] using g1, by simpa [encSy, Nat.add_assoc] using g2⟩

end Go.Proofs.YtagbaimfigljiaaGreatDoor
namespace Go.Proofs.YtagbaimfigljiaaGreatDoor
open Go.RowKit
set_option maxRecDepth 100000

set_option maxHeartbeats 4000000 in
theorem ownType_any (S : Nat → Prop) (m : Mo) (l : List Im) (k : Nat) (vm vl : Value) (w : World) (hS : ∀ b, S b → b < w.heap.size) (hm : MoIs S w m vm) (hl : SlAt S (ImAt S w) 4 l vl) (hz : ∀ i ∈ l, fcSmall i.face) (hty : ∀ f ∈ m.types, tyFault f.is 1 = 0) (hn : m.types.length ≤ reachBytes) (hk : k < m.types.length) :
    Calls Tryz.prog 149 #[vm, vl, .int .i64 (k : Nat)] w (Tells w (tySol m l k)) := by
  rw [tySol_code hk hty]
  obtain ⟨vu, vty, vf, rfl, hu, hts, hf⟩ := id hm
  obtain ⟨u1, u2, u3, rfl⟩ := hu.slice
  obtain ⟨t1, t3, rfl⟩ := hts.is
  obtain ⟨f1, f2, f3, rfl⟩ := hf.slice
  obtain ⟨la, ln, lc, rfl⟩ := hl.slice
  obtain ⟨_, b, off, rfl, hb, hat⟩ := hts.at hk
  obtain ⟨kd, fo, na, p1, p2, p3, a0, a1, a2, a3, a4, hcs⟩ := fd_cells hat
  have hbw := hS b hb
  have hle : ownAt m m.types[k].name ≤ k := by rw [← tyName_at hk]; exact own_le hk
  have HN : Hid (∀ W, Below w.heap.size w W → Calls Tryz.prog 217 #[.slice (some ⟨b, off, none⟩) m.types.length t3, .string m.types[k].name] W fun e w' => e = .returned (.int .i64 (ownAt m m.types[k].name : Nat)) ∧ Below W.heap.size W w') := fun W hW => by
    have := named_any S m.types m.types[k].name _ W (fun b hb => Nat.lt_of_lt_of_le (hS b hb) hW.size) (fdSl_keep (Keeps.below hW hS) hts)
    rwa [own_idx (by omega)] at this
  have HSol : Hid (∀ W, Below w.heap.size w W → Calls Tryz.prog 156 #[.agg #[.slice u1 u2 u3, .slice (some ⟨b, off, none⟩) m.types.length t3, .slice f1 f2 f3], .slice la ln lc, .string ⟨#[]⟩, .agg #[.int .i64 kd, .string fo, .string na, .slice p1 p2 p3]] W (Tells W (solveP (topR noneS (findR m l m.types.length [])) 10 m.types[k].is))) := fun W hW =>
    solveAll_any S m l noneS m.types[k].is _ _ _ W (fun b hb => Nat.lt_of_lt_of_le (hS b hb) hW.size) (hm.keep (Keeps.below hW hS)) (imSl_keep (Keeps.below hW hS) hl) hz hty (hty _ (List.getElem_mem hk)) ⟨_, _, _, _, rfl, hcs.keep (Keeps.below hW hS)⟩ hn
  obtain ⟨w2, hwe, hs2, y0, y1, y2, hbel⟩ : ∃ w2, w.alloc (.cells #[.slice u1 u2 u3, .slice (some ⟨b, off, none⟩) m.types.length t3, .slice f1 f2 f3] 44) = w2 ∧ w2.heap.size = w.heap.size + 1 ∧ w2.cell? ⟨w.heap.size, 0, none⟩ = some (.slice u1 u2 u3) ∧ w2.cell? ⟨w.heap.size, 1, none⟩ = some (.slice (some ⟨b, off, none⟩) m.types.length t3) ∧ w2.cell? ⟨w.heap.size, 2, none⟩ = some (.slice f1 f2 f3) ∧ Below w.heap.size w w2 :=
    ⟨_, rfl, by simp, by simp [go_sem], by simp [go_sem], by simp [go_sem], (Below.refl _ _).alloc (Nat.le_refl _) _⟩
  have HCells : Hid (∀ W, Below w2.heap.size w2 W → (W.cell? ⟨b, off + k * 5, none⟩ = some (.string m.types[k].name) ∧ W.cell? ⟨b, off + k * 5 + 1, none⟩ = some (.int .i64 kd) ∧ W.cell? ⟨b, off + k * 5 + 2, none⟩ = some (.string fo) ∧ W.cell? ⟨b, off + k * 5 + 3, none⟩ = some (.string na) ∧ W.cell? ⟨b, off + k * 5 + 4, none⟩ = some (.slice p1 p2 p3)) ∧ (W.cell? ⟨w.heap.size, 0, none⟩ = some (.slice u1 u2 u3) ∧ W.cell? ⟨w.heap.size, 1, none⟩ = some (.slice (some ⟨b, off, none⟩) m.types.length t3) ∧ W.cell? ⟨w.heap.size, 2, none⟩ = some (.slice f1 f2 f3)) ∧ Below w.heap.size w W) := fun W hW => by
    have hW2 := hbel.trans (hW.mono hbel.size)
    exact ⟨⟨(hW2.cell (p := ⟨b, _, none⟩) hbw).trans a0, (hW2.cell (p := ⟨b, _, none⟩) hbw).trans a1, (hW2.cell (p := ⟨b, _, none⟩) hbw).trans a2, (hW2.cell (p := ⟨b, _, none⟩) hbw).trans a3, (hW2.cell (p := ⟨b, _, none⟩) hbw).trans a4⟩, ⟨(hW.cell (p := ⟨w.heap.size, 0, none⟩) (by show w.heap.size < _; omega)).trans y0, (hW.cell (p := ⟨w.heap.size, 1, none⟩) (by show w.heap.size < _; omega)).trans y1, (hW.cell (p := ⟨w.heap.size, 2, none⟩) (by show w.heap.size < _; omega)).trans y2⟩, hW2⟩
  have HWe := veil hwe
  clear hm hl hz hty hn hu hts hf hat hcs hwe hbel a0 a1 a2 a3 a4 y0 y1 y2
  generalize solveP (topR noneS (findR m l m.types.length [])) 10 m.types[k].is = r at *
  generalize ownAt m m.types[k].name = q at *
  generalize m.types[k].name = nm at *
  have hk1 : (k : Int) < (m.types.length : Int) := by omega
  have hk2 : (0 : Int) ≤ (k : Int) := by omega
  obtain ⟨⟨c0, c1, c2, c3, c4⟩, ⟨c5, c6, c7⟩, hb2⟩ := HCells.out w2 (Below.refl _ _)
  have HB2 := veil hb2.drew
  clear hb2
  by_cases hlt : q < k
  · have hlt' : (q : Int) < (k : Int) := by omega
    have HR : Hid ((if q < k then (noneS, (4 : Int)) else r) = (noneS, 4)) := if_pos hlt
    generalize (if q < k then (noneS, (4 : Int)) else r) = r' at *
    clear HSol
    go_enter Tryz.func149, Tryz.ntmps149
    go_wp2_with fail
    rw [HWe.out]
    go_wp2_with fail
    go_region_with (go_at_call 217; refine (HN.out _ HB2.out).mono ?_; rintro e w3 ⟨rfl, hb3⟩)
    all_goals
      have HB3 := veil (HB2.out.trans (hb3.mono HB2.out.size))
      clear hb3 c0 c1 c2 c3 c4 c5 c6 c7
      go_wp2_with fail
      go_ret2
      exact ⟨by rw [HR.out]; rfl, HB3.out⟩
  · have hlt' : ¬ (q : Int) < (k : Int) := by omega
    have HR : Hid ((if q < k then (noneS, (4 : Int)) else r) = r) := if_neg hlt
    generalize (if q < k then (noneS, (4 : Int)) else r) = r' at *
    go_enter Tryz.func149, Tryz.ntmps149
    go_wp2_with fail
    rw [HWe.out]
    go_wp2_with fail
    go_region_with (go_at_call 217; refine (HN.out _ HB2.out).mono ?_; rintro e w3 ⟨rfl, hb3⟩)
    all_goals
      obtain ⟨⟨d0, d1, d2, d3, d4⟩, ⟨d5, d6, d7⟩, hb4⟩ := HCells.out w3 ((Below.refl _ _).drew.trans (hb3.mono (Nat.le_refl _)))
      have HB4 := veil hb4.drew
      clear hb3 hb4 c0 c1 c2 c3 c4 c5 c6 c7
      go_wp2_with fail
      go_region_with (go_at_call 156; refine (HSol.out _ HB4.out).mono ?_; rintro e w5 ⟨rfl, hb5⟩)
      all_goals
        have HB5 := veil (HB4.out.trans (hb5.mono HB4.out.size))
        clear hb5
        go_wp2_with fail
        go_ret2
        exact ⟨by rw [HR.out]; rfl, HB5.out⟩

end Go.Proofs.YtagbaimfigljiaaGreatDoor
namespace Go.Proofs.YtagbaimfigljiaaGreatDoor
open Go.RowKit Go.Shelf
set_option maxRecDepth 100000
open Go.Sort (grow putRowK putRow mapBlock ahead onCells HoldsK Holds flatK size_flatK get_flatK alloc_eq_grow grow_grow)

def encKn (x : Kn) : List Value := [.string x.name, .string x.is]
def knCells (l : List Kn) : List Value := l.flatMap encKn
theorem knCells_snoc (l : List Kn) (x : Kn) : knCells (l ++ [x]) = knCells l ++ [.string x.name, .string x.is] := by simp [knCells, encKn]

set_option maxHeartbeats 1000000 in
/-- the closure. -/
theorem byName_kn (x y : Kn) (W : World) : Calls Tryz.prog 152 #[.agg #[.string x.name, .string x.is], .agg #[.string y.name, .string y.is]] W fun e w' => e = .returned (.int .i64 (cmpN Kn.name x y)) ∧ ∃ q os', w' = grow (W.drewN q) os' := by
  have HC : Hid (∀ W, Calls Tryz.prog 84 #[.string x.name, .string y.name] W fun e w' => e = .returned (.int .i64 (Lib.compareBytes x.name.data.toList y.name.data.toList)) ∧ w' = W) := fun W => Tryz.strings_Compare x.name y.name W
  have HE : Hid (cmpN Kn.name x y = Lib.compareBytes x.name.data.toList y.name.data.toList) := rfl
  generalize cmpN Kn.name x y = r at *
  generalize Lib.compareBytes x.name.data.toList y.name.data.toList = r' at *
  go_enter Tryz.func152, Tryz.ntmps152
  go_wp2_with fail
  refine (HC.out _).mono ?_
  rintro e w' ⟨rfl, rfl⟩
  go_wp2_with fail
  go_ret
  exact ⟨by rw [HE.out]; rfl, 0, _, by rw [alloc_eq_grow, alloc_eq_grow, grow_grow]; rfl⟩

/-- what the sort leaves. -/
def KnSorted (base : Nat) (v : Value) (l l' : List Kn) (w' : World) : Prop := l'.Perm l ∧ RisesB Kn.name l' ∧ SlAt (fun b => base ≤ b ∧ b < w'.heap.size) (KnAt w') 2 l' v

theorem sort_kn {w : World} {base : Nat} {v : Value} {l : List Kn} (h : w.ownsRow base 91 2 v l.length (knCells l)) (hl : l.length ≤ 100) (hz : ∀ x ∈ l, x.name.size ≤ maxLen ∧ x.is.size ≤ maxLen) (ha : Apart Kn.name l) :
    Calls Tryz.prog 151 #[v, .func (.func 152) #[] #[]] w fun e w' => e = .returned (.tuple #[]) ∧ (∃ l', KnSorted base v l l' w') ∧ w.grownBy w' v.ownBlock := by
  have hml : l.length ≤ maxLen := by unfold maxLen; omega
  by_cases he : l = []
  · subst he
    obtain ⟨a, cap, rfl⟩ : ∃ a cap, v = .slice a 0 cap := by
      obtain ⟨_, ⟨hv, _⟩ | ⟨g, cap, cur, hv, _⟩⟩ := h
      · exact ⟨_, _, hv⟩
      · exact ⟨_, _, hv⟩
    have hc := AnyF.slices_SortFunc_none Tryz.sortKn a cap (.func (.func 152) #[] #[]) w
    change Calls Tryz.prog 151 _ _ _ at hc
    refine hc.mono ?_
    rintro e w' ⟨rfl, rfl⟩
    refine ⟨rfl, ⟨[], List.Perm.refl _, List.Pairwise.nil, a, cap, rfl, ⟨by simp, by simp⟩, Or.inl rfl⟩, ⟨rfl, rfl, rfl, Nat.le_refl _, fun _ _ _ => rfl⟩⟩
  · have hpos : 0 < l.length := List.length_pos_iff.2 he
    obtain ⟨g, cap, rfl, hg, hgl⟩ := h.form hpos
    have hH : HoldsK encKn 2 w g 0 l.toArray := owns_holds encKn 2 (fun _ => rfl) (by omega) h
    have hcap : l.length ≤ cap := by
      obtain ⟨_, ⟨hv, _⟩ | ⟨g', cap', cur, hv, _, _, h1, _⟩⟩ := h
      · cases hv
      · injection hv with _ _ e3
        subst e3; exact h1
    have hsz : l.toArray.size = l.length := by simp
    have eg : ∀ args w, (callFunc 152 args).run Tryz.prog w = .ok (.enter 152 args) w := enters_of Tryz.func152 (by kernel_rfl) rfl
    have hcmp : CmpLays Tryz.prog 152 #[] encKn 2 (cmpN Kn.name) g 0 l.toArray.size w := fun _ _ _ _ x y => byName_kn x y _
    have hc := AnyQ.slices_SortFunc Tryz.sortKn 2 Tryz.isAgg91 Tryz.sizeOf91 encKn (fun _ => rfl) (fun x v hv => by simp [encKn] at hv; rcases hv with rfl | rfl <;> rfl) (cmpN Kn.name) (swo_cmpN Kn.name) 152 #[] g 0 cap l.toArray w eg hcmp hH hgl (by rw [hsz]; omega)
    change Calls Tryz.prog 151 _ _ _ at hc
    rw [hsz] at hc
    refine hc.mono ?_
    rintro e w' ⟨rfl, d', n, os, hp, hs, rfl⟩
    have hp' : Sort.PermIn 0 l.toArray.size l.toArray d' := by rw [hsz]; exact hp
    have hs' : Sort.SortedIn (ltOf (cmpN Kn.name)) 0 l.toArray.size d' := by rw [hsz]; exact hs
    obtain ⟨hperm, hrise⟩ := sorted_rises Kn.name hp' hs' (by simpa using ha)
    have hlen : d'.toList.length = l.length := by rw [hperm.length_eq]
    have hds : d'.size = l.toArray.size := by rw [hsz, ← hlen, Array.length_toList]
    have hH' := sortWorld_holds encKn 2 (m := n) (os := os) hH hgl hds
    have hbl := sortWorld_grown encKn 2 (w := w) (g := g) (m := n) (d := d') (os := os)
    refine ⟨rfl, ⟨d'.toList, by simpa using hperm, hrise, some ⟨g, 0, none⟩, cap, by rw [hlen], ⟨by rw [hlen]; exact hml, by rw [hlen]; exact hcap⟩, Or.inr ⟨g, 0, rfl, ⟨hg, Nat.lt_of_lt_of_le hgl ?_⟩, RowAt.mk fun i hi => ?_⟩⟩, hbl⟩
    · simp [sortWorldK, grow, putRowK, putRow, mapBlock]
    · have hi' : i < d'.size := by simpa using hi
      have hmem : d'.toList[i] ∈ l := by
        have := hperm.subset (List.getElem_mem hi)
        simpa using this
      have g0 := (hH' (i * 2) (by rw [size_flatK]; omega)).1
      have g1 := (hH' (i * 2 + 1) (by rw [size_flatK]; omega)).1
      rw [get_flatK _ _ _ _ (by omega), show i * 2 / 2 = i by omega, show i * 2 % 2 = 0 by omega] at g0
      rw [get_flatK _ _ _ _ (by omega), show (i * 2 + 1) / 2 = i by omega, show (i * 2 + 1) % 2 = 1 by omega] at g1
      have e0 : d'[i]! = d'.toList[i] := by simp [getElem!_pos, hi']
      rw [e0] at g0 g1
      obtain ⟨z1, z2⟩ := hz _ hmem
      exact ⟨⟨by simpa [encKn] using g0, z1⟩, by simpa [encKn, Nat.add_assoc] using g1, z2⟩

end Go.Proofs.YtagbaimfigljiaaGreatDoor
