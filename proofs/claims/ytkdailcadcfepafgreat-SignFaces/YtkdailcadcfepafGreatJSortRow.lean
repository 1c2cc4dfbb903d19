/- slices.SortFunc at a row that is owned: what it leaves, by the names. -/
import Derived.Test.YtkdailcadcfepafGreatJAlias23
import Derived.Test.YtkdailcadcfepafGreatJAlias24
import Derived.Shelf.SlSortCmp.NoneTotal
namespace Go.Proofs.YtkdailcadcfepafGreat
open Go.RowKit Go.Shelf
set_option maxRecDepth 100000
open Go.Sort (grow putRowK putRow mapBlock ahead onCells HoldsK Holds flatK size_flatK get_flatK alloc_eq_grow grow_grow)

section
variable {α : Type} [Inhabited α] (enc : α → List Value) (k : Nat)

theorem flat_at (hk : ∀ x, (enc x).length = k) (hk0 : 0 < k) : ∀ (l : List α) (j : Nat), j < l.length * k → (l.flatMap enc)[j]? = some ((enc (l.toArray[j / k]!))[j % k]!)
  | [], j, h => by simp at h
  | x :: r, j, h => by
    rw [List.flatMap_cons]
    by_cases hj : j < k
    · rw [List.getElem?_append_left (by rw [hk]; exact hj), Nat.div_eq_of_lt hj, Nat.mod_eq_of_lt hj]
      have : (x :: r).toArray[0]! = x := by simp
      rw [this, List.getElem?_eq_getElem (by rw [hk]; exact hj), getElem!_pos]
    · have hj' : j - k < r.length * k := by rw [List.length_cons, Nat.add_mul, Nat.one_mul] at h; omega
      rw [List.getElem?_append_right (by rw [hk]; omega), hk, flat_at hk hk0 r (j - k) hj']
      have e1 : j / k = (j - k) / k + 1 := by
        conv => lhs; rw [show j = (j - k) + k by omega]
        exact Nat.add_div_right _ hk0
      have e2 : j % k = (j - k) % k := by
        conv => lhs; rw [show j = (j - k) + k by omega]
        exact Nat.add_mod_right _ _
      rw [e1, e2]
      have : (x :: r).toArray[(j - k) / k + 1]! = r.toArray[(j - k) / k]! := by
        simp [getElem!_def]
      rw [this]

theorem owns_holds {w : World} {base : Nat} {e : TypeId} {g cap : Nat} {l : List α} (hk : ∀ x, (enc x).length = k) (hk0 : 0 < k) (h : w.ownsRow base e k (.slice (some ⟨g, 0, none⟩) l.length cap) l.length (l.flatMap enc)) : HoldsK enc k w g 0 l.toArray := by
  obtain ⟨hx, ⟨hv, _⟩ | ⟨g', cap', cur, hv, hg, hh, h1, h2, h3, h4⟩⟩ := h
  · cases hv
  · injection hv with e1 e2 e3
    injection e1 with e1
    injection e1 with e1
    subst e1 e3
    intro j hj
    rw [size_flatK] at hj
    have hj' : j < l.length * k := by simpa using hj
    have hf := flat_at enc k hk hk0 l j hj'
    rw [← h4, List.getElem?_take_of_lt hj'] at hf
    rw [get_flatK enc k l.toArray j hj]
    refine ⟨?_, Lib.frozen_of_heap hh _⟩
    rw [cell_of_row w g (0 + j) cur e (0, 0) hh, Nat.zero_add]
    simpa using hf

theorem sortWorld_grown {w : World} {g m : Nat} {d : Array α} {os : Array Obj} : w.grownBy (sortWorldK enc k w g 0 m d os) (some g) := by
  refine ⟨rfl, rfl, rfl, ?_, fun j hj hjg => ?_⟩
  · simp [sortWorldK, grow, putRowK, putRow, mapBlock]
  · have hne : g ≠ j := fun e => hjg (by rw [e])
    simp [sortWorldK, grow, putRowK, putRow, mapBlock, Array.getElem?_append, hj, Array.getElem_modify, hne]

theorem sortWorld_holds {w : World} {g m : Nat} {d d' : Array α} {os : Array Obj} (hH : HoldsK enc k w g 0 d) (hg : g < w.heap.size) (hs : d'.size = d.size) : HoldsK enc k (sortWorldK enc k w g 0 m d' os) g 0 d' :=
  SWK.holds ⟨m, os, rfl⟩ hg hH hs

end

end Go.Proofs.YtkdailcadcfepafGreat
