/- What the reader's lists answer: args, and what it hands on. -/
import Derived.Test.YtpamadnckijfkabGreatDoorTree
import Derived.Deep.RegionHeld3
import Derived.Deep.AppendLies
namespace Go.Proofs.YtpamadnckijfkabGreatDoor
open Go.RowKit
set_option maxRecDepth 100000

theorem ex_info : (Tryz.prog.info? 52).map (fun i => (i.zero, i.size, i.bytes)) = some (some (.agg #[.int .i64 0, .int .i64 0, .string ⟨#[]⟩, .string ⟨#[]⟩, .slice none 0 0]), 5, 72) := by kernel_rfl

theorem ownsRow_in {w : World} {base : Nat} {e : TypeId} {size : Nat} {v : Value} {n : Nat} {xs : List Value} (h : w.ownsRow base e size v n xs) : ∀ j, v.ownBlock = some j → base ≤ j ∧ j < w.heap.size := by
  intro j hj
  rcases h.2 with ⟨rfl, _⟩ | ⟨g, cap, cur, rfl, hb, hg, _⟩
  · cases hj
  · have : g = j := by simpa [Value.ownBlock] using hj
    subst this
    refine ⟨hb, ?_⟩
    rcases Nat.lt_or_ge g w.heap.size with h1 | h1
    · exact h1
    · rw [Array.getElem?_eq_none h1] at hg; cases hg

theorem own_frozen {w : World} {base : Nat} {e : TypeId} {size g n cap : Nat} {xs : List Value} (h : w.ownsRow base e size (.slice (some ⟨g, 0, none⟩) n cap) n xs) : ∀ o, w.frozen? ⟨g, o, none⟩ = false := by
  intro o
  rcases h.2 with ⟨h1, _⟩ | ⟨g', cap', cur, h1, hb, hg, _⟩
  · cases h1
  · cases h1
    exact Lib.frozen_of_heap hg o

theorem own_frozen5 {w : World} {base : Nat} {e : TypeId} {size g n cap : Nat} {xs : List Value} (h : w.ownsRow base e size (.slice (some ⟨g, 0, none⟩) n cap) n xs) (o : Nat) :
    w.frozen? ⟨g, o, none⟩ = false ∧ w.frozen? ⟨g, o + 1, none⟩ = false ∧ w.frozen? ⟨g, o + 2, none⟩ = false ∧ w.frozen? ⟨g, o + 3, none⟩ = false ∧ w.frozen? ⟨g, o + 4, none⟩ = false :=
  ⟨own_frozen h _, own_frozen h _, own_frozen h _, own_frozen h _, own_frozen h _⟩

theorem own_cell {w : World} {base : Nat} {e : TypeId} {size g n cap : Nat} {xs : List Value} (h : w.ownsRow base e size (.slice (some ⟨g, 0, none⟩) n cap) n xs) (j : Nat) (u : Value) (hu : xs[j]? = some u) : w.cell? ⟨g, j, none⟩ = some u := by
  rcases h with ⟨hl, ⟨h1, _⟩ | ⟨g', cap', cur, h1, hb, hg, _, _, hc, ht⟩⟩
  · cases h1
  · cases h1
    rw [cell_of_row w g j cur e _ hg]
    rw [← ht, List.getElem?_take] at hu
    split at hu
    · simpa using hu
    · cases hu

theorem own_last {w : World} {base : Nat} {e : TypeId} {g m cap : Nat} {xs : List Value} {a b c d f : Value} (h : w.ownsRow base e 5 (.slice (some ⟨g, 0, none⟩) (m + 1) cap) (m + 1) (xs ++ [a, b, c, d, f])) :
    w.cell? ⟨g, m * 5, none⟩ = some a ∧ w.cell? ⟨g, m * 5 + 1, none⟩ = some b ∧ w.cell? ⟨g, m * 5 + 2, none⟩ = some c ∧ w.cell? ⟨g, m * 5 + 3, none⟩ = some d ∧ w.cell? ⟨g, m * 5 + 4, none⟩ = some f := by
  have hl : xs.length = m * 5 := by have := h.1; simp at this; omega
  refine ⟨own_cell h _ _ ?_, own_cell h _ _ ?_, own_cell h _ _ ?_, own_cell h _ _ ?_, own_cell h _ _ ?_⟩ <;> (rw [List.getElem?_append_right (by omega), hl]; simp)

end Go.Proofs.YtpamadnckijfkabGreatDoor
