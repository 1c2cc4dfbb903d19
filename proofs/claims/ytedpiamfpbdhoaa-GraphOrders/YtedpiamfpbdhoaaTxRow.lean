/- A list of texts that one grows: how it lies. -/
import Derived.Test.YtedpiamfpbdhoaaFaceCopy2
namespace Go.Proofs.Ytedpiamfpbdhoaa
open Go.RowKit

def txVals (l : List ByteArray) : List Value := l.map Value.string
theorem tx_snoc (l : List ByteArray) (x : ByteArray) : txVals (l ++ [x]) = txVals l ++ [.string x] := by simp [txVals]
theorem tx_one (s : ByteArray) : ∀ u ∈ ([.string s] : List Value), u.oneCell' = true := fun u hu => by simp at hu; subst hu; rfl
theorem tx_new (w : World) (s : ByteArray) : ∀ j u, ([.string s] : List Value)[j]? = some u → (w.alloc (.cells #[.string s] 9)).cell? ((⟨w.heap.size, 0, none⟩ : Addr).add j) = some u := fun j u h => by
  match j, h with
  | 0, h => cases h; simp [go_sem, Addr.add]
theorem tx_row {w : World} {B : Nat} {v : Value} {l : List ByteArray} (h : w.ownsRow B 9 1 v l.length (txVals l)) (hl : l.length ≤ maxLen) (hs : ∀ t ∈ l, t.size ≤ maxLen) : SlAt (fun b => B ≤ b ∧ b < w.heap.size) (StrAt w) 1 l v := by
  obtain ⟨hx, ⟨hv, hn⟩ | ⟨g, cap, cur, hv, hg, hh, h1, h2, h3, h4⟩⟩ := h
  · subst hv
    exact ⟨none, 0, by rw [hn], ⟨hl, by omega⟩, Or.inl hn⟩
  · subst hv
    refine ⟨_, cap, rfl, ⟨hl, h1⟩, Or.inr ⟨g, 0, rfl, ⟨hg, ?_⟩, RowAt.mk fun i hi => ?_⟩⟩
    · rcases Nat.lt_or_ge g w.heap.size with h | h
      · exact h
      · rw [Array.getElem?_eq_none h] at hh
        cases hh
    · have hc : ∀ j u, (txVals l)[j]? = some u → w.cell? ⟨g, j, none⟩ = some u := fun j u hj => by
        rw [← h4] at hj
        have hj' : j < l.length * 1 := by
          rcases Nat.lt_or_ge j (l.length * 1) with h | h
          · exact h
          · rw [List.getElem?_eq_none (by rw [List.length_take]; omega)] at hj
            cases hj
        rw [List.getElem?_take_of_lt hj'] at hj
        simpa [World.cell?, hh] using hj
      rw [Nat.zero_add, Nat.mul_one]
      exact ⟨hc i _ (by simp [txVals, List.getElem?_eq_getElem hi]), hs _ (List.getElem_mem hi)⟩

theorem ownsTx_at {w : World} {B : Nat} {u : Value} {n : Nat} {xs : List Value} (h : w.ownsRow B 9 1 u n xs) : ∀ j, u.ownBlock = some j → B ≤ j := fun j hj => by
  obtain ⟨_, ⟨hv, _⟩ | ⟨g, cap, cur, hv, hg, _⟩⟩ := h
  · subst hv; cases hj
  · subst hv
    have : g = j := by simpa [Value.ownBlock] using hj
    omega
theorem ownsTx_later {w w' : World} {B : Nat} {u : Value} {n : Nat} {xs : List Value} (h : w.ownsRow B 9 1 u n xs) (hb : Below w.heap.size w w') : w'.ownsRow B 9 1 u n xs := by
  obtain ⟨hx, ⟨hv, hn⟩ | ⟨g, cap, cur, hv, hg, hh, h1⟩⟩ := h
  · exact ⟨hx, Or.inl ⟨hv, hn⟩⟩
  · refine ⟨hx, Or.inr ⟨g, cap, cur, hv, hg, ?_, h1⟩⟩
    rw [hb.block g ?_]
    · exact hh
    · rcases Nat.lt_or_ge g w.heap.size with h | h
      · exact h
      · rw [Array.getElem?_eq_none h] at hh
        cases hh

end Go.Proofs.Ytedpiamfpbdhoaa
