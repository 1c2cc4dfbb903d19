/- What alias.solve and alias.solveList answer, where the closure that finds names answers so. -/
import Derived.Test.YtkdailcadcfepafJAlias11
namespace Go.Proofs.Ytkdailcadcfepaf
open Go.RowKit

def fnd (mB lB tB fB : Nat) : Value := .func (.func 53) #[] #[.pointer (some ⟨mB, 0, none⟩), .pointer (some ⟨lB, 0, none⟩), .pointer (some ⟨tB, 0, none⟩), .pointer (some ⟨fB, 0, none⟩)]

/-- what the finder's closure holds: the module, the imports, which types were met, and itself. -/
structure SEnv (w0 : World) (mB lB tB fB aB : Nat) (x y z lv : Value) (n : Nat) (met : List Nat) (W : World) : Prop where
  below : Below w0.heap.size w0 W
  m0 : W.cell? ⟨mB, 0, none⟩ = some x
  m1 : W.cell? ⟨mB, 1, none⟩ = some y
  m2 : W.cell? ⟨mB, 2, none⟩ = some z
  lc : W.cell? ⟨lB, 0, none⟩ = some lv
  tc : W.cell? ⟨tB, 0, none⟩ = some (.slice (some ⟨aB, 0, none⟩) n n)
  fc : W.cell? ⟨fB, 0, none⟩ = some (fnd mB lB tB fB)
  arr : ∀ i, i < n → W.cell? ⟨aB, i, none⟩ = some (.bool (met.contains i)) ∧ W.frozen? ⟨aB, i, none⟩ = false
  low : w0.heap.size ≤ aB
  ne : aB ≠ mB ∧ aB ≠ lB ∧ aB ≠ tB ∧ aB ≠ fB

theorem SEnv.keep {w0 : World} {mB lB tB fB aB : Nat} {x y z lv : Value} {n : Nat} {met : List Nat} {W W' : World} (h : SEnv w0 mB lB tB fB aB x y z lv n met W) (hb : Below W.heap.size W W') : SEnv w0 mB lB tB fB aB x y z lv n met W' := by
  have hk : ∀ (a : Addr) (v : Value), W.cell? a = some v → W'.cell? a = some v := fun a v hv => (hb.cell (World.block_lt_of_cell? _ _ hv)).trans hv
  refine ⟨h.below.trans (hb.mono h.below.size), hk _ _ h.m0, hk _ _ h.m1, hk _ _ h.m2, hk _ _ h.lc, hk _ _ h.tc, hk _ _ h.fc, fun i hi => ?_, h.low, h.ne⟩
  obtain ⟨h1, h2⟩ := h.arr i hi
  exact ⟨hk _ _ h1, (hb.frozen (World.block_lt_of_cell? _ _ h1)).trans h2⟩

theorem SEnv.meet {w0 : World} {mB lB tB fB aB : Nat} {x y z lv : Value} {n : Nat} {met : List Nat} {W : World} (h : SEnv w0 mB lB tB fB aB x y z lv n met W) {k : Nat} (hk : k < n) : SEnv w0 mB lB tB fB aB x y z lv n (k :: met) (W.setCell ⟨aB, k, none⟩ (.bool true)) := by
  obtain ⟨n1, n2, n3, n4⟩ := h.ne
  refine ⟨h.below.setCell h.low _, ?_, ?_, ?_, ?_, ?_, ?_, fun i hi => ⟨?_, ?_⟩, h.low, h.ne⟩
  · rw [World.cell?_setCell_far _ _ _ _ n1]; exact h.m0
  · rw [World.cell?_setCell_far _ _ _ _ n1]; exact h.m1
  · rw [World.cell?_setCell_far _ _ _ _ n1]; exact h.m2
  · rw [World.cell?_setCell_far _ _ _ _ n2]; exact h.lc
  · rw [World.cell?_setCell_far _ _ _ _ n3]; exact h.tc
  · rw [World.cell?_setCell_far _ _ _ _ n4]; exact h.fc
  · obtain ⟨h1, h2⟩ := h.arr i hi
    obtain ⟨h3, _⟩ := h.arr k hk
    by_cases hik : i = k
    · subst hik
      rw [World.cell?_setCell_same (h := h3)]
      simp
    · rw [World.cell?_setCell_other (h := by intro e; injection e with _ e; exact hik e.symm), h1]
      simp [hik]
  · obtain ⟨_, h2⟩ := h.arr i hi
    rw [World.frozen?_setCell]; exact h2

/-- what a call answers that tells a kind. -/
def Tells (w0 : World) (r : Sol) (e : Ending) (w' : World) : Prop := e = .returned (.tuple #[.string r.1, .int .i64 r.2]) ∧ Below w0.heap.size w0 w'

theorem solveP_size {ρ : ByteArray → ByteArray → Sol} (h : ∀ o n, (ρ o n).1.size ≤ maxLen) : ∀ (d : Nat) (t : Ty), (solveP ρ d t).1.size ≤ maxLen
  | 0, _ => Nat.zero_le _
  | d + 1, .mk k o n xs => by
    unfold solveP
    split
    · decide
    · split
      · decide
      · split
        · cases xs with
          | nil => exact Nat.zero_le _
          | cons t r =>
            show (listR (solveP ρ d t)).1.size ≤ _
            unfold listR
            split
            · split
              · rename_i hl
                obtain ⟨_, h5⟩ := listErr_ok hl
                have : (wrapK (solveP ρ d t).1).size = (solveP ρ d t).1.size + 2 := by
                  simp [wrapK]
                  show 1 + _ + 1 = _
                  omega
                show (wrapK (solveP ρ d t).1).size ≤ _
                rw [this]; unfold maxLen; omega
              · exact Nat.zero_le _
            · exact Nat.zero_le _
        · exact h o n

end Go.Proofs.Ytkdailcadcfepaf
