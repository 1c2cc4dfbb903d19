/- A row that is made and filled, element by element: what lies in it, in plain words. -/
import Derived.Test.YtedpiamfpbdhoaaFace
import Derived.Laws.IdiomCopy
import Derived.Laws.Rows
import Derived.Laws.MakeOwn
import Derived.OwnWalk
import Derived.Deep.Upon
namespace Go.Proofs.Ytedpiamfpbdhoaa
open Go.RowKit

theorem size_setCell' (w : World) (a : Addr) (u : Value) : (w.setCell a u).heap.size = w.heap.size := by simp [World.setCell]
theorem size_setCells' (g : Nat) : ∀ (vs : List Value) (o : Nat) (w : World), (w.setCells g o vs).heap.size = w.heap.size
  | [], _, _ => rfl
  | v :: r, o, w => by rw [World.setCells, size_setCells' g r]; exact size_setCell' _ _ _
theorem below_setCells {B : Nat} {w : World} (g : Nat) (hg : B ≤ g) : ∀ (vs : List Value) (o : Nat) {W : World}, Below B w W → Below B w (W.setCells g o vs)
  | [], _, _, h => h
  | v :: r, o, W, h => by
    rw [World.setCells]
    exact below_setCells g hg r (o + 1) (h.setCell hg v)

theorem row_set {w : World} {g : Nat} {cur : Array Value} {e : TypeId} (h : w.heap[g]? = some (.cells cur e (0, 0))) (o : Nat) (u : Value) :
    (w.setCell ⟨g, o, none⟩ u).heap[g]? = some (.cells (cur.setIfInBounds o u) e (0, 0)) := by
  simp [World.setCell, Array.getElem?_modify, h]
theorem row_sets {g : Nat} {e : TypeId} : ∀ (vs : List Value) {w : World} {cur : Array Value} (_ : w.heap[g]? = some (.cells cur e (0, 0))) (o : Nat), ∃ cur', (w.setCells g o vs).heap[g]? = some (.cells cur' e (0, 0)) ∧ cur'.size = cur.size
  | [], _, cur, h, _ => ⟨cur, h, rfl⟩
  | v :: r, w, cur, h, o => by
    rw [World.setCells]
    obtain ⟨c, h1, h2⟩ := row_sets r (row_set h o v) (o + 1)
    exact ⟨c, h1, by rw [h2]; simp⟩

/-- the row in the first new block holds the first j of l. -/
structure RowJ {α : Type} (w : World) (e : TypeId) (c : Nat) (P : World → α → Nat → Prop) (l : List α) (j : Nat) (W : World) : Prop where
  bel : Below w.heap.size w W
  row : ∃ cur, W.heap[w.heap.size]? = some (.cells cur e (0, 0)) ∧ cur.size = l.length * c
  old : ∀ i (hi : i < l.length), i < j → P W l[i] (i * c)

/-- what is said of an element stands as long as its own cells, and all blocks but the row's, are as they were. -/
def Stays {α : Type} (B c : Nat) (P : World → α → Nat → Prop) : Prop :=
  ∀ (W W' : World) (x : α) (o : Nat), (∀ b, b ≠ B → b < W.heap.size → W'.heap[b]? = W.heap[b]?) → W.heap.size ≤ W'.heap.size → (∀ k, k < c → W'.cell? ⟨B, o + k, none⟩ = W.cell? ⟨B, o + k, none⟩) → P W x o → P W' x o

theorem RowJ.start {α : Type} {w : World} {e : TypeId} {c : Nat} {P : World → α → Nat → Prop} {l : List α} {arr : Array Value} (h : arr.size = l.length * c) : RowJ w e c P l 0 (w.alloc (.cells arr e)) :=
  ⟨(Below.refl _ _).alloc (Nat.le_refl _) _, ⟨arr, heap_alloc_new _ _, h⟩, fun _ _ h => absurd h (Nat.not_lt_zero _)⟩

theorem row_lt {W : World} {b : Nat} {o : Obj} (h : W.heap[b]? = some o) : b < W.heap.size := by
  rcases Nat.lt_or_ge b W.heap.size with h1 | h1
  · exact h1
  · rw [Array.getElem?_eq_none h1] at h
    cases h

theorem RowJ.lt {α : Type} {w : World} {e : TypeId} {c : Nat} {P : World → α → Nat → Prop} {l : List α} {j : Nat} {W : World} (h : RowJ w e c P l j W) : w.heap.size < W.heap.size := by
  obtain ⟨cur, h1, _⟩ := h.row
  exact row_lt h1

/-- where the next element goes. -/
theorem RowJ.room {α : Type} {w : World} {e : TypeId} {c : Nat} {P : World → α → Nat → Prop} {l : List α} {j : Nat} {W W1 : World} (h : RowJ w e c P l j W) (hb : Below W.heap.size W W1) (hj : j < l.length) : ∀ k, k < c → (∃ u, W1.cell? ⟨w.heap.size, j * c + k, none⟩ = some u) ∧ W1.frozen? ⟨w.heap.size, j * c + k, none⟩ = false := by
  intro k hk
  obtain ⟨cur, h1, h2⟩ := h.row
  have h3 := (hb.block _ h.lt).trans h1
  have hlt : j * c + k < cur.size := by
    rw [h2]
    have := Nat.mul_le_mul_right c (show j + 1 ≤ l.length from hj)
    rw [Nat.add_mul] at this
    omega
  exact ⟨⟨cur[j * c + k], by rw [cell_of_row _ _ _ _ _ _ h3, Array.getElem?_eq_getElem hlt]⟩, frozen_of_row _ _ _ _ _ h3⟩

theorem RowJ.step {α : Type} {w : World} {e : TypeId} {c : Nat} {P : World → α → Nat → Prop} {l : List α} {j : Nat} {W W1 : World} (h : RowJ w e c P l j W) (hS : Stays w.heap.size c P) (hb : Below W.heap.size W W1) (hj : j < l.length) (vs : List Value) (hv : vs.length = c)
    (hP : (∀ k (hk : k < vs.length), (W1.setCells w.heap.size (j * c) vs).cell? ⟨w.heap.size, j * c + k, none⟩ = some vs[k]) → (∀ b, b ≠ w.heap.size → b < W1.heap.size → (W1.setCells w.heap.size (j * c) vs).heap[b]? = W1.heap[b]?) → (W1.setCells w.heap.size (j * c) vs).heap.size = W1.heap.size → P (W1.setCells w.heap.size (j * c) vs) l[j] (j * c)) :
    RowJ w e c P l (j + 1) (W1.setCells w.heap.size (j * c) vs) := by
  have hlt := h.lt
  obtain ⟨cur, h1, h2⟩ := h.row
  have h3 := (hb.block _ hlt).trans h1
  have hin : ∀ k (hk : k < vs.length), (W1.setCells w.heap.size (j * c) vs).cell? ⟨w.heap.size, j * c + k, none⟩ = some vs[k] := fun k hk =>
    World.cell?_setCells_in _ vs _ W1 (fun k hk => by
      obtain ⟨⟨u, hu⟩, _⟩ := h.room hb hj k (by omega)
      rw [hu]; rfl) k hk
  have hoth : ∀ b, b ≠ w.heap.size → b < W1.heap.size → (W1.setCells w.heap.size (j * c) vs).heap[b]? = W1.heap[b]? := fun b hne hlt => World.heap_setCells_other _ _ _ _ hlt hne
  refine ⟨below_setCells _ (Nat.le_refl _) vs _ (h.bel.trans (hb.mono h.bel.size)), ?_, fun i hi hij => ?_⟩
  · obtain ⟨cur', h4, h5⟩ := row_sets vs h3 (j * c)
    exact ⟨cur', h4, h5.trans h2⟩
  · by_cases he : i = j
    · subst he
      exact hP hin hoth (size_setCells' _ _ _ _)
    · refine hS W _ _ _ (fun b hne hlt => ?_) (by rw [size_setCells']; exact hb.size) (fun k hk => ?_) (h.old i hi (by omega))
      · rw [hoth b hne (Nat.lt_of_lt_of_le hlt hb.size), hb.block b hlt]
      · rw [World.cell?_setCells_out _ vs _ _ _ (fun _ _ => Or.inl (by
          show i * c + k < j * c
          have := Nat.mul_le_mul_right c (show i + 1 ≤ j by omega)
          rw [Nat.add_mul] at this
          omega))]
        exact hb.cell (p := ⟨w.heap.size, _, none⟩) hlt

/-- the row is whole. -/
theorem RowJ.whole {α : Type} {w : World} {e : TypeId} {c : Nat} {P : World → α → Nat → Prop} {l : List α} {W : World} (h : RowJ w e c P l l.length W) (hl : l.length ≤ maxLen) {S : Nat → Prop} (hS : S w.heap.size) {Q : α → Nat → Nat → Prop} (hQ : ∀ x o, P W x o → Q x w.heap.size o) :
    SlAt S Q c l (.slice (some ⟨w.heap.size, 0, none⟩) l.length l.length) :=
  ⟨_, _, rfl, ⟨hl, Nat.le_refl _⟩, Or.inr ⟨_, _, rfl, hS, RowAt.mk fun i hi => by rw [Nat.zero_add]; exact hQ _ _ (h.old i hi hi)⟩⟩

/-- 'make([]T, n)', whatever the world. -/
theorem made_row {t e : TypeId} {z : Value} {c by' : Nat} (ht : Try.prog.underlying t = some (.slice e)) (hi : (Try.prog.info? e).map (fun i => (i.zero, i.size, i.bytes)) = some (some z, c, by')) (n : Nat) (hb : n * by' ≤ 281474976710656) (hn : n ≤ maxLen) :
    ∃ arr : Array Value, arr.size = n * c ∧ ∀ w, (Instr.makeSlice t (.int .i64 (n : Int)) (.int .i64 (n : Int))).run Try.prog w = .ok (.slice (some ⟨w.heap.size, 0, none⟩) n n) (w.alloc (.cells arr e)) := by
  obtain ⟨i, h1, h2, h3, h4⟩ := info_parts hi
  unfold maxLen at hn
  refine ⟨madeCells z.cells (n * c), size_madeCells _ _, fun w => ?_⟩
  have hb' : (i.bytes : Int) * (n : Int) ≤ 281474976710656 := by
    rw [h4, ← Int.natCast_mul, Nat.mul_comm]
    omega
  have := run_make (P := Try.prog) w t e i z ht h1 h2 .i64 .i64 n n (by omega) (Int.le_refl _) hb' (by omega)
  rw [h3] at this
  simpa using this

end Go.Proofs.Ytedpiamfpbdhoaa
