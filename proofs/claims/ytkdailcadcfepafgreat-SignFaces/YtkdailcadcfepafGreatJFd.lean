/- What face.copyType answers: the same, its texts copied. -/
import Derived.Test.YtkdailcadcfepafGreatJFa
import Derived.Test.YtkdailcadcfepafGreatJKindX
import Derived.Deep.RegionHeld3
import Derived.Laws.IdiomCopy
import Derived.Laws.Rows
import Derived.Laws.MakeOwn
import Derived.OwnWalk
import Derived.Deep.Upon
namespace Go.Proofs.YtkdailcadcfepafGreat
open Go.RowKit
set_option maxRecDepth 100000

end Go.Proofs.YtkdailcadcfepafGreat

/- A row that is made and filled, element by element: what lies in it, in plain words. -/
namespace Go.Proofs.YtkdailcadcfepafGreat
open Go.RowKit
set_option maxRecDepth 100000

theorem size_setCell' (w : World) (a : Addr) (u : Value) : (w.setCell a u).heap.size = w.heap.size := by simp [World.setCell]
theorem size_setCells' (g : Nat) : ∀ (vs : List Value) (o : Nat) (w : World), (w.setCells g o vs).heap.size = w.heap.size
  | [], _, _ => rfl
  | v :: r, o, w => by rw [World.setCells, size_setCells' g r]; exact size_setCell' _ _ _
theorem below_setCells {B : Nat} {w : World} (g : Nat) (hg : B ≤ g) : ∀ (vs : List Value) (o : Nat) {W : World}, Below B w W → Below B w (W.setCells g o vs)
  | [], _, _, h => h
  | v :: r, o, W, h => by
    rw [World.setCells]
    exact below_setCells g hg r (o + 1) (h.setCell hg v)

theorem row_set {w : World} {g : Nat} {cur : Array Value} {e : TypeId} (h : w.heap[g]? = some (.cells cur e (0, 0))) (o : Nat) (u : Value) :
    (w.setCell ⟨g, o, none⟩ u).heap[g]? = some (.cells (cur.setIfInBounds o u) e (0, 0)) := by
  simp [World.setCell, Array.getElem?_modify, h]
theorem row_sets {g : Nat} {e : TypeId} : ∀ (vs : List Value) {w : World} {cur : Array Value} (_ : w.heap[g]? = some (.cells cur e (0, 0))) (o : Nat), ∃ cur', (w.setCells g o vs).heap[g]? = some (.cells cur' e (0, 0)) ∧ cur'.size = cur.size
  | [], _, cur, h, _ => ⟨cur, h, rfl⟩
  | v :: r, w, cur, h, o => by
    rw [World.setCells]
    obtain ⟨c, h1, h2⟩ := row_sets r (row_set h o v) (o + 1)
    exact ⟨c, h1, by rw [h2]; simp⟩

/-- the row in the first new block holds the first j of l. -/
structure RowJ {α : Type} (w : World) (e : TypeId) (c : Nat) (P : World → α → Nat → Prop) (l : List α) (j : Nat) (W : World) : Prop where
  bel : Below w.heap.size w W
  row : ∃ cur, W.heap[w.heap.size]? = some (.cells cur e (0, 0)) ∧ cur.size = l.length * c
  old : ∀ i (hi : i < l.length), i < j → P W l[i] (i * c)

/-- what is said of an element stands as long as its own cells, and all blocks but the row's, are as they were. -/
def Stays {α : Type} (B c : Nat) (P : World → α → Nat → Prop) : Prop :=
  ∀ (W W' : World) (x : α) (o : Nat), (∀ b, b ≠ B → b < W.heap.size → W'.heap[b]? = W.heap[b]?) → W.heap.size ≤ W'.heap.size → (∀ k, k < c → W'.cell? ⟨B, o + k, none⟩ = W.cell? ⟨B, o + k, none⟩) → P W x o → P W' x o

theorem RowJ.start {α : Type} {w : World} {e : TypeId} {c : Nat} {P : World → α → Nat → Prop} {l : List α} {arr : Array Value} (h : arr.size = l.length * c) : RowJ w e c P l 0 (w.alloc (.cells arr e)) :=
  ⟨(Below.refl _ _).alloc (Nat.le_refl _) _, ⟨arr, heap_alloc_new _ _, h⟩, fun _ _ h => absurd h (Nat.not_lt_zero _)⟩

theorem row_lt {W : World} {b : Nat} {o : Obj} (h : W.heap[b]? = some o) : b < W.heap.size := by
  rcases Nat.lt_or_ge b W.heap.size with h1 | h1
  · exact h1
  · rw [Array.getElem?_eq_none h1] at h
    cases h

theorem RowJ.lt {α : Type} {w : World} {e : TypeId} {c : Nat} {P : World → α → Nat → Prop} {l : List α} {j : Nat} {W : World} (h : RowJ w e c P l j W) : w.heap.size < W.heap.size := by
  obtain ⟨cur, h1, _⟩ := h.row
  exact row_lt h1

/-- where the next element goes. -/
theorem RowJ.room {α : Type} {w : World} {e : TypeId} {c : Nat} {P : World → α → Nat → Prop} {l : List α} {j : Nat} {W W1 : World} (h : RowJ w e c P l j W) (hb : Below W.heap.size W W1) (hj : j < l.length) : ∀ k, k < c → (∃ u, W1.cell? ⟨w.heap.size, j * c + k, none⟩ = some u) ∧ W1.frozen? ⟨w.heap.size, j * c + k, none⟩ = false := by
  intro k hk
  obtain ⟨cur, h1, h2⟩ := h.row
  have h3 := (hb.block _ h.lt).trans h1
  have hlt : j * c + k < cur.size := by
    rw [h2]
    have := Nat.mul_le_mul_right c (show j + 1 ≤ l.length from hj)
    rw [Nat.add_mul] at this
    omega
  exact ⟨⟨cur[j * c + k], by rw [cell_of_row _ _ _ _ _ _ h3, Array.getElem?_eq_getElem hlt]⟩, frozen_of_row _ _ _ _ _ h3⟩

theorem RowJ.step {α : Type} {w : World} {e : TypeId} {c : Nat} {P : World → α → Nat → Prop} {l : List α} {j : Nat} {W W1 : World} (h : RowJ w e c P l j W) (hS : Stays w.heap.size c P) (hb : Below W.heap.size W W1) (hj : j < l.length) (vs : List Value) (hv : vs.length = c)
    (hP : (∀ k (hk : k < vs.length), (W1.setCells w.heap.size (j * c) vs).cell? ⟨w.heap.size, j * c + k, none⟩ = some vs[k]) → (∀ b, b ≠ w.heap.size → b < W1.heap.size → (W1.setCells w.heap.size (j * c) vs).heap[b]? = W1.heap[b]?) → (W1.setCells w.heap.size (j * c) vs).heap.size = W1.heap.size → P (W1.setCells w.heap.size (j * c) vs) l[j] (j * c)) :
    RowJ w e c P l (j + 1) (W1.setCells w.heap.size (j * c) vs) := by
  have hlt := h.lt
  obtain ⟨cur, h1, h2⟩ := h.row
  have h3 := (hb.block _ hlt).trans h1
  have hin : ∀ k (hk : k < vs.length), (W1.setCells w.heap.size (j * c) vs).cell? ⟨w.heap.size, j * c + k, none⟩ = some vs[k] := fun k hk =>
    World.cell?_setCells_in _ vs _ W1 (fun k hk => by
      obtain ⟨⟨u, hu⟩, _⟩ := h.room hb hj k (by omega)
      rw [hu]; rfl) k hk
  have hoth : ∀ b, b ≠ w.heap.size → b < W1.heap.size → (W1.setCells w.heap.size (j * c) vs).heap[b]? = W1.heap[b]? := fun b hne hlt => World.heap_setCells_other _ _ _ _ hlt hne
  refine ⟨below_setCells _ (Nat.le_refl _) vs _ (h.bel.trans (hb.mono h.bel.size)), ?_, fun i hi hij => ?_⟩
  · obtain ⟨cur', h4, h5⟩ := row_sets vs h3 (j * c)
    exact ⟨cur', h4, h5.trans h2⟩
  · by_cases he : i = j
    · subst he
      exact hP hin hoth (size_setCells' _ _ _ _)
    · refine hS W _ _ _ (fun b hne hlt => ?_) (by rw [size_setCells']; exact hb.size) (fun k hk => ?_) (h.old i hi (by omega))
      · rw [hoth b hne (Nat.lt_of_lt_of_le hlt hb.size), hb.block b hlt]
      · rw [World.cell?_setCells_out _ vs _ _ _ (fun _ _ => Or.inl (by
          show i * c + k < j * c
          have := Nat.mul_le_mul_right c (show i + 1 ≤ j by omega)
          rw [Nat.add_mul] at this
          omega))]
        exact hb.cell (p := ⟨w.heap.size, _, none⟩) hlt

/-- the row is whole. -/
theorem RowJ.whole {α : Type} {w : World} {e : TypeId} {c : Nat} {P : World → α → Nat → Prop} {l : List α} {W : World} (h : RowJ w e c P l l.length W) (hl : l.length ≤ maxLen) {S : Nat → Prop} (hS : S w.heap.size) {Q : α → Nat → Nat → Prop} (hQ : ∀ x o, P W x o → Q x w.heap.size o) :
    SlAt S Q c l (.slice (some ⟨w.heap.size, 0, none⟩) l.length l.length) :=
  ⟨_, _, rfl, ⟨hl, Nat.le_refl _⟩, Or.inr ⟨_, _, rfl, hS, RowAt.mk fun i hi => by rw [Nat.zero_add]; exact hQ _ _ (h.old i hi hi)⟩⟩

/-- 'make([]T, n)', whatever the world. -/
theorem made_row {t e : TypeId} {z : Value} {c by' : Nat} (ht : Tryz.prog.underlying t = some (.slice e)) (hi : (Tryz.prog.info? e).map (fun i => (i.zero, i.size, i.bytes)) = some (some z, c, by')) (n : Nat) (hb : n * by' ≤ 281474976710656) (hn : n ≤ maxLen) :
    ∃ arr : Array Value, arr.size = n * c ∧ ∀ w, (Instr.makeSlice t (.int .i64 (n : Int)) (.int .i64 (n : Int))).run Tryz.prog w = .ok (.slice (some ⟨w.heap.size, 0, none⟩) n n) (w.alloc (.cells arr e)) := by
  obtain ⟨i, h1, h2, h3, h4⟩ := info_parts hi
  unfold maxLen at hn
  refine ⟨madeCells z.cells (n * c), size_madeCells _ _, fun w => ?_⟩
  have hb' : (i.bytes : Int) * (n : Int) ≤ 281474976710656 := by
    rw [h4, ← Int.natCast_mul, Nat.mul_comm]
    omega
  have := run_make (P := Tryz.prog) w t e i z ht h1 h2 .i64 .i64 n n (by omega) (Int.le_refl _) hb' (by omega)
  rw [h3] at this
  simpa using this

end Go.Proofs.YtkdailcadcfepafGreat

/- What face.copyEach answers at texts, and at types' names with what they are: the same, in a row of its own. -/
namespace Go.Proofs.YtkdailcadcfepafGreat
open Go.RowKit
set_option maxRecDepth 100000

theorem str_info : (Tryz.prog.info? 9).map (fun i => (i.zero, i.size, i.bytes)) = some (some (.string ⟨#[]⟩), 1, 16) := by kernel_rfl
theorem kn_info : (Tryz.prog.info? 62).map (fun i => (i.zero, i.size, i.bytes)) = some (some (.agg #[.string ⟨#[]⟩, .string ⟨#[]⟩]), 2, 32) := by kernel_rfl

def StrP (B : Nat) (W : World) (s : ByteArray) (o : Nat) : Prop := StrAt W s B o
theorem strP_stays (B : Nat) : Stays B 1 (StrP B) := fun W W' x o _ _ h hp => ⟨(h 0 (by omega)).trans hp.1, hp.2⟩
def KnP (B : Nat) (W : World) (k : Kn) (o : Nat) : Prop := KnAt W k B o
theorem knP_stays (B : Nat) : Stays B 2 (KnP B) := fun W W' x o _ _ h hp => ⟨⟨(h 0 (by omega)).trans hp.1.1, hp.1.2⟩, (h 1 (by omega)).trans hp.2.1, hp.2.2⟩

end Go.Proofs.YtkdailcadcfepafGreat

/- What face.copyFunc answers: the same, its texts copied, its parameters in a row of their own. -/
namespace Go.Proofs.YtkdailcadcfepafGreat
open Go.RowKit
set_option maxRecDepth 100000

theorem keep_new {B : Nat} {W W' : World} (h : Below W.heap.size W W') : Keeps (fun b => B ≤ b ∧ b < W.heap.size) (fun b => B ≤ b ∧ b < W'.heap.size) W W' :=
  ⟨fun b hb => h.block b hb.2, fun _ hb => ⟨hb.1, Nat.lt_of_lt_of_le hb.2 h.size⟩⟩
theorem keep_set {B g : Nat} {W : World} (hg : g < B) (o : Nat) (u : Value) : Keeps (fun b => B ≤ b ∧ b < W.heap.size) (fun b => B ≤ b ∧ b < (W.setCell ⟨g, o, none⟩ u).heap.size) W (W.setCell ⟨g, o, none⟩ u) :=
  ⟨fun b hb => Below.heap_setCell _ _ _ _ (by show b ≠ g; have := hb.1; omega), fun _ hb => ⟨hb.1, by rw [size_setCell']; exact hb.2⟩⟩

/-- what copyFunc's region keeps. -/
def SgBox (w : World) (x y : ByteArray) (p : Value) (W : World) : Prop :=
  Below w.heap.size w W ∧ W.cell? ⟨w.heap.size, 0, none⟩ = some (.string x) ∧ W.cell? ⟨w.heap.size, 1, none⟩ = some p ∧ W.cell? ⟨w.heap.size, 2, none⟩ = some (.string y)

theorem SgBox.later {w : World} {x y : ByteArray} {p : Value} {W W' : World} (h : SgBox w x y p W) (hb : Below W.heap.size W W') : SgBox w x y p W' := by
  obtain ⟨h0, h1, h2, h3⟩ := h
  exact ⟨h0.trans (hb.mono h0.size), (hb.cell (World.block_lt_of_cell? _ _ h1)).trans h1, (hb.cell (World.block_lt_of_cell? _ _ h2)).trans h2, (hb.cell (World.block_lt_of_cell? _ _ h3)).trans h3⟩

theorem SgBox.set {w : World} {x y : ByteArray} {p : Value} {W : World} (h : SgBox w x y p W) (o : Nat) (u : Value) : SgBox w x y p (W.setCell ⟨w.heap.size + 1, o, none⟩ u) := by
  obtain ⟨h0, h1, h2, h3⟩ := h
  refine ⟨h0.setCell (by show w.heap.size ≤ w.heap.size + 1; omega) _, ?_, ?_, ?_⟩
  · rw [World.cell?_setCell_far _ _ _ _ (by show w.heap.size + 1 ≠ w.heap.size; omega)]; exact h1
  · rw [World.cell?_setCell_far _ _ _ _ (by show w.heap.size + 1 ≠ w.heap.size; omega)]; exact h2
  · rw [World.cell?_setCell_far _ _ _ _ (by show w.heap.size + 1 ≠ w.heap.size; omega)]; exact h3

end Go.Proofs.YtkdailcadcfepafGreat

/- What face.copyEach answers at functions' names with what they take, and face.Copy at a face: the same, in memory of its own. -/
namespace Go.Proofs.YtkdailcadcfepafGreat
open Go.RowKit
set_option maxRecDepth 100000

theorem sg_info : (Tryz.prog.info? 52).map (fun i => (i.zero, i.size, i.bytes)) = some (some (.agg #[.string ⟨#[]⟩, .slice none 0 0, .string ⟨#[]⟩]), 3, 56) := by kernel_rfl

def SgP (B : Nat) (W : World) (g : Sg) (o : Nat) : Prop := SgAt (fun b => B < b ∧ b < W.heap.size) W g B o
theorem sgP_stays (B : Nat) : Stays B 3 (SgP B) := fun W W' x o ho hs h hp => by
  obtain ⟨⟨h0, z0⟩, ⟨v, hv, hl⟩, h1, z1⟩ := hp
  exact ⟨⟨(h 0 (by omega)).trans h0, z0⟩, ⟨v, (h 1 (by omega)).trans hv, strSl_keep ⟨fun b hb => ho b (by have := hb.1; omega) hb.2, fun b hb => ⟨hb.1, Nat.lt_of_lt_of_le hb.2 hs⟩⟩ hl⟩, (h 2 (by omega)).trans h1, z1⟩

theorem sg_cells' {S : Nat → Prop} {w : World} {g : Sg} {b o : Nat} (h : SgAt S w g b o) : ∃ a n cap, w.cell? ⟨b, o, none⟩ = some (.string g.name) ∧ w.cell? ⟨b, o + 1, none⟩ = some (.slice a n cap) ∧ w.cell? ⟨b, o + 2, none⟩ = some (.string g.result) ∧ (g.name.size ≤ maxLen ∧ g.result.size ≤ maxLen) ∧ SgIs S w g (.agg #[.string g.name, .slice a n cap, .string g.result]) := by
  obtain ⟨⟨h0, z0⟩, ⟨v, hv, hp⟩, h1, z1⟩ := h
  obtain ⟨a, cap, rfl⟩ := hp.is
  exact ⟨a, _, cap, h0, hv, h1, ⟨z0, z1⟩, _, rfl, z0, z1, hp⟩

/-- what Copy's region keeps. -/
def FcBox (w : World) (p q : Value) (W : World) : Prop :=
  Below w.heap.size w W ∧ W.cell? ⟨w.heap.size, 0, none⟩ = some p ∧ W.cell? ⟨w.heap.size, 1, none⟩ = some q
theorem FcBox.later {w : World} {p q : Value} {W W' : World} (h : FcBox w p q W) (hb : Below W.heap.size W W') : FcBox w p q W' := by
  obtain ⟨h0, h1, h2⟩ := h
  exact ⟨h0.trans (hb.mono h0.size), (hb.cell (World.block_lt_of_cell? _ _ h1)).trans h1, (hb.cell (World.block_lt_of_cell? _ _ h2)).trans h2⟩
theorem FcBox.set {w : World} {p q : Value} {W : World} (h : FcBox w p q W) (o : Nat) (u : Value) : FcBox w p q (W.setCell ⟨w.heap.size + 1, o, none⟩ u) := by
  obtain ⟨h0, h1, h2⟩ := h
  refine ⟨h0.setCell (by show w.heap.size ≤ w.heap.size + 1; omega) _, ?_, ?_⟩
  · rw [World.cell?_setCell_far _ _ _ _ (by show w.heap.size + 1 ≠ w.heap.size; omega)]; exact h1
  · rw [World.cell?_setCell_far _ _ _ _ (by show w.heap.size + 1 ≠ w.heap.size; omega)]; exact h2


end Go.Proofs.YtkdailcadcfepafGreat
