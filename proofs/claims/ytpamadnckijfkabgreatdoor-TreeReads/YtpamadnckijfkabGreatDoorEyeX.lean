/- What is told of an expression by the reference's eye: it is read, or something is wrong. -/
import Derived.Test.YtpamadnckijfkabGreatDoorEyeKind2
import Derived.Test.YtpamadnckijfkabGreatDoorReadAt
import Derived.Deep.LoopGhost
namespace Go.Proofs.YtpamadnckijfkabGreatDoor
open Go.RowKit
set_option maxRecDepth 100000

/-- what is wrong already stays. -/
def after {α : Type} (e : Int) (T : Res α) : Res α := if e = 0 then T else .bad e
theorem after_ok {α : Type} (T : Res α) : after 0 T = T := if_pos rfl
theorem after_bad {α : Type} {e : Int} (h : e ≠ 0) (T : Res α) : after e T = .bad e := if_neg h

def Told (B : Nat) (l : Toks) (d : Nat) (T : Res Ex) (w w' : World) (k n : Int) (f s : ByteArray) (a : Option Addr) (m c : Nat) : Prop :=
  (∃ x j, T = .ok x j ∧ EyeAt B l j 0 d w' ∧ ExCs (Fresh w.heap.size w') w' x k n f s (.slice a m c)) ∨ (∃ e i, T = .bad e ∧ e ≠ 0 ∧ EyeAt B l i e d w')
def ExprR (B : Nat) (l : Toks) (d : Nat) (T : Res Ex) (w : World) (r : Ending) (w' : World) : Prop :=
  Moved B w w' ∧ ∃ k n f s a m c, r = .returned (.agg #[.int .i64 k, .int .i64 n, .string f, .string s, .slice a m c]) ∧ Told B l d T w w' k n f s a m c

/-- the eye's functions read as the plain ones say, at depth d. -/
def ExprEye (B : Nat) (l : Toks) (d : Nat) (sub : Nat → Res Ex) : Prop := ∀ i e W, EyeAt B l i e d W → Calls Tryz.prog 86 #[.pointer (some ⟨B, 0, none⟩)] W (ExprR B l d (after e (sub i)) W)
def HeadEye (B : Nat) (l : Toks) (d : Nat) (sub : Nat → Res Ex) : Prop := ∀ i e W, EyeAt B l i e d W → Calls Tryz.prog 137 #[.pointer (some ⟨B, 0, none⟩)] W (ExprR B l d (after e (pHead sub l i)) W)
def TailEye (B : Nat) (l : Toks) (d : Nat) (sub : Nat → Res Ex) : Prop := ∀ i e W, EyeAt B l i e d W → Calls Tryz.prog 120 #[.pointer (some ⟨B, 0, none⟩)] W (ExprR B l d (after e (pTail sub l i)) W)

/-- the eye's state, read out of what was told. -/
theorem Told.state {B : Nat} {l : Toks} {d : Nat} {T : Res Ex} {w w' : World} {k n : Int} {f s : ByteArray} {a : Option Addr} {m c : Nat} (h : Told B l d T w w' k n f s a m c) :
    ∃ e j, EyeAt B l j e d w' ∧ ((e = 0 ∧ ∃ x, T = .ok x j ∧ ExCs (Fresh w.heap.size w') w' x k n f s (.slice a m c)) ∨ (e ≠ 0 ∧ T = .bad e)) := by
  rcases h with ⟨x, j, h1, h2, h3⟩ | ⟨e, i, h1, h2, h3⟩
  · exact ⟨0, j, h2, .inl ⟨rfl, x, h1, h3⟩⟩
  · exact ⟨e, i, h3, .inr ⟨h2, h1⟩⟩

theorem five_set {w : World} {b : Nat} {x y z u v : Value} {T : TypeId} (h : w.heap[b]? = some (.cells #[x, y, z, u, v] T (0, 0))) (p q r t o : Value) :
    (((((w.setCell ⟨b, 0, none⟩ p).setCell ⟨b, 1, none⟩ q).setCell ⟨b, 2, none⟩ r).setCell ⟨b, 3, none⟩ t).setCell ⟨b, 4, none⟩ o).heap[b]? = some (.cells #[p, q, r, t, o] T (0, 0)) := block_set (block_set (block_set (block_set (block_set h 0 p) 1 q) 2 r) 3 t) 4 o

theorem five_cells {w : World} {b : Nat} {x y z u v : Value} {T : TypeId} (h : w.heap[b]? = some (.cells #[x, y, z, u, v] T (0, 0))) :
    (w.cell? ⟨b, 0, none⟩ = some x ∧ w.cell? ⟨b, 1, none⟩ = some y ∧ w.cell? ⟨b, 2, none⟩ = some z ∧ w.cell? ⟨b, 3, none⟩ = some u ∧ w.cell? ⟨b, 4, none⟩ = some v) ∧
    (w.frozen? ⟨b, 0, none⟩ = false ∧ w.frozen? ⟨b, 1, none⟩ = false ∧ w.frozen? ⟨b, 2, none⟩ = false ∧ w.frozen? ⟨b, 3, none⟩ = false ∧ w.frozen? ⟨b, 4, none⟩ = false) := by
  refine ⟨⟨?_, ?_, ?_, ?_, ?_⟩, ⟨Lib.frozen_of_heap h 0, Lib.frozen_of_heap h 1, Lib.frozen_of_heap h 2, Lib.frozen_of_heap h 3, Lib.frozen_of_heap h 4⟩⟩
  all_goals (rw [cell_of_row _ b _ _ _ _ h]; rfl)

/-- five stores into a block of the call's own. -/
theorem five_far {B : Nat} {l : Toks} {i : Nat} {e d : Int} {w w' : World} (hE : EyeAt B l i e d w') (hM : Moved B w w') {c : Nat} (hc : B < c) (hw : w.heap.size ≤ c) (p q r t o : Value) :
    EyeAt B l i e d (((((w'.setCell ⟨c, 0, none⟩ p).setCell ⟨c, 1, none⟩ q).setCell ⟨c, 2, none⟩ r).setCell ⟨c, 3, none⟩ t).setCell ⟨c, 4, none⟩ o) ∧
    Moved B w (((((w'.setCell ⟨c, 0, none⟩ p).setCell ⟨c, 1, none⟩ q).setCell ⟨c, 2, none⟩ r).setCell ⟨c, 3, none⟩ t).setCell ⟨c, 4, none⟩ o) :=
  ⟨ey_far (ey_far (ey_far (ey_far (ey_far hE hc 0 _) hc 1 _) hc 2 _) hc 3 _) hc 4 _, mv_far (mv_far (mv_far (mv_far (mv_far hM hw hc 0 _) hw hc 1 _) hw hc 2 _) hw hc 3 _) hw hc 4 _⟩

theorem five_other {w : World} {b c : Nat} (h : b ≠ c) (p q r t o : Value) :
    (((((w.setCell ⟨c, 0, none⟩ p).setCell ⟨c, 1, none⟩ q).setCell ⟨c, 2, none⟩ r).setCell ⟨c, 3, none⟩ t).setCell ⟨c, 4, none⟩ o).heap[b]? = w.heap[b]? := by
  rw [Below.heap_setCell _ _ _ _ (by exact h), Below.heap_setCell _ _ _ _ (by exact h), Below.heap_setCell _ _ _ _ (by exact h), Below.heap_setCell _ _ _ _ (by exact h), Below.heap_setCell _ _ _ _ (by exact h)]

theorem five_size {w : World} {c : Nat} (p q r t o : Value) :
    (((((w.setCell ⟨c, 0, none⟩ p).setCell ⟨c, 1, none⟩ q).setCell ⟨c, 2, none⟩ r).setCell ⟨c, 3, none⟩ t).setCell ⟨c, 4, none⟩ o).heap.size = w.heap.size := by
  rw [heap_size_setCell, heap_size_setCell, heap_size_setCell, heap_size_setCell, heap_size_setCell]

/-- blocks of the call's own, but for a box. -/
def OwnB (n ob : Nat) (w : World) (b : Nat) : Prop := n ≤ b ∧ b < w.heap.size ∧ b ≠ ob

/-- what holds at the head of a loop that reads on: the box ob holds what has been read so far; T: what the whole tells; P g: what is read from here on. -/
def LoopAt (B : Nat) (l : Toks) (d ob : Nat) (w : World) (T : Res Ex) (P : Nat → Ex → Nat → Res Ex) (g : Nat) (wx : World) : Prop :=
  ∃ (e : Int) (j : Nat) (k n : Int) (f s : ByteArray) (a : Option Addr) (m c : Nat), EyeAt B l j e d wx ∧ Moved B w wx ∧ w.heap.size < ob ∧
    wx.heap[w.heap.size]? = some (.cells #[.int .i64 0, .int .i64 0, .string ⟨#[]⟩, .string ⟨#[]⟩, .slice none 0 0] 52 (0, 0)) ∧
    wx.heap[ob]? = some (.cells #[.int .i64 k, .int .i64 n, .string f, .string s, .slice a m c] 52 (0, 0)) ∧
    ((e = 0 ∧ ∃ x, ExCs (OwnB (w.heap.size + 1) ob wx) wx x k n f s (.slice a m c) ∧ T = P g x j ∧ l.length - j < g) ∨ (e ≠ 0 ∧ T = .bad e))

/-- the end of such a function: the result is laid. -/
theorem expr_fin {B : Nat} {l : Toks} {j d ob : Nat} {e : Int} {w w2 : World} {T : Res Ex} {k n : Int} {f s : ByteArray} {a : Option Addr} {m c : Nat} {x0 y0 z0 u0 v0 : Value} (hE : EyeAt B l j e d w2) (hM : Moved B w w2) (hlt : B < w.heap.size)
    (hz : w2.heap[w.heap.size]? = some (.cells #[x0, y0, z0, u0, v0] 52 (0, 0)))
    (hres : (e = 0 ∧ ∃ x, ExCs (OwnB (w.heap.size + 1) ob w2) w2 x k n f s (.slice a m c) ∧ T = .ok x j) ∨ (e ≠ 0 ∧ T = .bad e)) :
    ∃ F, (((((w2.setCell ⟨w.heap.size, 0, none⟩ (.int .i64 k)).setCell ⟨w.heap.size, 1, none⟩ (.int .i64 n)).setCell ⟨w.heap.size, 2, none⟩ (.string f)).setCell ⟨w.heap.size, 3, none⟩ (.string s)).setCell ⟨w.heap.size, 4, none⟩ (.slice a m c)) = F ∧
      (F.cell? ⟨w.heap.size, 0, none⟩ = some (.int .i64 k) ∧ F.cell? ⟨w.heap.size, 1, none⟩ = some (.int .i64 n) ∧ F.cell? ⟨w.heap.size, 2, none⟩ = some (.string f) ∧ F.cell? ⟨w.heap.size, 3, none⟩ = some (.string s) ∧ F.cell? ⟨w.heap.size, 4, none⟩ = some (.slice a m c)) ∧
      ExprR B l d T w (.returned (.agg #[.int .i64 k, .int .i64 n, .string f, .string s, .slice a m c])) F := by
  obtain ⟨hE', hM'⟩ := five_far hE hM (c := w.heap.size) hlt (Nat.le_refl _) (.int .i64 k) (.int .i64 n) (.string f) (.string s) (.slice a m c)
  have hF := five_set hz (.int .i64 k) (.int .i64 n) (.string f) (.string s) (.slice a m c)
  refine ⟨_, rfl, (five_cells hF).1, hM', k, n, f, s, a, m, c, rfl, ?_⟩
  rcases hres with ⟨rfl, x, hx, hT⟩ | ⟨hne, hT⟩
  · exact .inl ⟨x, j, hT, hE', hx.keep ⟨fun b hb => five_other (by have := hb.1; omega) _ _ _ _ _, fun b hb => ⟨by have := hb.1; omega, by rw [five_size]; exact hb.2.1⟩⟩⟩
  · exact .inr ⟨e, j, hT, hne, hE'⟩

theorem heap_lt' {W : World} {b : Nat} {o : Obj} (h : W.heap[b]? = some o) : b < W.heap.size := by
  rcases Nat.lt_or_ge b W.heap.size with h' | h'
  · exact h'
  · rw [Array.getElem?_eq_none h'] at h; cases h

/-- two are made one: a new block holds both, the box what is made of them. -/
theorem pair_made {B : Nat} {l : Toks} {j d ob g : Nat} {e : Int} {w w5 : World} {T : Res Ex} {P : Nat → Ex → Nat → Res Ex} {k1 n1 k2 n2 : Int} {f1 s1 f2 s2 : ByteArray} {a1 a2 : Option Addr} {m1 c1 m2 c2 : Nat} (kk : Int)
    (hE : EyeAt B l j e d w5) (hM : Moved B w w5) (hlt : B < w.heap.size) (hob : w.heap.size < ob)
    (hz : w5.heap[w.heap.size]? = some (.cells #[.int .i64 0, .int .i64 0, .string ⟨#[]⟩, .string ⟨#[]⟩, .slice none 0 0] 52 (0, 0)))
    (ho : w5.heap[ob]? = some (.cells #[.int .i64 k1, .int .i64 n1, .string f1, .string s1, .slice a1 m1 c1] 52 (0, 0)))
    (hres : (e = 0 ∧ ∃ x p, ExCs (OwnB (w.heap.size + 1) ob w5) w5 x k1 n1 f1 s1 (.slice a1 m1 c1) ∧ ExCs (OwnB (w.heap.size + 1) ob w5) w5 p k2 n2 f2 s2 (.slice a2 m2 c2) ∧ T = P g (.mk kk 0 emptyText emptyText [x, p]) j ∧ l.length - j < g) ∨ (e ≠ 0 ∧ T = .bad e)) :
    LoopAt B l d ob w T P g ((((((w5.setCell ⟨ob, 0, none⟩ (.int .i64 kk)).setCell ⟨ob, 1, none⟩ (.int .i64 0)).setCell ⟨ob, 2, none⟩ (.string ⟨#[]⟩)).setCell ⟨ob, 3, none⟩ (.string ⟨#[]⟩)).setCell ⟨ob, 4, none⟩ (.slice (some ⟨w5.heap.size, 0, none⟩) 2 2)).alloc
      (.cells #[.int .i64 k1, .int .i64 n1, .string f1, .string s1, .slice a1 m1 c1, .int .i64 k2, .int .i64 n2, .string f2, .string s2, .slice a2 m2 c2] 52)) := by
  have hl5 := heap_lt' ho
  obtain ⟨hE', hM'⟩ := five_far hE hM (c := ob) (by omega) (by omega) (.int .i64 kk) (.int .i64 0) (.string ⟨#[]⟩) (.string ⟨#[]⟩) (.slice (some ⟨w5.heap.size, 0, none⟩) 2 2)
  have hF := five_set ho (.int .i64 kk) (.int .i64 0) (.string ⟨#[]⟩) (.string ⟨#[]⟩) (.slice (some ⟨w5.heap.size, 0, none⟩) 2 2)
  have hsz := five_size (w := w5) (c := ob) (.int .i64 kk) (.int .i64 0) (.string ⟨#[]⟩) (.string ⟨#[]⟩) (.slice (some ⟨w5.heap.size, 0, none⟩) 2 2)
  have hoth := fun b (hb : b ≠ ob) => five_other (w := w5) (b := b) (c := ob) hb (.int .i64 kk) (.int .i64 0) (.string ⟨#[]⟩) (.string ⟨#[]⟩) (.slice (some ⟨w5.heap.size, 0, none⟩) 2 2)
  generalize (((((w5.setCell ⟨ob, 0, none⟩ (.int .i64 kk)).setCell ⟨ob, 1, none⟩ (.int .i64 0)).setCell ⟨ob, 2, none⟩ (.string ⟨#[]⟩)).setCell ⟨ob, 3, none⟩ (.string ⟨#[]⟩)).setCell ⟨ob, 4, none⟩ (.slice (some ⟨w5.heap.size, 0, none⟩) 2 2)) = W at *
  refine ⟨e, j, kk, 0, ⟨#[]⟩, ⟨#[]⟩, some ⟨w5.heap.size, 0, none⟩, 2, 2, ey_alloc hE' _, hM'.alloc (by omega) _, hob, ?_, ?_, ?_⟩
  · exact (heap_alloc_old _ _ (by omega)).trans ((hoth _ (by omega)).trans hz)
  · exact (heap_alloc_old _ _ (by omega)).trans hF
  · rcases hres with ⟨rfl, x, p, hx, hp, hT, hg⟩ | ⟨hne, hT⟩
    · refine .inl ⟨rfl, _, ?_, hT, hg⟩
      have hk : Keeps (OwnB (w.heap.size + 1) ob w5) (OwnB (w.heap.size + 1) ob (W.alloc (.cells #[.int .i64 k1, .int .i64 n1, .string f1, .string s1, .slice a1 m1 c1, .int .i64 k2, .int .i64 n2, .string f2, .string s2, .slice a2 m2 c2] 52))) w5 (W.alloc (.cells #[.int .i64 k1, .int .i64 n1, .string f1, .string s1, .slice a1 m1 c1, .int .i64 k2, .int .i64 n2, .string f2, .string s2, .slice a2 m2 c2] 52)) :=
        ⟨fun b hb => (heap_alloc_old _ _ (by have := hb.2.1; omega)).trans (hoth b hb.2.2), fun b hb => ⟨hb.1, by simp; have := hb.2.1; omega, hb.2.2⟩⟩
      refine ⟨[x, p], rfl, empty_le, empty_le, some ⟨w5.heap.size, 0, none⟩, 2, rfl, ⟨by simp [maxLen], by simp⟩, Or.inr ⟨w5.heap.size, 0, rfl, ⟨by omega, by simp; omega, by omega⟩, ?_, ?_, trivial⟩⟩
      · exact exAt_cells.2 ⟨k1, n1, f1, s1, _, World.cell?_alloc_at _ _ _ _ hsz.symm, World.cell?_alloc_at _ _ _ _ hsz.symm, World.cell?_alloc_at _ _ _ _ hsz.symm, World.cell?_alloc_at _ _ _ _ hsz.symm, World.cell?_alloc_at _ _ _ _ hsz.symm, hx.keep hk⟩
      · exact exAt_cells.2 ⟨k2, n2, f2, s2, _, World.cell?_alloc_at _ _ _ _ hsz.symm, World.cell?_alloc_at _ _ _ _ hsz.symm, World.cell?_alloc_at _ _ _ _ hsz.symm, World.cell?_alloc_at _ _ _ _ hsz.symm, World.cell?_alloc_at _ _ _ _ hsz.symm, hp.keep hk⟩
    · exact .inr ⟨hne, hT⟩

theorem five_past {w : World} {c : Nat} (h : c < w.heap.size) (ob : Obj) (p q r t o : Value) :
    ((((((w.alloc ob).setCell ⟨c, 0, none⟩ p).setCell ⟨c, 1, none⟩ q).setCell ⟨c, 2, none⟩ r).setCell ⟨c, 3, none⟩ t).setCell ⟨c, 4, none⟩ o) = (((((w.setCell ⟨c, 0, none⟩ p).setCell ⟨c, 1, none⟩ q).setCell ⟨c, 2, none⟩ r).setCell ⟨c, 3, none⟩ t).setCell ⟨c, 4, none⟩ o).alloc ob := by
  rw [World.setCell_alloc_past _ _ _ _ h, World.setCell_alloc_past _ _ _ _ (by rw [heap_size_setCell]; exact h), World.setCell_alloc_past _ _ _ _ (by rw [heap_size_setCell, heap_size_setCell]; exact h), World.setCell_alloc_past _ _ _ _ (by rw [heap_size_setCell, heap_size_setCell, heap_size_setCell]; exact h), World.setCell_alloc_past _ _ _ _ (by rw [heap_size_setCell, heap_size_setCell, heap_size_setCell, heap_size_setCell]; exact h)]

end Go.Proofs.YtpamadnckijfkabGreatDoor
