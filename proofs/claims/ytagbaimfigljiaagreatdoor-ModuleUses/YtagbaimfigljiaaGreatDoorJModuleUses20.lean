import Derived.Test.YtagbaimfigljiaaGreatDoorJModuleUses19
import Derived.Test.YtagbaimfigljiaaGreatDoorJModuleUses4
import Derived.Deep.LoopGhost
namespace Go.Proofs.YtagbaimfigljiaaGreatDoor
open Go.RowKit
set_option maxRecDepth 100000

/-- what is wrong already stays. -/
def after {α : Type} (e : Int) (T : Res α) : Res α := if e = 0 then T else .bad e
theorem after_ok {α : Type} (T : Res α) : after 0 T = T := if_pos rfl
theorem after_bad {α : Type} {e : Int} (h : e ≠ 0) (T : Res α) : after e T = .bad e := if_neg h

def Told (B : Nat) (l : Toks) (d : Nat) (T : Res Ex) (w w' : World) (k n : Int) (f s : ByteArray) (a : Option Addr) (m c : Nat) : Prop :=
  (∃ x j, T = .ok x j ∧ EyeAt B l j 0 d w' ∧ ExCs (Fresh w.heap.size w') w' x k n f s (.slice a m c)) ∨ (∃ e i, T = .bad e ∧ e ≠ 0 ∧ EyeAt B l i e d w')
def ExprR (B : Nat) (l : Toks) (d : Nat) (T : Res Ex) (w : World) (r : Ending) (w' : World) : Prop :=
  Moved B w w' ∧ ∃ k n f s a m c, r = .returned (.agg #[.int .i64 k, .int .i64 n, .string f, .string s, .slice a m c]) ∧ Told B l d T w w' k n f s a m c

/-- the eye's functions read as the plain ones say, at depth d. -/
def ExprEye (B : Nat) (l : Toks) (d : Nat) (sub : Nat → Res Ex) : Prop := ∀ i e W, EyeAt B l i e d W → Calls Tryz.prog 215 #[.pointer (some ⟨B, 0, none⟩)] W (ExprR B l d (after e (sub i)) W)
def HeadEye (B : Nat) (l : Toks) (d : Nat) (sub : Nat → Res Ex) : Prop := ∀ i e W, EyeAt B l i e d W → Calls Tryz.prog 317 #[.pointer (some ⟨B, 0, none⟩)] W (ExprR B l d (after e (pHead sub l i)) W)
def TailEye (B : Nat) (l : Toks) (d : Nat) (sub : Nat → Res Ex) : Prop := ∀ i e W, EyeAt B l i e d W → Calls Tryz.prog 277 #[.pointer (some ⟨B, 0, none⟩)] W (ExprR B l d (after e (pTail sub l i)) W)

/-- the eye's state, read out of what was told. -/
theorem Told.state {B : Nat} {l : Toks} {d : Nat} {T : Res Ex} {w w' : World} {k n : Int} {f s : ByteArray} {a : Option Addr} {m c : Nat} (h : Told B l d T w w' k n f s a m c) :
    ∃ e j, EyeAt B l j e d w' ∧ ((e = 0 ∧ ∃ x, T = .ok x j ∧ ExCs (Fresh w.heap.size w') w' x k n f s (.slice a m c)) ∨ (e ≠ 0 ∧ T = .bad e)) := by
  rcases h with ⟨x, j, h1, h2, h3⟩ | ⟨e, i, h1, h2, h3⟩
  · exact ⟨0, j, h2, .inl ⟨rfl, x, h1, h3⟩⟩
  · exact ⟨e, i, h3, .inr ⟨h2, h1⟩⟩

theorem five_set {w : World} {b : Nat} {x y z u v : Value} {T : TypeId} (h : w.heap[b]? = some (.cells #[x, y, z, u, v] T (0, 0))) (p q r t o : Value) :
    (((((w.setCell ⟨b, 0, none⟩ p).setCell ⟨b, 1, none⟩ q).setCell ⟨b, 2, none⟩ r).setCell ⟨b, 3, none⟩ t).setCell ⟨b, 4, none⟩ o).heap[b]? = some (.cells #[p, q, r, t, o] T (0, 0)) := block_set (block_set (block_set (block_set (block_set h 0 p) 1 q) 2 r) 3 t) 4 o

theorem five_cells {w : World} {b : Nat} {x y z u v : Value} {T : TypeId} (h : w.heap[b]? = some (.cells #[x, y, z, u, v] T (0, 0))) :
    (w.cell? ⟨b, 0, none⟩ = some x ∧ w.cell? ⟨b, 1, none⟩ = some y ∧ w.cell? ⟨b, 2, none⟩ = some z ∧ w.cell? ⟨b, 3, none⟩ = some u ∧ w.cell? ⟨b, 4, none⟩ = some v) ∧
    (w.frozen? ⟨b, 0, none⟩ = false ∧ w.frozen? ⟨b, 1, none⟩ = false ∧ w.frozen? ⟨b, 2, none⟩ = false ∧ w.frozen? ⟨b, 3, none⟩ = false ∧ w.frozen? ⟨b, 4, none⟩ = false) := by
  refine ⟨⟨?_, ?_, ?_, ?_, ?_⟩, ⟨Lib.frozen_of_heap h 0, Lib.frozen_of_heap h 1, Lib.frozen_of_heap h 2, Lib.frozen_of_heap h 3, Lib.frozen_of_heap h 4⟩⟩
  all_goals (rw [cell_of_row _ b _ _ _ _ h]; rfl)

/-- five stores into a block of the call's own. -/
theorem five_far {B : Nat} {l : Toks} {i : Nat} {e d : Int} {w w' : World} (hE : EyeAt B l i e d w') (hM : Moved B w w') {c : Nat} (hc : B < c) (hw : w.heap.size ≤ c) (p q r t o : Value) :
    EyeAt B l i e d (((((w'.setCell ⟨c, 0, none⟩ p).setCell ⟨c, 1, none⟩ q).setCell ⟨c, 2, none⟩ r).setCell ⟨c, 3, none⟩ t).setCell ⟨c, 4, none⟩ o) ∧
    Moved B w (((((w'.setCell ⟨c, 0, none⟩ p).setCell ⟨c, 1, none⟩ q).setCell ⟨c, 2, none⟩ r).setCell ⟨c, 3, none⟩ t).setCell ⟨c, 4, none⟩ o) :=
  ⟨ey_far (ey_far (ey_far (ey_far (ey_far hE hc 0 _) hc 1 _) hc 2 _) hc 3 _) hc 4 _, mv_far (mv_far (mv_far (mv_far (mv_far hM hw hc 0 _) hw hc 1 _) hw hc 2 _) hw hc 3 _) hw hc 4 _⟩

theorem five_other {w : World} {b c : Nat} (h : b ≠ c) (p q r t o : Value) :
    (((((w.setCell ⟨c, 0, none⟩ p).setCell ⟨c, 1, none⟩ q).setCell ⟨c, 2, none⟩ r).setCell ⟨c, 3, none⟩ t).setCell ⟨c, 4, none⟩ o).heap[b]? = w.heap[b]? := by
  rw [Below.heap_setCell _ _ _ _ (by exact h), Below.heap_setCell _ _ _ _ (by exact h), Below.heap_setCell _ _ _ _ (by exact h), Below.heap_setCell _ _ _ _ (by exact h), Below.heap_setCell _ _ _ _ (by exact h)]

theorem five_size {w : World} {c : Nat} (p q r t o : Value) :
    (((((w.setCell ⟨c, 0, none⟩ p).setCell ⟨c, 1, none⟩ q).setCell ⟨c, 2, none⟩ r).setCell ⟨c, 3, none⟩ t).setCell ⟨c, 4, none⟩ o).heap.size = w.heap.size := by
  rw [heap_size_setCell, heap_size_setCell, heap_size_setCell, heap_size_setCell, heap_size_setCell]

/-- blocks of the call's own, but for a box. -/
def OwnB (n ob : Nat) (w : World) (b : Nat) : Prop := n ≤ b ∧ b < w.heap.size ∧ b ≠ ob

/-- what holds at the head of a loop that reads on: the box ob holds what has been read so far; T: what the whole tells; P g: what is read from here on. -/
def LoopAt (B : Nat) (l : Toks) (d ob : Nat) (w : World) (T : Res Ex) (P : Nat → Ex → Nat → Res Ex) (g : Nat) (wx : World) : Prop :=
  ∃ (e : Int) (j : Nat) (k n : Int) (f s : ByteArray) (a : Option Addr) (m c : Nat), EyeAt B l j e d wx ∧ Moved B w wx ∧ w.heap.size < ob ∧
    wx.heap[w.heap.size]? = some (.cells #[.int .i64 0, .int .i64 0, .string ⟨#[]⟩, .string ⟨#[]⟩, .slice none 0 0] 87 (0, 0)) ∧
    wx.heap[ob]? = some (.cells #[.int .i64 k, .int .i64 n, .string f, .string s, .slice a m c] 87 (0, 0)) ∧
    ((e = 0 ∧ ∃ x, ExCs (OwnB (w.heap.size + 1) ob wx) wx x k n f s (.slice a m c) ∧ T = P g x j ∧ l.length - j < g) ∨ (e ≠ 0 ∧ T = .bad e))

/-- the end of such a function: the result is laid. -/
theorem expr_fin {B : Nat} {l : Toks} {j d ob : Nat} {e : Int} {w w2 : World} {T : Res Ex} {k n : Int} {f s : ByteArray} {a : Option Addr} {m c : Nat} {x0 y0 z0 u0 v0 : Value} (hE : EyeAt B l j e d w2) (hM : Moved B w w2) (hlt : B < w.heap.size)
    (hz : w2.heap[w.heap.size]? = some (.cells #[x0, y0, z0, u0, v0] 87 (0, 0)))
    (hres : (e = 0 ∧ ∃ x, ExCs (OwnB (w.heap.size + 1) ob w2) w2 x k n f s (.slice a m c) ∧ T = .ok x j) ∨ (e ≠ 0 ∧ T = .bad e)) :
    ∃ F, (((((w2.setCell ⟨w.heap.size, 0, none⟩ (.int .i64 k)).setCell ⟨w.heap.size, 1, none⟩ (.int .i64 n)).setCell ⟨w.heap.size, 2, none⟩ (.string f)).setCell ⟨w.heap.size, 3, none⟩ (.string s)).setCell ⟨w.heap.size, 4, none⟩ (.slice a m c)) = F ∧
      (F.cell? ⟨w.heap.size, 0, none⟩ = some (.int .i64 k) ∧ F.cell? ⟨w.heap.size, 1, none⟩ = some (.int .i64 n) ∧ F.cell? ⟨w.heap.size, 2, none⟩ = some (.string f) ∧ F.cell? ⟨w.heap.size, 3, none⟩ = some (.string s) ∧ F.cell? ⟨w.heap.size, 4, none⟩ = some (.slice a m c)) ∧
      ExprR B l d T w (.returned (.agg #[.int .i64 k, .int .i64 n, .string f, .string s, .slice a m c])) F := by
  obtain ⟨hE', hM'⟩ := five_far hE hM (c := w.heap.size) hlt (Nat.le_refl _) (.int .i64 k) (.int .i64 n) (.string f) (.string s) (.slice a m c)
  have hF := five_set hz (.int .i64 k) (.int .i64 n) (.string f) (.string s) (.slice a m c)
  refine ⟨_, rfl, (five_cells hF).1, hM', k, n, f, s, a, m, c, rfl, ?_⟩
  rcases hres with ⟨rfl, x, hx, hT⟩ | ⟨hne, hT⟩
  · exact .inl ⟨x, j, hT, hE', hx.keep ⟨fun b hb => five_other (by have := hb.1; omega) _ _ _ _ _, fun b hb => ⟨by have := hb.1; omega, by rw [five_size]; exact hb.2.1⟩⟩⟩
  · exact .inr ⟨e, j, hT, hne, hE'⟩

theorem heap_lt' {W : World} {b : Nat} {o : Obj} (h : W.heap[b]? = some o) : b < W.heap.size := by
  rcases Nat.lt_or_ge b W.heap.size with h' | h'
  · exact h'
  · rw [Array.getElem?_eq_none h'] at h; cases h

/-- two are made one: a new block holds both, the box what is made of them. -/
theorem pair_made {B : Nat} {l : Toks} {j d ob g : Nat} {e : Int} {w w5 : World} {T : Res Ex} {P : Nat → Ex → Nat → Res Ex} {k1 n1 k2 n2 : Int} {f1 s1 f2 s2 : ByteArray} {a1 a2 : Option Addr} {m1 c1 m2 c2 : Nat} (kk : Int)
    (hE : EyeAt B l j e d w5) (hM : Moved B w w5) (hlt : B < w.heap.size) (hob : w.heap.size < ob)
    (hz : w5.heap[w.heap.size]? = some (.cells #[.int .i64 0, .int .i64 0, .string ⟨#[]⟩, .string ⟨#[]⟩, .slice none 0 0] 87 (0, 0)))
    (ho : w5.heap[ob]? = some (.cells #[.int .i64 k1, .int .i64 n1, .string f1, .string s1, .slice a1 m1 c1] 87 (0, 0)))
    (hres : (e = 0 ∧ ∃ x p, ExCs (OwnB (w.heap.size + 1) ob w5) w5 x k1 n1 f1 s1 (.slice a1 m1 c1) ∧ ExCs (OwnB (w.heap.size + 1) ob w5) w5 p k2 n2 f2 s2 (.slice a2 m2 c2) ∧ T = P g (.mk kk 0 emptyText emptyText [x, p]) j ∧ l.length - j < g) ∨ (e ≠ 0 ∧ T = .bad e)) :
    LoopAt B l d ob w T P g ((((((w5.setCell ⟨ob, 0, none⟩ (.int .i64 kk)).setCell ⟨ob, 1, none⟩ (.int .i64 0)).setCell ⟨ob, 2, none⟩ (.string ⟨#[]⟩)).setCell ⟨ob, 3, none⟩ (.string ⟨#[]⟩)).setCell ⟨ob, 4, none⟩ (.slice (some ⟨w5.heap.size, 0, none⟩) 2 2)).alloc
      (.cells #[.int .i64 k1, .int .i64 n1, .string f1, .string s1, .slice a1 m1 c1, .int .i64 k2, .int .i64 n2, .string f2, .string s2, .slice a2 m2 c2] 87)) := by
  have hl5 := heap_lt' ho
  obtain ⟨hE', hM'⟩ := five_far hE hM (c := ob) (by omega) (by omega) (.int .i64 kk) (.int .i64 0) (.string ⟨#[]⟩) (.string ⟨#[]⟩) (.slice (some ⟨w5.heap.size, 0, none⟩) 2 2)
  have hF := five_set ho (.int .i64 kk) (.int .i64 0) (.string ⟨#[]⟩) (.string ⟨#[]⟩) (.slice (some ⟨w5.heap.size, 0, none⟩) 2 2)
  have hsz := five_size (w := w5) (c := ob) (.int .i64 kk) (.int .i64 0) (.string ⟨#[]⟩) (.string ⟨#[]⟩) (.slice (some ⟨w5.heap.size, 0, none⟩) 2 2)
  have hoth := fun b (hb : b ≠ ob) => five_other (w := w5) (b := b) (c := ob) hb (.int .i64 kk) (.int .i64 0) (.string ⟨#[]⟩) (.string ⟨#[]⟩) (.slice (some ⟨w5.heap.size, 0, none⟩) 2 2)
  generalize (((((w5.setCell ⟨ob, 0, none⟩ (.int .i64 kk)).setCell ⟨ob, 1, none⟩ (.int .i64 0)).setCell ⟨ob, 2, none⟩ (.string ⟨#[]⟩)).setCell ⟨ob, 3, none⟩ (.string ⟨#[]⟩)).setCell ⟨ob, 4, none⟩ (.slice (some ⟨w5.heap.size, 0, none⟩) 2 2)) = W at *
  refine ⟨e, j, kk, 0, ⟨#[]⟩, ⟨#[]⟩, some ⟨w5.heap.size, 0, none⟩, 2, 2, ey_alloc hE' _, hM'.alloc (by omega) _, hob, ?_, ?_, ?_⟩
  · exact (heap_alloc_old _ _ (by omega)).trans ((hoth _ (by omega)).trans hz)
  · exact (heap_alloc_old _ _ (by omega)).trans hF
  · rcases hres with ⟨rfl, x, p, hx, hp, hT, hg⟩ | ⟨hne, hT⟩
    · refine .inl ⟨rfl, _, ?_, hT, hg⟩
      have hk : Keeps (OwnB (w.heap.size + 1) ob w5) (OwnB (w.heap.size + 1) ob (W.alloc (.cells #[.int .i64 k1, .int .i64 n1, .string f1, .string s1, .slice a1 m1 c1, .int .i64 k2, .int .i64 n2, .string f2, .string s2, .slice a2 m2 c2] 87))) w5 (W.alloc (.cells #[.int .i64 k1, .int .i64 n1, .string f1, .string s1, .slice a1 m1 c1, .int .i64 k2, .int .i64 n2, .string f2, .string s2, .slice a2 m2 c2] 87)) :=
        ⟨fun b hb => (heap_alloc_old _ _ (by have := hb.2.1; omega)).trans (hoth b hb.2.2), fun b hb => ⟨hb.1, by simp; have := hb.2.1; omega, hb.2.2⟩⟩
      refine ⟨[x, p], rfl, empty_le, empty_le, some ⟨w5.heap.size, 0, none⟩, 2, rfl, ⟨by simp [maxLen], by simp⟩, Or.inr ⟨w5.heap.size, 0, rfl, ⟨by omega, by simp; omega, by omega⟩, ?_, ?_, trivial⟩⟩
      · exact exAt_cells.2 ⟨k1, n1, f1, s1, _, World.cell?_alloc_at _ _ _ _ hsz.symm, World.cell?_alloc_at _ _ _ _ hsz.symm, World.cell?_alloc_at _ _ _ _ hsz.symm, World.cell?_alloc_at _ _ _ _ hsz.symm, World.cell?_alloc_at _ _ _ _ hsz.symm, hx.keep hk⟩
      · exact exAt_cells.2 ⟨k2, n2, f2, s2, _, World.cell?_alloc_at _ _ _ _ hsz.symm, World.cell?_alloc_at _ _ _ _ hsz.symm, World.cell?_alloc_at _ _ _ _ hsz.symm, World.cell?_alloc_at _ _ _ _ hsz.symm, World.cell?_alloc_at _ _ _ _ hsz.symm, hp.keep hk⟩
    · exact .inr ⟨hne, hT⟩

theorem five_past {w : World} {c : Nat} (h : c < w.heap.size) (ob : Obj) (p q r t o : Value) :
    ((((((w.alloc ob).setCell ⟨c, 0, none⟩ p).setCell ⟨c, 1, none⟩ q).setCell ⟨c, 2, none⟩ r).setCell ⟨c, 3, none⟩ t).setCell ⟨c, 4, none⟩ o) = (((((w.setCell ⟨c, 0, none⟩ p).setCell ⟨c, 1, none⟩ q).setCell ⟨c, 2, none⟩ r).setCell ⟨c, 3, none⟩ t).setCell ⟨c, 4, none⟩ o).alloc ob := by
  rw [World.setCell_alloc_past _ _ _ _ h, World.setCell_alloc_past _ _ _ _ (by rw [heap_size_setCell]; exact h), World.setCell_alloc_past _ _ _ _ (by rw [heap_size_setCell, heap_size_setCell]; exact h), World.setCell_alloc_past _ _ _ _ (by rw [heap_size_setCell, heap_size_setCell, heap_size_setCell]; exact h), World.setCell_alloc_past _ _ _ _ (by rw [heap_size_setCell, heap_size_setCell, heap_size_setCell, heap_size_setCell]; exact h)]

end Go.Proofs.YtagbaimfigljiaaGreatDoor
namespace Go.Proofs.YtagbaimfigljiaaGreatDoor
open Go.RowKit
set_option maxRecDepth 100000

set_option maxHeartbeats 8000000 in
theorem tail_eye (B : Nat) (l : Toks) (d : Nat) (sub : Nat → Res Ex) (hE : ExprEye B l d sub) (hH : HeadEye B l d sub) (hadv : ∀ i x j, sub i = .ok x j → i ≤ j) : TailEye B l d sub := by
  intro i e w h
  have hlt := ey_lt h
  have HE := veil hE
  have HAdv := veil hadv
  have HH := veil (fun W hW => hH i e W hW)
  have HA := veil (ey_alloc h (.cells #[.int .i64 0, .int .i64 0, .string ⟨#[]⟩, .string ⟨#[]⟩, .slice none 0 0] 87))
  have HM : Hid (Moved B w (w.alloc (.cells #[.int .i64 0, .int .i64 0, .string ⟨#[]⟩, .string ⟨#[]⟩, .slice none 0 0] 87))) := Moved.of_below ((Below.refl _ _).alloc (Nat.le_refl _) _) (by omega)
  clear h hE hH hadv
  go_enter Tryz.func277, Tryz.ntmps277
  go_wp2_with fail
  refine (HH.out _ HA.out).mono ?_
  rintro r w1 ⟨q2, k, n, f, s, a, m, c, rfl, q1⟩
  have hs1 : w.heap.size + 1 ≤ w1.heap.size := by have := q2.below.size; simpa using this
  have hz1 : w1.heap[w.heap.size]? = some (.cells #[.int .i64 0, .int .i64 0, .string ⟨#[]⟩, .string ⟨#[]⟩, .slice none 0 0] 87 (0, 0)) := (q2.above w.heap.size hlt (by simp)).trans (heap_alloc_new w _)
  have HL : Hid (LoopAt B l d w1.heap.size w (after e (pTail sub l i)) (pPlaces sub l) (l.length + 1) (w1.alloc (.cells #[.int .i64 k, .int .i64 n, .string f, .string s, .slice a m c] 87))) := by
    obtain ⟨e1, j1, hE1, hr⟩ := q1.state
    refine ⟨e1, j1, k, n, f, s, a, m, c, ey_alloc hE1 _, (HM.out.trans q2).alloc (by omega) _, by omega, (heap_alloc_old _ _ (by omega)).trans hz1, heap_alloc_new _ _, ?_⟩
    rcases hr with ⟨rfl, x, hT, hx⟩ | ⟨hne, hT⟩
    · have he : e = 0 := by
        by_cases he : e = 0
        · exact he
        · rw [after_bad he] at hT; cases hT
      subst he
      rw [after_ok] at hT
      refine .inl ⟨rfl, x, hx.keep ⟨fun b hb => heap_alloc_old _ _ hb.2, fun b hb => ⟨by have := hb.1; simpa using this, by simp; have := hb.2; omega, by have := hb.2; omega⟩⟩, ?_, by omega⟩
      rw [after_ok, pTail, hT]
    · refine .inr ⟨hne, ?_⟩
      by_cases he : e = 0
      · subst he
        rw [after_ok] at hT ⊢
        rw [pTail, hT]
      · rw [after_bad he] at hT ⊢
        exact hT
  clear q1 q2 HH HA HM hz1
  go_wp2_with fail
  go_loopg [4] (l.length + 1) (fun g _ wx => LoopAt B l d w1.heap.size w (after e (pTail sub l i)) (pPlaces sub l) g wx)
  case atStart => exact HL.out
  case round =>
    clear HL
    obtain ⟨e1, j, k1, n1, f1, s1, a1, m1, c1, hE1, hM1, hob, hz, ho, hres⟩ := hrel
    go_wp2_with fail
    refine (sees_eye B l j e1 _ ⟨#[91]⟩ _ hE1).mono ?_
    rintro r w2 ⟨rfl, q1, q2⟩
    have hlt1 := heap_lt' ho
    have hz2 := (q2.above w.heap.size hlt (by omega)).trans hz
    have ho2 := (q2.above w1.heap.size (by omega) hlt1).trans ho
    have hM2 := hM1.trans q2
    have hk2 : Keeps (OwnB (w.heap.size + 1) w1.heap.size wr) (OwnB (w.heap.size + 1) w1.heap.size w2) wr w2 := ⟨fun b hb => q2.above b (by have := hb.1; omega) hb.2.1, fun b hb => ⟨hb.1, Nat.lt_of_lt_of_le hb.2.1 q2.below.size, hb.2.2⟩⟩
    cases hsg : seesB l j e1 (ByteArray.mk #[91]).data.toList with
    | false =>
      rw [hsg] at q1
      have hE2 : EyeAt B l j e1 d w2 := q1
      have HFin := veil (expr_fin (T := after e (pTail sub l i)) (ob := w1.heap.size) (k := k1) (n := n1) (f := f1) (s := s1) (a := a1) (m := m1) (c := c1) hE2 hM2 hlt hz2 (by
        rcases hres with ⟨rfl, x, hx, hT, hg⟩ | ⟨hne, hT⟩
        · refine .inl ⟨rfl, x, hx.keep hk2, ?_⟩
          have hs : sgn l j [91] = false := by simpa [seesB] using hsg
          rw [hT]
          cases gk with
          | zero => omega
          | succ g => rw [pPlaces, hs]; rfl
        · exact .inr ⟨hne, hT⟩))
      obtain ⟨⟨o0, o1, o2, o3, o4⟩, _⟩ := five_cells ho2
      obtain ⟨⟨r0, r1, r2, r3, r4⟩, ⟨g0, g1, g2, g3, g4⟩⟩ := five_cells hz2
      clear q1 q2 hE1 hM1 hz ho hres hk2 hsg hE2 hM2 hz2 ho2
      go_wp2_with fail
      obtain ⟨F, hF, ⟨y0, y1, y2, y3, y4⟩, hR⟩ := HFin.out
      rw [hF]
      exact bodyPost_ret (v := .agg #[.int .i64 k1, .int .i64 n1, .string f1, .string s1, .slice a1 m1 c1]) (by simp [results, Tryz.results277, go_sem, y0, y1, y2, y3, y4]) rfl hR
    | true =>
      rw [hsg] at q1
      have hb : e1 = 0 ∧ sgn l j [91] = true := by simpa [seesB] using hsg
      obtain ⟨he1, hs⟩ := hb
      subst he1
      have hE2 : EyeAt B l (j + 1) 0 d w2 := q1
      have HX := veil (HE.out (j + 1) 0 w2 hE2)
      have HZ2 := veil hz2
      have HO2 := veil ho2
      have HM2 := veil hM2
      have hs2 := q2.below.size
      clear q1 q2 hE1 hM1 hz ho hsg hE2 hM2 hz2 ho2
      go_wp2_with fail
      refine HX.out.mono ?_
      rintro r w3 ⟨q2, k2, n2, f2, s2, a2, m2, c2, rfl, q1⟩
      obtain ⟨e3, j3, hE3, hr3⟩ := q1.state
      clear q1
      have hs3 := q2.below.size
      have hz3 := (q2.above w.heap.size hlt (by omega)).trans HZ2.out
      have ho3 := (q2.above w1.heap.size (by omega) (by omega)).trans HO2.out
      have HM3 := veil ((HM2.out.trans q2).alloc (by omega) (.cells #[.int .i64 k2, .int .i64 n2, .string f2, .string s2, .slice a2 m2 c2] 87))
      have HZ3 := veil ((heap_alloc_old w3 (.cells #[.int .i64 k2, .int .i64 n2, .string f2, .string s2, .slice a2 m2 c2] 87) (by omega)).trans hz3)
      have HO3 := veil ((heap_alloc_old w3 (.cells #[.int .i64 k2, .int .i64 n2, .string f2, .string s2, .slice a2 m2 c2] 87) (by omega)).trans ho3)
      have hE4 := ey_alloc hE3 (.cells #[.int .i64 k2, .int .i64 n2, .string f2, .string s2, .slice a2 m2 c2] 87)
      go_wp2_with fail
      refine (wants_eye B l j3 e3 _ ⟨#[93]⟩ _ hE4).mono ?_
      rintro r w5 ⟨rfl, q3, q4⟩
      have hs4 : w3.heap.size + 1 ≤ w5.heap.size := by have := q4.below.size; simpa using this
      have hz5 := (q4.above w.heap.size hlt (by simp; omega)).trans HZ3.out
      have ho5 := (q4.above w1.heap.size (by omega) (by simp; omega)).trans HO3.out
      have ha5 := (q4.above w3.heap.size (by omega) (by simp)).trans (heap_alloc_new w3 (.cells #[.int .i64 k2, .int .i64 n2, .string f2, .string s2, .slice a2 m2 c2] 87))
      obtain ⟨⟨o0, o1, o2, o3, o4⟩, ⟨g0, g1, g2, g3, g4⟩⟩ := five_cells ho5
      obtain ⟨⟨r0, r1, r2, r3, r4⟩, _⟩ := five_cells ha5
      have b1 : w3.heap.size ≠ w1.heap.size := by omega
      have b2 : w1.heap.size ≠ w3.heap.size := by omega
      have b3 : w1.heap.size ≠ w5.heap.size := by omega
      have hl5 : w1.heap.size < w5.heap.size := by omega
      have hoA : (w5.alloc (.cells #[.int .i64 k1, .int .i64 n1, .string f1, .string s1, .slice a1 m1 c1, .int .i64 k2, .int .i64 n2, .string f2, .string s2, .slice a2 m2 c2] 87)).heap[w1.heap.size]? = some (.cells #[.int .i64 k1, .int .i64 n1, .string f1, .string s1, .slice a1 m1 c1] 87 (0, 0)) := (heap_alloc_old _ _ (by omega)).trans ho5
      obtain ⟨⟨x0, x1, x2, x3, x4⟩, ⟨v0, v1, v2, v3, v4⟩⟩ := five_cells hoA
      have HRes := veil hres
      have HR3 := veil hr3
      have HK2 := veil hk2
      have HQ2 := veil q2
      have HQ4 := veil q4
      have HQ3 := veil q3
      have HZ5 := veil hz5
      have HO5 := veil ho5
      have HS := veil hs
      clear hres hr3 hk2 q2 q3 q4 hz5 ho5 ha5 hoA hs hE4 hE3 hz3 ho3
      go_wp2_with fail
      obtain ⟨x, hx, hT, hg⟩ : ∃ x, ExCs (OwnB (w.heap.size + 1) w1.heap.size wr) wr x k1 n1 f1 s1 (.slice a1 m1 c1) ∧ after e (pTail sub l i) = pPlaces sub l gk x j ∧ l.length - j < gk := by
        rcases HRes.out with ⟨_, x, hx, hT, hg⟩ | ⟨hne, _⟩
        · exact ⟨x, hx, hT, hg⟩
        · exact absurd rfl hne
      have hjl := sgn_lt HS.out
      cases gk with
      | zero => omega
      | succ g =>
        go_roundg g
        case measure => omega
        case rel =>
          have hk5 : Keeps (OwnB (w.heap.size + 1) w1.heap.size w2) (OwnB (w.heap.size + 1) w1.heap.size w5) w2 w5 := ⟨fun b hb => (HQ4.out.above b (by have := hb.1; omega) (by simp; have := hb.2.1; omega)).trans ((heap_alloc_old _ _ (by have := hb.2.1; omega)).trans (HQ2.out.above b (by have := hb.1; omega) hb.2.1)), fun b hb => ⟨hb.1, by have := hb.2.1; omega, hb.2.2⟩⟩
          have hk6 : Keeps (Fresh w2.heap.size w3) (OwnB (w.heap.size + 1) w1.heap.size w5) w3 w5 := ⟨fun b hb => (HQ4.out.above b (by have := hb.1; omega) (by simp; have := hb.2; omega)).trans (heap_alloc_old _ _ hb.2), fun b hb => ⟨by have := hb.1; omega, by have := hb.2; omega, by have := hb.1; omega⟩⟩
          refine pair_made 7 HQ3.out (HM3.out.trans HQ4.out) hlt hob HZ5.out HO5.out ?_
          rw [pPlaces, if_pos HS.out] at hT
          rcases HR3.out with ⟨rfl, p, hp, hpx⟩ | ⟨hne, hp⟩
          · rw [after_ok] at hp
            have hadv2 := HAdv.out _ _ _ hp
            rw [hp] at hT
            cases hs93 : sgn l j3 [93] with
            | true =>
              have hsd : seesB l j3 0 (ByteArray.mk #[93]).data.toList = true := by unfold seesB; rw [show sgn l j3 (ByteArray.mk #[93]).data.toList = true from hs93]; simp
              rw [hsd]
              refine .inl ⟨rfl, x, p, (hx.keep HK2.out).keep hk5, hpx.keep hk6, ?_, ?_⟩
              · rw [hT]; simp only [hs93, if_true]; rfl
              · show l.length - (j3 + 1) < g; omega
            | false =>
              have hsd : seesB l j3 0 (ByteArray.mk #[93]).data.toList = false := by unfold seesB; rw [show sgn l j3 (ByteArray.mk #[93]).data.toList = false from hs93]; simp
              rw [hsd]
              refine .inr ⟨by decide, ?_⟩
              rw [hT]; simp only [hs93]; rfl
          · rw [after_ok] at hp
            rw [hp] at hT
            have hsd : seesB l j3 e3 (ByteArray.mk #[93]).data.toList = false := by unfold seesB; simp [hne]
            rw [hsd]
            have he : wantE false e3 = e3 := by unfold wantE firstOf; simp [hne]
            rw [he]
            exact .inr ⟨hne, hT⟩

end Go.Proofs.YtagbaimfigljiaaGreatDoor
namespace Go.Proofs.YtagbaimfigljiaaGreatDoor
open Go.RowKit
set_option maxRecDepth 100000

/-- the end of expr: one depth less, the result laid. -/
theorem expr_end {B : Nat} {l : Toks} {j d ob : Nat} {e : Int} {w w2 : World} {T : Res Ex} {k n : Int} {f s : ByteArray} {a : Option Addr} {m c : Nat} {x0 y0 z0 u0 v0 : Value} (hE : EyeAt B l j e ((d + 1 : Nat) : Int) w2) (hM : Moved B w w2) (hlt : B < w.heap.size)
    (hz : w2.heap[w.heap.size]? = some (.cells #[x0, y0, z0, u0, v0] 87 (0, 0)))
    (hres : (e = 0 ∧ ∃ x, ExCs (OwnB (w.heap.size + 1) ob w2) w2 x k n f s (.slice a m c) ∧ T = .ok x j) ∨ (e ≠ 0 ∧ T = .bad e)) :
    ∃ F, ((((((w2.setCell ⟨B, 3, none⟩ (.int .i64 (d : Int))).setCell ⟨w.heap.size, 0, none⟩ (.int .i64 k)).setCell ⟨w.heap.size, 1, none⟩ (.int .i64 n)).setCell ⟨w.heap.size, 2, none⟩ (.string f)).setCell ⟨w.heap.size, 3, none⟩ (.string s)).setCell ⟨w.heap.size, 4, none⟩ (.slice a m c)) = F ∧
      (F.cell? ⟨w.heap.size, 0, none⟩ = some (.int .i64 k) ∧ F.cell? ⟨w.heap.size, 1, none⟩ = some (.int .i64 n) ∧ F.cell? ⟨w.heap.size, 2, none⟩ = some (.string f) ∧ F.cell? ⟨w.heap.size, 3, none⟩ = some (.string s) ∧ F.cell? ⟨w.heap.size, 4, none⟩ = some (.slice a m c)) ∧
      ExprR B l d T w (.returned (.agg #[.int .i64 k, .int .i64 n, .string f, .string s, .slice a m c])) F := by
  have hk : Keeps (OwnB (w.heap.size + 1) ob w2) (OwnB (w.heap.size + 1) ob (w2.setCell ⟨B, 3, none⟩ (.int .i64 (d : Int)))) w2 (w2.setCell ⟨B, 3, none⟩ (.int .i64 (d : Int))) :=
    ⟨fun b hb => Below.heap_setCell _ _ _ _ (by show b ≠ B; have := hb.1; omega), fun b hb => ⟨hb.1, by rw [heap_size_setCell]; exact hb.2.1, hb.2.2⟩⟩
  refine expr_fin (ob := ob) (ey_set3 hE _) (hM.set 3 _) hlt ((Below.heap_setCell _ _ _ _ (by show w.heap.size ≠ B; omega)).trans hz) ?_
  rcases hres with ⟨h0, x, hx, hT⟩ | h
  · exact .inl ⟨h0, x, hx.keep hk, hT⟩
  · exact .inr h

set_option maxHeartbeats 4000000 in
/-- from a state in which something is wrong, or too deep: nothing is read. -/
theorem expr_skip (B : Nat) (l : Toks) (i : Nat) (e e1 : Int) (d : Nat) (hd : d < 1000) (T : Res Ex) (w : World) (h : EyeAt B l i e d w) (he1 : (if 40 < d + 1 then firstOf e 1 else e) = e1) (hne : e1 ≠ 0) (hT : T = .bad e1) :
    Calls Tryz.prog 215 #[.pointer (some ⟨B, 0, none⟩)] w (ExprR B l d T w) := by
  have hlt := ey_lt h
  have HH := veil (ey_alloc h (.cells #[.int .i64 0, .int .i64 0, .string ⟨#[]⟩, .string ⟨#[]⟩, .slice none 0 0] 87))
  have HM : Hid (Moved B w (w.alloc (.cells #[.int .i64 0, .int .i64 0, .string ⟨#[]⟩, .string ⟨#[]⟩, .slice none 0 0] 87))) := Moved.of_below ((Below.refl _ _).alloc (Nat.le_refl _) _) (by omega)
  have HE1 := veil he1
  have hne' : (e1 == 0) = false := beq_eq_false_iff_ne.2 hne
  have HNe := veil hne
  have HT := veil hT
  clear h he1 hne hT
  go_enter Tryz.func215, Tryz.ntmps215
  go_wp2_with fail
  refine (down_eye B l i e d hd _ HH.out).mono ?_
  rintro r w1 ⟨rfl, q1, q2⟩
  rw [HE1.out] at q1
  have hs1 : w.heap.size + 1 ≤ w1.heap.size := by have := q2.below.size; simpa using this
  have hz1 : w1.heap[w.heap.size]? = some (.cells #[.int .i64 0, .int .i64 0, .string ⟨#[]⟩, .string ⟨#[]⟩, .slice none 0 0] 87 (0, 0)) := (q2.above w.heap.size hlt (by simp)).trans (heap_alloc_new w _)
  have hE2 := ey_alloc q1 (.cells #[.int .i64 0, .int .i64 0, .string ⟨#[]⟩, .string ⟨#[]⟩, .slice none 0 0] 87)
  have hM2 := (HM.out.trans q2).alloc (by omega) (.cells #[.int .i64 0, .int .i64 0, .string ⟨#[]⟩, .string ⟨#[]⟩, .slice none 0 0] 87)
  have hz2 := (heap_alloc_old w1 (.cells #[.int .i64 0, .int .i64 0, .string ⟨#[]⟩, .string ⟨#[]⟩, .slice none 0 0] 87) (by omega)).trans hz1
  have HFin := veil (expr_end (T := T) (ob := w1.heap.size) (k := 0) (n := 0) (f := ⟨#[]⟩) (s := ⟨#[]⟩) (a := none) (m := 0) (c := 0) hE2 hM2 hlt hz2 (.inr ⟨HNe.out, HT.out⟩))
  obtain ⟨⟨r0, r1, r2, r3, r4⟩, ⟨g0, g1, g2, g3, g4⟩⟩ := five_cells hz2
  obtain ⟨⟨o0, o1, o2, o3, o4⟩, _⟩ := five_cells (heap_alloc_new w1 (.cells #[.int .i64 0, .int .i64 0, .string ⟨#[]⟩, .string ⟨#[]⟩, .slice none 0 0] 87))
  obtain ⟨ta, tcap, c0, c1, c2, c3, x1, x2, x3, hi, h200, htok⟩ := ey_cells hE2
  have en : ((d + 1 : Nat) : Int) = (d : Int) + 1 := by omega
  rw [en] at c3
  have hd' : (d : Int) < 1000 := by omega
  have hd0 : (0 : Int) ≤ (d : Int) := by omega
  have b1 : w1.heap.size ≠ B := by omega
  have b2 : w.heap.size ≠ B := by omega
  have b3 : B ≠ w.heap.size := by omega
  have b4 : w1.heap.size ≠ w.heap.size := by omega
  have b5 : w.heap.size ≠ w1.heap.size := by omega
  have b6 : B ≠ w1.heap.size := by omega
  clear q1 q2 c0 c1 x1 x2 htok hz1 hz2 hE2 hM2
  go_wp2_with fail
  obtain ⟨F, hF, ⟨y0, y1, y2, y3, y4⟩, hR⟩ := HFin.out
  rw [hF]
  exact bodyPost_ret (v := .agg #[.int .i64 0, .int .i64 0, .string ⟨#[]⟩, .string ⟨#[]⟩, .slice none 0 0]) (by simp [results, Tryz.results215, go_sem, y0, y1, y2, y3, y4]) rfl hR

set_option maxHeartbeats 8000000 in
theorem expr_step (B : Nat) (l : Toks) (d f : Nat) (hd : d < 40) (hT : TailEye B l (d + 1) (pEx l f)) (i : Nat) (w : World) (h : EyeAt B l i 0 d w) :
    Calls Tryz.prog 215 #[.pointer (some ⟨B, 0, none⟩)] w (ExprR B l d (pEx l (f + 1) i) w) := by
  have hlt := ey_lt h
  have HH := veil (ey_alloc h (.cells #[.int .i64 0, .int .i64 0, .string ⟨#[]⟩, .string ⟨#[]⟩, .slice none 0 0] 87))
  have HM : Hid (Moved B w (w.alloc (.cells #[.int .i64 0, .int .i64 0, .string ⟨#[]⟩, .string ⟨#[]⟩, .slice none 0 0] 87))) := Moved.of_below ((Below.refl _ _).alloc (Nat.le_refl _) _) (by omega)
  have HTl := veil hT
  clear h hT
  go_enter Tryz.func215, Tryz.ntmps215
  go_wp2_with fail
  refine (down_eye B l i 0 d (by omega) _ HH.out).mono ?_
  rintro r w1 ⟨rfl, q1, q2⟩
  rw [if_neg (by omega)] at q1
  have hs1 : w.heap.size + 1 ≤ w1.heap.size := by have := q2.below.size; simpa using this
  have hz1 : w1.heap[w.heap.size]? = some (.cells #[.int .i64 0, .int .i64 0, .string ⟨#[]⟩, .string ⟨#[]⟩, .slice none 0 0] 87 (0, 0)) := (q2.above w.heap.size hlt (by simp)).trans (heap_alloc_new w _)
  have hE2 := ey_alloc q1 (.cells #[.int .i64 0, .int .i64 0, .string ⟨#[]⟩, .string ⟨#[]⟩, .slice none 0 0] 87)
  have HM2 := veil ((HM.out.trans q2).alloc (by omega) (.cells #[.int .i64 0, .int .i64 0, .string ⟨#[]⟩, .string ⟨#[]⟩, .slice none 0 0] 87))
  have HZ2 := veil ((heap_alloc_old w1 (.cells #[.int .i64 0, .int .i64 0, .string ⟨#[]⟩, .string ⟨#[]⟩, .slice none 0 0] 87) (by omega)).trans hz1)
  have HE2 := veil hE2
  obtain ⟨ta, tcap, c0, c1, c2, c3, x1, x2, x3, hi, h200, htok⟩ := ey_cells hE2
  have hd' : (d : Int) < 1000 := by omega
  have hd0 : (0 : Int) ≤ (d : Int) := by omega
  clear q1 q2 c0 c1 c3 x1 x2 x3 htok hz1 hE2
  go_wp2_with fail
  refine (HTl.out i 0 _ HE2.out).mono ?_
  rintro r w3 ⟨q2, k, n, fo, s, a, m, c, rfl, q1⟩
  rw [after_ok] at q1
  have hs3 : w1.heap.size + 1 ≤ w3.heap.size := by have := q2.below.size; simpa using this
  have hz3 := (q2.above w.heap.size hlt (by simp; omega)).trans HZ2.out
  have ho3 := (q2.above w1.heap.size (by omega) (by simp)).trans (heap_alloc_new w1 (.cells #[.int .i64 0, .int .i64 0, .string ⟨#[]⟩, .string ⟨#[]⟩, .slice none 0 0] 87))
  have HL : Hid (LoopAt B l (d + 1) w1.heap.size w (pEx l (f + 1) i) (pSums (pEx l f) l) (l.length + 1) (((((w3.setCell ⟨w1.heap.size, 0, none⟩ (.int .i64 k)).setCell ⟨w1.heap.size, 1, none⟩ (.int .i64 n)).setCell ⟨w1.heap.size, 2, none⟩ (.string fo)).setCell ⟨w1.heap.size, 3, none⟩ (.string s)).setCell ⟨w1.heap.size, 4, none⟩ (.slice a m c))) := by
    obtain ⟨e1, j1, hE1, hr⟩ := q1.state
    obtain ⟨hE', hM'⟩ := five_far hE1 (HM2.out.trans q2) (c := w1.heap.size) (by omega) (by omega) (.int .i64 k) (.int .i64 n) (.string fo) (.string s) (.slice a m c)
    refine ⟨e1, j1, k, n, fo, s, a, m, c, hE', hM', by omega, (five_other (by omega) _ _ _ _ _).trans hz3, five_set ho3 _ _ _ _ _, ?_⟩
    rcases hr with ⟨rfl, x, hT, hx⟩ | ⟨hne, hT⟩
    · refine .inl ⟨rfl, x, hx.keep ⟨fun b hb => five_other (by have := hb.1; simp at this; omega) _ _ _ _ _, fun b hb => ⟨by have := hb.1; simp at this; omega, by rw [five_size]; exact hb.2, by have := hb.1; simp at this; omega⟩⟩, ?_, by omega⟩
      rw [pEx, hT]
    · refine .inr ⟨hne, ?_⟩
      rw [pEx, hT]
  obtain ⟨⟨o0, o1, o2, o3, o4⟩, ⟨g0, g1, g2, g3, g4⟩⟩ := five_cells ho3
  clear q1 q2 HH HM HM2 HZ2 HE2 hz3 ho3 c2
  go_wp2_with fail
  go_loopg [4] (l.length + 1) (fun g _ wx => LoopAt B l (d + 1) w1.heap.size w (pEx l (f + 1) i) (pSums (pEx l f) l) g wx)
  case atStart => exact HL.out
  case round =>
    clear HL o0 o1 o2 o3 o4 g0 g1 g2 g3 g4
    obtain ⟨e1, j, k1, n1, f1, s1, a1, m1, c1, hE1, hM1, hob, hz, ho, hres⟩ := hrel
    go_wp2_with fail
    refine (sees_eye B l j e1 _ ⟨#[43]⟩ _ hE1).mono ?_
    rintro r w2 ⟨rfl, q1, q2⟩
    have hlt1 := heap_lt' ho
    have hz2 := (q2.above w.heap.size hlt (by omega)).trans hz
    have ho2 := (q2.above w1.heap.size (by omega) hlt1).trans ho
    have hM2 := hM1.trans q2
    have hk2 : Keeps (OwnB (w.heap.size + 1) w1.heap.size wr) (OwnB (w.heap.size + 1) w1.heap.size w2) wr w2 := ⟨fun b hb => q2.above b (by have := hb.1; omega) hb.2.1, fun b hb => ⟨hb.1, Nat.lt_of_lt_of_le hb.2.1 q2.below.size, hb.2.2⟩⟩
    cases hsg : seesB l j e1 (ByteArray.mk #[43]).data.toList with
    | false =>
      rw [hsg] at q1
      have hE2 : EyeAt B l j e1 ((d + 1 : Nat) : Int) w2 := q1
      have HFin := veil (expr_end (T := pEx l (f + 1) i) (ob := w1.heap.size) (k := k1) (n := n1) (f := f1) (s := s1) (a := a1) (m := m1) (c := c1) hE2 hM2 hlt hz2 (by
        rcases hres with ⟨rfl, x, hx, hT, hg⟩ | ⟨hne, hT⟩
        · refine .inl ⟨rfl, x, hx.keep hk2, ?_⟩
          have hs : sgn l j [43] = false := by simpa [seesB] using hsg
          rw [hT]
          cases gk with
          | zero => omega
          | succ g => rw [pSums, hs]; rfl
        · exact .inr ⟨hne, hT⟩))
      obtain ⟨⟨o0, o1, o2, o3, o4⟩, _⟩ := five_cells ho2
      obtain ⟨⟨r0, r1, r2, r3, r4⟩, ⟨g0, g1, g2, g3, g4⟩⟩ := five_cells hz2
      obtain ⟨_, _, _, _, _, c3, _, _, x3, _⟩ := ey_cells hE2
      have en : ((d + 1 : Nat) : Int) = (d : Int) + 1 := by omega
      rw [en] at c3
      have b1 : w1.heap.size ≠ B := by omega
      have b2 : w.heap.size ≠ B := by omega
      have b3 : B ≠ w.heap.size := by omega
      have b4 : w1.heap.size ≠ w.heap.size := by omega
      have b5 : w.heap.size ≠ w1.heap.size := by omega
      have b6 : B ≠ w1.heap.size := by omega
      clear q1 q2 hE1 hM1 hz ho hres hk2 hsg hE2 hM2 hz2 ho2
      go_wp2_with fail
      obtain ⟨F, hF, ⟨y0, y1, y2, y3, y4⟩, hR⟩ := HFin.out
      rw [hF]
      exact bodyPost_ret (v := .agg #[.int .i64 k1, .int .i64 n1, .string f1, .string s1, .slice a1 m1 c1]) (by simp [results, Tryz.results215, go_sem, y0, y1, y2, y3, y4]) rfl hR
    | true =>
      rw [hsg] at q1
      have hb : e1 = 0 ∧ sgn l j [43] = true := by simpa [seesB] using hsg
      obtain ⟨he1, hs⟩ := hb
      subst he1
      have hE2 : EyeAt B l (j + 1) 0 ((d + 1 : Nat) : Int) w2 := q1
      have HX := veil (HTl.out (j + 1) 0 w2 hE2)
      have HZ2 := veil hz2
      have HO2 := veil ho2
      have HM2 := veil hM2
      have hs2 := q2.below.size
      clear q1 q2 hE1 hM1 hz ho hsg hE2 hM2 hz2 ho2
      go_wp2_with fail
      refine HX.out.mono ?_
      rintro r w4 ⟨q2, k2, n2, f2, s2, a2, m2, c2, rfl, q1⟩
      obtain ⟨e3, j3, hE3, hr3⟩ := q1.state
      clear q1
      have hs4 := q2.below.size
      have hz4 := (q2.above w.heap.size hlt (by omega)).trans HZ2.out
      have ho4 := (q2.above w1.heap.size (by omega) (by omega)).trans HO2.out
      obtain ⟨⟨o0, o1, o2, o3, o4⟩, ⟨g0, g1, g2, g3, g4⟩⟩ := five_cells ho4
      have b1 : w4.heap.size ≠ w1.heap.size := by omega
      have b2 : w1.heap.size ≠ w4.heap.size := by omega
      have hl4 : w1.heap.size < w4.heap.size := by omega
      have HRes := veil hres
      have HR3 := veil hr3
      have HK2 := veil hk2
      have HQ2 := veil q2
      have HE3 := veil hE3
      have HZ4 := veil hz4
      have HO4 := veil ho4
      have HS := veil hs
      clear hres hr3 hk2 q2 hz4 ho4 hs hE3
      go_wp2_with fail
      obtain ⟨x, hx, hT, hg⟩ : ∃ x, ExCs (OwnB (w.heap.size + 1) w1.heap.size wr) wr x k1 n1 f1 s1 (.slice a1 m1 c1) ∧ pEx l (f + 1) i = pSums (pEx l f) l gk x j ∧ l.length - j < gk := by
        rcases HRes.out with ⟨_, x, hx, hT, hg⟩ | ⟨hne, _⟩
        · exact ⟨x, hx, hT, hg⟩
        · exact absurd rfl hne
      have hjl := sgn_lt HS.out
      cases gk with
      | zero => omega
      | succ g =>
        go_roundg g
        case measure => omega
        case rel =>
          have hk5 : Keeps (OwnB (w.heap.size + 1) w1.heap.size w2) (OwnB (w.heap.size + 1) w1.heap.size (w4.alloc (.cells #[.int .i64 k2, .int .i64 n2, .string f2, .string s2, .slice a2 m2 c2] 87))) w2 (w4.alloc (.cells #[.int .i64 k2, .int .i64 n2, .string f2, .string s2, .slice a2 m2 c2] 87)) :=
            ⟨fun b hb => (heap_alloc_old _ _ (by have := hb.2.1; omega)).trans (HQ2.out.above b (by have := hb.1; omega) hb.2.1), fun b hb => ⟨hb.1, by simp; have := hb.2.1; omega, hb.2.2⟩⟩
          have hk6 : Keeps (Fresh w2.heap.size w4) (OwnB (w.heap.size + 1) w1.heap.size (w4.alloc (.cells #[.int .i64 k2, .int .i64 n2, .string f2, .string s2, .slice a2 m2 c2] 87))) w4 (w4.alloc (.cells #[.int .i64 k2, .int .i64 n2, .string f2, .string s2, .slice a2 m2 c2] 87)) :=
            ⟨fun b hb => heap_alloc_old _ _ hb.2, fun b hb => ⟨by have := hb.1; omega, by simp; have := hb.2; omega, by have := hb.1; omega⟩⟩
          have key := pair_made (g := g) (T := pEx l (f + 1) i) (P := pSums (pEx l f) l) (k2 := k2) (n2 := n2) (f2 := f2) (s2 := s2) (a2 := a2) (m2 := m2) (c2 := c2) 5
            (ey_alloc HE3.out (.cells #[.int .i64 k2, .int .i64 n2, .string f2, .string s2, .slice a2 m2 c2] 87)) ((HM2.out.trans HQ2.out).alloc (by omega) _) hlt hob ((heap_alloc_old _ _ (by omega)).trans HZ4.out) ((heap_alloc_old _ _ (by omega)).trans HO4.out) (by
              rw [pSums, if_pos HS.out] at hT
              rcases HR3.out with ⟨rfl, p, hp, hpx⟩ | ⟨hne, hp⟩
              · rw [after_ok] at hp
                have hadv2 := pTail_adv (fun i x j h => pEx_adv f i x j h) hp
                rw [hp] at hT
                exact .inl ⟨rfl, x, p, (hx.keep HK2.out).keep hk5, hpx.keep hk6, hT, by omega⟩
              · rw [after_ok] at hp
                rw [hp] at hT
                exact .inr ⟨hne, hT⟩)
          rw [five_past hl4, show (w4.alloc (.cells #[.int .i64 k2, .int .i64 n2, .string f2, .string s2, .slice a2 m2 c2] 87)).heap.size = w4.heap.size + 1 by simp] at key
          exact key

/-- expr reads as the plain reading says, where tail does one step deeper. -/
theorem expr_eye (B : Nat) (l : Toks) (hT : ∀ f d, d + f = 40 → ExprEye B l d (pEx l f) → TailEye B l d (pEx l f)) : ∀ f d, d + f = 40 → ExprEye B l d (pEx l f) := by
  intro f
  induction f with
  | zero =>
    intro d hd i e w h
    by_cases he : e = 0
    · subst he
      exact expr_skip B l i 0 1 d (by omega) _ w h (by rw [if_pos (by omega)]; rfl) (by decide) (by rw [after_ok, pEx])
    · exact expr_skip B l i e e d (by omega) _ w h (by rw [if_pos (by omega)]; unfold firstOf; rw [if_neg he]) he (by rw [after_bad he])
  | succ f ih =>
    intro d hd i e w h
    by_cases he : e = 0
    · subst he
      rw [after_ok]
      exact expr_step B l d f (by omega) (hT f (d + 1) (by omega) (ih (d + 1) (by omega))) i w h
    · exact expr_skip B l i e e d (by omega) _ w h (by rw [if_neg (by omega)]) he (by rw [after_bad he])

end Go.Proofs.YtagbaimfigljiaaGreatDoor
