import Derived.Test.YtagbaimfigljiaaGreatDoorJCk29
import Derived.Deep.RegionHeld3
import Derived.Lib.SmallJoins
namespace Go.Proofs.YtagbaimfigljiaaGreatDoor
open Go.RowKit
set_option maxRecDepth 100000

def LitS (b c i j : Nat) (x y : ByteArray) (w W : World) : Prop := Below w.heap.size w W ∧ W.cell? ⟨b, i, none⟩ = some (.string x) ∧ W.cell? ⟨c, j, none⟩ = some (.string y)
theorem LitS.later {b c i j : Nat} {x y : ByteArray} {w W W' : World} (h : LitS b c i j x y w W) (hb : Below W.heap.size W W') : LitS b c i j x y w W' := by
  obtain ⟨h0, h1, h2⟩ := h
  exact ⟨h0.trans (hb.mono h0.size), (hb.cell (World.block_lt_of_cell? _ _ h1)).trans h1, (hb.cell (World.block_lt_of_cell? _ _ h2)).trans h2⟩
theorem litS_new {A B : Array Value} {t : TypeId} {i j : Nat} {x y : ByteArray} (w : World) (h : A[i]? = some (.string x)) (g : B[j]? = some (.string y)) : LitS w.heap.size (w.heap.size + 1) i j x y w ((w.alloc (.cells A t)).alloc (.cells B t)) := by
  have hb : Below w.heap.size w ((w.alloc (.cells A t)).alloc (.cells B t)) := ((Below.refl _ _).alloc (Nat.le_refl _) _).alloc (by simp) _
  have e1 : (w.alloc (.cells A t)).cell? ⟨w.heap.size, i, none⟩ = some (.string x) := (Joins.cell_alloc_mark_at w A t _ _ _ rfl).trans h
  have e2 : ((w.alloc (.cells A t)).alloc (.cells B t)).cell? ⟨w.heap.size + 1, j, none⟩ = some (.string y) := (Joins.cell_alloc_mark_at _ B t _ _ _ (by simp)).trans g
  exact ⟨hb, (World.cell?_alloc_some _ _ _ (by rw [e1]; rfl)).trans e1, e2⟩
theorem LitS.sets {b c i j g : Nat} {x y : ByteArray} {w W : World} {u v : Value} (h : LitS b c i j x y w W) (hg : w.heap.size ≤ g) (hb : b ≠ g) (hc : c ≠ g) : LitS b c i j x y w ((W.setCell ⟨g, 0, none⟩ u).setCell ⟨g, 1, none⟩ v) := by
  obtain ⟨h0, h1, h2⟩ := h
  have e : ∀ (a : Addr), a.block ≠ g → ((W.setCell ⟨g, 0, none⟩ u).setCell ⟨g, 1, none⟩ v).cell? a = W.cell? a := fun a ha => by
    rw [World.cell?_setCell_far _ _ _ _ (by show g ≠ a.block; omega), World.cell?_setCell_far _ _ _ _ (by show g ≠ a.block; omega)]
  exact ⟨(h0.setCell hg _).setCell hg _, (e _ hb).trans h1, (e _ hc).trans h2⟩
theorem end_dg {w w2 W : World} {S : Nat → Prop} {ds : List Dg} {d : Value} (h : Below w.heap.size w W) (hd : SlAt S (DgAt w2) 2 ds d) (hk : Keeps S (fun b => b < W.heap.size) w2 W) : ∃ W', Hid (W = W') ∧ Below w.heap.size w W' ∧ SlAt (fun b => b < W'.heap.size) (DgAt W') 2 ds d := ⟨W, rfl, h, dgSl_keep hk hd⟩
theorem keeps_box {w2 : World} {n : Nat} {o : Obj} : Keeps (fun b => n ≤ b ∧ b < w2.heap.size) (fun b => b < (w2.alloc o).heap.size) w2 (w2.alloc o) :=
  ⟨fun b hb => ((Below.refl w2.heap.size w2).alloc (Nat.le_refl _) o).block b hb.2, fun b hb => Nat.lt_of_lt_of_le hb.2 (by simp)⟩
theorem keeps_sets {w2 : World} {g : Nat} {u v : Value} : Keeps (fun b => g < b ∧ b < w2.heap.size) (fun b => b < ((w2.setCell ⟨g, 0, none⟩ u).setCell ⟨g, 1, none⟩ v).heap.size) w2 ((w2.setCell ⟨g, 0, none⟩ u).setCell ⟨g, 1, none⟩ v) :=
  ⟨fun b hb => by rw [Below.heap_setCell _ _ _ _ (by show b ≠ g; have := hb.1; omega), Below.heap_setCell _ _ _ _ (by show b ≠ g; have := hb.1; omega)], fun b hb => by have := hb.2; simpa using this⟩

end Go.Proofs.YtagbaimfigljiaaGreatDoor
