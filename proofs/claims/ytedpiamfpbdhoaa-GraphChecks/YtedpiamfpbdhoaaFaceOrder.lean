/- What is wrong first with a list that stands by its names: plain words; and what face.inOrder answers at types, and at functions. -/
import Derived.Test.YtedpiamfpbdhoaaFaceOne
import Derived.Test.YtedpiamfpbdhoaaFaceSame
namespace Go.Proofs.Ytedpiamfpbdhoaa
open Go.RowKit

def orderFault {α : Type} (fault : α → Int) (name : α → ByteArray) : List α → ByteArray → Int
  | [], _ => 0
  | x :: r, p => if fault x = 0 then (if gtB (name x) p = true then orderFault fault name r (name x) else 7) else fault x

theorem order_bad {α : Type} {fault : α → Int} {name : α → ByteArray} {l : List α} {k : Nat} {p : ByteArray} (hk : k < l.length) (h : fault l[k] ≠ 0) : orderFault fault name (l.drop k) p = fault l[k] := by
  rw [List.drop_eq_getElem_cons hk, orderFault, if_neg h]
theorem order_low {α : Type} {fault : α → Int} {name : α → ByteArray} {l : List α} {k : Nat} {p : ByteArray} (hk : k < l.length) (h : fault l[k] = 0) (hg : gtB (name l[k]) p = false) : orderFault fault name (l.drop k) p = 7 := by
  rw [List.drop_eq_getElem_cons hk, orderFault, if_pos h, if_neg (by rw [hg]; simp)]
theorem order_on {α : Type} {fault : α → Int} {name : α → ByteArray} {l : List α} {k : Nat} {p : ByteArray} (hk : k < l.length) (h : fault l[k] = 0) (hg : gtB (name l[k]) p = true) : orderFault fault name (l.drop k) p = orderFault fault name (l.drop (k + 1)) (name l[k]) := by
  rw [List.drop_eq_getElem_cons hk, orderFault, if_pos h, if_pos hg]
theorem order_end {α : Type} {fault : α → Int} {name : α → ByteArray} {l : List α} {k : Nat} {p : ByteArray} (hk : l.length ≤ k) : orderFault fault name (l.drop k) p = 0 := by
  rw [List.drop_eq_nil_of_le hk, orderFault]

def knFault (k : Kn) : Int := bad4 (knOk k)
def sgFault (g : Sg) : Int := bad4 (sgOk g)

/-- the name ahead lies in block B; what lay below it lies as it lay. -/
def Ahead (w : World) (p : ByteArray) (W : World) : Prop := Below w.heap.size w W ∧ w.heap.size < W.heap.size ∧ W.cell? ⟨w.heap.size, 0, none⟩ = some (.string p) ∧ W.frozen? ⟨w.heap.size, 0, none⟩ = false

theorem Ahead.start (w : World) : Ahead w ⟨#[]⟩ (w.alloc (.cells #[.string ⟨#[]⟩] 9)) :=
  ⟨(Below.refl _ _).alloc (Nat.le_refl _) _, by simp, by simp [go_sem], by simp [go_sem]⟩
theorem Ahead.later {w : World} {p : ByteArray} {W W' : World} (h : Ahead w p W) (hb : Below W.heap.size W W') : Ahead w p W' :=
  ⟨h.1.trans (hb.mono h.1.size), Nat.lt_of_lt_of_le h.2.1 hb.size, (hb.cell h.2.1).trans h.2.2.1, (hb.frozen h.2.1).trans h.2.2.2⟩
theorem Ahead.put {w : World} {p : ByteArray} {W : World} (h : Ahead w p W) (s : ByteArray) : Ahead w s (W.setCell ⟨w.heap.size, 0, none⟩ (.string s)) :=
  ⟨h.1.setCell (Nat.le_refl _) _, by simpa [World.setCell] using h.2.1, World.cell?_setCell_same' _ _ _ (by rw [h.2.2.1]; rfl), by rw [← h.2.2.2]; simp [go_sem]⟩

end Go.Proofs.Ytedpiamfpbdhoaa
