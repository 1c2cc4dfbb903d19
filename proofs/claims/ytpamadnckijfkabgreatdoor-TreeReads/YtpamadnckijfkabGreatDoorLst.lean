/- A list that grows while its elements are read: how it lies in memory, and that it lies so behind what is read and behind each append. -/
import Derived.Test.YtpamadnckijfkabGreatDoorPush
import Derived.Test.YtpamadnckijfkabGreatDoorReadAt
namespace Go.Proofs.YtpamadnckijfkabGreatDoor
open Go.RowKit
set_option maxRecDepth 100000

theorem heap_lt {W : World} {b : Nat} {o : Obj} (h : W.heap[b]? = some o) : b < W.heap.size := by
  rcases Nat.lt_or_ge b W.heap.size with h' | h'
  · exact h'
  · rw [Array.getElem?_eq_none h'] at h; cases h

/-- the blocks where the parts of a list's elements lie. -/
def Parts (base : Nat) (v : Value) (W : World) (b : Nat) : Prop := base ≤ b ∧ b < W.heap.size ∧ v.ownBlock ≠ some b

/-- since Wb nothing has turned below base but blocks B and bl. -/
structure Kept (B bl base : Nat) (Wb W : World) : Prop where
  below : Below B Wb W
  same : ∀ c, B < c → c < base → c ≠ bl → W.heap[c]? = Wb.heap[c]?
  room : base ≤ W.heap.size

theorem Kept.cell {B bl base : Nat} {Wb W : World} (h : Kept B bl base Wb W) {c : Nat} (h1 : B < c) (h2 : c < base) (h3 : c ≠ bl) (o : Nat) : W.cell? ⟨c, o, none⟩ = Wb.cell? ⟨c, o, none⟩ := World.cell?_of_block (h.same c h1 h2 h3)

theorem Kept.moved {B bl base : Nat} {Wb W W' : World} (h : Kept B bl base Wb W) (hm : Moved B W W') : Kept B bl base Wb W' :=
  ⟨h.below.trans hm.below, fun c h1 h2 h3 => (hm.above c h1 (Nat.lt_of_lt_of_le h2 h.room)).trans (h.same c h1 h2 h3), Nat.le_trans h.room hm.below.size⟩

theorem Grew.below {base bl : Nat} {T Tl : TypeId} {v v' : Value} {n n' : Nat} {ys ys' : List Value} {W W' : World} {B : Nat} (h : Grew base bl T Tl v v' n' ys' W W') (hown : W.ownsRow base T 5 v n ys) (hB : B ≤ bl) (hbl : bl < base) (hW : B ≤ W.heap.size) : Below B W W' :=
  ⟨h.os, h.tape, h.output, h.size, fun c hc => h.rest c (by omega) (by omega) (fun e => by have := ownsRow_in hown _ e.symm; omega)⟩

theorem Kept.grew {B bl base : Nat} {T Tl : TypeId} {v v' : Value} {n n' : Nat} {ys ys' : List Value} {Wb W W' : World} (h : Kept B bl base Wb W) (hg : Grew base bl T Tl v v' n' ys' W W') (hown : W.ownsRow base T 5 v n ys) (hB : B < bl) (hbl : bl < base) : Kept B bl base Wb W' :=
  ⟨h.below.trans (hg.below hown (by omega) hbl (by have := h.room; omega)), fun c h1 h2 h3 => (hg.rest c (by have := h.room; omega) h3 (fun e => by have := ownsRow_in hown _ e.symm; omega)).trans (h.same c h1 h2 h3), Nat.le_trans h.room hg.size⟩

/-- nothing older than the boxes has turned but block B. -/
theorem Kept.toMoved {B bl base : Nat} {w0 Wb W : World} (h : Kept B bl base Wb W) (hm : Moved B w0 Wb) (h1 : w0.heap.size ≤ bl) (h2 : bl < base) : Moved B w0 W :=
  ⟨hm.below.trans h.below, fun c hc hlt => (h.same c hc (by omega) (by omega)).trans (hm.above c hc hlt)⟩

theorem rd_grew {base bl : Nat} {T Tl : TypeId} {v v' : Value} {n n' : Nat} {ys ys' : List Value} {W W' : World} {B : Nat} {l : Toks} {i : Nat} (hr : RdAt B l i W) (h : Grew base bl T Tl v v' n' ys' W W') (hown : W.ownsRow base T 5 v n ys) (hB : B < bl) (hbl : bl < base) : RdAt B l i W' := by
  have hlt := rd_lt hr
  have hb := h.below (B := B + 1) hown (by omega) hbl (by omega)
  obtain ⟨tv, h1, h2, h3⟩ := hr
  exact ⟨tv, (hb.block B (by omega)).trans h1, h2.keep (hb.mono (by omega)), h3⟩

theorem own_moved {B base : Nat} {T : TypeId} {c n : Nat} {v : Value} {ys : List Value} {W W' : World} (h : W.ownsRow base T c v n ys) (hm : Moved B W W') (hB : B < base) : W'.ownsRow base T c v n ys := by
  refine ⟨h.1, h.2.imp_right ?_⟩
  rintro ⟨g, cap, cur, rfl, hb, hg, hr⟩
  exact ⟨g, cap, cur, rfl, hb, (hm.above g (by omega) (heap_lt hg)).trans hg, hr⟩

theorem ownsRow_form' {w : World} {base size n : Nat} {e : TypeId} {v : Value} {xs : List Value} (h : w.ownsRow base e size v n xs) (hn : 0 < n) : ∃ g cap, v = .slice (some ⟨g, 0, none⟩) n cap := by
  rcases h.2 with ⟨_, h2⟩ | ⟨g, cap, _, h1, _⟩
  · omega
  · exact ⟨g, cap, h1⟩

section
variable {α : Type} (C : (Nat → Prop) → World → α → List Value → Prop) (T Tl : TypeId)

/-- the list in box bl holds xs; its row is older than block n1. -/
structure ListOf (base bl n1 : Nat) (xs : List α) (la : Option Addr) (cap : Nat) (ys : List Value) (W : World) : Prop where
  box : W.heap[bl]? = some (.cells #[.slice la xs.length cap] Tl (0, 0))
  own : W.ownsRow base T 5 (.slice la xs.length cap) xs.length ys
  old : ∀ g, (Value.slice la xs.length cap).ownBlock = some g → g < n1
  items : ∀ j (hj : j < xs.length), ∃ cs, cs.length = 5 ∧ (∀ t, t < 5 → ys[j * 5 + t]? = cs[t]?) ∧ C (Parts base (.slice la xs.length cap) W) W xs[j] cs

variable {C T Tl}

theorem ListOf.moved (hC : ∀ {S S' : Nat → Prop} {W W' : World} {x : α} {cs : List Value}, Keeps S S' W W' → C S W x cs → C S' W' x cs) {B base bl n1 : Nat} {xs : List α} {la : Option Addr} {cap : Nat} {ys : List Value} {W W' : World}
    (h : ListOf C T Tl base bl n1 xs la cap ys W) (hm : Moved B W W') (hB : B < bl) (hbl : bl < base) : ListOf C T Tl base bl n1 xs la cap ys W' := by
  refine ⟨(hm.above bl hB (heap_lt h.box)).trans h.box, own_moved h.own hm (by omega), h.old, fun j hj => ?_⟩
  obtain ⟨cs, h1, h2, h3⟩ := h.items j hj
  refine ⟨cs, h1, h2, hC ⟨fun b hb => hm.above b (by have := hb.1; omega) hb.2.1, fun b hb => ⟨hb.1, Nat.lt_of_lt_of_le hb.2.1 hm.below.size, hb.2.2⟩⟩ h3⟩

theorem ListOf.push (hC : ∀ {S S' : Nat → Prop} {W W' : World} {x : α} {cs : List Value}, Keeps S S' W W' → C S W x cs → C S' W' x cs) {base bl n1 : Nat} {xs : List α} {x : α} {la : Option Addr} {cap g cap' : Nat} {ys cs : List Value} {W W' : World}
    (h : ListOf C T Tl base bl n1 xs la cap ys W) (hbl : bl < base) (hn1 : base ≤ n1) (hcs : cs.length = 5) (hx : C (Fresh n1 W) W x cs)
    (hg : Grew base bl T Tl (.slice la xs.length cap) (.slice (some ⟨g, 0, none⟩) (xs.length + 1) cap') (xs.length + 1) (ys ++ cs) W W') : ListOf C T Tl base bl W'.heap.size (xs ++ [x]) (some ⟨g, 0, none⟩) cap' (ys ++ cs) W' := by
  have e : (xs ++ [x]).length = xs.length + 1 := by simp
  have hyl : ys.length = xs.length * 5 := h.own.1
  have hk : Keeps (Parts base (.slice la xs.length cap) W) (Parts base (.slice (some ⟨g, 0, none⟩) (xs.length + 1) cap') W') W W' :=
    ⟨fun b hb => hg.rest b hb.2.1 (by have := hb.1; omega) (fun e => hb.2.2 e.symm), fun b hb => ⟨hb.1, Nat.lt_of_lt_of_le hb.2.1 hg.size, fun e => by
      rcases hg.row b e with h1 | h1
      · exact hb.2.2 h1
      · have := hb.2.1; omega⟩⟩
  refine ⟨by rw [e]; exact hg.box, by rw [e]; exact hg.own, ?_, ?_⟩
  · intro g' hg'
    rw [e] at hg'
    exact (ownsRow_in hg.own g' hg').2
  · intro j hj
    rw [e]
    by_cases hjx : j < xs.length
    · obtain ⟨c, h1, h2, h3⟩ := h.items j hjx
      refine ⟨c, h1, fun t ht => ?_, ?_⟩
      · rw [List.getElem?_append_left (by omega)]
        exact h2 t ht
      · rw [List.getElem_append_left hjx]
        exact hC hk h3
    · have hje : j = xs.length := by omega
      subst hje
      refine ⟨cs, hcs, fun t _ => ?_, ?_⟩
      · rw [List.getElem?_append_right (by omega), hyl]
        congr 1
        omega
      · rw [List.getElem_append_right (Nat.le_refl _)]
        simp only [Nat.sub_self, List.getElem_cons_zero]
        exact hC hk (hC ⟨fun _ _ => rfl, fun b hb => ⟨by have := hb.1; omega, hb.2, fun e => by have := h.old b e; have := hb.1; omega⟩⟩ hx)

theorem ListOf.toSl {P : (Nat → Prop) → World → α → Nat → Nat → Prop} (hC : ∀ {S S' : Nat → Prop} {W W' : World} {x : α} {cs : List Value}, Keeps S S' W W' → C S W x cs → C S' W' x cs)
    (hP : ∀ {S : Nat → Prop} {W : World} {x : α} {cs : List Value} {b o : Nat}, cs.length = 5 → C S W x cs → (∀ t u, cs[t]? = some u → W.cell? ⟨b, o + t, none⟩ = some u) → P S W x b o) {base bl n1 n0 : Nat} {xs : List α} {la : Option Addr} {cap : Nat} {ys : List Value} {W : World}
    (h : ListOf C T Tl base bl n1 xs la cap ys W) (hn0 : n0 ≤ base) (hmax : xs.length ≤ maxLen) : SlAt (Fresh n0 W) (P (Fresh n0 W) W) 5 xs (.slice la xs.length cap) := by
  refine ⟨la, cap, rfl, ⟨hmax, ?_⟩, ?_⟩
  · rcases h.own.2 with ⟨h1, h2⟩ | ⟨g, cap', cur, h1, _, _, h3, _⟩
    · omega
    · cases h1; exact h3
  · rcases Nat.eq_zero_or_pos xs.length with h0 | h0
    · exact Or.inl h0
    · right
      obtain ⟨g, cap', hv⟩ := ownsRow_form' h.own h0
      cases hv
      have hin := ownsRow_in h.own g rfl
      refine ⟨g, 0, rfl, ⟨by omega, hin.2⟩, RowAt.mk fun j hj => ?_⟩
      obtain ⟨cs, h1, h2, h3⟩ := h.items j hj
      refine hP h1 (hC ⟨fun _ _ => rfl, fun b hb => ⟨by have := hb.1; omega, hb.2.1⟩⟩ h3) (fun t u hu => ?_)
      have ht : t < 5 := by rw [← h1]; exact (List.getElem?_eq_some_iff.1 hu).1
      rw [Nat.zero_add]
      exact own_cell h.own _ _ ((h2 t ht).trans hu)

end

end Go.Proofs.YtpamadnckijfkabGreatDoor
