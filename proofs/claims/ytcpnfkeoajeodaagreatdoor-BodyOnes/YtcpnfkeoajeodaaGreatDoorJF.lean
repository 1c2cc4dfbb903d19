/- What the reader's lists answer: args, and what it hands on. -/
import Derived.Test.YtcpnfkeoajeodaaGreatDoorJA
import Derived.Deep.RegionHeld3
import Derived.Deep.AppendLies
import Derived.Deep.MidRow
import Derived.Deep.Upon
namespace Go.Proofs.YtcpnfkeoajeodaaGreatDoor
open Go.RowKit
set_option maxRecDepth 100000

theorem ex_info : (Tryz.prog.info? 52).map (fun i => (i.zero, i.size, i.bytes)) = some (some (.agg #[.int .i64 0, .int .i64 0, .string ⟨#[]⟩, .string ⟨#[]⟩, .slice none 0 0]), 5, 72) := by kernel_rfl

theorem ownsRow_in {w : World} {base : Nat} {e : TypeId} {size : Nat} {v : Value} {n : Nat} {xs : List Value} (h : w.ownsRow base e size v n xs) : ∀ j, v.ownBlock = some j → base ≤ j ∧ j < w.heap.size := by
  intro j hj
  rcases h.2 with ⟨rfl, _⟩ | ⟨g, cap, cur, rfl, hb, hg, _⟩
  · cases hj
  · have : g = j := by simpa [Value.ownBlock] using hj
    subst this
    refine ⟨hb, ?_⟩
    rcases Nat.lt_or_ge g w.heap.size with h1 | h1
    · exact h1
    · rw [Array.getElem?_eq_none h1] at hg; cases hg

theorem own_frozen {w : World} {base : Nat} {e : TypeId} {size g n cap : Nat} {xs : List Value} (h : w.ownsRow base e size (.slice (some ⟨g, 0, none⟩) n cap) n xs) : ∀ o, w.frozen? ⟨g, o, none⟩ = false := by
  intro o
  rcases h.2 with ⟨h1, _⟩ | ⟨g', cap', cur, h1, hb, hg, _⟩
  · cases h1
  · cases h1
    exact Lib.frozen_of_heap hg o

theorem own_frozen5 {w : World} {base : Nat} {e : TypeId} {size g n cap : Nat} {xs : List Value} (h : w.ownsRow base e size (.slice (some ⟨g, 0, none⟩) n cap) n xs) (o : Nat) :
    w.frozen? ⟨g, o, none⟩ = false ∧ w.frozen? ⟨g, o + 1, none⟩ = false ∧ w.frozen? ⟨g, o + 2, none⟩ = false ∧ w.frozen? ⟨g, o + 3, none⟩ = false ∧ w.frozen? ⟨g, o + 4, none⟩ = false :=
  ⟨own_frozen h _, own_frozen h _, own_frozen h _, own_frozen h _, own_frozen h _⟩

theorem own_cell {w : World} {base : Nat} {e : TypeId} {size g n cap : Nat} {xs : List Value} (h : w.ownsRow base e size (.slice (some ⟨g, 0, none⟩) n cap) n xs) (j : Nat) (u : Value) (hu : xs[j]? = some u) : w.cell? ⟨g, j, none⟩ = some u := by
  rcases h with ⟨hl, ⟨h1, _⟩ | ⟨g', cap', cur, h1, hb, hg, _, _, hc, ht⟩⟩
  · cases h1
  · cases h1
    rw [cell_of_row w g j cur e _ hg]
    rw [← ht, List.getElem?_take] at hu
    split at hu
    · simpa using hu
    · cases hu

theorem own_last {w : World} {base : Nat} {e : TypeId} {g m cap : Nat} {xs : List Value} {a b c d f : Value} (h : w.ownsRow base e 5 (.slice (some ⟨g, 0, none⟩) (m + 1) cap) (m + 1) (xs ++ [a, b, c, d, f])) :
    w.cell? ⟨g, m * 5, none⟩ = some a ∧ w.cell? ⟨g, m * 5 + 1, none⟩ = some b ∧ w.cell? ⟨g, m * 5 + 2, none⟩ = some c ∧ w.cell? ⟨g, m * 5 + 3, none⟩ = some d ∧ w.cell? ⟨g, m * 5 + 4, none⟩ = some f := by
  have hl : xs.length = m * 5 := by have := h.1; simp at this; omega
  refine ⟨own_cell h _ _ ?_, own_cell h _ _ ?_, own_cell h _ _ ?_, own_cell h _ _ ?_, own_cell h _ _ ?_⟩ <;> (rw [List.getElem?_append_right (by omega), hl]; simp)

end Go.Proofs.YtcpnfkeoajeodaaGreatDoor

/- A list that grows: what lies in memory behind an append and a store of the new element, in plain words. -/
namespace Go.Proofs.YtcpnfkeoajeodaaGreatDoor
open Go.RowKit
set_option maxRecDepth 100000

/-- a row's cells, with vs from o on. -/
def putMany (cur : Array Value) (o : Nat) : List Value → Array Value
  | [] => cur
  | v :: r => putMany (cur.setIfInBounds o v) (o + 1) r

theorem putMany_size : ∀ (vs : List Value) (cur : Array Value) (o : Nat), (putMany cur o vs).size = cur.size
  | [], _, _ => rfl
  | v :: r, cur, o => by rw [putMany, putMany_size r]; simp

theorem putMany_list : ∀ (vs : List Value) (cur : Array Value) (o : Nat), o + vs.length ≤ cur.size → (putMany cur o vs).toList.take (o + vs.length) = cur.toList.take o ++ vs
  | [], cur, o, _ => by simp [putMany]
  | v :: r, cur, o, h => by
    simp only [List.length_cons] at h
    have ih := putMany_list r (cur.setIfInBounds o v) (o + 1) (by simp; omega)
    rw [putMany, List.length_cons, show o + (r.length + 1) = o + 1 + r.length by omega, ih]
    have ho : o < cur.toList.length := by simp; omega
    have : (cur.setIfInBounds o v).toList.take (o + 1) = cur.toList.take o ++ [v] := by
      rw [Array.toList_setIfInBounds, List.take_set, List.take_add_one, List.getElem?_eq_getElem ho]
      have hl : (cur.toList.take o).length = o := by rw [List.length_take]; omega
      rw [List.set_append_right _ _ (by rw [hl]; exact Nat.le_refl _), hl, Nat.sub_self]
      simp
    rw [this]
    simp

theorem block_set {w : World} {g : Nat} {cur : Array Value} {e : TypeId} (h : w.heap[g]? = some (.cells cur e (0, 0))) (o : Nat) (u : Value) :
    (w.setCell ⟨g, o, none⟩ u).heap[g]? = some (.cells (cur.setIfInBounds o u) e (0, 0)) := by
  simp [World.setCell, Array.getElem?_modify, h]

theorem block_sets {g : Nat} {e : TypeId} : ∀ (vs : List Value) {w : World} {cur : Array Value} (_ : w.heap[g]? = some (.cells cur e (0, 0))) (o : Nat), (w.setCells g o vs).heap[g]? = some (.cells (putMany cur o vs) e (0, 0))
  | [], _, _, h, _ => h
  | v :: r, w, cur, h, o => by
    rw [World.setCells, putMany]
    exact block_sets r (block_set h o v) (o + 1)

theorem own_put {w : World} {base : Nat} {e : TypeId} {g m cap : Nat} {xs old new : List Value} (h : w.ownsRow base e 5 (.slice (some ⟨g, 0, none⟩) (m + 1) cap) (m + 1) (xs ++ old)) (ho : old.length = 5) (hn : new.length = 5) :
    (w.setCells g (m * 5) new).ownsRow base e 5 (.slice (some ⟨g, 0, none⟩) (m + 1) cap) (m + 1) (xs ++ new) := by
  obtain ⟨hl, ⟨h1, _⟩ | ⟨g', cap', cur, h1, hb, hg, hc, hm, hs, ht⟩⟩ := h
  · cases h1
  · cases h1
    have hx : xs.length = m * 5 := by simp only [List.length_append, ho] at hl; omega
    refine ⟨by simp only [List.length_append, hn, hx]; omega, Or.inr ⟨g, cap, putMany cur (m * 5) new, rfl, hb, block_sets new hg _, hc, hm, by rw [putMany_size, hs], ?_⟩⟩
    have e1 : (m + 1) * 5 = m * 5 + new.length := by rw [hn]; omega
    have hle : m * 5 + new.length ≤ cur.size := by
      rw [hs, hn]
      have := Nat.mul_le_mul_right 5 hc
      omega
    rw [e1, putMany_list new cur _ hle]
    congr 1
    have := congrArg (List.take (m * 5)) ht
    rw [List.take_take, Nat.min_eq_left (by omega), List.take_append_of_le_length (by omega)] at this
    rw [this, List.take_of_length_le (by omega)]

theorem own_there {w : World} {base : Nat} {e : TypeId} {g m cap : Nat} {xs : List Value} (h : w.ownsRow base e 5 (.slice (some ⟨g, 0, none⟩) (m + 1) cap) (m + 1) xs) : w.there g (m * 5) 5 := by
  intro j hj
  have hl := h.1
  refine ⟨?_, own_frozen h _⟩
  rw [own_cell h (m * 5 + j) _ (List.getElem?_eq_getElem (by omega))]
  rfl

/-- from W to W' the list in box bl, its value v, has become v', a row of n elements of 5 cells, ys; nothing else has turned. -/
structure Grew (base bl : Nat) (T Tl : TypeId) (v v' : Value) (n : Nat) (ys : List Value) (W W' : World) : Prop where
  os : W'.os = W.os
  tape : W'.tape = W.tape
  output : W'.output = W.output
  size : W.heap.size ≤ W'.heap.size
  box : W'.heap[bl]? = some (.cells #[v'] Tl (0, 0))
  own : W'.ownsRow base T 5 v' n ys
  rest : ∀ k, k < W.heap.size → k ≠ bl → some k ≠ v.ownBlock → W'.heap[k]? = W.heap[k]?
  row : ∀ k, v'.ownBlock = some k → v.ownBlock = some k ∨ W.heap.size ≤ k

theorem heap_size_setCell (w : World) (a : Addr) (u : Value) : (w.setCell a u).heap.size = w.heap.size := by simp [World.setCell]
theorem heap_size_setCells (g : Nat) : ∀ (vs : List Value) (o : Nat) (w : World), (w.setCells g o vs).heap.size = w.heap.size
  | [], _, _ => rfl
  | v :: r, o, w => by rw [World.setCells, heap_size_setCells g r]; exact heap_size_setCell _ _ _

theorem tape_setCells (g : Nat) : ∀ (vs : List Value) (o : Nat) (w : World), (w.setCells g o vs).tape = w.tape
  | [], _, _ => rfl
  | v :: r, o, w => by rw [World.setCells, tape_setCells g r]; rfl

/-- behind the store of the list's value. -/
theorem grew_store {base bl : Nat} {T Tl : TypeId} {v : Value} {n g cap : Nat} {ys : List Value} {W W0 w1 : World} (hbl : bl < base) (hb : base ≤ W.heap.size)
    (h0 : W.heap.size ≤ W0.heap.size) (hos : W0.os = W.os) (htape : W0.tape = W.tape) (hout : W0.output = W.output) (hk : ∀ k, k < W.heap.size → W0.heap[k]? = W.heap[k]?)
    (hg : W0.grownBy w1 v.ownBlock) (hbox : W.heap[bl]? = some (.cells #[v] Tl (0, 0))) (hbv : some bl ≠ v.ownBlock) (hown : w1.ownsRow base T 5 (.slice (some ⟨g, 0, none⟩) n cap) n ys) (hat : v.ownBlock = some g ∨ W.heap.size ≤ g) :
    Grew base bl T Tl v (.slice (some ⟨g, 0, none⟩) n cap) n ys W (w1.setCell ⟨bl, 0, none⟩ (.slice (some ⟨g, 0, none⟩) n cap)) := by
  have hblW : bl < W.heap.size := by omega
  have hb1 : w1.heap[bl]? = some (.cells #[v] Tl (0, 0)) := (hg.block bl (by omega) hbv).trans ((hk bl hblW).trans hbox)
  refine ⟨hg.os.trans hos, hg.tape.trans htape, hg.output.trans hout, ?_, ?_, ?_, ?_, ?_⟩
  · rw [heap_size_setCell]; exact Nat.le_trans h0 hg.size
  · rw [block_set hb1]; rfl
  · exact ownsRow_setCell_below hown (a := ⟨bl, 0, none⟩) hbl _
  · intro k hk' hne hrow
    rw [Below.heap_setCell _ _ _ _ (by show k ≠ bl; exact hne), hg.block k (by omega) hrow, hk k hk']
  · intro k hk'
    have : g = k := by simpa [Value.ownBlock] using hk'
    subst this
    exact hat

theorem Grew.put {base bl : Nat} {T Tl : TypeId} {v : Value} {m g cap : Nat} {xs old new : List Value} {W W' : World} (h : Grew base bl T Tl v (.slice (some ⟨g, 0, none⟩) (m + 1) cap) (m + 1) (xs ++ old) W W') (hbl : bl < base) (ho : old.length = 5) (hn : new.length = 5) :
    Grew base bl T Tl v (.slice (some ⟨g, 0, none⟩) (m + 1) cap) (m + 1) (xs ++ new) W (W'.setCells g (m * 5) new) := by
  have hg := ownsRow_in h.own g rfl
  have hrow := h.row g rfl
  refine ⟨(World.os_setCells _ _ _ _).trans h.os, (tape_setCells _ _ _ _).trans h.tape, (World.output_setCells _ _ _ _).trans h.output, by rw [heap_size_setCells]; exact h.size, ?_, own_put h.own ho hn, ?_, h.row⟩
  · rw [World.heap_setCells_other _ _ _ _ (by have := World.block_lt_of_cell? W' ⟨bl, 0, none⟩ (cell_of_row W' bl 0 _ _ _ h.box); exact this) (by omega)]
    exact h.box
  · intro k hk hne hr
    rw [World.heap_setCells_other _ _ _ _ (by have := h.size; omega) (by rintro rfl; rcases hrow with h1 | h1; exact hr h1.symm; omega)]
    exact h.rest k hk hne hr

theorem grownBy_put {W0 w1 : World} {row : Option Nat} {g : Nat} (h : W0.grownBy w1 row) (hat : row = some g ∨ W0.heap.size ≤ g) (hg : g < w1.heap.size) (o : Nat) (new : List Value) : W0.grownBy (w1.setCells g o new) row :=
  ⟨(World.os_setCells _ _ _ _).trans h.os, (tape_setCells _ _ _ _).trans h.tape, (World.output_setCells _ _ _ _).trans h.output, by rw [heap_size_setCells]; exact h.size, fun k hk hr => by
    rw [World.heap_setCells_other _ _ _ _ (by have := h.size; omega) (by rintro rfl; rcases hat with h1 | h1; exact hr h1.symm; omega)]
    exact h.block k hk hr⟩

/-- a way that goes on. -/
def Normal (R : Act → World → Prop) : Exit → Act → World → Prop
  | .normal, a, w => R a w
  | _, _, _ => False

section
variable {P : Program} {md : Region.Mode} {ops : Array Oper} {Q : Exit → Act → World → Prop} {S : World → Prop}

/-- one alone may come up. -/
theorem any_one {fuel : Nat} {listed : Array Bool} {a : Act} {w : World} (i : Nat) {o : Oper} (hr : Region.ready md ops listed = [i]) (hi : ops.toList[i]? = some o) (hg : o.guard = none)
    (h : ∀ K : Act → World → Prop, (∀ a' w', S w' → wpAnyH P md ops Q S fuel (listed.setIfInBounds i true) a' w' → K a' w') → Oper.wp P o a w K Q) : wpAnyH P md ops Q S (fuel + 1) listed a w :=
  wpAnyH_ready hr (by simp) (AllReadyH.cons (by simpa using hi) (fun K hK => by
    rw [if_pos (by simp [Region.wanted, hg])]
    exact h K (fun a' w' hS hW => hK.out a' w' hS (fun _ => hW))) AllReadyH.nil)

/-- either may come up. -/
theorem any_two {fuel : Nat} {listed : Array Bool} {a : Act} {w : World} (i j : Nat) {o p : Oper} (hr : Region.ready md ops listed = [i, j]) (hi : ops.toList[i]? = some o) (hj : ops.toList[j]? = some p) (hg : o.guard = none) (hp : p.guard = none)
    (h : ∀ K : Act → World → Prop, (∀ a' w', S w' → wpAnyH P md ops Q S fuel (listed.setIfInBounds i true) a' w' → K a' w') → Oper.wp P o a w K Q)
    (h' : ∀ K : Act → World → Prop, (∀ a' w', S w' → wpAnyH P md ops Q S fuel (listed.setIfInBounds j true) a' w' → K a' w') → Oper.wp P p a w K Q) : wpAnyH P md ops Q S (fuel + 1) listed a w :=
  wpAnyH_ready hr (by simp) (AllReadyH.cons (by simpa using hi) (fun K hK => by
    rw [if_pos (by simp [Region.wanted, hg])]
    exact h K (fun a' w' hS hW => hK.out a' w' hS (fun _ => hW))) (AllReadyH.cons (by simpa using hj) (fun K hK => by
    rw [if_pos (by simp [Region.wanted, hp])]
    exact h' K (fun a' w' hS hW => hK.out a' w' hS (fun _ => hW))) AllReadyH.nil))

/-- one is taken first. -/
theorem any_take {fuel : Nat} {listed : Array Bool} {a : Act} {w : World} (i : Nat) {o : Oper} {dst : Option Tmp} {v : Value} (hi : ops.toList[i]? = some o) (hd : o.dst = dst) (hs : Region.noSelect ops = true) (hf : Region.free md ops listed i = true) (hr : (Region.ready md ops listed).contains i = true)
    (hQ : ∀ c a w, Q (.panic c) (a.put dst v) w → Q (.panic c) a w) (hy : YieldsIf P ops S o v a) (hS : S w)
    (h : wpAnyH P md ops Q S fuel (listed.setIfInBounds i true) (a.put dst v) w) : wpAnyH P md ops Q S (fuel + 1) listed a w := by
  subst hd
  exact wpAnyH_take (by simpa using hi) hs hf hr hQ hy hS h

end

end Go.Proofs.YtcpnfkeoajeodaaGreatDoor
