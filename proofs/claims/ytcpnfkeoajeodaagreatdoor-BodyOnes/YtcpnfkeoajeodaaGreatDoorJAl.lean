/- What alias.checkUse and alias.diag answer; what alias.Uses and the reference's UsesOf answer: what is wrong with each use, in their order. -/
import Derived.Test.YtcpnfkeoajeodaaGreatDoorJAa
import Derived.Test.YtcpnfkeoajeodaaGreatDoorJKindX
import Derived.Test.YtcpnfkeoajeodaaGreatDoorJFd
import Derived.Test.YtcpnfkeoajeodaaGreatDoorJReadTree
import Derived.OwnWalk
import Derived.Deep.RegionHeld3
import Derived.Deep.RegionWith
namespace Go.Proofs.YtcpnfkeoajeodaaGreatDoor
open Go.RowKit
set_option maxRecDepth 100000

structure Dg where
  wh : ByteArray
  code : Int
def DgAt (w : World) (d : Dg) (b o : Nat) : Prop := StrAt w d.wh b o ∧ w.cell? ⟨b, o + 1, none⟩ = some (.int .i64 d.code)
theorem dgSl_keep {S S' : Nat → Prop} {w w' : World} (hk : Keeps S S' w w') {l : List Dg} {v : Value} (h : SlAt S (DgAt w) 2 l v) : SlAt S' (DgAt w') 2 l v := h.imp hk.sub fun _ _ _ _ hb' h => ⟨StrAt.keep hk hb' h.1, by rw [hk.cell hb']; exact h.2⟩

/-- the first so many of a list. -/
theorem sl_take {α : Type} {S : Nat → Prop} {P : α → Nat → Nat → Prop} {c : Nat} {l : List α} {a : Option Addr} {n cap : Nat} (h : SlAt S P c l (.slice a n cap)) {k : Nat} (hk : k ≤ l.length) : SlAt S P c (l.take k) (.slice a k cap) := by
  obtain ⟨a', cap', e, ⟨h1, h2⟩, h3⟩ := h
  injection e with e1 e2 e3
  subst e1 e2 e3
  have hlen : (l.take k).length = k := by rw [List.length_take]; omega
  refine ⟨a, cap, by rw [hlen], ⟨by rw [hlen]; omega, by rw [hlen]; omega⟩, ?_⟩
  rw [hlen]
  by_cases h0 : k = 0
  · exact Or.inl h0
  · rcases h3 with h3 | ⟨b, o, rfl, hb, hr⟩
    · omega
    · refine Or.inr ⟨b, o, rfl, hb, RowAt.mk fun i hi => ?_⟩
      have hi' : i < l.length := by rw [hlen] at hi; omega
      have := hr.get i hi'
      rw [List.getElem_take]
      exact this

def useName (u : List ByteArray) (k : Nat) : ByteArray := u.getD k ⟨#[]⟩
def useCode (u : List ByteArray) (l : List Im) (k : Nat) : Int := if hasS (u.take k) (useName u k) = true then 4 else if fromOk u l (useName u k) = true then 0 else 3
def useStep (u : List ByteArray) (l : List Im) (k : Nat) : List Dg := if useCode u l k = 0 then [] else [⟨useName u k, useCode u l k⟩]
def usesUpto (u : List ByteArray) (l : List Im) : Nat → List Dg
  | 0 => []
  | k + 1 => usesUpto u l k ++ useStep u l k

theorem useName_at {u : List ByteArray} {k : Nat} (h : k < u.length) : useName u k = u[k] := by
  unfold useName
  rw [List.getD_eq_getElem?_getD, List.getElem?_eq_getElem h]; rfl
theorem usesUpto_le (u : List ByteArray) (l : List Im) : ∀ k, (usesUpto u l k).length ≤ k
  | 0 => Nat.le_refl _
  | k + 1 => by
    have := usesUpto_le u l k
    rw [usesUpto, List.length_append]
    unfold useStep
    by_cases h : useCode u l k = 0
    · rw [if_pos h]; simp; omega
    · rw [if_neg h]; simp; omega
theorem usesUpto_zero {u : List ByteArray} {l : List Im} {k : Nat} (h : useCode u l k = 0) : usesUpto u l (k + 1) = usesUpto u l k := by
  rw [usesUpto, useStep, if_pos h, List.append_nil]
theorem usesUpto_one {u : List ByteArray} {l : List Im} {k : Nat} (h : useCode u l k ≠ 0) : usesUpto u l (k + 1) = usesUpto u l k ++ [⟨useName u k, useCode u l k⟩] := by
  rw [usesUpto, useStep, if_neg h]

def dgCells (l : List Dg) : List Value := l.flatMap fun t => [.string t.wh, .int .i64 t.code]
theorem dgCells_snoc (l : List Dg) (t : Dg) : dgCells (l ++ [t]) = dgCells l ++ [.string t.wh, .int .i64 t.code] := by
  simp [dgCells]
theorem dgCells_at : ∀ (l : List Dg) (i : Nat) (h : i < l.length), (dgCells l)[i * 2]? = some (.string l[i].wh) ∧ (dgCells l)[i * 2 + 1]? = some (.int .i64 l[i].code)
  | [], i, h => absurd h (by simp)
  | t :: r, 0, _ => by simp [dgCells]
  | t :: r, i + 1, h => by
    have ih := dgCells_at r i (by simpa using h)
    have e : dgCells (t :: r) = .string t.wh :: .int .i64 t.code :: dgCells r := by simp [dgCells]
    rw [e, show (i + 1) * 2 = i * 2 + 1 + 1 by omega, show i * 2 + 1 + 1 + 1 = (i * 2 + 1) + 1 + 1 by omega]
    simp only [List.getElem?_cons_succ, List.getElem_cons_succ]
    exact ih

theorem ownsRow_later {w w' : World} {B : Nat} {e : TypeId} {size : Nat} {v : Value} {n : Nat} {xs : List Value} (h : w.ownsRow B e size v n xs) (hb : Below w.heap.size w w') : w'.ownsRow B e size v n xs := by
  obtain ⟨hx, h | ⟨g, cap, cur, hv, hg, hh, h1, h2, h3, h4⟩⟩ := h
  · exact ⟨hx, Or.inl h⟩
  · refine ⟨hx, Or.inr ⟨g, cap, cur, hv, hg, ?_, h1, h2, h3, h4⟩⟩
    rw [hb.block g ?_]
    · exact hh
    · rcases Nat.lt_or_ge g w.heap.size with h | h
      · exact h
      · rw [Array.getElem?_eq_none h] at hh
        cases hh
theorem ownsRow_at {w : World} {B : Nat} {e : TypeId} {size : Nat} {v : Value} {n : Nat} {xs : List Value} (h : w.ownsRow B e size v n xs) : ∀ k, v.ownBlock = some k → B ≤ k := by
  intro k hk
  obtain ⟨_, ⟨hv, _⟩ | ⟨g, cap, cur, hv, hg, _⟩⟩ := h
  · rw [hv] at hk
    cases hk
  · rw [hv] at hk
    have : g = k := by simpa [Value.ownBlock] using hk
    omega

/-- a part of a list. -/
theorem sl_part {α : Type} {S : Nat → Prop} {P : α → Nat → Nat → Prop} {c : Nat} {l : List α} {a : Option Addr} {n cap : Nat} (h : SlAt S P c l (.slice a n cap)) {i j : Nat} (hij : i ≤ j) (hj : j ≤ l.length) :
    ∃ a' cap', sliced a i j cap c = .slice a' (j - i) cap' ∧ SlAt S P c ((l.drop i).take (j - i)) (.slice a' (j - i) cap') := by
  obtain ⟨a', cap', e, ⟨h1, h2⟩, h3⟩ := h
  injection e with e1 e2 e3
  subst e1 e2 e3
  have hlen : ((l.drop i).take (j - i)).length = j - i := by rw [List.length_take, List.length_drop]; omega
  refine ⟨_, _, rfl, _, cap - i, by rw [hlen], ⟨by rw [hlen]; unfold maxLen at h1 ⊢; omega, by rw [hlen]; omega⟩, ?_⟩
  rw [hlen]
  by_cases h0 : j - i = 0
  · exact Or.inl h0
  · rcases h3 with h3 | ⟨b, o, rfl, hb, hr⟩
    · omega
    · rw [if_neg (by omega)]
      refine Or.inr ⟨b, o + i * c, by rw [Option.map_some, Go.WideShapes.add_plain], hb, RowAt.mk fun k hk => ?_⟩
      rw [hlen] at hk
      have := hr.get (i + k) (by omega)
      rw [List.getElem_take, List.getElem_drop]
      rw [show o + i * c + k * c = o + (i + k) * c by rw [Nat.add_mul]; omega]
      exact this

set_option maxRecDepth 100000 in
theorem sizeStr (W : World) : (sizeOf (Tryz.prog.elem 22)).run Tryz.prog W = .ok 1 W := by
  have : (sizeOf 9).run Tryz.prog W = .ok 1 W := by simp [go_sem]
  exact this
set_option maxRecDepth 100000 in
theorem run_hi_str (a : Option Addr) (n cap j : Nat) (x : Int) (hx : x = j) (h : j ≤ cap) (W : World) : (Instr.slice 22 (.slice a n cap) none (some (.int .i64 x)) none).run Tryz.prog W = .ok (sliced a 0 j cap 1) W := by
  subst hx
  rw [run_slice_h W _ a n cap Tryz.underlying22 .i64 j (by omega) (by omega), sizeStr]
  simp
set_option maxRecDepth 100000 in
theorem cut_str {S : Nat → Prop} {w : World} {u : List ByteArray} {a : Option Addr} {n cap : Nat} (h : SlAt S (StrAt w) 1 u (.slice a n cap)) {k : Nat} (hk : k ≤ u.length) :
    ∃ a' cap', (∀ W, (Instr.slice 22 (.slice a n cap) none (some (.int .i64 (k : Int))) none).run Tryz.prog W = .ok (.slice a' k cap') W) ∧ SlAt S (StrAt w) 1 (u.take k) (.slice a' k cap') := by
  have hcap : k ≤ cap := by
    obtain ⟨_, _, e, ⟨_, h2⟩, _⟩ := h
    injection e with e1 e2 e3
    omega
  obtain ⟨a', cap', e, hp⟩ := sl_part h (i := 0) (j := k) (Nat.zero_le _) hk
  rw [List.drop_zero, Nat.sub_zero] at hp
  rw [Nat.sub_zero] at e
  exact ⟨a', cap', fun W => by rw [run_hi_str a n cap k _ rfl hcap W, e], hp⟩

end Go.Proofs.YtcpnfkeoajeodaaGreatDoor

/- What alias.diag and alias.checkUse answer. -/
namespace Go.Proofs.YtcpnfkeoajeodaaGreatDoor
open Go.RowKit
set_option maxRecDepth 100000

end Go.Proofs.YtcpnfkeoajeodaaGreatDoor

/- What alias.Uses answers: what is wrong with each use, in their order. -/
namespace Go.Proofs.YtcpnfkeoajeodaaGreatDoor
open Go.RowKit
set_option maxRecDepth 100000

theorem ident_eight {s : ByteArray} (h : identOk s = true) : s.size ≤ 8 := by
  unfold identOk wordOk at h
  simp only [Bool.and_eq_true] at h
  have := h.1.1
  simp [isIn] at this
  omega
theorem mo_counts {m : Mo} (h : moFault m = 0) (hz : moSmall m) : m.uses.length + m.types.length + m.funcs.length ≤ 24 := by
  have hr := reachBytes_lt
  obtain ⟨z1, z2, z3⟩ := hz
  unfold moFault at h
  by_cases hc : 24 < wrap64 (wrap64 ((m.uses.length : Int) + m.types.length) + m.funcs.length)
  · rw [if_pos hc] at h; exact absurd h (by decide)
  · unfold wrap64 at hc
    omega
theorem mo_uses {m : Mo} (h : moFault m = 0) : ∀ s ∈ m.uses, identOk s = true := by
  unfold moFault at h
  by_cases hc : 24 < wrap64 (wrap64 ((m.uses.length : Int) + m.types.length) + m.funcs.length)
  · rw [if_pos hc] at h; exact absurd h (by decide)
  · rw [if_neg hc] at h
    by_cases hu : firstBad useFault m.uses ≠ 0
    · rw [if_pos hu] at h; exact absurd h hu
    · intro s hs
      obtain ⟨k, hk, rfl⟩ := List.getElem_of_mem hs
      have := firstBad_all useFault m.uses (by omega) k hk
      unfold useFault at this
      by_cases hi : identOk m.uses[k] = true
      · exact hi
      · rw [if_neg hi] at this; exact absurd this (by decide)
theorem mo_types {m : Mo} (h : moFault m = 0) : ∀ f ∈ m.types, identOk f.name = true ∧ tyFault f.is 1 = 0 := by
  unfold moFault at h
  by_cases hc : 24 < wrap64 (wrap64 ((m.uses.length : Int) + m.types.length) + m.funcs.length)
  · rw [if_pos hc] at h; exact absurd h (by decide)
  · rw [if_neg hc] at h
    by_cases hu : firstBad useFault m.uses ≠ 0
    · rw [if_pos hu] at h; exact absurd h hu
    · rw [if_neg hu] at h
      by_cases ht : firstBad fdFault m.types ≠ 0
      · rw [if_pos ht] at h; exact absurd h ht
      · intro s hs
        obtain ⟨k, hk, rfl⟩ := List.getElem_of_mem hs
        have := firstBad_all fdFault m.types (by omega) k hk
        unfold fdFault at this
        by_cases hi : identOk (m.types[k]).name = true
        · rw [if_pos hi] at this; exact ⟨hi, this⟩
        · rw [if_neg hi] at this; exact absurd this (by decide)

end Go.Proofs.YtcpnfkeoajeodaaGreatDoor

/- What the reference's UsesOf answers; and that the same things wrong are the same. -/
namespace Go.Proofs.YtcpnfkeoajeodaaGreatDoor
open Go.RowKit
set_option maxRecDepth 100000

/-- what UsesOf's regions keep. -/
def UseS (B b o : Nat) (p q r : Value) (s : ByteArray) (wr W : World) : Prop :=
  Below wr.heap.size wr W ∧ W.cell? ⟨B, 0, none⟩ = some p ∧ W.cell? ⟨B, 1, none⟩ = some q ∧ W.cell? ⟨B, 2, none⟩ = some r ∧ W.cell? ⟨b, o, none⟩ = some (.string s)
theorem UseS.below {B b o : Nat} {p q r : Value} {s : ByteArray} {wr W : World} (h : UseS B b o p q r s wr W) : Below wr.heap.size wr W := h.1
theorem UseS.later {B b o : Nat} {p q r : Value} {s : ByteArray} {wr W W' : World} (h : UseS B b o p q r s wr W) (hb : Below W.heap.size W W') : UseS B b o p q r s wr W' := by
  obtain ⟨h0, h1, h2, h3, h4⟩ := h
  exact ⟨h0.trans (hb.mono h0.size), (hb.cell (World.block_lt_of_cell? _ _ h1)).trans h1, (hb.cell (World.block_lt_of_cell? _ _ h2)).trans h2, (hb.cell (World.block_lt_of_cell? _ _ h3)).trans h3, (hb.cell (World.block_lt_of_cell? _ _ h4)).trans h4⟩

theorem UseS.box {B b o : Nat} {p q r : Value} {s : ByteArray} {wr W : World} {x : Obj} (h : UseS B b o p q r s wr W) : UseS B b o p q r s wr (W.alloc x) := h.later ((Below.refl _ _).alloc (Nat.le_refl _) _)
theorem UseS.sets {B b o g : Nat} {p q r : Value} {s : ByteArray} {wr W : World} {u v : Value} (h : UseS B b o p q r s wr W) (hg : wr.heap.size ≤ g) (hB : B < wr.heap.size) (hb : b < wr.heap.size) : UseS B b o p q r s wr ((W.setCell ⟨g, 0, none⟩ u).setCell ⟨g, 1, none⟩ v) := by
  obtain ⟨h0, h1, h2, h3, h4⟩ := h
  have e : ∀ (c : Addr), c.block ≠ g → ((W.setCell ⟨g, 0, none⟩ u).setCell ⟨g, 1, none⟩ v).cell? c = W.cell? c := fun c hc => by
    rw [World.cell?_setCell_far _ _ _ _ (by show g ≠ c.block; omega), World.cell?_setCell_far _ _ _ _ (by show g ≠ c.block; omega)]
  exact ⟨(h0.setCell hg _).setCell hg _, (e _ (by show B ≠ g; omega)).trans h1, (e _ (by show B ≠ g; omega)).trans h2, (e _ (by show B ≠ g; omega)).trans h3, (e _ (by show b ≠ g; omega)).trans h4⟩

theorem UseS.swap {B b o : Nat} {p q r : Value} {s : ByteArray} {wr W : World} {x y : Obj} (h : UseS B b o p q r s wr (W.alloc x)) (hl : wr.heap.size ≤ W.heap.size) (hB : B < wr.heap.size) (hb : b < wr.heap.size) : UseS B b o p q r s wr (W.alloc y) := by
  obtain ⟨h0, h1, h2, h3, h4⟩ := h
  have e : ∀ c, c < wr.heap.size → (W.alloc y).heap[c]? = (W.alloc x).heap[c]? := fun c hc => by
    rw [heap_alloc_old _ _ (by omega), heap_alloc_old _ _ (by omega)]
  refine ⟨⟨h0.os, h0.tape, h0.output, by simp; omega, fun c hc => (e c hc).trans (h0.block c hc)⟩, ?_, ?_, ?_, ?_⟩
  · rw [World.cell?_of_block (e B hB)]; exact h1
  · rw [World.cell?_of_block (e B hB)]; exact h2
  · rw [World.cell?_of_block (e B hB)]; exact h3
  · rw [World.cell?_of_block (e b hb)]; exact h4

theorem dg_one (s : ByteArray) (c : Int) : ∀ u ∈ ([.string s, .int .i64 c] : List Value), u.oneCell' = true := by
  intro u hu
  simp at hu
  rcases hu with rfl | rfl <;> rfl

theorem uses_small {u : List ByteArray} {l : List Im} (hn : ∀ s ∈ u, s.size ≤ 8) : ∀ t ∈ usesUpto u l u.length, t.wh.size ≤ maxLen := by
  have : ∀ k, k ≤ u.length → ∀ t ∈ usesUpto u l k, t.wh.size ≤ maxLen := by
    intro k
    induction k with
    | zero => intro _ t ht; cases ht
    | succ k ih =>
      intro hk t ht
      rw [usesUpto] at ht
      rcases List.mem_append.1 ht with h | h
      · exact ih (by omega) t h
      · unfold useStep at h
        by_cases hc : useCode u l k = 0
        · rw [if_pos hc] at h; cases h
        · rw [if_neg hc] at h
          rw [List.mem_singleton.1 h]
          show (useName u k).size ≤ _
          rw [useName_at (by omega)]
          have := hn _ (List.getElem_mem (show k < u.length by omega))
          unfold maxLen; omega
  exact this _ (Nat.le_refl _)

theorem box_later {W w' : World} {a b : Value} {t : TypeId} (hb : Below (W.alloc (.cells #[a, b] t)).heap.size (W.alloc (.cells #[a, b] t)) w') : w'.cell? ⟨W.heap.size, 0, none⟩ = some a ∧ w'.cell? ⟨W.heap.size, 1, none⟩ = some b ∧ w'.frozen? ⟨W.heap.size, 0, none⟩ = false ∧ w'.frozen? ⟨W.heap.size, 1, none⟩ = false := by
  have hl : W.heap.size < (W.alloc (.cells #[a, b] t)).heap.size := by simp
  exact ⟨(hb.cell (p := ⟨W.heap.size, 0, none⟩) hl).trans (by simp [go_sem]), (hb.cell (p := ⟨W.heap.size, 1, none⟩) hl).trans (by simp [go_sem]), (hb.frozen (p := ⟨W.heap.size, 0, none⟩) hl).trans (by simp [go_sem]), (hb.frozen (p := ⟨W.heap.size, 1, none⟩) hl).trans (by simp [go_sem])⟩

end Go.Proofs.YtcpnfkeoajeodaaGreatDoor
