/- What alias.checkUse and alias.diag answer; what alias.Uses and the reference's UsesOf answer: what is wrong with each use, in their order. -/
import Derived.Test.YtkdailcadcfepafJAlias5
import Derived.Test.YtkdailcadcfepafJKindX
import Derived.Test.YtkdailcadcfepafJRowMade
import Derived.OwnWalk
namespace Go.Proofs.Ytkdailcadcfepaf
open Go.RowKit

structure Dg where
  wh : ByteArray
  code : Int
def DgAt (w : World) (d : Dg) (b o : Nat) : Prop := StrAt w d.wh b o ∧ w.cell? ⟨b, o + 1, none⟩ = some (.int .i64 d.code)
theorem dgSl_keep {S S' : Nat → Prop} {w w' : World} (hk : Keeps S S' w w') {l : List Dg} {v : Value} (h : SlAt S (DgAt w) 2 l v) : SlAt S' (DgAt w') 2 l v := h.imp hk.sub fun _ _ _ _ hb' h => ⟨StrAt.keep hk hb' h.1, by rw [hk.cell hb']; exact h.2⟩

/-- the first so many of a list. -/
theorem sl_take {α : Type} {S : Nat → Prop} {P : α → Nat → Nat → Prop} {c : Nat} {l : List α} {a : Option Addr} {n cap : Nat} (h : SlAt S P c l (.slice a n cap)) {k : Nat} (hk : k ≤ l.length) : SlAt S P c (l.take k) (.slice a k cap) := by
  obtain ⟨a', cap', e, ⟨h1, h2⟩, h3⟩ := h
  injection e with e1 e2 e3
  subst e1 e2 e3
  have hlen : (l.take k).length = k := by rw [List.length_take]; omega
  refine ⟨a, cap, by rw [hlen], ⟨by rw [hlen]; omega, by rw [hlen]; omega⟩, ?_⟩
  rw [hlen]
  by_cases h0 : k = 0
  · exact Or.inl h0
  · rcases h3 with h3 | ⟨b, o, rfl, hb, hr⟩
    · omega
    · refine Or.inr ⟨b, o, rfl, hb, RowAt.mk fun i hi => ?_⟩
      have hi' : i < l.length := by rw [hlen] at hi; omega
      have := hr.get i hi'
      rw [List.getElem_take]
      exact this

def useName (u : List ByteArray) (k : Nat) : ByteArray := u.getD k ⟨#[]⟩
def useCode (u : List ByteArray) (l : List Im) (k : Nat) : Int := if hasS (u.take k) (useName u k) = true then 4 else if fromOk u l (useName u k) = true then 0 else 3
def useStep (u : List ByteArray) (l : List Im) (k : Nat) : List Dg := if useCode u l k = 0 then [] else [⟨useName u k, useCode u l k⟩]
def usesUpto (u : List ByteArray) (l : List Im) : Nat → List Dg
  | 0 => []
  | k + 1 => usesUpto u l k ++ useStep u l k

theorem useName_at {u : List ByteArray} {k : Nat} (h : k < u.length) : useName u k = u[k] := by
  unfold useName
  rw [List.getD_eq_getElem?_getD, List.getElem?_eq_getElem h]; rfl
theorem usesUpto_le (u : List ByteArray) (l : List Im) : ∀ k, (usesUpto u l k).length ≤ k
  | 0 => Nat.le_refl _
  | k + 1 => by
    have := usesUpto_le u l k
    rw [usesUpto, List.length_append]
    unfold useStep
    by_cases h : useCode u l k = 0
    · rw [if_pos h]; simp; omega
    · rw [if_neg h]; simp; omega
theorem usesUpto_zero {u : List ByteArray} {l : List Im} {k : Nat} (h : useCode u l k = 0) : usesUpto u l (k + 1) = usesUpto u l k := by
  rw [usesUpto, useStep, if_pos h, List.append_nil]
theorem usesUpto_one {u : List ByteArray} {l : List Im} {k : Nat} (h : useCode u l k ≠ 0) : usesUpto u l (k + 1) = usesUpto u l k ++ [⟨useName u k, useCode u l k⟩] := by
  rw [usesUpto, useStep, if_neg h]

def dgCells (l : List Dg) : List Value := l.flatMap fun t => [.string t.wh, .int .i64 t.code]
theorem dgCells_snoc (l : List Dg) (t : Dg) : dgCells (l ++ [t]) = dgCells l ++ [.string t.wh, .int .i64 t.code] := by
  simp [dgCells]
theorem dgCells_at : ∀ (l : List Dg) (i : Nat) (h : i < l.length), (dgCells l)[i * 2]? = some (.string l[i].wh) ∧ (dgCells l)[i * 2 + 1]? = some (.int .i64 l[i].code)
  | [], i, h => absurd h (by simp)
  | t :: r, 0, _ => by simp [dgCells]
  | t :: r, i + 1, h => by
    have ih := dgCells_at r i (by simpa using h)
    have e : dgCells (t :: r) = .string t.wh :: .int .i64 t.code :: dgCells r := by simp [dgCells]
    rw [e, show (i + 1) * 2 = i * 2 + 1 + 1 by omega, show i * 2 + 1 + 1 + 1 = (i * 2 + 1) + 1 + 1 by omega]
    simp only [List.getElem?_cons_succ, List.getElem_cons_succ]
    exact ih

theorem ownsRow_later {w w' : World} {B : Nat} {e : TypeId} {size : Nat} {v : Value} {n : Nat} {xs : List Value} (h : w.ownsRow B e size v n xs) (hb : Below w.heap.size w w') : w'.ownsRow B e size v n xs := by
  obtain ⟨hx, h | ⟨g, cap, cur, hv, hg, hh, h1, h2, h3, h4⟩⟩ := h
  · exact ⟨hx, Or.inl h⟩
  · refine ⟨hx, Or.inr ⟨g, cap, cur, hv, hg, ?_, h1, h2, h3, h4⟩⟩
    rw [hb.block g ?_]
    · exact hh
    · rcases Nat.lt_or_ge g w.heap.size with h | h
      · exact h
      · rw [Array.getElem?_eq_none h] at hh
        cases hh
theorem ownsRow_at {w : World} {B : Nat} {e : TypeId} {size : Nat} {v : Value} {n : Nat} {xs : List Value} (h : w.ownsRow B e size v n xs) : ∀ k, v.ownBlock = some k → B ≤ k := by
  intro k hk
  obtain ⟨_, ⟨hv, _⟩ | ⟨g, cap, cur, hv, hg, _⟩⟩ := h
  · rw [hv] at hk
    cases hk
  · rw [hv] at hk
    have : g = k := by simpa [Value.ownBlock] using hk
    omega

theorem ownsRow_dgs {w : World} {B : Nat} {v : Value} {l : List Dg} (h : w.ownsRow B 62 2 v l.length (dgCells l)) (hl : l.length ≤ maxLen) (hs : ∀ t ∈ l, t.wh.size ≤ maxLen) : SlAt (fun b => B ≤ b ∧ b < w.heap.size) (DgAt w) 2 l v := by
  obtain ⟨hx, ⟨hv, hn⟩ | ⟨g, cap, cur, hv, hg, hh, h1, h2, h3, h4⟩⟩ := h
  · subst hv
    exact ⟨none, 0, by rw [hn], ⟨hl, by omega⟩, Or.inl hn⟩
  · subst hv
    refine ⟨_, cap, rfl, ⟨hl, h1⟩, Or.inr ⟨g, 0, rfl, ⟨hg, ?_⟩, RowAt.mk fun i hi => ?_⟩⟩
    · rcases Nat.lt_or_ge g w.heap.size with h | h
      · exact h
      · rw [Array.getElem?_eq_none h] at hh
        cases hh
    · have hc : ∀ j u, (dgCells l)[j]? = some u → w.cell? ⟨g, j, none⟩ = some u := fun j u hj => by
        rw [← h4] at hj
        have hj' : j < l.length * 2 := by
          rcases Nat.lt_or_ge j (l.length * 2) with h | h
          · exact h
          · rw [List.getElem?_eq_none (by rw [List.length_take]; omega)] at hj
            cases hj
        rw [List.getElem?_take_of_lt hj'] at hj
        simpa [World.cell?, hh] using hj
      obtain ⟨a, b⟩ := dgCells_at l i hi
      refine ⟨⟨by simpa using hc _ _ a, hs _ (List.getElem_mem hi)⟩, by simpa using hc _ _ b⟩

theorem infoDg : (Try.prog.info? 62).map (fun i => (i.zero, i.size, i.bytes)) = some (some (.agg #[.string ⟨#[]⟩, .int .i64 0]), 2, 24) := by kernel_rfl

/-- a part of a list. -/
theorem sl_part {α : Type} {S : Nat → Prop} {P : α → Nat → Nat → Prop} {c : Nat} {l : List α} {a : Option Addr} {n cap : Nat} (h : SlAt S P c l (.slice a n cap)) {i j : Nat} (hij : i ≤ j) (hj : j ≤ l.length) :
    ∃ a' cap', sliced a i j cap c = .slice a' (j - i) cap' ∧ SlAt S P c ((l.drop i).take (j - i)) (.slice a' (j - i) cap') := by
  obtain ⟨a', cap', e, ⟨h1, h2⟩, h3⟩ := h
  injection e with e1 e2 e3
  subst e1 e2 e3
  have hlen : ((l.drop i).take (j - i)).length = j - i := by rw [List.length_take, List.length_drop]; omega
  refine ⟨_, _, rfl, _, cap - i, by rw [hlen], ⟨by rw [hlen]; unfold maxLen at h1 ⊢; omega, by rw [hlen]; omega⟩, ?_⟩
  rw [hlen]
  by_cases h0 : j - i = 0
  · exact Or.inl h0
  · rcases h3 with h3 | ⟨b, o, rfl, hb, hr⟩
    · omega
    · rw [if_neg (by omega)]
      refine Or.inr ⟨b, o + i * c, by rw [Option.map_some, Go.WideShapes.add_plain], hb, RowAt.mk fun k hk => ?_⟩
      rw [hlen] at hk
      have := hr.get (i + k) (by omega)
      rw [List.getElem_take, List.getElem_drop]
      rw [show o + i * c + k * c = o + (i + k) * c by rw [Nat.add_mul]; omega]
      exact this

set_option maxRecDepth 100000 in
theorem sizeStr (W : World) : (sizeOf (Try.prog.elem 22)).run Try.prog W = .ok 1 W := by
  have : (sizeOf 9).run Try.prog W = .ok 1 W := by simp [go_sem]
  exact this
set_option maxRecDepth 100000 in
theorem run_hi_str (a : Option Addr) (n cap j : Nat) (x : Int) (hx : x = j) (h : j ≤ cap) (W : World) : (Instr.slice 22 (.slice a n cap) none (some (.int .i64 x)) none).run Try.prog W = .ok (sliced a 0 j cap 1) W := by
  subst hx
  rw [run_slice_h W _ a n cap Try.underlying22 .i64 j (by omega) (by omega), sizeStr]
  simp
set_option maxRecDepth 100000 in
theorem cut_str {S : Nat → Prop} {w : World} {u : List ByteArray} {a : Option Addr} {n cap : Nat} (h : SlAt S (StrAt w) 1 u (.slice a n cap)) {k : Nat} (hk : k ≤ u.length) :
    ∃ a' cap', (∀ W, (Instr.slice 22 (.slice a n cap) none (some (.int .i64 (k : Int))) none).run Try.prog W = .ok (.slice a' k cap') W) ∧ SlAt S (StrAt w) 1 (u.take k) (.slice a' k cap') := by
  have hcap : k ≤ cap := by
    obtain ⟨_, _, e, ⟨_, h2⟩, _⟩ := h
    injection e with e1 e2 e3
    omega
  obtain ⟨a', cap', e, hp⟩ := sl_part h (i := 0) (j := k) (Nat.zero_le _) hk
  rw [List.drop_zero, Nat.sub_zero] at hp
  rw [Nat.sub_zero] at e
  exact ⟨a', cap', fun W => by rw [run_hi_str a n cap k _ rfl hcap W, e], hp⟩

end Go.Proofs.Ytkdailcadcfepaf
