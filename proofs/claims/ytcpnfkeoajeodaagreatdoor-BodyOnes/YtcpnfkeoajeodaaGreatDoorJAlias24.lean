/- The reference's solved at a name that is met first: the region that puts it under and goes on. -/
import Derived.Test.YtcpnfkeoajeodaaGreatDoorJAp
import Derived.Test.YtcpnfkeoajeodaaGreatDoorJF
import Derived.Deep.AppendLies
namespace Go.Proofs.YtcpnfkeoajeodaaGreatDoor
open Go.RowKit
set_option maxRecDepth 100000

def strVals (l : List ByteArray) : List Value := l.map fun s => .string s
theorem strVals_len (l : List ByteArray) : (strVals l).length = l.length := List.length_map ..
theorem strVals_at (l : List ByteArray) (i : Nat) (h : i < l.length) : (strVals l)[i]? = some (.string l[i]) := by simp [strVals, h]

theorem ownsRow_strs {w : World} {B : Nat} {v : Value} {l : List ByteArray} (h : w.ownsRow B 9 1 v l.length (strVals l)) (hl : l.length ≤ maxLen) (hs : ∀ t ∈ l, t.size ≤ maxLen) : SlAt (fun b => b < w.heap.size) (StrAt w) 1 l v := by
  obtain ⟨hx, ⟨hv, hn⟩ | ⟨g, cap, cur, hv, hg, hh, h1, h2, h3, h4⟩⟩ := h
  · subst hv
    exact ⟨none, 0, by rw [hn], ⟨hl, by omega⟩, Or.inl hn⟩
  · subst hv
    refine ⟨_, cap, rfl, ⟨hl, h1⟩, Or.inr ⟨g, 0, rfl, ?_, RowAt.mk fun i hi => ?_⟩⟩
    · rcases Nat.lt_or_ge g w.heap.size with h | h
      · exact h
      · rw [Array.getElem?_eq_none h] at hh
        cases hh
    · have hc : ∀ j u, (strVals l)[j]? = some u → w.cell? ⟨g, j, none⟩ = some u := fun j u hj => by
        rw [← h4] at hj
        have hj' : j < l.length * 1 := by
          rcases Nat.lt_or_ge j (l.length * 1) with h | h
          · exact h
          · rw [List.getElem?_eq_none (by rw [List.length_take]; omega)] at hj
            cases hj
        rw [List.getElem?_take_of_lt hj'] at hj
        simpa [World.cell?, hh] using hj
      exact ⟨by simpa using hc _ _ (strVals_at l i hi), hs _ (List.getElem_mem hi)⟩

theorem run_append_zero (w : World) (ty : TypeId) : (Builtin.append_ #[22, 22] ty #[.slice none 0 0, .slice none 0 0]).run Tryz.prog w = .ok (.slice none 0 0) w := by
  obtain ⟨i0, hi0, hz0, hz1, hz2⟩ := info_parts str_info
  simp [Builtin.append_, run_underlying Tryz.underlying22, sizeOf, typeInfo, hi0, Builtin.lenOf, run_firstCells_none]

def opsOn : Array Oper := #[{ dst := some 96, op := Op.load 26 (Operand.tmp 5), type := 26, pos := "checks.go:86", after := #[], guard := none }, { dst := some 97, op := Op.move (Operand.tmp 1), type := 27, pos := "checks.go:86", after := #[], guard := none }, { dst := some 98, op := Op.fieldAddr 26 (Operand.tmp 5) 1, type := 0, pos := "checks.go:86", after := #[], guard := none }, { dst := some 99, op := Op.load 23 (Operand.tmp 98), type := 23, pos := "checks.go:86", after := #[{ on := 2, ground := Ground.data }], guard := none }, { dst := some 100, op := Op.move (Operand.tmp 20), type := 3, pos := "checks.go:86", after := #[], guard := none }, { dst := some 101, op := Op.indexAddr 23 (Operand.tmp 99) (Operand.tmp 100), type := 0, pos := "checks.go:86", after := #[{ on := 3, ground := Ground.data }, { on := 4, ground := Ground.data }], guard := none }, { dst := some 102, op := Op.fieldAddr 64 (Operand.tmp 101) 1, type := 0, pos := "checks.go:86", after := #[{ on := 5, ground := Ground.data }], guard := none }, { dst := some 103, op := Op.load 49 (Operand.tmp 102), type := 49, pos := "checks.go:86", after := #[{ on := 6, ground := Ground.data }], guard := none }, { dst := some 104, op := Op.move (Operand.tmp 4), type := 22, pos := "checks.go:86", after := #[], guard := none }, { dst := some 105, op := Op.call { callee := Callee.builtin Builtin.append, args := #[Operand.const (Value.slice none 0 0), Operand.tmp 104], argTypes := #[22, 22] }, type := 22, pos := "checks.go:86", after := #[{ on := 8, ground := Ground.data }], guard := none }, { dst := some 106, op := Op.fieldAddr 49 (Operand.tmp 8) 2, type := 0, pos := "checks.go:86", after := #[], guard := none }, { dst := some 107, op := Op.load 9 (Operand.tmp 106), type := 9, pos := "checks.go:86", after := #[{ on := 10, ground := Ground.data }], guard := none }, { dst := some 108, op := Op.buildSlice 22 1 #[(0, Operand.tmp 107)], type := 22, pos := "checks.go:86", after := #[{ on := 11, ground := Ground.data }], guard := none }, { dst := some 109, op := Op.call { callee := Callee.builtin Builtin.append, args := #[Operand.tmp 105, Operand.tmp 108], argTypes := #[22, 22] }, type := 22, pos := "checks.go:86", after := #[{ on := 9, ground := Ground.data }, { on := 12, ground := Ground.data }, { on := 9, ground := Ground.chain }], guard := none }, { dst := some 110, op := Op.call { callee := Callee.value (Operand.func 61), args := #[Operand.tmp 96, Operand.tmp 97, Operand.const (Value.string { data := #[] }), Operand.tmp 103, Operand.tmp 109], argTypes := #[26, 27, 9, 49, 22] }, type := 61, pos := "checks.go:86", after := #[{ on := 0, ground := Ground.data }, { on := 1, ground := Ground.data }, { on := 7, ground := Ground.data }, { on := 13, ground := Ground.data }, { on := 13, ground := Ground.chain }], guard := none }, { dst := some 111, op := Op.extract (Operand.tmp 110) 0, type := 9, pos := "checks.go:86", after := #[{ on := 14, ground := Ground.data }], guard := none }, { dst := some 112, op := Op.extract (Operand.tmp 110) 1, type := 3, pos := "checks.go:86", after := #[{ on := 14, ground := Ground.data }], guard := none }, { dst := some 10, op := Op.assign (Operand.tmp 111), type := 9, pos := "checks.go:86", after := #[{ on := 15, ground := Ground.data }, { on := 14, ground := Ground.chain }, { on := 0, ground := Ground.phase }, { on := 1, ground := Ground.phase }, { on := 2, ground := Ground.phase }, { on := 3, ground := Ground.phase }, { on := 4, ground := Ground.phase }, { on := 5, ground := Ground.phase }, { on := 6, ground := Ground.phase }, { on := 7, ground := Ground.phase }, { on := 8, ground := Ground.phase }, { on := 9, ground := Ground.phase }, { on := 10, ground := Ground.phase }, { on := 11, ground := Ground.phase }, { on := 12, ground := Ground.phase }, { on := 13, ground := Ground.phase }, { on := 14, ground := Ground.phase }, { on := 15, ground := Ground.phase }, { on := 16, ground := Ground.phase }], guard := none }, { dst := some 11, op := Op.assign (Operand.tmp 112), type := 3, pos := "checks.go:86", after := #[{ on := 16, ground := Ground.data }, { on := 17, ground := Ground.chain }, { on := 0, ground := Ground.phase }, { on := 1, ground := Ground.phase }, { on := 2, ground := Ground.phase }, { on := 3, ground := Ground.phase }, { on := 4, ground := Ground.phase }, { on := 5, ground := Ground.phase }, { on := 6, ground := Ground.phase }, { on := 7, ground := Ground.phase }, { on := 8, ground := Ground.phase }, { on := 9, ground := Ground.phase }, { on := 10, ground := Ground.phase }, { on := 11, ground := Ground.phase }, { on := 12, ground := Ground.phase }, { on := 13, ground := Ground.phase }, { on := 14, ground := Ground.phase }, { on := 15, ground := Ground.phase }, { on := 16, ground := Ground.phase }, { on := 17, ground := Ground.phase }], guard := none }]

set_option maxRecDepth 100000 in
set_option maxHeartbeats 2000000 in
/-- append([]string(nil), under...) at the operation. -/
theorem wp_copy_under {o : Oper} {a : Act} {K : Act → World → Prop} {Q : Exit → Act → World → Prop} {W w : World} (x : Operand) (ho : o.op = .call { callee := .builtin .append, args := #[.const (.slice none 0 0), x], argTypes := #[22, 22] })
    (under : List ByteArray) (ua : Option Addr) (uc : Nat) (hx : a.eval x = .slice ua under.length uc) (hn : under = [] → ua = none ∧ uc = 0) (hun : SlAt (fun b => b < W.heap.size) (StrAt W) 1 under (.slice ua under.length uc)) (hl : under.length ≤ 30) (hw : Below W.heap.size W w)
    (h : ∀ v w', w'.ownsRow W.heap.size 9 1 v under.length (strVals under) → Below w.heap.size w w' → K (a.put o.dst v) w') : o.wp Tryz.prog a w K Q := by
  by_cases he : under = []
  · subst he
    obtain ⟨rfl, rfl⟩ := hn rfl
    have hs : a.eval (.const (.slice none 0 0)) = .slice none 0 0 := rfl
    unfold Oper.wp execOp
    simp only [ho, resolve, invoke, builtin, Sem.run_bind, Sem.run_pure, Result.andThen_ok, List.map_toArray, List.map_cons, List.map_nil, hs, hx, run_append_zero, List.length_nil]
    exact h _ _ (World.ownsRow_nil _ _ _ _) (Below.refl _ _)
  · have hpos : 0 < under.length := List.length_pos_iff.2 he
    obtain ⟨i0, hi0, hz0, hz1, hz2⟩ := info_parts str_info
    obtain ⟨a', cap', e, _, h0 | ⟨b, off, e2, hb, hr⟩⟩ := hun
    · omega
    · injection e with e1 _ e3
      subst e1 e3 e2
      refine wp_append_lies w (.const (.slice none 0 0)) x 22 ho W.heap.size 9 i0 _ 1 16 Tryz.underlying22 hi0 hz0 hz1 hz2 rfl (by omega) (.slice none 0 0) 0 [] rfl (World.ownsRow_nil _ _ _ _) ⟨b, off, none⟩ under.length _ (strVals under) hx (by rw [strVals_len]; omega) (fun j u hj => ?_) (fun u hu => ?_) hpos (by unfold maxLen; omega) (by omega) hw.size _ rfl (fun g cap w' hown hgrow hat hlt => ?_)
      · have hj' : j < under.length := by
          rcases Nat.lt_or_ge j under.length with h | h
          · exact h
          · rw [List.getElem?_eq_none (by rw [strVals_len]; exact h)] at hj; cases hj
        rw [strVals_at under j hj'] at hj
        injection hj with hj
        subst hj
        have hat := (hr.get j hj').1
        rw [Nat.mul_one] at hat
        have hadd : (⟨b, off, none⟩ : Addr).add j = ⟨b, off + j, none⟩ := by unfold Addr.add; split <;> simp_all
        rw [hadd]
        exact (hw.cell (p := ⟨b, off + j, none⟩) hb).trans hat
      · obtain ⟨s, _, rfl⟩ := List.mem_map.1 hu; rfl
      · refine h _ _ (by simpa using hown) ⟨hgrow.os, hgrow.tape, hgrow.output, hgrow.size, fun b hb => hgrow.block b hb (by simp [Value.ownBlock])⟩

end Go.Proofs.YtcpnfkeoajeodaaGreatDoor
