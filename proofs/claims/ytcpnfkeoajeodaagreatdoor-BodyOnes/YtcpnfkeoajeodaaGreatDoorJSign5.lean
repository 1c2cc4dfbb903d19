/- What the reference's SigOf answers. -/
import Derived.Test.YtcpnfkeoajeodaaGreatDoorJSb
import Derived.Test.YtcpnfkeoajeodaaGreatDoorJAlias24
import Derived.Test.YtcpnfkeoajeodaaGreatDoorJFindLe
import Derived.Test.YtcpnfkeoajeodaaGreatDoorJAr
import Derived.Deep.RegionHeld3
namespace Go.Proofs.YtcpnfkeoajeodaaGreatDoor
open Go.RowKit
set_option maxRecDepth 100000

theorem has_found {α : Type} {p : α → Bool} {l : List α} {k q : Nat} (hk : k ≤ l.length) (hq : q < k) (h : p (l[q]'(by omega)) = true) : decide (findAt p (l.take k) < (l.take k).length) = true := by
  have hl : (l.take k).length = k := by rw [List.length_take]; omega
  have h1 : q < (l.take k).length := by omega
  have := find_le (p := p) (l := l.take k) (k := q) h1 (by rw [List.getElem_take]; exact h)
  exact decide_eq_true (by omega)
theorem has_none {α : Type} {p : α → Bool} {l : List α} {k : Nat} (h : ∀ q (hq : q < l.length), q < k → p l[q] = false) : decide (findAt p (l.take k) < (l.take k).length) = false := by
  refine decide_eq_false fun hlt => ?_
  have h1 := find_at hlt
  rw [List.getElem_take] at h1
  rw [List.length_take] at hlt
  rw [h _ (by omega) (by omega)] at h1
  cases h1

theorem ownsRow_strsB {w : World} {B : Nat} {v : Value} {l : List ByteArray} (h : w.ownsRow B 9 1 v l.length (strVals l)) (hl : l.length ≤ maxLen) (hs : ∀ t ∈ l, t.size ≤ maxLen) : SlAt (fun b => B ≤ b ∧ b < w.heap.size) (StrAt w) 1 l v := by
  have h1 := ownsRow_strs h hl hs
  obtain ⟨a, cap, rfl, hlen, h2⟩ := h1
  refine ⟨a, cap, rfl, hlen, h2.imp_right ?_⟩
  rintro ⟨b, o, rfl, hb, hr⟩
  obtain ⟨_, ⟨hv, h0⟩ | ⟨g, cap', cur, hv, hg, _⟩⟩ := h
  · cases hv
  · injection hv with e1
    injection e1 with e1
    injection e1 with e1 e2
    subst e1 e2
    exact ⟨_, _, rfl, ⟨hg, hb⟩, hr⟩

/-- the box of the answer that is made. -/
structure SgMade (B : Nat) (nm : ByteArray) (ks : List ByteArray) (a : Option Addr) (cap : Nat) (w3 W : World) : Prop where
  below : Below B w3 W
  box : W.heap[B]? = some (.cells #[.string nm, .slice a ks.length cap, .string ⟨#[]⟩] 44 (0, 0))
  own : W.ownsRow (B + 1) 9 1 (.slice a ks.length cap) ks.length (strVals ks)
  low : B ≤ w3.heap.size
theorem SgMade.lt {B : Nat} {nm : ByteArray} {ks : List ByteArray} {a : Option Addr} {cap : Nat} {w3 W : World} (h : SgMade B nm ks a cap w3 W) : B < W.heap.size := by
  rcases Nat.lt_or_ge B W.heap.size with h1 | h1
  · exact h1
  · have := h.box
    rw [Array.getElem?_eq_none h1] at this; cases this
theorem SgMade.keep {B : Nat} {nm : ByteArray} {ks : List ByteArray} {a : Option Addr} {cap : Nat} {w3 W W' : World} (h : SgMade B nm ks a cap w3 W) (hb : Below W.heap.size W W') : SgMade B nm ks a cap w3 W' :=
  ⟨h.below.trans (hb.mono (Nat.le_trans h.low h.below.size)), (hb.block _ h.lt).trans h.box, ownsRow_later h.own hb, h.low⟩
theorem SgMade.cells {B : Nat} {nm : ByteArray} {ks : List ByteArray} {a : Option Addr} {cap : Nat} {w3 W : World} (h : SgMade B nm ks a cap w3 W) : W.cell? ⟨B, 0, none⟩ = some (.string nm) ∧ W.cell? ⟨B, 1, none⟩ = some (.slice a ks.length cap) ∧ W.cell? ⟨B, 2, none⟩ = some (.string ⟨#[]⟩) ∧ W.frozen? ⟨B, 1, none⟩ = false ∧ W.frozen? ⟨B, 2, none⟩ = false :=
  ⟨by rw [cell_of_row _ _ _ _ _ _ h.box]; rfl, by rw [cell_of_row _ _ _ _ _ _ h.box]; rfl, by rw [cell_of_row _ _ _ _ _ _ h.box]; rfl, frozen_of_row _ _ _ _ _ h.box, frozen_of_row _ _ _ _ _ h.box⟩
theorem SgMade.room {B : Nat} {nm : ByteArray} {ks : List ByteArray} {a : Option Addr} {cap : Nat} {w3 W W0 W1 : World} (h : SgMade B nm ks a cap w3 W) (h0 : Below W.heap.size W W0) (hg : W0.grownBy W1 (Value.slice a ks.length cap).ownBlock) : W1.cell? ⟨B, 1, none⟩ = some (.slice a ks.length cap) ∧ W1.frozen? ⟨B, 1, none⟩ = false := by
  have hB0 := Nat.lt_of_lt_of_le h.lt h0.size
  have hne : some B ≠ (Value.slice a ks.length cap).ownBlock := fun e => by
    have := ownsRow_at h.own B e.symm; omega
  have hbox1 := (hg.block B hB0 hne).trans ((h0.block _ h.lt).trans h.box)
  exact ⟨by rw [cell_of_row _ _ _ _ _ _ hbox1]; rfl, frozen_of_row _ _ _ _ _ hbox1⟩
theorem one_new (w : World) (s : ByteArray) : ∀ j u, ([.string s] : List Value)[j]? = some u → (w.alloc (.cells #[.string s] 9)).cell? ((⟨w.heap.size, 0, none⟩ : Addr).add j) = some u :=
  World.news_of_block (cs := #[.string s]) (t := 9) (fr := (0, 0)) (heap_alloc_new w _)
theorem one_cell (s : ByteArray) : ∀ u ∈ ([.string s] : List Value), u.oneCell' = true := fun u hu => by simp at hu; subst hu; rfl
theorem SgMade.push {B : Nat} {nm s : ByteArray} {ks : List ByteArray} {a : Option Addr} {cap : Nat} {w3 W W0 W1 : World} {g cap' : Nat} (h : SgMade B nm ks a cap w3 W) (h0 : Below W.heap.size W W0) (hg : W0.grownBy W1 (Value.slice a ks.length cap).ownBlock) (hown : W1.ownsRow (B + 1) 9 1 (.slice (some ⟨g, 0, none⟩) (ks.length + 1) cap') (ks.length + 1) (strVals ks ++ [.string s])) :
    SgMade B nm (ks ++ [s]) (some ⟨g, 0, none⟩) cap' w3 (W1.setCell ⟨B, 1, none⟩ (.slice (some ⟨g, 0, none⟩) (ks.length + 1) cap')) := by
  have hB0 := Nat.lt_of_lt_of_le h.lt h0.size
  have hne : some B ≠ (Value.slice a ks.length cap).ownBlock := fun e => by
    have := ownsRow_at h.own B e.symm; omega
  have hbox1 : W1.heap[B]? = some (.cells #[.string nm, .slice a ks.length cap, .string ⟨#[]⟩] 44 (0, 0)) := (hg.block B hB0 hne).trans ((h0.block _ h.lt).trans h.box)
  have hbl : Below B w3 W1 := by
    have h1 := h.below.trans (h0.mono (Nat.le_of_lt h.lt))
    exact ⟨hg.os.trans h1.os, hg.tape.trans h1.tape, hg.output.trans h1.output, Nat.le_trans h1.size hg.size, fun j hj => (hg.block j (by omega) (fun e => by have := ownsRow_at h.own j e.symm; omega)).trans (h1.block j hj)⟩
  refine ⟨hbl.setCell (Nat.le_refl _) _, ?_, ?_, h.low⟩
  · have := block_set hbox1 1 (.slice (some ⟨g, 0, none⟩) (ks.length + 1) cap')
    rw [List.length_append, List.length_singleton]
    simpa using this
  · rw [List.length_append, List.length_singleton, show strVals (ks ++ [s]) = strVals ks ++ [.string s] by simp [strVals]]
    exact ownsRow_setCell_below hown (a := ⟨B, 1, none⟩) (by show B < B + 1; omega) _

set_option maxRecDepth 100000 in
set_option maxHeartbeats 8000000 in
theorem sigOf_any (S : Nat → Prop) (m : Mo) (l : List Im) (k : Nat) (vm vl : Value) (w : World) (hS : ∀ b, S b → b < w.heap.size) (hm : MoIs S w m vm) (hl : SlAt S (ImAt S w) 4 l vl) (hz : ∀ i ∈ l, fcSmall i.face) (hi0 : imsFault l = 0) (hty : ∀ f ∈ m.types, identOk f.name = true ∧ tyFault f.is 1 = 0) (hn : m.types.length ≤ 24) (hfu : ∀ f ∈ m.funcs, FuMay f) (hk : k < m.funcs.length) :
    Calls Tryz.prog 17 #[vm, vl, .int .i64 (k : Nat)] w (Signs w (oneSg m l k) (oneCode m l k)) := by
  obtain ⟨hoc, hos⟩ := oneCode_at (l := l) hk
  obtain ⟨vu, vty, vf, rfl, hu, hts, hf⟩ := id hm
  have hlen := hf.len
  unfold maxLen at hlen
  obtain ⟨u1, u2, u3, rfl⟩ := hu.slice
  obtain ⟨t1, t2, t3, rfl⟩ := hts.slice
  obtain ⟨f1, f3, rfl⟩ := hf.is
  obtain ⟨la, ln, lc, rfl⟩ := hl.slice
  obtain ⟨hident, h8, hps8, htr⟩ := hfu _ (List.getElem_mem hk)
  have HF := veil hf
  obtain ⟨_, b, off, rfl, hb, hat⟩ := hf.at hk
  obtain ⟨vp1, vp2, vp3, kd, fo, na, p1, p2, p3, ke, ne, fe, se, ve1, ve2, ve3, a0, a1, a2, a3, a4, a5, a6, a7, a8, a9, a10, a11, hsz0, hsz1, hps, hcs, hce⟩ := fu_cells hat
  obtain ⟨vpa, vpc, epv⟩ := hps.is
  injection epv with e1 e2 e3
  subst e1 e2 e3
  have HPs := veil hps
  have hbw := hS b hb
  obtain ⟨w0, hwe0, hs0, hbel0, m0, m1, m2, y0, y1, y2, z0, z1, z2⟩ : ∃ w0, (w.alloc (.cells #[.slice u1 u2 u3, .slice t1 t2 t3, .slice (some ⟨b, off, none⟩) m.funcs.length f3] 26)).alloc (.cells #[.string ⟨#[]⟩, .slice none 0 0, .string ⟨#[]⟩] 44) = w0 ∧ w0.heap.size = w.heap.size + 2 ∧ Below w.heap.size w w0 ∧
      w0.cell? ⟨w.heap.size, 0, none⟩ = some (.slice u1 u2 u3) ∧ w0.cell? ⟨w.heap.size, 1, none⟩ = some (.slice t1 t2 t3) ∧ w0.cell? ⟨w.heap.size, 2, none⟩ = some (.slice (some ⟨b, off, none⟩) m.funcs.length f3) ∧
      w0.cell? ⟨w.heap.size + 1, 0, none⟩ = some (.string ⟨#[]⟩) ∧ w0.cell? ⟨w.heap.size + 1, 1, none⟩ = some (.slice none 0 0) ∧ w0.cell? ⟨w.heap.size + 1, 2, none⟩ = some (.string ⟨#[]⟩) ∧ w0.frozen? ⟨w.heap.size + 1, 0, none⟩ = false ∧ w0.frozen? ⟨w.heap.size + 1, 1, none⟩ = false ∧ w0.frozen? ⟨w.heap.size + 1, 2, none⟩ = false :=
    ⟨_, rfl, by simp, ((Below.refl _ _).alloc (Nat.le_refl _) _).alloc (by simp) _, by simp [go_sem], by simp [go_sem], by simp [go_sem], by simp [go_sem], by simp [go_sem], by simp [go_sem], by simp [go_sem], by simp [go_sem], by simp [go_sem]⟩
  obtain ⟨w2, hwe, hs2, hbel2, c0, c1, c2, c3, c4, c5, c6⟩ : ∃ w2, w0.alloc (.cells #[.string m.funcs[k].name, .string m.funcs[k].var, .slice vp1 m.funcs[k].params.length vp3, .int .i64 kd, .string fo, .string na, .slice p1 p2 p3, .int .i64 ke, .int .i64 ne, .string fe, .string se, .slice ve1 ve2 ve3] 54) = w2 ∧ w2.heap.size = w.heap.size + 3 ∧ Below w0.heap.size w0 w2 ∧
      w2.cell? ⟨w.heap.size + 2, 0, none⟩ = some (.string m.funcs[k].name) ∧ w2.cell? ⟨w.heap.size + 2, 1, none⟩ = some (.string m.funcs[k].var) ∧ w2.cell? ⟨w.heap.size + 2, 2, none⟩ = some (.slice vp1 m.funcs[k].params.length vp3) ∧ w2.cell? ⟨w.heap.size + 2, 3, none⟩ = some (.int .i64 kd) ∧ w2.cell? ⟨w.heap.size + 2, 4, none⟩ = some (.string fo) ∧ w2.cell? ⟨w.heap.size + 2, 5, none⟩ = some (.string na) ∧ w2.cell? ⟨w.heap.size + 2, 6, none⟩ = some (.slice p1 p2 p3) := by
    rw [← hs0]
    exact ⟨_, rfl, by simp; omega, (Below.refl _ _).alloc (Nat.le_refl _) _, by simp [go_sem], by simp [go_sem], by simp [go_sem], by simp [go_sem], by simp [go_sem], by simp [go_sem], by simp [go_sem]⟩
  have HBox : Hid (∀ W, Below w2.heap.size w2 W → ((W.cell? ⟨w.heap.size, 0, none⟩ = some (.slice u1 u2 u3) ∧ W.cell? ⟨w.heap.size, 1, none⟩ = some (.slice t1 t2 t3) ∧ W.cell? ⟨w.heap.size, 2, none⟩ = some (.slice (some ⟨b, off, none⟩) m.funcs.length f3)) ∧
      (W.cell? ⟨w.heap.size + 1, 0, none⟩ = some (.string ⟨#[]⟩) ∧ W.cell? ⟨w.heap.size + 1, 1, none⟩ = some (.slice none 0 0) ∧ W.cell? ⟨w.heap.size + 1, 2, none⟩ = some (.string ⟨#[]⟩)) ∧ (W.frozen? ⟨w.heap.size + 1, 0, none⟩ = false ∧ W.frozen? ⟨w.heap.size + 1, 1, none⟩ = false ∧ W.frozen? ⟨w.heap.size + 1, 2, none⟩ = false)) ∧ Below w.heap.size w W ∧
      (W.cell? ⟨w.heap.size + 2, 0, none⟩ = some (.string m.funcs[k].name) ∧ W.cell? ⟨w.heap.size + 2, 1, none⟩ = some (.string m.funcs[k].var) ∧ W.cell? ⟨w.heap.size + 2, 2, none⟩ = some (.slice vp1 m.funcs[k].params.length vp3) ∧ W.cell? ⟨w.heap.size + 2, 3, none⟩ = some (.int .i64 kd) ∧ W.cell? ⟨w.heap.size + 2, 4, none⟩ = some (.string fo) ∧ W.cell? ⟨w.heap.size + 2, 5, none⟩ = some (.string na) ∧ W.cell? ⟨w.heap.size + 2, 6, none⟩ = some (.slice p1 p2 p3))) := fun W hW => by
    have hW0 := hbel2.trans (hW.mono hbel2.size)
    have l0 : w.heap.size < w0.heap.size := by omega
    have l1 : w.heap.size + 1 < w0.heap.size := by omega
    have l2 : w.heap.size + 2 < w2.heap.size := by omega
    exact ⟨⟨⟨(hW0.cell (p := ⟨w.heap.size, 0, none⟩) l0).trans m0, (hW0.cell (p := ⟨w.heap.size, 1, none⟩) l0).trans m1, (hW0.cell (p := ⟨w.heap.size, 2, none⟩) l0).trans m2⟩,
      ⟨(hW0.cell (p := ⟨w.heap.size + 1, 0, none⟩) l1).trans y0, (hW0.cell (p := ⟨w.heap.size + 1, 1, none⟩) l1).trans y1, (hW0.cell (p := ⟨w.heap.size + 1, 2, none⟩) l1).trans y2⟩, (hW0.frozen (p := ⟨w.heap.size + 1, 0, none⟩) l1).trans z0, (hW0.frozen (p := ⟨w.heap.size + 1, 1, none⟩) l1).trans z1, (hW0.frozen (p := ⟨w.heap.size + 1, 2, none⟩) l1).trans z2⟩, hbel0.trans (hW0.mono hbel0.size),
      (hW.cell (p := ⟨w.heap.size + 2, 0, none⟩) l2).trans c0, (hW.cell (p := ⟨w.heap.size + 2, 1, none⟩) l2).trans c1, (hW.cell (p := ⟨w.heap.size + 2, 2, none⟩) l2).trans c2, (hW.cell (p := ⟨w.heap.size + 2, 3, none⟩) l2).trans c3, (hW.cell (p := ⟨w.heap.size + 2, 4, none⟩) l2).trans c4, (hW.cell (p := ⟨w.heap.size + 2, 5, none⟩) l2).trans c5, (hW.cell (p := ⟨w.heap.size + 2, 6, none⟩) l2).trans c6⟩
  have HSet : Hid (∀ W v0 v1 v2, Below w.heap.size w W → Below w.heap.size w (((W.setCell ⟨w.heap.size + 1, 0, none⟩ v0).setCell ⟨w.heap.size + 1, 1, none⟩ v1).setCell ⟨w.heap.size + 1, 2, none⟩ v2)) := fun W v0 v1 v2 h =>
    ((h.setCell (by show w.heap.size ≤ w.heap.size + 1; omega) _).setCell (by show w.heap.size ≤ w.heap.size + 1; omega) _).setCell (by show w.heap.size ≤ w.heap.size + 1; omega) _
  have HSol : Hid (∀ W t u, Below w.heap.size w W → tyFault t 1 = 0 → TyIs S W t u → Calls Tryz.prog 38 #[.agg #[.slice u1 u2 u3, .slice t1 t2 t3, .slice (some ⟨b, off, none⟩) m.funcs.length f3], .slice la ln lc, .string m.funcs[k].var, u] W (Tells W (rhoR m l m.funcs[k].var t))) := fun W t u hW ht hu' =>
    solvedOf_any S m l m.funcs[k].var t _ _ u W (fun b hb => Nat.lt_of_lt_of_le (hS b hb) hW.size) (hm.keep (Keeps.below hW hS)) (imSl_keep (Keeps.below hW hS) hl) hz hi0 hty hn ht hu'
  have HRs : Hid (∀ W, Below w.heap.size w W → TyIs S W m.funcs[k].result (.agg #[.int .i64 kd, .string fo, .string na, .slice p1 p2 p3])) := fun W hW => ⟨_, _, _, _, rfl, hcs.keep (Keeps.below hW hS)⟩
  have HRz := veil (fun t => rhoR_size (m := m) hz m.funcs[k].var t)
  have HTr := veil htr
  have HTp : Hid (∀ p ∈ m.funcs[k].params, tyFault p.is 1 = 0) := fun p hp => (hps8 p hp).2
  have HW0 := veil hwe0
  have HW2 := veil hwe
  have HB0 := veil hbel0
  have d0 := (hbel0.cell (p := ⟨b, off + k * 12, none⟩) hbw).trans a0
  have d1 := (hbel0.cell (p := ⟨b, off + k * 12 + 1, none⟩) hbw).trans a1
  have d2 := (hbel0.cell (p := ⟨b, off + k * 12 + 2, none⟩) hbw).trans a2
  have d3 := (hbel0.cell (p := ⟨b, off + k * 12 + 3, none⟩) hbw).trans a3
  have d4 := (hbel0.cell (p := ⟨b, off + k * 12 + 4, none⟩) hbw).trans a4
  have d5 := (hbel0.cell (p := ⟨b, off + k * 12 + 5, none⟩) hbw).trans a5
  have d6 := (hbel0.cell (p := ⟨b, off + k * 12 + 6, none⟩) hbw).trans a6
  have d7 := (hbel0.cell (p := ⟨b, off + k * 12 + 7, none⟩) hbw).trans a7
  have d8 := (hbel0.cell (p := ⟨b, off + k * 12 + 8, none⟩) hbw).trans a8
  have d9 := (hbel0.cell (p := ⟨b, off + k * 12 + 9, none⟩) hbw).trans a9
  have d10 := (hbel0.cell (p := ⟨b, off + k * 12 + 10, none⟩) hbw).trans a10
  have d11 := (hbel0.cell (p := ⟨b, off + k * 12 + 11, none⟩) hbw).trans a11
  have HOc := veil hoc
  have HOs := veil hos
  have hn8 := ident_eight hident
  clear hm hl hz hi0 hty hn hfu hu hts hf hat hsz0 hsz1 hps hcs hce hwe0 hwe hbel0 hbel2 a0 a1 a2 a3 a4 a5 a6 a7 a8 a9 a10 a11 c0 c1 c2 c3 c4 c5 c6 y0 y1 y2 z0 z1 z2 hoc hos hident hps8 htr m0 m1
  generalize oneSg m l k = og at *
  generalize oneCode m l k = oc at *
  generalize rhoR m l m.funcs[k].var = ρ at *
  generalize hfk : m.funcs[k] = f at *
  have hk3 : (k : Int) < (m.funcs.length : Int) := by omega
  have hk4 : (0 : Int) ≤ (k : Int) := by omega
  obtain ⟨i0, hi, hz0, hz1, hz2⟩ := info_parts str_info
  go_enter Tryz.func17, Tryz.ntmps17
  go_wp2_with (rw [HW0.out]; clear HW0)
  rw [HW2.out]
  clear HW2 d0 d1 d2 d3 d4 d5 d6 d7 d8 d9 d10 d11 m2
  obtain ⟨⟨⟨q0, q1, q2⟩, _, _⟩, hb2w, ⟨r0, r1, r2, r3, r4, r5, r6⟩⟩ := HBox.out w2 (Below.refl _ _)
  clear q0 q1 q2 r0 r1 r2 r3 r4 r5 r6 hb2w
  go_loopw [9] (fun i wr => ∃ j : Nat, j ≤ k ∧ i = .int .i64 j ∧ (∀ q (hq : q < m.funcs.length), q < j → sEq m.funcs[q].name f.name = false) ∧ Below w2.heap.size w2 wr) (fun i _ => k - (intOf i).toNat)
  case atStart => exact ⟨0, Nat.zero_le _, rfl, fun _ _ h => absurd h (by omega), Below.refl _ _⟩
  case round =>
    obtain ⟨j, hj, rfl, hall, hbl⟩ := hrel
    obtain ⟨⟨⟨q0, q1, q2⟩, ⟨g0, g1, g2⟩, g3, g4, g5⟩, hbw, ⟨r0, r1, r2, r3, r4, r5, r6⟩⟩ := HBox.out wr hbl
    have HAll := veil hall
    have HBl := veil hbl
    have HBw := veil hbw
    clear hall hbl hbw
    by_cases hlt : j < k
    · have hlt' : (j : Int) < (k : Int) := by omega
      have hj0 : (0 : Int) ≤ (j : Int) := by omega
      have hjf : j < m.funcs.length := by omega
      have hjf' : (j : Int) < (m.funcs.length : Int) := by omega
      obtain ⟨_, b', off', e, hb', hat'⟩ := HF.out.at hjf
      injection e with e
      injection e with e1 e2
      subst e1 e2
      obtain ⟨_, _, _, _, _, _, _, _, _, _, _, _, _, _, _, _, a0, _⟩ := fu_cells hat'
      have d0 := (HBw.out.cell (p := ⟨b, off + j * 12, none⟩) hbw).trans a0
      have HFound : Hid (sEq m.funcs[j].name f.name = true → oc = 4 ∧ og = ⟨noneS, [], noneS⟩) := fun h => by
        have hh : hasFu (m.funcs.take k) f.name = true := has_found (p := fun x : Fu => sEq x.name f.name) (by omega) hlt h
        exact ⟨by rw [HOc.out, if_pos hh], by rw [HOs.out, if_pos hh]⟩
      have HNext : Hid (sEq m.funcs[j].name f.name = false → ∀ q (hq : q < m.funcs.length), q < j + 1 → sEq m.funcs[q].name f.name = false) := fun h q hq hqj => by
        by_cases hqe : q < j
        · exact HAll.out q hq hqe
        · have e : q = j := by omega
          subst e
          exact h
      have HD : Hid (Below w2.heap.size w2 wr.drew) := HBl.out.drew
      have HD0 := veil (HBw.out.drew)
      clear a0 hat'
      generalize m.funcs[j].name = x at *
      cases hx : sEq x f.name with
      | true =>
        obtain ⟨hC, hG⟩ := HFound.out hx
        have HC := veil hC
        have HG := veil hG
        have hx' : (x.toList == f.name.toList) = true := hx
        clear HFound HNext hx hC hG HOc HOs HAll
        go_wp2_with fail
        go_region
        all_goals
          go_wp2_with fail
          refine bodyPost_ret (v := .tuple #[.agg #[.string ⟨#[]⟩, .slice none 0 0, .string ⟨#[]⟩], .int .i64 4]) (by simp [results, Tryz.results17, go_sem, g0, g1, g2]) rfl ?_
          refine ⟨none, 0, 0, by rw [HC.out, HG.out]; rfl, ?_, HSet.out _ _ _ _ HD0.out⟩
          rw [HG.out]
          exact sgNil _ _
      | false =>
        have HN := veil (HNext.out hx)
        have hx' : (x.toList == f.name.toList) = false := hx
        clear HFound HNext hx HAll
        go_wp2_with fail
        go_region
        all_goals
          go_wp2_with fail
          exact ⟨⟨j + 1, by omega, by go_num, HN.out, HD.out⟩, by simp [intOf]; omega⟩
    · have hnl : ¬ (j : Int) < (k : Int) := by omega
      have hjk : j = k := by omega
      subst hjk
      have hh : hasFu (m.funcs.take j) f.name = false := has_none (p := fun x : Fu => sEq x.name f.name) HAll.out
      have hoc : oc = sigCode ρ f := by rw [HOc.out, if_neg (by rw [hh]; decide)]
      have hos : og = sigOf ρ f := by rw [HOs.out, if_neg (by rw [hh]; decide)]
      have HCode : Hid (oc = if parErr ρ f.params ≠ 0 then parErr ρ f.params else (ρ f.result).2) := hoc
      have HGood : Hid (oc = 0 → og = ⟨f.name, kindsOf ρ f.params, (ρ f.result).1⟩) := fun h => by rw [hos]; exact if_pos (by rw [← hoc]; exact h)
      have HBad : Hid (oc ≠ 0 → og = ⟨noneS, [], noneS⟩) := fun h => by rw [hos]; exact if_neg (by rw [← hoc]; exact h)
      clear hh hoc hos HOc HOs HAll HF hfk
      obtain ⟨w3, hw3⟩ : ∃ w3, w3 = wr := ⟨_, rfl⟩
      subst hw3
      have hw23 := HBl.out.size
      have HKl : Hid ((kindsOf ρ f.params).length = f.params.length) := List.length_map ..
      have HMade0 : Hid (SgMade w3.heap.size f.name ((kindsOf ρ f.params).take 0) none 0 w3 (w3.alloc (.cells #[.string f.name, .slice none 0 0, .string ⟨#[]⟩] 44))) :=
        ⟨(Below.refl _ _).alloc (Nat.le_refl _) _, heap_alloc_new _ _, World.ownsRow_nil _ _ _ _, Nat.le_refl _⟩
      have hn8' : (f.params.length : Int) ≤ 8 := by omega
      go_wp2_with fail
      go_loopw [11] (fun i wz => ∃ (j : Nat) (a : Option Addr) (cap : Nat), j ≤ f.params.length ∧ i = .int .i64 j ∧ (∀ q, q < j → (parSol ρ f.params q).2 = 0) ∧ SgMade w3.heap.size f.name ((kindsOf ρ f.params).take j) a cap w3 wz) (fun i _ => f.params.length - (intOf i).toNat)
      case atStart => exact ⟨0, none, 0, Nat.zero_le _, rfl, fun _ h => absurd h (by omega), HMade0.out⟩
      case round =>
        clear HMade0 q0 q1 q2 g0 g1 g2 g3 g4 g5 r0 r1 r2 r3 r4 r5 r6
        obtain ⟨i, sa, scap, hin0, rfl, hall, hmade⟩ := hrel
        obtain ⟨⟨⟨q0, q1, q2⟩, ⟨g0, g1, g2⟩, g3, g4, g5⟩, hbw, ⟨r0, r1, r2, r3, r4, r5, r6⟩⟩ := HBox.out wr (HBl.out.trans (hmade.below.mono hw23))
        have HAll := veil hall
        have HMade := veil hmade
        have HBw4 := veil hbw
        have HBl4 := veil (HBl.out.trans (hmade.below.mono hw23))
        clear hall hmade hbw
        by_cases hilt : i < f.params.length
        · have hilt' : (i : Int) < (f.params.length : Int) := by omega
          have hi0' : (0 : Int) ≤ (i : Int) := by omega
          obtain ⟨_, pb, poff, rfl, hpb, hpat⟩ := HPs.out.at hilt
          obtain ⟨pk, pf, pn, pv1, pv2, pv3, x0, x1, x2, x3, x4, hpcs⟩ := fd_cells hpat
          have hpbw := hS pb hpb
          have HCells : Hid (∀ W, Below w.heap.size w W → (W.cell? ⟨pb, poff + i * 5, none⟩ = some (.string f.params[i].name) ∧ W.cell? ⟨pb, poff + i * 5 + 1, none⟩ = some (.int .i64 pk) ∧ W.cell? ⟨pb, poff + i * 5 + 2, none⟩ = some (.string pf) ∧ W.cell? ⟨pb, poff + i * 5 + 3, none⟩ = some (.string pn) ∧ W.cell? ⟨pb, poff + i * 5 + 4, none⟩ = some (.slice pv1 pv2 pv3)) ∧ TyIs S W f.params[i].is (.agg #[.int .i64 pk, .string pf, .string pn, .slice pv1 pv2 pv3])) := fun W hW =>
            ⟨⟨(hW.cell (p := ⟨pb, _, none⟩) hpbw).trans x0, (hW.cell (p := ⟨pb, _, none⟩) hpbw).trans x1, (hW.cell (p := ⟨pb, _, none⟩) hpbw).trans x2, (hW.cell (p := ⟨pb, _, none⟩) hpbw).trans x3, (hW.cell (p := ⟨pb, _, none⟩) hpbw).trans x4⟩, _, _, _, _, rfl, hpcs.keep (Keeps.below hW hS)⟩
          have HSol2 : Hid (∀ W, Below w.heap.size w W → Calls Tryz.prog 38 #[.agg #[.slice u1 u2 u3, .slice t1 t2 t3, .slice (some ⟨b, off, none⟩) m.funcs.length f3], .slice la ln lc, .string f.var, .agg #[.int .i64 pk, .string pf, .string pn, .slice pv1 pv2 pv3]] W (Tells W (ρ f.params[i].is))) := fun W hW =>
            HSol.out W _ _ hW (HTp.out _ (List.getElem_mem hilt)) (HCells.out W hW).2
          have HPs2 := veil (parSol_at (ρ := ρ) hilt)
          have HErr : Hid ((parSol ρ f.params i).2 ≠ 0 → parErr ρ f.params = (parSol ρ f.params i).2) := fun h => upErr_at (c := fun i => (parSol ρ f.params i).2) HAll.out h hilt
          have hki : i < (kindsOf ρ f.params).length := by rw [HKl.out]; exact hilt
          have HTake : Hid ((kindsOf ρ f.params).take (i + 1) = (kindsOf ρ f.params).take i ++ [(ρ f.params[i].is).1]) := by
            show _ = _
            rw [List.take_add_one, List.getElem?_eq_getElem hki, kindsOf_at hilt hki]; rfl
          have hkt : ((kindsOf ρ f.params).take i).length = i := by rw [List.length_take]; omega
          have HKt := veil hkt
          clear x0 x1 x2 x3 x4 hpat hpcs hkt
          go_wp2_with fail
          go_loopw [12] (fun n wz => ∃ q : Nat, q ≤ i ∧ n = .int .i64 q ∧ (∀ r (hr : r < f.params.length), r < q → sEq f.params[r].name f.params[i].name = false) ∧ Below wr.heap.size wr wz) (fun n _ => i - (intOf n).toNat)
          case atStart => exact ⟨0, Nat.zero_le _, rfl, fun _ _ h => absurd h (by omega), Below.refl _ _⟩
          case round =>
            clear q0 q1 q2 g0 g1 g2 g3 g4 g5 r0 r1 r2 r3 r4 r5 r6
            obtain ⟨q, hq, rfl, hallq, hbq⟩ := hrel
            have hmade := HMade.out.keep hbq
            have hbl5 := HBl.out.trans (hmade.below.mono hw23)
            obtain ⟨⟨⟨q0, q1, q2⟩, ⟨g0, g1, g2⟩, g3, g4, g5⟩, hbw, ⟨r0, r1, r2, r3, r4, r5, r6⟩⟩ := HBox.out wr hbl5
            obtain ⟨⟨x0, x1, x2, x3, x4⟩, _⟩ := HCells.out wr hbw
            have HAllq := veil hallq
            have HMade5 := veil hmade
            have HBw5 := veil hbw
            have HBl5 := veil hbl5
            have HBq := veil hbq
            clear hallq hmade hbw hbl5 hbq
            by_cases hqlt : q < i
            · have hqlt' : (q : Int) < (i : Int) := by omega
              have hq0 : (0 : Int) ≤ (q : Int) := by omega
              have hqf : q < f.params.length := by omega
              have hqf' : (q : Int) < (f.params.length : Int) := by omega
              obtain ⟨_, pb', poff', e, _, hpat'⟩ := HPs.out.at hqf
              injection e with e
              injection e with e1 e2
              subst e1 e2
              obtain ⟨_, _, _, _, _, _, z0, _⟩ := fd_cells hpat'
              have d0 := (HBw5.out.cell (p := ⟨pb, poff + q * 5, none⟩) hpbw).trans z0
              have HFound : Hid (sEq f.params[q].name f.params[i].name = true → oc = 4 ∧ og = ⟨noneS, [], noneS⟩) := fun h => by
                have hh : hasFd (f.params.take i) f.params[i].name = true := has_found (p := fun x : Fd => sEq x.name f.params[i].name) (by omega) hqlt h
                have hp2 : (parSol ρ f.params i).2 = 4 := by rw [HPs2.out, if_pos hh]
                have he : parErr ρ f.params = 4 := by rw [HErr.out (by rw [hp2]; decide), hp2]
                have ho : oc = 4 := by rw [HCode.out, he, if_pos (by decide)]
                exact ⟨ho, HBad.out (by rw [ho]; decide)⟩
              have HNext : Hid (sEq f.params[q].name f.params[i].name = false → ∀ r (hr : r < f.params.length), r < q + 1 → sEq f.params[r].name f.params[i].name = false) := fun h r hr hrq => by
                by_cases hqe : r < q
                · exact HAllq.out r hr hqe
                · have e : r = q := by omega
                  subst e
                  exact h
              have HD := veil (HBq.out.drew)
              have HD0 := veil (HBw5.out.drew)
              clear z0 hpat'
              generalize f.params[q].name = xq at *
              generalize f.params[i].name = xi at *
              cases hx : sEq xq xi with
              | true =>
                obtain ⟨hC, hG⟩ := HFound.out hx
                have HC := veil hC
                have HG := veil hG
                have hx' : (xq.toList == xi.toList) = true := hx
                clear HFound HNext hx hC hG HAllq
                go_wp2_with fail
                go_region
                all_goals
                  go_wp2_with fail
                  refine bodyPost_ret (v := .tuple #[.agg #[.string ⟨#[]⟩, .slice none 0 0, .string ⟨#[]⟩], .int .i64 4]) (by simp [results, Tryz.results17, go_sem, g0, g1, g2]) rfl ?_
                  refine ⟨none, 0, 0, by rw [HC.out, HG.out]; rfl, ?_, HSet.out _ _ _ _ HD0.out⟩
                  rw [HG.out]
                  exact sgNil _ _
              | false =>
                have HN := veil (HNext.out hx)
                have hx' : (xq.toList == xi.toList) = false := hx
                clear HFound HNext hx HAllq
                go_wp2_with fail
                go_region
                all_goals
                  go_wp2_with fail
                  exact ⟨⟨q + 1, by omega, by go_num, HN.out, HD.out⟩, by simp [intOf]; omega⟩
            · have hqn : ¬ (q : Int) < (i : Int) := by omega
              have hqi : q = i := by omega
              subst hqi
              have hh : hasFd (f.params.take q) f.params[q].name = false := has_none (p := fun x : Fd => sEq x.name f.params[q].name) HAllq.out
              have hpq : parSol ρ f.params q = ρ f.params[q].is := by rw [HPs2.out, if_neg (by rw [hh]; decide)]
              rw [hpq] at HErr
              have HPq := veil hpq
              have HAll' : Hid ((ρ f.params[q].is).2 = 0 → ∀ r, r < q + 1 → (parSol ρ f.params r).2 = 0) := fun h r hr => by
                by_cases hrq : r < q
                · exact HAll.out r hrq
                · have e : r = q := by omega
                  rw [e, HPq.out]; exact h
              have HBd := veil (HBw5.out.drew)
              clear hh hpq HAllq HPs2
              have HRq := veil (HRz.out f.params[q].is)
              generalize f.params[q].name = xi at *
              generalize ρ f.params[q].is = r at *
              obtain ⟨rs, rc⟩ := r
              go_wp2_with fail
              go_region_with (go_at_call 38; refine (HSol2.out _ HBd.out).mono ?_; rintro e w6 ⟨rfl, hb6⟩)
              all_goals
                have hb56 : Below wr.heap.size wr w6 := (Below.refl _ _).drew.trans (hb6.mono (Nat.le_refl _))
                have hmade6 := HMade5.out.keep hb56
                obtain ⟨⟨_, ⟨g0', g1', g2'⟩, g3', g4', g5'⟩, hbw6, _⟩ := HBox.out w6 (HBl.out.trans (hmade6.below.mono hw23))
                have HMade6 := veil hmade6
                have HBw6 := veil hbw6
                clear hb56 hb6 hmade6 hbw6 q0 q1 q2 g0 g1 g2 g3 g4 g5 r0 r1 r2 r3 r4 r5 r6 x0 x1 x2 x3 x4
                by_cases hc : rc = 0
                · subst hc
                  have HAll6 := veil (HAll'.out rfl)
                  obtain ⟨s0, s1, s2, s3, s4⟩ := HMade6.out.cells
                  have hown6 := HMade6.out.own
                  have hsz6 : w3.heap.size + 1 ≤ w6.heap.size := HMade6.out.lt
                  have hks8 : ((kindsOf ρ f.params).take q).length ≤ 8 := by rw [HKt.out]; omega
                  clear HAll' HErr g0' g1' g2' g3' g4' g5'
                  generalize (kindsOf ρ f.params).take q = ks at *
                  go_wp2_with (at_builtin; refine wpList_append_lies _ rfl _ _ 22 rfl (w3.heap.size + 1) 9 i0 (.string ⟨#[]⟩) 1 16 Tryz.underlying22 hi hz0 hz1 hz2 rfl (by decide) _ _ _ rfl (hown6.alloc _) ⟨w6.heap.size, 0, none⟩ 1 1 [.string rs] rfl rfl (one_new _ _) (one_cell _) (by decide) (by unfold maxLen; omega) (by omega) (by simp; omega) (w6.heap.size + 1) (by simp) ?_)
                  intro g7 cap7 w7 hown7 hgrow7 hat7 hlt7
                  have h06 : Below w6.heap.size w6 (w6.alloc (.cells #[.string rs] 9)) := (Below.refl _ _).alloc (Nat.le_refl _) _
                  obtain ⟨s5, s6⟩ := HMade6.out.room h06 hgrow7
                  have HPush := veil (HMade6.out.push h06 hgrow7 hown7)
                  clear hown7 hgrow7 hat7 hlt7 h06 hown6 s0 s1 s2 s3 s4
                  go_wp2_with fail
                  exact ⟨⟨q + 1, _, _, by omega, by go_num, HAll6.out, by rw [HTake.out]; exact HPush.out⟩, by simp [intOf]; omega⟩
                · have hc' : (rc != 0) = true := by simp [hc]
                  have he : parErr ρ f.params = rc := HErr.out hc
                  have ho : oc = rc := by rw [HCode.out, he, if_pos hc]
                  have HC : Hid (oc = rc) := ho
                  have HG := veil (HBad.out (by rw [ho]; exact hc))
                  clear HAll' HErr he ho hc
                  go_wp2_with fail
                  refine bodyPost_ret (v := .tuple #[.agg #[.string ⟨#[]⟩, .slice none 0 0, .string ⟨#[]⟩], .int .i64 rc]) (by simp [results, Tryz.results17, go_sem, g0', g1', g2']) rfl ?_
                  refine ⟨none, 0, 0, by rw [HC.out, HG.out]; rfl, ?_, HSet.out _ _ _ _ HBw6.out⟩
                  rw [HG.out]
                  exact sgNil _ _
        · have hin : ¬ (i : Int) < (f.params.length : Int) := by omega
          have hie : i = f.params.length := by omega
          subst hie
          have he : parErr ρ f.params = 0 := upErr_none HAll.out
          have hcode : oc = (ρ f.result).2 := by rw [HCode.out, if_neg (by rw [he]; simp)]
          have HSol2 : Hid (∀ W, Below w.heap.size w W → Calls Tryz.prog 38 #[.agg #[.slice u1 u2 u3, .slice t1 t2 t3, .slice (some ⟨b, off, none⟩) m.funcs.length f3], .slice la ln lc, .string f.var, .agg #[.int .i64 kd, .string fo, .string na, .slice p1 p2 p3]] W (Tells W (ρ f.result))) := fun W hW =>
            HSol.out W _ _ hW HTr.out (HRs.out W hW)
          have hkt : (kindsOf ρ f.params).take f.params.length = kindsOf ρ f.params := List.take_of_length_le (by rw [HKl.out]; exact Nat.le_refl _)
          have HRz2 := veil (HRz.out f.result)
          have HKz : Hid (∀ t ∈ kindsOf ρ f.params, t.size ≤ maxLen) := fun t ht => by
            obtain ⟨p, _, rfl⟩ := List.mem_map.1 ht
            exact HRz.out _
          rw [hkt] at HMade
          have hkl := HKl.out
          clear hkt he HAll HSol HRs HCode HPs HTp HTr HRz HKl
          generalize kindsOf ρ f.params = ks at *
          generalize ρ f.result = r at *
          obtain ⟨rs, rc⟩ := r
          go_wp2_with fail
          refine (HSol2.out _ HBw4.out).mono ?_
          rintro e w6 ⟨rfl, hb6⟩
          have hmade6 := HMade.out.keep hb6
          obtain ⟨⟨_, ⟨g0', g1', g2'⟩, g3', g4', g5'⟩, hbw6, _⟩ := HBox.out w6 (HBl.out.trans (hmade6.below.mono hw23))
          have HMade6 := veil hmade6
          have HBw6 := veil hbw6
          clear hb6 hmade6 hbw6 q0 q1 q2 g0 g1 g2 g3 g4 g5 r0 r1 r2 r3 r4 r5 r6
          by_cases hc : rc = 0
          · subst hc
            have HC : Hid (oc = 0) := hcode
            have HG := veil (HGood.out hcode)
            obtain ⟨s0, s1, s2, s3, s4⟩ := HMade6.out.cells
            have hlt6 := HMade6.out.lt
            have hw36 : w.heap.size + 3 ≤ w3.heap.size := by omega
            have HRow : Hid (SlAt (fun b => w3.heap.size + 1 ≤ b ∧ b < w6.heap.size) (StrAt w6) 1 ks (.slice sa ks.length scap)) := ownsRow_strsB HMade6.out.own (by unfold maxLen; omega) HKz.out
            have HFin : Hid (∀ W', (∀ b, w3.heap.size + 1 ≤ b → b < w6.heap.size → W'.heap[b]? = w6.heap[b]?) → w6.heap.size ≤ W'.heap.size → SgIs (fun b => w.heap.size ≤ b ∧ b < W'.heap.size) W' ⟨f.name, ks, rs⟩ (.agg #[.string f.name, .slice sa f.params.length scap, .string rs])) := fun W' hk' hsz' =>
              ⟨_, by rw [← hkl], by show f.name.size ≤ _; unfold maxLen; omega, HRz2.out, strSl_keep (S' := fun b => w.heap.size ≤ b ∧ b < W'.heap.size) ⟨fun b hb => hk' b hb.1 hb.2, fun b hb => by omega⟩ HRow.out⟩
            have hne1 : w3.heap.size ≠ w.heap.size + 1 := by omega
            clear hcode HGood HBad
            go_wp2_with fail
            refine bodyPost_ret (v := .tuple #[.agg #[.string f.name, .slice sa f.params.length scap, .string rs], .int .i64 0]) (by simp [results, Tryz.results17, go_sem, g0', g1', g2']) rfl ?_
            refine ⟨sa, f.params.length, scap, by rw [HC.out, HG.out], ?_, HSet.out _ _ _ _ (HBw6.out.setCell (by show w.heap.size ≤ w3.heap.size; omega) _)⟩
            rw [HG.out]
            exact HFin.out _ (fun b hb _ => by
              rw [Below.heap_setCell _ _ _ _ (by show b ≠ w.heap.size + 1; omega), Below.heap_setCell _ _ _ _ (by show b ≠ w.heap.size + 1; omega), Below.heap_setCell _ _ _ _ (by show b ≠ w.heap.size + 1; omega), Below.heap_setCell _ _ _ _ (by show b ≠ w3.heap.size; omega)]) (by simp)
          · have hc' : (rc != 0) = true := by simp [hc]
            have HC : Hid (oc = rc) := hcode
            have HG := veil (HBad.out (by rw [hcode]; exact hc))
            clear hcode hc HGood HBad
            go_wp2_with fail
            refine bodyPost_ret (v := .tuple #[.agg #[.string ⟨#[]⟩, .slice none 0 0, .string ⟨#[]⟩], .int .i64 rc]) (by simp [results, Tryz.results17, go_sem, g0', g1', g2']) rfl ?_
            refine ⟨none, 0, 0, by rw [HC.out, HG.out]; rfl, ?_, HSet.out _ _ _ _ HBw6.out⟩
            rw [HG.out]
            exact sgNil _ _

end Go.Proofs.YtcpnfkeoajeodaaGreatDoor
