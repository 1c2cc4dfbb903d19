/- What the reference's FaceOf answers. -/
import Derived.Test.YtkdailcadcfepafGreatJSign5
import Derived.Test.YtkdailcadcfepafGreatJSign8
import Derived.Test.YtkdailcadcfepafGreatJAlias30
import Derived.BigQuiet
import Derived.Deep.QuietTactic
namespace Go.Proofs.YtkdailcadcfepafGreat
open Go.RowKit
set_option maxRecDepth 100000

/-! ### One laid where it belongs. -/

section
variable {α : Type} (name : α → ByteArray)
def InsG (x : α) (out nxt : List α) (j : Nat) (done : Bool) : Prop := nxt ++ (if done = true then out.drop j else insB name x (out.drop j)) = insB name x out
variable {name}
theorem InsG.start (x : α) (out : List α) : InsG name x out [] 0 false := by unfold InsG; simp
theorem InsG.len {x : α} {out nxt : List α} {j : Nat} {done : Bool} (h : InsG name x out nxt j done) : nxt.length ≤ out.length + 1 := by
  have := congrArg List.length h
  rw [List.length_append, (insB_perm name x out).length_eq, List.length_cons] at this
  omega
theorem InsG.on {x : α} {out nxt : List α} {j : Nat} (h : InsG name x out nxt j true) (hj : j < out.length) : InsG name x out (nxt ++ [out[j]]) (j + 1) true := by
  unfold InsG at *
  rw [if_pos rfl] at *
  rw [List.append_assoc, List.singleton_append, ← List.drop_eq_getElem_cons hj]
  exact h
theorem InsG.keep {x : α} {out nxt : List α} {j : Nat} (h : InsG name x out nxt j false) (hj : j < out.length) (hg : gtB (name out[j]) (name x) = false) : InsG name x out (nxt ++ [out[j]]) (j + 1) false := by
  unfold InsG at *
  rw [if_neg (by decide)] at *
  rw [List.drop_eq_getElem_cons hj, insB, if_neg (by rw [hg]; decide)] at h
  rw [List.append_assoc, List.singleton_append]
  exact h
theorem InsG.put {x : α} {out nxt : List α} {j : Nat} (h : InsG name x out nxt j false) (hj : j < out.length) (hg : gtB (name out[j]) (name x) = true) : InsG name x out (nxt ++ [x] ++ [out[j]]) (j + 1) true := by
  unfold InsG at *
  rw [if_neg (by decide)] at h
  rw [if_pos rfl]
  rw [List.drop_eq_getElem_cons hj, insB, if_pos hg] at h
  rw [List.append_assoc, List.append_assoc, List.singleton_append, List.singleton_append]
  exact h
theorem InsG.whole {x : α} {out nxt : List α} {j : Nat} (h : InsG name x out nxt j true) (hj : out.length ≤ j) : nxt = insB name x out := by
  unfold InsG at h
  rw [if_pos rfl, List.drop_eq_nil_of_le hj, List.append_nil] at h
  exact h
theorem InsG.last {x : α} {out nxt : List α} {j : Nat} (h : InsG name x out nxt j false) (hj : out.length ≤ j) : nxt ++ [x] = insB name x out := by
  unfold InsG at h
  rw [if_neg (by decide), List.drop_eq_nil_of_le hj, insB] at h
  exact h
end

theorem insB_map (x : Sy) : ∀ l : List Sy, (insB syName x l).map Prod.fst = insB Sg.name x.1 (l.map Prod.fst)
  | [] => rfl
  | y :: r => by
    rw [insB, List.map_cons, insB]
    by_cases h : gtB (syName y) (syName x) = true
    · rw [if_pos h, if_pos (show gtB y.1.name x.1.name = true from h)]; rfl
    · rw [if_neg h, if_neg (show ¬ gtB y.1.name x.1.name = true from h), List.map_cons, insB_map x r]

theorem fnS_set {B O i : Nat} {v u c : Value} {W : World} {g : Sg} {x : Value} (h : SgIs (FnS B v u W) W g x) (hO : O < B) : SgIs (FnS B v u (W.setCell ⟨O, i, none⟩ c)) (W.setCell ⟨O, i, none⟩ c) g x :=
  h.keep ⟨fun b hb => Below.heap_setCell _ _ _ _ (by show b ≠ O; have := hb.1.1; omega), fun b hb => ⟨⟨hb.1.1, by rw [size_setCell']; exact hb.1.2⟩, hb.2⟩⟩

theorem grown_below {w1 W W' : World} {row : Option Nat} (h : w1.grownBy W row) (hb : Below W.heap.size W W') : w1.grownBy W' row :=
  ⟨hb.os.trans h.os, hb.tape.trans h.tape, hb.output.trans h.output, Nat.le_trans h.size hb.size, fun k hk hr => (hb.block k (Nat.lt_of_lt_of_le hk h.size)).trans (h.block k hk hr)⟩
theorem grown_row {w1 W W' : World} {row row' : Option Nat} (h : w1.grownBy W row) (hg : W.grownBy W' row') (hr : ∀ k, row' = some k → w1.heap.size ≤ k) : w1.grownBy W' row :=
  ⟨hg.os.trans h.os, hg.tape.trans h.tape, hg.output.trans h.output, Nat.le_trans h.size hg.size, fun k hk hk' => (hg.block k (Nat.lt_of_lt_of_le hk h.size) (fun e => by have := hr k e.symm; omega)).trans (h.block k hk hk')⟩
theorem grown_set {w1 W : World} {O i : Nat} {c : Value} (h : w1.grownBy W (some O)) : w1.grownBy (W.setCell ⟨O, i, none⟩ c) (some O) :=
  ⟨h.os, h.tape, h.output, by rw [size_setCell']; exact h.size, fun k hk hk' => (Below.heap_setCell _ _ _ _ (by show k ≠ O; exact fun e => hk' (by rw [e]))).trans (h.block k hk hk')⟩

theorem owns_as {W : World} {B n : Nat} {v b : Value} {x : Sy} {nx : List Sy} {a r : ByteArray} (h1 : x.1.name = a) (h2 : x.1.result = r) (h3 : syVal x = b) (hn : n = nx.length + 1) (h : W.ownsRow B 52 3 v n (syCells nx ++ [.string a, b, .string r])) : W.ownsRow B 52 3 v (nx ++ [x]).length (syCells (nx ++ [x])) := by
  rw [syCells_snoc, List.length_append, List.length_singleton, ← hn, h1, h2, h3]
  exact h

/-- the state of FaceOf's loop. -/
structure FoAt (O : Nat) (tv : Value) (ys : List Sy) (ra : Option Addr) (rc : Nat) (u : Value) (bads : List Dg) (w1 W : World) : Prop where
  grown : w1.grownBy W (some O)
  box : W.heap[O]? = some (.cells #[tv, .slice ra ys.length rc] 32 (0, 0))
  own : W.ownsRow w1.heap.size 52 3 (.slice ra ys.length rc) ys.length (syCells ys)
  all : ∀ y ∈ ys, SgIs (FnS w1.heap.size (.slice none 0 0) u W) W y.1 (syAgg y)
  ownD : W.ownsRow w1.heap.size 57 2 u bads.length (dgCells bads)
  par : Parted (.slice ra ys.length rc) u
theorem FoAt.keep {O : Nat} {tv : Value} {ys : List Sy} {ra : Option Addr} {rc : Nat} {u : Value} {bads : List Dg} {w1 W W' : World} (h : FoAt O tv ys ra rc u bads w1 W) (hO : O < w1.heap.size) (hb : Below W.heap.size W W') : FoAt O tv ys ra rc u bads w1 W' :=
  ⟨grown_below h.grown hb, (hb.block O (Nat.lt_of_lt_of_le hO h.grown.size)).trans h.box, ownsRow_later h.own hb, fun y hy => fnS_keep (h.all y hy) hb, ownsRow_later h.ownD hb, h.par⟩
theorem FoAt.cells {O : Nat} {tv : Value} {ys : List Sy} {ra : Option Addr} {rc : Nat} {u : Value} {bads : List Dg} {w1 W : World} (h : FoAt O tv ys ra rc u bads w1 W) : W.cell? ⟨O, 0, none⟩ = some tv ∧ W.cell? ⟨O, 1, none⟩ = some (.slice ra ys.length rc) ∧ W.frozen? ⟨O, 1, none⟩ = false :=
  ⟨by rw [cell_of_row _ _ _ _ _ _ h.box]; rfl, by rw [cell_of_row _ _ _ _ _ _ h.box]; rfl, frozen_of_row _ _ _ _ _ h.box⟩
theorem FoAt.bad {O : Nat} {tv : Value} {ys : List Sy} {ra : Option Addr} {rc : Nat} {u : Value} {bads : List Dg} {w1 W W0 W' : World} {d : Dg} {g c : Nat} (h : FoAt O tv ys ra rc u bads w1 W) (hO : O < w1.heap.size) (hb : Below W.heap.size W W0) (hg : W0.grownBy W' u.ownBlock) (hat : u.ownBlock = some g ∨ g = W0.heap.size) (hown : W'.ownsRow w1.heap.size 57 2 (.slice (some ⟨g, 0, none⟩) (bads.length + 1) c) (bads.length + 1) (dgCells bads ++ [.string d.wh, .int .i64 d.code])) :
    FoAt O tv ys ra rc (.slice (some ⟨g, 0, none⟩) (bads.length + 1) c) (bads ++ [d]) w1 W' := by
  have h0 := h.keep hO hb
  have hrow := ownsRow_at h0.ownD
  refine ⟨grown_row h0.grown hg hrow, (hg.block O (Nat.lt_of_lt_of_le hO h0.grown.size) (fun e => by have := hrow O e.symm; omega)).trans h0.box, owns_far h0.own hg (fun j hj hv => h0.par j hj hv), fun y hy => fnS_wrong (h0.all y hy) hg hat (Nat.le_refl _), ?_, h0.par.grow h0.own hat (Nat.le_refl _)⟩
  rw [List.length_append, dgCells_snoc]
  exact hown
/-- the functions laid anew. -/
theorem FoAt.put {O : Nat} {tv : Value} {ys nxt : List Sy} {ra na : Option Addr} {rc nc : Nat} {u : Value} {bads : List Dg} {w1 W5 W : World} (h : FoAt O tv ys ra rc u bads w1 W5) (hO : O < w1.heap.size) (hb : Below W5.heap.size W5 W) (hown : W.ownsRow W5.heap.size 52 3 (.slice na nxt.length nc) nxt.length (syCells nxt)) (hall : ∀ y ∈ nxt, SgIs (FnS w1.heap.size (.slice none 0 0) u W5) W5 y.1 (syAgg y)) :
    FoAt O tv nxt na nc u bads w1 (W.setCell ⟨O, 1, none⟩ (.slice na nxt.length nc)) := by
  have h0 := h.keep hO hb
  refine ⟨grown_set h0.grown, ?_, ownsRow_setCell_below (owns_base hown h.grown.size) (a := ⟨O, 1, none⟩) hO _, fun y hy => fnS_set (fnS_keep (hall y hy) hb) hO, ownsRow_setCell_below h0.ownD (a := ⟨O, 1, none⟩) hO _, parted_at hown h.ownD (Nat.le_refl _)⟩
  have := block_set h0.box 1 (.slice na nxt.length nc)
  simpa using this

set_option maxRecDepth 100000 in
set_option maxHeartbeats 8000000 in
theorem faceOf_any (S : Nat → Prop) (m : Mo) (l : List Im) (vm vl : Value) (w : World) (hS : ∀ b, S b → b < w.heap.size) (hm : MoIs S w m vm) (hl : SlAt S (ImAt S w) 4 l vl) (hz : ∀ i ∈ l, fcSmall i.face) (hi0 : imsFault l = 0) (hty : ∀ f ∈ m.types, identOk f.name = true ∧ tyFault f.is 1 = 0) (h24 : m.types.length ≤ 24) (hf24 : m.funcs.length ≤ 24) (hfu : ∀ f ∈ m.funcs, FuMay f) :
    Calls Tryz.prog 6 #[vm, vl] w fun e w' => ∃ u v d, e = .returned (.tuple #[.agg #[u, v], d]) ∧ FcIs (fun b => w.heap.size ≤ b ∧ b < w'.heap.size) w' ⟨tyIns m l m.types.length, fnIns m l m.funcs.length⟩ (.agg #[u, v]) ∧ SlAt (fun b => w.heap.size ≤ b ∧ b < w'.heap.size) (DgAt w') 2 (fnBads m l m.funcs.length) d ∧ Below w.heap.size w w' := by
  have hn8 : ∀ f ∈ m.funcs, f.name.size ≤ 8 := fun f hf => ident_eight (hfu f hf).1
  have HTs : Hid (∀ W, Below w.heap.size w W → Calls Tryz.prog 17 #[vm, vl] W fun e w' => ∃ u v, e = .returned (.tuple #[u, v]) ∧ SlAt (fun b => W.heap.size ≤ b ∧ b < w'.heap.size) (KnAt w') 2 (tyIns m l m.types.length) u ∧ SlAt (fun b => W.heap.size ≤ b ∧ b < w'.heap.size) (DgAt w') 2 (tyBads m l m.types.length) v ∧ Below W.heap.size W w') := fun W hW =>
    typesOf_any S m l vm vl W (fun b hb => Nat.lt_of_lt_of_le (hS b hb) hW.size) (hm.keep (Keeps.below hW hS)) (imSl_keep (Keeps.below hW hS) hl) hz hi0 hty h24
  have HC : Hid (∀ W k, k < m.funcs.length → Below w.heap.size w W → Calls Tryz.prog 18 #[vm, vl, .int .i64 (k : Nat)] W (Signs W (oneSg m l k) (oneCode m l k))) := fun W k hk hW =>
    sigOf_any S m l k vm vl W (fun b hb => Nat.lt_of_lt_of_le (hS b hb) hW.size) (hm.keep (Keeps.below hW hS)) (imSl_keep (Keeps.below hW hS) hl) hz hi0 hty h24 hfu hk
  obtain ⟨vu, vty, vf, rfl, hu, hts, hf⟩ := hm
  have HF := veil hf
  obtain ⟨u1, u2, u3, rfl⟩ := hu.slice
  obtain ⟨t1, t2, t3, rfl⟩ := hts.slice
  obtain ⟨f1, f3, rfl⟩ := hf.is
  obtain ⟨la, ln, lc, rfl⟩ := hl.slice
  obtain ⟨w0, hwe, hs0, hA, hbO, q0, q1, q2, y0, y1, z0, z1⟩ : ∃ w0, ((w.alloc (.cells #[.slice u1 u2 u3, .slice t1 t2 t3, .slice f1 m.funcs.length f3] 26)).alloc (.cells #[.slice none 0 0, .slice none 0 0] 32)).alloc (.cells #[.slice none 0 0, .slice none 0 0] 32) = w0 ∧ w0.heap.size = w.heap.size + 3 ∧ Below w.heap.size w w0 ∧ w0.heap[w.heap.size + 2]? = some (.cells #[.slice none 0 0, .slice none 0 0] 32 (0, 0)) ∧
      w0.cell? ⟨w.heap.size, 0, none⟩ = some (.slice u1 u2 u3) ∧ w0.cell? ⟨w.heap.size, 1, none⟩ = some (.slice t1 t2 t3) ∧ w0.cell? ⟨w.heap.size, 2, none⟩ = some (.slice f1 m.funcs.length f3) ∧
      w0.cell? ⟨w.heap.size + 1, 0, none⟩ = some (.slice none 0 0) ∧ w0.cell? ⟨w.heap.size + 1, 1, none⟩ = some (.slice none 0 0) ∧ w0.frozen? ⟨w.heap.size + 1, 0, none⟩ = false ∧ w0.frozen? ⟨w.heap.size + 1, 1, none⟩ = false := by
    refine ⟨_, rfl, by simp, (((Below.refl _ _).alloc (Nat.le_refl _) _).alloc (by simp) _).alloc (by simp; omega) _, ?_, by simp [go_sem], by simp [go_sem], by simp [go_sem], by simp [go_sem], by simp [go_sem], by simp [go_sem], by simp [go_sem]⟩
    have := heap_alloc_new ((w.alloc (.cells #[.slice u1 u2 u3, .slice t1 t2 t3, .slice f1 m.funcs.length f3] 26)).alloc (.cells #[.slice none 0 0, .slice none 0 0] 32)) (.cells #[.slice none 0 0, .slice none 0 0] 32)
    simpa using this
  have HA := veil hA
  have HWe := veil hwe
  have HBads := veil (fnBads_small (m := m) (l := l) hn8)
  have HFn : Hid (∀ k (hk : k < m.funcs.length), fnName m k = m.funcs[k].name) := fun k hk => fnName_at hk
  clear hu hts hf hl hwe hA hz hty hfu hn8 hi0
  obtain ⟨i0, hi, hz0, hz1, hz2⟩ := info_parts infoDg
  obtain ⟨i1, hj, hz3, hz4, hz5⟩ := info_parts sg_info
  go_enter Tryz.func6, Tryz.ntmps6
  go_wp2_with fail
  rw [HWe.out]
  clear HWe
  refine (HTs.out _ HA.out).mono ?_
  rintro e w1 ⟨tu, tv, rfl, hkn, _, hb1⟩
  obtain ⟨ta, tn, tc, rfl⟩ := hkn.slice
  have hsz1 := hb1.size
  have hO : w.heap.size + 2 < w1.heap.size := by omega
  have hbO1 := (hb1.block (w.heap.size + 2) (by omega)).trans hbO
  have b0 : w1.cell? ⟨w.heap.size + 2, 0, none⟩ = some (.slice none 0 0) := by rw [cell_of_row _ _ _ _ _ _ hbO1]; rfl
  have bf0 : w1.frozen? ⟨w.heap.size + 2, 0, none⟩ = false := frozen_of_row _ _ _ _ _ hbO1
  have hBw1 := HA.out.trans (hb1.mono HA.out.size)
  have HBox : Hid (∀ W, w1.grownBy W (some (w.heap.size + 2)) → (W.cell? ⟨w.heap.size, 0, none⟩ = some (.slice u1 u2 u3) ∧ W.cell? ⟨w.heap.size, 1, none⟩ = some (.slice t1 t2 t3) ∧ W.cell? ⟨w.heap.size, 2, none⟩ = some (.slice f1 m.funcs.length f3)) ∧ Below w.heap.size w W ∧ (W.cell? ⟨w.heap.size + 1, 0, none⟩ = some (.slice none 0 0) ∧ W.cell? ⟨w.heap.size + 1, 1, none⟩ = some (.slice none 0 0) ∧ W.frozen? ⟨w.heap.size + 1, 0, none⟩ = false ∧ W.frozen? ⟨w.heap.size + 1, 1, none⟩ = false)) := fun W h => by
    have l0 : w.heap.size < w0.heap.size := by omega
    have l1 : w.heap.size + 1 < w0.heap.size := by omega
    have k0 : W.heap[w.heap.size]? = w0.heap[w.heap.size]? := (h.block _ (by omega) (by simp)).trans (hb1.block _ l0)
    have k1 : W.heap[w.heap.size + 1]? = w0.heap[w.heap.size + 1]? := (h.block _ (by omega) (by simp)).trans (hb1.block _ l1)
    exact ⟨⟨(World.cell?_of_block (a := ⟨w.heap.size, 0, none⟩) k0).trans q0, (World.cell?_of_block (a := ⟨w.heap.size, 1, none⟩) k0).trans q1, (World.cell?_of_block (a := ⟨w.heap.size, 2, none⟩) k0).trans q2⟩, Below.grown hBw1 h (by omega) (fun j hj => by injection hj with hj; omega), (World.cell?_of_block (a := ⟨w.heap.size + 1, 0, none⟩) k1).trans y0, (World.cell?_of_block (a := ⟨w.heap.size + 1, 1, none⟩) k1).trans y1, (World.frozen?_of_block (a := ⟨w.heap.size + 1, 0, none⟩) k1).trans z0, (World.frozen?_of_block (a := ⟨w.heap.size + 1, 1, none⟩) k1).trans z1⟩
  have HKn := veil hkn
  have HFo0 : Hid (FoAt (w.heap.size + 2) (.slice ta tn tc) [] none 0 (.slice none 0 0) [] w1 (w1.setCell ⟨w.heap.size + 2, 0, none⟩ (.slice ta tn tc))) := by
    refine ⟨grown_set ⟨rfl, rfl, rfl, Nat.le_refl _, fun _ _ _ => rfl⟩, ?_, World.ownsRow_nil _ _ _ _, (fun y hy => by cases hy), World.ownsRow_nil _ _ _ _, (fun j hj => by cases hj)⟩
    have := block_set hbO1 0 (.slice ta tn tc)
    simpa using this
  clear hkn hb1 HTs q0 q1 q2 y0 y1 z0 z1 hbO hbO1 hBw1
  go_wp2_with fail
  go_loopw [7, 8] (fun u i wr => ∃ (k : Nat) (ys : List Sy) (ra : Option Addr) (rc : Nat), k ≤ m.funcs.length ∧ i = .int .i64 k ∧ ys.map Prod.fst = fnIns m l k ∧ FoAt (w.heap.size + 2) (.slice ta tn tc) ys ra rc u (fnBads m l k) w1 wr) (fun _ i _ => m.funcs.length - (intOf i).toNat)
  case atStart => exact ⟨0, [], none, 0, Nat.zero_le _, rfl, rfl, HFo0.out⟩
  case round =>
    clear HFo0 b0 bf0
    obtain ⟨k, ys, ra, rc, hk, rfl, hys, hfo⟩ := hrel
    obtain ⟨⟨c0, c1, c2⟩, hbw, g0, g1, g2, g3⟩ := HBox.out wr hfo.grown
    have hyl : ys.length ≤ 24 := by
      have := fnIns_le m l k
      rw [← hys, List.length_map] at this
      omega
    have HYs := veil hys
    have HFo := veil hfo
    have HBw := veil hbw
    clear hys hfo hbw
    by_cases hlt : k < m.funcs.length
    · have hlt' : (k : Int) < (m.funcs.length : Int) := by omega
      have hk0 : (0 : Int) ≤ (k : Int) := by omega
      obtain ⟨_, b, off, rfl, hb, hat⟩ := HF.out.at hlt
      obtain ⟨_, _, _, _, _, _, _, _, _, _, _, _, _, _, _, _, a0, _⟩ := fu_cells hat
      have hbk := hS b hb
      have HNm : Hid (∀ W, Below w.heap.size w W → W.cell? ⟨b, off + k * 12, none⟩ = some (.string m.funcs[k].name)) := fun W hW => (hW.cell (p := ⟨b, off + k * 12, none⟩) hbk).trans a0
      have HC2 := veil (fun W => HC.out W k hlt)
      have hnm := HFn.out k hlt
      have HLeD := veil (fnBads_le m l k)
      have HOk : Hid (oneCode m l k = 0 → fnIns m l (k + 1) = insB Sg.name (oneSg m l k) (fnIns m l k) ∧ fnBads m l (k + 1) = fnBads m l k) := fun h => ⟨(fnOks_ok h).2.2, (fnOks_ok h).2.1⟩
      have HBad : Hid (oneCode m l k ≠ 0 → fnIns m l (k + 1) = fnIns m l k ∧ fnBads m l (k + 1) = fnBads m l k ++ [⟨m.funcs[k].name, oneCode m l k⟩]) := fun h => ⟨(fnOks_bad h).2.2, by rw [← hnm]; exact (fnOks_bad h).2.1⟩
      clear a0 hat hnm HF HC HFn HBads
      generalize m.funcs[k].name = nm at *
      go_wp2_with fail
      refine (HC2.out _ HBw.out).mono ?_
      rintro e w2 ⟨xa, xn, xc, rfl, hsg, hb2⟩
      generalize oneSg m l k = og at *
      generalize oneCode m l k = oc at *
      generalize hsn : og.name = sn at *
      generalize hsr : og.result = sr at *
      obtain ⟨W5, HW5, hb5, hs5, s0, s1, s2⟩ : ∃ W5, Hid (w2.alloc (.cells #[.string sn, .slice xa xn xc, .string sr] 52) = W5) ∧ Below w2.heap.size w2 W5 ∧ W5.heap.size = w2.heap.size + 1 ∧ W5.cell? ⟨w2.heap.size, 0, none⟩ = some (.string sn) ∧ W5.cell? ⟨w2.heap.size, 1, none⟩ = some (.slice xa xn xc) ∧ W5.cell? ⟨w2.heap.size, 2, none⟩ = some (.string sr) :=
        ⟨_, rfl, (Below.refl _ _).alloc (Nat.le_refl _) _, by simp, by simp [go_sem], by simp [go_sem], by simp [go_sem]⟩
      have hb25 : Below wr.heap.size wr W5 := hb2.trans (hb5.mono hb2.size)
      have HFo5 := veil (HFo.out.keep hO hb25)
      obtain ⟨⟨c3, c4, c5⟩, hbw5, _⟩ := HBox.out W5 HFo5.out.grown
      have HBw5 := veil hbw5
      have hl5 := HFo5.out.grown.size
      have hl52 : w2.heap.size < W5.heap.size := by omega
      have HSn := veil hsn
      have HSr := veil hsr
      have hgs := HFo.out.grown.size
      have HEx : Hid (SgIs (FnS w1.heap.size (.slice none 0 0) u7 W5) W5 og (.agg #[.string sn, .slice xa xn xc, .string sr])) := hsg.keep ⟨fun b hb => hb5.block b hb.2, fun b hb => ⟨⟨Nat.le_trans hgs hb.1, Nat.lt_of_lt_of_le hb.2 hb5.size⟩, (by simp [Value.ownBlock]), fun e => by have := (ownsRow_in HFo.out.ownD b e).2; omega⟩⟩
      clear hs5 hsn hsr hsg hb2 hb5 hb25 hbw5 c0 c1 c2 g0 g1 g2 g3 hgs HC2
      by_cases hc : oc = 0
      · subst hc
        have HZ := veil (HOk.out rfl)
        obtain ⟨o0, o1, o2⟩ := HFo5.out.cells
        have HSl := veil (ownsRow_sys HFo5.out.own (by unfold maxLen; omega))
        clear HOk HBad HNm c3 c4 c5
        obtain ⟨ex, hex⟩ : ∃ ex : Sy, ex = (og, xa, xn, xc) := ⟨_, rfl⟩
        have HEx1 : Hid (ex.1 = og) := by rw [hex]; rfl
        have hxn : syName ex = sn := by rw [hex]; exact HSn.out
        have hEx2 : SgIs (FnS w1.heap.size (.slice none 0 0) u7 W5) W5 ex.1 (syAgg ex) := by
          rw [hex]
          show SgIs _ _ og (.agg #[.string og.name, .slice xa xn xc, .string og.result])
          rw [HSn.out, HSr.out]; exact HEx.out
        replace HEx := veil hEx2
        have HXn : Hid (ex.1.name = sn) := hxn
        have HXr : Hid (ex.1.result = sr) := by rw [hex]; exact HSr.out
        have HXv : Hid (syVal ex = .slice xa xn xc) := by rw [hex]; rfl
        clear hex hEx2 hxn
        go_wp2_with (rw [HW5.out]; clear HW5)
        go_loopw [11, 12, 13] (fun v dv i wz => ∃ (j : Nat) (done : Bool) (nxt : List Sy), j ≤ ys.length ∧ i = .int .i64 j ∧ dv = .bool done ∧ wz.ownsRow W5.heap.size 52 3 v nxt.length (syCells nxt) ∧ InsG syName ex ys nxt j done ∧ Below W5.heap.size W5 wz) (fun _ _ i _ => ys.length - (intOf i).toNat)
        case atStart => exact ⟨0, false, [], Nat.zero_le _, rfl, rfl, World.ownsRow_nil _ _ _ _, InsG.start _ _, Below.refl _ _⟩
        case round =>
          obtain ⟨j, done, nxt, hjl, rfl, rfl, hownN, hins, hbz⟩ := hrel
          have HOwnN := veil hownN
          have HIn := veil hins
          have HBz := veil hbz
          have hszz := hbz.size
          have hnl : nxt.length ≤ 25 := by have := hins.len; omega
          have HCells : Hid (∀ W, Below W5.heap.size W5 W → W.cell? ⟨w.heap.size + 2, 0, none⟩ = some (.slice ta tn tc) ∧ W.cell? ⟨w.heap.size + 2, 1, none⟩ = some (.slice ra ys.length rc) ∧ W.cell? ⟨w2.heap.size, 0, none⟩ = some (.string sn) ∧ W.cell? ⟨w2.heap.size, 1, none⟩ = some (.slice xa xn xc) ∧ W.cell? ⟨w2.heap.size, 2, none⟩ = some (.string sr)) := fun W hW =>
            ⟨(hW.cell (p := ⟨w.heap.size + 2, 0, none⟩) (by show w.heap.size + 2 < _; omega)).trans o0, (hW.cell (p := ⟨w.heap.size + 2, 1, none⟩) (by show w.heap.size + 2 < _; omega)).trans o1, (hW.cell (p := ⟨w2.heap.size, 0, none⟩) hl52).trans s0, (hW.cell (p := ⟨w2.heap.size, 1, none⟩) hl52).trans s1, (hW.cell (p := ⟨w2.heap.size, 2, none⟩) hl52).trans s2⟩
          have HFz : Hid (∀ W, Below W5.heap.size W5 W → W.frozen? ⟨w.heap.size + 2, 1, none⟩ = false) := fun W hW => (hW.frozen (p := ⟨w.heap.size + 2, 1, none⟩) (by show w.heap.size + 2 < _; omega)).trans o2
          clear s0 s1 s2 o0 o1 o2
          obtain ⟨c0, c1, s0, s1, s2⟩ := HCells.out wr hbz
          clear hownN hins hbz
          by_cases hjlt : j < ys.length
          · have hjlt' : (j : Int) < (ys.length : Int) := by omega
            have hj0 : (0 : Int) ≤ (j : Int) := by omega
            obtain ⟨_, ob, ooff, rfl, ⟨_, hob2⟩, y0, y1', y2'⟩ := HSl.out.at hjlt
            obtain ⟨y1, y2, y3, hyv⟩ : ∃ y1 y2 y3, syVal ys[j] = .slice y1 y2 y3 := ⟨_, _, _, rfl⟩
            rw [hyv] at y1'
            have HYv := veil hyv
            have HOn : Hid (done = true → InsG syName ex ys (nxt ++ [ys[j]]) (j + 1) true) := fun h => by subst h; exact HIn.out.on hjlt
            have HKeep : Hid (done = false → gtB ys[j].1.name sn = false → InsG syName ex ys (nxt ++ [ys[j]]) (j + 1) false) := fun h hg => by subst h; exact HIn.out.keep hjlt (by show gtB ys[j].1.name ex.1.name = _; rw [HXn.out]; exact hg)
            have HPut : Hid (done = false → gtB ys[j].1.name sn = true → InsG syName ex ys (nxt ++ [ex] ++ [ys[j]]) (j + 1) true) := fun h hg => by subst h; exact HIn.out.put hjlt (by show gtB ys[j].1.name ex.1.name = _; rw [HXn.out]; exact hg)
            have HY : Hid (∀ W, Below W5.heap.size W5 W → W.cell? ⟨ob, ooff + j * 3, none⟩ = some (.string ys[j].1.name) ∧ W.cell? ⟨ob, ooff + j * 3 + 1, none⟩ = some (.slice y1 y2 y3) ∧ W.cell? ⟨ob, ooff + j * 3 + 2, none⟩ = some (.string ys[j].1.result)) := fun W hW => ⟨(hW.cell (p := ⟨ob, ooff + j * 3, none⟩) hob2).trans y0, (hW.cell (p := ⟨ob, ooff + j * 3 + 1, none⟩) hob2).trans y1', (hW.cell (p := ⟨ob, ooff + j * 3 + 2, none⟩) hob2).trans y2'⟩
            obtain ⟨z0, z1, z2⟩ := HY.out wr HBz.out
            clear y0 y1' y2' HIn HSl hyv
            generalize ys[j] = ey at *
            generalize hyn : ey.1.name = yn at *
            generalize hyr : ey.1.result = yr at *
            have HYn := veil hyn
            have HYr := veil hyr
            clear hyn hyr
            cases hdone : done with
            | true =>
              have HN := veil (HOn.out hdone)
              clear HOn HKeep HPut
              subst hdone
              go_wp2_with fail
              go_quiet (fail)
              have hownq := ownsRow_later HOwnN.out (below_drewN (Below.refl wr.heap.size wr) nq)
              have hbq := below_drewN HBz.out nq
              generalize wr.drewN nq = wq at hownq hbq ⊢
              clear HOwnN HBz c0 c1 s0 s1 s2 z0 z1 z2 hszz
              have HOwnN := veil hownq
              have HBz := veil hbq
              have hszz := hbq.size
              obtain ⟨c0, c1, s0, s1, s2⟩ := HCells.out wq hbq
              obtain ⟨z0, z1, z2⟩ := HY.out wq hbq
              clear hownq hbq
              go_wp2_with (at_builtin; refine wpList_append_lies _ rfl _ _ 30 rfl W5.heap.size 52 i1 (.agg #[.string ⟨#[]⟩, .slice none 0 0, .string ⟨#[]⟩]) 3 56 Tryz.underlying30 hj hz3 hz4 hz5 rfl (by decide) _ _ _ rfl (HOwnN.out.alloc _) ⟨wq.heap.size, 0, none⟩ 1 1 [.string yn, .slice y1 y2 y3, .string yr] rfl rfl (three_new _ _ _ _ _) (sy_one _ _ _ _ _) (by decide) (by unfold maxLen; omega) (by omega) (by simp; omega) (wq.heap.size + 1) (by simp) ?_)
              intro g5 cap5 w6 hown5 hgrow5 hat5 hlt5
              have hrow5 := ownsRow_at HOwnN.out
              have HBz5 : Hid (Below W5.heap.size W5 w6) := (HBz.out.alloc (by omega) (.cells #[.string yn, .slice y1 y2 y3, .string yr] 52)).grown hgrow5 (by simp; omega) (fun j hj => by have := hrow5 j hj; omega)
              have HO5 : Hid (w6.ownsRow W5.heap.size 52 3 (.slice (some ⟨g5, 0, none⟩) (nxt.length + 1) cap5) (nxt ++ [ey]).length (syCells (nxt ++ [ey]))) :=
                owns_as HYn.out HYr.out HYv.out (by simp) hown5
              clear hown5 hgrow5 hat5 hlt5 hrow5
              go_wp2_with fail
              exact ⟨⟨j + 1, true, nxt ++ [ey], by omega, by go_num, rfl, HO5.out, HN.out, HBz5.out⟩, by simp [intOf]; omega⟩
            | false =>
              subst hdone
              cases hg : gtB yn sn with
              | true =>
                have HN := veil (HPut.out rfl hg)
                have hg' : (!Op.bytesLess yn.toList sn.toList && !(yn.toList == sn.toList)) = true := hg
                clear HOn HKeep HPut hg
                go_wp2_with fail
                go_quiet (fail)
                have hownq := ownsRow_later HOwnN.out (below_drewN (Below.refl wr.heap.size wr) nq)
                have hbq := below_drewN HBz.out nq
                generalize wr.drewN nq = wq at hownq hbq ⊢
                clear HOwnN HBz c0 c1 s0 s1 s2 z0 z1 z2 hszz
                have HOwnN := veil hownq
                have HBz := veil hbq
                have hszz := hbq.size
                obtain ⟨c0, c1, s0, s1, s2⟩ := HCells.out wq hbq
                obtain ⟨z0, z1, z2⟩ := HY.out wq hbq
                clear hownq hbq
                go_wp2_with (at_builtin; refine wpList_append_lies _ rfl _ _ 30 rfl W5.heap.size 52 i1 (.agg #[.string ⟨#[]⟩, .slice none 0 0, .string ⟨#[]⟩]) 3 56 Tryz.underlying30 hj hz3 hz4 hz5 rfl (by decide) _ _ _ rfl (HOwnN.out.alloc _) ⟨wq.heap.size, 0, none⟩ 1 1 [.string sn, .slice xa xn xc, .string sr] rfl rfl (three_new _ _ _ _ _) (sy_one _ _ _ _ _) (by decide) (by unfold maxLen; omega) (by omega) (by simp; omega) (wq.heap.size + 1) (by simp) ?_)
                intro g4 cap4 w4 hown4 hgrow4 hat4 hlt4
                have hrow4 := ownsRow_at HOwnN.out
                have HBz4 : Hid (Below W5.heap.size W5 w4) := (HBz.out.alloc (by omega) (.cells #[.string sn, .slice xa xn xc, .string sr] 52)).grown hgrow4 (by simp; omega) (fun j hj => by have := hrow4 j hj; omega)
                have HO4 : Hid (w4.ownsRow W5.heap.size 52 3 (.slice (some ⟨g4, 0, none⟩) (nxt.length + 1) cap4) (nxt ++ [ex]).length (syCells (nxt ++ [ex]))) :=
                  owns_as HXn.out HXr.out HXv.out (by simp) hown4
                have HO4' : Hid (w4.ownsRow W5.heap.size 52 3 (.slice (some ⟨g4, 0, none⟩) (nxt.length + 1) cap4) (nxt.length + 1) (syCells (nxt ++ [ex]))) := by
                  have := HO4.out
                  rw [List.length_append] at this
                  exact this
                have hsz4 := HBz4.out.size
                obtain ⟨c4, c5, s4, s5, s6⟩ := HCells.out _ HBz4.out
                obtain ⟨z4, z5, z6⟩ := HY.out _ HBz4.out
                clear hown4 hgrow4 hat4 hlt4 hrow4 z0 z1 z2 c0 c1 s0 s1 s2
                go_wp2_with (at_builtin; refine wpList_append_lies _ rfl _ _ 30 rfl W5.heap.size 52 i1 (.agg #[.string ⟨#[]⟩, .slice none 0 0, .string ⟨#[]⟩]) 3 56 Tryz.underlying30 hj hz3 hz4 hz5 rfl (by decide) _ _ _ rfl (HO4'.out.alloc _) ⟨w4.heap.size, 0, none⟩ 1 1 [.string yn, .slice y1 y2 y3, .string yr] rfl rfl (three_new _ _ _ _ _) (sy_one _ _ _ _ _) (by decide) (by unfold maxLen; omega) (by omega) (by simp; omega) (w4.heap.size + 1) (by simp) ?_)
                intro g5 cap5 w6 hown5 hgrow5 hat5 hlt5
                have hrow5 := ownsRow_at HO4'.out
                have HBz5 : Hid (Below W5.heap.size W5 w6) := (HBz4.out.alloc (by omega) (.cells #[.string yn, .slice y1 y2 y3, .string yr] 52)).grown hgrow5 (by simp; omega) (fun j hj => by have := hrow5 j hj; omega)
                have HO5 : Hid (w6.ownsRow W5.heap.size 52 3 (.slice (some ⟨g5, 0, none⟩) (nxt.length + 1 + 1) cap5) ((nxt ++ [ex]) ++ [ey]).length (syCells ((nxt ++ [ex]) ++ [ey]))) :=
                  owns_as HYn.out HYr.out HYv.out (by simp) hown5
                clear hown5 hgrow5 hat5 hlt5 hrow5
                go_wp2_with fail
                exact ⟨⟨j + 1, true, nxt ++ [ex] ++ [ey], by omega, by go_num, rfl, HO5.out, HN.out, HBz5.out⟩, by simp [intOf]; omega⟩
              | false =>
                have HN := veil (HKeep.out rfl hg)
                have hg' : (!Op.bytesLess yn.toList sn.toList && !(yn.toList == sn.toList)) = false := hg
                clear HOn HKeep HPut hg
                go_wp2_with fail
                go_quiet (fail)
                have hownq := ownsRow_later HOwnN.out (below_drewN (Below.refl wr.heap.size wr) nq)
                have hbq := below_drewN HBz.out nq
                generalize wr.drewN nq = wq at hownq hbq ⊢
                clear HOwnN HBz c0 c1 s0 s1 s2 z0 z1 z2 hszz
                have HOwnN := veil hownq
                have HBz := veil hbq
                have hszz := hbq.size
                obtain ⟨c0, c1, s0, s1, s2⟩ := HCells.out wq hbq
                obtain ⟨z0, z1, z2⟩ := HY.out wq hbq
                clear hownq hbq
                go_wp2_with (at_builtin; refine wpList_append_lies _ rfl _ _ 30 rfl W5.heap.size 52 i1 (.agg #[.string ⟨#[]⟩, .slice none 0 0, .string ⟨#[]⟩]) 3 56 Tryz.underlying30 hj hz3 hz4 hz5 rfl (by decide) _ _ _ rfl (HOwnN.out.alloc _) ⟨wq.heap.size, 0, none⟩ 1 1 [.string yn, .slice y1 y2 y3, .string yr] rfl rfl (three_new _ _ _ _ _) (sy_one _ _ _ _ _) (by decide) (by unfold maxLen; omega) (by omega) (by simp; omega) (wq.heap.size + 1) (by simp) ?_)
                intro g5 cap5 w6 hown5 hgrow5 hat5 hlt5
                have hrow5 := ownsRow_at HOwnN.out
                have HBz5 : Hid (Below W5.heap.size W5 w6) := (HBz.out.alloc (by omega) (.cells #[.string yn, .slice y1 y2 y3, .string yr] 52)).grown hgrow5 (by simp; omega) (fun j hj => by have := hrow5 j hj; omega)
                have HO5 : Hid (w6.ownsRow W5.heap.size 52 3 (.slice (some ⟨g5, 0, none⟩) (nxt.length + 1) cap5) (nxt ++ [ey]).length (syCells (nxt ++ [ey]))) :=
                  owns_as HYn.out HYr.out HYv.out (by simp) hown5
                clear hown5 hgrow5 hat5 hlt5 hrow5
                go_wp2_with fail
                exact ⟨⟨j + 1, false, nxt ++ [ey], by omega, by go_num, rfl, HO5.out, HN.out, HBz5.out⟩, by simp [intOf]; omega⟩
          · have hjn : ¬ (j : Int) < (ys.length : Int) := by omega
            cases hdone : done with
            | true =>
              subst hdone
              have HW := veil (HIn.out.whole (by omega))
              obtain ⟨na, nc, hvn⟩ := (ownsRow_sys HOwnN.out (by unfold maxLen; omega)).is
              subst hvn
              have HAllN : Hid (∀ y ∈ nxt, SgIs (FnS w1.heap.size (.slice none 0 0) u7 W5) W5 y.1 (syAgg y)) := fun y hy => by
                rw [HW.out] at hy
                rcases List.mem_cons.1 ((insB_perm syName ex ys).subset hy) with h | h
                · rw [h]; exact HEx.out
                · exact HFo5.out.all y h
              have HFi : Hid ((nxt).map Prod.fst = fnIns m l (k + 1)) := by
                show _ = _
                rw [HW.out, insB_map, HYs.out, HZ.out.1, HEx1.out]
              have HFo : Hid (FoAt (w.heap.size + 2) (.slice ta tn tc) nxt na nc u7 (fnBads m l (k + 1)) w1 (wr.setCell ⟨w.heap.size + 2, 1, none⟩ (.slice na nxt.length nc))) := by
                show FoAt _ _ _ _ _ _ _ _ _
                rw [HZ.out.2]
                exact HFo5.out.put hO HBz.out HOwnN.out HAllN.out
              have hfz := HFz.out wr HBz.out
              clear HFo5 HOwnN HAllN HSl HCells HFz HBw5 HEx HYs
              go_wp2_with fail
              exact ⟨⟨k + 1, nxt, na, nc, by omega, by go_num, HFi.out, HFo.out⟩, by simp [intOf]; omega⟩
            | false =>
              subst hdone
              have HW := veil (HIn.out.last (by omega))
              go_wp2_with (at_builtin; refine wpList_append_lies _ rfl _ _ 30 rfl W5.heap.size 52 i1 (.agg #[.string ⟨#[]⟩, .slice none 0 0, .string ⟨#[]⟩]) 3 56 Tryz.underlying30 hj hz3 hz4 hz5 rfl (by decide) _ _ _ rfl (HOwnN.out.alloc _) ⟨wr.heap.size, 0, none⟩ 1 1 [.string sn, .slice xa xn xc, .string sr] rfl rfl (three_new _ _ _ _ _) (sy_one _ _ _ _ _) (by decide) (by unfold maxLen; omega) (by omega) (by simp; omega) (wr.heap.size + 1) (by simp) ?_)
              intro g4 cap4 w4 hown4 hgrow4 hat4 hlt4
              have hrow4 := ownsRow_at HOwnN.out
              have HBz4 : Hid (Below W5.heap.size W5 w4) := (HBz.out.alloc (by omega) (.cells #[.string sn, .slice xa xn xc, .string sr] 52)).grown hgrow4 (by simp; omega) (fun j hj => by have := hrow4 j hj; omega)
              have HO4 : Hid (w4.ownsRow W5.heap.size 52 3 (.slice (some ⟨g4, 0, none⟩) (nxt.length + 1) cap4) (nxt ++ [ex]).length (syCells (nxt ++ [ex]))) :=
                owns_as HXn.out HXr.out HXv.out (by simp) hown4
              have HAllN : Hid (∀ y ∈ (nxt ++ [ex]), SgIs (FnS w1.heap.size (.slice none 0 0) u7 W5) W5 y.1 (syAgg y)) := fun y hy => by
                rw [HW.out] at hy
                rcases List.mem_cons.1 ((insB_perm syName ex ys).subset hy) with h | h
                · rw [h]; exact HEx.out
                · exact HFo5.out.all y h
              have HFi : Hid (((nxt ++ [ex])).map Prod.fst = fnIns m l (k + 1)) := by
                show _ = _
                rw [HW.out, insB_map, HYs.out, HZ.out.1, HEx1.out]
              have HFo : Hid (FoAt (w.heap.size + 2) (.slice ta tn tc) (nxt ++ [ex]) (some ⟨g4, 0, none⟩) cap4 u7 (fnBads m l (k + 1)) w1 (w4.setCell ⟨w.heap.size + 2, 1, none⟩ (.slice (some ⟨g4, 0, none⟩) (nxt.length + 1) cap4))) := by
                have hlen : (nxt ++ [ex]).length = nxt.length + 1 := by simp
                have hO4 := HO4.out
                show FoAt _ _ _ _ _ _ _ _ _
                rw [HZ.out.2]
                rw [← hlen] at hO4 ⊢
                exact HFo5.out.put hO HBz4.out hO4 HAllN.out
              have hfz := HFz.out w4 HBz4.out
              obtain ⟨c4, c5, s4, s5, s6⟩ := HCells.out _ HBz4.out
              clear hown4 hgrow4 hat4 hlt4 hrow4 c0 c1 s0 s1 s2 HFo5 HOwnN HO4 HAllN HSl HCells HFz HBw5 HEx HYs
              go_wp2_with fail
              exact ⟨⟨k + 1, nxt ++ [ex], some ⟨g4, 0, none⟩, cap4, by omega, by go_num, HFi.out, HFo.out⟩, by simp [intOf]; omega⟩
      · have hc' : (oc != 0) = true := by simp [hc]
        have HZ := veil (HBad.out hc)
        have d0 := HNm.out W5 HBw5.out
        have hownD5 := HFo5.out.ownD
        clear HOk HBad hc s0 s1 s2 HEx
        have hk5 : (k : Int) < (m.funcs.length : Int) := by omega
        go_wp2_with (first | (rw [HW5.out]; clear HW5) | (at_builtin; refine wpList_append_lies _ rfl _ _ 33 rfl w1.heap.size 57 i0 (.agg #[.string ⟨#[]⟩, .int .i64 0]) 2 24 Tryz.underlying33 hi hz0 hz1 hz2 rfl (by decide) _ _ _ rfl (hownD5.alloc _) ⟨W5.heap.size, 0, none⟩ 1 1 [.string nm, .int .i64 oc] rfl rfl (cell_two_new _ _ _ _) (dg_one _ _) (by decide) (by have := HLeD.out; unfold maxLen; omega) (by have := HLeD.out; omega) (by simp; omega) (W5.heap.size + 1) (by simp) ?_))
        intro g7 cap7 w7 hown7 hgrow7 hat7 hlt7
        have h06 : Below W5.heap.size W5 (W5.alloc (.cells #[.string nm, .int .i64 oc] 57)) := (Below.refl _ _).alloc (Nat.le_refl _) _
        have hs6 : (W5.alloc (.cells #[.string nm, .int .i64 oc] 57)).heap.size = W5.heap.size + 1 := by simp
        have HFo7 : Hid (FoAt (w.heap.size + 2) (.slice ta tn tc) ys ra rc (.slice (some ⟨g7, 0, none⟩) ((fnBads m l k).length + 1) cap7) (fnBads m l (k + 1)) w1 w7) := by
          show FoAt _ _ _ _ _ _ _ _ _
          rw [HZ.out.2]
          exact HFo5.out.bad (d := ⟨nm, oc⟩) hO h06 hgrow7 (by rw [hs6]; exact hat7) hown7
        have HYs7 : Hid (ys.map Prod.fst = fnIns m l (k + 1)) := HYs.out.trans HZ.out.1.symm
        clear hown7 hgrow7 hat7 hlt7 h06 hownD5 hs6 d0 c3 c4 c5
        go_wp2_with fail
        exact ⟨⟨k + 1, ys, ra, rc, by omega, by go_num, HYs7.out, HFo7.out⟩, by simp [intOf]; omega⟩
    · have hnl : ¬ (k : Int) < (m.funcs.length : Int) := by omega
      have hke : k = m.funcs.length := by omega
      subst hke
      obtain ⟨o0, o1, _⟩ := HFo.out.cells
      have hfs := sy_funcs (S := fun b => w1.heap.size ≤ b ∧ b < wr.heap.size) (ownsRow_sys HFo.out.own (by unfold maxLen; omega)) (fun b hb => ⟨hb.1.2, hb.2⟩) (fun y hy => (HFo.out.all y hy).keep ⟨fun b hb => rfl, fun b hb => hb.1⟩)
      rw [HYs.out] at hfs
      have hds := ownsRow_dgs HFo.out.ownD (Nat.le_trans (fnBads_le _ _ _) (by unfold maxLen; omega)) (HBads.out _)
      have hszw := HFo.out.grown.size
      have hgb := HFo.out.grown.block
      have HFin : Hid (∀ W', (∀ b, w0.heap.size ≤ b → b < wr.heap.size → W'.heap[b]? = wr.heap[b]?) → wr.heap.size ≤ W'.heap.size → FcIs (fun b => w.heap.size ≤ b ∧ b < W'.heap.size) W' ⟨tyIns m l m.types.length, fnIns m l m.funcs.length⟩ (.agg #[.slice ta tn tc, .slice ra ys.length rc]) ∧ SlAt (fun b => w.heap.size ≤ b ∧ b < W'.heap.size) (DgAt W') 2 (fnBads m l m.funcs.length) u7) := fun W' hk' hsz' => by
        refine ⟨⟨_, _, rfl, knSl_keep (S' := fun b => w.heap.size ≤ b ∧ b < W'.heap.size) ⟨fun b hb => ?_, fun b hb => ?_⟩ HKn.out, sgSl_keep (S' := fun b => w.heap.size ≤ b ∧ b < W'.heap.size) ⟨fun b hb => hk' b (by omega) hb.2, fun b hb => by omega⟩ hfs⟩, dgSl_keep (S' := fun b => w.heap.size ≤ b ∧ b < W'.heap.size) ⟨fun b hb => hk' b (by omega) hb.2, fun b hb => by omega⟩ hds⟩
        · exact (hk' b hb.1 (Nat.lt_of_lt_of_le hb.2 hszw)).trans (hgb b hb.2 (fun e => by injection e with e; omega))
        · omega
      have HSet : Hid (∀ W u0 u1, Below w.heap.size w W → Below w.heap.size w ((W.setCell ⟨w.heap.size + 1, 0, none⟩ u0).setCell ⟨w.heap.size + 1, 1, none⟩ u1)) := fun W u0 u1 h =>
        (h.setCell (by show w.heap.size ≤ w.heap.size + 1; omega) _).setCell (by show w.heap.size ≤ w.heap.size + 1; omega) _
      clear HFo hfs hds hgb HC HF HFn HBox HKn
      go_wp2_with fail
      refine bodyPost_ret (v := .tuple #[.agg #[.slice ta tn tc, .slice ra ys.length rc], u7]) (by simp [results, Tryz.results6, go_sem, g0, g1]) rfl ?_
      obtain ⟨hF1, hF2⟩ := HFin.out ((wr.setCell ⟨w.heap.size + 1, 0, none⟩ (.slice ta tn tc)).setCell ⟨w.heap.size + 1, 1, none⟩ (.slice ra ys.length rc)) (fun b hb _ => by
        rw [Below.heap_setCell _ _ _ _ (by show b ≠ w.heap.size + 1; omega), Below.heap_setCell _ _ _ _ (by show b ≠ w.heap.size + 1; omega)]) (by simp)
      exact ⟨_, _, _, rfl, hF1, hF2, HSet.out _ _ _ HBw.out⟩

end Go.Proofs.YtkdailcadcfepafGreat
