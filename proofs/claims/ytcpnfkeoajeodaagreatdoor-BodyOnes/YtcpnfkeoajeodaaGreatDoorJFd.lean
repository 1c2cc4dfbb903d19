/- What face.copyType answers: the same, its texts copied. -/
import Derived.Test.YtcpnfkeoajeodaaGreatDoorJFa
import Derived.Test.YtcpnfkeoajeodaaGreatDoorJKindX
import Derived.Deep.RegionHeld3
import Derived.Laws.IdiomCopy
import Derived.Laws.Rows
import Derived.Laws.MakeOwn
import Derived.OwnWalk
import Derived.Deep.Upon
namespace Go.Proofs.YtcpnfkeoajeodaaGreatDoor
open Go.RowKit
set_option maxRecDepth 100000

/-- what copyType's region keeps. -/
def KnBox (w : World) (x y : ByteArray) (W : World) : Prop :=
  Below w.heap.size w W ∧ W.cell? ⟨w.heap.size, 0, none⟩ = some (.string x) ∧ W.cell? ⟨w.heap.size, 1, none⟩ = some (.string y)

theorem KnBox.later {w : World} {x y : ByteArray} {W W' : World} (h : KnBox w x y W) (hb : Below W.heap.size W W') : KnBox w x y W' := by
  obtain ⟨h0, h1, h2⟩ := h
  exact ⟨h0.trans (hb.mono h0.size), (hb.cell (World.block_lt_of_cell? _ _ h1)).trans h1, (hb.cell (World.block_lt_of_cell? _ _ h2)).trans h2⟩

theorem KnBox.stored {w : World} {x y : ByteArray} {W : World} (h : KnBox w x y W) (u v : Value) : KnBox w x y ((W.setCell ⟨w.heap.size + 1, 0, none⟩ u).setCell ⟨w.heap.size + 1, 1, none⟩ v) := by
  obtain ⟨h0, h1, h2⟩ := h
  refine ⟨(h0.setCell (by show w.heap.size ≤ w.heap.size + 1; omega) _).setCell (by show w.heap.size ≤ w.heap.size + 1; omega) _, ?_, ?_⟩
  · rw [World.cell?_setCell_far _ _ _ _ (by show w.heap.size + 1 ≠ w.heap.size; omega), World.cell?_setCell_far _ _ _ _ (by show w.heap.size + 1 ≠ w.heap.size; omega)]; exact h1
  · rw [World.cell?_setCell_far _ _ _ _ (by show w.heap.size + 1 ≠ w.heap.size; omega), World.cell?_setCell_far _ _ _ _ (by show w.heap.size + 1 ≠ w.heap.size; omega)]; exact h2

set_option maxHeartbeats 4000000 in
theorem copyType_any (x y : ByteArray) (hx : x.size ≤ reachBytes) (hy : y.size ≤ reachBytes) (w : World) :
    Calls Tryz.prog 77 #[.agg #[.string x, .string y]] w fun e w' => e = .returned (.agg #[.string x, .string y]) ∧ Below w.heap.size w w' := by
  have hr := reachBytes_lt
  have HCx : Hid (∀ W, Calls Tryz.prog 48 #[.string x] W fun e w' => e = .returned (.string x) ∧ Below W.heap.size W w') := fun W => clone_kind x W (by omega)
  have HCy : Hid (∀ W, Calls Tryz.prog 48 #[.string y] W fun e w' => e = .returned (.string y) ∧ Below W.heap.size W w') := fun W => clone_kind y W (by omega)
  obtain ⟨w2, hwe, hs2, p0, p1, q0, q1, f0, f1, hbel⟩ : ∃ w2, (w.alloc (.cells #[.string x, .string y] 41)).alloc (.cells #[.string ⟨#[]⟩, .string ⟨#[]⟩] 41) = w2 ∧ w2.heap.size = w.heap.size + 2 ∧
      w2.cell? ⟨w.heap.size, 0, none⟩ = some (.string x) ∧ w2.cell? ⟨w.heap.size, 1, none⟩ = some (.string y) ∧ w2.cell? ⟨w.heap.size + 1, 0, none⟩ = some (.string ⟨#[]⟩) ∧ w2.cell? ⟨w.heap.size + 1, 1, none⟩ = some (.string ⟨#[]⟩) ∧
      w2.frozen? ⟨w.heap.size + 1, 0, none⟩ = false ∧ w2.frozen? ⟨w.heap.size + 1, 1, none⟩ = false ∧ Below w.heap.size w w2 :=
    ⟨_, rfl, by simp, by simp [go_sem], by simp [go_sem], by simp [go_sem], by simp [go_sem], by simp [go_sem], by simp [go_sem], ((Below.refl _ _).alloc (Nat.le_refl _) _).alloc (by simp) _⟩
  have HWe := veil hwe
  have HX : Hid (Below (w.heap.size + 2) w2 w2.drew) := (Below.refl _ _).drew
  have HK0 : Hid (KnBox w x y w2.drew) := ⟨hbel.drew, p0, p1⟩
  have HN : Hid (∀ W W', KnBox w x y W → Below W.heap.size W W' → KnBox w x y W') := fun _ _ h hb => h.later hb
  have HN2 : Hid (∀ W u v, KnBox w x y W → KnBox w x y ((W.setCell ⟨w.heap.size + 1, 0, none⟩ u).setCell ⟨w.heap.size + 1, 1, none⟩ v)) := fun _ u v h => h.stored u v
  have HQ : Hid (∀ W, Below (w.heap.size + 2) w2 W → W.cell? ⟨w.heap.size + 1, 0, none⟩ = some (.string ⟨#[]⟩) ∧ W.cell? ⟨w.heap.size + 1, 1, none⟩ = some (.string ⟨#[]⟩) ∧ W.frozen? ⟨w.heap.size + 1, 0, none⟩ = false ∧ W.frozen? ⟨w.heap.size + 1, 1, none⟩ = false) := fun W h =>
    ⟨(h.cell (by show w.heap.size + 1 < _; omega)).trans q0, (h.cell (by show w.heap.size + 1 < _; omega)).trans q1, (h.frozen (by show w.heap.size + 1 < _; omega)).trans f0, (h.frozen (by show w.heap.size + 1 < _; omega)).trans f1⟩
  clear hx hy hr hwe p0 p1 q0 q1 f0 f1 hbel
  go_enter Tryz.func77, Tryz.ntmps77
  go_wp2_with fail
  rw [HWe.out]
  clear HWe
  go_region_held3 (fun W => Below w.heap.size w W ∧ W.cell? ⟨w.heap.size, 0, none⟩ = some (.string x) ∧ W.cell? ⟨w.heap.size, 1, none⟩ = some (.string y)) (first | exact HK0.out | exact HN.out _ _ (by assumption) (by assumption) | exact HN2.out _ _ _ (by assumption))
    (first
      | (go_at_call_of 48 (Value.string x); refine (HCx.out _).mono ?_; rintro e w' ⟨rfl, hb'⟩; replace HX := veil (HX.out.trans (hb'.mono (by have := HX.out.size; omega))); obtain ⟨g0, g1, g2, g3⟩ := HQ.out _ HX.out)
      | (go_at_call_of 48 (Value.string y); refine (HCy.out _).mono ?_; rintro e w' ⟨rfl, hb'⟩; replace HX := veil (HX.out.trans (hb'.mono (by have := HX.out.size; omega))); obtain ⟨g0, g1, g2, g3⟩ := HQ.out _ HX.out))
  all_goals
    rename_i hHeld
    have HB := veil hHeld.1
    clear hHeld
    go_wp2_with fail
    exact bodyPost_ret (v := .agg #[.string x, .string y]) (by simp [results, Tryz.results77, go_sem, g0, g1]) rfl ⟨rfl, HB.out⟩

end Go.Proofs.YtcpnfkeoajeodaaGreatDoor

/- A row that is made and filled, element by element: what lies in it, in plain words. -/
namespace Go.Proofs.YtcpnfkeoajeodaaGreatDoor
open Go.RowKit
set_option maxRecDepth 100000

theorem size_setCell' (w : World) (a : Addr) (u : Value) : (w.setCell a u).heap.size = w.heap.size := by simp [World.setCell]
theorem size_setCells' (g : Nat) : ∀ (vs : List Value) (o : Nat) (w : World), (w.setCells g o vs).heap.size = w.heap.size
  | [], _, _ => rfl
  | v :: r, o, w => by rw [World.setCells, size_setCells' g r]; exact size_setCell' _ _ _
theorem below_setCells {B : Nat} {w : World} (g : Nat) (hg : B ≤ g) : ∀ (vs : List Value) (o : Nat) {W : World}, Below B w W → Below B w (W.setCells g o vs)
  | [], _, _, h => h
  | v :: r, o, W, h => by
    rw [World.setCells]
    exact below_setCells g hg r (o + 1) (h.setCell hg v)

theorem row_set {w : World} {g : Nat} {cur : Array Value} {e : TypeId} (h : w.heap[g]? = some (.cells cur e (0, 0))) (o : Nat) (u : Value) :
    (w.setCell ⟨g, o, none⟩ u).heap[g]? = some (.cells (cur.setIfInBounds o u) e (0, 0)) := by
  simp [World.setCell, Array.getElem?_modify, h]
theorem row_sets {g : Nat} {e : TypeId} : ∀ (vs : List Value) {w : World} {cur : Array Value} (_ : w.heap[g]? = some (.cells cur e (0, 0))) (o : Nat), ∃ cur', (w.setCells g o vs).heap[g]? = some (.cells cur' e (0, 0)) ∧ cur'.size = cur.size
  | [], _, cur, h, _ => ⟨cur, h, rfl⟩
  | v :: r, w, cur, h, o => by
    rw [World.setCells]
    obtain ⟨c, h1, h2⟩ := row_sets r (row_set h o v) (o + 1)
    exact ⟨c, h1, by rw [h2]; simp⟩

/-- the row in the first new block holds the first j of l. -/
structure RowJ {α : Type} (w : World) (e : TypeId) (c : Nat) (P : World → α → Nat → Prop) (l : List α) (j : Nat) (W : World) : Prop where
  bel : Below w.heap.size w W
  row : ∃ cur, W.heap[w.heap.size]? = some (.cells cur e (0, 0)) ∧ cur.size = l.length * c
  old : ∀ i (hi : i < l.length), i < j → P W l[i] (i * c)

/-- what is said of an element stands as long as its own cells, and all blocks but the row's, are as they were. -/
def Stays {α : Type} (B c : Nat) (P : World → α → Nat → Prop) : Prop :=
  ∀ (W W' : World) (x : α) (o : Nat), (∀ b, b ≠ B → b < W.heap.size → W'.heap[b]? = W.heap[b]?) → W.heap.size ≤ W'.heap.size → (∀ k, k < c → W'.cell? ⟨B, o + k, none⟩ = W.cell? ⟨B, o + k, none⟩) → P W x o → P W' x o

theorem RowJ.start {α : Type} {w : World} {e : TypeId} {c : Nat} {P : World → α → Nat → Prop} {l : List α} {arr : Array Value} (h : arr.size = l.length * c) : RowJ w e c P l 0 (w.alloc (.cells arr e)) :=
  ⟨(Below.refl _ _).alloc (Nat.le_refl _) _, ⟨arr, heap_alloc_new _ _, h⟩, fun _ _ h => absurd h (Nat.not_lt_zero _)⟩

theorem row_lt {W : World} {b : Nat} {o : Obj} (h : W.heap[b]? = some o) : b < W.heap.size := by
  rcases Nat.lt_or_ge b W.heap.size with h1 | h1
  · exact h1
  · rw [Array.getElem?_eq_none h1] at h
    cases h

theorem RowJ.lt {α : Type} {w : World} {e : TypeId} {c : Nat} {P : World → α → Nat → Prop} {l : List α} {j : Nat} {W : World} (h : RowJ w e c P l j W) : w.heap.size < W.heap.size := by
  obtain ⟨cur, h1, _⟩ := h.row
  exact row_lt h1

/-- where the next element goes. -/
theorem RowJ.room {α : Type} {w : World} {e : TypeId} {c : Nat} {P : World → α → Nat → Prop} {l : List α} {j : Nat} {W W1 : World} (h : RowJ w e c P l j W) (hb : Below W.heap.size W W1) (hj : j < l.length) : ∀ k, k < c → (∃ u, W1.cell? ⟨w.heap.size, j * c + k, none⟩ = some u) ∧ W1.frozen? ⟨w.heap.size, j * c + k, none⟩ = false := by
  intro k hk
  obtain ⟨cur, h1, h2⟩ := h.row
  have h3 := (hb.block _ h.lt).trans h1
  have hlt : j * c + k < cur.size := by
    rw [h2]
    have := Nat.mul_le_mul_right c (show j + 1 ≤ l.length from hj)
    rw [Nat.add_mul] at this
    omega
  exact ⟨⟨cur[j * c + k], by rw [cell_of_row _ _ _ _ _ _ h3, Array.getElem?_eq_getElem hlt]⟩, frozen_of_row _ _ _ _ _ h3⟩

theorem RowJ.step {α : Type} {w : World} {e : TypeId} {c : Nat} {P : World → α → Nat → Prop} {l : List α} {j : Nat} {W W1 : World} (h : RowJ w e c P l j W) (hS : Stays w.heap.size c P) (hb : Below W.heap.size W W1) (hj : j < l.length) (vs : List Value) (hv : vs.length = c)
    (hP : (∀ k (hk : k < vs.length), (W1.setCells w.heap.size (j * c) vs).cell? ⟨w.heap.size, j * c + k, none⟩ = some vs[k]) → (∀ b, b ≠ w.heap.size → b < W1.heap.size → (W1.setCells w.heap.size (j * c) vs).heap[b]? = W1.heap[b]?) → (W1.setCells w.heap.size (j * c) vs).heap.size = W1.heap.size → P (W1.setCells w.heap.size (j * c) vs) l[j] (j * c)) :
    RowJ w e c P l (j + 1) (W1.setCells w.heap.size (j * c) vs) := by
  have hlt := h.lt
  obtain ⟨cur, h1, h2⟩ := h.row
  have h3 := (hb.block _ hlt).trans h1
  have hin : ∀ k (hk : k < vs.length), (W1.setCells w.heap.size (j * c) vs).cell? ⟨w.heap.size, j * c + k, none⟩ = some vs[k] := fun k hk =>
    World.cell?_setCells_in _ vs _ W1 (fun k hk => by
      obtain ⟨⟨u, hu⟩, _⟩ := h.room hb hj k (by omega)
      rw [hu]; rfl) k hk
  have hoth : ∀ b, b ≠ w.heap.size → b < W1.heap.size → (W1.setCells w.heap.size (j * c) vs).heap[b]? = W1.heap[b]? := fun b hne hlt => World.heap_setCells_other _ _ _ _ hlt hne
  refine ⟨below_setCells _ (Nat.le_refl _) vs _ (h.bel.trans (hb.mono h.bel.size)), ?_, fun i hi hij => ?_⟩
  · obtain ⟨cur', h4, h5⟩ := row_sets vs h3 (j * c)
    exact ⟨cur', h4, h5.trans h2⟩
  · by_cases he : i = j
    · subst he
      exact hP hin hoth (size_setCells' _ _ _ _)
    · refine hS W _ _ _ (fun b hne hlt => ?_) (by rw [size_setCells']; exact hb.size) (fun k hk => ?_) (h.old i hi (by omega))
      · rw [hoth b hne (Nat.lt_of_lt_of_le hlt hb.size), hb.block b hlt]
      · rw [World.cell?_setCells_out _ vs _ _ _ (fun _ _ => Or.inl (by
          show i * c + k < j * c
          have := Nat.mul_le_mul_right c (show i + 1 ≤ j by omega)
          rw [Nat.add_mul] at this
          omega))]
        exact hb.cell (p := ⟨w.heap.size, _, none⟩) hlt

/-- the row is whole. -/
theorem RowJ.whole {α : Type} {w : World} {e : TypeId} {c : Nat} {P : World → α → Nat → Prop} {l : List α} {W : World} (h : RowJ w e c P l l.length W) (hl : l.length ≤ maxLen) {S : Nat → Prop} (hS : S w.heap.size) {Q : α → Nat → Nat → Prop} (hQ : ∀ x o, P W x o → Q x w.heap.size o) :
    SlAt S Q c l (.slice (some ⟨w.heap.size, 0, none⟩) l.length l.length) :=
  ⟨_, _, rfl, ⟨hl, Nat.le_refl _⟩, Or.inr ⟨_, _, rfl, hS, RowAt.mk fun i hi => by rw [Nat.zero_add]; exact hQ _ _ (h.old i hi hi)⟩⟩

/-- 'make([]T, n)', whatever the world. -/
theorem made_row {t e : TypeId} {z : Value} {c by' : Nat} (ht : Tryz.prog.underlying t = some (.slice e)) (hi : (Tryz.prog.info? e).map (fun i => (i.zero, i.size, i.bytes)) = some (some z, c, by')) (n : Nat) (hb : n * by' ≤ 281474976710656) (hn : n ≤ maxLen) :
    ∃ arr : Array Value, arr.size = n * c ∧ ∀ w, (Instr.makeSlice t (.int .i64 (n : Int)) (.int .i64 (n : Int))).run Tryz.prog w = .ok (.slice (some ⟨w.heap.size, 0, none⟩) n n) (w.alloc (.cells arr e)) := by
  obtain ⟨i, h1, h2, h3, h4⟩ := info_parts hi
  unfold maxLen at hn
  refine ⟨madeCells z.cells (n * c), size_madeCells _ _, fun w => ?_⟩
  have hb' : (i.bytes : Int) * (n : Int) ≤ 281474976710656 := by
    rw [h4, ← Int.natCast_mul, Nat.mul_comm]
    omega
  have := run_make (P := Tryz.prog) w t e i z ht h1 h2 .i64 .i64 n n (by omega) (Int.le_refl _) hb' (by omega)
  rw [h3] at this
  simpa using this

end Go.Proofs.YtcpnfkeoajeodaaGreatDoor

/- What face.copyEach answers at texts, and at types' names with what they are: the same, in a row of its own. -/
namespace Go.Proofs.YtcpnfkeoajeodaaGreatDoor
open Go.RowKit
set_option maxRecDepth 100000

theorem str_info : (Tryz.prog.info? 9).map (fun i => (i.zero, i.size, i.bytes)) = some (some (.string ⟨#[]⟩), 1, 16) := by kernel_rfl
theorem kn_info : (Tryz.prog.info? 41).map (fun i => (i.zero, i.size, i.bytes)) = some (some (.agg #[.string ⟨#[]⟩, .string ⟨#[]⟩]), 2, 32) := by kernel_rfl

def StrP (B : Nat) (W : World) (s : ByteArray) (o : Nat) : Prop := StrAt W s B o
theorem strP_stays (B : Nat) : Stays B 1 (StrP B) := fun W W' x o _ _ h hp => ⟨(h 0 (by omega)).trans hp.1, hp.2⟩
def KnP (B : Nat) (W : World) (k : Kn) (o : Nat) : Prop := KnAt W k B o
theorem knP_stays (B : Nat) : Stays B 2 (KnP B) := fun W W' x o _ _ h hp => ⟨⟨(h 0 (by omega)).trans hp.1.1, hp.1.2⟩, (h 1 (by omega)).trans hp.2.1, hp.2.2⟩

set_option maxHeartbeats 4000000 in
theorem copy_strs (S : Nat → Prop) (l : List ByteArray) (v : Value) (w : World) (hS : ∀ b, S b → b < w.heap.size) (hv : SlAt S (StrAt w) 1 l v) (hz : l.length * 16 ≤ reachBytes) (he : ∀ s ∈ l, s.size ≤ reachBytes) :
    Calls Tryz.prog 79 #[v, .func (.func 48) #[] #[]] w fun e w' => ∃ u, e = .returned u ∧ SlAt (fun b => w.heap.size ≤ b ∧ b < w'.heap.size) (StrAt w') 1 l u ∧ Below w.heap.size w w' := by
  have hr := reachBytes_lt
  have HL := veil (SlAt.len hv)
  have HV := veil hv
  obtain ⟨a, cap, rfl⟩ := hv.is
  have hlen : l.length ≤ 9223372036854775807 := by have := HL.out; unfold maxLen at this; omega
  obtain ⟨arr, harr, hmk⟩ := made_row Tryz.underlying22 str_info l.length (by omega) HL.out
  have HJ : Hid (RowJ w 9 1 (StrP w.heap.size) l 0 (w.alloc (.cells arr 9))) := RowJ.start harr
  have HZ := veil he
  clear hv hz he harr
  go_enter Tryz.func79, Tryz.ntmps79
  go_wp2_with fail
  clear hmk
  go_loopw [13] (fun i wr => ∃ j : Nat, j ≤ l.length ∧ i = .int .i64 j ∧ RowJ w 9 1 (StrP w.heap.size) l j wr) (fun i _ => l.length - (intOf i).toNat)
  case atStart => exact ⟨0, Nat.zero_le _, rfl, HJ.out⟩
  case round =>
    obtain ⟨j, hj, rfl, hrj⟩ := hrel
    have HR := veil hrj
    clear HJ
    by_cases hlt : j < l.length
    · have hlt' : (j : Int) < (l.length : Int) := by omega
      have hj0 : (0 : Int) ≤ (j : Int) := by omega
      obtain ⟨_, b, off, rfl, hb, a0, m0⟩ := HV.out.at hlt
      have hbk := hS b hb
      rw [Nat.mul_one] at a0
      have d0 := (hrj.bel.cell (p := ⟨b, off + j, none⟩) hbk).trans a0
      have HC : Hid (∀ W, Calls Tryz.prog 48 #[.string l[j]] W fun e w' => e = .returned (.string l[j]) ∧ Below W.heap.size W w') := fun W => clone_kind _ W (by have := HZ.out _ (List.getElem_mem hlt); omega)
      have HN : Hid (∀ W1, Below wr.heap.size wr W1 → RowJ w 9 1 (StrP w.heap.size) l (j + 1) (W1.setCell ⟨w.heap.size, j, none⟩ (.string l[j]))) := fun W1 h1 => by
        have := hrj.step (strP_stays _) h1 hlt [.string l[j]] rfl (fun hc _ _ => ⟨hc 0 (by simp), m0⟩)
        rw [Nat.mul_one] at this
        exact this
      have HRm : Hid (∀ W1, Below wr.heap.size wr W1 → (∃ u, W1.cell? ⟨w.heap.size, j, none⟩ = some u) ∧ W1.frozen? ⟨w.heap.size, j, none⟩ = false) := fun W1 h1 => by
        have := hrj.room h1 hlt 0 (by omega)
        rw [Nat.mul_one] at this
        exact this
      clear hrj a0 HV m0
      generalize l[j] = x at *
      go_wp2_with fail
      refine (HC.out _).mono ?_
      rintro e w' ⟨rfl, hb'⟩
      obtain ⟨⟨u, hu⟩, hfz⟩ := HRm.out _ hb'
      have HN' := veil (HN.out _ hb')
      clear hb'
      go_wp2_with fail
      exact ⟨⟨j + 1, by omega, by go_num, HN'.out⟩, by simp [intOf]; omega⟩
    · have hnl : ¬ (j : Int) < (l.length : Int) := by omega
      have hje : j = l.length := by omega
      have HW : Hid (SlAt (fun b => w.heap.size ≤ b ∧ b < wr.heap.size) (StrAt wr) 1 l (.slice (some ⟨w.heap.size, 0, none⟩) l.length l.length)) := by
        subst hje
        exact hrj.whole HL.out (S := fun b => w.heap.size ≤ b ∧ b < wr.heap.size) ⟨Nat.le_refl _, hrj.lt⟩ (fun _ _ h => h)
      have HB := veil hrj.bel
      clear hrj HV hje
      go_wp2_with fail
      go_ret
      exact ⟨_, rfl, HW.out, HB.out⟩

set_option maxHeartbeats 4000000 in
theorem copy_kns (S : Nat → Prop) (l : List Kn) (v : Value) (w : World) (hS : ∀ b, S b → b < w.heap.size) (hv : SlAt S (KnAt w) 2 l v) (hz : l.length * 32 ≤ reachBytes) (he : ∀ s ∈ l, knSmall s) :
    Calls Tryz.prog 76 #[v, .func (.func 77) #[] #[]] w fun e w' => ∃ u, e = .returned u ∧ SlAt (fun b => w.heap.size ≤ b ∧ b < w'.heap.size) (KnAt w') 2 l u ∧ Below w.heap.size w w' := by
  have hr := reachBytes_lt
  have HL := veil (SlAt.len hv)
  have HV := veil hv
  obtain ⟨a, cap, rfl⟩ := hv.is
  have hlen : l.length ≤ 9223372036854775807 := by have := HL.out; unfold maxLen at this; omega
  obtain ⟨arr, harr, hmk⟩ := made_row Tryz.underlying28 kn_info l.length (by omega) HL.out
  have HJ : Hid (RowJ w 41 2 (KnP w.heap.size) l 0 (w.alloc (.cells arr 41))) := RowJ.start harr
  have HZ := veil he
  clear hv hz he harr
  go_enter Tryz.func76, Tryz.ntmps76
  go_wp2_with fail
  clear hmk
  go_loopw [13] (fun i wr => ∃ j : Nat, j ≤ l.length ∧ i = .int .i64 j ∧ RowJ w 41 2 (KnP w.heap.size) l j wr) (fun i _ => l.length - (intOf i).toNat)
  case atStart => exact ⟨0, Nat.zero_le _, rfl, HJ.out⟩
  case round =>
    obtain ⟨j, hj, rfl, hrj⟩ := hrel
    have HR := veil hrj
    clear HJ
    by_cases hlt : j < l.length
    · have hlt' : (j : Int) < (l.length : Int) := by omega
      have hj0 : (0 : Int) ≤ (j : Int) := by omega
      obtain ⟨_, b, off, rfl, hb, ⟨a0, m0⟩, a1, m1⟩ := HV.out.at hlt
      have hbk := hS b hb
      have d0 := (hrj.bel.cell (p := ⟨b, off + j * 2, none⟩) hbk).trans a0
      have d1 := (hrj.bel.cell (p := ⟨b, off + j * 2 + 1, none⟩) hbk).trans a1
      have hsm := HZ.out _ (List.getElem_mem hlt)
      have HC : Hid (∀ W, Calls Tryz.prog 77 #[.agg #[.string l[j].name, .string l[j].is]] W fun e w' => e = .returned (.agg #[.string l[j].name, .string l[j].is]) ∧ Below W.heap.size W w') := fun W => copyType_any _ _ hsm.1 hsm.2 W
      have HN : Hid (∀ W1, Below wr.heap.size wr W1 → RowJ w 41 2 (KnP w.heap.size) l (j + 1) ((W1.setCell ⟨w.heap.size, j * 2, none⟩ (.string l[j].name)).setCell ⟨w.heap.size, j * 2 + 1, none⟩ (.string l[j].is))) := fun W1 h1 =>
        hrj.step (knP_stays _) h1 hlt [.string l[j].name, .string l[j].is] rfl (fun hc _ _ => ⟨⟨hc 0 (by simp), m0⟩, hc 1 (by simp), m1⟩)
      have HRm : Hid (∀ W1, Below wr.heap.size wr W1 → ((∃ u, W1.cell? ⟨w.heap.size, j * 2, none⟩ = some u) ∧ W1.frozen? ⟨w.heap.size, j * 2, none⟩ = false) ∧ (∃ u, W1.cell? ⟨w.heap.size, j * 2 + 1, none⟩ = some u) ∧ W1.frozen? ⟨w.heap.size, j * 2 + 1, none⟩ = false) := fun W1 h1 =>
        ⟨hrj.room h1 hlt 0 (by omega), hrj.room h1 hlt 1 (by omega)⟩
      have HA : Hid (∀ o, Below wr.heap.size wr (wr.alloc o)) := fun o => (Below.refl _ _).alloc (Nat.le_refl _) _
      have hbr : b < wr.heap.size := Nat.lt_of_lt_of_le hbk hrj.bel.size
      have hrlt := hrj.lt
      clear hrj a0 a1 HV m0 m1 hsm
      generalize l[j].name = x at *
      generalize l[j].is = y at *
      go_wp2_with fail
      refine (HC.out _).mono ?_
      rintro e w' ⟨rfl, hb'⟩
      have hb1 := (HA.out _).trans (hb'.mono (by simp))
      obtain ⟨⟨⟨u, hu⟩, hfz⟩, ⟨u', hu'⟩, hfz'⟩ := HRm.out _ hb1
      have HN' := veil (HN.out _ hb1)
      clear hb' hb1
      go_wp2_with fail
      exact ⟨⟨j + 1, by omega, by go_num, HN'.out⟩, by simp [intOf]; omega⟩
    · have hnl : ¬ (j : Int) < (l.length : Int) := by omega
      have hje : j = l.length := by omega
      have HW : Hid (SlAt (fun b => w.heap.size ≤ b ∧ b < wr.heap.size) (KnAt wr) 2 l (.slice (some ⟨w.heap.size, 0, none⟩) l.length l.length)) := by
        subst hje
        exact hrj.whole HL.out (S := fun b => w.heap.size ≤ b ∧ b < wr.heap.size) ⟨Nat.le_refl _, hrj.lt⟩ (fun _ _ h => h)
      have HB := veil hrj.bel
      clear hrj HV hje
      go_wp2_with fail
      go_ret
      exact ⟨_, rfl, HW.out, HB.out⟩

end Go.Proofs.YtcpnfkeoajeodaaGreatDoor

/- What face.copyFunc answers: the same, its texts copied, its parameters in a row of their own. -/
namespace Go.Proofs.YtcpnfkeoajeodaaGreatDoor
open Go.RowKit
set_option maxRecDepth 100000

theorem keep_new {B : Nat} {W W' : World} (h : Below W.heap.size W W') : Keeps (fun b => B ≤ b ∧ b < W.heap.size) (fun b => B ≤ b ∧ b < W'.heap.size) W W' :=
  ⟨fun b hb => h.block b hb.2, fun _ hb => ⟨hb.1, Nat.lt_of_lt_of_le hb.2 h.size⟩⟩
theorem keep_set {B g : Nat} {W : World} (hg : g < B) (o : Nat) (u : Value) : Keeps (fun b => B ≤ b ∧ b < W.heap.size) (fun b => B ≤ b ∧ b < (W.setCell ⟨g, o, none⟩ u).heap.size) W (W.setCell ⟨g, o, none⟩ u) :=
  ⟨fun b hb => Below.heap_setCell _ _ _ _ (by show b ≠ g; have := hb.1; omega), fun _ hb => ⟨hb.1, by rw [size_setCell']; exact hb.2⟩⟩

/-- what copyFunc's region keeps. -/
def SgBox (w : World) (x y : ByteArray) (p : Value) (W : World) : Prop :=
  Below w.heap.size w W ∧ W.cell? ⟨w.heap.size, 0, none⟩ = some (.string x) ∧ W.cell? ⟨w.heap.size, 1, none⟩ = some p ∧ W.cell? ⟨w.heap.size, 2, none⟩ = some (.string y)

theorem SgBox.later {w : World} {x y : ByteArray} {p : Value} {W W' : World} (h : SgBox w x y p W) (hb : Below W.heap.size W W') : SgBox w x y p W' := by
  obtain ⟨h0, h1, h2, h3⟩ := h
  exact ⟨h0.trans (hb.mono h0.size), (hb.cell (World.block_lt_of_cell? _ _ h1)).trans h1, (hb.cell (World.block_lt_of_cell? _ _ h2)).trans h2, (hb.cell (World.block_lt_of_cell? _ _ h3)).trans h3⟩

theorem SgBox.set {w : World} {x y : ByteArray} {p : Value} {W : World} (h : SgBox w x y p W) (o : Nat) (u : Value) : SgBox w x y p (W.setCell ⟨w.heap.size + 1, o, none⟩ u) := by
  obtain ⟨h0, h1, h2, h3⟩ := h
  refine ⟨h0.setCell (by show w.heap.size ≤ w.heap.size + 1; omega) _, ?_, ?_, ?_⟩
  · rw [World.cell?_setCell_far _ _ _ _ (by show w.heap.size + 1 ≠ w.heap.size; omega)]; exact h1
  · rw [World.cell?_setCell_far _ _ _ _ (by show w.heap.size + 1 ≠ w.heap.size; omega)]; exact h2
  · rw [World.cell?_setCell_far _ _ _ _ (by show w.heap.size + 1 ≠ w.heap.size; omega)]; exact h3

set_option maxHeartbeats 8000000 in
theorem copyFunc_any (S : Nat → Prop) (g : Sg) (v : Value) (w : World) (hS : ∀ b, S b → b < w.heap.size) (hv : SgIs S w g v) (hz : sgSmall g) :
    Calls Tryz.prog 56 #[v] w fun e w' => ∃ a n cap, e = .returned (.agg #[.string g.name, .slice a n cap, .string g.result]) ∧ SlAt (fun b => w.heap.size ≤ b ∧ b < w'.heap.size) (StrAt w') 1 g.params (.slice a n cap) ∧ Below w.heap.size w w' := by
  have hr := reachBytes_lt
  obtain ⟨vp, rfl, hn, hrs, hp⟩ := hv
  obtain ⟨z0, z1, z2, z3⟩ := hz
  have HCx : Hid (∀ W, Calls Tryz.prog 48 #[.string g.name] W fun e w' => e = .returned (.string g.name) ∧ Below W.heap.size W w') := fun W => clone_kind _ W (by omega)
  have HCy : Hid (∀ W, Calls Tryz.prog 48 #[.string g.result] W fun e w' => e = .returned (.string g.result) ∧ Below W.heap.size W w') := fun W => clone_kind _ W (by omega)
  have HCp : Hid (∀ W, Below w.heap.size w W → w.heap.size + 2 ≤ W.heap.size → Calls Tryz.prog 79 #[vp, .func (.func 48) #[] #[]] W fun e w' => ∃ u, e = .returned u ∧ SlAt (fun b => w.heap.size + 2 ≤ b ∧ b < w'.heap.size) (StrAt w') 1 g.params u ∧ Below W.heap.size W w') := fun W hW h2 => by
    refine (copy_strs S _ _ W (fun b hb => Nat.lt_of_lt_of_le (hS b hb) hW.size) (strSl_keep (Keeps.below hW hS) hp) z2 z3).mono ?_
    rintro e w' ⟨u, rfl, h3, h4⟩
    exact ⟨u, rfl, h3.imp (fun b hb => ⟨by omega, hb.2⟩) (fun _ _ _ _ _ h => h), h4⟩
  obtain ⟨a, k, cap, rfl⟩ := hp.slice
  generalize g.name = x at *
  generalize g.result = y at *
  generalize g.params = ps at *
  obtain ⟨w2, hwe, hs2, p0, p1, p2, hbel, hq⟩ : ∃ w2, (w.alloc (.cells #[.string x, .slice a k cap, .string y] 44)).alloc (.cells #[.string ⟨#[]⟩, .slice none 0 0, .string ⟨#[]⟩] 44) = w2 ∧ w2.heap.size = w.heap.size + 2 ∧
      w2.cell? ⟨w.heap.size, 0, none⟩ = some (.string x) ∧ w2.cell? ⟨w.heap.size, 1, none⟩ = some (.slice a k cap) ∧ w2.cell? ⟨w.heap.size, 2, none⟩ = some (.string y) ∧ Below w.heap.size w w2 ∧
      (w2.cell? ⟨w.heap.size + 1, 0, none⟩ = some (.string ⟨#[]⟩) ∧ w2.cell? ⟨w.heap.size + 1, 1, none⟩ = some (.slice none 0 0) ∧ w2.cell? ⟨w.heap.size + 1, 2, none⟩ = some (.string ⟨#[]⟩)) ∧
      w2.frozen? ⟨w.heap.size + 1, 0, none⟩ = false ∧ w2.frozen? ⟨w.heap.size + 1, 1, none⟩ = false ∧ w2.frozen? ⟨w.heap.size + 1, 2, none⟩ = false :=
    ⟨_, rfl, by simp, by simp [go_sem], by simp [go_sem], by simp [go_sem], ((Below.refl _ _).alloc (Nat.le_refl _) _).alloc (by simp) _, ⟨by simp [go_sem], by simp [go_sem], by simp [go_sem]⟩, by simp [go_sem], by simp [go_sem], by simp [go_sem]⟩
  have HWe := veil hwe
  have HX : Hid (Below (w.heap.size + 2) w2 w2.drew) := (Below.refl _ _).drew
  have HBel := veil hbel
  have HB0 : Hid (∀ W, Below (w.heap.size + 2) w2 W → Below w.heap.size w W ∧ w.heap.size + 2 ≤ W.heap.size) := fun W h => ⟨HBel.out.trans (h.mono (by omega)), by have := h.size; omega⟩
  have HK0 : Hid (SgBox w x y (.slice a k cap) w2.drew) := ⟨hbel.drew, p0, p1, p2⟩
  have HN : Hid (∀ W W', SgBox w x y (.slice a k cap) W → Below W.heap.size W W' → SgBox w x y (.slice a k cap) W') := fun _ _ h hb => h.later hb
  have HN2 : Hid (∀ W u v t, SgBox w x y (.slice a k cap) W → SgBox w x y (.slice a k cap) (((W.setCell ⟨w.heap.size + 1, 0, none⟩ u).setCell ⟨w.heap.size + 1, 1, none⟩ v).setCell ⟨w.heap.size + 1, 2, none⟩ t)) := fun _ u v t h => ((h.set 0 u).set 1 v).set 2 t
  have HQ : Hid (∀ W, Below (w.heap.size + 2) w2 W → (W.cell? ⟨w.heap.size + 1, 0, none⟩ = some (.string ⟨#[]⟩) ∧ W.cell? ⟨w.heap.size + 1, 1, none⟩ = some (.slice none 0 0) ∧ W.cell? ⟨w.heap.size + 1, 2, none⟩ = some (.string ⟨#[]⟩)) ∧ W.frozen? ⟨w.heap.size + 1, 0, none⟩ = false ∧ W.frozen? ⟨w.heap.size + 1, 1, none⟩ = false ∧ W.frozen? ⟨w.heap.size + 1, 2, none⟩ = false) := fun W h => by
    obtain ⟨⟨q0, q1, q2⟩, f0, f1, f2⟩ := hq
    exact ⟨⟨(h.cell (by show w.heap.size + 1 < _; omega)).trans q0, (h.cell (by show w.heap.size + 1 < _; omega)).trans q1, (h.cell (by show w.heap.size + 1 < _; omega)).trans q2⟩, (h.frozen (by show w.heap.size + 1 < _; omega)).trans f0, (h.frozen (by show w.heap.size + 1 < _; omega)).trans f1, (h.frozen (by show w.heap.size + 1 < _; omega)).trans f2⟩
  have HFin : Hid (∀ (W : World) (p u v t : Value), SlAt (fun b => w.heap.size + 2 ≤ b ∧ b < W.heap.size) (StrAt W) 1 ps p → SlAt (fun b => w.heap.size ≤ b ∧ b < (((W.setCell ⟨w.heap.size + 1, 0, none⟩ u).setCell ⟨w.heap.size + 1, 1, none⟩ v).setCell ⟨w.heap.size + 1, 2, none⟩ t).heap.size) (StrAt (((W.setCell ⟨w.heap.size + 1, 0, none⟩ u).setCell ⟨w.heap.size + 1, 1, none⟩ v).setCell ⟨w.heap.size + 1, 2, none⟩ t)) 1 ps p) := fun W p u v t h => by
    have h1 := strSl_keep (keep_set (B := w.heap.size + 2) (g := w.heap.size + 1) (by omega) 0 u) h
    have h2 := strSl_keep (keep_set (B := w.heap.size + 2) (g := w.heap.size + 1) (by omega) 1 v) h1
    have h3 := strSl_keep (keep_set (B := w.heap.size + 2) (g := w.heap.size + 1) (by omega) 2 t) h2
    exact h3.imp (fun b hb => ⟨by omega, hb.2⟩) (fun _ _ _ _ _ h => h)
  clear hn hrs hp z0 z1 z2 z3 hr hwe p0 p1 p2 hbel hq
  go_enter Tryz.func56, Tryz.ntmps56
  go_wp2_with fail
  rw [HWe.out]
  clear HWe
  go_region_held3 (fun W => Below w.heap.size w W ∧ W.cell? ⟨w.heap.size, 0, none⟩ = some (.string x) ∧ W.cell? ⟨w.heap.size, 1, none⟩ = some (.slice a k cap) ∧ W.cell? ⟨w.heap.size, 2, none⟩ = some (.string y)) (first | exact HK0.out | exact HN.out _ _ (by assumption) (by assumption) | exact HN2.out _ _ _ _ (by assumption))
    (first
      | (go_at_call 79; refine (HCp.out _ (HB0.out _ HX.out).1 (HB0.out _ HX.out).2).mono ?_; rintro e w' ⟨u, rfl, hsl, hb'⟩; obtain ⟨a', n', cap', rfl⟩ := hsl.slice; have HP := veil hsl; clear hsl; replace HX := veil (HX.out.trans (hb'.mono (HB0.out _ HX.out).2)); obtain ⟨⟨g0, g1, g2⟩, g3, g4, g5⟩ := HQ.out _ HX.out)
      | (go_at_call_of 48 (Value.string x); refine (HCx.out _).mono ?_; rintro e w' ⟨rfl, hb'⟩; (try replace HP := veil (strSl_keep (keep_new hb') HP.out)); replace HX := veil (HX.out.trans (hb'.mono (HB0.out _ HX.out).2)); obtain ⟨⟨g0, g1, g2⟩, g3, g4, g5⟩ := HQ.out _ HX.out)
      | (go_at_call_of 48 (Value.string y); refine (HCy.out _).mono ?_; rintro e w' ⟨rfl, hb'⟩; (try replace HP := veil (strSl_keep (keep_new hb') HP.out)); replace HX := veil (HX.out.trans (hb'.mono (HB0.out _ HX.out).2)); obtain ⟨⟨g0, g1, g2⟩, g3, g4, g5⟩ := HQ.out _ HX.out))
  all_goals
    rename_i hHeld
    have HB := veil hHeld.1
    clear hHeld
    go_wp2_with fail
    exact bodyPost_ret (v := .agg #[.string x, .slice a' n' cap', .string y]) (by simp [results, Tryz.results56, go_sem, g0, g1, g2]) rfl ⟨a', n', cap', rfl, HFin.out _ _ _ _ _ HP.out, HB.out⟩

end Go.Proofs.YtcpnfkeoajeodaaGreatDoor

/- What face.copyEach answers at functions' names with what they take, and face.Copy at a face: the same, in memory of its own. -/
namespace Go.Proofs.YtcpnfkeoajeodaaGreatDoor
open Go.RowKit
set_option maxRecDepth 100000

theorem sg_info : (Tryz.prog.info? 44).map (fun i => (i.zero, i.size, i.bytes)) = some (some (.agg #[.string ⟨#[]⟩, .slice none 0 0, .string ⟨#[]⟩]), 3, 56) := by kernel_rfl

def SgP (B : Nat) (W : World) (g : Sg) (o : Nat) : Prop := SgAt (fun b => B < b ∧ b < W.heap.size) W g B o
theorem sgP_stays (B : Nat) : Stays B 3 (SgP B) := fun W W' x o ho hs h hp => by
  obtain ⟨⟨h0, z0⟩, ⟨v, hv, hl⟩, h1, z1⟩ := hp
  exact ⟨⟨(h 0 (by omega)).trans h0, z0⟩, ⟨v, (h 1 (by omega)).trans hv, strSl_keep ⟨fun b hb => ho b (by have := hb.1; omega) hb.2, fun b hb => ⟨hb.1, Nat.lt_of_lt_of_le hb.2 hs⟩⟩ hl⟩, (h 2 (by omega)).trans h1, z1⟩

theorem sg_cells' {S : Nat → Prop} {w : World} {g : Sg} {b o : Nat} (h : SgAt S w g b o) : ∃ a n cap, w.cell? ⟨b, o, none⟩ = some (.string g.name) ∧ w.cell? ⟨b, o + 1, none⟩ = some (.slice a n cap) ∧ w.cell? ⟨b, o + 2, none⟩ = some (.string g.result) ∧ (g.name.size ≤ maxLen ∧ g.result.size ≤ maxLen) ∧ SgIs S w g (.agg #[.string g.name, .slice a n cap, .string g.result]) := by
  obtain ⟨⟨h0, z0⟩, ⟨v, hv, hp⟩, h1, z1⟩ := h
  obtain ⟨a, cap, rfl⟩ := hp.is
  exact ⟨a, _, cap, h0, hv, h1, ⟨z0, z1⟩, _, rfl, z0, z1, hp⟩

set_option maxHeartbeats 4000000 in
theorem copy_sgs (S : Nat → Prop) (l : List Sg) (v : Value) (w : World) (hS : ∀ b, S b → b < w.heap.size) (hv : SlAt S (SgAt S w) 3 l v) (hz : l.length * 56 ≤ reachBytes) (he : ∀ s ∈ l, sgSmall s) :
    Calls Tryz.prog 78 #[v, .func (.func 56) #[] #[]] w fun e w' => ∃ u, e = .returned u ∧ SlAt (fun b => w.heap.size ≤ b ∧ b < w'.heap.size) (SgAt (fun b => w.heap.size ≤ b ∧ b < w'.heap.size) w') 3 l u ∧ Below w.heap.size w w' := by
  have hr := reachBytes_lt
  have HL := veil (SlAt.len hv)
  have HV := veil hv
  obtain ⟨a, cap, rfl⟩ := hv.is
  have hlen : l.length ≤ 9223372036854775807 := by have := HL.out; unfold maxLen at this; omega
  obtain ⟨arr, harr, hmk⟩ := made_row Tryz.underlying29 sg_info l.length (by omega) HL.out
  have HJ : Hid (RowJ w 44 3 (SgP w.heap.size) l 0 (w.alloc (.cells arr 44))) := RowJ.start harr
  have HZ := veil he
  clear hv hz he harr
  go_enter Tryz.func78, Tryz.ntmps78
  go_wp2_with fail
  clear hmk
  go_loopw [13] (fun i wr => ∃ j : Nat, j ≤ l.length ∧ i = .int .i64 j ∧ RowJ w 44 3 (SgP w.heap.size) l j wr) (fun i _ => l.length - (intOf i).toNat)
  case atStart => exact ⟨0, Nat.zero_le _, rfl, HJ.out⟩
  case round =>
    obtain ⟨j, hj, rfl, hrj⟩ := hrel
    clear HJ
    by_cases hlt : j < l.length
    · have hlt' : (j : Int) < (l.length : Int) := by omega
      have hj0 : (0 : Int) ≤ (j : Int) := by omega
      obtain ⟨_, b, off, rfl, hb, hat⟩ := HV.out.at hlt
      have hbk := hS b hb
      obtain ⟨p1, p2, p3, a0, a1, a2, ⟨m0, m1⟩, hsg⟩ := sg_cells' hat
      have d0 := (hrj.bel.cell (p := ⟨b, off + j * 3, none⟩) hbk).trans a0
      have d1 := (hrj.bel.cell (p := ⟨b, off + j * 3 + 1, none⟩) hbk).trans a1
      have d2 := (hrj.bel.cell (p := ⟨b, off + j * 3 + 2, none⟩) hbk).trans a2
      have hsm := HZ.out _ (List.getElem_mem hlt)
      have hrlt := hrj.lt
      have HC : Hid (∀ W, Below wr.heap.size wr W → Calls Tryz.prog 56 #[.agg #[.string l[j].name, .slice p1 p2 p3, .string l[j].result]] W fun e w' => ∃ a n cap, e = .returned (.agg #[.string l[j].name, .slice a n cap, .string l[j].result]) ∧ SlAt (fun b => w.heap.size < b ∧ b < w'.heap.size) (StrAt w') 1 l[j].params (.slice a n cap) ∧ Below wr.heap.size wr w') := fun W hW => by
        have hbW := hrj.bel.trans (hW.mono hrj.bel.size)
        refine (copyFunc_any S l[j] _ W (fun b hb => Nat.lt_of_lt_of_le (hS b hb) hbW.size) (hsg.keep (Keeps.below hbW hS)) hsm).mono ?_
        rintro e w' ⟨a, n, cap, rfl, h1, h2⟩
        have := hW.size
        exact ⟨a, n, cap, rfl, h1.imp (fun b hb => ⟨by omega, hb.2⟩) (fun _ _ _ _ _ h => h), hW.trans (h2.mono hW.size)⟩
      have HN : Hid (∀ W1 a n cap, Below wr.heap.size wr W1 → SlAt (fun b => w.heap.size < b ∧ b < W1.heap.size) (StrAt W1) 1 l[j].params (.slice a n cap) → RowJ w 44 3 (SgP w.heap.size) l (j + 1) (((W1.setCell ⟨w.heap.size, j * 3, none⟩ (.string l[j].name)).setCell ⟨w.heap.size, j * 3 + 1, none⟩ (.slice a n cap)).setCell ⟨w.heap.size, j * 3 + 2, none⟩ (.string l[j].result))) := fun W1 a n cap h1 h2 =>
        hrj.step (sgP_stays _) h1 hlt [.string l[j].name, .slice a n cap, .string l[j].result] rfl (fun hc ho hs => ⟨⟨hc 0 (by simp), m0⟩, ⟨_, hc 1 (by simp), strSl_keep ⟨fun b hb => ho b (by have := hb.1; omega) hb.2, fun b hb => ⟨hb.1, by rw [hs]; exact hb.2⟩⟩ h2⟩, hc 2 (by simp), m1⟩)
      have HRm : Hid (∀ W1, Below wr.heap.size wr W1 → ((∃ u, W1.cell? ⟨w.heap.size, j * 3, none⟩ = some u) ∧ W1.frozen? ⟨w.heap.size, j * 3, none⟩ = false) ∧ ((∃ u, W1.cell? ⟨w.heap.size, j * 3 + 1, none⟩ = some u) ∧ W1.frozen? ⟨w.heap.size, j * 3 + 1, none⟩ = false) ∧ (∃ u, W1.cell? ⟨w.heap.size, j * 3 + 2, none⟩ = some u) ∧ W1.frozen? ⟨w.heap.size, j * 3 + 2, none⟩ = false) := fun W1 h1 =>
        ⟨hrj.room h1 hlt 0 (by omega), hrj.room h1 hlt 1 (by omega), hrj.room h1 hlt 2 (by omega)⟩
      have HA : Hid (∀ o, Below wr.heap.size wr (wr.alloc o)) := fun o => (Below.refl _ _).alloc (Nat.le_refl _) _
      have hbr : b < wr.heap.size := Nat.lt_of_lt_of_le hbk hrj.bel.size
      clear hrj a0 a1 a2 HV m0 m1 hsm hat hsg
      generalize l[j].name = x at *
      generalize l[j].result = y at *
      generalize l[j].params = ps at *
      go_wp2_with fail
      refine (HC.out _ (HA.out _)).mono ?_
      rintro e w' ⟨a', n', cap', rfl, hsl, hb'⟩
      obtain ⟨⟨⟨u, hu⟩, hfz⟩, ⟨⟨u', hu'⟩, hfz'⟩, ⟨u2, hu2⟩, hfz2⟩ := HRm.out _ hb'
      have HN' := veil (HN.out _ _ _ _ hb' hsl)
      clear hb' hsl
      go_wp2_with fail
      exact ⟨⟨j + 1, by omega, by go_num, HN'.out⟩, by simp [intOf]; omega⟩
    · have hnl : ¬ (j : Int) < (l.length : Int) := by omega
      have hje : j = l.length := by omega
      have HW : Hid (SlAt (fun b => w.heap.size ≤ b ∧ b < wr.heap.size) (SgAt (fun b => w.heap.size ≤ b ∧ b < wr.heap.size) wr) 3 l (.slice (some ⟨w.heap.size, 0, none⟩) l.length l.length)) := by
        subst hje
        refine hrj.whole HL.out (S := fun b => w.heap.size ≤ b ∧ b < wr.heap.size) ⟨Nat.le_refl _, hrj.lt⟩ (fun x o h => ?_)
        obtain ⟨h0, ⟨v, hv, hl⟩, h1⟩ := h
        exact ⟨h0, ⟨v, hv, hl.imp (fun b hb => ⟨by have := hb.1; omega, hb.2⟩) (fun _ _ _ _ _ h => h)⟩, h1⟩
      have HB := veil hrj.bel
      clear hrj HV hje
      go_wp2_with fail
      go_ret
      exact ⟨_, rfl, HW.out, HB.out⟩

/-- what Copy's region keeps. -/
def FcBox (w : World) (p q : Value) (W : World) : Prop :=
  Below w.heap.size w W ∧ W.cell? ⟨w.heap.size, 0, none⟩ = some p ∧ W.cell? ⟨w.heap.size, 1, none⟩ = some q
theorem FcBox.later {w : World} {p q : Value} {W W' : World} (h : FcBox w p q W) (hb : Below W.heap.size W W') : FcBox w p q W' := by
  obtain ⟨h0, h1, h2⟩ := h
  exact ⟨h0.trans (hb.mono h0.size), (hb.cell (World.block_lt_of_cell? _ _ h1)).trans h1, (hb.cell (World.block_lt_of_cell? _ _ h2)).trans h2⟩
theorem FcBox.set {w : World} {p q : Value} {W : World} (h : FcBox w p q W) (o : Nat) (u : Value) : FcBox w p q (W.setCell ⟨w.heap.size + 1, o, none⟩ u) := by
  obtain ⟨h0, h1, h2⟩ := h
  refine ⟨h0.setCell (by show w.heap.size ≤ w.heap.size + 1; omega) _, ?_, ?_⟩
  · rw [World.cell?_setCell_far _ _ _ _ (by show w.heap.size + 1 ≠ w.heap.size; omega)]; exact h1
  · rw [World.cell?_setCell_far _ _ _ _ (by show w.heap.size + 1 ≠ w.heap.size; omega)]; exact h2


set_option maxHeartbeats 8000000 in
theorem copy_face (S : Nat → Prop) (f : Fc) (v : Value) (w : World) (hS : ∀ b, S b → b < w.heap.size) (hv : FcIs S w f v) (hz : fcSmall f) :
    Calls Tryz.prog 53 #[v] w fun e w' => ∃ a n cap a2 n2 cap2, e = .returned (.agg #[.slice a n cap, .slice a2 n2 cap2]) ∧ FcCs (fun b => w.heap.size ≤ b ∧ b < w'.heap.size) w' f (.slice a n cap) (.slice a2 n2 cap2) ∧ Below w.heap.size w w' := by
  obtain ⟨vt, vf, rfl, ht, hf⟩ := hv
  obtain ⟨⟨z0, z1⟩, z2, z3⟩ := hz
  have HCt : Hid (∀ W, Below w.heap.size w W → w.heap.size + 2 ≤ W.heap.size → Calls Tryz.prog 76 #[vt, .func (.func 77) #[] #[]] W fun e w' => ∃ u, e = .returned u ∧ SlAt (fun b => w.heap.size + 2 ≤ b ∧ b < w'.heap.size) (KnAt w') 2 f.types u ∧ Below W.heap.size W w') := fun W hW h2 => by
    refine (copy_kns S _ _ W (fun b hb => Nat.lt_of_lt_of_le (hS b hb) hW.size) (knSl_keep (Keeps.below hW hS) ht) z0 z1).mono ?_
    rintro e w' ⟨u, rfl, h3, h4⟩
    exact ⟨u, rfl, h3.imp (fun b hb => ⟨by omega, hb.2⟩) (fun _ _ _ _ _ h => h), h4⟩
  have HCf : Hid (∀ W, Below w.heap.size w W → w.heap.size + 2 ≤ W.heap.size → Calls Tryz.prog 78 #[vf, .func (.func 56) #[] #[]] W fun e w' => ∃ u, e = .returned u ∧ SlAt (fun b => w.heap.size + 2 ≤ b ∧ b < w'.heap.size) (SgAt (fun b => w.heap.size + 2 ≤ b ∧ b < w'.heap.size) w') 3 f.funcs u ∧ Below W.heap.size W w') := fun W hW h2 => by
    refine (copy_sgs S _ _ W (fun b hb => Nat.lt_of_lt_of_le (hS b hb) hW.size) (sgSl_keep (Keeps.below hW hS) hf) z2 z3).mono ?_
    rintro e w' ⟨u, rfl, h3, h4⟩
    exact ⟨u, rfl, sgSl_keep ⟨fun _ _ => rfl, fun b hb => ⟨by omega, hb.2⟩⟩ h3, h4⟩
  obtain ⟨a, k, cap, rfl⟩ := ht.slice
  obtain ⟨a2, k2, cap2, rfl⟩ := hf.slice
  obtain ⟨w2, hwe, hs2, p0, p1, hbel, hq⟩ : ∃ w2, (w.alloc (.cells #[.slice a k cap, .slice a2 k2 cap2] 31)).alloc (.cells #[.slice none 0 0, .slice none 0 0] 31) = w2 ∧ w2.heap.size = w.heap.size + 2 ∧
      w2.cell? ⟨w.heap.size, 0, none⟩ = some (.slice a k cap) ∧ w2.cell? ⟨w.heap.size, 1, none⟩ = some (.slice a2 k2 cap2) ∧ Below w.heap.size w w2 ∧
      (w2.cell? ⟨w.heap.size + 1, 0, none⟩ = some (.slice none 0 0) ∧ w2.cell? ⟨w.heap.size + 1, 1, none⟩ = some (.slice none 0 0)) ∧
      w2.frozen? ⟨w.heap.size + 1, 0, none⟩ = false ∧ w2.frozen? ⟨w.heap.size + 1, 1, none⟩ = false :=
    ⟨_, rfl, by simp, by simp [go_sem], by simp [go_sem], ((Below.refl _ _).alloc (Nat.le_refl _) _).alloc (by simp) _, ⟨by simp [go_sem], by simp [go_sem]⟩, by simp [go_sem], by simp [go_sem]⟩
  have HWe := veil hwe
  have HX : Hid (Below (w.heap.size + 2) w2 w2.drew) := (Below.refl _ _).drew
  have HBel := veil hbel
  have HB0 : Hid (∀ W, Below (w.heap.size + 2) w2 W → Below w.heap.size w W ∧ w.heap.size + 2 ≤ W.heap.size) := fun W h => ⟨HBel.out.trans (h.mono (by omega)), by have := h.size; omega⟩
  have HK0 : Hid (FcBox w (.slice a k cap) (.slice a2 k2 cap2) w2.drew) := ⟨hbel.drew, p0, p1⟩
  have HN : Hid (∀ W W', FcBox w (.slice a k cap) (.slice a2 k2 cap2) W → Below W.heap.size W W' → FcBox w (.slice a k cap) (.slice a2 k2 cap2) W') := fun _ _ h hb => h.later hb
  have HN2 : Hid (∀ W u v, FcBox w (.slice a k cap) (.slice a2 k2 cap2) W → FcBox w (.slice a k cap) (.slice a2 k2 cap2) ((W.setCell ⟨w.heap.size + 1, 0, none⟩ u).setCell ⟨w.heap.size + 1, 1, none⟩ v)) := fun _ u v h => (h.set 0 u).set 1 v
  have HQ : Hid (∀ W, Below (w.heap.size + 2) w2 W → (W.cell? ⟨w.heap.size + 1, 0, none⟩ = some (.slice none 0 0) ∧ W.cell? ⟨w.heap.size + 1, 1, none⟩ = some (.slice none 0 0)) ∧ W.frozen? ⟨w.heap.size + 1, 0, none⟩ = false ∧ W.frozen? ⟨w.heap.size + 1, 1, none⟩ = false) := fun W h => by
    obtain ⟨⟨q0, q1⟩, f0, f1⟩ := hq
    exact ⟨⟨(h.cell (by show w.heap.size + 1 < _; omega)).trans q0, (h.cell (by show w.heap.size + 1 < _; omega)).trans q1⟩, (h.frozen (by show w.heap.size + 1 < _; omega)).trans f0, (h.frozen (by show w.heap.size + 1 < _; omega)).trans f1⟩
  have HFin : Hid (∀ (W : World) (p q u v : Value), SlAt (fun b => w.heap.size + 2 ≤ b ∧ b < W.heap.size) (KnAt W) 2 f.types p → SlAt (fun b => w.heap.size + 2 ≤ b ∧ b < W.heap.size) (SgAt (fun b => w.heap.size + 2 ≤ b ∧ b < W.heap.size) W) 3 f.funcs q → FcCs (fun b => w.heap.size ≤ b ∧ b < ((W.setCell ⟨w.heap.size + 1, 0, none⟩ u).setCell ⟨w.heap.size + 1, 1, none⟩ v).heap.size) ((W.setCell ⟨w.heap.size + 1, 0, none⟩ u).setCell ⟨w.heap.size + 1, 1, none⟩ v) f p q) := fun W p q u v h h' => by
    have k1 := keep_set (B := w.heap.size + 2) (g := w.heap.size + 1) (W := W) (by omega) 0 u
    have k2 := keep_set (B := w.heap.size + 2) (g := w.heap.size + 1) (W := W.setCell ⟨w.heap.size + 1, 0, none⟩ u) (by omega) 1 v
    have k3 : Keeps (fun b => w.heap.size + 2 ≤ b ∧ b < ((W.setCell ⟨w.heap.size + 1, 0, none⟩ u).setCell ⟨w.heap.size + 1, 1, none⟩ v).heap.size) (fun b => w.heap.size ≤ b ∧ b < ((W.setCell ⟨w.heap.size + 1, 0, none⟩ u).setCell ⟨w.heap.size + 1, 1, none⟩ v).heap.size) ((W.setCell ⟨w.heap.size + 1, 0, none⟩ u).setCell ⟨w.heap.size + 1, 1, none⟩ v) ((W.setCell ⟨w.heap.size + 1, 0, none⟩ u).setCell ⟨w.heap.size + 1, 1, none⟩ v) := ⟨fun _ _ => rfl, fun b hb => ⟨by omega, hb.2⟩⟩
    exact ⟨knSl_keep k3 (knSl_keep k2 (knSl_keep k1 h)), sgSl_keep k3 (sgSl_keep k2 (sgSl_keep k1 h'))⟩
  clear ht hf z0 z1 z2 z3 hwe p0 p1 hbel hq
  go_enter Tryz.func53, Tryz.ntmps53
  go_wp2_with fail
  rw [HWe.out]
  clear HWe
  go_region_held3 (fun W => Below w.heap.size w W ∧ W.cell? ⟨w.heap.size, 0, none⟩ = some (.slice a k cap) ∧ W.cell? ⟨w.heap.size, 1, none⟩ = some (.slice a2 k2 cap2)) (first | exact HK0.out | exact HN.out _ _ (by assumption) (by assumption) | exact HN2.out _ _ _ (by assumption))
    (first
      | (go_at_call 76; refine (HCt.out _ (HB0.out _ HX.out).1 (HB0.out _ HX.out).2).mono ?_; rintro e w' ⟨u, rfl, hsl, hb'⟩; obtain ⟨a', n', cap', rfl⟩ := hsl.slice; have HP := veil hsl; clear hsl; (try replace HR := veil (sgSl_keep (keep_new hb') HR.out)); replace HX := veil (HX.out.trans (hb'.mono (HB0.out _ HX.out).2)); obtain ⟨⟨g0, g1⟩, g2, g3⟩ := HQ.out _ HX.out)
      | (go_at_call 78; refine (HCf.out _ (HB0.out _ HX.out).1 (HB0.out _ HX.out).2).mono ?_; rintro e w' ⟨u, rfl, hsl, hb'⟩; obtain ⟨a3, n3, cap3, rfl⟩ := hsl.slice; have HR := veil hsl; clear hsl; (try replace HP := veil (knSl_keep (keep_new hb') HP.out)); replace HX := veil (HX.out.trans (hb'.mono (HB0.out _ HX.out).2)); obtain ⟨⟨g0, g1⟩, g2, g3⟩ := HQ.out _ HX.out))
  all_goals
    rename_i hHeld
    have HB := veil hHeld.1
    clear hHeld
    go_wp2_with fail
    exact bodyPost_ret (v := .agg #[.slice a' n' cap', .slice a3 n3 cap3]) (by simp [results, Tryz.results53, go_sem, g0, g1]) rfl ⟨a', n', cap', a3, n3, cap3, rfl, HFin.out _ _ _ _ _ HP.out HR.out, HB.out⟩

end Go.Proofs.YtcpnfkeoajeodaaGreatDoor
