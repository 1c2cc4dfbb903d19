/- What face.copyFunc answers: the same, its texts copied, its parameters in a row of their own. -/
import Derived.Test.YtieoddnaknpmlaeFaceCopy2
namespace Go.Proofs.Ytieoddnaknpmlae
open Go.RowKit

theorem keep_new {B : Nat} {W W' : World} (h : Below W.heap.size W W') : Keeps (fun b => B ≤ b ∧ b < W.heap.size) (fun b => B ≤ b ∧ b < W'.heap.size) W W' :=
  ⟨fun b hb => h.block b hb.2, fun _ hb => ⟨hb.1, Nat.lt_of_lt_of_le hb.2 h.size⟩⟩
theorem keep_set {B g : Nat} {W : World} (hg : g < B) (o : Nat) (u : Value) : Keeps (fun b => B ≤ b ∧ b < W.heap.size) (fun b => B ≤ b ∧ b < (W.setCell ⟨g, o, none⟩ u).heap.size) W (W.setCell ⟨g, o, none⟩ u) :=
  ⟨fun b hb => Below.heap_setCell _ _ _ _ (by show b ≠ g; have := hb.1; omega), fun _ hb => ⟨hb.1, by rw [size_setCell']; exact hb.2⟩⟩

/-- what copyFunc's region keeps. -/
def SgBox (w : World) (x y : ByteArray) (p : Value) (W : World) : Prop :=
  Below w.heap.size w W ∧ W.cell? ⟨w.heap.size, 0, none⟩ = some (.string x) ∧ W.cell? ⟨w.heap.size, 1, none⟩ = some p ∧ W.cell? ⟨w.heap.size, 2, none⟩ = some (.string y)

theorem SgBox.later {w : World} {x y : ByteArray} {p : Value} {W W' : World} (h : SgBox w x y p W) (hb : Below W.heap.size W W') : SgBox w x y p W' := by
  obtain ⟨h0, h1, h2, h3⟩ := h
  exact ⟨h0.trans (hb.mono h0.size), (hb.cell (World.block_lt_of_cell? _ _ h1)).trans h1, (hb.cell (World.block_lt_of_cell? _ _ h2)).trans h2, (hb.cell (World.block_lt_of_cell? _ _ h3)).trans h3⟩

theorem SgBox.set {w : World} {x y : ByteArray} {p : Value} {W : World} (h : SgBox w x y p W) (o : Nat) (u : Value) : SgBox w x y p (W.setCell ⟨w.heap.size + 1, o, none⟩ u) := by
  obtain ⟨h0, h1, h2, h3⟩ := h
  refine ⟨h0.setCell (by show w.heap.size ≤ w.heap.size + 1; omega) _, ?_, ?_, ?_⟩
  · rw [World.cell?_setCell_far _ _ _ _ (by show w.heap.size + 1 ≠ w.heap.size; omega)]; exact h1
  · rw [World.cell?_setCell_far _ _ _ _ (by show w.heap.size + 1 ≠ w.heap.size; omega)]; exact h2
  · rw [World.cell?_setCell_far _ _ _ _ (by show w.heap.size + 1 ≠ w.heap.size; omega)]; exact h3

set_option maxHeartbeats 8000000 in
theorem copyFunc_any (S : Nat → Prop) (g : Sg) (v : Value) (w : World) (hS : ∀ b, S b → b < w.heap.size) (hv : SgIs S w g v) (hz : sgSmall g) :
    Calls Try.prog 35 #[v] w fun e w' => ∃ a n cap, e = .returned (.agg #[.string g.name, .slice a n cap, .string g.result]) ∧ SlAt (fun b => w.heap.size ≤ b ∧ b < w'.heap.size) (StrAt w') 1 g.params (.slice a n cap) ∧ Below w.heap.size w w' := by
  have hr := reachBytes_lt
  obtain ⟨vp, rfl, hn, hrs, hp⟩ := hv
  obtain ⟨z0, z1, z2, z3⟩ := hz
  have HCx : Hid (∀ W, Calls Try.prog 32 #[.string g.name] W fun e w' => e = .returned (.string g.name) ∧ Below W.heap.size W w') := fun W => clone_kind _ W (by omega)
  have HCy : Hid (∀ W, Calls Try.prog 32 #[.string g.result] W fun e w' => e = .returned (.string g.result) ∧ Below W.heap.size W w') := fun W => clone_kind _ W (by omega)
  have HCp : Hid (∀ W, Below w.heap.size w W → w.heap.size + 2 ≤ W.heap.size → Calls Try.prog 52 #[vp, .func (.func 32) #[] #[]] W fun e w' => ∃ u, e = .returned u ∧ SlAt (fun b => w.heap.size + 2 ≤ b ∧ b < w'.heap.size) (StrAt w') 1 g.params u ∧ Below W.heap.size W w') := fun W hW h2 => by
    refine (copy_strs S _ _ W (fun b hb => Nat.lt_of_lt_of_le (hS b hb) hW.size) (strSl_keep (Keeps.below hW hS) hp) z2 z3).mono ?_
    rintro e w' ⟨u, rfl, h3, h4⟩
    exact ⟨u, rfl, h3.imp (fun b hb => ⟨by omega, hb.2⟩) (fun _ _ _ _ _ h => h), h4⟩
  obtain ⟨a, k, cap, rfl⟩ := hp.slice
  generalize g.name = x at *
  generalize g.result = y at *
  generalize g.params = ps at *
  obtain ⟨w2, hwe, hs2, p0, p1, p2, hbel, hq⟩ : ∃ w2, (w.alloc (.cells #[.string x, .slice a k cap, .string y] 34)).alloc (.cells #[.string ⟨#[]⟩, .slice none 0 0, .string ⟨#[]⟩] 34) = w2 ∧ w2.heap.size = w.heap.size + 2 ∧
      w2.cell? ⟨w.heap.size, 0, none⟩ = some (.string x) ∧ w2.cell? ⟨w.heap.size, 1, none⟩ = some (.slice a k cap) ∧ w2.cell? ⟨w.heap.size, 2, none⟩ = some (.string y) ∧ Below w.heap.size w w2 ∧
      (w2.cell? ⟨w.heap.size + 1, 0, none⟩ = some (.string ⟨#[]⟩) ∧ w2.cell? ⟨w.heap.size + 1, 1, none⟩ = some (.slice none 0 0) ∧ w2.cell? ⟨w.heap.size + 1, 2, none⟩ = some (.string ⟨#[]⟩)) ∧
      w2.frozen? ⟨w.heap.size + 1, 0, none⟩ = false ∧ w2.frozen? ⟨w.heap.size + 1, 1, none⟩ = false ∧ w2.frozen? ⟨w.heap.size + 1, 2, none⟩ = false :=
    ⟨_, rfl, by simp, by simp [go_sem], by simp [go_sem], by simp [go_sem], ((Below.refl _ _).alloc (Nat.le_refl _) _).alloc (by simp) _, ⟨by simp [go_sem], by simp [go_sem], by simp [go_sem]⟩, by simp [go_sem], by simp [go_sem], by simp [go_sem]⟩
  have HWe := veil hwe
  have HX : Hid (Below (w.heap.size + 2) w2 w2.drew) := (Below.refl _ _).drew
  have HBel := veil hbel
  have HB0 : Hid (∀ W, Below (w.heap.size + 2) w2 W → Below w.heap.size w W ∧ w.heap.size + 2 ≤ W.heap.size) := fun W h => ⟨HBel.out.trans (h.mono (by omega)), by have := h.size; omega⟩
  have HK0 : Hid (SgBox w x y (.slice a k cap) w2.drew) := ⟨hbel.drew, p0, p1, p2⟩
  have HN : Hid (∀ W W', SgBox w x y (.slice a k cap) W → Below W.heap.size W W' → SgBox w x y (.slice a k cap) W') := fun _ _ h hb => h.later hb
  have HN2 : Hid (∀ W u v t, SgBox w x y (.slice a k cap) W → SgBox w x y (.slice a k cap) (((W.setCell ⟨w.heap.size + 1, 0, none⟩ u).setCell ⟨w.heap.size + 1, 1, none⟩ v).setCell ⟨w.heap.size + 1, 2, none⟩ t)) := fun _ u v t h => ((h.set 0 u).set 1 v).set 2 t
  have HQ : Hid (∀ W, Below (w.heap.size + 2) w2 W → (W.cell? ⟨w.heap.size + 1, 0, none⟩ = some (.string ⟨#[]⟩) ∧ W.cell? ⟨w.heap.size + 1, 1, none⟩ = some (.slice none 0 0) ∧ W.cell? ⟨w.heap.size + 1, 2, none⟩ = some (.string ⟨#[]⟩)) ∧ W.frozen? ⟨w.heap.size + 1, 0, none⟩ = false ∧ W.frozen? ⟨w.heap.size + 1, 1, none⟩ = false ∧ W.frozen? ⟨w.heap.size + 1, 2, none⟩ = false) := fun W h => by
    obtain ⟨⟨q0, q1, q2⟩, f0, f1, f2⟩ := hq
    exact ⟨⟨(h.cell (by show w.heap.size + 1 < _; omega)).trans q0, (h.cell (by show w.heap.size + 1 < _; omega)).trans q1, (h.cell (by show w.heap.size + 1 < _; omega)).trans q2⟩, (h.frozen (by show w.heap.size + 1 < _; omega)).trans f0, (h.frozen (by show w.heap.size + 1 < _; omega)).trans f1, (h.frozen (by show w.heap.size + 1 < _; omega)).trans f2⟩
  have HFin : Hid (∀ (W : World) (p u v t : Value), SlAt (fun b => w.heap.size + 2 ≤ b ∧ b < W.heap.size) (StrAt W) 1 ps p → SlAt (fun b => w.heap.size ≤ b ∧ b < (((W.setCell ⟨w.heap.size + 1, 0, none⟩ u).setCell ⟨w.heap.size + 1, 1, none⟩ v).setCell ⟨w.heap.size + 1, 2, none⟩ t).heap.size) (StrAt (((W.setCell ⟨w.heap.size + 1, 0, none⟩ u).setCell ⟨w.heap.size + 1, 1, none⟩ v).setCell ⟨w.heap.size + 1, 2, none⟩ t)) 1 ps p) := fun W p u v t h => by
    have h1 := strSl_keep (keep_set (B := w.heap.size + 2) (g := w.heap.size + 1) (by omega) 0 u) h
    have h2 := strSl_keep (keep_set (B := w.heap.size + 2) (g := w.heap.size + 1) (by omega) 1 v) h1
    have h3 := strSl_keep (keep_set (B := w.heap.size + 2) (g := w.heap.size + 1) (by omega) 2 t) h2
    exact h3.imp (fun b hb => ⟨by omega, hb.2⟩) (fun _ _ _ _ _ h => h)
  clear hn hrs hp z0 z1 z2 z3 hr hwe p0 p1 p2 hbel hq
  go_enter Try.func35, Try.ntmps35
  go_wp2_with fail
  rw [HWe.out]
  clear HWe
  go_region_held3 (fun W => Below w.heap.size w W ∧ W.cell? ⟨w.heap.size, 0, none⟩ = some (.string x) ∧ W.cell? ⟨w.heap.size, 1, none⟩ = some (.slice a k cap) ∧ W.cell? ⟨w.heap.size, 2, none⟩ = some (.string y)) (first | exact HK0.out | exact HN.out _ _ (by assumption) (by assumption) | exact HN2.out _ _ _ _ (by assumption))
    (first
      | (go_at_call 52; refine (HCp.out _ (HB0.out _ HX.out).1 (HB0.out _ HX.out).2).mono ?_; rintro e w' ⟨u, rfl, hsl, hb'⟩; obtain ⟨a', n', cap', rfl⟩ := hsl.slice; have HP := veil hsl; clear hsl; replace HX := veil (HX.out.trans (hb'.mono (HB0.out _ HX.out).2)); obtain ⟨⟨g0, g1, g2⟩, g3, g4, g5⟩ := HQ.out _ HX.out)
      | (go_at_call_of 32 (Value.string x); refine (HCx.out _).mono ?_; rintro e w' ⟨rfl, hb'⟩; (try replace HP := veil (strSl_keep (keep_new hb') HP.out)); replace HX := veil (HX.out.trans (hb'.mono (HB0.out _ HX.out).2)); obtain ⟨⟨g0, g1, g2⟩, g3, g4, g5⟩ := HQ.out _ HX.out)
      | (go_at_call_of 32 (Value.string y); refine (HCy.out _).mono ?_; rintro e w' ⟨rfl, hb'⟩; (try replace HP := veil (strSl_keep (keep_new hb') HP.out)); replace HX := veil (HX.out.trans (hb'.mono (HB0.out _ HX.out).2)); obtain ⟨⟨g0, g1, g2⟩, g3, g4, g5⟩ := HQ.out _ HX.out))
  all_goals
    rename_i hHeld
    have HB := veil hHeld.1
    clear hHeld
    go_wp2_with fail
    exact bodyPost_ret (v := .agg #[.string x, .slice a' n' cap', .string y]) (by simp [results, Try.results35, go_sem, g0, g1, g2]) rfl ⟨a', n', cap', rfl, HFin.out _ _ _ _ _ HP.out, HB.out⟩

end Go.Proofs.Ytieoddnaknpmlae
