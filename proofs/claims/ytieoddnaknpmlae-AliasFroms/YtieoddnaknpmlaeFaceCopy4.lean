/- What face.copyEach answers at functions' names with what they take, and face.Copy at a face: the same, in memory of its own. -/
import Derived.Test.YtieoddnaknpmlaeFaceCopy3
namespace Go.Proofs.Ytieoddnaknpmlae
open Go.RowKit

theorem sg_info : (Try.prog.info? 34).map (fun i => (i.zero, i.size, i.bytes)) = some (some (.agg #[.string ⟨#[]⟩, .slice none 0 0, .string ⟨#[]⟩]), 3, 56) := by kernel_rfl

def SgP (B : Nat) (W : World) (g : Sg) (o : Nat) : Prop := SgAt (fun b => B < b ∧ b < W.heap.size) W g B o
theorem sgP_stays (B : Nat) : Stays B 3 (SgP B) := fun W W' x o ho hs h hp => by
  obtain ⟨⟨h0, z0⟩, ⟨v, hv, hl⟩, h1, z1⟩ := hp
  exact ⟨⟨(h 0 (by omega)).trans h0, z0⟩, ⟨v, (h 1 (by omega)).trans hv, strSl_keep ⟨fun b hb => ho b (by have := hb.1; omega) hb.2, fun b hb => ⟨hb.1, Nat.lt_of_lt_of_le hb.2 hs⟩⟩ hl⟩, (h 2 (by omega)).trans h1, z1⟩

theorem sg_cells' {S : Nat → Prop} {w : World} {g : Sg} {b o : Nat} (h : SgAt S w g b o) : ∃ a n cap, w.cell? ⟨b, o, none⟩ = some (.string g.name) ∧ w.cell? ⟨b, o + 1, none⟩ = some (.slice a n cap) ∧ w.cell? ⟨b, o + 2, none⟩ = some (.string g.result) ∧ (g.name.size ≤ maxLen ∧ g.result.size ≤ maxLen) ∧ SgIs S w g (.agg #[.string g.name, .slice a n cap, .string g.result]) := by
  obtain ⟨⟨h0, z0⟩, ⟨v, hv, hp⟩, h1, z1⟩ := h
  obtain ⟨a, cap, rfl⟩ := hp.is
  exact ⟨a, _, cap, h0, hv, h1, ⟨z0, z1⟩, _, rfl, z0, z1, hp⟩

set_option maxHeartbeats 4000000 in
theorem copy_sgs (S : Nat → Prop) (l : List Sg) (v : Value) (w : World) (hS : ∀ b, S b → b < w.heap.size) (hv : SlAt S (SgAt S w) 3 l v) (hz : l.length * 56 ≤ reachBytes) (he : ∀ s ∈ l, sgSmall s) :
    Calls Try.prog 71 #[v, .func (.func 35) #[] #[]] w fun e w' => ∃ u, e = .returned u ∧ SlAt (fun b => w.heap.size ≤ b ∧ b < w'.heap.size) (SgAt (fun b => w.heap.size ≤ b ∧ b < w'.heap.size) w') 3 l u ∧ Below w.heap.size w w' := by
  have hr := reachBytes_lt
  have HL := veil (SlAt.len hv)
  have HV := veil hv
  obtain ⟨a, cap, rfl⟩ := hv.is
  have hlen : l.length ≤ 9223372036854775807 := by have := HL.out; unfold maxLen at this; omega
  obtain ⟨arr, harr, hmk⟩ := made_row Try.underlying23 sg_info l.length (by omega) HL.out
  have HJ : Hid (RowJ w 34 3 (SgP w.heap.size) l 0 (w.alloc (.cells arr 34))) := RowJ.start harr
  have HZ := veil he
  clear hv hz he harr
  go_enter Try.func71, Try.ntmps71
  go_wp2_with fail
  clear hmk
  go_loopw [13] (fun i wr => ∃ j : Nat, j ≤ l.length ∧ i = .int .i64 j ∧ RowJ w 34 3 (SgP w.heap.size) l j wr) (fun i _ => l.length - (intOf i).toNat)
  case atStart => exact ⟨0, Nat.zero_le _, rfl, HJ.out⟩
  case round =>
    obtain ⟨j, hj, rfl, hrj⟩ := hrel
    clear HJ
    by_cases hlt : j < l.length
    · have hlt' : (j : Int) < (l.length : Int) := by omega
      have hj0 : (0 : Int) ≤ (j : Int) := by omega
      obtain ⟨_, b, off, rfl, hb, hat⟩ := HV.out.at hlt
      have hbk := hS b hb
      obtain ⟨p1, p2, p3, a0, a1, a2, ⟨m0, m1⟩, hsg⟩ := sg_cells' hat
      have d0 := (hrj.bel.cell (p := ⟨b, off + j * 3, none⟩) hbk).trans a0
      have d1 := (hrj.bel.cell (p := ⟨b, off + j * 3 + 1, none⟩) hbk).trans a1
      have d2 := (hrj.bel.cell (p := ⟨b, off + j * 3 + 2, none⟩) hbk).trans a2
      have hsm := HZ.out _ (List.getElem_mem hlt)
      have hrlt := hrj.lt
      have HC : Hid (∀ W, Below wr.heap.size wr W → Calls Try.prog 35 #[.agg #[.string l[j].name, .slice p1 p2 p3, .string l[j].result]] W fun e w' => ∃ a n cap, e = .returned (.agg #[.string l[j].name, .slice a n cap, .string l[j].result]) ∧ SlAt (fun b => w.heap.size < b ∧ b < w'.heap.size) (StrAt w') 1 l[j].params (.slice a n cap) ∧ Below wr.heap.size wr w') := fun W hW => by
        have hbW := hrj.bel.trans (hW.mono hrj.bel.size)
        refine (copyFunc_any S l[j] _ W (fun b hb => Nat.lt_of_lt_of_le (hS b hb) hbW.size) (hsg.keep (Keeps.below hbW hS)) hsm).mono ?_
        rintro e w' ⟨a, n, cap, rfl, h1, h2⟩
        have := hW.size
        exact ⟨a, n, cap, rfl, h1.imp (fun b hb => ⟨by omega, hb.2⟩) (fun _ _ _ _ _ h => h), hW.trans (h2.mono hW.size)⟩
      have HN : Hid (∀ W1 a n cap, Below wr.heap.size wr W1 → SlAt (fun b => w.heap.size < b ∧ b < W1.heap.size) (StrAt W1) 1 l[j].params (.slice a n cap) → RowJ w 34 3 (SgP w.heap.size) l (j + 1) (((W1.setCell ⟨w.heap.size, j * 3, none⟩ (.string l[j].name)).setCell ⟨w.heap.size, j * 3 + 1, none⟩ (.slice a n cap)).setCell ⟨w.heap.size, j * 3 + 2, none⟩ (.string l[j].result))) := fun W1 a n cap h1 h2 =>
        hrj.step (sgP_stays _) h1 hlt [.string l[j].name, .slice a n cap, .string l[j].result] rfl (fun hc ho hs => ⟨⟨hc 0 (by simp), m0⟩, ⟨_, hc 1 (by simp), strSl_keep ⟨fun b hb => ho b (by have := hb.1; omega) hb.2, fun b hb => ⟨hb.1, by rw [hs]; exact hb.2⟩⟩ h2⟩, hc 2 (by simp), m1⟩)
      have HRm : Hid (∀ W1, Below wr.heap.size wr W1 → ((∃ u, W1.cell? ⟨w.heap.size, j * 3, none⟩ = some u) ∧ W1.frozen? ⟨w.heap.size, j * 3, none⟩ = false) ∧ ((∃ u, W1.cell? ⟨w.heap.size, j * 3 + 1, none⟩ = some u) ∧ W1.frozen? ⟨w.heap.size, j * 3 + 1, none⟩ = false) ∧ (∃ u, W1.cell? ⟨w.heap.size, j * 3 + 2, none⟩ = some u) ∧ W1.frozen? ⟨w.heap.size, j * 3 + 2, none⟩ = false) := fun W1 h1 =>
        ⟨hrj.room h1 hlt 0 (by omega), hrj.room h1 hlt 1 (by omega), hrj.room h1 hlt 2 (by omega)⟩
      have HA : Hid (∀ o, Below wr.heap.size wr (wr.alloc o)) := fun o => (Below.refl _ _).alloc (Nat.le_refl _) _
      have hbr : b < wr.heap.size := Nat.lt_of_lt_of_le hbk hrj.bel.size
      clear hrj a0 a1 a2 HV m0 m1 hsm hat hsg
      generalize l[j].name = x at *
      generalize l[j].result = y at *
      generalize l[j].params = ps at *
      go_wp2_with fail
      refine (HC.out _ (HA.out _)).mono ?_
      rintro e w' ⟨a', n', cap', rfl, hsl, hb'⟩
      obtain ⟨⟨⟨u, hu⟩, hfz⟩, ⟨⟨u', hu'⟩, hfz'⟩, ⟨u2, hu2⟩, hfz2⟩ := HRm.out _ hb'
      have HN' := veil (HN.out _ _ _ _ hb' hsl)
      clear hb' hsl
      go_wp2_with fail
      exact ⟨⟨j + 1, by omega, by go_num, HN'.out⟩, by simp [intOf]; omega⟩
    · have hnl : ¬ (j : Int) < (l.length : Int) := by omega
      have hje : j = l.length := by omega
      have HW : Hid (SlAt (fun b => w.heap.size ≤ b ∧ b < wr.heap.size) (SgAt (fun b => w.heap.size ≤ b ∧ b < wr.heap.size) wr) 3 l (.slice (some ⟨w.heap.size, 0, none⟩) l.length l.length)) := by
        subst hje
        refine hrj.whole HL.out (S := fun b => w.heap.size ≤ b ∧ b < wr.heap.size) ⟨Nat.le_refl _, hrj.lt⟩ (fun x o h => ?_)
        obtain ⟨h0, ⟨v, hv, hl⟩, h1⟩ := h
        exact ⟨h0, ⟨v, hv, hl.imp (fun b hb => ⟨by have := hb.1; omega, hb.2⟩) (fun _ _ _ _ _ h => h)⟩, h1⟩
      have HB := veil hrj.bel
      clear hrj HV hje
      go_wp2_with fail
      go_ret
      exact ⟨_, rfl, HW.out, HB.out⟩

/-- what Copy's region keeps. -/
def FcBox (w : World) (p q : Value) (W : World) : Prop :=
  Below w.heap.size w W ∧ W.cell? ⟨w.heap.size, 0, none⟩ = some p ∧ W.cell? ⟨w.heap.size, 1, none⟩ = some q
theorem FcBox.later {w : World} {p q : Value} {W W' : World} (h : FcBox w p q W) (hb : Below W.heap.size W W') : FcBox w p q W' := by
  obtain ⟨h0, h1, h2⟩ := h
  exact ⟨h0.trans (hb.mono h0.size), (hb.cell (World.block_lt_of_cell? _ _ h1)).trans h1, (hb.cell (World.block_lt_of_cell? _ _ h2)).trans h2⟩
theorem FcBox.set {w : World} {p q : Value} {W : World} (h : FcBox w p q W) (o : Nat) (u : Value) : FcBox w p q (W.setCell ⟨w.heap.size + 1, o, none⟩ u) := by
  obtain ⟨h0, h1, h2⟩ := h
  refine ⟨h0.setCell (by show w.heap.size ≤ w.heap.size + 1; omega) _, ?_, ?_⟩
  · rw [World.cell?_setCell_far _ _ _ _ (by show w.heap.size + 1 ≠ w.heap.size; omega)]; exact h1
  · rw [World.cell?_setCell_far _ _ _ _ (by show w.heap.size + 1 ≠ w.heap.size; omega)]; exact h2


set_option maxHeartbeats 8000000 in
theorem copy_face (S : Nat → Prop) (f : Fc) (v : Value) (w : World) (hS : ∀ b, S b → b < w.heap.size) (hv : FcIs S w f v) (hz : fcSmall f) :
    Calls Try.prog 46 #[v] w fun e w' => ∃ a n cap a2 n2 cap2, e = .returned (.agg #[.slice a n cap, .slice a2 n2 cap2]) ∧ FcCs (fun b => w.heap.size ≤ b ∧ b < w'.heap.size) w' f (.slice a n cap) (.slice a2 n2 cap2) ∧ Below w.heap.size w w' := by
  obtain ⟨vt, vf, rfl, ht, hf⟩ := hv
  obtain ⟨⟨z0, z1⟩, z2, z3⟩ := hz
  have HCt : Hid (∀ W, Below w.heap.size w W → w.heap.size + 2 ≤ W.heap.size → Calls Try.prog 69 #[vt, .func (.func 70) #[] #[]] W fun e w' => ∃ u, e = .returned u ∧ SlAt (fun b => w.heap.size + 2 ≤ b ∧ b < w'.heap.size) (KnAt w') 2 f.types u ∧ Below W.heap.size W w') := fun W hW h2 => by
    refine (copy_kns S _ _ W (fun b hb => Nat.lt_of_lt_of_le (hS b hb) hW.size) (knSl_keep (Keeps.below hW hS) ht) z0 z1).mono ?_
    rintro e w' ⟨u, rfl, h3, h4⟩
    exact ⟨u, rfl, h3.imp (fun b hb => ⟨by omega, hb.2⟩) (fun _ _ _ _ _ h => h), h4⟩
  have HCf : Hid (∀ W, Below w.heap.size w W → w.heap.size + 2 ≤ W.heap.size → Calls Try.prog 71 #[vf, .func (.func 35) #[] #[]] W fun e w' => ∃ u, e = .returned u ∧ SlAt (fun b => w.heap.size + 2 ≤ b ∧ b < w'.heap.size) (SgAt (fun b => w.heap.size + 2 ≤ b ∧ b < w'.heap.size) w') 3 f.funcs u ∧ Below W.heap.size W w') := fun W hW h2 => by
    refine (copy_sgs S _ _ W (fun b hb => Nat.lt_of_lt_of_le (hS b hb) hW.size) (sgSl_keep (Keeps.below hW hS) hf) z2 z3).mono ?_
    rintro e w' ⟨u, rfl, h3, h4⟩
    exact ⟨u, rfl, sgSl_keep ⟨fun _ _ => rfl, fun b hb => ⟨by omega, hb.2⟩⟩ h3, h4⟩
  obtain ⟨a, k, cap, rfl⟩ := ht.slice
  obtain ⟨a2, k2, cap2, rfl⟩ := hf.slice
  obtain ⟨w2, hwe, hs2, p0, p1, hbel, hq⟩ : ∃ w2, (w.alloc (.cells #[.slice a k cap, .slice a2 k2 cap2] 25)).alloc (.cells #[.slice none 0 0, .slice none 0 0] 25) = w2 ∧ w2.heap.size = w.heap.size + 2 ∧
      w2.cell? ⟨w.heap.size, 0, none⟩ = some (.slice a k cap) ∧ w2.cell? ⟨w.heap.size, 1, none⟩ = some (.slice a2 k2 cap2) ∧ Below w.heap.size w w2 ∧
      (w2.cell? ⟨w.heap.size + 1, 0, none⟩ = some (.slice none 0 0) ∧ w2.cell? ⟨w.heap.size + 1, 1, none⟩ = some (.slice none 0 0)) ∧
      w2.frozen? ⟨w.heap.size + 1, 0, none⟩ = false ∧ w2.frozen? ⟨w.heap.size + 1, 1, none⟩ = false :=
    ⟨_, rfl, by simp, by simp [go_sem], by simp [go_sem], ((Below.refl _ _).alloc (Nat.le_refl _) _).alloc (by simp) _, ⟨by simp [go_sem], by simp [go_sem]⟩, by simp [go_sem], by simp [go_sem]⟩
  have HWe := veil hwe
  have HX : Hid (Below (w.heap.size + 2) w2 w2.drew) := (Below.refl _ _).drew
  have HBel := veil hbel
  have HB0 : Hid (∀ W, Below (w.heap.size + 2) w2 W → Below w.heap.size w W ∧ w.heap.size + 2 ≤ W.heap.size) := fun W h => ⟨HBel.out.trans (h.mono (by omega)), by have := h.size; omega⟩
  have HK0 : Hid (FcBox w (.slice a k cap) (.slice a2 k2 cap2) w2.drew) := ⟨hbel.drew, p0, p1⟩
  have HN : Hid (∀ W W', FcBox w (.slice a k cap) (.slice a2 k2 cap2) W → Below W.heap.size W W' → FcBox w (.slice a k cap) (.slice a2 k2 cap2) W') := fun _ _ h hb => h.later hb
  have HN2 : Hid (∀ W u v, FcBox w (.slice a k cap) (.slice a2 k2 cap2) W → FcBox w (.slice a k cap) (.slice a2 k2 cap2) ((W.setCell ⟨w.heap.size + 1, 0, none⟩ u).setCell ⟨w.heap.size + 1, 1, none⟩ v)) := fun _ u v h => (h.set 0 u).set 1 v
  have HQ : Hid (∀ W, Below (w.heap.size + 2) w2 W → (W.cell? ⟨w.heap.size + 1, 0, none⟩ = some (.slice none 0 0) ∧ W.cell? ⟨w.heap.size + 1, 1, none⟩ = some (.slice none 0 0)) ∧ W.frozen? ⟨w.heap.size + 1, 0, none⟩ = false ∧ W.frozen? ⟨w.heap.size + 1, 1, none⟩ = false) := fun W h => by
    obtain ⟨⟨q0, q1⟩, f0, f1⟩ := hq
    exact ⟨⟨(h.cell (by show w.heap.size + 1 < _; omega)).trans q0, (h.cell (by show w.heap.size + 1 < _; omega)).trans q1⟩, (h.frozen (by show w.heap.size + 1 < _; omega)).trans f0, (h.frozen (by show w.heap.size + 1 < _; omega)).trans f1⟩
  have HFin : Hid (∀ (W : World) (p q u v : Value), SlAt (fun b => w.heap.size + 2 ≤ b ∧ b < W.heap.size) (KnAt W) 2 f.types p → SlAt (fun b => w.heap.size + 2 ≤ b ∧ b < W.heap.size) (SgAt (fun b => w.heap.size + 2 ≤ b ∧ b < W.heap.size) W) 3 f.funcs q → FcCs (fun b => w.heap.size ≤ b ∧ b < ((W.setCell ⟨w.heap.size + 1, 0, none⟩ u).setCell ⟨w.heap.size + 1, 1, none⟩ v).heap.size) ((W.setCell ⟨w.heap.size + 1, 0, none⟩ u).setCell ⟨w.heap.size + 1, 1, none⟩ v) f p q) := fun W p q u v h h' => by
    have k1 := keep_set (B := w.heap.size + 2) (g := w.heap.size + 1) (W := W) (by omega) 0 u
    have k2 := keep_set (B := w.heap.size + 2) (g := w.heap.size + 1) (W := W.setCell ⟨w.heap.size + 1, 0, none⟩ u) (by omega) 1 v
    have k3 : Keeps (fun b => w.heap.size + 2 ≤ b ∧ b < ((W.setCell ⟨w.heap.size + 1, 0, none⟩ u).setCell ⟨w.heap.size + 1, 1, none⟩ v).heap.size) (fun b => w.heap.size ≤ b ∧ b < ((W.setCell ⟨w.heap.size + 1, 0, none⟩ u).setCell ⟨w.heap.size + 1, 1, none⟩ v).heap.size) ((W.setCell ⟨w.heap.size + 1, 0, none⟩ u).setCell ⟨w.heap.size + 1, 1, none⟩ v) ((W.setCell ⟨w.heap.size + 1, 0, none⟩ u).setCell ⟨w.heap.size + 1, 1, none⟩ v) := ⟨fun _ _ => rfl, fun b hb => ⟨by omega, hb.2⟩⟩
    exact ⟨knSl_keep k3 (knSl_keep k2 (knSl_keep k1 h)), sgSl_keep k3 (sgSl_keep k2 (sgSl_keep k1 h'))⟩
  clear ht hf z0 z1 z2 z3 hwe p0 p1 hbel hq
  go_enter Try.func46, Try.ntmps46
  go_wp2_with fail
  rw [HWe.out]
  clear HWe
  go_region_held3 (fun W => Below w.heap.size w W ∧ W.cell? ⟨w.heap.size, 0, none⟩ = some (.slice a k cap) ∧ W.cell? ⟨w.heap.size, 1, none⟩ = some (.slice a2 k2 cap2)) (first | exact HK0.out | exact HN.out _ _ (by assumption) (by assumption) | exact HN2.out _ _ _ (by assumption))
    (first
      | (go_at_call 69; refine (HCt.out _ (HB0.out _ HX.out).1 (HB0.out _ HX.out).2).mono ?_; rintro e w' ⟨u, rfl, hsl, hb'⟩; obtain ⟨a', n', cap', rfl⟩ := hsl.slice; have HP := veil hsl; clear hsl; (try replace HR := veil (sgSl_keep (keep_new hb') HR.out)); replace HX := veil (HX.out.trans (hb'.mono (HB0.out _ HX.out).2)); obtain ⟨⟨g0, g1⟩, g2, g3⟩ := HQ.out _ HX.out)
      | (go_at_call 71; refine (HCf.out _ (HB0.out _ HX.out).1 (HB0.out _ HX.out).2).mono ?_; rintro e w' ⟨u, rfl, hsl, hb'⟩; obtain ⟨a3, n3, cap3, rfl⟩ := hsl.slice; have HR := veil hsl; clear hsl; (try replace HP := veil (knSl_keep (keep_new hb') HP.out)); replace HX := veil (HX.out.trans (hb'.mono (HB0.out _ HX.out).2)); obtain ⟨⟨g0, g1⟩, g2, g3⟩ := HQ.out _ HX.out))
  all_goals
    rename_i hHeld
    have HB := veil hHeld.1
    clear hHeld
    go_wp2_with fail
    exact bodyPost_ret (v := .agg #[.slice a' n' cap', .slice a3 n3 cap3]) (by simp [results, Try.results46, go_sem, g0, g1]) rfl ⟨a', n', cap', a3, n3, cap3, rfl, HFin.out _ _ _ _ _ HP.out HR.out, HB.out⟩

end Go.Proofs.Ytieoddnaknpmlae
