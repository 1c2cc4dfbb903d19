import Derived.Test.YtagbaimfigljiaaGreatDoorJCk14
import Derived.Test.YtagbaimfigljiaaGreatDoorJCk11
import Derived.Test.YtagbaimfigljiaaGreatDoorJCk12
import Derived.Test.YtagbaimfigljiaaGreatDoorJCk0
import Derived.OwnWalk
import Derived.Deep.Slices
import Derived.ProofKit
import Derived.Deep.RegionHeld3
import Derived.Deep.RegionWith
namespace Go.Proofs.YtagbaimfigljiaaGreatDoor
open Go.RowKit
set_option maxRecDepth 100000

theorem sg_info : (Tryz.prog.info? 65).map (fun i => (i.zero, i.size, i.bytes)) = some (some (.agg #[.string ⟨#[]⟩, .slice none 0 0, .string ⟨#[]⟩]), 3, 56) := by kernel_rfl

def SgP (B : Nat) (W : World) (g : Sg) (o : Nat) : Prop := SgAt (fun b => B < b ∧ b < W.heap.size) W g B o
theorem sgP_stays (B : Nat) : Stays B 3 (SgP B) := fun W W' x o ho hs h hp => by
  obtain ⟨⟨h0, z0⟩, ⟨v, hv, hl⟩, h1, z1⟩ := hp
  exact ⟨⟨(h 0 (by omega)).trans h0, z0⟩, ⟨v, (h 1 (by omega)).trans hv, strSl_keep ⟨fun b hb => ho b (by have := hb.1; omega) hb.2, fun b hb => ⟨hb.1, Nat.lt_of_lt_of_le hb.2 hs⟩⟩ hl⟩, (h 2 (by omega)).trans h1, z1⟩

theorem sg_cells' {S : Nat → Prop} {w : World} {g : Sg} {b o : Nat} (h : SgAt S w g b o) : ∃ a n cap, w.cell? ⟨b, o, none⟩ = some (.string g.name) ∧ w.cell? ⟨b, o + 1, none⟩ = some (.slice a n cap) ∧ w.cell? ⟨b, o + 2, none⟩ = some (.string g.result) ∧ (g.name.size ≤ maxLen ∧ g.result.size ≤ maxLen) ∧ SgIs S w g (.agg #[.string g.name, .slice a n cap, .string g.result]) := by
  obtain ⟨⟨h0, z0⟩, ⟨v, hv, hp⟩, h1, z1⟩ := h
  obtain ⟨a, cap, rfl⟩ := hp.is
  exact ⟨a, _, cap, h0, hv, h1, ⟨z0, z1⟩, _, rfl, z0, z1, hp⟩

set_option maxHeartbeats 4000000 in
theorem copy_sgs (S : Nat → Prop) (l : List Sg) (v : Value) (w : World) (hS : ∀ b, S b → b < w.heap.size) (hv : SlAt S (SgAt S w) 3 l v) (hz : l.length * 56 ≤ reachBytes) (he : ∀ s ∈ l, sgSmall s) :
    Calls Tryz.prog 61 #[v, .func (.func 62) #[] #[]] w fun e w' => ∃ u, e = .returned u ∧ SlAt (fun b => w.heap.size ≤ b ∧ b < w'.heap.size) (SgAt (fun b => w.heap.size ≤ b ∧ b < w'.heap.size) w') 3 l u ∧ Below w.heap.size w w' := by
  have hr := reachBytes_lt
  have HL := veil (SlAt.len hv)
  have HV := veil hv
  obtain ⟨a, cap, rfl⟩ := hv.is
  have hlen : l.length ≤ 9223372036854775807 := by have := HL.out; unfold maxLen at this; omega
  obtain ⟨arr, harr, hmk⟩ := made_row Tryz.underlying28 sg_info l.length (by omega) HL.out
  have HJ : Hid (RowJ w 65 3 (SgP w.heap.size) l 0 (w.alloc (.cells arr 65))) := RowJ.start harr
  have HZ := veil he
  clear hv hz he harr
  go_enter Tryz.func61, Tryz.ntmps61
  go_wp2_with fail
  clear hmk
  go_loopw [13] (fun i wr => ∃ j : Nat, j ≤ l.length ∧ i = .int .i64 j ∧ RowJ w 65 3 (SgP w.heap.size) l j wr) (fun i _ => l.length - (intOf i).toNat)
  case atStart => exact ⟨0, Nat.zero_le _, rfl, HJ.out⟩
  case round =>
    obtain ⟨j, hj, rfl, hrj⟩ := hrel
    clear HJ
    by_cases hlt : j < l.length
    · have hlt' : (j : Int) < (l.length : Int) := by omega
      have hj0 : (0 : Int) ≤ (j : Int) := by omega
      obtain ⟨_, b, off, rfl, hb, hat⟩ := HV.out.at hlt
      have hbk := hS b hb
      obtain ⟨p1, p2, p3, a0, a1, a2, ⟨m0, m1⟩, hsg⟩ := sg_cells' hat
      have d0 := (hrj.bel.cell (p := ⟨b, off + j * 3, none⟩) hbk).trans a0
      have d1 := (hrj.bel.cell (p := ⟨b, off + j * 3 + 1, none⟩) hbk).trans a1
      have d2 := (hrj.bel.cell (p := ⟨b, off + j * 3 + 2, none⟩) hbk).trans a2
      have hsm := HZ.out _ (List.getElem_mem hlt)
      have hrlt := hrj.lt
      have HC : Hid (∀ W, Below wr.heap.size wr W → Calls Tryz.prog 62 #[.agg #[.string l[j].name, .slice p1 p2 p3, .string l[j].result]] W fun e w' => ∃ a n cap, e = .returned (.agg #[.string l[j].name, .slice a n cap, .string l[j].result]) ∧ SlAt (fun b => w.heap.size < b ∧ b < w'.heap.size) (StrAt w') 1 l[j].params (.slice a n cap) ∧ Below wr.heap.size wr w') := fun W hW => by
        have hbW := hrj.bel.trans (hW.mono hrj.bel.size)
        refine (copyFunc_any S l[j] _ W (fun b hb => Nat.lt_of_lt_of_le (hS b hb) hbW.size) (hsg.keep (Keeps.below hbW hS)) hsm).mono ?_
        rintro e w' ⟨a, n, cap, rfl, h1, h2⟩
        have := hW.size
        exact ⟨a, n, cap, rfl, h1.imp (fun b hb => ⟨by omega, hb.2⟩) (fun _ _ _ _ _ h => h), hW.trans (h2.mono hW.size)⟩
      have HN : Hid (∀ W1 a n cap, Below wr.heap.size wr W1 → SlAt (fun b => w.heap.size < b ∧ b < W1.heap.size) (StrAt W1) 1 l[j].params (.slice a n cap) → RowJ w 65 3 (SgP w.heap.size) l (j + 1) (((W1.setCell ⟨w.heap.size, j * 3, none⟩ (.string l[j].name)).setCell ⟨w.heap.size, j * 3 + 1, none⟩ (.slice a n cap)).setCell ⟨w.heap.size, j * 3 + 2, none⟩ (.string l[j].result))) := fun W1 a n cap h1 h2 =>
        hrj.step (sgP_stays _) h1 hlt [.string l[j].name, .slice a n cap, .string l[j].result] rfl (fun hc ho hs => ⟨⟨hc 0 (by simp), m0⟩, ⟨_, hc 1 (by simp), strSl_keep ⟨fun b hb => ho b (by have := hb.1; omega) hb.2, fun b hb => ⟨hb.1, by rw [hs]; exact hb.2⟩⟩ h2⟩, hc 2 (by simp), m1⟩)
      have HRm : Hid (∀ W1, Below wr.heap.size wr W1 → ((∃ u, W1.cell? ⟨w.heap.size, j * 3, none⟩ = some u) ∧ W1.frozen? ⟨w.heap.size, j * 3, none⟩ = false) ∧ ((∃ u, W1.cell? ⟨w.heap.size, j * 3 + 1, none⟩ = some u) ∧ W1.frozen? ⟨w.heap.size, j * 3 + 1, none⟩ = false) ∧ (∃ u, W1.cell? ⟨w.heap.size, j * 3 + 2, none⟩ = some u) ∧ W1.frozen? ⟨w.heap.size, j * 3 + 2, none⟩ = false) := fun W1 h1 =>
        ⟨hrj.room h1 hlt 0 (by omega), hrj.room h1 hlt 1 (by omega), hrj.room h1 hlt 2 (by omega)⟩
      have HA : Hid (∀ o, Below wr.heap.size wr (wr.alloc o)) := fun o => (Below.refl _ _).alloc (Nat.le_refl _) _
      have hbr : b < wr.heap.size := Nat.lt_of_lt_of_le hbk hrj.bel.size
      clear hrj a0 a1 a2 HV m0 m1 hsm hat hsg
      generalize l[j].name = x at *
      generalize l[j].result = y at *
      generalize l[j].params = ps at *
      go_wp2_with fail
      refine (HC.out _ (HA.out _)).mono ?_
      rintro e w' ⟨a', n', cap', rfl, hsl, hb'⟩
      obtain ⟨⟨⟨u, hu⟩, hfz⟩, ⟨⟨u', hu'⟩, hfz'⟩, ⟨u2, hu2⟩, hfz2⟩ := HRm.out _ hb'
      have HN' := veil (HN.out _ _ _ _ hb' hsl)
      clear hb' hsl
      go_wp2_with fail
      exact ⟨⟨j + 1, by omega, by go_num, HN'.out⟩, by simp [intOf]; omega⟩
    · have hnl : ¬ (j : Int) < (l.length : Int) := by omega
      have hje : j = l.length := by omega
      have HW : Hid (SlAt (fun b => w.heap.size ≤ b ∧ b < wr.heap.size) (SgAt (fun b => w.heap.size ≤ b ∧ b < wr.heap.size) wr) 3 l (.slice (some ⟨w.heap.size, 0, none⟩) l.length l.length)) := by
        subst hje
        refine hrj.whole HL.out (S := fun b => w.heap.size ≤ b ∧ b < wr.heap.size) ⟨Nat.le_refl _, hrj.lt⟩ (fun x o h => ?_)
        obtain ⟨h0, ⟨v, hv, hl⟩, h1⟩ := h
        exact ⟨h0, ⟨v, hv, hl.imp (fun b hb => ⟨by have := hb.1; omega, hb.2⟩) (fun _ _ _ _ _ h => h)⟩, h1⟩
      have HB := veil hrj.bel
      clear hrj HV hje
      go_wp2_with fail
      go_ret
      exact ⟨_, rfl, HW.out, HB.out⟩

/-- what Copy's region keeps. -/
def FcBox (w : World) (p q : Value) (W : World) : Prop :=
  Below w.heap.size w W ∧ W.cell? ⟨w.heap.size, 0, none⟩ = some p ∧ W.cell? ⟨w.heap.size, 1, none⟩ = some q
theorem FcBox.later {w : World} {p q : Value} {W W' : World} (h : FcBox w p q W) (hb : Below W.heap.size W W') : FcBox w p q W' := by
  obtain ⟨h0, h1, h2⟩ := h
  exact ⟨h0.trans (hb.mono h0.size), (hb.cell (World.block_lt_of_cell? _ _ h1)).trans h1, (hb.cell (World.block_lt_of_cell? _ _ h2)).trans h2⟩
theorem FcBox.set {w : World} {p q : Value} {W : World} (h : FcBox w p q W) (o : Nat) (u : Value) : FcBox w p q (W.setCell ⟨w.heap.size + 1, o, none⟩ u) := by
  obtain ⟨h0, h1, h2⟩ := h
  refine ⟨h0.setCell (by show w.heap.size ≤ w.heap.size + 1; omega) _, ?_, ?_⟩
  · rw [World.cell?_setCell_far _ _ _ _ (by show w.heap.size + 1 ≠ w.heap.size; omega)]; exact h1
  · rw [World.cell?_setCell_far _ _ _ _ (by show w.heap.size + 1 ≠ w.heap.size; omega)]; exact h2


set_option maxHeartbeats 8000000 in
theorem copy_face (S : Nat → Prop) (f : Fc) (v : Value) (w : World) (hS : ∀ b, S b → b < w.heap.size) (hv : FcIs S w f v) (hz : fcSmall f) :
    Calls Tryz.prog 22 #[v] w fun e w' => ∃ a n cap a2 n2 cap2, e = .returned (.agg #[.slice a n cap, .slice a2 n2 cap2]) ∧ FcCs (fun b => w.heap.size ≤ b ∧ b < w'.heap.size) w' f (.slice a n cap) (.slice a2 n2 cap2) ∧ Below w.heap.size w w' := by
  obtain ⟨vt, vf, rfl, ht, hf⟩ := hv
  obtain ⟨⟨z0, z1⟩, z2, z3⟩ := hz
  have HCt : Hid (∀ W, Below w.heap.size w W → w.heap.size + 2 ≤ W.heap.size → Calls Tryz.prog 59 #[vt, .func (.func 60) #[] #[]] W fun e w' => ∃ u, e = .returned u ∧ SlAt (fun b => w.heap.size + 2 ≤ b ∧ b < w'.heap.size) (KnAt w') 2 f.types u ∧ Below W.heap.size W w') := fun W hW h2 => by
    refine (copy_kns S _ _ W (fun b hb => Nat.lt_of_lt_of_le (hS b hb) hW.size) (knSl_keep (Keeps.below hW hS) ht) z0 z1).mono ?_
    rintro e w' ⟨u, rfl, h3, h4⟩
    exact ⟨u, rfl, h3.imp (fun b hb => ⟨by omega, hb.2⟩) (fun _ _ _ _ _ h => h), h4⟩
  have HCf : Hid (∀ W, Below w.heap.size w W → w.heap.size + 2 ≤ W.heap.size → Calls Tryz.prog 61 #[vf, .func (.func 62) #[] #[]] W fun e w' => ∃ u, e = .returned u ∧ SlAt (fun b => w.heap.size + 2 ≤ b ∧ b < w'.heap.size) (SgAt (fun b => w.heap.size + 2 ≤ b ∧ b < w'.heap.size) w') 3 f.funcs u ∧ Below W.heap.size W w') := fun W hW h2 => by
    refine (copy_sgs S _ _ W (fun b hb => Nat.lt_of_lt_of_le (hS b hb) hW.size) (sgSl_keep (Keeps.below hW hS) hf) z2 z3).mono ?_
    rintro e w' ⟨u, rfl, h3, h4⟩
    exact ⟨u, rfl, sgSl_keep ⟨fun _ _ => rfl, fun b hb => ⟨by omega, hb.2⟩⟩ h3, h4⟩
  obtain ⟨a, k, cap, rfl⟩ := ht.slice
  obtain ⟨a2, k2, cap2, rfl⟩ := hf.slice
  obtain ⟨w2, hwe, hs2, p0, p1, hbel, hq⟩ : ∃ w2, (w.alloc (.cells #[.slice a k cap, .slice a2 k2 cap2] 30)).alloc (.cells #[.slice none 0 0, .slice none 0 0] 30) = w2 ∧ w2.heap.size = w.heap.size + 2 ∧
      w2.cell? ⟨w.heap.size, 0, none⟩ = some (.slice a k cap) ∧ w2.cell? ⟨w.heap.size, 1, none⟩ = some (.slice a2 k2 cap2) ∧ Below w.heap.size w w2 ∧
      (w2.cell? ⟨w.heap.size + 1, 0, none⟩ = some (.slice none 0 0) ∧ w2.cell? ⟨w.heap.size + 1, 1, none⟩ = some (.slice none 0 0)) ∧
      w2.frozen? ⟨w.heap.size + 1, 0, none⟩ = false ∧ w2.frozen? ⟨w.heap.size + 1, 1, none⟩ = false :=
    ⟨_, rfl, by simp, by simp [go_sem], by simp [go_sem], ((Below.refl _ _).alloc (Nat.le_refl _) _).alloc (by simp) _, ⟨by simp [go_sem], by simp [go_sem]⟩, by simp [go_sem], by simp [go_sem]⟩
  have HWe := veil hwe
  have HX : Hid (Below (w.heap.size + 2) w2 w2.drew) := (Below.refl _ _).drew
  have HBel := veil hbel
  have HB0 : Hid (∀ W, Below (w.heap.size + 2) w2 W → Below w.heap.size w W ∧ w.heap.size + 2 ≤ W.heap.size) := fun W h => ⟨HBel.out.trans (h.mono (by omega)), by have := h.size; omega⟩
  have HK0 : Hid (FcBox w (.slice a k cap) (.slice a2 k2 cap2) w2.drew) := ⟨hbel.drew, p0, p1⟩
  have HN : Hid (∀ W W', FcBox w (.slice a k cap) (.slice a2 k2 cap2) W → Below W.heap.size W W' → FcBox w (.slice a k cap) (.slice a2 k2 cap2) W') := fun _ _ h hb => h.later hb
  have HN2 : Hid (∀ W u v, FcBox w (.slice a k cap) (.slice a2 k2 cap2) W → FcBox w (.slice a k cap) (.slice a2 k2 cap2) ((W.setCell ⟨w.heap.size + 1, 0, none⟩ u).setCell ⟨w.heap.size + 1, 1, none⟩ v)) := fun _ u v h => (h.set 0 u).set 1 v
  have HQ : Hid (∀ W, Below (w.heap.size + 2) w2 W → (W.cell? ⟨w.heap.size + 1, 0, none⟩ = some (.slice none 0 0) ∧ W.cell? ⟨w.heap.size + 1, 1, none⟩ = some (.slice none 0 0)) ∧ W.frozen? ⟨w.heap.size + 1, 0, none⟩ = false ∧ W.frozen? ⟨w.heap.size + 1, 1, none⟩ = false) := fun W h => by
    obtain ⟨⟨q0, q1⟩, f0, f1⟩ := hq
    exact ⟨⟨(h.cell (by show w.heap.size + 1 < _; omega)).trans q0, (h.cell (by show w.heap.size + 1 < _; omega)).trans q1⟩, (h.frozen (by show w.heap.size + 1 < _; omega)).trans f0, (h.frozen (by show w.heap.size + 1 < _; omega)).trans f1⟩
  have HFin : Hid (∀ (W : World) (p q u v : Value), SlAt (fun b => w.heap.size + 2 ≤ b ∧ b < W.heap.size) (KnAt W) 2 f.types p → SlAt (fun b => w.heap.size + 2 ≤ b ∧ b < W.heap.size) (SgAt (fun b => w.heap.size + 2 ≤ b ∧ b < W.heap.size) W) 3 f.funcs q → FcCs (fun b => w.heap.size ≤ b ∧ b < ((W.setCell ⟨w.heap.size + 1, 0, none⟩ u).setCell ⟨w.heap.size + 1, 1, none⟩ v).heap.size) ((W.setCell ⟨w.heap.size + 1, 0, none⟩ u).setCell ⟨w.heap.size + 1, 1, none⟩ v) f p q) := fun W p q u v h h' => by
    have k1 := keep_set (B := w.heap.size + 2) (g := w.heap.size + 1) (W := W) (by omega) 0 u
    have k2 := keep_set (B := w.heap.size + 2) (g := w.heap.size + 1) (W := W.setCell ⟨w.heap.size + 1, 0, none⟩ u) (by omega) 1 v
    have k3 : Keeps (fun b => w.heap.size + 2 ≤ b ∧ b < ((W.setCell ⟨w.heap.size + 1, 0, none⟩ u).setCell ⟨w.heap.size + 1, 1, none⟩ v).heap.size) (fun b => w.heap.size ≤ b ∧ b < ((W.setCell ⟨w.heap.size + 1, 0, none⟩ u).setCell ⟨w.heap.size + 1, 1, none⟩ v).heap.size) ((W.setCell ⟨w.heap.size + 1, 0, none⟩ u).setCell ⟨w.heap.size + 1, 1, none⟩ v) ((W.setCell ⟨w.heap.size + 1, 0, none⟩ u).setCell ⟨w.heap.size + 1, 1, none⟩ v) := ⟨fun _ _ => rfl, fun b hb => ⟨by omega, hb.2⟩⟩
    exact ⟨knSl_keep k3 (knSl_keep k2 (knSl_keep k1 h)), sgSl_keep k3 (sgSl_keep k2 (sgSl_keep k1 h'))⟩
  clear ht hf z0 z1 z2 z3 hwe p0 p1 hbel hq
  go_enter Tryz.func22, Tryz.ntmps22
  go_wp2_with fail
  rw [HWe.out]
  clear HWe
  go_region_held3 (fun W => Below w.heap.size w W ∧ W.cell? ⟨w.heap.size, 0, none⟩ = some (.slice a k cap) ∧ W.cell? ⟨w.heap.size, 1, none⟩ = some (.slice a2 k2 cap2)) (first | exact HK0.out | exact HN.out _ _ (by assumption) (by assumption) | exact HN2.out _ _ _ (by assumption))
    (first
      | (go_at_call 59; refine (HCt.out _ (HB0.out _ HX.out).1 (HB0.out _ HX.out).2).mono ?_; rintro e w' ⟨u, rfl, hsl, hb'⟩; obtain ⟨a', n', cap', rfl⟩ := hsl.slice; have HP := veil hsl; clear hsl; (try replace HR := veil (sgSl_keep (keep_new hb') HR.out)); replace HX := veil (HX.out.trans (hb'.mono (HB0.out _ HX.out).2)); obtain ⟨⟨g0, g1⟩, g2, g3⟩ := HQ.out _ HX.out)
      | (go_at_call 61; refine (HCf.out _ (HB0.out _ HX.out).1 (HB0.out _ HX.out).2).mono ?_; rintro e w' ⟨u, rfl, hsl, hb'⟩; obtain ⟨a3, n3, cap3, rfl⟩ := hsl.slice; have HR := veil hsl; clear hsl; (try replace HP := veil (knSl_keep (keep_new hb') HP.out)); replace HX := veil (HX.out.trans (hb'.mono (HB0.out _ HX.out).2)); obtain ⟨⟨g0, g1⟩, g2, g3⟩ := HQ.out _ HX.out))
  all_goals
    rename_i hHeld
    have HB := veil hHeld.1
    clear hHeld
    go_wp2_with fail
    exact bodyPost_ret (v := .agg #[.slice a' n' cap', .slice a3 n3 cap3]) (by simp [results, Tryz.results22, go_sem, g0, g1]) rfl ⟨a', n', cap', a3, n3, cap3, rfl, HFin.out _ _ _ _ _ HP.out HR.out, HB.out⟩

end Go.Proofs.YtagbaimfigljiaaGreatDoor
namespace Go.Proofs.YtagbaimfigljiaaGreatDoor
open Go.RowKit
set_option maxRecDepth 100000

/-! ### The order of texts. -/

theorem less_trans : ∀ {a b c : List UInt8}, Op.bytesLess a b = false → Op.bytesLess b c = false → Op.bytesLess a c = false
  | [], [], _, _, h => h
  | [], _ :: _, _, h, _ => by simp [Op.bytesLess] at h
  | _ :: _, _, [], _, _ => by simp [Op.bytesLess]
  | _ :: _, [], _ :: _, _, h => by simp [Op.bytesLess] at h
  | x :: xs, y :: ys, z :: zs, h1, h2 => by
    simp only [Op.bytesLess, Bool.or_eq_false_iff, decide_eq_false_iff_not, Bool.and_eq_false_iff, beq_eq_false_iff_ne] at *
    obtain ⟨h1, h1'⟩ := h1
    obtain ⟨h2, h2'⟩ := h2
    have e1 : ¬ x.toNat < y.toNat := fun h => h1 (UInt8.lt_iff_toNat_lt.2 h)
    have e2 : ¬ y.toNat < z.toNat := fun h => h2 (UInt8.lt_iff_toNat_lt.2 h)
    refine ⟨fun h => by have := UInt8.lt_iff_toNat_lt.1 h; omega, ?_⟩
    by_cases hxz : x = z
    · subst hxz
      have hxy : x = y := UInt8.toNat_inj.1 (by omega)
      subst hxy
      exact Or.inr (less_trans (h1'.resolve_left (fun h => h rfl)) (h2'.resolve_left (fun h => h rfl)))
    · exact Or.inl hxz

theorem less_eq : ∀ {a b : List UInt8}, Op.bytesLess a b = false → Op.bytesLess b a = false → a = b
  | [], [], _, _ => rfl
  | [], _ :: _, h, _ => by simp [Op.bytesLess] at h
  | _ :: _, [], _, h => by simp [Op.bytesLess] at h
  | x :: xs, y :: ys, h1, h2 => by
    simp only [Op.bytesLess, Bool.or_eq_false_iff, decide_eq_false_iff_not, Bool.and_eq_false_iff, beq_eq_false_iff_ne] at *
    obtain ⟨h1, h1'⟩ := h1
    obtain ⟨h2, h2'⟩ := h2
    have e1 : ¬ x.toNat < y.toNat := fun h => h1 (UInt8.lt_iff_toNat_lt.2 h)
    have e2 : ¬ y.toNat < x.toNat := fun h => h2 (UInt8.lt_iff_toNat_lt.2 h)
    have hxy : x = y := UInt8.toNat_inj.1 (by omega)
    subst hxy
    rw [less_eq (h1'.resolve_left (fun h => h rfl)) (h2'.resolve_left (fun h => h rfl))]

theorem gt_trans {a b c : ByteArray} (h1 : gtB a b = true) (h2 : gtB b c = true) : gtB a c = true := by
  unfold gtB at *
  simp only [Bool.and_eq_true, Bool.not_eq_true', beq_eq_false_iff_ne] at *
  refine ⟨less_trans h1.1 h2.1, fun e => ?_⟩
  rw [e] at h1
  exact h1.2 (less_eq h1.1 h2.1)
theorem gt_ne {a b : ByteArray} (h : gtB a b = true) : sEq a b = false := by
  unfold gtB at h
  simp only [Bool.and_eq_true, Bool.not_eq_true'] at h
  exact h.2

/-! ### The reference's way. -/

theorem sEq_eq {a b : ByteArray} (h : sEq a b = true) : a = b := by
  unfold sEq at h
  have h' := beq_iff_eq.1 h
  rw [Lib.toList_data, Lib.toList_data] at h'
  exact Go.WideShapes.bytes_inj h'

end Go.Proofs.YtagbaimfigljiaaGreatDoor
namespace Go.Proofs.YtagbaimfigljiaaGreatDoor
open Go.RowKit
set_option maxRecDepth 100000

end Go.Proofs.YtagbaimfigljiaaGreatDoor
namespace Go.Proofs.YtagbaimfigljiaaGreatDoor
open Go.RowKit
set_option maxRecDepth 100000

end Go.Proofs.YtagbaimfigljiaaGreatDoor
namespace Go.Proofs.YtagbaimfigljiaaGreatDoor
open Go.RowKit
set_option maxRecDepth 100000

end Go.Proofs.YtagbaimfigljiaaGreatDoor
namespace Go.Proofs.YtagbaimfigljiaaGreatDoor
open Go.RowKit
set_option maxRecDepth 100000

theorem fcNil_small : fcSmall ⟨[], []⟩ := ⟨⟨by simp, by simp⟩, by simp, by simp⟩
theorem from_small {u : List ByteArray} {l : List Im} (s : ByteArray) (h : ∀ i ∈ l, fcSmall i.face) : fcSmall (fromFc u l s) := by
  unfold fromFc
  cases hl : l[impAt l s]? with
  | none => exact fcNil_small
  | some i =>
    show fcSmall (if (i.there && hasS u s) = true then i.face else ⟨[], []⟩)
    by_cases hi : (i.there && hasS u s) = true
    · rw [if_pos hi]; exact h i (List.mem_of_getElem? hl)
    · rw [if_neg hi]; exact fcNil_small

end Go.Proofs.YtagbaimfigljiaaGreatDoor
namespace Go.Proofs.YtagbaimfigljiaaGreatDoor
open Go.RowKit
set_option maxRecDepth 100000

structure Dg where
  wh : ByteArray
  code : Int
def DgAt (w : World) (d : Dg) (b o : Nat) : Prop := StrAt w d.wh b o ∧ w.cell? ⟨b, o + 1, none⟩ = some (.int .i64 d.code)
theorem dgSl_keep {S S' : Nat → Prop} {w w' : World} (hk : Keeps S S' w w') {l : List Dg} {v : Value} (h : SlAt S (DgAt w) 2 l v) : SlAt S' (DgAt w') 2 l v := h.imp hk.sub fun _ _ _ _ hb' h => ⟨StrAt.keep hk hb' h.1, by rw [hk.cell hb']; exact h.2⟩

def useName (u : List ByteArray) (k : Nat) : ByteArray := u.getD k ⟨#[]⟩
def useCode (u : List ByteArray) (l : List Im) (k : Nat) : Int := if hasS (u.take k) (useName u k) = true then 4 else if fromOk u l (useName u k) = true then 0 else 3
def useStep (u : List ByteArray) (l : List Im) (k : Nat) : List Dg := if useCode u l k = 0 then [] else [⟨useName u k, useCode u l k⟩]
def usesUpto (u : List ByteArray) (l : List Im) : Nat → List Dg
  | 0 => []
  | k + 1 => usesUpto u l k ++ useStep u l k

theorem useName_at {u : List ByteArray} {k : Nat} (h : k < u.length) : useName u k = u[k] := by
  unfold useName
  rw [List.getD_eq_getElem?_getD, List.getElem?_eq_getElem h]; rfl
theorem usesUpto_le (u : List ByteArray) (l : List Im) : ∀ k, (usesUpto u l k).length ≤ k
  | 0 => Nat.le_refl _
  | k + 1 => by
    have := usesUpto_le u l k
    rw [usesUpto, List.length_append]
    unfold useStep
    by_cases h : useCode u l k = 0
    · rw [if_pos h]; simp; omega
    · rw [if_neg h]; simp; omega
theorem usesUpto_zero {u : List ByteArray} {l : List Im} {k : Nat} (h : useCode u l k = 0) : usesUpto u l (k + 1) = usesUpto u l k := by
  rw [usesUpto, useStep, if_pos h, List.append_nil]
theorem usesUpto_one {u : List ByteArray} {l : List Im} {k : Nat} (h : useCode u l k ≠ 0) : usesUpto u l (k + 1) = usesUpto u l k ++ [⟨useName u k, useCode u l k⟩] := by
  rw [usesUpto, useStep, if_neg h]

def dgCells (l : List Dg) : List Value := l.flatMap fun t => [.string t.wh, .int .i64 t.code]
theorem dgCells_snoc (l : List Dg) (t : Dg) : dgCells (l ++ [t]) = dgCells l ++ [.string t.wh, .int .i64 t.code] := by
  simp [dgCells]
theorem dgCells_at : ∀ (l : List Dg) (i : Nat) (h : i < l.length), (dgCells l)[i * 2]? = some (.string l[i].wh) ∧ (dgCells l)[i * 2 + 1]? = some (.int .i64 l[i].code)
  | [], i, h => absurd h (by simp)
  | t :: r, 0, _ => by simp [dgCells]
  | t :: r, i + 1, h => by
    have ih := dgCells_at r i (by simpa using h)
    have e : dgCells (t :: r) = .string t.wh :: .int .i64 t.code :: dgCells r := by simp [dgCells]
    rw [e, show (i + 1) * 2 = i * 2 + 1 + 1 by omega, show i * 2 + 1 + 1 + 1 = (i * 2 + 1) + 1 + 1 by omega]
    simp only [List.getElem?_cons_succ, List.getElem_cons_succ]
    exact ih

theorem ownsRow_later {w w' : World} {B : Nat} {e : TypeId} {size : Nat} {v : Value} {n : Nat} {xs : List Value} (h : w.ownsRow B e size v n xs) (hb : Below w.heap.size w w') : w'.ownsRow B e size v n xs := by
  obtain ⟨hx, h | ⟨g, cap, cur, hv, hg, hh, h1, h2, h3, h4⟩⟩ := h
  · exact ⟨hx, Or.inl h⟩
  · refine ⟨hx, Or.inr ⟨g, cap, cur, hv, hg, ?_, h1, h2, h3, h4⟩⟩
    rw [hb.block g ?_]
    · exact hh
    · rcases Nat.lt_or_ge g w.heap.size with h | h
      · exact h
      · rw [Array.getElem?_eq_none h] at hh
        cases hh
theorem ownsRow_at {w : World} {B : Nat} {e : TypeId} {size : Nat} {v : Value} {n : Nat} {xs : List Value} (h : w.ownsRow B e size v n xs) : ∀ k, v.ownBlock = some k → B ≤ k := by
  intro k hk
  obtain ⟨_, ⟨hv, _⟩ | ⟨g, cap, cur, hv, hg, _⟩⟩ := h
  · rw [hv] at hk
    cases hk
  · rw [hv] at hk
    have : g = k := by simpa [Value.ownBlock] using hk
    omega

theorem ownsRow_dgs {w : World} {B : Nat} {v : Value} {l : List Dg} (h : w.ownsRow B 53 2 v l.length (dgCells l)) (hl : l.length ≤ maxLen) (hs : ∀ t ∈ l, t.wh.size ≤ maxLen) : SlAt (fun b => B ≤ b ∧ b < w.heap.size) (DgAt w) 2 l v := by
  obtain ⟨hx, ⟨hv, hn⟩ | ⟨g, cap, cur, hv, hg, hh, h1, h2, h3, h4⟩⟩ := h
  · subst hv
    exact ⟨none, 0, by rw [hn], ⟨hl, by omega⟩, Or.inl hn⟩
  · subst hv
    refine ⟨_, cap, rfl, ⟨hl, h1⟩, Or.inr ⟨g, 0, rfl, ⟨hg, ?_⟩, RowAt.mk fun i hi => ?_⟩⟩
    · rcases Nat.lt_or_ge g w.heap.size with h | h
      · exact h
      · rw [Array.getElem?_eq_none h] at hh
        cases hh
    · have hc : ∀ j u, (dgCells l)[j]? = some u → w.cell? ⟨g, j, none⟩ = some u := fun j u hj => by
        rw [← h4] at hj
        have hj' : j < l.length * 2 := by
          rcases Nat.lt_or_ge j (l.length * 2) with h | h
          · exact h
          · rw [List.getElem?_eq_none (by rw [List.length_take]; omega)] at hj
            cases hj
        rw [List.getElem?_take_of_lt hj'] at hj
        simpa [World.cell?, hh] using hj
      obtain ⟨a, b⟩ := dgCells_at l i hi
      refine ⟨⟨by simpa using hc _ _ a, hs _ (List.getElem_mem hi)⟩, by simpa using hc _ _ b⟩

theorem infoDg : (Tryz.prog.info? 53).map (fun i => (i.zero, i.size, i.bytes)) = some (some (.agg #[.string ⟨#[]⟩, .int .i64 0]), 2, 24) := by kernel_rfl

/-- a part of a list. -/
theorem sl_part {α : Type} {S : Nat → Prop} {P : α → Nat → Nat → Prop} {c : Nat} {l : List α} {a : Option Addr} {n cap : Nat} (h : SlAt S P c l (.slice a n cap)) {i j : Nat} (hij : i ≤ j) (hj : j ≤ l.length) :
    ∃ a' cap', sliced a i j cap c = .slice a' (j - i) cap' ∧ SlAt S P c ((l.drop i).take (j - i)) (.slice a' (j - i) cap') := by
  obtain ⟨a', cap', e, ⟨h1, h2⟩, h3⟩ := h
  injection e with e1 e2 e3
  subst e1 e2 e3
  have hlen : ((l.drop i).take (j - i)).length = j - i := by rw [List.length_take, List.length_drop]; omega
  refine ⟨_, _, rfl, _, cap - i, by rw [hlen], ⟨by rw [hlen]; unfold maxLen at h1 ⊢; omega, by rw [hlen]; omega⟩, ?_⟩
  rw [hlen]
  by_cases h0 : j - i = 0
  · exact Or.inl h0
  · rcases h3 with h3 | ⟨b, o, rfl, hb, hr⟩
    · omega
    · rw [if_neg (by omega)]
      refine Or.inr ⟨b, o + i * c, by rw [Option.map_some, Go.WideShapes.add_plain], hb, RowAt.mk fun k hk => ?_⟩
      rw [hlen] at hk
      have := hr.get (i + k) (by omega)
      rw [List.getElem_take, List.getElem_drop]
      rw [show o + i * c + k * c = o + (i + k) * c by rw [Nat.add_mul]; omega]
      exact this

set_option maxRecDepth 100000 in
theorem sizeStr (W : World) : (sizeOf (Tryz.prog.elem 22)).run Tryz.prog W = .ok 1 W := by
  have : (sizeOf 9).run Tryz.prog W = .ok 1 W := by simp [go_sem]
  exact this
set_option maxRecDepth 100000 in
theorem run_hi_str (a : Option Addr) (n cap j : Nat) (x : Int) (hx : x = j) (h : j ≤ cap) (W : World) : (Instr.slice 22 (.slice a n cap) none (some (.int .i64 x)) none).run Tryz.prog W = .ok (sliced a 0 j cap 1) W := by
  subst hx
  rw [run_slice_h W _ a n cap Tryz.underlying22 .i64 j (by omega) (by omega), sizeStr]
  simp
set_option maxRecDepth 100000 in
theorem cut_str {S : Nat → Prop} {w : World} {u : List ByteArray} {a : Option Addr} {n cap : Nat} (h : SlAt S (StrAt w) 1 u (.slice a n cap)) {k : Nat} (hk : k ≤ u.length) :
    ∃ a' cap', (∀ W, (Instr.slice 22 (.slice a n cap) none (some (.int .i64 (k : Int))) none).run Tryz.prog W = .ok (.slice a' k cap') W) ∧ SlAt S (StrAt w) 1 (u.take k) (.slice a' k cap') := by
  have hcap : k ≤ cap := by
    obtain ⟨_, _, e, ⟨_, h2⟩, _⟩ := h
    injection e with e1 e2 e3
    omega
  obtain ⟨a', cap', e, hp⟩ := sl_part h (i := 0) (j := k) (Nat.zero_le _) hk
  rw [List.drop_zero, Nat.sub_zero] at hp
  rw [Nat.sub_zero] at e
  exact ⟨a', cap', fun W => by rw [run_hi_str a n cap k _ rfl hcap W, e], hp⟩

end Go.Proofs.YtagbaimfigljiaaGreatDoor
namespace Go.Proofs.YtagbaimfigljiaaGreatDoor
open Go.RowKit
set_option maxRecDepth 100000

theorem diag_any (s : ByteArray) (c : Int) (w : World) (h : s.size ≤ 281474976710656) :
    Calls Tryz.prog 150 #[.string s, .int .i64 c] w fun e w' => e = .returned (.agg #[.string s, .int .i64 c]) ∧ Below w.heap.size w w' := by
  have HC : Hid (∀ W, Calls Tryz.prog 67 #[.string s] W fun e w' => e = .returned (.string s) ∧ Below W.heap.size W w') := fun W => clone_kind s W h
  clear h
  obtain ⟨w2, hwe, hs2, hbel, q0, q1, f0, f1⟩ : ∃ w2, w.alloc (.cells #[.string ⟨#[]⟩, .int .i64 0] 53) = w2 ∧ w2.heap.size = w.heap.size + 1 ∧ Below w.heap.size w w2 ∧
      w2.cell? ⟨w.heap.size, 0, none⟩ = some (.string ⟨#[]⟩) ∧ w2.cell? ⟨w.heap.size, 1, none⟩ = some (.int .i64 0) ∧ w2.frozen? ⟨w.heap.size, 0, none⟩ = false ∧ w2.frozen? ⟨w.heap.size, 1, none⟩ = false :=
    ⟨_, rfl, by simp, (Below.refl _ _).alloc (Nat.le_refl _) _, by simp [go_sem], by simp [go_sem], by simp [go_sem], by simp [go_sem]⟩
  have HWe := veil hwe
  clear hwe
  go_enter Tryz.func150, Tryz.ntmps150
  go_wp2_with fail
  rw [HWe.out]
  refine (HC.out _).mono ?_
  rintro e w3 ⟨rfl, hb⟩
  have g0 := (hb.cell (p := ⟨w.heap.size, 0, none⟩) (by show w.heap.size < _; omega)).trans q0
  have g1 := (hb.cell (p := ⟨w.heap.size, 1, none⟩) (by show w.heap.size < _; omega)).trans q1
  have g2 := (hb.frozen (p := ⟨w.heap.size, 0, none⟩) (by show w.heap.size < _; omega)).trans f0
  have g3 := (hb.frozen (p := ⟨w.heap.size, 1, none⟩) (by show w.heap.size < _; omega)).trans f1
  have HB := veil (hbel.trans (hb.mono hbel.size))
  clear hb hbel q0 q1 f0 f1
  go_wp2_with fail
  exact bodyPost_ret (v := .agg #[.string s, .int .i64 c]) (by simp [results, Tryz.results150, go_sem, g0, g1]) rfl ⟨rfl, (HB.out.setCell (Nat.le_refl _) _).setCell (Nat.le_refl _) _⟩

set_option maxHeartbeats 2000000 in
theorem aliasUse_any (S : Nat → Prop) (m : Mo) (l : List Im) (k : Nat) (vm v : Value) (w : World) (hS : ∀ b, S b → b < w.heap.size) (hm : MoIs S w m vm) (hv : SlAt S (ImAt S w) 4 l v) (hk : k < m.uses.length) :
    Calls Tryz.prog 160 #[vm, v, .int .i64 k] w fun e w' => e = .returned (.int .i64 (useCode m.uses l k)) ∧ Below w.heap.size w w' := by
  have HC : Hid (∀ W s, Below w.heap.size w W → Calls Tryz.prog 235 #[vm, v, .string s] W fun e w' => ∃ a n cap a2 n2 cap2, e = .returned (.tuple #[.agg #[.slice a n cap, .slice a2 n2 cap2], .bool (fromOk m.uses l s)]) ∧ Below W.heap.size W w') := fun W s hW => by
    refine (used_any S m l s vm v W (fun b hb => Nat.lt_of_lt_of_le (hS b hb) hW.size) (hm.keep (Keeps.below hW hS)) (imSl_keep (Keeps.below hW hS) hv)).mono ?_
    rintro e w' ⟨a, n, cap, a2, n2, cap2, rfl, _, hb⟩
    exact ⟨a, n, cap, a2, n2, cap2, rfl, hb⟩
  obtain ⟨vu, vt, vf, rfl, hu, ht, hf⟩ := hm
  have hlen := hu.len
  unfold maxLen at hlen
  obtain ⟨u1, u3, rfl⟩ := hu.is
  obtain ⟨t1, t2, t3, rfl⟩ := ht.slice
  obtain ⟨f1, f2, f3, rfl⟩ := hf.slice
  obtain ⟨a, n, cap, rfl⟩ := hv.slice
  obtain ⟨cu, cc, hrun, hcut⟩ := cut_str hu (k := k) (by omega)
  obtain ⟨_, b, off, rfl, hb, a0, m0⟩ := hu.at hk
  rw [Nat.mul_one] at a0
  have hbk := hS b hb
  obtain ⟨w2, hwe, hs2, hbel, q0, q1, q2⟩ : ∃ w2, w.alloc (.cells #[.slice (some ⟨b, off, none⟩) m.uses.length u3, .slice t1 t2 t3, .slice f1 f2 f3] 44) = w2 ∧ w2.heap.size = w.heap.size + 1 ∧ Below w.heap.size w w2 ∧
      w2.cell? ⟨w.heap.size, 0, none⟩ = some (.slice (some ⟨b, off, none⟩) m.uses.length u3) ∧ w2.cell? ⟨w.heap.size, 1, none⟩ = some (.slice t1 t2 t3) ∧ w2.cell? ⟨w.heap.size, 2, none⟩ = some (.slice f1 f2 f3) :=
    ⟨_, rfl, by simp, (Below.refl _ _).alloc (Nat.le_refl _) _, by simp [go_sem], by simp [go_sem], by simp [go_sem]⟩
  have hk' : (k : Int) < (m.uses.length : Int) := by omega
  have hk0 : (0 : Int) ≤ (k : Int) := by omega
  have HU : Hid (∀ s, Calls Tryz.prog 234 #[.slice cu k cc, .string s] w2 fun e w' => e = .returned (.bool (hasS (m.uses.take k) s)) ∧ Below w2.heap.size w2 w') := fun s =>
    contains_str S _ s _ w2 (fun b hb => Nat.lt_of_lt_of_le (hS b hb) hbel.size) (strSl_keep (Keeps.below hbel hS) hcut)
  have d0 := (hbel.cell (p := ⟨b, off + k, none⟩) hbk).trans a0
  have HE : Hid (useCode m.uses l k = if hasS (m.uses.take k) m.uses[k] = true then 4 else if fromOk m.uses l m.uses[k] = true then 0 else 3) := by
    show useCode m.uses l k = _
    unfold useCode
    rw [useName_at hk]
  have HBel := veil hbel
  have HWe := veil hwe
  have d0' : (w.alloc (.cells #[.slice (some ⟨b, off, none⟩) m.uses.length u3, .slice t1 t2 t3, .slice f1 f2 f3] 44)).cell? ⟨b, off + k, none⟩ = some (.string m.uses[k]) := by rw [hwe]; exact d0
  clear hu ht hf hv hcut a0 m0 hwe hbel
  generalize m.uses[k] = s at *
  go_enter Tryz.func160, Tryz.ntmps160
  go_wp2_with fail
  rw [HWe.out]
  refine (HU.out _).mono ?_
  rintro e w3 ⟨rfl, hb3⟩
  have c0 := (hb3.cell (p := ⟨w.heap.size, 0, none⟩) (by show w.heap.size < _; omega)).trans q0
  have c1 := (hb3.cell (p := ⟨w.heap.size, 1, none⟩) (by show w.heap.size < _; omega)).trans q1
  have c2 := (hb3.cell (p := ⟨w.heap.size, 2, none⟩) (by show w.heap.size < _; omega)).trans q2
  have HB3 := veil (HBel.out.trans (hb3.mono HBel.out.size))
  clear hb3 q0 q1 q2 d0 d0' hrun
  cases hh : hasS (m.uses.take k) s with
  | true =>
    have HR : Hid (useCode m.uses l k = 4) := by rw [HE.out, hh]; exact if_pos rfl
    clear HE HU HC
    go_wp2_with fail
    go_ret
    exact ⟨by rw [HR.out]; rfl, HB3.out⟩
  | false =>
    have HC2 := veil (HC.out w3 s HB3.out)
    clear HU HC
    go_wp2_with fail
    refine HC2.out.mono ?_
    rintro e w4 ⟨x1, x2, x3, y1, y2, y3, rfl, hb4⟩
    have HB4 := veil (HB3.out.trans (hb4.mono HB3.out.size))
    clear hb4 HC2 c0 c1 c2
    cases ho : fromOk m.uses l s with
    | true =>
      have HR : Hid (useCode m.uses l k = 0) := by rw [HE.out, hh, ho]; rfl
      clear HE
      go_wp2_with fail
      go_ret
      exact ⟨by rw [HR.out]; rfl, HB4.out.alloc HB4.out.size _⟩
    | false =>
      have HR : Hid (useCode m.uses l k = 3) := by rw [HE.out, hh, ho]; rfl
      clear HE
      go_wp2_with fail
      go_ret
      exact ⟨by rw [HR.out]; rfl, HB4.out.alloc HB4.out.size _⟩

end Go.Proofs.YtagbaimfigljiaaGreatDoor
namespace Go.Proofs.YtagbaimfigljiaaGreatDoor
open Go.RowKit
set_option maxRecDepth 100000

instance : Inhabited Ty := ⟨.mk 0 .empty .empty []⟩
instance : Inhabited Ex := ⟨.mk 0 0 .empty .empty []⟩
instance : Inhabited Fd := ⟨⟨.empty, default⟩⟩
instance : Inhabited Fu := ⟨⟨.empty, .empty, [], default, default⟩⟩

section
variable {H : Type} {enc : TypeId × Value → H} {W : World} {base : Nat} {spare : Nat → Bool} {held : Bool}

/-- none of its lists is longer than what the form allows. -/
def moSmall (m : Mo) : Prop := m.uses.length ≤ reachBytes ∧ m.types.length ≤ reachBytes ∧ m.funcs.length ≤ reachBytes

end

end Go.Proofs.YtagbaimfigljiaaGreatDoor
namespace Go.Proofs.YtagbaimfigljiaaGreatDoor
open Go.RowKit
set_option maxRecDepth 100000

theorem ident_eight {s : ByteArray} (h : identOk s = true) : s.size ≤ 8 := by
  unfold identOk wordOk at h
  simp only [Bool.and_eq_true] at h
  have := h.1.1
  simp [isIn] at this
  omega
theorem mo_counts {m : Mo} (h : moFault m = 0) (hz : moSmall m) : m.uses.length + m.types.length + m.funcs.length ≤ 24 := by
  have hr := reachBytes_lt
  obtain ⟨z1, z2, z3⟩ := hz
  unfold moFault at h
  by_cases hc : 24 < wrap64 (wrap64 ((m.uses.length : Int) + m.types.length) + m.funcs.length)
  · rw [if_pos hc] at h; exact absurd h (by decide)
  · unfold wrap64 at hc
    omega
theorem mo_uses {m : Mo} (h : moFault m = 0) : ∀ s ∈ m.uses, identOk s = true := by
  unfold moFault at h
  by_cases hc : 24 < wrap64 (wrap64 ((m.uses.length : Int) + m.types.length) + m.funcs.length)
  · rw [if_pos hc] at h; exact absurd h (by decide)
  · rw [if_neg hc] at h
    by_cases hu : firstBad useFault m.uses ≠ 0
    · rw [if_pos hu] at h; exact absurd h hu
    · intro s hs
      obtain ⟨k, hk, rfl⟩ := List.getElem_of_mem hs
      have := firstBad_all useFault m.uses (by omega) k hk
      unfold useFault at this
      by_cases hi : identOk m.uses[k] = true
      · exact hi
      · rw [if_neg hi] at this; exact absurd this (by decide)
theorem mo_types {m : Mo} (h : moFault m = 0) : ∀ f ∈ m.types, identOk f.name = true ∧ tyFault f.is 1 = 0 := by
  unfold moFault at h
  by_cases hc : 24 < wrap64 (wrap64 ((m.uses.length : Int) + m.types.length) + m.funcs.length)
  · rw [if_pos hc] at h; exact absurd h (by decide)
  · rw [if_neg hc] at h
    by_cases hu : firstBad useFault m.uses ≠ 0
    · rw [if_pos hu] at h; exact absurd h hu
    · rw [if_neg hu] at h
      by_cases ht : firstBad fdFault m.types ≠ 0
      · rw [if_pos ht] at h; exact absurd h ht
      · intro s hs
        obtain ⟨k, hk, rfl⟩ := List.getElem_of_mem hs
        have := firstBad_all fdFault m.types (by omega) k hk
        unfold fdFault at this
        by_cases hi : identOk (m.types[k]).name = true
        · rw [if_pos hi] at this; exact ⟨hi, this⟩
        · rw [if_neg hi] at this; exact absurd this (by decide)

set_option maxHeartbeats 4000000 in
theorem uses_any (S : Nat → Prop) (m : Mo) (l : List Im) (vm v : Value) (w : World) (hS : ∀ b, S b → b < w.heap.size) (hm : MoIs S w m vm) (hv : SlAt S (ImAt S w) 4 l v) (hz : m.uses.length ≤ 24) (hn : ∀ s ∈ m.uses, s.size ≤ 8) :
    Calls Tryz.prog 86 #[vm, v] w fun e w' => ∃ u, e = .returned u ∧ SlAt (fun b => w.heap.size ≤ b ∧ b < w'.heap.size) (DgAt w') 2 (usesUpto m.uses l m.uses.length) u ∧ Below w.heap.size w w' := by
  have HC : Hid (∀ W k, k < m.uses.length → Below w.heap.size w W → Calls Tryz.prog 160 #[vm, v, .int .i64 (k : Nat)] W fun e w' => e = .returned (.int .i64 (useCode m.uses l k)) ∧ Below W.heap.size W w') := fun W k hk hW =>
    aliasUse_any S m l k vm v W (fun b hb => Nat.lt_of_lt_of_le (hS b hb) hW.size) (hm.keep (Keeps.below hW hS)) (imSl_keep (Keeps.below hW hS) hv) hk
  obtain ⟨vu, vt, vf, rfl, hu, ht, hf⟩ := hm
  have HU := veil hu
  have hlen := hu.len
  unfold maxLen at hlen
  obtain ⟨u1, u3, rfl⟩ := hu.is
  obtain ⟨t1, t2, t3, rfl⟩ := ht.slice
  obtain ⟨f1, f2, f3, rfl⟩ := hf.slice
  obtain ⟨a, n, cap, rfl⟩ := hv.slice
  obtain ⟨w0, hwe, hs0, hA, q0, q1, q2⟩ : ∃ w0, w.alloc (.cells #[.slice u1 m.uses.length u3, .slice t1 t2 t3, .slice f1 f2 f3] 44) = w0 ∧ w0.heap.size = w.heap.size + 1 ∧ Below w.heap.size w w0 ∧
      w0.cell? ⟨w.heap.size, 0, none⟩ = some (.slice u1 m.uses.length u3) ∧ w0.cell? ⟨w.heap.size, 1, none⟩ = some (.slice t1 t2 t3) ∧ w0.cell? ⟨w.heap.size, 2, none⟩ = some (.slice f1 f2 f3) :=
    ⟨_, rfl, by simp, (Below.refl _ _).alloc (Nat.le_refl _) _, by simp [go_sem], by simp [go_sem], by simp [go_sem]⟩
  have HBox : Hid (∀ W, Below w0.heap.size w0 W → (W.cell? ⟨w.heap.size, 0, none⟩ = some (.slice u1 m.uses.length u3) ∧ W.cell? ⟨w.heap.size, 1, none⟩ = some (.slice t1 t2 t3) ∧ W.cell? ⟨w.heap.size, 2, none⟩ = some (.slice f1 f2 f3)) ∧ Below w.heap.size w W ∧ w.heap.size + 1 ≤ W.heap.size) := fun W h =>
    ⟨⟨(h.cell (p := ⟨w.heap.size, 0, none⟩) (by show w.heap.size < _; omega)).trans q0, (h.cell (p := ⟨w.heap.size, 1, none⟩) (by show w.heap.size < _; omega)).trans q1, (h.cell (p := ⟨w.heap.size, 2, none⟩) (by show w.heap.size < _; omega)).trans q2⟩, hA.trans (h.mono hA.size), by have := h.size; omega⟩
  have HWe := veil hwe
  have HN : Hid (∀ k (hk : k < m.uses.length), (m.uses[k]).size ≤ 8) := fun k hk => hn _ (List.getElem_mem hk)
  have HSz : Hid (∀ t ∈ usesUpto m.uses l m.uses.length, t.wh.size ≤ maxLen) := by
    show ∀ t ∈ usesUpto m.uses l m.uses.length, t.wh.size ≤ maxLen
    have : ∀ k, k ≤ m.uses.length → ∀ t ∈ usesUpto m.uses l k, t.wh.size ≤ maxLen := by
      intro k
      induction k with
      | zero => intro _ t ht; cases ht
      | succ k ih =>
        intro hk t ht
        rw [usesUpto] at ht
        rcases List.mem_append.1 ht with h | h
        · exact ih (by omega) t h
        · unfold useStep at h
          by_cases hc : useCode m.uses l k = 0
          · rw [if_pos hc] at h; cases h
          · rw [if_neg hc] at h
            rw [List.mem_singleton.1 h]
            show (useName m.uses k).size ≤ _
            rw [useName_at (by omega)]
            have := hn _ (List.getElem_mem (show k < m.uses.length by omega))
            unfold maxLen; omega
    exact this _ (Nat.le_refl _)
  clear hu ht hf hv hwe hA q0 q1 q2 hn
  obtain ⟨i0, hi, hz0, hz1, hz2⟩ := info_parts infoDg
  go_enter Tryz.func86, Tryz.ntmps86
  go_wp2_with fail
  rw [HWe.out]
  clear HWe
  go_loopw [5, 12] (fun v i wr => ∃ k : Nat, k ≤ m.uses.length ∧ i = .int .i64 k ∧ wr.ownsRow (w.heap.size + 1) 53 2 v (usesUpto m.uses l k).length (dgCells (usesUpto m.uses l k)) ∧ Below w0.heap.size w0 wr) (fun _ i _ => m.uses.length - (intOf i).toNat)
  case atStart => exact ⟨0, Nat.zero_le _, rfl, World.ownsRow_nil _ _ _ _, Below.refl _ _⟩
  case round =>
    obtain ⟨k, hk, rfl, hown, hbl⟩ := hrel
    obtain ⟨⟨c0, c1, c2⟩, hbw, hsz⟩ := HBox.out _ hbl
    have HOwn := veil hown
    have HBl := veil hbl
    have HBw := veil hbw
    clear hown hbl hbw
    by_cases hlt : k < m.uses.length
    · have hlt' : (k : Int) < (m.uses.length : Int) := by omega
      obtain ⟨_, b, off, rfl, hb, a0, m0⟩ := HU.out.at hlt
      rw [Nat.mul_one] at a0
      have hbk := hS b hb
      have d0 := (HBw.out.cell (p := ⟨b, off + k, none⟩) hbk).trans a0
      have HC2 := veil (HC.out wr k hlt HBw.out)
      have hnk := HN.out k hlt
      have hnm : useName m.uses k = m.uses[k] := useName_at hlt
      have HNm := veil hnm
      have HLe := veil (usesUpto_le m.uses l k)
      clear a0 m0 hnm HC HU
      generalize m.uses[k] = s at *
      go_wp2_with fail
      refine HC2.out.mono ?_
      rintro e w1 ⟨rfl, hb1⟩
      have hbl1 := HBl.out.trans (hb1.mono HBl.out.size)
      obtain ⟨⟨e0, e1, e2⟩, hbw1, hsz1⟩ := HBox.out _ hbl1
      have HOwn1 := veil (ownsRow_later HOwn.out hb1)
      have HBl1 := veil hbl1
      clear c0 c1 c2 hb1 hbl1 hbw1 HC2 HOwn d0
      by_cases hc : useCode m.uses l k = 0
      · have hc' : (useCode m.uses l k != 0) = false := by simp [hc]
        have HZ := veil (usesUpto_zero hc)
        clear hc
        generalize useCode m.uses l k = c at *
        go_wp2_with fail
        exact ⟨⟨k + 1, by omega, by go_num, by rw [HZ.out]; exact HOwn1.out, HBl1.out⟩, by simp [intOf]; omega⟩
      · have hc' : (useCode m.uses l k != 0) = true := by simp [hc]
        have HZ := veil (usesUpto_one hc)
        rw [HNm.out] at HZ
        clear hc HNm
        generalize useCode m.uses l k = c at *
        go_wp2_with fail
        refine (diag_any s c _ (by omega)).mono ?_
        rintro e w2 ⟨rfl, hb2⟩
        have hbl2 := HBl1.out.trans (hb2.mono HBl1.out.size)
        have hown2 := ownsRow_later HOwn1.out hb2
        obtain ⟨-, hbw2, hsz2⟩ := HBox.out _ hbl2
        have HBl2 := veil hbl2
        clear e0 e1 e2 hb2 hbl2 hbw2 HOwn1 HBl1
        go_wp2_with (at_builtin; refine wpList_append_own _ rfl _ _ 31 rfl (w.heap.size + 1) 53 i0 (.agg #[.string ⟨#[]⟩, .int .i64 0]) 2 24 Tryz.underlying31 hi hz0 hz1 hz2 rfl (by decide) _ _ _ rfl (hown2.alloc _) ⟨w2.heap.size, 0, none⟩ 1 1 [.string s, .int .i64 c] rfl rfl ?c1 ?c2 ?c3 ?c4 ?c5 ?_)
        case c1 => exact cell_two_new _ _ _ _
        case c2 =>
          intro u hu
          simp at hu
          rcases hu with rfl | rfl <;> rfl
        case c3 => have := HLe.out; unfold maxLen; omega
        case c4 => have := HLe.out; omega
        case c5 => simp; omega
        intro v' w3 hown3 hgrow _
        have hrow := ownsRow_at hown2
        have HL3 : Hid (Below w0.heap.size w0 w3) := (HBl2.out.alloc (by omega) (.cells #[.string s, .int .i64 c] 53)).grown hgrow (by simp; omega) (fun j hj => by have := hrow j hj; omega)
        have HO3 : Hid (w3.ownsRow (w.heap.size + 1) 53 2 v' (usesUpto m.uses l (k + 1)).length (dgCells (usesUpto m.uses l (k + 1)))) := by
          show w3.ownsRow _ _ _ _ _ _
          rw [HZ.out, dgCells_snoc, List.length_append]
          exact hown3
        clear hown3 hgrow hrow hown2
        go_wp2_with fail
        exact ⟨⟨k + 1, by omega, by go_num, HO3.out, HL3.out⟩, by simp [intOf]; omega⟩
    · have hnl : ¬ (k : Int) < (m.uses.length : Int) := by omega
      have hke : k = m.uses.length := by omega
      subst hke
      have HFin := veil (ownsRow_dgs HOwn.out (Nat.le_trans (usesUpto_le _ _ _) (by unfold maxLen; omega)) HSz.out)
      clear HOwn HU HC
      go_wp2_with fail
      go_ret
      refine ⟨_, rfl, HFin.out.imp (fun b hb => ⟨by omega, hb.2⟩) (fun _ _ _ _ _ h => h), HBw.out⟩

end Go.Proofs.YtagbaimfigljiaaGreatDoor
namespace Go.Proofs.YtagbaimfigljiaaGreatDoor
open Go.RowKit
set_option maxRecDepth 100000

/-- what UsesOf's regions keep. -/
def UseS (B b o : Nat) (p q r : Value) (s : ByteArray) (wr W : World) : Prop :=
  Below wr.heap.size wr W ∧ W.cell? ⟨B, 0, none⟩ = some p ∧ W.cell? ⟨B, 1, none⟩ = some q ∧ W.cell? ⟨B, 2, none⟩ = some r ∧ W.cell? ⟨b, o, none⟩ = some (.string s)
theorem UseS.below {B b o : Nat} {p q r : Value} {s : ByteArray} {wr W : World} (h : UseS B b o p q r s wr W) : Below wr.heap.size wr W := h.1
theorem UseS.later {B b o : Nat} {p q r : Value} {s : ByteArray} {wr W W' : World} (h : UseS B b o p q r s wr W) (hb : Below W.heap.size W W') : UseS B b o p q r s wr W' := by
  obtain ⟨h0, h1, h2, h3, h4⟩ := h
  exact ⟨h0.trans (hb.mono h0.size), (hb.cell (World.block_lt_of_cell? _ _ h1)).trans h1, (hb.cell (World.block_lt_of_cell? _ _ h2)).trans h2, (hb.cell (World.block_lt_of_cell? _ _ h3)).trans h3, (hb.cell (World.block_lt_of_cell? _ _ h4)).trans h4⟩

theorem UseS.box {B b o : Nat} {p q r : Value} {s : ByteArray} {wr W : World} {x : Obj} (h : UseS B b o p q r s wr W) : UseS B b o p q r s wr (W.alloc x) := h.later ((Below.refl _ _).alloc (Nat.le_refl _) _)
theorem UseS.sets {B b o g : Nat} {p q r : Value} {s : ByteArray} {wr W : World} {u v : Value} (h : UseS B b o p q r s wr W) (hg : wr.heap.size ≤ g) (hB : B < wr.heap.size) (hb : b < wr.heap.size) : UseS B b o p q r s wr ((W.setCell ⟨g, 0, none⟩ u).setCell ⟨g, 1, none⟩ v) := by
  obtain ⟨h0, h1, h2, h3, h4⟩ := h
  have e : ∀ (c : Addr), c.block ≠ g → ((W.setCell ⟨g, 0, none⟩ u).setCell ⟨g, 1, none⟩ v).cell? c = W.cell? c := fun c hc => by
    rw [World.cell?_setCell_far _ _ _ _ (by show g ≠ c.block; omega), World.cell?_setCell_far _ _ _ _ (by show g ≠ c.block; omega)]
  exact ⟨(h0.setCell hg _).setCell hg _, (e _ (by show B ≠ g; omega)).trans h1, (e _ (by show B ≠ g; omega)).trans h2, (e _ (by show B ≠ g; omega)).trans h3, (e _ (by show b ≠ g; omega)).trans h4⟩

theorem UseS.swap {B b o : Nat} {p q r : Value} {s : ByteArray} {wr W : World} {x y : Obj} (h : UseS B b o p q r s wr (W.alloc x)) (hl : wr.heap.size ≤ W.heap.size) (hB : B < wr.heap.size) (hb : b < wr.heap.size) : UseS B b o p q r s wr (W.alloc y) := by
  obtain ⟨h0, h1, h2, h3, h4⟩ := h
  have e : ∀ c, c < wr.heap.size → (W.alloc y).heap[c]? = (W.alloc x).heap[c]? := fun c hc => by
    rw [heap_alloc_old _ _ (by omega), heap_alloc_old _ _ (by omega)]
  refine ⟨⟨h0.os, h0.tape, h0.output, by simp; omega, fun c hc => (e c hc).trans (h0.block c hc)⟩, ?_, ?_, ?_, ?_⟩
  · rw [World.cell?_of_block (e B hB)]; exact h1
  · rw [World.cell?_of_block (e B hB)]; exact h2
  · rw [World.cell?_of_block (e B hB)]; exact h3
  · rw [World.cell?_of_block (e b hb)]; exact h4

theorem dg_one (s : ByteArray) (c : Int) : ∀ u ∈ ([.string s, .int .i64 c] : List Value), u.oneCell' = true := by
  intro u hu
  simp at hu
  rcases hu with rfl | rfl <;> rfl

theorem uses_small {u : List ByteArray} {l : List Im} (hn : ∀ s ∈ u, s.size ≤ 8) : ∀ t ∈ usesUpto u l u.length, t.wh.size ≤ maxLen := by
  have : ∀ k, k ≤ u.length → ∀ t ∈ usesUpto u l k, t.wh.size ≤ maxLen := by
    intro k
    induction k with
    | zero => intro _ t ht; cases ht
    | succ k ih =>
      intro hk t ht
      rw [usesUpto] at ht
      rcases List.mem_append.1 ht with h | h
      · exact ih (by omega) t h
      · unfold useStep at h
        by_cases hc : useCode u l k = 0
        · rw [if_pos hc] at h; cases h
        · rw [if_neg hc] at h
          rw [List.mem_singleton.1 h]
          show (useName u k).size ≤ _
          rw [useName_at (by omega)]
          have := hn _ (List.getElem_mem (show k < u.length by omega))
          unfold maxLen; omega
  exact this _ (Nat.le_refl _)

theorem box_later {W w' : World} {a b : Value} {t : TypeId} (hb : Below (W.alloc (.cells #[a, b] t)).heap.size (W.alloc (.cells #[a, b] t)) w') : w'.cell? ⟨W.heap.size, 0, none⟩ = some a ∧ w'.cell? ⟨W.heap.size, 1, none⟩ = some b ∧ w'.frozen? ⟨W.heap.size, 0, none⟩ = false ∧ w'.frozen? ⟨W.heap.size, 1, none⟩ = false := by
  have hl : W.heap.size < (W.alloc (.cells #[a, b] t)).heap.size := by simp
  exact ⟨(hb.cell (p := ⟨W.heap.size, 0, none⟩) hl).trans (by simp [go_sem]), (hb.cell (p := ⟨W.heap.size, 1, none⟩) hl).trans (by simp [go_sem]), (hb.frozen (p := ⟨W.heap.size, 0, none⟩) hl).trans (by simp [go_sem]), (hb.frozen (p := ⟨W.heap.size, 1, none⟩) hl).trans (by simp [go_sem])⟩

end Go.Proofs.YtagbaimfigljiaaGreatDoor
