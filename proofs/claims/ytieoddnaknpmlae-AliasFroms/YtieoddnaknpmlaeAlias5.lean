/- What scullerylaw.may answers, and what alias.From answers: the face of the import of that name, a copy of it. -/
import Derived.Test.YtieoddnaknpmlaeAlias4
import Derived.Test.YtieoddnaknpmlaeFaultM
namespace Go.Proofs.Ytieoddnaknpmlae
open Go.RowKit

theorem may_any (S : Nat → Prop) (m : Mo) (l : List Im) (vm v : Value) (w : World) (hS : ∀ b, S b → b < w.heap.size) (hm : MoIs S w m vm) (hv : SlAt S (ImAt S w) 4 l v) :
    Calls Try.prog 21 #[vm, v] w fun e w' => e = .returned (.bool (moFault m == 0 && imsFault l == 0)) ∧ Below w.heap.size w w' := by
  have HC : Hid (∀ W : World, Below w.heap.size w W → Calls Try.prog 44 #[vm] W fun e w' => e = .returned (.int .i64 (moFault m)) ∧ Below W.heap.size W w') := fun W hW =>
    moduleFault_any S m vm W (fun b hb => Nat.lt_of_lt_of_le (hS b hb) hW.size) (hm.keep (Keeps.below hW hS))
  have HD : Hid (∀ W : World, Below w.heap.size w W → Calls Try.prog 20 #[v] W fun e w' => e = .returned (.int .i64 (imsFault l)) ∧ Below W.heap.size W w') := fun W hW =>
    importsFault_any S l v W (fun b hb => Nat.lt_of_lt_of_le (hS b hb) hW.size) (imSl_keep (Keeps.below hW hS) hv)
  obtain ⟨vu, vt, vf, rfl, hu, ht, hf⟩ := hm
  obtain ⟨u1, u2, u3, rfl⟩ := hu.slice
  obtain ⟨t1, t2, t3, rfl⟩ := ht.slice
  obtain ⟨f1, f2, f3, rfl⟩ := hf.slice
  obtain ⟨a, n, cap, rfl⟩ := hv.slice
  have HA : Hid (Below w.heap.size w (w.alloc (.cells #[.slice u1 u2 u3, .slice t1 t2 t3, .slice f1 f2 f3] 46))) := (Below.refl _ _).alloc (Nat.le_refl _) _
  clear hv hu ht hf
  generalize moFault m = r at *
  generalize imsFault l = q at *
  cases hr : (r == 0) with
  | false =>
    go_enter Try.func21, Try.ntmps21
    go_wp2_with fail
    refine (HC.out _ HA.out).mono ?_
    rintro e w' ⟨rfl, hb⟩
    have HB := veil (HA.out.trans (hb.mono HA.out.size))
    clear hb
    go_wp2_with fail
    go_ret
    exact ⟨by simp, HB.out⟩
  | true =>
    go_enter Try.func21, Try.ntmps21
    go_wp2_with fail
    refine (HC.out _ HA.out).mono ?_
    rintro e w' ⟨rfl, hb⟩
    have HB := veil (HA.out.trans (hb.mono HA.out.size))
    clear hb
    go_wp2_with fail
    refine (HD.out _ HB.out).mono ?_
    rintro e w2 ⟨rfl, hb2⟩
    have HB2 := veil (HB.out.trans (hb2.mono HB.out.size))
    clear hb2
    go_wp2_with fail
    go_ret
    exact ⟨by simp, HB2.out⟩

theorem fcNil_small : fcSmall ⟨[], []⟩ := ⟨⟨by simp, by simp⟩, by simp, by simp⟩
theorem from_small {u : List ByteArray} {l : List Im} (s : ByteArray) (h : ∀ i ∈ l, fcSmall i.face) : fcSmall (fromFc u l s) := by
  unfold fromFc
  cases hl : l[impAt l s]? with
  | none => exact fcNil_small
  | some i =>
    show fcSmall (if (i.there && hasS u s) = true then i.face else ⟨[], []⟩)
    by_cases hi : (i.there && hasS u s) = true
    · rw [if_pos hi]; exact h i (List.mem_of_getElem? hl)
    · rw [if_neg hi]; exact fcNil_small

set_option maxHeartbeats 2000000 in
theorem from_any (S : Nat → Prop) (m : Mo) (l : List Im) (s : ByteArray) (vm v : Value) (w : World) (hS : ∀ b, S b → b < w.heap.size) (hm : MoIs S w m vm) (hv : SlAt S (ImAt S w) 4 l v) (hz : ∀ i ∈ l, fcSmall i.face) :
    Calls Try.prog 22 #[vm, v, .string s] w fun e w' => ∃ a n cap a2 n2 cap2, e = .returned (.tuple #[.agg #[.slice a n cap, .slice a2 n2 cap2], .bool (fromOk m.uses l s)]) ∧ FcIs (fun b => b < w'.heap.size) w' (fromFc m.uses l s) (.agg #[.slice a n cap, .slice a2 n2 cap2]) ∧ Below w.heap.size w w' := by
  have hz' := from_small (u := m.uses) s hz
  have HC : Hid (∀ W, Below w.heap.size w W → Calls Try.prog 45 #[vm, v, .string s] W fun e w' => ∃ a n cap a2 n2 cap2, e = .returned (.tuple #[.agg #[.slice a n cap, .slice a2 n2 cap2], .bool (fromOk m.uses l s)]) ∧ FcIs S w' (fromFc m.uses l s) (.agg #[.slice a n cap, .slice a2 n2 cap2]) ∧ Below W.heap.size W w') := fun W hW => by
    have hS' : ∀ b, S b → b < W.heap.size := fun b hb => Nat.lt_of_lt_of_le (hS b hb) hW.size
    refine (used_any S m l s vm v W hS' (hm.keep (Keeps.below hW hS)) (imSl_keep (Keeps.below hW hS) hv)).mono ?_
    rintro e w' ⟨a, n, cap, a2, n2, cap2, rfl, hf, hb⟩
    exact ⟨a, n, cap, a2, n2, cap2, rfl, hf.keep (Keeps.below hb hS'), hb⟩
  have HK : Hid (∀ W u, w.heap.size ≤ W.heap.size → FcIs S W (fromFc m.uses l s) u → Calls Try.prog 46 #[u] W fun e w' => ∃ a n cap a2 n2 cap2, e = .returned (.agg #[.slice a n cap, .slice a2 n2 cap2]) ∧ FcCs (fun b => W.heap.size ≤ b ∧ b < w'.heap.size) w' (fromFc m.uses l s) (.slice a n cap) (.slice a2 n2 cap2) ∧ Below W.heap.size W w') := fun W u hW hu =>
    copy_face S _ _ W (fun b hb => Nat.lt_of_lt_of_le (hS b hb) hW) hu hz'
  obtain ⟨vu, vt, vf, rfl, hu, ht, hf⟩ := hm
  obtain ⟨u1, u2, u3, rfl⟩ := hu.slice
  obtain ⟨t1, t2, t3, rfl⟩ := ht.slice
  obtain ⟨f1, f2, f3, rfl⟩ := hf.slice
  obtain ⟨a, n, cap, rfl⟩ := hv.slice
  have HOut : Hid (fromOk m.uses l s = false → fromFc m.uses l s = ⟨[], []⟩) := fun h => by
    by_cases hat : impAt l s < l.length
    · cases hh : (l[impAt l s].there && hasS m.uses s) with
      | false => exact (from_no hat hh).2
      | true => rw [(from_yes hat hh).1] at h; cases h
    · exact (from_out (by omega)).2
  clear hu ht hf hv hz hz'
  generalize fromFc m.uses l s = fc at *
  generalize fromOk m.uses l s = ok at *
  obtain ⟨w2, hwe, hs2, hbel, q0, q1, f0, f1⟩ : ∃ w2, (w.alloc (.cells #[.slice u1 u2 u3, .slice t1 t2 t3, .slice f1 f2 f3] 46)).alloc (.cells #[.slice none 0 0, .slice none 0 0] 25) = w2 ∧ w2.heap.size = w.heap.size + 2 ∧ Below w.heap.size w w2 ∧
      w2.cell? ⟨w.heap.size + 1, 0, none⟩ = some (.slice none 0 0) ∧ w2.cell? ⟨w.heap.size + 1, 1, none⟩ = some (.slice none 0 0) ∧ w2.frozen? ⟨w.heap.size + 1, 0, none⟩ = false ∧ w2.frozen? ⟨w.heap.size + 1, 1, none⟩ = false :=
    ⟨_, rfl, by simp, ((Below.refl _ _).alloc (Nat.le_refl _) _).alloc (by simp) _, by simp [go_sem], by simp [go_sem], by simp [go_sem], by simp [go_sem]⟩
  have HRes : Hid (∀ W, Below w2.heap.size w2 W → (W.cell? ⟨w.heap.size + 1, 0, none⟩ = some (.slice none 0 0) ∧ W.cell? ⟨w.heap.size + 1, 1, none⟩ = some (.slice none 0 0)) ∧ (W.frozen? ⟨w.heap.size + 1, 0, none⟩ = false ∧ W.frozen? ⟨w.heap.size + 1, 1, none⟩ = false) ∧ Below w.heap.size w W ∧ w.heap.size + 1 < W.heap.size) := fun W h => by
    have hsz := h.size
    exact ⟨⟨(h.cell (p := ⟨w.heap.size + 1, 0, none⟩) (by show w.heap.size + 1 < _; omega)).trans q0, (h.cell (p := ⟨w.heap.size + 1, 1, none⟩) (by show w.heap.size + 1 < _; omega)).trans q1⟩,
      ⟨(h.frozen (p := ⟨w.heap.size + 1, 0, none⟩) (by show w.heap.size + 1 < _; omega)).trans f0, (h.frozen (p := ⟨w.heap.size + 1, 1, none⟩) (by show w.heap.size + 1 < _; omega)).trans f1⟩, hbel.trans (h.mono hbel.size), by omega⟩
  have HSet : Hid (∀ W u0 u1, Below w.heap.size w W → Below w.heap.size w ((W.setCell ⟨w.heap.size + 1, 0, none⟩ u0).setCell ⟨w.heap.size + 1, 1, none⟩ u1)) := fun W u0 u1 h =>
    (h.setCell (by show w.heap.size ≤ w.heap.size + 1; omega) _).setCell (by show w.heap.size ≤ w.heap.size + 1; omega) _
  have HFin : Hid (∀ (W : World) (n : Nat) (p q u v : Value), w.heap.size + 1 < n → FcCs (fun b => n ≤ b ∧ b < W.heap.size) W fc p q → FcIs (fun b => b < ((W.setCell ⟨w.heap.size + 1, 0, none⟩ u).setCell ⟨w.heap.size + 1, 1, none⟩ v).heap.size) ((W.setCell ⟨w.heap.size + 1, 0, none⟩ u).setCell ⟨w.heap.size + 1, 1, none⟩ v) fc (.agg #[p, q])) := fun W n p q u v hn h => by
    have k1 := keep_set (B := n) (g := w.heap.size + 1) (W := W) (by omega) 0 u
    have k2 := keep_set (B := n) (g := w.heap.size + 1) (W := W.setCell ⟨w.heap.size + 1, 0, none⟩ u) (by omega) 1 v
    exact ⟨p, q, rfl, ((h.keep k1).keep k2).keep ⟨fun _ _ => rfl, fun b hb => hb.2⟩⟩
  have HWe := veil hwe
  have HBel := veil hbel
  clear q0 q1 f0 f1 hwe hbel
  go_enter Try.func22, Try.ntmps22
  go_wp2_with fail
  rw [HWe.out]
  refine (HC.out _ HBel.out).mono ?_
  rintro e w3 ⟨b1, b2, b3, c1, c2, c3, rfl, hfc, hb3⟩
  obtain ⟨w4, rfl, p0, p1, hb4⟩ : ∃ w4, w4 = w3.alloc (.cells #[.slice b1 b2 b3, .slice c1 c2 c3] 25) ∧ w4.cell? ⟨w3.heap.size, 0, none⟩ = some (.slice b1 b2 b3) ∧ w4.cell? ⟨w3.heap.size, 1, none⟩ = some (.slice c1 c2 c3) ∧ Below w3.heap.size w3 w4 :=
    ⟨_, rfl, by simp [go_sem], by simp [go_sem], (Below.refl _ _).alloc (Nat.le_refl _) _⟩
  have hb5 := hb3.trans (hb4.mono hb3.size)
  obtain ⟨⟨g0, g1⟩, ⟨g3, g4⟩, hb6, hl6⟩ := HRes.out _ hb5
  have hS3 : ∀ b, S b → b < w3.heap.size := fun b hb => by have := hS b hb; have := hb3.size; omega
  have HF4 := veil (hfc.keep (Keeps.below hb4 hS3))
  have HB5 := veil hb5
  have HB6 := veil hb6
  clear hb3 hb4 hb5 hb6 hfc hS3
  cases ok with
  | false =>
    have HE := veil (HOut.out rfl)
    clear p0 p1 HC HK
    go_wp2_with fail
    exact bodyPost_ret (v := .tuple #[.agg #[.slice none 0 0, .slice none 0 0], .bool false]) (by simp [results, Try.results22, go_sem, g0, g1]) rfl ⟨_, _, _, _, _, _, rfl, by rw [HE.out]; exact fcNil _ _, HSet.out _ _ _ HB6.out⟩
  | true =>
    clear HC
    go_wp2_with fail
    refine (HK.out _ _ (by have := HB6.out.size; omega) HF4.out).mono ?_
    rintro e w7 ⟨d1, d2, d3, e1, e2, e3, rfl, hfc7, hb7⟩
    have hl6' := hl6
    have HF7 := veil hfc7
    clear g0 g1 g3 g4
    obtain ⟨⟨g0, g1⟩, ⟨g3, g4⟩, hb8, _⟩ := HRes.out _ (HB5.out.trans (hb7.mono HB5.out.size))
    have HB8 := veil hb8
    clear hb7 hb8 hfc7 p0 p1
    go_wp2_with fail
    exact bodyPost_ret (v := .tuple #[.agg #[.slice d1 d2 d3, .slice e1 e2 e3], .bool true]) (by simp [results, Try.results22, go_sem, g0, g1]) rfl ⟨_, _, _, _, _, _, rfl, HFin.out _ _ _ _ _ _ hl6' HF7.out, HSet.out _ _ _ HB8.out⟩

end Go.Proofs.Ytieoddnaknpmlae
