/- What the reference's FromOf answers, and what alias.From answers: the face of the import of that name, a copy of it. -/
import Derived.Test.YtkdailcadcfepafGreatJAlias3
namespace Go.Proofs.YtkdailcadcfepafGreat
open Go.RowKit
set_option maxRecDepth 100000

set_option maxHeartbeats 2000000 in
theorem fromOf_any (S : Nat → Prop) (m : Mo) (l : List Im) (s : ByteArray) (vm v : Value) (w : World) (hS : ∀ b, S b → b < w.heap.size) (hm : MoIs S w m vm) (hv : SlAt S (ImAt S w) 4 l v) (hu0 : imsFault l = 0) :
    Calls Tryz.prog 85 #[vm, v, .string s] w fun e w' => ∃ a n cap a2 n2 cap2, e = .returned (.tuple #[.agg #[.slice a n cap, .slice a2 n2 cap2], .bool (fromOk m.uses l s)]) ∧ FcIs S w (fromFc m.uses l s) (.agg #[.slice a n cap, .slice a2 n2 cap2]) ∧ Below w.heap.size w w' := by
  have HS0 := veil (from_same m.uses s (ims_order hu0))
  clear hu0
  obtain ⟨vu, vt, vf, rfl, hu, ht, hf⟩ := hm
  obtain ⟨u1, u2, u3, rfl⟩ := hu.slice
  obtain ⟨t1, t2, t3, rfl⟩ := ht.slice
  obtain ⟨f1, f2, f3, rfl⟩ := hf.slice
  have HV := veil hv
  have hlen := hv.len
  unfold maxLen at hlen
  obtain ⟨a, cap, rfl⟩ := hv.is
  obtain ⟨w2, hwe, hs2, p0, hbel, q0, q1, f0, f1⟩ : ∃ w2, (w.alloc (.cells #[.slice u1 u2 u3, .slice t1 t2 t3, .slice f1 f2 f3] 26)).alloc (.cells #[.slice none 0 0, .slice none 0 0] 32) = w2 ∧ w2.heap.size = w.heap.size + 2 ∧
      w2.cell? ⟨w.heap.size, 0, none⟩ = some (.slice u1 u2 u3) ∧ Below w.heap.size w w2 ∧
      w2.cell? ⟨w.heap.size + 1, 0, none⟩ = some (.slice none 0 0) ∧ w2.cell? ⟨w.heap.size + 1, 1, none⟩ = some (.slice none 0 0) ∧ w2.frozen? ⟨w.heap.size + 1, 0, none⟩ = false ∧ w2.frozen? ⟨w.heap.size + 1, 1, none⟩ = false :=
    ⟨_, rfl, by simp, by simp [go_sem], ((Below.refl _ _).alloc (Nat.le_refl _) _).alloc (by simp) _, by simp [go_sem], by simp [go_sem], by simp [go_sem], by simp [go_sem]⟩
  have HRes : Hid (∀ W, Below w2.heap.size w2 W → (W.cell? ⟨w.heap.size + 1, 0, none⟩ = some (.slice none 0 0) ∧ W.cell? ⟨w.heap.size + 1, 1, none⟩ = some (.slice none 0 0)) ∧ W.frozen? ⟨w.heap.size + 1, 0, none⟩ = false ∧ W.frozen? ⟨w.heap.size + 1, 1, none⟩ = false ∧ W.cell? ⟨w.heap.size, 0, none⟩ = some (.slice u1 u2 u3) ∧ Below w.heap.size w W) := fun W h => by
    exact ⟨⟨(h.cell (p := ⟨w.heap.size + 1, 0, none⟩) (by show w.heap.size + 1 < _; omega)).trans q0, (h.cell (p := ⟨w.heap.size + 1, 1, none⟩) (by show w.heap.size + 1 < _; omega)).trans q1⟩,
      (h.frozen (p := ⟨w.heap.size + 1, 0, none⟩) (by show w.heap.size + 1 < _; omega)).trans f0, (h.frozen (p := ⟨w.heap.size + 1, 1, none⟩) (by show w.heap.size + 1 < _; omega)).trans f1, (h.cell (p := ⟨w.heap.size, 0, none⟩) (by show w.heap.size < _; omega)).trans p0, hbel.trans (h.mono hbel.size)⟩
  have HSet : Hid (∀ W u0 u1, Below w.heap.size w W → Below w.heap.size w ((W.setCell ⟨w.heap.size + 1, 0, none⟩ u0).setCell ⟨w.heap.size + 1, 1, none⟩ u1)) := fun W u0 u1 h =>
    (h.setCell (by show w.heap.size ≤ w.heap.size + 1; omega) _).setCell (by show w.heap.size ≤ w.heap.size + 1; omega) _
  have HU : Hid (∀ W, Below w.heap.size w W → Calls Tryz.prog 87 #[.slice u1 u2 u3, .string s] W fun e w' => e = .returned (.bool (hasS m.uses s)) ∧ Below W.heap.size W w') := fun W hW =>
    hasText_any S _ _ _ W (fun b hb => Nat.lt_of_lt_of_le (hS b hb) hW.size) (strSl_keep (Keeps.below hW hS) hu)
  have HWe := veil hwe
  clear q0 q1 f0 f1 p0 hu ht hf hv hwe hbel
  go_enter Tryz.func85, Tryz.ntmps85
  go_wp2_with fail
  rw [HWe.out]
  clear HWe
  go_loopw [8] (fun i wr => ∃ j : Nat, j ≤ l.length ∧ i = .int .i64 j ∧ fromR m.uses s l = fromR m.uses s (l.drop j) ∧ Below w2.heap.size w2 wr) (fun i _ => l.length - (intOf i).toNat)
  case atStart => exact ⟨0, Nat.zero_le _, rfl, rfl, Below.refl _ _⟩
  case round =>
    obtain ⟨j, hj, rfl, hq, hbl⟩ := hrel
    have HQ := veil hq
    have HBW := veil hbl
    obtain ⟨⟨g0, g1⟩, g3, g4, c0, hb4⟩ := HRes.out _ hbl
    have HB4 := veil hb4
    clear hq hbl
    by_cases hlt : j < l.length
    · have hlt' : (j : Int) < (l.length : Int) := by omega
      obtain ⟨_, b, off, rfl, hb, him⟩ := HV.out.at hlt
      have hbk := hS b hb
      obtain ⟨x1, x2, x3, y1, y2, y3, a0, a1, a2, a3, hfc⟩ := im_cells him
      have HF := veil hfc
      have HDr := veil (@fromR_drop m.uses s l j hlt)
      have HAll : Hid (∀ W, Below w.heap.size w W → W.cell? ⟨b, off + j * 4, none⟩ = some (.string l[j].name) ∧ W.cell? ⟨b, off + j * 4 + 1, none⟩ = some (.bool l[j].there) ∧ W.cell? ⟨b, off + j * 4 + 2, none⟩ = some (.slice x1 x2 x3) ∧ W.cell? ⟨b, off + j * 4 + 3, none⟩ = some (.slice y1 y2 y3)) := fun W h =>
        ⟨(h.cell (p := ⟨b, off + j * 4, none⟩) hbk).trans a0, (h.cell (p := ⟨b, off + j * 4 + 1, none⟩) hbk).trans a1, (h.cell (p := ⟨b, off + j * 4 + 2, none⟩) hbk).trans a2, (h.cell (p := ⟨b, off + j * 4 + 3, none⟩) hbk).trans a3⟩
      obtain ⟨d0, d1, d2, d3⟩ := HAll.out _ hb4
      clear him a0 a1 a2 a3 hfc HV hb4
      generalize l[j].face = fc at *
      generalize l[j].there = th at *
      generalize l[j].name = nm at *
      cases hx : (nm.toList == s.toList) with
      | false =>
        have HN : Hid (fromR m.uses s l = fromR m.uses s (l.drop (j + 1))) := by
          show _ = _
          rw [HQ.out, HDr.out, if_neg (by show ¬ ((nm.toList == s.toList) && _) = true; rw [hx]; simp)]
        clear HQ HDr HU HF
        go_wp2_with fail
        exact ⟨⟨j + 1, by omega, by go_num, HN.out, HBW.out⟩, by simp [intOf]; omega⟩
      | true =>
        cases th with
        | false =>
          have HN : Hid (fromR m.uses s l = fromR m.uses s (l.drop (j + 1))) := by
            show _ = _
            rw [HQ.out, HDr.out, if_neg (by simp)]
          clear HQ HDr HU HF
          go_wp2_with fail
          exact ⟨⟨j + 1, by omega, by go_num, HN.out, HBW.out⟩, by simp [intOf]; omega⟩
        | true =>
          have HU2 := veil (HU.out _ HB4.out)
          clear HU
          go_wp2_with fail
          refine HU2.out.mono ?_
          rintro e w5 ⟨rfl, hb5⟩
          have hb6 := HBW.out.trans (hb5.mono HBW.out.size)
          clear g0 g1 g3 g4 d0 d1 d2 d3 c0
          obtain ⟨⟨g0, g1⟩, g3, g4, c0, hb7⟩ := HRes.out _ hb6
          obtain ⟨d0, d1, d2, d3⟩ := HAll.out _ hb7
          have HB6 := veil hb6
          have HB7 := veil hb7
          clear hb5 hb6 hb7
          cases hh : hasS m.uses s with
          | false =>
            have HN : Hid (fromR m.uses s l = fromR m.uses s (l.drop (j + 1))) := by
              show _ = _
              rw [HQ.out, HDr.out, if_neg (by rw [hh]; simp)]
            clear HQ HDr HU2 HF
            go_wp2_with fail
            exact ⟨⟨j + 1, by omega, by go_num, HN.out, HB6.out⟩, by simp [intOf]; omega⟩
          | true =>
            have HR : Hid ((true, fc) = (fromOk m.uses l s, fromFc m.uses l s)) := by
              show _ = _
              rw [← HS0.out, HQ.out, HDr.out, if_pos (by show ((nm.toList == s.toList) && _) = true; rw [hx, hh]; rfl)]
            have HR1 : Hid (fromOk m.uses l s = true) := (Prod.mk.inj HR.out).1.symm
            have HR2 : Hid (fromFc m.uses l s = fc) := (Prod.mk.inj HR.out).2.symm
            clear HQ HDr HU2 HR
            go_wp2_with fail
            exact bodyPost_ret (v := .tuple #[.agg #[.slice x1 x2 x3, .slice y1 y2 y3], .bool true]) (by simp [results, Tryz.results85, go_sem, g0, g1]) rfl ⟨_, _, _, _, _, _, by rw [HR1.out], by rw [HR2.out]; exact HF.out, HSet.out _ _ _ HB7.out⟩
    · have hnl : ¬ (j : Int) < (l.length : Int) := by omega
      have HR : Hid ((false, (⟨[], []⟩ : Fc)) = (fromOk m.uses l s, fromFc m.uses l s)) := by
        show _ = _
        rw [← HS0.out, HQ.out, List.drop_eq_nil_of_le (by omega), fromR]
      have HR1 : Hid (fromOk m.uses l s = false) := (Prod.mk.inj HR.out).1.symm
      have HR2 : Hid (fromFc m.uses l s = ⟨[], []⟩) := (Prod.mk.inj HR.out).2.symm
      clear HV HQ HR HU hb4
      go_wp2_with fail
      exact bodyPost_ret (v := .tuple #[.agg #[.slice none 0 0, .slice none 0 0], .bool false]) (by simp [results, Tryz.results85, go_sem, g0, g1]) rfl ⟨_, _, _, _, _, _, by rw [HR1.out], by rw [HR2.out]; exact fcNil S w, HSet.out _ _ _ HB4.out⟩

end Go.Proofs.YtkdailcadcfepafGreat
