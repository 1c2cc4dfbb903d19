/- What alias.used answers: the face of the first import of that name, where it is there and the module uses it; and the reference's FromOf answers so where no name stands twice. -/
import Derived.Test.YtkdailcadcfepafGreatJAlias1
import Derived.Test.YtkdailcadcfepafGreatJFaceImp2
namespace Go.Proofs.YtkdailcadcfepafGreat
open Go.RowKit
set_option maxRecDepth 100000

def impAt (l : List Im) (s : ByteArray) : Nat := findAt (fun i : Im => sEq i.name s) l
def fromOk (u : List ByteArray) (l : List Im) (s : ByteArray) : Bool := match l[impAt l s]? with
  | some i => i.there && hasS u s
  | none => false
def fromFc (u : List ByteArray) (l : List Im) (s : ByteArray) : Fc := match l[impAt l s]? with
  | some i => if (i.there && hasS u s) = true then i.face else ⟨[], []⟩
  | none => ⟨[], []⟩

theorem fcNil (S : Nat → Prop) (w : World) : FcIs S w ⟨[], []⟩ (.agg #[.slice none 0 0, .slice none 0 0]) :=
  ⟨_, _, rfl, ⟨none, 0, rfl, ⟨by simp, by simp⟩, Or.inl rfl⟩, ⟨none, 0, rfl, ⟨by simp, by simp⟩, Or.inl rfl⟩⟩

theorem from_out {u : List ByteArray} {l : List Im} {s : ByteArray} (h : l.length ≤ impAt l s) : fromOk u l s = false ∧ fromFc u l s = ⟨[], []⟩ := by
  unfold fromOk fromFc
  rw [List.getElem?_eq_none h]
  exact ⟨rfl, rfl⟩
theorem from_no {u : List ByteArray} {l : List Im} {s : ByteArray} (h : impAt l s < l.length) (hn : (l[impAt l s].there && hasS u s) = false) : fromOk u l s = false ∧ fromFc u l s = ⟨[], []⟩ := by
  unfold fromOk fromFc
  rw [List.getElem?_eq_getElem h]
  simp only [hn]
  exact ⟨trivial, if_neg (by simp)⟩
theorem from_yes {u : List ByteArray} {l : List Im} {s : ByteArray} (h : impAt l s < l.length) (hn : (l[impAt l s].there && hasS u s) = true) : fromOk u l s = true ∧ fromFc u l s = l[impAt l s].face := by
  unfold fromOk fromFc
  rw [List.getElem?_eq_getElem h]
  simp only [hn]
  exact ⟨trivial, if_pos trivial⟩

set_option maxHeartbeats 2000000 in
theorem used_any (S : Nat → Prop) (m : Mo) (l : List Im) (s : ByteArray) (vm v : Value) (w : World) (hS : ∀ b, S b → b < w.heap.size) (hm : MoIs S w m vm) (hv : SlAt S (ImAt S w) 4 l v) :
    Calls Tryz.prog 93 #[vm, v, .string s] w fun e w' => ∃ a n cap a2 n2 cap2, e = .returned (.tuple #[.agg #[.slice a n cap, .slice a2 n2 cap2], .bool (fromOk m.uses l s)]) ∧ FcIs S w (fromFc m.uses l s) (.agg #[.slice a n cap, .slice a2 n2 cap2]) ∧ Below w.heap.size w w' := by
  obtain ⟨vu, vt, vf, rfl, hu, ht, hf⟩ := hm
  obtain ⟨u1, u2, u3, rfl⟩ := hu.slice
  obtain ⟨t1, t2, t3, rfl⟩ := ht.slice
  obtain ⟨f1, f2, f3, rfl⟩ := hf.slice
  have HV := veil hv
  have hlen := hv.len
  unfold maxLen at hlen
  obtain ⟨a, cap, rfl⟩ := hv.is
  obtain ⟨w2, hwe, hs2, p0, p1, hbel, q0, q1, f0, f1⟩ : ∃ w2, ((w.alloc (.cells #[.slice u1 u2 u3, .slice t1 t2 t3, .slice f1 f2 f3] 26)).alloc (.cells #[.string s] 9)).alloc (.cells #[.slice none 0 0, .slice none 0 0] 32) = w2 ∧ w2.heap.size = w.heap.size + 3 ∧
      w2.cell? ⟨w.heap.size, 0, none⟩ = some (.slice u1 u2 u3) ∧ w2.cell? ⟨w.heap.size + 1, 0, none⟩ = some (.string s) ∧ Below w.heap.size w w2 ∧
      w2.cell? ⟨w.heap.size + 2, 0, none⟩ = some (.slice none 0 0) ∧ w2.cell? ⟨w.heap.size + 2, 1, none⟩ = some (.slice none 0 0) ∧ w2.frozen? ⟨w.heap.size + 2, 0, none⟩ = false ∧ w2.frozen? ⟨w.heap.size + 2, 1, none⟩ = false :=
    ⟨_, rfl, by simp, by simp [go_sem], by simp [go_sem], (((Below.refl _ _).alloc (Nat.le_refl _) _).alloc (by simp) _).alloc (by simp; omega) _, by simp [go_sem], by simp [go_sem], by simp [go_sem], by simp [go_sem]⟩
  have HRes : Hid (∀ W, Below w2.heap.size w2 W → (W.cell? ⟨w.heap.size + 2, 0, none⟩ = some (.slice none 0 0) ∧ W.cell? ⟨w.heap.size + 2, 1, none⟩ = some (.slice none 0 0)) ∧ W.frozen? ⟨w.heap.size + 2, 0, none⟩ = false ∧ W.frozen? ⟨w.heap.size + 2, 1, none⟩ = false) := fun W h => by
    exact ⟨⟨(h.cell (p := ⟨w.heap.size + 2, 0, none⟩) (by show w.heap.size + 2 < _; omega)).trans q0, (h.cell (p := ⟨w.heap.size + 2, 1, none⟩) (by show w.heap.size + 2 < _; omega)).trans q1⟩,
      (h.frozen (p := ⟨w.heap.size + 2, 0, none⟩) (by show w.heap.size + 2 < _; omega)).trans f0, (h.frozen (p := ⟨w.heap.size + 2, 1, none⟩) (by show w.heap.size + 2 < _; omega)).trans f1⟩
  have HSet : Hid (∀ W u0 u1, Below w.heap.size w W → Below w.heap.size w ((W.setCell ⟨w.heap.size + 2, 0, none⟩ u0).setCell ⟨w.heap.size + 2, 1, none⟩ u1)) := fun W u0 u1 h =>
    (h.setCell (by show w.heap.size ≤ w.heap.size + 2; omega) _).setCell (by show w.heap.size ≤ w.heap.size + 2; omega) _
  clear q0 q1 f0 f1
  have HC : Hid (Calls Tryz.prog 98 #[.slice a l.length cap, .func (.func 99) #[] #[.pointer (some ⟨w.heap.size + 1, 0, none⟩)]] w2 fun e w' => e = .returned (.int .i64 (idxOf (fun k : Im => sEq k.name s) l)) ∧ Below w2.heap.size w2 w') :=
    index_im S _ _ _ _ w2 (fun b hb => Nat.lt_of_lt_of_le (hS b hb) hbel.size) (imSl_keep (Keeps.below hbel hS) hv) p1
  have HU : Hid (∀ W, Below w.heap.size w W → Calls Tryz.prog 100 #[.slice u1 u2 u3, .string s] W fun e w' => e = .returned (.bool (hasS m.uses s)) ∧ Below W.heap.size W w') := fun W hW =>
    contains_str S _ _ _ W (fun b hb => Nat.lt_of_lt_of_le (hS b hb) hW.size) (strSl_keep (Keeps.below hW hS) hu)
  have HWe := veil hwe
  have HBel := veil hbel
  clear hu ht hf hv hwe hbel
  by_cases hat : impAt l s < l.length
  · obtain ⟨_, b, off, rfl, hb, him⟩ := HV.out.at hat
    have hbk := hS b hb
    obtain ⟨x1, x2, x3, y1, y2, y3, a0, a1, a2, a3, hfc⟩ := im_cells him
    have hI : idxOf (fun k : Im => sEq k.name s) l = (impAt l s : Int) := if_pos hat
    have HA1 := veil a1
    have HA2 := veil a2
    have HA3 := veil a3
    have HF := veil hfc
    have HYes := veil (@from_yes m.uses l s hat)
    have HNo := veil (@from_no m.uses l s hat)
    clear him a0 a1 a2 a3 hfc HV
    rw [hI] at HC
    clear hI
    generalize l[impAt l s].face = fc at *
    generalize l[impAt l s].there = th at *
    generalize impAt l s = k at *
    have hk' : (k : Int) < (l.length : Int) := by omega
    have hk0 : ¬ (k : Int) < 0 := by omega
    have hk1 : (0 : Int) ≤ (k : Int) := by omega
    go_enter Tryz.func93, Tryz.ntmps93
    go_wp2_with fail
    rw [HWe.out]
    refine HC.out.mono ?_
    rintro e w3 ⟨rfl, hb3⟩
    have c0 := (hb3.cell (p := ⟨w.heap.size, 0, none⟩) (by show w.heap.size < _; omega)).trans p0
    have c1 := (hb3.cell (p := ⟨w.heap.size + 1, 0, none⟩) (by show w.heap.size + 1 < _; omega)).trans p1
    have hb4 := HBel.out.trans (hb3.mono HBel.out.size)
    have d1 := (hb4.cell (p := ⟨b, off + k * 4 + 1, none⟩) hbk).trans HA1.out
    have d2 := (hb4.cell (p := ⟨b, off + k * 4 + 2, none⟩) hbk).trans HA2.out
    have d3 := (hb4.cell (p := ⟨b, off + k * 4 + 3, none⟩) hbk).trans HA3.out
    have HB4 := veil hb4
    have HB3 := veil hb3
    obtain ⟨⟨g0, g1⟩, g3, g4⟩ := HRes.out _ hb3
    clear hb3 hb4 p0 p1 HC HBel
    cases th with
    | false =>
      have HR := veil (HNo.out rfl)
      clear HYes HNo HU
      go_wp2_with fail
      exact bodyPost_ret (v := .tuple #[.agg #[.slice none 0 0, .slice none 0 0], .bool false]) (by simp [results, Tryz.results93, go_sem, g0, g1]) rfl ⟨_, _, _, _, _, _, by rw [HR.out.1], by rw [HR.out.2]; exact fcNil S w, HSet.out _ _ _ HB4.out⟩
    | true =>
      have HU2 := veil (HU.out w3 HB4.out)
      clear HU
      go_wp2_with fail
      refine HU2.out.mono ?_
      rintro e w5 ⟨rfl, hb5⟩
      have d4 := (hb5.cell (p := ⟨b, off + k * 4 + 2, none⟩) (by show b < _; have := HB4.out.size; omega)).trans d2
      have d5 := (hb5.cell (p := ⟨b, off + k * 4 + 3, none⟩) (by show b < _; have := HB4.out.size; omega)).trans d3
      have HB5 := veil (HB4.out.trans (hb5.mono HB4.out.size))
      clear g0 g1 g3 g4
      obtain ⟨⟨g0, g1⟩, g3, g4⟩ := HRes.out _ (HB3.out.trans (hb5.mono HB3.out.size))
      clear hb5 d1 d2 d3 c0 c1
      cases hh : hasS m.uses s with
      | false =>
        have HR := veil (HNo.out (by rw [hh]; rfl))
        clear HYes HNo HU2
        go_wp2_with fail
        exact bodyPost_ret (v := .tuple #[.agg #[.slice none 0 0, .slice none 0 0], .bool false]) (by simp [results, Tryz.results93, go_sem, g0, g1]) rfl ⟨_, _, _, _, _, _, by rw [HR.out.1], by rw [HR.out.2]; exact fcNil S w, HSet.out _ _ _ HB5.out⟩
      | true =>
        have HR := veil (HYes.out (by rw [hh]; rfl))
        clear HYes HNo HU2
        go_wp2_with fail
        exact bodyPost_ret (v := .tuple #[.agg #[.slice x1 x2 x3, .slice y1 y2 y3], .bool true]) (by simp [results, Tryz.results93, go_sem, g0, g1]) rfl ⟨_, _, _, _, _, _, by rw [HR.out.1], by rw [HR.out.2]; exact HF.out, HSet.out _ _ _ HB5.out⟩
  · have hI : idxOf (fun k : Im => sEq k.name s) l = -1 := if_neg hat
    have HR := veil (from_out (u := m.uses) (l := l) (s := s) (by omega))
    clear HV HU
    rw [hI] at HC
    clear hI hat
    go_enter Tryz.func93, Tryz.ntmps93
    go_wp2_with fail
    rw [HWe.out]
    refine HC.out.mono ?_
    rintro e w3 ⟨rfl, hb3⟩
    have HB4 := veil (HBel.out.trans (hb3.mono HBel.out.size))
    obtain ⟨⟨g0, g1⟩, g3, g4⟩ := HRes.out _ hb3
    clear hb3 p0 p1
    go_wp2_with fail
    exact bodyPost_ret (v := .tuple #[.agg #[.slice none 0 0, .slice none 0 0], .bool false]) (by simp [results, Tryz.results93, go_sem, g0, g1]) rfl ⟨_, _, _, _, _, _, by rw [HR.out.1], by rw [HR.out.2]; exact fcNil S w, HSet.out _ _ _ HB4.out⟩

end Go.Proofs.YtkdailcadcfepafGreat
