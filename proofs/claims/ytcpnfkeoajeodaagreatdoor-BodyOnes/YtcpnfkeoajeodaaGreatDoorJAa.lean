/- What alias.used answers: the face of the first import of that name, where it is there and the module uses it; and the reference's FromOf answers so where no name stands twice. -/
import Derived.Test.YtcpnfkeoajeodaaGreatDoorJAlias1
import Derived.Test.YtcpnfkeoajeodaaGreatDoorJFi
import Derived.Test.YtcpnfkeoajeodaaGreatDoorJFd
import Derived.Test.YtcpnfkeoajeodaaGreatDoorJEj
namespace Go.Proofs.YtcpnfkeoajeodaaGreatDoor
open Go.RowKit
set_option maxRecDepth 100000

def impAt (l : List Im) (s : ByteArray) : Nat := findAt (fun i : Im => sEq i.name s) l
def fromOk (u : List ByteArray) (l : List Im) (s : ByteArray) : Bool := match l[impAt l s]? with
  | some i => i.there && hasS u s
  | none => false
def fromFc (u : List ByteArray) (l : List Im) (s : ByteArray) : Fc := match l[impAt l s]? with
  | some i => if (i.there && hasS u s) = true then i.face else ⟨[], []⟩
  | none => ⟨[], []⟩

theorem fcNil (S : Nat → Prop) (w : World) : FcIs S w ⟨[], []⟩ (.agg #[.slice none 0 0, .slice none 0 0]) :=
  ⟨_, _, rfl, ⟨none, 0, rfl, ⟨by simp, by simp⟩, Or.inl rfl⟩, ⟨none, 0, rfl, ⟨by simp, by simp⟩, Or.inl rfl⟩⟩

theorem from_out {u : List ByteArray} {l : List Im} {s : ByteArray} (h : l.length ≤ impAt l s) : fromOk u l s = false ∧ fromFc u l s = ⟨[], []⟩ := by
  unfold fromOk fromFc
  rw [List.getElem?_eq_none h]
  exact ⟨rfl, rfl⟩
theorem from_no {u : List ByteArray} {l : List Im} {s : ByteArray} (h : impAt l s < l.length) (hn : (l[impAt l s].there && hasS u s) = false) : fromOk u l s = false ∧ fromFc u l s = ⟨[], []⟩ := by
  unfold fromOk fromFc
  rw [List.getElem?_eq_getElem h]
  simp only [hn]
  exact ⟨trivial, if_neg (by simp)⟩
theorem from_yes {u : List ByteArray} {l : List Im} {s : ByteArray} (h : impAt l s < l.length) (hn : (l[impAt l s].there && hasS u s) = true) : fromOk u l s = true ∧ fromFc u l s = l[impAt l s].face := by
  unfold fromOk fromFc
  rw [List.getElem?_eq_getElem h]
  simp only [hn]
  exact ⟨trivial, if_pos trivial⟩

set_option maxHeartbeats 2000000 in
theorem used_any (S : Nat → Prop) (m : Mo) (l : List Im) (s : ByteArray) (vm v : Value) (w : World) (hS : ∀ b, S b → b < w.heap.size) (hm : MoIs S w m vm) (hv : SlAt S (ImAt S w) 4 l v) :
    Calls Tryz.prog 52 #[vm, v, .string s] w fun e w' => ∃ a n cap a2 n2 cap2, e = .returned (.tuple #[.agg #[.slice a n cap, .slice a2 n2 cap2], .bool (fromOk m.uses l s)]) ∧ FcIs S w (fromFc m.uses l s) (.agg #[.slice a n cap, .slice a2 n2 cap2]) ∧ Below w.heap.size w w' := by
  obtain ⟨vu, vt, vf, rfl, hu, ht, hf⟩ := hm
  obtain ⟨u1, u2, u3, rfl⟩ := hu.slice
  obtain ⟨t1, t2, t3, rfl⟩ := ht.slice
  obtain ⟨f1, f2, f3, rfl⟩ := hf.slice
  have HV := veil hv
  have hlen := hv.len
  unfold maxLen at hlen
  obtain ⟨a, cap, rfl⟩ := hv.is
  obtain ⟨w2, hwe, hs2, p0, p1, hbel, q0, q1, f0, f1⟩ : ∃ w2, ((w.alloc (.cells #[.slice u1 u2 u3, .slice t1 t2 t3, .slice f1 f2 f3] 26)).alloc (.cells #[.string s] 9)).alloc (.cells #[.slice none 0 0, .slice none 0 0] 31) = w2 ∧ w2.heap.size = w.heap.size + 3 ∧
      w2.cell? ⟨w.heap.size, 0, none⟩ = some (.slice u1 u2 u3) ∧ w2.cell? ⟨w.heap.size + 1, 0, none⟩ = some (.string s) ∧ Below w.heap.size w w2 ∧
      w2.cell? ⟨w.heap.size + 2, 0, none⟩ = some (.slice none 0 0) ∧ w2.cell? ⟨w.heap.size + 2, 1, none⟩ = some (.slice none 0 0) ∧ w2.frozen? ⟨w.heap.size + 2, 0, none⟩ = false ∧ w2.frozen? ⟨w.heap.size + 2, 1, none⟩ = false :=
    ⟨_, rfl, by simp, by simp [go_sem], by simp [go_sem], (((Below.refl _ _).alloc (Nat.le_refl _) _).alloc (by simp) _).alloc (by simp; omega) _, by simp [go_sem], by simp [go_sem], by simp [go_sem], by simp [go_sem]⟩
  have HRes : Hid (∀ W, Below w2.heap.size w2 W → (W.cell? ⟨w.heap.size + 2, 0, none⟩ = some (.slice none 0 0) ∧ W.cell? ⟨w.heap.size + 2, 1, none⟩ = some (.slice none 0 0)) ∧ W.frozen? ⟨w.heap.size + 2, 0, none⟩ = false ∧ W.frozen? ⟨w.heap.size + 2, 1, none⟩ = false) := fun W h => by
    exact ⟨⟨(h.cell (p := ⟨w.heap.size + 2, 0, none⟩) (by show w.heap.size + 2 < _; omega)).trans q0, (h.cell (p := ⟨w.heap.size + 2, 1, none⟩) (by show w.heap.size + 2 < _; omega)).trans q1⟩,
      (h.frozen (p := ⟨w.heap.size + 2, 0, none⟩) (by show w.heap.size + 2 < _; omega)).trans f0, (h.frozen (p := ⟨w.heap.size + 2, 1, none⟩) (by show w.heap.size + 2 < _; omega)).trans f1⟩
  have HSet : Hid (∀ W u0 u1, Below w.heap.size w W → Below w.heap.size w ((W.setCell ⟨w.heap.size + 2, 0, none⟩ u0).setCell ⟨w.heap.size + 2, 1, none⟩ u1)) := fun W u0 u1 h =>
    (h.setCell (by show w.heap.size ≤ w.heap.size + 2; omega) _).setCell (by show w.heap.size ≤ w.heap.size + 2; omega) _
  clear q0 q1 f0 f1
  have HC : Hid (Calls Tryz.prog 73 #[.slice a l.length cap, .func (.func 74) #[] #[.pointer (some ⟨w.heap.size + 1, 0, none⟩)]] w2 fun e w' => e = .returned (.int .i64 (idxOf (fun k : Im => sEq k.name s) l)) ∧ Below w2.heap.size w2 w') :=
    index_im S _ _ _ _ w2 (fun b hb => Nat.lt_of_lt_of_le (hS b hb) hbel.size) (imSl_keep (Keeps.below hbel hS) hv) p1
  have HU : Hid (∀ W, Below w.heap.size w W → Calls Tryz.prog 75 #[.slice u1 u2 u3, .string s] W fun e w' => e = .returned (.bool (hasS m.uses s)) ∧ Below W.heap.size W w') := fun W hW =>
    contains_str S _ _ _ W (fun b hb => Nat.lt_of_lt_of_le (hS b hb) hW.size) (strSl_keep (Keeps.below hW hS) hu)
  have HWe := veil hwe
  have HBel := veil hbel
  clear hu ht hf hv hwe hbel
  by_cases hat : impAt l s < l.length
  · obtain ⟨_, b, off, rfl, hb, him⟩ := HV.out.at hat
    have hbk := hS b hb
    obtain ⟨x1, x2, x3, y1, y2, y3, a0, a1, a2, a3, hfc⟩ := im_cells him
    have hI : idxOf (fun k : Im => sEq k.name s) l = (impAt l s : Int) := if_pos hat
    have HA1 := veil a1
    have HA2 := veil a2
    have HA3 := veil a3
    have HF := veil hfc
    have HYes := veil (@from_yes m.uses l s hat)
    have HNo := veil (@from_no m.uses l s hat)
    clear him a0 a1 a2 a3 hfc HV
    rw [hI] at HC
    clear hI
    generalize l[impAt l s].face = fc at *
    generalize l[impAt l s].there = th at *
    generalize impAt l s = k at *
    have hk' : (k : Int) < (l.length : Int) := by omega
    have hk0 : ¬ (k : Int) < 0 := by omega
    have hk1 : (0 : Int) ≤ (k : Int) := by omega
    go_enter Tryz.func52, Tryz.ntmps52
    go_wp2_with fail
    rw [HWe.out]
    refine HC.out.mono ?_
    rintro e w3 ⟨rfl, hb3⟩
    have c0 := (hb3.cell (p := ⟨w.heap.size, 0, none⟩) (by show w.heap.size < _; omega)).trans p0
    have c1 := (hb3.cell (p := ⟨w.heap.size + 1, 0, none⟩) (by show w.heap.size + 1 < _; omega)).trans p1
    have hb4 := HBel.out.trans (hb3.mono HBel.out.size)
    have d1 := (hb4.cell (p := ⟨b, off + k * 4 + 1, none⟩) hbk).trans HA1.out
    have d2 := (hb4.cell (p := ⟨b, off + k * 4 + 2, none⟩) hbk).trans HA2.out
    have d3 := (hb4.cell (p := ⟨b, off + k * 4 + 3, none⟩) hbk).trans HA3.out
    have HB4 := veil hb4
    have HB3 := veil hb3
    obtain ⟨⟨g0, g1⟩, g3, g4⟩ := HRes.out _ hb3
    clear hb3 hb4 p0 p1 HC HBel
    cases th with
    | false =>
      have HR := veil (HNo.out rfl)
      clear HYes HNo HU
      go_wp2_with fail
      exact bodyPost_ret (v := .tuple #[.agg #[.slice none 0 0, .slice none 0 0], .bool false]) (by simp [results, Tryz.results52, go_sem, g0, g1]) rfl ⟨_, _, _, _, _, _, by rw [HR.out.1], by rw [HR.out.2]; exact fcNil S w, HSet.out _ _ _ HB4.out⟩
    | true =>
      have HU2 := veil (HU.out w3 HB4.out)
      clear HU
      go_wp2_with fail
      refine HU2.out.mono ?_
      rintro e w5 ⟨rfl, hb5⟩
      have d4 := (hb5.cell (p := ⟨b, off + k * 4 + 2, none⟩) (by show b < _; have := HB4.out.size; omega)).trans d2
      have d5 := (hb5.cell (p := ⟨b, off + k * 4 + 3, none⟩) (by show b < _; have := HB4.out.size; omega)).trans d3
      have HB5 := veil (HB4.out.trans (hb5.mono HB4.out.size))
      clear g0 g1 g3 g4
      obtain ⟨⟨g0, g1⟩, g3, g4⟩ := HRes.out _ (HB3.out.trans (hb5.mono HB3.out.size))
      clear hb5 d1 d2 d3 c0 c1
      cases hh : hasS m.uses s with
      | false =>
        have HR := veil (HNo.out (by rw [hh]; rfl))
        clear HYes HNo HU2
        go_wp2_with fail
        exact bodyPost_ret (v := .tuple #[.agg #[.slice none 0 0, .slice none 0 0], .bool false]) (by simp [results, Tryz.results52, go_sem, g0, g1]) rfl ⟨_, _, _, _, _, _, by rw [HR.out.1], by rw [HR.out.2]; exact fcNil S w, HSet.out _ _ _ HB5.out⟩
      | true =>
        have HR := veil (HYes.out (by rw [hh]; rfl))
        clear HYes HNo HU2
        go_wp2_with fail
        exact bodyPost_ret (v := .tuple #[.agg #[.slice x1 x2 x3, .slice y1 y2 y3], .bool true]) (by simp [results, Tryz.results52, go_sem, g0, g1]) rfl ⟨_, _, _, _, _, _, by rw [HR.out.1], by rw [HR.out.2]; exact HF.out, HSet.out _ _ _ HB5.out⟩
  · have hI : idxOf (fun k : Im => sEq k.name s) l = -1 := if_neg hat
    have HR := veil (from_out (u := m.uses) (l := l) (s := s) (by omega))
    clear HV HU
    rw [hI] at HC
    clear hI hat
    go_enter Tryz.func52, Tryz.ntmps52
    go_wp2_with fail
    rw [HWe.out]
    refine HC.out.mono ?_
    rintro e w3 ⟨rfl, hb3⟩
    have HB4 := veil (HBel.out.trans (hb3.mono HBel.out.size))
    obtain ⟨⟨g0, g1⟩, g3, g4⟩ := HRes.out _ hb3
    clear hb3 p0 p1
    go_wp2_with fail
    exact bodyPost_ret (v := .tuple #[.agg #[.slice none 0 0, .slice none 0 0], .bool false]) (by simp [results, Tryz.results52, go_sem, g0, g1]) rfl ⟨_, _, _, _, _, _, by rw [HR.out.1], by rw [HR.out.2]; exact fcNil S w, HSet.out _ _ _ HB4.out⟩

end Go.Proofs.YtcpnfkeoajeodaaGreatDoor

/- Names that rise stand once; so the reference's FromOf answers what alias.used answers. What alias.From answers. -/
namespace Go.Proofs.YtcpnfkeoajeodaaGreatDoor
open Go.RowKit
set_option maxRecDepth 100000

/-! ### The order of texts. -/

theorem less_trans : ∀ {a b c : List UInt8}, Op.bytesLess a b = false → Op.bytesLess b c = false → Op.bytesLess a c = false
  | [], [], _, _, h => h
  | [], _ :: _, _, h, _ => by simp [Op.bytesLess] at h
  | _ :: _, _, [], _, _ => by simp [Op.bytesLess]
  | _ :: _, [], _ :: _, _, h => by simp [Op.bytesLess] at h
  | x :: xs, y :: ys, z :: zs, h1, h2 => by
    simp only [Op.bytesLess, Bool.or_eq_false_iff, decide_eq_false_iff_not, Bool.and_eq_false_iff, beq_eq_false_iff_ne] at *
    obtain ⟨h1, h1'⟩ := h1
    obtain ⟨h2, h2'⟩ := h2
    have e1 : ¬ x.toNat < y.toNat := fun h => h1 (UInt8.lt_iff_toNat_lt.2 h)
    have e2 : ¬ y.toNat < z.toNat := fun h => h2 (UInt8.lt_iff_toNat_lt.2 h)
    refine ⟨fun h => by have := UInt8.lt_iff_toNat_lt.1 h; omega, ?_⟩
    by_cases hxz : x = z
    · subst hxz
      have hxy : x = y := UInt8.toNat_inj.1 (by omega)
      subst hxy
      exact Or.inr (less_trans (h1'.resolve_left (fun h => h rfl)) (h2'.resolve_left (fun h => h rfl)))
    · exact Or.inl hxz

theorem less_eq : ∀ {a b : List UInt8}, Op.bytesLess a b = false → Op.bytesLess b a = false → a = b
  | [], [], _, _ => rfl
  | [], _ :: _, h, _ => by simp [Op.bytesLess] at h
  | _ :: _, [], _, h => by simp [Op.bytesLess] at h
  | x :: xs, y :: ys, h1, h2 => by
    simp only [Op.bytesLess, Bool.or_eq_false_iff, decide_eq_false_iff_not, Bool.and_eq_false_iff, beq_eq_false_iff_ne] at *
    obtain ⟨h1, h1'⟩ := h1
    obtain ⟨h2, h2'⟩ := h2
    have e1 : ¬ x.toNat < y.toNat := fun h => h1 (UInt8.lt_iff_toNat_lt.2 h)
    have e2 : ¬ y.toNat < x.toNat := fun h => h2 (UInt8.lt_iff_toNat_lt.2 h)
    have hxy : x = y := UInt8.toNat_inj.1 (by omega)
    subst hxy
    rw [less_eq (h1'.resolve_left (fun h => h rfl)) (h2'.resolve_left (fun h => h rfl))]

theorem gt_trans {a b c : ByteArray} (h1 : gtB a b = true) (h2 : gtB b c = true) : gtB a c = true := by
  unfold gtB at *
  simp only [Bool.and_eq_true, Bool.not_eq_true', beq_eq_false_iff_ne] at *
  refine ⟨less_trans h1.1 h2.1, fun e => ?_⟩
  rw [e] at h1
  exact h1.2 (less_eq h1.1 h2.1)
theorem gt_ne {a b : ByteArray} (h : gtB a b = true) : sEq a b = false := by
  unfold gtB at h
  simp only [Bool.and_eq_true, Bool.not_eq_true'] at h
  exact h.2

theorem order_all {α : Type} {fault : α → Int} {name : α → ByteArray} (h7 : ∀ x, fault x ≠ 0 → fault x ≠ 0) : ∀ {l : List α} {p : ByteArray}, orderFault fault name l p = 0 → ∀ x ∈ l, gtB (name x) p = true ∧ fault x = 0
  | [], _, _, _, h => by cases h
  | y :: r, p, h, x, hx => by
    rw [orderFault] at h
    by_cases hf : fault y = 0
    · rw [if_pos hf] at h
      by_cases hg : gtB (name y) p = true
      · rw [if_pos hg] at h
        rcases List.mem_cons.1 hx with rfl | hx
        · exact ⟨hg, hf⟩
        · have := order_all h7 h x hx
          exact ⟨gt_trans this.1 hg, this.2⟩
      · rw [if_neg hg] at h
        exact absurd h (by decide)
    · rw [if_neg hf] at h
      exact absurd h hf

/-! ### The reference's way. -/

def fromR (u : List ByteArray) (s : ByteArray) : List Im → Bool × Fc
  | [] => (false, ⟨[], []⟩)
  | i :: r => if (sEq i.name s && (i.there && hasS u s)) = true then (true, i.face) else fromR u s r

theorem fromR_none (u : List ByteArray) (s : ByteArray) : ∀ (l : List Im), (∀ x ∈ l, sEq x.name s = false) → fromR u s l = (false, ⟨[], []⟩)
  | [], _ => rfl
  | i :: r, h => by
    rw [fromR, if_neg (by rw [h i (List.mem_cons_self ..)]; simp), fromR_none u s r (fun x hx => h x (List.mem_cons_of_mem _ hx))]

theorem from_cons_no {u : List ByteArray} {i : Im} {r : List Im} {s : ByteArray} (h : sEq i.name s = false) : fromOk u (i :: r) s = fromOk u r s ∧ fromFc u (i :: r) s = fromFc u r s := by
  have e : impAt (i :: r) s = impAt r s + 1 := by
    unfold impAt
    rw [findAt, if_neg (by rw [h]; simp)]
  unfold fromOk fromFc
  rw [e, List.getElem?_cons_succ]
  exact ⟨rfl, rfl⟩
theorem from_cons_yes {u : List ByteArray} {i : Im} {r : List Im} {s : ByteArray} (h : sEq i.name s = true) : fromOk u (i :: r) s = (i.there && hasS u s) ∧ fromFc u (i :: r) s = (if (i.there && hasS u s) = true then i.face else ⟨[], []⟩) := by
  have e : impAt (i :: r) s = 0 := by
    unfold impAt
    rw [findAt, if_pos h]
  unfold fromOk fromFc
  rw [e, List.getElem?_cons_zero]
  exact ⟨rfl, rfl⟩

theorem sEq_eq {a b : ByteArray} (h : sEq a b = true) : a = b := by
  unfold sEq at h
  have h' := beq_iff_eq.1 h
  rw [Lib.toList_data, Lib.toList_data] at h'
  exact Go.WideShapes.bytes_inj h'

theorem from_same (u : List ByteArray) (s : ByteArray) : ∀ {l : List Im} {p : ByteArray}, orderFault imFault Im.name l p = 0 → fromR u s l = (fromOk u l s, fromFc u l s)
  | [], _, _ => rfl
  | i :: r, p, h => by
    have hr : orderFault imFault Im.name r i.name = 0 := by
      rw [orderFault] at h
      by_cases hf : imFault i = 0
      · rw [if_pos hf] at h
        by_cases hg : gtB i.name p = true
        · rwa [if_pos hg] at h
        · rw [if_neg hg] at h; exact absurd h (by decide)
      · rw [if_neg hf] at h
        exact absurd h hf
    cases hs : sEq i.name s with
    | false =>
      rw [fromR, if_neg (by rw [hs]; simp), (from_cons_no hs).1, (from_cons_no hs).2]
      exact from_same u s hr
    | true =>
      rw [fromR, (from_cons_yes hs).1, (from_cons_yes hs).2, hs, Bool.true_and]
      by_cases ht : (i.there && hasS u s) = true
      · rw [if_pos ht, if_pos ht, ht]
      · rw [if_neg ht, if_neg ht, fromR_none u s r (fun x hx => by
          have := (order_all (fun _ h => h) hr x hx).1
          rw [← sEq_eq hs]
          exact gt_ne this)]
        rw [Bool.not_eq_true] at ht
        rw [ht]

theorem ims_order {l : List Im} (h : imsFault l = 0) : orderFault imFault Im.name l ⟨#[]⟩ = 0 := by
  unfold imsFault at h
  by_cases hl : 24 < (l.length : Int)
  · rw [if_pos hl] at h; exact absurd h (by decide)
  · rwa [if_neg hl] at h

theorem fromR_drop {u : List ByteArray} {s : ByteArray} {l : List Im} {j : Nat} (h : j < l.length) : fromR u s (l.drop j) = if (sEq l[j].name s && (l[j].there && hasS u s)) = true then (true, l[j].face) else fromR u s (l.drop (j + 1)) := by
  rw [List.drop_eq_getElem_cons h, fromR]

end Go.Proofs.YtcpnfkeoajeodaaGreatDoor

/- What the reference's FromOf answers, and what alias.From answers: the face of the import of that name, a copy of it. -/
namespace Go.Proofs.YtcpnfkeoajeodaaGreatDoor
open Go.RowKit
set_option maxRecDepth 100000

set_option maxHeartbeats 2000000 in
theorem fromOf_any (S : Nat → Prop) (m : Mo) (l : List Im) (s : ByteArray) (vm v : Value) (w : World) (hS : ∀ b, S b → b < w.heap.size) (hm : MoIs S w m vm) (hv : SlAt S (ImAt S w) 4 l v) (hu0 : imsFault l = 0) :
    Calls Tryz.prog 39 #[vm, v, .string s] w fun e w' => ∃ a n cap a2 n2 cap2, e = .returned (.tuple #[.agg #[.slice a n cap, .slice a2 n2 cap2], .bool (fromOk m.uses l s)]) ∧ FcIs S w (fromFc m.uses l s) (.agg #[.slice a n cap, .slice a2 n2 cap2]) ∧ Below w.heap.size w w' := by
  have HS0 := veil (from_same m.uses s (ims_order hu0))
  clear hu0
  obtain ⟨vu, vt, vf, rfl, hu, ht, hf⟩ := hm
  obtain ⟨u1, u2, u3, rfl⟩ := hu.slice
  obtain ⟨t1, t2, t3, rfl⟩ := ht.slice
  obtain ⟨f1, f2, f3, rfl⟩ := hf.slice
  have HV := veil hv
  have hlen := hv.len
  unfold maxLen at hlen
  obtain ⟨a, cap, rfl⟩ := hv.is
  obtain ⟨w2, hwe, hs2, p0, hbel, q0, q1, f0, f1⟩ : ∃ w2, (w.alloc (.cells #[.slice u1 u2 u3, .slice t1 t2 t3, .slice f1 f2 f3] 26)).alloc (.cells #[.slice none 0 0, .slice none 0 0] 31) = w2 ∧ w2.heap.size = w.heap.size + 2 ∧
      w2.cell? ⟨w.heap.size, 0, none⟩ = some (.slice u1 u2 u3) ∧ Below w.heap.size w w2 ∧
      w2.cell? ⟨w.heap.size + 1, 0, none⟩ = some (.slice none 0 0) ∧ w2.cell? ⟨w.heap.size + 1, 1, none⟩ = some (.slice none 0 0) ∧ w2.frozen? ⟨w.heap.size + 1, 0, none⟩ = false ∧ w2.frozen? ⟨w.heap.size + 1, 1, none⟩ = false :=
    ⟨_, rfl, by simp, by simp [go_sem], ((Below.refl _ _).alloc (Nat.le_refl _) _).alloc (by simp) _, by simp [go_sem], by simp [go_sem], by simp [go_sem], by simp [go_sem]⟩
  have HRes : Hid (∀ W, Below w2.heap.size w2 W → (W.cell? ⟨w.heap.size + 1, 0, none⟩ = some (.slice none 0 0) ∧ W.cell? ⟨w.heap.size + 1, 1, none⟩ = some (.slice none 0 0)) ∧ W.frozen? ⟨w.heap.size + 1, 0, none⟩ = false ∧ W.frozen? ⟨w.heap.size + 1, 1, none⟩ = false ∧ W.cell? ⟨w.heap.size, 0, none⟩ = some (.slice u1 u2 u3) ∧ Below w.heap.size w W) := fun W h => by
    exact ⟨⟨(h.cell (p := ⟨w.heap.size + 1, 0, none⟩) (by show w.heap.size + 1 < _; omega)).trans q0, (h.cell (p := ⟨w.heap.size + 1, 1, none⟩) (by show w.heap.size + 1 < _; omega)).trans q1⟩,
      (h.frozen (p := ⟨w.heap.size + 1, 0, none⟩) (by show w.heap.size + 1 < _; omega)).trans f0, (h.frozen (p := ⟨w.heap.size + 1, 1, none⟩) (by show w.heap.size + 1 < _; omega)).trans f1, (h.cell (p := ⟨w.heap.size, 0, none⟩) (by show w.heap.size < _; omega)).trans p0, hbel.trans (h.mono hbel.size)⟩
  have HSet : Hid (∀ W u0 u1, Below w.heap.size w W → Below w.heap.size w ((W.setCell ⟨w.heap.size + 1, 0, none⟩ u0).setCell ⟨w.heap.size + 1, 1, none⟩ u1)) := fun W u0 u1 h =>
    (h.setCell (by show w.heap.size ≤ w.heap.size + 1; omega) _).setCell (by show w.heap.size ≤ w.heap.size + 1; omega) _
  have HU : Hid (∀ W, Below w.heap.size w W → Calls Tryz.prog 62 #[.slice u1 u2 u3, .string s] W fun e w' => e = .returned (.bool (hasS m.uses s)) ∧ Below W.heap.size W w') := fun W hW =>
    hasText_any S _ _ _ W (fun b hb => Nat.lt_of_lt_of_le (hS b hb) hW.size) (strSl_keep (Keeps.below hW hS) hu)
  have HWe := veil hwe
  clear q0 q1 f0 f1 p0 hu ht hf hv hwe hbel
  go_enter Tryz.func39, Tryz.ntmps39
  go_wp2_with fail
  rw [HWe.out]
  clear HWe
  go_loopw [8] (fun i wr => ∃ j : Nat, j ≤ l.length ∧ i = .int .i64 j ∧ fromR m.uses s l = fromR m.uses s (l.drop j) ∧ Below w2.heap.size w2 wr) (fun i _ => l.length - (intOf i).toNat)
  case atStart => exact ⟨0, Nat.zero_le _, rfl, rfl, Below.refl _ _⟩
  case round =>
    obtain ⟨j, hj, rfl, hq, hbl⟩ := hrel
    have HQ := veil hq
    have HBW := veil hbl
    obtain ⟨⟨g0, g1⟩, g3, g4, c0, hb4⟩ := HRes.out _ hbl
    have HB4 := veil hb4
    clear hq hbl
    by_cases hlt : j < l.length
    · have hlt' : (j : Int) < (l.length : Int) := by omega
      obtain ⟨_, b, off, rfl, hb, him⟩ := HV.out.at hlt
      have hbk := hS b hb
      obtain ⟨x1, x2, x3, y1, y2, y3, a0, a1, a2, a3, hfc⟩ := im_cells him
      have HF := veil hfc
      have HDr := veil (@fromR_drop m.uses s l j hlt)
      have HAll : Hid (∀ W, Below w.heap.size w W → W.cell? ⟨b, off + j * 4, none⟩ = some (.string l[j].name) ∧ W.cell? ⟨b, off + j * 4 + 1, none⟩ = some (.bool l[j].there) ∧ W.cell? ⟨b, off + j * 4 + 2, none⟩ = some (.slice x1 x2 x3) ∧ W.cell? ⟨b, off + j * 4 + 3, none⟩ = some (.slice y1 y2 y3)) := fun W h =>
        ⟨(h.cell (p := ⟨b, off + j * 4, none⟩) hbk).trans a0, (h.cell (p := ⟨b, off + j * 4 + 1, none⟩) hbk).trans a1, (h.cell (p := ⟨b, off + j * 4 + 2, none⟩) hbk).trans a2, (h.cell (p := ⟨b, off + j * 4 + 3, none⟩) hbk).trans a3⟩
      obtain ⟨d0, d1, d2, d3⟩ := HAll.out _ hb4
      clear him a0 a1 a2 a3 hfc HV hb4
      generalize l[j].face = fc at *
      generalize l[j].there = th at *
      generalize l[j].name = nm at *
      cases hx : (nm.toList == s.toList) with
      | false =>
        have HN : Hid (fromR m.uses s l = fromR m.uses s (l.drop (j + 1))) := by
          show _ = _
          rw [HQ.out, HDr.out, if_neg (by show ¬ ((nm.toList == s.toList) && _) = true; rw [hx]; simp)]
        clear HQ HDr HU HF
        go_wp2_with fail
        exact ⟨⟨j + 1, by omega, by go_num, HN.out, HBW.out⟩, by simp [intOf]; omega⟩
      | true =>
        cases th with
        | false =>
          have HN : Hid (fromR m.uses s l = fromR m.uses s (l.drop (j + 1))) := by
            show _ = _
            rw [HQ.out, HDr.out, if_neg (by simp)]
          clear HQ HDr HU HF
          go_wp2_with fail
          exact ⟨⟨j + 1, by omega, by go_num, HN.out, HBW.out⟩, by simp [intOf]; omega⟩
        | true =>
          have HU2 := veil (HU.out _ HB4.out)
          clear HU
          go_wp2_with fail
          refine HU2.out.mono ?_
          rintro e w5 ⟨rfl, hb5⟩
          have hb6 := HBW.out.trans (hb5.mono HBW.out.size)
          clear g0 g1 g3 g4 d0 d1 d2 d3 c0
          obtain ⟨⟨g0, g1⟩, g3, g4, c0, hb7⟩ := HRes.out _ hb6
          obtain ⟨d0, d1, d2, d3⟩ := HAll.out _ hb7
          have HB6 := veil hb6
          have HB7 := veil hb7
          clear hb5 hb6 hb7
          cases hh : hasS m.uses s with
          | false =>
            have HN : Hid (fromR m.uses s l = fromR m.uses s (l.drop (j + 1))) := by
              show _ = _
              rw [HQ.out, HDr.out, if_neg (by rw [hh]; simp)]
            clear HQ HDr HU2 HF
            go_wp2_with fail
            exact ⟨⟨j + 1, by omega, by go_num, HN.out, HB6.out⟩, by simp [intOf]; omega⟩
          | true =>
            have HR : Hid ((true, fc) = (fromOk m.uses l s, fromFc m.uses l s)) := by
              show _ = _
              rw [← HS0.out, HQ.out, HDr.out, if_pos (by show ((nm.toList == s.toList) && _) = true; rw [hx, hh]; rfl)]
            have HR1 : Hid (fromOk m.uses l s = true) := (Prod.mk.inj HR.out).1.symm
            have HR2 : Hid (fromFc m.uses l s = fc) := (Prod.mk.inj HR.out).2.symm
            clear HQ HDr HU2 HR
            go_wp2_with fail
            exact bodyPost_ret (v := .tuple #[.agg #[.slice x1 x2 x3, .slice y1 y2 y3], .bool true]) (by simp [results, Tryz.results39, go_sem, g0, g1]) rfl ⟨_, _, _, _, _, _, by rw [HR1.out], by rw [HR2.out]; exact HF.out, HSet.out _ _ _ HB7.out⟩
    · have hnl : ¬ (j : Int) < (l.length : Int) := by omega
      have HR : Hid ((false, (⟨[], []⟩ : Fc)) = (fromOk m.uses l s, fromFc m.uses l s)) := by
        show _ = _
        rw [← HS0.out, HQ.out, List.drop_eq_nil_of_le (by omega), fromR]
      have HR1 : Hid (fromOk m.uses l s = false) := (Prod.mk.inj HR.out).1.symm
      have HR2 : Hid (fromFc m.uses l s = ⟨[], []⟩) := (Prod.mk.inj HR.out).2.symm
      clear HV HQ HR HU hb4
      go_wp2_with fail
      exact bodyPost_ret (v := .tuple #[.agg #[.slice none 0 0, .slice none 0 0], .bool false]) (by simp [results, Tryz.results39, go_sem, g0, g1]) rfl ⟨_, _, _, _, _, _, by rw [HR1.out], by rw [HR2.out]; exact fcNil S w, HSet.out _ _ _ HB4.out⟩

end Go.Proofs.YtcpnfkeoajeodaaGreatDoor

/- What scullerylaw.may answers, and what alias.From answers: the face of the import of that name, a copy of it. -/
namespace Go.Proofs.YtcpnfkeoajeodaaGreatDoor
open Go.RowKit
set_option maxRecDepth 100000

theorem may_any (S : Nat → Prop) (m : Mo) (l : List Im) (vm v : Value) (w : World) (hS : ∀ b, S b → b < w.heap.size) (hm : MoIs S w m vm) (hv : SlAt S (ImAt S w) 4 l v) :
    Calls Tryz.prog 4 #[vm, v] w fun e w' => e = .returned (.bool (moFault m == 0 && imsFault l == 0)) ∧ Below w.heap.size w w' := by
  have HC : Hid (∀ W : World, Below w.heap.size w W → Calls Tryz.prog 8 #[vm] W fun e w' => e = .returned (.int .i64 (moFault m)) ∧ Below W.heap.size W w') := fun W hW =>
    moduleFault_any S m vm W (fun b hb => Nat.lt_of_lt_of_le (hS b hb) hW.size) (hm.keep (Keeps.below hW hS))
  have HD : Hid (∀ W : World, Below w.heap.size w W → Calls Tryz.prog 9 #[v] W fun e w' => e = .returned (.int .i64 (imsFault l)) ∧ Below W.heap.size W w') := fun W hW =>
    importsFault_any S l v W (fun b hb => Nat.lt_of_lt_of_le (hS b hb) hW.size) (imSl_keep (Keeps.below hW hS) hv)
  obtain ⟨vu, vt, vf, rfl, hu, ht, hf⟩ := hm
  obtain ⟨u1, u2, u3, rfl⟩ := hu.slice
  obtain ⟨t1, t2, t3, rfl⟩ := ht.slice
  obtain ⟨f1, f2, f3, rfl⟩ := hf.slice
  obtain ⟨a, n, cap, rfl⟩ := hv.slice
  have HA : Hid (Below w.heap.size w (w.alloc (.cells #[.slice u1 u2 u3, .slice t1 t2 t3, .slice f1 f2 f3] 26))) := (Below.refl _ _).alloc (Nat.le_refl _) _
  clear hv hu ht hf
  generalize moFault m = r at *
  generalize imsFault l = q at *
  cases hr : (r == 0) with
  | false =>
    go_enter Tryz.func4, Tryz.ntmps4
    go_wp2_with fail
    refine (HC.out _ HA.out).mono ?_
    rintro e w' ⟨rfl, hb⟩
    have HB := veil (HA.out.trans (hb.mono HA.out.size))
    clear hb
    go_wp2_with fail
    go_ret
    exact ⟨by simp, HB.out⟩
  | true =>
    go_enter Tryz.func4, Tryz.ntmps4
    go_wp2_with fail
    refine (HC.out _ HA.out).mono ?_
    rintro e w' ⟨rfl, hb⟩
    have HB := veil (HA.out.trans (hb.mono HA.out.size))
    clear hb
    go_wp2_with fail
    refine (HD.out _ HB.out).mono ?_
    rintro e w2 ⟨rfl, hb2⟩
    have HB2 := veil (HB.out.trans (hb2.mono HB.out.size))
    clear hb2
    go_wp2_with fail
    go_ret
    exact ⟨by simp, HB2.out⟩

theorem fcNil_small : fcSmall ⟨[], []⟩ := ⟨⟨by simp, by simp⟩, by simp, by simp⟩
theorem from_small {u : List ByteArray} {l : List Im} (s : ByteArray) (h : ∀ i ∈ l, fcSmall i.face) : fcSmall (fromFc u l s) := by
  unfold fromFc
  cases hl : l[impAt l s]? with
  | none => exact fcNil_small
  | some i =>
    show fcSmall (if (i.there && hasS u s) = true then i.face else ⟨[], []⟩)
    by_cases hi : (i.there && hasS u s) = true
    · rw [if_pos hi]; exact h i (List.mem_of_getElem? hl)
    · rw [if_neg hi]; exact fcNil_small

set_option maxHeartbeats 2000000 in
theorem from_any (S : Nat → Prop) (m : Mo) (l : List Im) (s : ByteArray) (vm v : Value) (w : World) (hS : ∀ b, S b → b < w.heap.size) (hm : MoIs S w m vm) (hv : SlAt S (ImAt S w) 4 l v) (hz : ∀ i ∈ l, fcSmall i.face) :
    Calls Tryz.prog 31 #[vm, v, .string s] w fun e w' => ∃ a n cap a2 n2 cap2, e = .returned (.tuple #[.agg #[.slice a n cap, .slice a2 n2 cap2], .bool (fromOk m.uses l s)]) ∧ FcIs (fun b => b < w'.heap.size) w' (fromFc m.uses l s) (.agg #[.slice a n cap, .slice a2 n2 cap2]) ∧ Below w.heap.size w w' := by
  have hz' := from_small (u := m.uses) s hz
  have HC : Hid (∀ W, Below w.heap.size w W → Calls Tryz.prog 52 #[vm, v, .string s] W fun e w' => ∃ a n cap a2 n2 cap2, e = .returned (.tuple #[.agg #[.slice a n cap, .slice a2 n2 cap2], .bool (fromOk m.uses l s)]) ∧ FcIs S w' (fromFc m.uses l s) (.agg #[.slice a n cap, .slice a2 n2 cap2]) ∧ Below W.heap.size W w') := fun W hW => by
    have hS' : ∀ b, S b → b < W.heap.size := fun b hb => Nat.lt_of_lt_of_le (hS b hb) hW.size
    refine (used_any S m l s vm v W hS' (hm.keep (Keeps.below hW hS)) (imSl_keep (Keeps.below hW hS) hv)).mono ?_
    rintro e w' ⟨a, n, cap, a2, n2, cap2, rfl, hf, hb⟩
    exact ⟨a, n, cap, a2, n2, cap2, rfl, hf.keep (Keeps.below hb hS'), hb⟩
  have HK : Hid (∀ W u, w.heap.size ≤ W.heap.size → FcIs S W (fromFc m.uses l s) u → Calls Tryz.prog 53 #[u] W fun e w' => ∃ a n cap a2 n2 cap2, e = .returned (.agg #[.slice a n cap, .slice a2 n2 cap2]) ∧ FcCs (fun b => W.heap.size ≤ b ∧ b < w'.heap.size) w' (fromFc m.uses l s) (.slice a n cap) (.slice a2 n2 cap2) ∧ Below W.heap.size W w') := fun W u hW hu =>
    copy_face S _ _ W (fun b hb => Nat.lt_of_lt_of_le (hS b hb) hW) hu hz'
  obtain ⟨vu, vt, vf, rfl, hu, ht, hf⟩ := hm
  obtain ⟨u1, u2, u3, rfl⟩ := hu.slice
  obtain ⟨t1, t2, t3, rfl⟩ := ht.slice
  obtain ⟨f1, f2, f3, rfl⟩ := hf.slice
  obtain ⟨a, n, cap, rfl⟩ := hv.slice
  have HOut : Hid (fromOk m.uses l s = false → fromFc m.uses l s = ⟨[], []⟩) := fun h => by
    by_cases hat : impAt l s < l.length
    · cases hh : (l[impAt l s].there && hasS m.uses s) with
      | false => exact (from_no hat hh).2
      | true => rw [(from_yes hat hh).1] at h; cases h
    · exact (from_out (by omega)).2
  clear hu ht hf hv hz hz'
  generalize fromFc m.uses l s = fc at *
  generalize fromOk m.uses l s = ok at *
  obtain ⟨w2, hwe, hs2, hbel, q0, q1, f0, f1⟩ : ∃ w2, (w.alloc (.cells #[.slice u1 u2 u3, .slice t1 t2 t3, .slice f1 f2 f3] 26)).alloc (.cells #[.slice none 0 0, .slice none 0 0] 31) = w2 ∧ w2.heap.size = w.heap.size + 2 ∧ Below w.heap.size w w2 ∧
      w2.cell? ⟨w.heap.size + 1, 0, none⟩ = some (.slice none 0 0) ∧ w2.cell? ⟨w.heap.size + 1, 1, none⟩ = some (.slice none 0 0) ∧ w2.frozen? ⟨w.heap.size + 1, 0, none⟩ = false ∧ w2.frozen? ⟨w.heap.size + 1, 1, none⟩ = false :=
    ⟨_, rfl, by simp, ((Below.refl _ _).alloc (Nat.le_refl _) _).alloc (by simp) _, by simp [go_sem], by simp [go_sem], by simp [go_sem], by simp [go_sem]⟩
  have HRes : Hid (∀ W, Below w2.heap.size w2 W → (W.cell? ⟨w.heap.size + 1, 0, none⟩ = some (.slice none 0 0) ∧ W.cell? ⟨w.heap.size + 1, 1, none⟩ = some (.slice none 0 0)) ∧ (W.frozen? ⟨w.heap.size + 1, 0, none⟩ = false ∧ W.frozen? ⟨w.heap.size + 1, 1, none⟩ = false) ∧ Below w.heap.size w W ∧ w.heap.size + 1 < W.heap.size) := fun W h => by
    have hsz := h.size
    exact ⟨⟨(h.cell (p := ⟨w.heap.size + 1, 0, none⟩) (by show w.heap.size + 1 < _; omega)).trans q0, (h.cell (p := ⟨w.heap.size + 1, 1, none⟩) (by show w.heap.size + 1 < _; omega)).trans q1⟩,
      ⟨(h.frozen (p := ⟨w.heap.size + 1, 0, none⟩) (by show w.heap.size + 1 < _; omega)).trans f0, (h.frozen (p := ⟨w.heap.size + 1, 1, none⟩) (by show w.heap.size + 1 < _; omega)).trans f1⟩, hbel.trans (h.mono hbel.size), by omega⟩
  have HSet : Hid (∀ W u0 u1, Below w.heap.size w W → Below w.heap.size w ((W.setCell ⟨w.heap.size + 1, 0, none⟩ u0).setCell ⟨w.heap.size + 1, 1, none⟩ u1)) := fun W u0 u1 h =>
    (h.setCell (by show w.heap.size ≤ w.heap.size + 1; omega) _).setCell (by show w.heap.size ≤ w.heap.size + 1; omega) _
  have HFin : Hid (∀ (W : World) (n : Nat) (p q u v : Value), w.heap.size + 1 < n → FcCs (fun b => n ≤ b ∧ b < W.heap.size) W fc p q → FcIs (fun b => b < ((W.setCell ⟨w.heap.size + 1, 0, none⟩ u).setCell ⟨w.heap.size + 1, 1, none⟩ v).heap.size) ((W.setCell ⟨w.heap.size + 1, 0, none⟩ u).setCell ⟨w.heap.size + 1, 1, none⟩ v) fc (.agg #[p, q])) := fun W n p q u v hn h => by
    have k1 := keep_set (B := n) (g := w.heap.size + 1) (W := W) (by omega) 0 u
    have k2 := keep_set (B := n) (g := w.heap.size + 1) (W := W.setCell ⟨w.heap.size + 1, 0, none⟩ u) (by omega) 1 v
    exact ⟨p, q, rfl, ((h.keep k1).keep k2).keep ⟨fun _ _ => rfl, fun b hb => hb.2⟩⟩
  have HWe := veil hwe
  have HBel := veil hbel
  clear q0 q1 f0 f1 hwe hbel
  go_enter Tryz.func31, Tryz.ntmps31
  go_wp2_with fail
  rw [HWe.out]
  refine (HC.out _ HBel.out).mono ?_
  rintro e w3 ⟨b1, b2, b3, c1, c2, c3, rfl, hfc, hb3⟩
  obtain ⟨w4, rfl, p0, p1, hb4⟩ : ∃ w4, w4 = w3.alloc (.cells #[.slice b1 b2 b3, .slice c1 c2 c3] 31) ∧ w4.cell? ⟨w3.heap.size, 0, none⟩ = some (.slice b1 b2 b3) ∧ w4.cell? ⟨w3.heap.size, 1, none⟩ = some (.slice c1 c2 c3) ∧ Below w3.heap.size w3 w4 :=
    ⟨_, rfl, by simp [go_sem], by simp [go_sem], (Below.refl _ _).alloc (Nat.le_refl _) _⟩
  have hb5 := hb3.trans (hb4.mono hb3.size)
  obtain ⟨⟨g0, g1⟩, ⟨g3, g4⟩, hb6, hl6⟩ := HRes.out _ hb5
  have hS3 : ∀ b, S b → b < w3.heap.size := fun b hb => by have := hS b hb; have := hb3.size; omega
  have HF4 := veil (hfc.keep (Keeps.below hb4 hS3))
  have HB5 := veil hb5
  have HB6 := veil hb6
  clear hb3 hb4 hb5 hb6 hfc hS3
  cases ok with
  | false =>
    have HE := veil (HOut.out rfl)
    clear p0 p1 HC HK
    go_wp2_with fail
    exact bodyPost_ret (v := .tuple #[.agg #[.slice none 0 0, .slice none 0 0], .bool false]) (by simp [results, Tryz.results31, go_sem, g0, g1]) rfl ⟨_, _, _, _, _, _, rfl, by rw [HE.out]; exact fcNil _ _, HSet.out _ _ _ HB6.out⟩
  | true =>
    clear HC
    go_wp2_with fail
    refine (HK.out _ _ (by have := HB6.out.size; omega) HF4.out).mono ?_
    rintro e w7 ⟨d1, d2, d3, e1, e2, e3, rfl, hfc7, hb7⟩
    have hl6' := hl6
    have HF7 := veil hfc7
    clear g0 g1 g3 g4
    obtain ⟨⟨g0, g1⟩, ⟨g3, g4⟩, hb8, _⟩ := HRes.out _ (HB5.out.trans (hb7.mono HB5.out.size))
    have HB8 := veil hb8
    clear hb7 hb8 hfc7 p0 p1
    go_wp2_with fail
    exact bodyPost_ret (v := .tuple #[.agg #[.slice d1 d2 d3, .slice e1 e2 e3], .bool true]) (by simp [results, Tryz.results31, go_sem, g0, g1]) rfl ⟨_, _, _, _, _, _, rfl, HFin.out _ _ _ _ _ _ hl6' HF7.out, HSet.out _ _ _ HB8.out⟩

end Go.Proofs.YtcpnfkeoajeodaaGreatDoor
