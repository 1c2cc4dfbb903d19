/- Names that rise stand once; so the reference's FromOf answers what alias.used answers. What alias.From answers. -/
import Derived.Test.YtedpiamfpbdhoaaAlias2
import Derived.Test.YtedpiamfpbdhoaaFaceCopy4
namespace Go.Proofs.Ytedpiamfpbdhoaa
open Go.RowKit

/-! ### The order of texts. -/

theorem less_trans : ∀ {a b c : List UInt8}, Op.bytesLess a b = false → Op.bytesLess b c = false → Op.bytesLess a c = false
  | [], [], _, _, h => h
  | [], _ :: _, _, h, _ => by simp [Op.bytesLess] at h
  | _ :: _, _, [], _, _ => by simp [Op.bytesLess]
  | _ :: _, [], _ :: _, _, h => by simp [Op.bytesLess] at h
  | x :: xs, y :: ys, z :: zs, h1, h2 => by
    simp only [Op.bytesLess, Bool.or_eq_false_iff, decide_eq_false_iff_not, Bool.and_eq_false_iff, beq_eq_false_iff_ne] at *
    obtain ⟨h1, h1'⟩ := h1
    obtain ⟨h2, h2'⟩ := h2
    have e1 : ¬ x.toNat < y.toNat := fun h => h1 (UInt8.lt_iff_toNat_lt.2 h)
    have e2 : ¬ y.toNat < z.toNat := fun h => h2 (UInt8.lt_iff_toNat_lt.2 h)
    refine ⟨fun h => by have := UInt8.lt_iff_toNat_lt.1 h; omega, ?_⟩
    by_cases hxz : x = z
    · subst hxz
      have hxy : x = y := UInt8.toNat_inj.1 (by omega)
      subst hxy
      exact Or.inr (less_trans (h1'.resolve_left (fun h => h rfl)) (h2'.resolve_left (fun h => h rfl)))
    · exact Or.inl hxz

theorem less_eq : ∀ {a b : List UInt8}, Op.bytesLess a b = false → Op.bytesLess b a = false → a = b
  | [], [], _, _ => rfl
  | [], _ :: _, h, _ => by simp [Op.bytesLess] at h
  | _ :: _, [], _, h => by simp [Op.bytesLess] at h
  | x :: xs, y :: ys, h1, h2 => by
    simp only [Op.bytesLess, Bool.or_eq_false_iff, decide_eq_false_iff_not, Bool.and_eq_false_iff, beq_eq_false_iff_ne] at *
    obtain ⟨h1, h1'⟩ := h1
    obtain ⟨h2, h2'⟩ := h2
    have e1 : ¬ x.toNat < y.toNat := fun h => h1 (UInt8.lt_iff_toNat_lt.2 h)
    have e2 : ¬ y.toNat < x.toNat := fun h => h2 (UInt8.lt_iff_toNat_lt.2 h)
    have hxy : x = y := UInt8.toNat_inj.1 (by omega)
    subst hxy
    rw [less_eq (h1'.resolve_left (fun h => h rfl)) (h2'.resolve_left (fun h => h rfl))]

theorem gt_trans {a b c : ByteArray} (h1 : gtB a b = true) (h2 : gtB b c = true) : gtB a c = true := by
  unfold gtB at *
  simp only [Bool.and_eq_true, Bool.not_eq_true', beq_eq_false_iff_ne] at *
  refine ⟨less_trans h1.1 h2.1, fun e => ?_⟩
  rw [e] at h1
  exact h1.2 (less_eq h1.1 h2.1)
theorem gt_ne {a b : ByteArray} (h : gtB a b = true) : sEq a b = false := by
  unfold gtB at h
  simp only [Bool.and_eq_true, Bool.not_eq_true'] at h
  exact h.2

theorem order_all {α : Type} {fault : α → Int} {name : α → ByteArray} (h7 : ∀ x, fault x ≠ 0 → fault x ≠ 0) : ∀ {l : List α} {p : ByteArray}, orderFault fault name l p = 0 → ∀ x ∈ l, gtB (name x) p = true ∧ fault x = 0
  | [], _, _, _, h => by cases h
  | y :: r, p, h, x, hx => by
    rw [orderFault] at h
    by_cases hf : fault y = 0
    · rw [if_pos hf] at h
      by_cases hg : gtB (name y) p = true
      · rw [if_pos hg] at h
        rcases List.mem_cons.1 hx with rfl | hx
        · exact ⟨hg, hf⟩
        · have := order_all h7 h x hx
          exact ⟨gt_trans this.1 hg, this.2⟩
      · rw [if_neg hg] at h
        exact absurd h (by decide)
    · rw [if_neg hf] at h
      exact absurd h hf

/-! ### The reference's way. -/

def fromR (u : List ByteArray) (s : ByteArray) : List Im → Bool × Fc
  | [] => (false, ⟨[], []⟩)
  | i :: r => if (sEq i.name s && (i.there && hasS u s)) = true then (true, i.face) else fromR u s r

theorem fromR_none (u : List ByteArray) (s : ByteArray) : ∀ (l : List Im), (∀ x ∈ l, sEq x.name s = false) → fromR u s l = (false, ⟨[], []⟩)
  | [], _ => rfl
  | i :: r, h => by
    rw [fromR, if_neg (by rw [h i (List.mem_cons_self ..)]; simp), fromR_none u s r (fun x hx => h x (List.mem_cons_of_mem _ hx))]

theorem from_cons_no {u : List ByteArray} {i : Im} {r : List Im} {s : ByteArray} (h : sEq i.name s = false) : fromOk u (i :: r) s = fromOk u r s ∧ fromFc u (i :: r) s = fromFc u r s := by
  have e : impAt (i :: r) s = impAt r s + 1 := by
    unfold impAt
    rw [findAt, if_neg (by rw [h]; simp)]
  unfold fromOk fromFc
  rw [e, List.getElem?_cons_succ]
  exact ⟨rfl, rfl⟩
theorem from_cons_yes {u : List ByteArray} {i : Im} {r : List Im} {s : ByteArray} (h : sEq i.name s = true) : fromOk u (i :: r) s = (i.there && hasS u s) ∧ fromFc u (i :: r) s = (if (i.there && hasS u s) = true then i.face else ⟨[], []⟩) := by
  have e : impAt (i :: r) s = 0 := by
    unfold impAt
    rw [findAt, if_pos h]
  unfold fromOk fromFc
  rw [e, List.getElem?_cons_zero]
  exact ⟨rfl, rfl⟩

theorem sEq_eq {a b : ByteArray} (h : sEq a b = true) : a = b := by
  unfold sEq at h
  have h' := beq_iff_eq.1 h
  rw [Lib.toList_data, Lib.toList_data] at h'
  exact Go.WideShapes.bytes_inj h'

theorem from_same (u : List ByteArray) (s : ByteArray) : ∀ {l : List Im} {p : ByteArray}, orderFault imFault Im.name l p = 0 → fromR u s l = (fromOk u l s, fromFc u l s)
  | [], _, _ => rfl
  | i :: r, p, h => by
    have hr : orderFault imFault Im.name r i.name = 0 := by
      rw [orderFault] at h
      by_cases hf : imFault i = 0
      · rw [if_pos hf] at h
        by_cases hg : gtB i.name p = true
        · rwa [if_pos hg] at h
        · rw [if_neg hg] at h; exact absurd h (by decide)
      · rw [if_neg hf] at h
        exact absurd h hf
    cases hs : sEq i.name s with
    | false =>
      rw [fromR, if_neg (by rw [hs]; simp), (from_cons_no hs).1, (from_cons_no hs).2]
      exact from_same u s hr
    | true =>
      rw [fromR, (from_cons_yes hs).1, (from_cons_yes hs).2, hs, Bool.true_and]
      by_cases ht : (i.there && hasS u s) = true
      · rw [if_pos ht, if_pos ht, ht]
      · rw [if_neg ht, if_neg ht, fromR_none u s r (fun x hx => by
          have := (order_all (fun _ h => h) hr x hx).1
          rw [← sEq_eq hs]
          exact gt_ne this)]
        rw [Bool.not_eq_true] at ht
        rw [ht]

theorem ims_order {l : List Im} (h : imsFault l = 0) : orderFault imFault Im.name l ⟨#[]⟩ = 0 := by
  unfold imsFault at h
  by_cases hl : 24 < (l.length : Int)
  · rw [if_pos hl] at h; exact absurd h (by decide)
  · rwa [if_neg hl] at h

theorem fromR_drop {u : List ByteArray} {s : ByteArray} {l : List Im} {j : Nat} (h : j < l.length) : fromR u s (l.drop j) = if (sEq l[j].name s && (l[j].there && hasS u s)) = true then (true, l[j].face) else fromR u s (l.drop (j + 1)) := by
  rw [List.drop_eq_getElem_cons h, fromR]

end Go.Proofs.Ytedpiamfpbdhoaa
