/- How a face is shown, in plain words: a line for each type and function; and how long that can be. -/
import Derived.Test.YtpolmcleiimlcaeFaceFault
import Derived.Test.YtpolmcleiimlcaeFaceRead
import Derived.Lib.Join
namespace Go.Proofs.Ytpolmcleiimlcae
open Go.RowKit

def textOf (l : List UInt8) : ByteArray := ⟨l.toArray⟩
theorem textOf_data (t : ByteArray) : textOf t.data.toList = t := by cases t; simp [textOf]
theorem textOf_append (a b : List UInt8) : textOf a ++ textOf b = textOf (a ++ b) := by
  unfold textOf
  apply ByteArray.ext
  simp
theorem textOf_size (a : List UInt8) : (textOf a).size = a.length := rfl

def knLine (k : Kn) : List UInt8 := [116, 121, 112, 101, 32] ++ k.name.data.toList ++ [32, 61, 32] ++ k.is.data.toList ++ [10]
/-- the first k of them, with a comma and a blank between. -/
def paramsTo (ps : List ByteArray) : Nat → List UInt8
  | 0 => []
  | k + 1 => paramsTo ps k ++ (if k = 0 then [] else [44, 32]) ++ ((ps[k]?).map (·.data.toList)).getD []
def sgHead (g : Sg) : List UInt8 := [102, 117, 110, 99, 32] ++ g.name.data.toList ++ [40]
def sgTail (g : Sg) : List UInt8 := [41, 58, 32] ++ g.result.data.toList ++ [10]
def sgLine (g : Sg) : List UInt8 := sgHead g ++ paramsTo g.params g.params.length ++ sgTail g
def linesTo {α : Type} (line : α → List UInt8) (l : List α) : Nat → List UInt8
  | 0 => []
  | k + 1 => linesTo line l k ++ ((l[k]?).map line).getD []
def fcText (f : Fc) : List UInt8 := linesTo knLine f.types f.types.length ++ linesTo sgLine f.funcs f.funcs.length
def fcShown (f : Fc) : ByteArray := if fcFault f = 0 then textOf (fcText f) else ⟨#[]⟩

theorem linesTo_succ {α : Type} {line : α → List UInt8} {l : List α} {k : Nat} (h : k < l.length) : linesTo line l (k + 1) = linesTo line l k ++ line l[k] := by
  rw [linesTo, List.getElem?_eq_getElem h]; rfl
theorem paramsTo_first {ps : List ByteArray} (h : 0 < ps.length) : paramsTo ps 1 = ps[0].data.toList := by
  rw [paramsTo, paramsTo, List.getElem?_eq_getElem h]; simp
theorem paramsTo_next {ps : List ByteArray} {k : Nat} (h0 : 0 < k) (h : k < ps.length) : paramsTo ps (k + 1) = paramsTo ps k ++ [44, 32] ++ ps[k].data.toList := by
  rw [paramsTo, List.getElem?_eq_getElem h, if_neg (by omega)]; simp

theorem join_params (ps : List ByteArray) : Lib.join (ps.map (·.data.toList)) [44, 32] = paramsTo ps ps.length := by
  cases ps with
  | nil => rfl
  | cons x r =>
    have key : ∀ k, k ≤ r.length → paramsTo (x :: r) (k + 1) = x.data.toList ++ Lib.joinTail [44, 32] ((r.map (·.data.toList)).take k) := by
      intro k
      induction k with
      | zero => intro _; rw [paramsTo_first (by simp)]; simp [Lib.joinTail]
      | succ k ih =>
        intro hk
        rw [paramsTo_next (by omega) (by simp; omega), ih (by omega), Lib.joinTail_take_succ [44, 32] (r.map (·.data.toList)) k (r[k].data.toList) (by rw [List.getElem?_map, List.getElem?_eq_getElem (by omega)]; rfl)]
        simp
    rw [List.map_cons, Lib.join_cons, List.length_cons, key r.length (Nat.le_refl _), List.take_of_length_le (by simp)]

theorem order_all {α : Type} {fault : α → Int} {name : α → ByteArray} : ∀ {l : List α} {p : ByteArray}, orderFault fault name l p = 0 → ∀ x ∈ l, fault x = 0
  | [], _, _, _, h => by cases h
  | y :: r, p, h, x, hx => by
    rw [orderFault] at h
    by_cases hy : fault y = 0
    · rw [if_pos hy] at h
      by_cases hg : gtB (name y) p = true
      · rw [if_pos hg] at h
        rcases List.mem_cons.1 hx with rfl | hx
        · exact hy
        · exact order_all h x hx
      · rw [if_neg hg] at h
        cases h
    · rw [if_neg hy] at h
      exact absurd h hy

theorem bad4_ok {b : Bool} (h : bad4 b = 0) : b = true := by
  cases b with
  | true => rfl
  | false => cases h

theorem ident_le {s : ByteArray} (h : identOk s = true) : s.size ≤ 8 := by
  have h1 : wordOk s = true := by
    unfold identOk at h
    simp only [Bool.and_eq_true] at h
    exact h.1
  by_cases hs : 1 ≤ s.size ∧ s.size ≤ 8
  · exact hs.2
  · rw [word_long s hs] at h1
    cases h1
theorem kindB_le {s : ByteArray} (h : kindB s = true) : s.size ≤ 600 := kindErr_size (by simpa [kindB] using h)

theorem fc_good {f : Fc} (h : fcFault f = 0) (hz : fcSmall f) : f.types.length + f.funcs.length ≤ 24 ∧ (∀ k ∈ f.types, knOk k = true) ∧ ∀ g ∈ f.funcs, sgOk g = true := by
  have hr := reachBytes_lt
  obtain ⟨⟨z0, _⟩, z2, _⟩ := hz
  unfold fcFault at h
  by_cases h24 : 24 < wrap64 ((f.types.length : Int) + f.funcs.length)
  · rw [if_pos h24] at h; cases h
  · rw [if_neg h24] at h
    have hw : wrap64 ((f.types.length : Int) + f.funcs.length) = (f.types.length : Int) + f.funcs.length := by unfold wrap64; omega
    rw [hw] at h24
    by_cases ht : orderFault knFault Kn.name f.types ⟨#[]⟩ = 0
    · rw [if_pos ht] at h
      exact ⟨by omega, fun k hk => bad4_ok (order_all ht k hk), fun g hg => bad4_ok (order_all h g hg)⟩
    · rw [if_neg ht] at h
      exact absurd h ht

theorem knLine_le {k : Kn} (h : knOk k = true) : k.name.size ≤ 8 ∧ k.is.size ≤ 600 ∧ (knLine k).length ≤ 700 := by
  have h1 := ident_le (kn_ident h)
  have h2 : k.is.size ≤ 600 := by
    unfold knOk at h
    simp only [Bool.and_eq_true] at h
    exact kindB_le h.2.1
  refine ⟨h1, h2, ?_⟩
  have e1 : k.name.data.toList.length = k.name.size := (Lib.size_eq _).symm
  have e2 : k.is.data.toList.length = k.is.size := (Lib.size_eq _).symm
  unfold knLine
  simp only [List.length_append, List.length_cons, List.length_nil]
  omega

theorem paramsTo_le {ps : List ByteArray} (h : ∀ p ∈ ps, p.size ≤ 600) : ∀ k, k ≤ ps.length → (paramsTo ps k).length ≤ 602 * k
  | 0, _ => by simp [paramsTo]
  | k + 1, hk => by
    have ih := paramsTo_le h k (by omega)
    have e : ps[k].data.toList.length = ps[k].size := (Lib.size_eq _).symm
    have := h ps[k] (List.getElem_mem _)
    by_cases h0 : k = 0
    · subst h0
      rw [paramsTo_first (by omega)]; omega
    · rw [paramsTo_next (by omega) (by omega)]
      simp only [List.length_append, List.length_cons, List.length_nil]; omega

theorem sgOk_le {g : Sg} (h : sgOk g = true) : g.name.size ≤ 8 ∧ g.result.size ≤ 600 ∧ g.params.length ≤ 8 ∧ ∀ p ∈ g.params, p.size ≤ 600 := by
  have h1 := ident_le (sg_ident h)
  unfold sgOk at h
  simp only [Bool.and_eq_true, decide_eq_true_eq] at h
  exact ⟨h1, kindB_le h.2.2.1, h.2.1, fun p hp => kindB_le (List.all_eq_true.1 h.2.2.2 p hp)⟩

theorem sgLine_le {g : Sg} (h : sgOk g = true) : (sgHead g).length ≤ 20 ∧ (paramsTo g.params g.params.length).length ≤ 4816 ∧ (sgTail g).length ≤ 620 ∧ (sgLine g).length ≤ 5500 := by
  obtain ⟨h1, h2, h3, h4⟩ := sgOk_le h
  have hp := paramsTo_le h4 g.params.length (Nat.le_refl _)
  have e1 : g.name.data.toList.length = g.name.size := (Lib.size_eq _).symm
  have e2 : g.result.data.toList.length = g.result.size := (Lib.size_eq _).symm
  have a1 : (sgHead g).length ≤ 20 := by
    unfold sgHead
    simp only [List.length_append, List.length_cons, List.length_nil]
    omega
  have a2 : (sgTail g).length ≤ 620 := by
    unfold sgTail
    simp only [List.length_append, List.length_cons, List.length_nil]
    omega
  refine ⟨a1, by omega, a2, ?_⟩
  unfold sgLine
  simp only [List.length_append]
  omega

theorem linesTo_le {α : Type} {line : α → List UInt8} {l : List α} {m : Nat} (h : ∀ x ∈ l, (line x).length ≤ m) : ∀ k, k ≤ l.length → (linesTo line l k).length ≤ m * k
  | 0, _ => by simp [linesTo]
  | k + 1, hk => by
    have ih := linesTo_le h k (by omega)
    rw [linesTo_succ (by omega), List.length_append, Nat.mul_succ]
    have := h l[k] (List.getElem_mem _)
    omega

end Go.Proofs.Ytpolmcleiimlcae
