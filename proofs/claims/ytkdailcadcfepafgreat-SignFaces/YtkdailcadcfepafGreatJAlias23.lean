/- Lists by their names, in plain words: what is laid where its name belongs, one behind another, is what sorting makes of it. -/
import Derived.Test.YtkdailcadcfepafGreatJAo
import Derived.Shelf.SlSortCmp.WholeK
namespace Go.Proofs.YtkdailcadcfepafGreat
open Go.RowKit
set_option maxRecDepth 100000
open Go.Shelf (Ren)

/-! ### The order of texts, once more. -/

theorem less_asymm : ∀ {a b : List UInt8}, Op.bytesLess a b = true → Op.bytesLess b a = false
  | [], [], h => by simp [Op.bytesLess] at h
  | [], _ :: _, _ => by simp [Op.bytesLess]
  | _ :: _, [], h => by simp [Op.bytesLess] at h
  | x :: xs, y :: ys, h => by
    simp only [Op.bytesLess, Bool.or_eq_true, decide_eq_true_eq, Bool.and_eq_true, beq_iff_eq, Bool.or_eq_false_iff, decide_eq_false_iff_not, Bool.and_eq_false_iff, beq_eq_false_iff_ne] at *
    rcases h with h | ⟨rfl, h⟩
    · have := UInt8.lt_iff_toNat_lt.1 h
      refine ⟨fun h' => by have := UInt8.lt_iff_toNat_lt.1 h'; omega, Or.inl fun e => ?_⟩
      subst e; omega
    · refine ⟨fun h' => by have := UInt8.lt_iff_toNat_lt.1 h'; omega, Or.inr (less_asymm h)⟩

theorem less_irrefl (a : List UInt8) : Op.bytesLess a a = false := by
  cases h : Op.bytesLess a a with
  | false => rfl
  | true => rw [less_asymm h] at h; cases h

theorem less_tr {a b c : List UInt8} (h1 : Op.bytesLess a b = true) (h2 : Op.bytesLess b c = true) : Op.bytesLess a c = true := by
  cases h : Op.bytesLess a c with
  | true => rfl
  | false =>
    have := less_trans h (less_asymm h2)
    rw [h1] at this; cases this

theorem compare_less : ∀ (a b : List UInt8), decide (Lib.compareBytes a b < 0) = Op.bytesLess a b
  | [], [] => by simp [Lib.compareBytes, Op.bytesLess]
  | [], _ :: _ => by simp [Lib.compareBytes, Op.bytesLess]
  | _ :: _, [] => by simp [Lib.compareBytes, Op.bytesLess]
  | x :: xs, y :: ys => by
    rw [Lib.compareBytes, Op.bytesLess]
    by_cases h1 : x < y
    · simp [h1]
    · by_cases h2 : y < x
      · have hne : ¬ x = y := fun e => by subst e; exact h1 h2
        simp [h1, h2, hne]
      · have e : x = y := UInt8.toNat_inj.1 (by
          have a1 := mt UInt8.lt_iff_toNat_lt.2 h1
          have a2 := mt UInt8.lt_iff_toNat_lt.2 h2
          omega)
        subst e
        simp [h1, compare_less xs ys]

/-! ### One laid where it belongs. -/

section
variable {α : Type} (name : α → ByteArray)

def insB (x : α) : List α → List α
  | [] => [x]
  | y :: r => if gtB (name y) (name x) = true then x :: y :: r else y :: insB x r

def RisesB (l : List α) : Prop := l.Pairwise fun a b => gtB (name b) (name a) = true

theorem insB_perm (x : α) : ∀ l, (insB name x l).Perm (x :: l)
  | [] => List.Perm.refl _
  | y :: r => by
    rw [insB]
    split
    · exact List.Perm.refl _
    · exact ((insB_perm x r).cons y).trans (List.Perm.swap x y r)

theorem gt_or {a b : ByteArray} (h : ¬ gtB a b = true) (hn : sEq a b = false) : gtB b a = true := by
  unfold gtB sEq at *
  have hn' : (b.toList == a.toList) = false := by
    rw [beq_eq_false_iff_ne] at *
    exact fun e => hn e.symm
  rw [hn] at h
  simp only [Bool.not_false, Bool.and_true, Bool.not_eq_true', Bool.not_eq_false] at h
  rw [hn', less_asymm h]; rfl

theorem insB_rises {x : α} : ∀ {l : List α}, RisesB name l → (∀ y ∈ l, sEq (name y) (name x) = false) → RisesB name (insB name x l)
  | [], _, _ => List.pairwise_singleton _ _
  | y :: r, h, hn => by
    rw [insB]
    by_cases hg : gtB (name y) (name x) = true
    · rw [if_pos hg]
      refine List.Pairwise.cons (fun z hz => ?_) h
      rcases List.mem_cons.1 hz with rfl | hz
      · exact hg
      · exact gt_trans (List.rel_of_pairwise_cons h hz) hg
    · rw [if_neg hg]
      have hyx := gt_or hg (hn y (List.mem_cons_self ..))
      refine List.Pairwise.cons (fun z hz => ?_) (insB_rises h.tail (fun z hz => hn z (List.mem_cons_of_mem _ hz)))
      rcases List.mem_cons.1 ((insB_perm name x r).subset hz) with rfl | hz
      · exact hyx
      · exact List.rel_of_pairwise_cons h hz

theorem rises_one {l1 l2 : List α} (h1 : RisesB name l1) (h2 : RisesB name l2) (hp : l1.Perm l2) : l1 = l2 :=
  List.Perm.eq_of_pairwise (le := fun a b => gtB (name b) (name a) = true) (fun a b _ _ h h' => by
    have := gt_ne (gt_trans h h')
    rw [sEq_refl] at this; cases this) h1 h2 hp

def insAll : List α → List α → List α
  | out, [] => out
  | out, x :: r => insAll (insB name x out) r

/-- no name stands twice. -/
def Apart (l : List α) : Prop := l.Pairwise fun a b => sEq (name a) (name b) = false

def cmpN (x y : α) : Int := Lib.compareBytes (name x).data.toList (name y).data.toList

theorem ltOf_cmpN (x y : α) : ltOf (cmpN name) x y = Op.bytesLess (name x).toList (name y).toList := by
  unfold ltOf cmpN
  rw [compare_less, Lib.toList_data, Lib.toList_data]

theorem swo_cmpN : Sort.SWO (ltOf (cmpN name)) where
  irrefl x := by rw [ltOf_cmpN]; exact less_irrefl _
  trans x y z h1 h2 := by rw [ltOf_cmpN] at *; exact less_tr h1 h2
  ntrans x y z h1 h2 := by rw [ltOf_cmpN] at *; exact less_trans h1 h2

theorem sorted_rises [Inhabited α] {d d' : Array α} (hp : Sort.PermIn 0 d.size d d') (hs : Sort.SortedIn (ltOf (cmpN name)) 0 d.size d') (ha : Apart name d.toList) : d'.toList.Perm d.toList ∧ RisesB name d'.toList := by
  obtain ⟨hsz, _, hperm⟩ := hp
  have e1 : d'.extract 0 d.size = d' := by rw [← hsz]; simp
  have e2 : d.extract 0 d.size = d := by simp
  rw [e1, e2] at hperm
  refine ⟨hperm, ?_⟩
  have ha' : Apart name d'.toList := (hperm.pairwise_iff (by
    intro x y h
    unfold sEq at *
    rw [beq_eq_false_iff_ne] at *
    exact fun e => h e.symm)).2 ha
  unfold RisesB
  unfold Apart at ha'
  rw [List.pairwise_iff_getElem] at *
  intro i j hi hj hij
  have h1 := hs i j (Nat.zero_le _) hij (by rw [← hsz]; simpa using hj)
  rw [ltOf_cmpN] at h1
  have h2 := ha' i j hi hj hij
  have g1 : d'[i]! = d'.toList[i] := by simp at hi; simp [getElem!_pos, hi]
  have g2 : d'[j]! = d'.toList[j] := by simp at hj; simp [getElem!_pos, hj]
  rw [g1, g2] at h1
  unfold gtB
  rw [h1]
  unfold sEq at h2
  rw [beq_eq_false_iff_ne] at h2
  have h3 : ((name d'.toList[j]).toList == (name d'.toList[i]).toList) = false := beq_eq_false_iff_ne.2 fun e => h2 e.symm
  rw [h3]; rfl

end

end Go.Proofs.YtkdailcadcfepafGreat
