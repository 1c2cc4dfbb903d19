import Derived.Test.YtagbaimfigljiaaGreatDoorJCk17
import Derived.Test.YtagbaimfigljiaaGreatDoorJCk13
import Derived.Test.YtagbaimfigljiaaGreatDoorProg
import Derived.Test.YtagbaimfigljiaaGreatDoorJCk11
import Derived.Test.YtagbaimfigljiaaGreatDoorJCk15
import Derived.Test.YtagbaimfigljiaaGreatDoorJCk16
import Derived.Shelf.SlSortCmp.WholeK
import Derived.Lib.SlicesCompact
import Derived.Shelf.Strings.Builder1
import Derived.Shelf.Strings.Builder2
import Derived.Shelf.Small.Bits
import Derived.Shelf.Small.Strs
import Derived.Shelf.Strconv.Atoi
import Derived.Shelf.Strconv.Itoa0
import Derived.Shelf.Strconv.Itoa1
import Derived.Shelf.LaysM
import Derived.Shelf.Strconv.Clone
import Derived.Shelf.Strings.Search1
import Derived.Shelf.Strings.Search2
import Derived.Shelf.Strings.Search3
import Derived.Shelf.Strings.Count
import Derived.Shelf.Strings.Shaped
import Derived.Shelf.Sort.Plain
import Derived.Shelf.Strings.Split
import Derived.Shelf.Strings.Replace
import Derived.Shelf.Bits.Mul64
import Derived.Shelf.Unicode.DecodeSlow
import Derived.Shelf.Slices.CompactS
import Derived.Shelf.Slices.Cells
import Derived.Shelf.Slices.In.SortNone
import Derived.Shelf.Spec.SlicesGrow
import Derived.Maps.AppendAt
import Derived.Lib.AppendZeros
namespace Go.Proofs.YtagbaimfigljiaaGreatDoor
open Go.RowKit
set_option maxRecDepth 100000
open Go.Shelf (Ren)

/-! ### The order of texts, once more. -/

theorem less_asymm : ∀ {a b : List UInt8}, Op.bytesLess a b = true → Op.bytesLess b a = false
  | [], [], h => by simp [Op.bytesLess] at h
  | [], _ :: _, _ => by simp [Op.bytesLess]
  | _ :: _, [], h => by simp [Op.bytesLess] at h
  | x :: xs, y :: ys, h => by
    simp only [Op.bytesLess, Bool.or_eq_true, decide_eq_true_eq, Bool.and_eq_true, beq_iff_eq, Bool.or_eq_false_iff, decide_eq_false_iff_not, Bool.and_eq_false_iff, beq_eq_false_iff_ne] at *
    rcases h with h | ⟨rfl, h⟩
    · have := UInt8.lt_iff_toNat_lt.1 h
      refine ⟨fun h' => by have := UInt8.lt_iff_toNat_lt.1 h'; omega, Or.inl fun e => ?_⟩
      subst e; omega
    · refine ⟨fun h' => by have := UInt8.lt_iff_toNat_lt.1 h'; omega, Or.inr (less_asymm h)⟩

theorem less_irrefl (a : List UInt8) : Op.bytesLess a a = false := by
  cases h : Op.bytesLess a a with
  | false => rfl
  | true => rw [less_asymm h] at h; cases h

theorem less_tr {a b c : List UInt8} (h1 : Op.bytesLess a b = true) (h2 : Op.bytesLess b c = true) : Op.bytesLess a c = true := by
  cases h : Op.bytesLess a c with
  | true => rfl
  | false =>
    have := less_trans h (less_asymm h2)
    rw [h1] at this; cases this

theorem compare_less : ∀ (a b : List UInt8), decide (Lib.compareBytes a b < 0) = Op.bytesLess a b
  | [], [] => by simp [Lib.compareBytes, Op.bytesLess]
  | [], _ :: _ => by simp [Lib.compareBytes, Op.bytesLess]
  | _ :: _, [] => by simp [Lib.compareBytes, Op.bytesLess]
  | x :: xs, y :: ys => by
    rw [Lib.compareBytes, Op.bytesLess]
    by_cases h1 : x < y
    · simp [h1]
    · by_cases h2 : y < x
      · have hne : ¬ x = y := fun e => by subst e; exact h1 h2
        simp [h1, h2, hne]
      · have e : x = y := UInt8.toNat_inj.1 (by
          have a1 := mt UInt8.lt_iff_toNat_lt.2 h1
          have a2 := mt UInt8.lt_iff_toNat_lt.2 h2
          omega)
        subst e
        simp [h1, compare_less xs ys]

/-! ### One laid where it belongs. -/

section
variable {α : Type} (name : α → ByteArray)

def insB (x : α) : List α → List α
  | [] => [x]
  | y :: r => if gtB (name y) (name x) = true then x :: y :: r else y :: insB x r

def RisesB (l : List α) : Prop := l.Pairwise fun a b => gtB (name b) (name a) = true

theorem insB_perm (x : α) : ∀ l, (insB name x l).Perm (x :: l)
  | [] => List.Perm.refl _
  | y :: r => by
    rw [insB]
    split
    · exact List.Perm.refl _
    · exact ((insB_perm x r).cons y).trans (List.Perm.swap x y r)

theorem gt_or {a b : ByteArray} (h : ¬ gtB a b = true) (hn : sEq a b = false) : gtB b a = true := by
  unfold gtB sEq at *
  have hn' : (b.toList == a.toList) = false := by
    rw [beq_eq_false_iff_ne] at *
    exact fun e => hn e.symm
  rw [hn] at h
  simp only [Bool.not_false, Bool.and_true, Bool.not_eq_true', Bool.not_eq_false] at h
  rw [hn', less_asymm h]; rfl

theorem insB_rises {x : α} : ∀ {l : List α}, RisesB name l → (∀ y ∈ l, sEq (name y) (name x) = false) → RisesB name (insB name x l)
  | [], _, _ => List.pairwise_singleton _ _
  | y :: r, h, hn => by
    rw [insB]
    by_cases hg : gtB (name y) (name x) = true
    · rw [if_pos hg]
      refine List.Pairwise.cons (fun z hz => ?_) h
      rcases List.mem_cons.1 hz with rfl | hz
      · exact hg
      · exact gt_trans (List.rel_of_pairwise_cons h hz) hg
    · rw [if_neg hg]
      have hyx := gt_or hg (hn y (List.mem_cons_self ..))
      refine List.Pairwise.cons (fun z hz => ?_) (insB_rises h.tail (fun z hz => hn z (List.mem_cons_of_mem _ hz)))
      rcases List.mem_cons.1 ((insB_perm name x r).subset hz) with rfl | hz
      · exact hyx
      · exact List.rel_of_pairwise_cons h hz

theorem rises_one {l1 l2 : List α} (h1 : RisesB name l1) (h2 : RisesB name l2) (hp : l1.Perm l2) : l1 = l2 :=
  List.Perm.eq_of_pairwise (le := fun a b => gtB (name b) (name a) = true) (fun a b _ _ h h' => by
    have := gt_ne (gt_trans h h')
    rw [sEq_refl] at this; cases this) h1 h2 hp

/-- no name stands twice. -/
def Apart (l : List α) : Prop := l.Pairwise fun a b => sEq (name a) (name b) = false

def cmpN (x y : α) : Int := Lib.compareBytes (name x).data.toList (name y).data.toList

theorem ltOf_cmpN (x y : α) : ltOf (cmpN name) x y = Op.bytesLess (name x).toList (name y).toList := by
  unfold ltOf cmpN
  rw [compare_less, Lib.toList_data, Lib.toList_data]

theorem swo_cmpN : Sort.SWO (ltOf (cmpN name)) where
  irrefl x := by rw [ltOf_cmpN]; exact less_irrefl _
  trans x y z h1 h2 := by rw [ltOf_cmpN] at *; exact less_tr h1 h2
  ntrans x y z h1 h2 := by rw [ltOf_cmpN] at *; exact less_trans h1 h2

theorem sorted_rises [Inhabited α] {d d' : Array α} (hp : Sort.PermIn 0 d.size d d') (hs : Sort.SortedIn (ltOf (cmpN name)) 0 d.size d') (ha : Apart name d.toList) : d'.toList.Perm d.toList ∧ RisesB name d'.toList := by
  obtain ⟨hsz, _, hperm⟩ := hp
  have e1 : d'.extract 0 d.size = d' := by rw [← hsz]; simp
  have e2 : d.extract 0 d.size = d := by simp
  rw [e1, e2] at hperm
  refine ⟨hperm, ?_⟩
  have ha' : Apart name d'.toList := (hperm.pairwise_iff (by
    intro x y h
    unfold sEq at *
    rw [beq_eq_false_iff_ne] at *
    exact fun e => h e.symm)).2 ha
  unfold RisesB
  unfold Apart at ha'
  rw [List.pairwise_iff_getElem] at *
  intro i j hi hj hij
  have h1 := hs i j (Nat.zero_le _) hij (by rw [← hsz]; simpa using hj)
  rw [ltOf_cmpN] at h1
  have h2 := ha' i j hi hj hij
  have g1 : d'[i]! = d'.toList[i] := by simp at hi; simp [getElem!_pos, hi]
  have g2 : d'[j]! = d'.toList[j] := by simp at hj; simp [getElem!_pos, hj]
  rw [g1, g2] at h1
  unfold gtB
  rw [h1]
  unfold sEq at h2
  rw [beq_eq_false_iff_ne] at h2
  have h3 : ((name d'.toList[j]).toList == (name d'.toList[i]).toList) = false := beq_eq_false_iff_ne.2 fun e => h2 e.symm
  rw [h3]; rfl

end

end Go.Proofs.YtagbaimfigljiaaGreatDoor
namespace Go.Proofs.YtagbaimfigljiaaGreatDoor
open Go.RowKit
set_option maxRecDepth 100000

def toB (x : List UInt8) : ByteArray := ⟨x.toArray⟩
theorem toB_data (s : ByteArray) : toB s.data.toList = s := by simp [toB]
end Go.Proofs.YtagbaimfigljiaaGreatDoor
namespace Go.Proofs
open Go.Shelf
end Go.Proofs
namespace Go.Proofs.YtagbaimfigljiaaGreatDoor
open Go.RowKit
set_option maxRecDepth 100000
open Go.Sort (grow putRow mapBlock onCells putCells Holds)

end Go.Proofs.YtagbaimfigljiaaGreatDoor
namespace Go.Proofs.YtagbaimfigljiaaGreatDoor
open Go.RowKit
set_option maxRecDepth 100000

theorem readAll_lens : ∀ (L : List ByteArray) (m m' : Mo) (k : Nat), readAll L m = .ok m' → m.uses.length ≤ k ∧ m.types.length ≤ k ∧ m.funcs.length ≤ k → m'.uses.length ≤ k + L.length ∧ m'.types.length ≤ k + L.length ∧ m'.funcs.length ≤ k + L.length
  | [], m, m', k, h, hk => by
    rw [readAll] at h
    injection h with h
    subst h
    exact hk
  | s :: r, m, m', k, h, hk => by
    rw [readAll] at h
    cases hl : lineRes s with
    | error e => rw [hl] at h; cases h
    | ok d =>
      rw [hl] at h
      have := readAll_lens r (putLine m d) m' (k + 1) h (put_len hk)
      rw [List.length_cons]
      omega

theorem readMo_good (s : ByteArray) : moFault (readMo s) = 0 ∧ moSmall (readMo s) := by
  have h0 : moFault noMo = 0 := by decide +kernel
  have hn : moSmall noMo := ⟨Nat.zero_le _, Nat.zero_le _, Nat.zero_le _⟩
  unfold readMo
  by_cases hs : 1500 < s.size
  · rw [if_pos hs]; exact ⟨h0, hn⟩
  · rw [if_neg hs]
    have hle := linesOf_le s
    cases hr : readAll (linesOf s) noMo with
    | error e => exact ⟨h0, hn⟩
    | ok m =>
      show moFault (if moFault m = 0 then m else noMo) = 0 ∧ moSmall (if moFault m = 0 then m else noMo)
      by_cases hm : moFault m = 0
      · rw [if_pos hm]
        obtain ⟨h1, h2, h3⟩ := readAll_lens _ _ _ 0 hr ⟨Nat.le_refl _, Nat.le_refl _, Nat.le_refl _⟩
        exact ⟨hm, by unfold reachBytes; omega, by unfold reachBytes; omega, by unfold reachBytes; omega⟩
      · rw [if_neg hm]; exact ⟨h0, hn⟩
theorem readMo_counts (s : ByteArray) : (readMo s).uses.length + (readMo s).types.length + (readMo s).funcs.length ≤ 24 := mo_counts (readMo_good s).1 (readMo_good s).2
end Go.Proofs.YtagbaimfigljiaaGreatDoor
namespace Go.Proofs
open Go.Shelf
def Tryz.growDg_ren : Go.Shelf.Ren := ⟨fun | 4 => 159 | n => n, fun | 22 => 31 | 25 => 53 | 3 => 3 | 4 => 4 | 9 => 9 | 20 => 20 | 0 => 0 | n => n, fun | n => n⟩
theorem Tryz.growDg : Go.Proofs.Lays8.n4 Tryz.prog Tryz.growDg_ren := {
  mixed := by kernel_rfl
  f4 := ⟨Tryz.f159.name, by decide, Tryz.func159.trans (congrArg some (by kernel_rfl))⟩
  t0 := Tryz.underlying0
  a0 := Tryz.isAgg0
  z0 := Tryz.sizeOf0
  v0 := Tryz.zeroValue0
  t3 := Tryz.underlying3
  a3 := Tryz.isAgg3
  z3 := Tryz.sizeOf3
  v3 := Tryz.zeroValue3
  t4 := Tryz.underlying4
  a4 := Tryz.isAgg4
  z4 := Tryz.sizeOf4
  v4 := Tryz.zeroValue4
  t9 := Tryz.underlying9
  a9 := Tryz.isAgg9
  z9 := Tryz.sizeOf9
  v9 := Tryz.zeroValue9
  t20 := Tryz.underlying20
  a20 := Tryz.isAgg20
  z20 := Tryz.sizeOf20
  v20 := Tryz.zeroValue20
  t22 := Tryz.underlying31
  a22 := Tryz.isAgg31
  z22 := Tryz.sizeOf31
  v22 := Tryz.zeroValue31 }
end Go.Proofs
namespace Go.Proofs.YtagbaimfigljiaaGreatDoor
open Go.RowKit
set_option maxRecDepth 100000

theorem dgCells_len : ∀ l : List Dg, (dgCells l).length = l.length * 2
  | [] => rfl
  | t :: r => by
    have e : dgCells (t :: r) = .string t.wh :: .int .i64 t.code :: dgCells r := by simp [dgCells]
    rw [e, List.length_cons, List.length_cons, dgCells_len r, List.length_cons]; omega

/-- append of a list that lies somewhere to one of one's own. -/
theorem run_append_dgs {w : World} {base : Nat} {v vd : Value} {xs d : List Dg} {S : Nat → Prop} (hown : w.ownsRow base 53 2 v xs.length (dgCells xs)) (hd : SlAt S (DgAt w) 2 d vd) (hb : base ≤ w.heap.size) (hl : xs.length + d.length ≤ 1000) (ty : TypeId) :
    ∃ v' w', (Builtin.append_ #[31, 31] ty #[v, vd]).run Tryz.prog w = .ok v' w' ∧ w'.ownsRow base 53 2 v' (xs ++ d).length (dgCells (xs ++ d)) ∧ w.grownBy w' v.ownBlock := by
  obtain ⟨i0, hi, hz0, hz1, hz2⟩ := info_parts infoDg
  obtain ⟨a, cap, rfl, hlen, h⟩ := hd
  have hsame : d.length = 0 → a = none → ∃ v' w', (Builtin.append_ #[31, 31] ty #[v, .slice a d.length cap]).run Tryz.prog w = .ok v' w' ∧ w'.ownsRow base 53 2 v' (xs ++ d).length (dgCells (xs ++ d)) ∧ w.grownBy w' v.ownBlock := fun h0 ha => by
    have hd0 : d = [] := List.length_eq_zero_iff.1 h0
    subst hd0 ha
    refine ⟨v, w, ?_, by simpa using hown, ⟨rfl, rfl, rfl, Nat.le_refl _, fun _ _ _ => rfl⟩⟩
    rcases hown.2 with ⟨rfl, h1⟩ | ⟨g, cap', cur, rfl, _, _, hnc, _⟩
    · simp [Builtin.append_, run_underlying Tryz.underlying31, sizeOf, typeInfo, hi, Builtin.lenOf, Builtin.firstCells]
    · simp [Builtin.append_, run_underlying Tryz.underlying31, sizeOf, typeInfo, hi, Builtin.lenOf, Builtin.firstCells, hnc, storeCells]
  have hat : ∀ ad : Addr, a = some ad → (∀ j u, (dgCells d)[j]? = some u → w.cell? (ad.add j) = some u) → ∃ v' w', (Builtin.append_ #[31, 31] ty #[v, .slice a d.length cap]).run Tryz.prog w = .ok v' w' ∧ w'.ownsRow base 53 2 v' (xs ++ d).length (dgCells (xs ++ d)) ∧ w.grownBy w' v.ownBlock := fun ad ha hc => by
    subst ha
    have e : dgCells (xs ++ d) = dgCells xs ++ dgCells d := by simp [dgCells]
    rw [List.length_append, e]
    obtain ⟨v', w', h1, h2, h3, _⟩ := run_append_own_at (P := Tryz.prog) w base 31 ty 53 i0 (.agg #[.string ⟨#[]⟩, .int .i64 0]) 2 24 Tryz.underlying31 hi hz0 hz1 hz2 rfl (by decide) v xs.length (dgCells xs) hown ad d.length cap (dgCells d) (dgCells_len d) hc (fun u hu => by
      unfold dgCells at hu
      obtain ⟨t, _, ht⟩ := List.mem_flatMap.1 hu
      simp at ht
      rcases ht with rfl | rfl <;> rfl) (by unfold maxLen; omega) (by omega) hb
    exact ⟨v', w', h1, h2, h3⟩
  rcases h with h0 | ⟨b, o, rfl, _, hr⟩
  · cases a with
    | none => exact hsame h0 rfl
    | some ad =>
      refine hat ad rfl fun j u hj => ?_
      have hd0 : d = [] := List.length_eq_zero_iff.1 h0
      subst hd0
      simp [dgCells] at hj
  · refine hat _ rfl fun j u hj => ?_
    have hj' : j < d.length * 2 := by
      rw [← dgCells_len d]
      exact (List.getElem?_eq_some_iff.1 hj).1
    have hi : j / 2 < d.length := by omega
    obtain ⟨⟨c0, _⟩, c1⟩ := hr.get (j / 2) hi
    obtain ⟨e0, e1⟩ := dgCells_at d (j / 2) hi
    have hadd : (⟨b, o, none⟩ : Addr).add j = ⟨b, o + j, none⟩ := by unfold Addr.add; split <;> simp_all
    rw [hadd]
    rcases Nat.mod_two_eq_zero_or_one j with hm | hm
    · have ej : j / 2 * 2 = j := by omega
      rw [ej] at c0 e0
      rw [e0] at hj
      rw [c0]; exact hj
    · have ej : j / 2 * 2 + 1 = j := by omega
      have eo : o + j / 2 * 2 + 1 = o + j := by omega
      rw [ej] at e1
      rw [eo] at c1
      rw [e1] at hj
      rw [c1]; exact hj

/-- a list of lists. -/
def DsAt (S : Nat → Prop) (w : World) (d : List Dg) (b o : Nat) : Prop := ∃ v, w.cell? ⟨b, o, none⟩ = some v ∧ SlAt S (DgAt w) 2 d v
def dsLen : List (List Dg) → Nat
  | [] => 0
  | d :: r => d.length + dsLen r
def dsCat : List (List Dg) → List Dg
  | [] => []
  | d :: r => d ++ dsCat r
theorem dsCat_len : ∀ l, (dsCat l).length = dsLen l
  | [] => rfl
  | d :: r => by rw [dsCat, dsLen, List.length_append, dsCat_len r]
theorem dsLen_take {l : List (List Dg)} : ∀ {k : Nat} (h : k < l.length), dsLen (l.take (k + 1)) = dsLen (l.take k) + l[k].length := by
  induction l with
  | nil => intro k h; simp at h
  | cons d r ih =>
    intro k h
    cases k with
    | zero => simp [dsLen]
    | succ k => simp only [List.take_succ_cons, dsLen, List.getElem_cons_succ]; rw [ih (by simpa using h)]; omega
theorem dsCat_take {l : List (List Dg)} : ∀ {k : Nat} (h : k < l.length), dsCat (l.take (k + 1)) = dsCat (l.take k) ++ l[k] := by
  induction l with
  | nil => intro k h; simp at h
  | cons d r ih =>
    intro k h
    cases k with
    | zero => simp [dsCat]
    | succ k => simp only [List.take_succ_cons, dsCat, List.getElem_cons_succ]; rw [ih (by simpa using h), List.append_assoc]
theorem dsLen_le {l : List (List Dg)} : ∀ (k : Nat), dsLen (l.take k) ≤ dsLen l := by
  induction l with
  | nil => intro k; simp
  | cons d r ih =>
    intro k
    cases k with
    | zero => simp [dsLen]
    | succ k => simp only [List.take_succ_cons, dsLen]; have := ih k; omega

theorem grow_dgs (n : Nat) (hn : n ≤ 1000) (w : World) : Calls Tryz.prog 159 #[.slice none 0 0, .int .i64 n] w fun e w' => ∃ v, e = .returned v ∧ w'.ownsRow w.heap.size 53 2 v 0 [] ∧ Below w.heap.size w w' := by
  obtain ⟨i0, hi, hz0, hz1, hz2⟩ := info_parts infoDg
  by_cases h0 : n = 0
  · subst h0
    refine (Any8.slices_Grow_room Tryz.growDg none 0 0 0 w (by omega) (by omega) (by omega) (by omega)).mono ?_
    rintro e w' ⟨rfl, rfl⟩
    exact ⟨_, rfl, World.ownsRow_nil _ _ _ _, Below.refl _ _⟩
  · refine (Any8.slices_Grow_grow Tryz.growDg i0 _ hi hz0 (by omega) none 0 0 n [] w (by omega) (by omega) (by rw [hz2]; omega) (by omega) (by simp) (fun _ => rfl) (fun a h => by cases h)).mono ?_
    rintro e w' ⟨rfl, rfl⟩
    have hge := grownCap_ge w (0 + n) 0 (Tryz.growDg_ren.t 25)
    have hcm := grownCap_le_maxLen w (0 + n) 0 (Tryz.growDg_ren.t 25) (by unfold maxLen; omega)
    refine ⟨_, rfl, ⟨rfl, Or.inr ⟨w.heap.size, _, _, rfl, Nat.le_refl _, heap_alloc_new w.drew _, by omega, hcm, ?_, by simp⟩⟩, ((Below.refl _ _).drew).alloc (Nat.le_refl _) _⟩
    have hzs : (Value.agg #[.string ⟨#[]⟩, .int .i64 0]).cells.size = 2 := rfl
    simp only [Array.size_append, List.size_toArray, size_zeroCells, hzs, List.length_nil]
    omega

set_option maxRecDepth 100000 in
set_option maxHeartbeats 4000000 in
theorem concat_any (S : Nat → Prop) (ds : List (List Dg)) (v : Value) (w : World) (hS : ∀ b, S b → b < w.heap.size) (hv : SlAt S (DsAt S w) 1 ds v) (hn : dsLen ds ≤ 1000) (hsz : ∀ t ∈ dsCat ds, t.wh.size ≤ maxLen) :
    Calls Tryz.prog 85 #[v] w fun e w' => ∃ u, e = .returned u ∧ SlAt (fun b => w.heap.size ≤ b ∧ b < w'.heap.size) (DgAt w') 2 (dsCat ds) u ∧ Below w.heap.size w w' := by
  have HV := veil hv
  have hlen := hv.len
  unfold maxLen at hlen
  have HSz := veil hsz
  obtain ⟨a, cap, rfl⟩ := hv.is
  clear hv hsz
  go_enter Tryz.func85, Tryz.ntmps85
  go_wp2_with fail
  go_loopw [3, 11] (fun s i wr => ∃ k : Nat, k ≤ ds.length ∧ i = .int .i64 k ∧ s = .int .i64 (dsLen (ds.take k) : Nat) ∧ Below w.heap.size w wr) (fun _ i _ => ds.length - (intOf i).toNat)
  case atStart => exact ⟨0, Nat.zero_le _, rfl, rfl, Below.refl _ _⟩
  case round =>
    obtain ⟨k, hk, rfl, rfl, hbl⟩ := hrel
    have HBl := veil hbl
    have hle := dsLen_le (l := ds) k
    by_cases hlt : k < ds.length
    · have hlt' : (k : Int) < (ds.length : Int) := by omega
      have hk0 : (0 : Int) ≤ (k : Int) := by omega
      obtain ⟨_, b, off, rfl, hb, ⟨vd, c0, hd⟩⟩ := HV.out.at hlt
      rw [Nat.mul_one] at c0
      have d0 := (hbl.cell (p := ⟨b, off + k, none⟩) (hS b hb)).trans c0
      have hle1 := dsLen_le (l := ds) (k + 1)
      have hT := dsLen_take hlt
      obtain ⟨a2, cap2, rfl⟩ := hd.is
      generalize dsLen (ds.take k) = s0 at *
      obtain ⟨s1, hs1⟩ : ∃ s1, s1 = dsLen (ds.take (k + 1)) := ⟨_, rfl⟩
      have HS1 := veil hs1
      rw [← hs1] at hT hle1
      clear hs1
      generalize ds[k].length = m0 at *
      have hw1 : wrap64 ((s0 : Int) + (m0 : Int)) = ((s1 : Nat) : Int) := by unfold wrap64; omega
      have hpos : ¬ ((s1 : Nat) : Int) < 0 := by omega
      clear c0 hbl hT hd
      go_wp2_with fail
      exact ⟨⟨k + 1, by omega, by go_num, by rw [hw1, HS1.out], HBl.out⟩, by simp [intOf]; omega⟩
    · have hnl : ¬ (k : Int) < (ds.length : Int) := by omega
      have hke : k = ds.length := by omega
      subst hke
      rw [List.take_length] at hle
      have HG := veil (fun W => grow_dgs (dsLen ds) hn W)
      rw [List.take_length]
      go_wp2_with fail
      refine (HG.out _).mono ?_
      rintro e w2 ⟨nv, rfl, hown, hb2⟩
      have hwr := hbl.size
      have HB2 := veil (HBl.out.trans (hb2.mono hbl.size))
      have HOwn : Hid (w2.ownsRow w.heap.size 53 2 nv 0 []) := ⟨hown.1, hown.2.imp_right fun ⟨g, cap, cur, h1, h2, h3⟩ => ⟨g, cap, cur, h1, Nat.le_trans hwr h2, h3⟩⟩
      clear hown hb2 hbl HG HBl
      go_wp2_with fail
      go_loopw [6, 27] (fun v i wz => ∃ j : Nat, j ≤ ds.length ∧ i = .int .i64 j ∧ wz.ownsRow w.heap.size 53 2 v (dsCat (ds.take j)).length (dgCells (dsCat (ds.take j))) ∧ Below w.heap.size w wz) (fun _ i _ => ds.length - (intOf i).toNat)
      case atStart => exact ⟨0, Nat.zero_le _, rfl, HOwn.out, HB2.out⟩
      case round =>
        clear HOwn HB2
        obtain ⟨j, hj, rfl, hown, hbz⟩ := hrel
        have HBz := veil hbz
        have HOwn := veil hown
        have hlj := dsLen_le (l := ds) j
        rw [← dsCat_len] at hlj
        by_cases hjt : j < ds.length
        · have hjt' : (j : Int) < (ds.length : Int) := by omega
          have hj0 : (0 : Int) ≤ (j : Int) := by omega
          obtain ⟨_, b, off, rfl, hb, ⟨vd, c0, hd⟩⟩ := HV.out.at hjt
          rw [Nat.mul_one] at c0
          have d0 := (hbz.cell (p := ⟨b, off + j, none⟩) (hS b hb)).trans c0
          have hl1 := dsLen_le (l := ds) (j + 1)
          rw [dsLen_take hjt, ← dsCat_len] at hl1
          obtain ⟨a2, cap2, rfl⟩ := hd.is
          obtain ⟨v', w', hrun, hown', hgr⟩ := run_append_dgs hown (dgSl_keep (Keeps.below hbz hS) hd) hbz.size (by omega) 31
          have HRun := veil hrun
          have HO' : Hid (w'.ownsRow w.heap.size 53 2 v' (dsCat (ds.take (j + 1))).length (dgCells (dsCat (ds.take (j + 1))))) := by
            show w'.ownsRow _ _ _ _ _ _
            rw [dsCat_take hjt]; exact hown'
          have HB' : Hid (Below w.heap.size w w') := Below.grown hbz hgr hbz.size (fun q hq => ownsRow_at hown q hq)
          clear hown hown' hgr hrun c0 hbz hd HOwn HBz
          go_wp2_with (at_builtin; refine Lib.wpList_append_run _ rfl _ _ _ _ rfl _ _ rfl rfl _ _ HRun.out ?_)
          exact ⟨⟨j + 1, by omega, by go_num, HO'.out, HB'.out⟩, by simp [intOf]; omega⟩
        · have hjn : ¬ (j : Int) < (ds.length : Int) := by omega
          have hje : j = ds.length := by omega
          subst hje
          rw [List.take_length] at hown hlj
          have HR := veil (ownsRow_dgs hown (by unfold maxLen; omega) HSz.out)
          clear hown HOwn hbz
          go_wp2_with fail
          go_ret
          exact ⟨_, rfl, HR.out, HBz.out⟩

end Go.Proofs.YtagbaimfigljiaaGreatDoor
namespace Go.Proofs.YtagbaimfigljiaaGreatDoor
open Go.RowKit
set_option maxRecDepth 100000

theorem takenIs_any (B : Nat) (x s : ByteArray) (k : Int) (f n : ByteArray) (a : Option Addr) (m cap : Nat) (w : World) (hp : w.cell? ⟨B, 0, none⟩ = some (.string s)) :
    Calls Tryz.prog 322 #[.agg #[.string x, .int .i64 k, .string f, .string n, .slice a m cap], .pointer (some ⟨B, 0, none⟩)] w fun e w' => e = .returned (.bool (sEq x s)) ∧ Below w.heap.size w w' := by
  have hlt : B < w.heap.size := World.block_lt_of_cell? _ _ hp
  have HE : Hid (sEq x s = (x.toList == s.toList)) := rfl
  go_enter Tryz.func322, Tryz.ntmps322
  go_wp2
  go_ret
  exact ⟨by rw [HE.out]; rfl, (Below.refl _ _).alloc (Nat.le_refl _) _⟩

theorem declaredIs_any (B : Nat) (x s : ByteArray) (y : ByteArray) (vp : Value) (k : Int) (f n : ByteArray) (va : Value) (k2 n2 : Int) (f2 s2 : ByteArray) (ve : Value) (w : World) (hp : w.cell? ⟨B, 0, none⟩ = some (.string s)) :
    Calls Tryz.prog 220 #[.agg #[.string x, .string y, vp, .int .i64 k, .string f, .string n, va, .int .i64 k2, .int .i64 n2, .string f2, .string s2, ve], .pointer (some ⟨B, 0, none⟩)] w fun e w' => e = .returned (.bool (sEq x s)) ∧ Below w.heap.size w w' := by
  have hlt : B < w.heap.size := World.block_lt_of_cell? _ _ hp
  have HE : Hid (sEq x s = (x.toList == s.toList)) := rfl
  go_enter Tryz.func220, Tryz.ntmps220
  go_wp2
  go_ret
  exact ⟨by rw [HE.out]; rfl, (Below.refl _ _).alloc (Nat.le_refl _) _⟩

theorem fu_cells {S : Nat → Prop} {w : World} {x : Fu} {b o : Nat} (h : FuAt S w x b o) : ∃ vp1 vp2 vp3 k f n a m cap k2 n2 f2 s2 ve1 ve2 ve3, w.cell? ⟨b, o, none⟩ = some (.string x.name) ∧ w.cell? ⟨b, o + 1, none⟩ = some (.string x.var) ∧ w.cell? ⟨b, o + 2, none⟩ = some (.slice vp1 vp2 vp3) ∧ w.cell? ⟨b, o + 3, none⟩ = some (.int .i64 k) ∧ w.cell? ⟨b, o + 4, none⟩ = some (.string f) ∧ w.cell? ⟨b, o + 5, none⟩ = some (.string n) ∧ w.cell? ⟨b, o + 6, none⟩ = some (.slice a m cap) ∧
    w.cell? ⟨b, o + 7, none⟩ = some (.int .i64 k2) ∧ w.cell? ⟨b, o + 8, none⟩ = some (.int .i64 n2) ∧ w.cell? ⟨b, o + 9, none⟩ = some (.string f2) ∧ w.cell? ⟨b, o + 10, none⟩ = some (.string s2) ∧ w.cell? ⟨b, o + 11, none⟩ = some (.slice ve1 ve2 ve3) ∧
    (x.name.size ≤ maxLen ∧ x.var.size ≤ maxLen ∧ SlAt S (FdAt S w) 5 x.params (.slice vp1 vp2 vp3) ∧ TyCs S w x.result k f n (.slice a m cap) ∧ ExCs S w x.body k2 n2 f2 s2 (.slice ve1 ve2 ve3)) := by
  obtain ⟨⟨c0, hsz⟩, ⟨c1, hsz1⟩, ⟨vp, c2, hps⟩, hty, hex⟩ := h
  obtain ⟨kd, fo, na, va, c3, c4, c5, c6, hcs⟩ := tyAt_cells.1 hty
  obtain ⟨ke, ne, fe, se, ve, c7, c8, c9, c10, c11, hce⟩ := exAt_cells.1 hex
  obtain ⟨va1, va2, va3, rfl⟩ := hcs.slice
  obtain ⟨vp1, vp2, vp3, rfl⟩ := hps.slice
  obtain ⟨ve1, ve2, ve3, rfl⟩ := hce.slice
  rw [Nat.add_assoc] at c4 c5 c6 c8 c9 c10 c11
  exact ⟨_, _, _, _, _, _, _, _, _, _, _, _, _, _, _, _, c0, c1, c2, c3, c4, c5, c6, c7, c8, c9, c10, c11, hsz, hsz1, hps, hcs, hce⟩

set_option maxHeartbeats 4000000 in
theorem index_taken (S : Nat → Prop) (l : List Fd) (s : ByteArray) (B : Nat) (v : Value) (w : World) (hS : ∀ b, S b → b < w.heap.size) (hv : SlAt S (FdAt S w) 5 l v) (hp : w.cell? ⟨B, 0, none⟩ = some (.string s)) :
    Calls Tryz.prog 278 #[v, .func (.func 322) #[] #[.pointer (some ⟨B, 0, none⟩)]] w fun e w' => e = .returned (.int .i64 (idxOf (fun k : Fd => sEq k.name s) l)) ∧ Below w.heap.size w w' := by
  have HV := veil hv
  have hlen := hv.len
  unfold maxLen at hlen
  obtain ⟨a, cap, rfl⟩ := hv.is
  have HP := veil hp
  have HBl := veil (World.block_lt_of_cell? _ _ hp)
  clear hv hp
  go_enter Tryz.func278, Tryz.ntmps278
  go_wp2_with fail
  go_loopw [8] (fun i wr => ∃ j : Nat, j ≤ l.length ∧ i = .int .i64 j ∧ findAt (fun k : Fd => sEq k.name s) l = j + findAt (fun k : Fd => sEq k.name s) (l.drop j) ∧ Below w.heap.size w wr) (fun i _ => l.length - (intOf i).toNat)
  case atStart => exact ⟨0, Nat.zero_le _, rfl, (Nat.zero_add _).symm, Below.refl _ _⟩
  case round =>
    obtain ⟨j, hj, rfl, hq, hbl⟩ := hrel
    have HQ := veil hq
    have HBW := veil hbl
    clear hq
    by_cases hlt : j < l.length
    · have hlt' : (j : Int) < (l.length : Int) := by omega
      obtain ⟨_, b, off, rfl, hb, hat⟩ := HV.out.at hlt
      have hbk := hS b hb
      obtain ⟨kd, fo, na, p1, p2, p3, a0, a1, a2, a3, a4, _⟩ := fd_cells hat
      have d0 := (hbl.cell (p := ⟨b, off + j * 5, none⟩) hbk).trans a0
      have d1 := (hbl.cell (p := ⟨b, off + j * 5 + 1, none⟩) hbk).trans a1
      have d2 := (hbl.cell (p := ⟨b, off + j * 5 + 2, none⟩) hbk).trans a2
      have d3 := (hbl.cell (p := ⟨b, off + j * 5 + 3, none⟩) hbk).trans a3
      have d4 := (hbl.cell (p := ⟨b, off + j * 5 + 4, none⟩) hbk).trans a4
      have HC : Hid (Calls Tryz.prog 322 #[.agg #[.string l[j].name, .int .i64 kd, .string fo, .string na, .slice p1 p2 p3], .pointer (some ⟨B, 0, none⟩)] wr fun e w' => e = .returned (.bool (sEq l[j].name s)) ∧ Below wr.heap.size wr w') := takenIs_any B _ s _ _ _ _ _ _ wr ((hbl.cell HBl.out).trans HP.out)
      have HYes : Hid (sEq l[j].name s = true → findAt (fun k : Fd => sEq k.name s) l = j) := fun h => by
        rw [HQ.out, find_yes hlt h]; rfl
      have HNo : Hid (sEq l[j].name s = false → findAt (fun k : Fd => sEq k.name s) l = (j + 1) + findAt (fun k : Fd => sEq k.name s) (l.drop (j + 1))) := fun h => by
        rw [HQ.out, find_no hlt h]; omega
      clear a0 a1 a2 a3 a4 hat HV hbl HQ
      skip
      generalize l[j].name = x at *
      cases hx : sEq x s with
      | true =>
        rw [hx] at HC
        have HI : Hid (idxOf (fun k : Fd => sEq k.name s) l = (j : Int)) := by
          show _ = _
          unfold idxOf
          rw [HYes.out hx, if_pos hlt]
        clear HYes HNo hx
        go_wp2_with fail
        refine HC.out.mono ?_
        rintro e w1 ⟨rfl, hb1⟩
        have HB1 := veil (HBW.out.trans (hb1.mono HBW.out.size))
        clear hb1
        go_wp2_with fail
        go_ret
        exact ⟨by rw [HI.out]; rfl, HB1.out⟩
      | false =>
        rw [hx] at HC
        have HN := veil (HNo.out hx)
        clear HYes HNo hx
        go_wp2_with fail
        refine HC.out.mono ?_
        rintro e w1 ⟨rfl, hb1⟩
        have HB1 := veil (HBW.out.trans (hb1.mono HBW.out.size))
        clear hb1
        go_wp2_with fail
        exact ⟨⟨j + 1, by omega, by go_num, HN.out, HB1.out⟩, by simp [intOf]; omega⟩
    · have hnl : ¬ (j : Int) < (l.length : Int) := by omega
      have HI : Hid (idxOf (fun k : Fd => sEq k.name s) l = -1) := by
        show _ = _
        unfold idxOf
        rw [HQ.out, find_end (by omega), if_neg (by omega)]
      clear HV hbl HQ
      go_wp2_with fail
      go_ret
      exact ⟨by rw [HI.out]; rfl, HBW.out⟩

set_option maxHeartbeats 4000000 in
theorem index_declared (S : Nat → Prop) (l : List Fu) (s : ByteArray) (B : Nat) (v : Value) (w : World) (hS : ∀ b, S b → b < w.heap.size) (hv : SlAt S (FuAt S w) 12 l v) (hp : w.cell? ⟨B, 0, none⟩ = some (.string s)) :
    Calls Tryz.prog 288 #[v, .func (.func 220) #[] #[.pointer (some ⟨B, 0, none⟩)]] w fun e w' => e = .returned (.int .i64 (idxOf (fun k : Fu => sEq k.name s) l)) ∧ Below w.heap.size w w' := by
  have HV := veil hv
  have hlen := hv.len
  unfold maxLen at hlen
  obtain ⟨a, cap, rfl⟩ := hv.is
  have HP := veil hp
  have HBl := veil (World.block_lt_of_cell? _ _ hp)
  clear hv hp
  go_enter Tryz.func288, Tryz.ntmps288
  go_wp2_with fail
  go_loopw [8] (fun i wr => ∃ j : Nat, j ≤ l.length ∧ i = .int .i64 j ∧ findAt (fun k : Fu => sEq k.name s) l = j + findAt (fun k : Fu => sEq k.name s) (l.drop j) ∧ Below w.heap.size w wr) (fun i _ => l.length - (intOf i).toNat)
  case atStart => exact ⟨0, Nat.zero_le _, rfl, (Nat.zero_add _).symm, Below.refl _ _⟩
  case round =>
    obtain ⟨j, hj, rfl, hq, hbl⟩ := hrel
    have HQ := veil hq
    have HBW := veil hbl
    clear hq
    by_cases hlt : j < l.length
    · have hlt' : (j : Int) < (l.length : Int) := by omega
      obtain ⟨_, b, off, rfl, hb, hat⟩ := HV.out.at hlt
      have hbk := hS b hb
      obtain ⟨vp1, vp2, vp3, kd, fo, na, p1, p2, p3, ke, ne, fe, se, ve1, ve2, ve3, a0, a1, a2, a3, a4, a5, a6, a7, a8, a9, a10, a11, _⟩ := fu_cells hat
      have d0 := (hbl.cell (p := ⟨b, off + j * 12, none⟩) hbk).trans a0
      have d1 := (hbl.cell (p := ⟨b, off + j * 12 + 1, none⟩) hbk).trans a1
      have d2 := (hbl.cell (p := ⟨b, off + j * 12 + 2, none⟩) hbk).trans a2
      have d3 := (hbl.cell (p := ⟨b, off + j * 12 + 3, none⟩) hbk).trans a3
      have d4 := (hbl.cell (p := ⟨b, off + j * 12 + 4, none⟩) hbk).trans a4
      have d5 := (hbl.cell (p := ⟨b, off + j * 12 + 5, none⟩) hbk).trans a5
      have d6 := (hbl.cell (p := ⟨b, off + j * 12 + 6, none⟩) hbk).trans a6
      have d7 := (hbl.cell (p := ⟨b, off + j * 12 + 7, none⟩) hbk).trans a7
      have d8 := (hbl.cell (p := ⟨b, off + j * 12 + 8, none⟩) hbk).trans a8
      have d9 := (hbl.cell (p := ⟨b, off + j * 12 + 9, none⟩) hbk).trans a9
      have d10 := (hbl.cell (p := ⟨b, off + j * 12 + 10, none⟩) hbk).trans a10
      have d11 := (hbl.cell (p := ⟨b, off + j * 12 + 11, none⟩) hbk).trans a11
      have HC : Hid (Calls Tryz.prog 220 #[.agg #[.string l[j].name, .string l[j].var, .slice vp1 vp2 vp3, .int .i64 kd, .string fo, .string na, .slice p1 p2 p3, .int .i64 ke, .int .i64 ne, .string fe, .string se, .slice ve1 ve2 ve3], .pointer (some ⟨B, 0, none⟩)] wr fun e w' => e = .returned (.bool (sEq l[j].name s)) ∧ Below wr.heap.size wr w') := declaredIs_any B _ s _ _ _ _ _ _ _ _ _ _ _ wr ((hbl.cell HBl.out).trans HP.out)
      have HYes : Hid (sEq l[j].name s = true → findAt (fun k : Fu => sEq k.name s) l = j) := fun h => by
        rw [HQ.out, find_yes hlt h]; rfl
      have HNo : Hid (sEq l[j].name s = false → findAt (fun k : Fu => sEq k.name s) l = (j + 1) + findAt (fun k : Fu => sEq k.name s) (l.drop (j + 1))) := fun h => by
        rw [HQ.out, find_no hlt h]; omega
      clear a0 a1 a2 a3 a4 a5 a6 a7 a8 a9 a10 a11 hat HV hbl HQ
      generalize l[j].var = xv at *
      generalize l[j].name = x at *
      cases hx : sEq x s with
      | true =>
        rw [hx] at HC
        have HI : Hid (idxOf (fun k : Fu => sEq k.name s) l = (j : Int)) := by
          show _ = _
          unfold idxOf
          rw [HYes.out hx, if_pos hlt]
        clear HYes HNo hx
        go_wp2_with fail
        refine HC.out.mono ?_
        rintro e w1 ⟨rfl, hb1⟩
        have HB1 := veil (HBW.out.trans (hb1.mono HBW.out.size))
        clear hb1
        go_wp2_with fail
        go_ret
        exact ⟨by rw [HI.out]; rfl, HB1.out⟩
      | false =>
        rw [hx] at HC
        have HN := veil (HNo.out hx)
        clear HYes HNo hx
        go_wp2_with fail
        refine HC.out.mono ?_
        rintro e w1 ⟨rfl, hb1⟩
        have HB1 := veil (HBW.out.trans (hb1.mono HBW.out.size))
        clear hb1
        go_wp2_with fail
        exact ⟨⟨j + 1, by omega, by go_num, HN.out, HB1.out⟩, by simp [intOf]; omega⟩
    · have hnl : ¬ (j : Int) < (l.length : Int) := by omega
      have HI : Hid (idxOf (fun k : Fu => sEq k.name s) l = -1) := by
        show _ = _
        unfold idxOf
        rw [HQ.out, find_end (by omega), if_neg (by omega)]
      clear HV hbl HQ
      go_wp2_with fail
      go_ret
      exact ⟨by rw [HI.out]; rfl, HBW.out⟩

def hasFd (l : List Fd) (s : ByteArray) : Bool := decide (findAt (fun k : Fd => sEq k.name s) l < l.length)
theorem taken_anyF (S : Nat → Prop) (l : List Fd) (s : ByteArray) (B : Nat) (v : Value) (w : World) (hS : ∀ b, S b → b < w.heap.size) (hv : SlAt S (FdAt S w) 5 l v) (hp : w.cell? ⟨B, 0, none⟩ = some (.string s)) :
    Calls Tryz.prog 321 #[v, .func (.func 322) #[] #[.pointer (some ⟨B, 0, none⟩)]] w fun e w' => e = .returned (.bool (hasFd l s)) ∧ Below w.heap.size w w' := by
  have HC : Hid (Calls Tryz.prog 278 #[v, .func (.func 322) #[] #[.pointer (some ⟨B, 0, none⟩)]] w fun e w' => e = .returned (.int .i64 (idxOf (fun k : Fd => sEq k.name s) l)) ∧ Below w.heap.size w w') := index_taken S l s B v w hS hv hp
  have hE : decide (0 ≤ idxOf (fun k : Fd => sEq k.name s) l) = hasFd l s := by
    unfold idxOf hasFd
    by_cases h : findAt (fun k : Fd => sEq k.name s) l < l.length
    · rw [if_pos h]; simp [h]
    · rw [if_neg h]; simp [h]
  have HE := veil hE
  obtain ⟨a, cap, rfl⟩ := hv.is
  clear hv hE
  generalize idxOf (fun k : Fd => sEq k.name s) l = r at *
  go_enter Tryz.func321, Tryz.ntmps321
  go_wp2_with fail
  refine HC.out.mono ?_
  rintro e w1 ⟨rfl, hb1⟩
  have HB1 := veil hb1
  clear hb1
  go_wp2_with fail
  go_ret
  exact ⟨by rw [← HE.out]; rfl, HB1.out⟩

theorem taken_any (S : Nat → Prop) (l : List Fd) (s : ByteArray) (v : Value) (w : World) (hS : ∀ b, S b → b < w.heap.size) (hv : SlAt S (FdAt S w) 5 l v) :
    Calls Tryz.prog 289 #[v, .string s] w fun e w' => e = .returned (.bool (hasFd l s)) ∧ Below w.heap.size w w' := by
  obtain ⟨w2, hwe, hs2, p1, hbel⟩ : ∃ w2, w.alloc (.cells #[.string s] 9) = w2 ∧ w2.heap.size = w.heap.size + 1 ∧ w2.cell? ⟨w.heap.size, 0, none⟩ = some (.string s) ∧ Below w.heap.size w w2 :=
    ⟨_, rfl, by simp, by simp [go_sem], (Below.refl _ _).alloc (Nat.le_refl _) _⟩
  have HC : Hid (Calls Tryz.prog 321 #[v, .func (.func 322) #[] #[.pointer (some ⟨w.heap.size, 0, none⟩)]] w2 fun e w' => e = .returned (.bool (hasFd l s)) ∧ Below w2.heap.size w2 w') :=
    taken_anyF S _ _ _ _ w2 (fun b hb => Nat.lt_of_lt_of_le (hS b hb) hbel.size) (fdSl_keep (Keeps.below hbel hS) hv) p1
  obtain ⟨a, n, cap, rfl⟩ := hv.slice
  have HWe := veil hwe
  have HBel := veil hbel
  clear hv hwe hbel p1
  go_enter Tryz.func289, Tryz.ntmps289
  go_wp2_with fail
  rw [HWe.out]
  refine HC.out.mono ?_
  rintro e w3 ⟨rfl, hb3⟩
  have HB := veil (HBel.out.trans (hb3.mono HBel.out.size))
  clear hb3
  go_wp2_with fail
  go_ret
  exact ⟨rfl, HB.out⟩

def hasFu (l : List Fu) (s : ByteArray) : Bool := decide (findAt (fun k : Fu => sEq k.name s) l < l.length)
theorem declared_anyF (S : Nat → Prop) (l : List Fu) (s : ByteArray) (B : Nat) (v : Value) (w : World) (hS : ∀ b, S b → b < w.heap.size) (hv : SlAt S (FuAt S w) 12 l v) (hp : w.cell? ⟨B, 0, none⟩ = some (.string s)) :
    Calls Tryz.prog 219 #[v, .func (.func 220) #[] #[.pointer (some ⟨B, 0, none⟩)]] w fun e w' => e = .returned (.bool (hasFu l s)) ∧ Below w.heap.size w w' := by
  have HC : Hid (Calls Tryz.prog 288 #[v, .func (.func 220) #[] #[.pointer (some ⟨B, 0, none⟩)]] w fun e w' => e = .returned (.int .i64 (idxOf (fun k : Fu => sEq k.name s) l)) ∧ Below w.heap.size w w') := index_declared S l s B v w hS hv hp
  have hE : decide (0 ≤ idxOf (fun k : Fu => sEq k.name s) l) = hasFu l s := by
    unfold idxOf hasFu
    by_cases h : findAt (fun k : Fu => sEq k.name s) l < l.length
    · rw [if_pos h]; simp [h]
    · rw [if_neg h]; simp [h]
  have HE := veil hE
  obtain ⟨a, cap, rfl⟩ := hv.is
  clear hv hE
  generalize idxOf (fun k : Fu => sEq k.name s) l = r at *
  go_enter Tryz.func219, Tryz.ntmps219
  go_wp2_with fail
  refine HC.out.mono ?_
  rintro e w1 ⟨rfl, hb1⟩
  have HB1 := veil hb1
  clear hb1
  go_wp2_with fail
  go_ret
  exact ⟨by rw [← HE.out]; rfl, HB1.out⟩

theorem declared_any (S : Nat → Prop) (l : List Fu) (s : ByteArray) (v : Value) (w : World) (hS : ∀ b, S b → b < w.heap.size) (hv : SlAt S (FuAt S w) 12 l v) :
    Calls Tryz.prog 153 #[v, .string s] w fun e w' => e = .returned (.bool (hasFu l s)) ∧ Below w.heap.size w w' := by
  obtain ⟨w2, hwe, hs2, p1, hbel⟩ : ∃ w2, w.alloc (.cells #[.string s] 9) = w2 ∧ w2.heap.size = w.heap.size + 1 ∧ w2.cell? ⟨w.heap.size, 0, none⟩ = some (.string s) ∧ Below w.heap.size w w2 :=
    ⟨_, rfl, by simp, by simp [go_sem], (Below.refl _ _).alloc (Nat.le_refl _) _⟩
  have HC : Hid (Calls Tryz.prog 219 #[v, .func (.func 220) #[] #[.pointer (some ⟨w.heap.size, 0, none⟩)]] w2 fun e w' => e = .returned (.bool (hasFu l s)) ∧ Below w2.heap.size w2 w') :=
    declared_anyF S _ _ _ _ w2 (fun b hb => Nat.lt_of_lt_of_le (hS b hb) hbel.size) (fuSl_keep (Keeps.below hbel hS) hv) p1
  obtain ⟨a, n, cap, rfl⟩ := hv.slice
  have HWe := veil hwe
  have HBel := veil hbel
  clear hv hwe hbel p1
  go_enter Tryz.func153, Tryz.ntmps153
  go_wp2_with fail
  rw [HWe.out]
  refine HC.out.mono ?_
  rintro e w3 ⟨rfl, hb3⟩
  have HB := veil (HBel.out.trans (hb3.mono HBel.out.size))
  clear hb3
  go_wp2_with fail
  go_ret
  exact ⟨rfl, HB.out⟩

end Go.Proofs.YtagbaimfigljiaaGreatDoor
