import Derived.Test.YtagbaimfigljiaaGreatDoorJModuleUses15
import Derived.Test.YtagbaimfigljiaaGreatDoorJModuleUses17
import Derived.Test.YtagbaimfigljiaaGreatDoorProg
import Derived.Test.YtagbaimfigljiaaGreatDoorJModuleUses14
import Derived.Test.YtagbaimfigljiaaGreatDoorJModuleUses4
import Derived.Test.YtagbaimfigljiaaGreatDoorJModuleUses1
import Derived.Lib.SlicesCompact
import Derived.Shelf.Strings.Builder1
import Derived.Shelf.Strings.Builder2
import Derived.Shelf.Small.Bits
import Derived.Shelf.Small.Strs
import Derived.Shelf.Strconv.Atoi
import Derived.Shelf.Strconv.Itoa0
import Derived.Shelf.Strconv.Itoa1
import Derived.Shelf.LaysM
import Derived.Shelf.Strconv.Clone
import Derived.Shelf.Strings.Search1
import Derived.Shelf.Strings.Search2
import Derived.Shelf.Strings.Search3
import Derived.Shelf.Strings.Count
import Derived.Shelf.Strings.Shaped
import Derived.Shelf.Sort.Plain
import Derived.Shelf.Strings.Split
import Derived.Shelf.Strings.Replace
import Derived.Shelf.Bits.Mul64
import Derived.Shelf.Unicode.DecodeSlow
import Derived.Shelf.Slices.CompactS
import Derived.Shelf.Slices.Cells
import Derived.Shelf.Slices.In.SortNone
namespace Go.Proofs.YtagbaimfigljiaaGreatDoor
open Go.RowKit
set_option maxRecDepth 100000

theorem less_lt : ∀ (x y : List UInt8), Op.bytesLess x y = decide (x < y)
  | [], [] => by simp [Op.bytesLess]
  | _ :: _, [] => by simp [Op.bytesLess]
  | [], _ :: _ => by simp [Op.bytesLess]
  | a :: x, b :: y => by
    rw [Op.bytesLess, less_lt x y]
    simp only [List.cons_lt_cons_iff]
    by_cases h1 : a < b <;> by_cases h2 : a = b <;> by_cases h3 : x < y <;> simp [h1, h2, h3]

theorem le_less (x y : List UInt8) : decide (x ≤ y) = !Op.bytesLess y x := by
  rw [less_lt]
  by_cases h : y < x
  · have : ¬ x ≤ y := fun h' => List.not_lt.2 h' h
    simp [h, this]
  · have : x ≤ y := List.not_lt.1 h
    simp [h, this]

def sortB (u : List (List UInt8)) : List (List UInt8) := u.mergeSort fun x y => decide (x ≤ y)

theorem sortB_perm (u : List (List UInt8)) : (sortB u).Perm u := List.mergeSort_perm _ _
theorem sortB_len (u : List (List UInt8)) : (sortB u).length = u.length := (sortB_perm u).length_eq
theorem sortB_rises (u : List (List UInt8)) : (sortB u).Pairwise fun a b => Op.bytesLess b a = false := by
  have h := List.pairwise_mergeSort (le := fun x y : List UInt8 => decide (x ≤ y)) (fun a b c h1 h2 => by
    rw [le_less, Bool.not_eq_true'] at *
    exact less_trans h2 h1) (fun a b => by
    rw [le_less, le_less]
    cases hb : Op.bytesLess b a with
    | false => rfl
    | true => rw [less_asymm hb]; rfl) u
  refine h.imp fun {a b} hab => ?_
  rw [le_less, Bool.not_eq_true'] at hab
  exact hab

theorem cup_inv {d : Array (List UInt8)} (hs : ∀ i j, i ≤ j → j < d.size → Op.bytesLess d[j]! d[i]! = false) : ∀ m, m ≤ d.size →
    (Lib.compactUpTo d m).Pairwise (fun a b => Op.bytesLess a b = true) ∧ (∀ x ∈ Lib.compactUpTo d m, Op.bytesLess d[m - 1]! x = false) ∧ ∀ x, x ∈ Lib.compactUpTo d m ↔ ∃ j, j < m ∧ d[j]! = x
  | 0, _ => by simp [Lib.compactUpTo]
  | m + 1, hm => by
    obtain ⟨h1, h2, h3⟩ := cup_inv hs m (by omega)
    rw [Lib.compactUpTo_succ]
    by_cases hk : Lib.keeps d m = true
    · rw [if_pos hk]
      have hk' : m = 0 ∨ d[m]! ≠ d[m - 1]! := by simpa [Lib.keeps] using hk
      refine ⟨List.pairwise_append.2 ⟨h1, List.pairwise_singleton _ _, fun x hx y hy => ?_⟩, fun x hx => ?_, fun x => ?_⟩
      · rw [List.mem_singleton.1 hy]
        have hx3 := (h3 x).1 hx
        have hx2 := h2 x hx
        rcases hk' with rfl | hne
        · obtain ⟨j, hj, _⟩ := hx3; omega
        · have hle := hs (m - 1) m (by omega) (by omega)
          cases hl : Op.bytesLess x d[m]! with
          | true => rfl
          | false => exact absurd (less_eq hle (less_trans hx2 hl)) hne
      · rw [Nat.add_sub_cancel]
        rcases List.mem_append.1 hx with h | h
        · obtain ⟨j, hj, rfl⟩ := (h3 x).1 h
          exact hs j m (by omega) (by omega)
        · rw [List.mem_singleton.1 h]; exact less_irrefl _
      · rw [List.mem_append, h3, List.mem_singleton]
        constructor
        · rintro (⟨j, hj, rfl⟩ | rfl)
          · exact ⟨j, by omega, rfl⟩
          · exact ⟨m, by omega, rfl⟩
        · rintro ⟨j, hj, rfl⟩
          rcases Nat.lt_or_ge j m with h | h
          · exact Or.inl ⟨j, h, rfl⟩
          · have : j = m := by omega
            subst this
            exact Or.inr rfl
    · rw [if_neg hk, List.append_nil]
      have hk' : ¬ (m = 0 ∨ d[m]! ≠ d[m - 1]!) := by simpa [Lib.keeps] using hk
      have hm0 : m ≠ 0 := fun e => hk' (Or.inl e)
      have he : d[m]! = d[m - 1]! := Decidable.byContradiction fun e => hk' (Or.inr e)
      refine ⟨h1, fun x hx => ?_, fun x => ?_⟩
      · rw [Nat.add_sub_cancel, he]; exact h2 x hx
      · rw [h3]
        constructor
        · rintro ⟨j, hj, rfl⟩
          exact ⟨j, by omega, rfl⟩
        · rintro ⟨j, hj, rfl⟩
          rcases Nat.lt_or_ge j m with h | h
          · exact ⟨j, h, rfl⟩
          · have : j = m := by omega
            subst this
            exact ⟨j - 1, by omega, he.symm⟩

/-- a list of texts sorted, each once. -/
def usedB (u : List ByteArray) : List (List UInt8) := Lib.compact (sortB (u.map fun s => s.data.toList))

theorem usedB_is (u : List ByteArray) : (usedB u).Pairwise (fun a b => Op.bytesLess a b = true) ∧ ∀ x, x ∈ usedB u ↔ ∃ s ∈ u, s.data.toList = x := by
  unfold usedB Lib.compact
  generalize hl : sortB (u.map fun s => s.data.toList) = l
  have hr : l.Pairwise fun a b => Op.bytesLess b a = false := by rw [← hl]; exact sortB_rises _
  have hp : l.Perm (u.map fun s => s.data.toList) := by rw [← hl]; exact sortB_perm _
  have hs : ∀ i j, i ≤ j → j < l.toArray.size → Op.bytesLess l.toArray[j]! l.toArray[i]! = false := fun i j hij hj => by
    have hj' : j < l.length := by simpa using hj
    have e1 : l.toArray[j]! = l[j] := by simp [hj']
    have e2 : l.toArray[i]! = l[i] := by simp [show i < l.length by omega]
    rw [e1, e2]
    rcases Nat.lt_or_ge i j with h | h
    · exact List.pairwise_iff_getElem.1 hr i j (by omega) hj' h
    · have : i = j := by omega
      subst this
      exact less_irrefl _
  obtain ⟨h1, _, h3⟩ := cup_inv hs l.length (by simp)
  refine ⟨h1, fun x => (h3 x).trans ?_⟩
  constructor
  · rintro ⟨j, hj, rfl⟩
    have e1 : l.toArray[j]! = l[j] := by simp [hj]
    rw [e1]
    have := hp.subset (List.getElem_mem hj)
    rw [List.mem_map] at this
    exact this
  · rintro ⟨s, hs, rfl⟩
    have : s.data.toList ∈ l := hp.symm.subset (List.mem_map.2 ⟨s, hs, rfl⟩)
    obtain ⟨j, hj, e⟩ := List.getElem_of_mem this
    exact ⟨j, hj, by simp [hj, e]⟩

def toB (x : List UInt8) : ByteArray := ⟨x.toArray⟩
theorem toB_data (s : ByteArray) : toB s.data.toList = s := by simp [toB]
theorem data_toB (x : List UInt8) : (toB x).data.toList = x := by simp [toB]

theorem insT_insB (x : ByteArray) : ∀ l, insT x l = insB (fun s : ByteArray => s) x l
  | [] => rfl
  | y :: r => by rw [insT, insB, insT_insB x r]
theorem usedUp_rises (u : List ByteArray) : ∀ k, RisesB (fun s : ByteArray => s) (usedUp u k)
  | 0 => List.Pairwise.nil
  | k + 1 => by
    rw [usedUp, putT]
    by_cases h : hasS (usedUp u k) (usedAt u k) = true
    · rw [if_pos h]; exact usedUp_rises u k
    · rw [if_neg h, insT_insB]
      refine insB_rises (fun s : ByteArray => s) (usedUp_rises u k) fun y hy => ?_
      cases hs : sEq y (usedAt u k) with
      | false => rfl
      | true => exact absurd (hasS_mem.2 (by rw [← sEq_eq hs]; exact hy)) h
theorem usedUp_mem (u : List ByteArray) : ∀ k, k ≤ u.length → ∀ x, x ∈ usedUp u k ↔ ∃ (j : Nat) (h : j < u.length), j < k ∧ u[j] = x
  | 0, _, x => by simp [usedUp]
  | k + 1, hk, x => by
    have ih := usedUp_mem u k (by omega)
    have he := usedAt_at (u := u) (k := k) (by omega)
    have hmem : x ∈ usedUp u (k + 1) ↔ x = usedAt u k ∨ x ∈ usedUp u k := by
      rw [usedUp, putT]
      by_cases h : hasS (usedUp u k) (usedAt u k) = true
      · rw [if_pos h]
        exact ⟨Or.inr, fun h' => h'.elim (fun e => by rw [e]; exact hasS_mem.1 h) id⟩
      · rw [if_neg h, insT_insB]
        rw [(insB_perm (fun s : ByteArray => s) (usedAt u k) (usedUp u k)).mem_iff, List.mem_cons]
    rw [hmem, ih, he]
    constructor
    · rintro (rfl | ⟨j, h, hj, rfl⟩)
      · exact ⟨k, by omega, by omega, rfl⟩
      · exact ⟨j, h, by omega, rfl⟩
    · rintro ⟨j, h, hj, rfl⟩
      rcases Nat.lt_or_ge j k with h' | h'
      · exact Or.inr ⟨j, h, h', rfl⟩
      · have : j = k := by omega
        subst this
        exact Or.inl rfl

theorem rises_nodup {l : List ByteArray} (h : RisesB (fun s : ByteArray => s) l) : l.Nodup := by
  refine h.imp fun {a b} hab e => ?_
  subst e
  have := gt_ne hab
  rw [sEq_refl] at this; cases this

theorem used_sorted (u : List ByteArray) : (usedB u).map toB = usedUp u u.length := by
  obtain ⟨h1, h2⟩ := usedB_is u
  have hr : RisesB (fun s : ByteArray => s) ((usedB u).map toB) := by
    refine List.pairwise_map.2 (h1.imp fun {a b} hab => ?_)
    show gtB (toB b) (toB a) = true
    unfold gtB
    rw [Lib.toList_data, Lib.toList_data, data_toB, data_toB, less_asymm hab]
    have hne : (b == a) = false := by
      rw [beq_eq_false_iff_ne]
      intro e
      subst e
      rw [less_irrefl] at hab; cases hab
    rw [hne]; rfl
  have hu := usedUp_rises u u.length
  refine rises_one (fun s : ByteArray => s) hr hu ((List.perm_ext_iff_of_nodup (rises_nodup hr) (rises_nodup hu)).2 fun x => ?_)
  rw [usedUp_mem u u.length (Nat.le_refl _), List.mem_map]
  constructor
  · rintro ⟨y, hy, rfl⟩
    obtain ⟨s, hs, rfl⟩ := (h2 y).1 hy
    obtain ⟨j, hj, e⟩ := List.getElem_of_mem hs
    exact ⟨j, hj, hj, by rw [e, toB_data]⟩
  · rintro ⟨j, hj, _, rfl⟩
    exact ⟨u[j].data.toList, (h2 _).2 ⟨u[j], List.getElem_mem hj, rfl⟩, toB_data _⟩

end Go.Proofs.YtagbaimfigljiaaGreatDoor
namespace Go.Proofs
open Go.Shelf
def Tryz.lays190_ren : Go.Shelf.Ren := ⟨fun | 190 => 30 | 125 => 73 | 258 => 72 | 128 => 136 | 129 => 137 | 302 => 127 | 303 => 128 | 304 => 129 | 305 => 130 | 306 => 131 | 307 => 132 | 308 => 133 | 309 => 134 | 310 => 135 | 333 => 204 | 329 => 205 | 330 => 206 | 334 => 207 | 335 => 208 | 336 => 209 | 344 => 276 | n => n, fun | 31 => 22 | 9 => 9 | 3 => 3 | 46 => 133 | 0 => 0 | 51 => 195 | 53 => 197 | 4 => 4 | 183 => 188 | 182 => 187 | 131 => 192 | 5 => 5 | 218 => 251 | 222 => 255 | 228 => 299 | 229 => 300 | n => n, fun | n => n⟩
theorem Tryz.lays190 : Go.Proofs.Lays.n190 Tryz.prog Tryz.lays190_ren := {
  mixed := by kernel_rfl
  f125 := Tryz.func73.trans (congrArg some (by kernel_rfl))
  f128 := Tryz.func136.trans (congrArg some (by kernel_rfl))
  f129 := Tryz.func137.trans (congrArg some (by kernel_rfl))
  f190 := Tryz.func30.trans (congrArg some (by kernel_rfl))
  f258 := Tryz.func72.trans (congrArg some (by kernel_rfl))
  f302 := Tryz.func127.trans (congrArg some (by kernel_rfl))
  f303 := Tryz.func128.trans (congrArg some (by kernel_rfl))
  f304 := Tryz.func129.trans (congrArg some (by kernel_rfl))
  f305 := Tryz.func130.trans (congrArg some (by kernel_rfl))
  f306 := Tryz.func131.trans (congrArg some (by kernel_rfl))
  f307 := Tryz.func132.trans (congrArg some (by kernel_rfl))
  f308 := Tryz.func133.trans (congrArg some (by kernel_rfl))
  f309 := Tryz.func134.trans (congrArg some (by kernel_rfl))
  f310 := Tryz.func135.trans (congrArg some (by kernel_rfl))
  f329 := Tryz.func205.trans (congrArg some (by kernel_rfl))
  f330 := Tryz.func206.trans (congrArg some (by kernel_rfl))
  f333 := Tryz.func204.trans (congrArg some (by kernel_rfl))
  f334 := Tryz.func207.trans (congrArg some (by kernel_rfl))
  f335 := Tryz.func208.trans (congrArg some (by kernel_rfl))
  f336 := Tryz.func209.trans (congrArg some (by kernel_rfl))
  f344 := Tryz.func276.trans (congrArg some (by kernel_rfl))
  t0 := Tryz.underlying0
  a0 := Tryz.isAgg0
  z0 := Tryz.sizeOf0
  v0 := Tryz.zeroValue0
  t3 := Tryz.underlying3
  a3 := Tryz.isAgg3
  z3 := Tryz.sizeOf3
  v3 := Tryz.zeroValue3
  t4 := Tryz.underlying4
  a4 := Tryz.isAgg4
  z4 := Tryz.sizeOf4
  v4 := Tryz.zeroValue4
  t5 := Tryz.underlying5
  a5 := Tryz.isAgg5
  z5 := Tryz.sizeOf5
  v5 := Tryz.zeroValue5
  t9 := Tryz.underlying9
  a9 := Tryz.isAgg9
  z9 := Tryz.sizeOf9
  v9 := Tryz.zeroValue9
  t31 := Tryz.underlying22
  a31 := Tryz.isAgg22
  z31 := Tryz.sizeOf22
  v31 := Tryz.zeroValue22
  t46 := Tryz.underlying133
  a46 := Tryz.isAgg133
  z46 := Tryz.sizeOf133
  v46 := Tryz.zeroValue133
  t51 := Tryz.underlying195
  a51 := Tryz.isAgg195
  z51 := Tryz.sizeOf195
  v51 := Tryz.zeroValue195
  t53 := Tryz.underlying197
  a53 := Tryz.isAgg197
  z53 := Tryz.sizeOf197
  v53 := Tryz.zeroValue197
  t131 := Tryz.underlying192
  a131 := Tryz.isAgg192
  z131 := Tryz.sizeOf192
  v131 := Tryz.zeroValue192
  t182 := Tryz.underlying187
  a182 := Tryz.isAgg187
  z182 := Tryz.sizeOf187
  v182 := Tryz.zeroValue187
  t183 := Tryz.underlying188
  a183 := Tryz.isAgg188
  z183 := Tryz.sizeOf188
  v183 := Tryz.zeroValue188
  t218 := Tryz.underlying251
  a218 := Tryz.isAgg251
  z218 := Tryz.sizeOf251
  v218 := Tryz.zeroValue251
  t222 := Tryz.underlying255
  a222 := Tryz.isAgg255
  z222 := Tryz.sizeOf255
  v222 := Tryz.zeroValue255
  t228 := Tryz.underlying299
  a228 := Tryz.isAgg299
  z228 := Tryz.sizeOf299
  v228 := Tryz.zeroValue299
  t229 := Tryz.underlying300
  a229 := Tryz.isAgg300
  z229 := Tryz.sizeOf300
  v229 := Tryz.zeroValue300 }
open Go.Sort Go.RowKit in
theorem Tryz.slices_Sort_string (blk off cap : Nat) (ss : List (List UInt8)) (w : World) (hH : Holds encStr w blk off ss.toArray) (hblk : blk < w.heap.size) (hsz : ss.length < 4611686018427387904) :
    Calls Tryz.prog 30 #[.slice (some ⟨blk, off, none⟩) ss.length cap] w fun e w' =>
      e = .returned (.tuple #[]) ∧ ∃ n os, w' = grow (putRow encStr (Sort.ahead w n) blk off (ss.mergeSort fun x y => decide (x ≤ y)).toArray) os := Any.slices_Sort_string Tryz.lays190 blk off cap ss w hH hblk hsz
def Tryz.lays194_ren : Go.Shelf.Ren := ⟨fun | 194 => 31 | n => n, fun | 31 => 22 | 9 => 9 | 3 => 3 | 4 => 4 | 0 => 0 | n => n, fun | n => n⟩
theorem Tryz.lays194 : Go.Proofs.Lays.n194 Tryz.prog Tryz.lays194_ren := {
  mixed := by kernel_rfl
  f194 := Tryz.func31.trans (congrArg some (by kernel_rfl))
  t0 := Tryz.underlying0
  a0 := Tryz.isAgg0
  z0 := Tryz.sizeOf0
  v0 := Tryz.zeroValue0
  t3 := Tryz.underlying3
  a3 := Tryz.isAgg3
  z3 := Tryz.sizeOf3
  v3 := Tryz.zeroValue3
  t4 := Tryz.underlying4
  a4 := Tryz.isAgg4
  z4 := Tryz.sizeOf4
  v4 := Tryz.zeroValue4
  t9 := Tryz.underlying9
  a9 := Tryz.isAgg9
  z9 := Tryz.sizeOf9
  v9 := Tryz.zeroValue9
  t31 := Tryz.underlying22
  a31 := Tryz.isAgg22
  z31 := Tryz.sizeOf22
  v31 := Tryz.zeroValue22 }
open Go.RowKit Go.Lib Go.Sort in
theorem Tryz.slices_Compact_string (blk off cap : Nat) (zs : List (List UInt8)) (w : World) (hH : Holds encStr w blk off zs.toArray) (hsz : zs.length ≤ 9223372036854775807) (hcap : zs.length ≤ cap) :
    Calls Tryz.prog 31 #[.slice (some ⟨blk, off, none⟩) zs.length cap] w fun e w' => e = .returned (.slice (some ⟨blk, off, none⟩) (Lib.compact zs).length cap) ∧ ∃ q, w' = putRow encStr (Sort.ahead w q) blk off (Lib.compact zs ++ List.replicate (zs.length - (Lib.compact zs).length) []).toArray := Any.slices_Compact_string Tryz.lays194 blk off cap zs w hH hsz hcap
open Go.RowKit Go.Lib Go.Sort in
theorem Tryz.slices_Compact_string_empty (a : Option Addr) (cap : Nat) (w : World) :
    Calls Tryz.prog 31 #[.slice a 0 cap] w fun e w' => e = .returned (.slice a 0 cap) ∧ w' = w := Any.slices_Compact_string_empty Tryz.lays194 a cap w
open Go.RowKit Go.Sort in
theorem Tryz.slices_Sort_string_none (p : Option Addr) (cap : Nat) (w : World) :
    Calls Tryz.prog 30 #[.slice p 0 cap] w fun e w' => e = .returned (.tuple #[]) ∧ w' = w := Any.slices_Sort_string_none Tryz.lays190 p cap w
end Go.Proofs
namespace Go.Proofs.YtagbaimfigljiaaGreatDoor
open Go.RowKit
set_option maxRecDepth 100000
open Go.Sort (grow putRow mapBlock onCells putCells Holds)

def datas (l : List ByteArray) : List (List UInt8) := l.map fun s => s.data.toList
theorem datas_toB (d : List (List UInt8)) : datas (d.map toB) = d := by
  unfold datas
  rw [List.map_map]
  conv => rhs; rw [← List.map_id d]
  exact List.map_congr_left fun x _ => data_toB x
theorem datas_len (l : List ByteArray) : (datas l).length = l.length := List.length_map ..

theorem own_holds {w : World} {base g cap : Nat} {l : List ByteArray} (h : w.ownsRow base 9 1 (.slice (some ⟨g, 0, none⟩) l.length cap) l.length (txVals l)) : Holds encStr w g 0 (datas l).toArray := by
  obtain ⟨hx, ⟨hv, _⟩ | ⟨g', cap', cur, hv, hg, hh, h1, h2, h3, h4⟩⟩ := h
  · cases hv
  · injection hv with e1 e2 e3
    injection e1 with e1
    injection e1 with e1
    subst e1 e3
    intro j hj
    have hj' : j < l.length := by simpa [datas] using hj
    have hf : (txVals l)[j]? = some (.string l[j]) := by simp [txVals, hj']
    rw [← h4, List.getElem?_take_of_lt (by omega)] at hf
    refine ⟨?_, Lib.frozen_of_heap hh _⟩
    rw [cell_of_row w g (0 + j) cur 9 (0, 0) hh, Nat.zero_add]
    have e : encStr (datas l).toArray[j]! = .string l[j] := by simp [datas, hj', encStr]
    rw [e]
    simpa using hf

/-- a row of one's own whose cells are laid anew. -/
theorem ownTx_put {w : World} {base g cap n k : Nat} {l : List ByteArray} {d : List (List UInt8)} {os : Array Obj} (h : w.ownsRow base 9 1 (.slice (some ⟨g, 0, none⟩) l.length cap) l.length (txVals l)) (hd : d.length = l.length) (hk : k ≤ d.length) :
    (grow (putRow encStr (Go.Sort.ahead w n) g 0 d.toArray) os).ownsRow base 9 1 (.slice (some ⟨g, 0, none⟩) k cap) k (txVals ((d.take k).map toB)) := by
  obtain ⟨hx, ⟨hv, _⟩ | ⟨g', cap', cur, hv, hg, hh, h1, h2, h3, h4⟩⟩ := h
  · cases hv
  · injection hv with e1 e2 e3
    injection e1 with e1
    injection e1 with e1
    subst e1 e3
    have hgl : g < w.heap.size := by
      rcases Nat.lt_or_ge g w.heap.size with h | h
      · exact h
      · rw [Array.getElem?_eq_none h] at hh; cases hh
    refine ⟨by simp [txVals, hk], Or.inr ⟨g, cap, putCells encStr 0 d.toArray cur, rfl, hg, ?_, by omega, h2, by simp [putCells, h3], ?_⟩⟩
    · rw [Go.Sort.heap_grow_old _ _ (by simpa using hgl)]
      show (w.heap.modify g (onCells (putCells encStr 0 d.toArray)))[g]? = _
      rw [Array.getElem?_modify, if_pos rfl, hh]; rfl
    · apply List.ext_getElem?
      intro j
      by_cases hj : j < k
      · have hc : j < cur.size := by omega
        rw [List.getElem?_take_of_lt (by omega)]
        simp [putCells, txVals, hc, hj, show j < d.length by omega, encStr, toB]
      · rw [List.getElem?_eq_none (by rw [List.length_take]; omega), List.getElem?_eq_none (by simp [txVals]; omega)]

theorem put_grown {w : World} {g n : Nat} {d : Array (List UInt8)} {os : Array Obj} : w.grownBy (grow (putRow encStr (Go.Sort.ahead w n) g 0 d) os) (some g) := by
  refine ⟨rfl, rfl, rfl, ?_, fun j hj hjg => ?_⟩
  · simp [grow, putRow, mapBlock]
  · have hne : g ≠ j := fun e => hjg (by rw [e])
    simp [grow, putRow, mapBlock, Array.getElem?_append, hj, Array.getElem_modify, hne]

theorem sort_tx {w : World} {base : Nat} {v : Value} {l : List ByteArray} (h : w.ownsRow base 9 1 v l.length (txVals l)) (hl : l.length ≤ 100) :
    Calls Tryz.prog 30 #[v] w fun e w' => e = .returned (.tuple #[]) ∧ w'.ownsRow base 9 1 v l.length (txVals ((sortB (datas l)).map toB)) ∧ w.grownBy w' v.ownBlock := by
  by_cases he : l = []
  · subst he
    obtain ⟨a, cap, rfl⟩ : ∃ a cap, v = .slice a 0 cap := by
      obtain ⟨_, ⟨hv, _⟩ | ⟨g, cap, cur, hv, _⟩⟩ := h
      · exact ⟨_, _, hv⟩
      · exact ⟨_, _, hv⟩
    refine (Tryz.slices_Sort_string_none a cap w).mono ?_
    rintro e w' ⟨rfl, rfl⟩
    exact ⟨rfl, by simpa [sortB, datas] using h, ⟨rfl, rfl, rfl, Nat.le_refl _, fun _ _ _ => rfl⟩⟩
  · obtain ⟨g, cap, rfl, hg, hgl⟩ := h.form (List.length_pos_iff.2 he)
    have hc := Tryz.slices_Sort_string g 0 cap (datas l) w (own_holds h) hgl (by rw [datas_len]; omega)
    rw [datas_len] at hc
    refine hc.mono ?_
    rintro e w' ⟨rfl, n, os, rfl⟩
    have hs : (sortB (datas l)).length = l.length := by rw [sortB_len, datas_len]
    refine ⟨rfl, ?_, put_grown⟩
    have := ownTx_put (n := n) (os := os) (k := l.length) h hs (by omega)
    rwa [List.take_of_length_le (by omega)] at this

theorem compact_tx {w : World} {base : Nat} {v : Value} {l : List ByteArray} (h : w.ownsRow base 9 1 v l.length (txVals l)) (hl : l.length ≤ 100) (hs : ∀ x ∈ Lib.compact (datas l), x.length ≤ 100) :
    Calls Tryz.prog 31 #[v] w fun e w' => ∃ u, e = .returned u ∧ SlAt (fun b => base ≤ b ∧ b < w'.heap.size) (StrAt w') 1 ((Lib.compact (datas l)).map toB) u ∧ w.grownBy w' v.ownBlock := by
  have hcl : (Lib.compact (datas l)).length ≤ l.length := by rw [← datas_len l]; exact Lib.compact_length_le _
  by_cases he : l = []
  · subst he
    obtain ⟨a, cap, rfl⟩ : ∃ a cap, v = .slice a 0 cap := by
      obtain ⟨_, ⟨hv, _⟩ | ⟨g, cap, cur, hv, _⟩⟩ := h
      · exact ⟨_, _, hv⟩
      · exact ⟨_, _, hv⟩
    refine (Tryz.slices_Compact_string_empty a cap w).mono ?_
    rintro e w' ⟨rfl, rfl⟩
    exact ⟨_, rfl, ⟨a, cap, rfl, ⟨Nat.zero_le _, Nat.zero_le _⟩, Or.inl rfl⟩, ⟨rfl, rfl, rfl, Nat.le_refl _, fun _ _ _ => rfl⟩⟩
  · obtain ⟨g, cap, rfl, hg, hgl⟩ := h.form (List.length_pos_iff.2 he)
    have hcap : l.length ≤ cap := by
      obtain ⟨_, ⟨hv, _⟩ | ⟨g', cap', cur, hv, _, _, h1, _⟩⟩ := h
      · cases hv
      · injection hv with _ _ e3
        subst e3; exact h1
    have hc := Tryz.slices_Compact_string g 0 cap (datas l) w (own_holds h) (by rw [datas_len]; omega) (by rw [datas_len]; exact hcap)
    rw [datas_len] at hc
    refine hc.mono ?_
    rintro e w' ⟨rfl, q, rfl⟩
    generalize hcd : Lib.compact (datas l) = cd at *
    have ho := ownTx_put (n := q) (os := #[]) (k := cd.length) (d := cd ++ List.replicate (l.length - cd.length) []) h (by simp; omega) (by simp)
    rw [List.take_left' rfl, Go.Sort.grow_empty] at ho
    have hg2 := put_grown (w := w) (g := g) (n := q) (d := (cd ++ List.replicate (l.length - cd.length) []).toArray) (os := #[])
    rw [Go.Sort.grow_empty] at hg2
    refine ⟨_, rfl, ?_, hg2⟩
    have hm : (cd.map toB).length = cd.length := List.length_map ..
    rw [← hm] at ho ⊢
    refine tx_row ho (by unfold maxLen; omega) (fun t ht => ?_)
    obtain ⟨x, hx, rfl⟩ := List.mem_map.1 ht
    have := hs x hx
    show (toB x).size ≤ _
    have e : (toB x).size = x.length := by simp [toB, ByteArray.size]
    rw [e]; unfold maxLen; omega

end Go.Proofs.YtagbaimfigljiaaGreatDoor
namespace Go.Proofs.YtagbaimfigljiaaGreatDoor
open Go.RowKit
set_option maxRecDepth 100000

theorem readAll_lens : ∀ (L : List ByteArray) (m m' : Mo) (k : Nat), readAll L m = .ok m' → m.uses.length ≤ k ∧ m.types.length ≤ k ∧ m.funcs.length ≤ k → m'.uses.length ≤ k + L.length ∧ m'.types.length ≤ k + L.length ∧ m'.funcs.length ≤ k + L.length
  | [], m, m', k, h, hk => by
    rw [readAll] at h
    injection h with h
    subst h
    exact hk
  | s :: r, m, m', k, h, hk => by
    rw [readAll] at h
    cases hl : lineRes s with
    | error e => rw [hl] at h; cases h
    | ok d =>
      rw [hl] at h
      have := readAll_lens r (putLine m d) m' (k + 1) h (put_len hk)
      rw [List.length_cons]
      omega

theorem readMo_good (s : ByteArray) : moFault (readMo s) = 0 ∧ moSmall (readMo s) := by
  have h0 : moFault noMo = 0 := by decide +kernel
  have hn : moSmall noMo := ⟨Nat.zero_le _, Nat.zero_le _, Nat.zero_le _⟩
  unfold readMo
  by_cases hs : 1500 < s.size
  · rw [if_pos hs]; exact ⟨h0, hn⟩
  · rw [if_neg hs]
    have hle := linesOf_le s
    cases hr : readAll (linesOf s) noMo with
    | error e => exact ⟨h0, hn⟩
    | ok m =>
      show moFault (if moFault m = 0 then m else noMo) = 0 ∧ moSmall (if moFault m = 0 then m else noMo)
      by_cases hm : moFault m = 0
      · rw [if_pos hm]
        obtain ⟨h1, h2, h3⟩ := readAll_lens _ _ _ 0 hr ⟨Nat.le_refl _, Nat.le_refl _, Nat.le_refl _⟩
        exact ⟨hm, by unfold reachBytes; omega, by unfold reachBytes; omega, by unfold reachBytes; omega⟩
      · rw [if_neg hm]; exact ⟨h0, hn⟩
theorem readMo_none {s : ByteArray} (h : readErr s ≠ 0) : readMo s = noMo := by
  unfold readErr at h
  unfold readMo
  by_cases hs : 1500 < s.size
  · rw [if_pos hs]
  · rw [if_neg hs] at h ⊢
    cases hr : readAll (linesOf s) noMo with
    | error e => rfl
    | ok m =>
      rw [hr] at h
      exact if_neg h
theorem readMo_counts (s : ByteArray) : (readMo s).uses.length + (readMo s).types.length + (readMo s).funcs.length ≤ 24 := mo_counts (readMo_good s).1 (readMo_good s).2
theorem readMo_uses (s : ByteArray) : ∀ u ∈ (readMo s).uses, u.size ≤ 8 := fun u hu => ident_eight (mo_uses (readMo_good s).1 u hu)

/-- the names that a module uses, by their order, each once. -/
def usesR (m : Mo) : List ByteArray := usedUp m.uses m.uses.length

theorem compact_sorted (u : List ByteArray) : (Lib.compact (datas ((sortB (datas u)).map toB))).map toB = usedUp u u.length := by
  rw [datas_toB]; exact used_sorted u

set_option maxHeartbeats 2000000 in
theorem modUses_any (s : ByteArray) (w : World) :
    Calls Tryz.prog 9 #[.string s] w fun e w' => ∃ u, e = .returned u ∧ SlAt (fun b => w.heap.size ≤ b ∧ b < w'.heap.size) (StrAt w') 1 (usesR (readMo s)) u ∧ Below w.heap.size w w' := by
  have HR := veil (read_full s w)
  have HN : Hid (readErr s ≠ 0 → usesR (readMo s) = []) := fun h => by rw [readMo_none h]; rfl
  have h24 := readMo_counts s
  have HS : Hid (∀ x ∈ Lib.compact (datas ((sortB (datas (readMo s).uses)).map toB)), x.length ≤ 100) := fun x hx => by
    have h1 : toB x ∈ usedUp (readMo s).uses (readMo s).uses.length := by
      rw [← compact_sorted]; exact List.mem_map.2 ⟨x, hx, rfl⟩
    have h2 := usedUp_size (readMo_uses s) _ _ h1
    have e : (toB x).size = x.length := by simp [toB, ByteArray.size]
    omega
  have HC : Hid (∀ v W, W.ownsRow w.heap.size 9 1 v (readMo s).uses.length (txVals (readMo s).uses) → Calls Tryz.prog 30 #[v] W fun e w' => e = .returned (.tuple #[]) ∧ w'.ownsRow w.heap.size 9 1 v (readMo s).uses.length (txVals ((sortB (datas (readMo s).uses)).map toB)) ∧ W.grownBy w' v.ownBlock) := fun v W h => sort_tx h (by omega)
  have HD : Hid (∀ v W, W.ownsRow w.heap.size 9 1 v (readMo s).uses.length (txVals ((sortB (datas (readMo s).uses)).map toB)) → Calls Tryz.prog 31 #[v] W fun e w' => ∃ u, e = .returned u ∧ SlAt (fun b => w.heap.size ≤ b ∧ b < w'.heap.size) (StrAt w') 1 (usesR (readMo s)) u ∧ W.grownBy w' v.ownBlock) := fun v W h => by
    have hl : ((sortB (datas (readMo s).uses)).map toB).length = (readMo s).uses.length := by rw [List.length_map, sortB_len, datas_len]
    rw [← hl] at h
    have := compact_tx h (by omega) HS.out
    rw [compact_sorted] at this
    exact this
  clear HS
  generalize usesR (readMo s) = res at *
  generalize (sortB (datas (readMo s).uses)).map toB = srt at *
  generalize readMo s = m at *
  generalize readErr s = er at *
  go_enter Tryz.func9, Tryz.ntmps9
  go_wp2_with fail
  refine HR.out.mono ?_
  rintro e w1 ⟨hb1, v, rfl, hm, vu, vt, vf, rfl, hown⟩
  obtain ⟨x1, x2, x3, hx, hu, ht, hf⟩ := hm
  have hx' : [vu, vt, vf] = [x1, x2, x3] := congrArg Array.toList (Value.agg.inj hx)
  injection hx' with e1 hx'
  injection hx' with e2 hx'
  injection hx' with e3 _
  subst e1 e2 e3
  obtain ⟨au, nu, cu, rfl⟩ : ∃ a n c, vu = .slice a n c := by
    rcases hown.2 with ⟨h1, _⟩ | ⟨g, cap, _, h1, _⟩
    · exact ⟨_, _, _, h1⟩
    · exact ⟨_, _, _, h1⟩
  obtain ⟨at', nt, ct, rfl⟩ := ht.slice
  obtain ⟨af, nf, cf, rfl⟩ := hf.slice
  obtain ⟨W2, HW2, hs2, hb2, q0⟩ : ∃ W2, Hid (w1.alloc (.cells #[.slice au nu cu, .slice at' nt ct, .slice af nf cf] 44) = W2) ∧ W2.heap.size = w1.heap.size + 1 ∧ Below w1.heap.size w1 W2 ∧ W2.cell? ⟨w1.heap.size, 0, none⟩ = some (.slice au nu cu) :=
    ⟨_, rfl, by simp, (Below.refl _ _).alloc (Nat.le_refl _) _, by simp [go_sem]⟩
  have hs1 := hb1.size
  have hown2 := own_after hown hb2 (Nat.le_refl _)
  have HOwn := veil hown2
  have HB2 := veil (hb1.trans (hb2.mono hs1))
  have hin := ownsRow_in hown
  have HIn := veil hin
  have l12 : w1.heap.size < W2.heap.size := by omega
  clear hx hu ht hf hown hown2 hb1 hb2 hin HR hs2
  by_cases he : er = 0
  · subst he
    clear HN
    go_wp2_with (first | (rw [HW2.out]; clear HW2) | fail)
    refine (HC.out _ _ HOwn.out).mono ?_
    rintro e w3 ⟨rfl, hown3, hg3⟩
    have q3 : w3.cell? ⟨w1.heap.size, 0, none⟩ = some (.slice au nu cu) := (World.cell?_of_block (hg3.block w1.heap.size (by omega) (fun e => by have := (HIn.out _ e.symm).2; omega))).trans q0
    have HB3 : Hid (Below w.heap.size w w3) := Below.grown HB2.out hg3 (by omega) (fun j hj => (HIn.out j hj).1)
    have HOwn3 := veil hown3
    clear hown3 hg3 q0 HC HOwn
    go_wp2_with fail
    refine (HD.out _ _ HOwn3.out).mono ?_
    rintro e w4 ⟨u, rfl, hsl, hg4⟩
    have HB4 : Hid (Below w.heap.size w w4) := Below.grown HB3.out hg4 (by have := HB3.out.size; omega) (fun j hj => (HIn.out j hj).1)
    have HSl := veil hsl
    clear hsl hg4 q3
    go_wp2_with fail
    go_ret
    exact ⟨_, rfl, HSl.out, HB4.out⟩
  · have he' : (er != 0) = true := by simp [he]
    have HN2 := veil (HN.out he)
    clear HN he
    go_wp2_with (first | (rw [HW2.out]; clear HW2) | fail)
    go_ret
    exact ⟨_, rfl, by rw [HN2.out]; exact none_sl, HB2.out⟩

end Go.Proofs.YtagbaimfigljiaaGreatDoor
namespace Go.Proofs.YtagbaimfigljiaaGreatDoor
open Go.RowKit
set_option maxRecDepth 100000

/-- a list of bytes, cut at each line's end. -/
def splitL : List UInt8 → List (List UInt8)
  | [] => [[]]
  | c :: l => if c = 10 then [] :: splitL l else match splitL l with
    | [] => [[c]]
    | h :: t => (c :: h) :: t

theorem splitL_ne : ∀ l : List UInt8, splitL l ≠ []
  | [] => by simp [splitL]
  | c :: l => by
    unfold splitL
    split
    · simp
    · split <;> simp

/-- what is laid ahead of the first line. -/
def aheadL (p : List UInt8) (ls : List (List UInt8)) : List (List UInt8) := match ls with
  | [] => []
  | h :: t => (p ++ h) :: t

theorem splitL_free : ∀ (p l : List UInt8), (10 : UInt8) ∉ p → splitL (p ++ l) = aheadL p (splitL l)
  | [], l, _ => by
    cases h : splitL l with
    | nil => exact absurd h (splitL_ne l)
    | cons a t => simp [aheadL, h]
  | c :: p, l, hp => by
    have hc : c ≠ 10 := fun e => hp (by rw [e]; exact List.mem_cons_self)
    have ih := splitL_free p l (fun e => hp (List.mem_cons_of_mem _ e))
    rw [List.cons_append, splitL, if_neg hc, ih]
    cases h : splitL l with
    | nil => exact absurd h (splitL_ne l)
    | cons a t => rfl

theorem splitL_hit (p l : List UInt8) (hp : (10 : UInt8) ∉ p) : splitL (p ++ 10 :: l) = p :: splitL l := by
  rw [splitL_free p _ hp, splitL, if_pos rfl]
  simp [aheadL]

theorem splitL_miss (p : List UInt8) (hp : (10 : UInt8) ∉ p) : splitL p = [p] := by
  have := splitL_free p [] hp
  rw [List.append_nil] at this
  rw [this]
  simp [aheadL, splitL]

theorem lines_data (n : Nat) : ∀ s : ByteArray, s.size ≤ n → (linesOf s).map (·.data.toList) = splitL s.data.toList := by
  induction n with
  | zero =>
    intro s hs
    have h0 : s.data.toList = [] := List.length_eq_zero_iff.1 (by rw [← Lib.size_eq]; omega)
    have hi : Lib.indexB s ⟨#[10]⟩ = -1 := by
      rw [show Lib.indexB s ⟨#[10]⟩ = Lib.indexByte s.data.toList 10 from Lib.index_one _ _, h0]
      rfl
    unfold linesOf
    rw [Lib.splitB_miss _ _ _ _ hi, h0]
    simp [h0, splitL]
  | succ n ih =>
    intro s hs
    have hge := Lib.indexByte_ge s.data.toList 10
    have he : Lib.indexB s ⟨#[10]⟩ = Lib.indexByte s.data.toList 10 := Lib.index_one _ _
    by_cases hi : Lib.indexByte s.data.toList 10 = -1
    · have hm : (10 : UInt8) ∉ s.data.toList := fun h => by
        obtain ⟨k, hk⟩ := List.getElem?_of_mem h
        exact Lib.indexByte_none hi k hk
      unfold linesOf
      rw [Lib.splitB_miss _ _ _ _ (he.trans hi), splitL_miss _ hm]
      rfl
    · obtain ⟨i, ho⟩ := Int.eq_ofNat_of_zero_le (show 0 ≤ Lib.indexByte s.data.toList 10 by omega)
      obtain ⟨h1, h2⟩ := Lib.indexByte_some ho
      have hlt : i < s.data.toList.length := (List.getElem?_eq_some_iff.1 h1).1
      have hsz := Lib.size_eq s
      have hcount := Lib.countB_hit s ⟨#[10]⟩ i (Nat.le_refl _) (he.trans ho)
      have e1 : (⟨#[10]⟩ : ByteArray).size = 1 := rfl
      rw [e1] at hcount
      unfold linesOf
      rw [hcount, Nat.add_comm 1, Lib.splitB_hit _ _ _ _ i (he.trans ho), e1, List.map_cons]
      have ih' := ih (s.extract (i + 1) s.size) (by rw [ByteArray.size_extract]; omega)
      unfold linesOf at ih'
      rw [ih', Nat.add_zero]
      have hp : (10 : UInt8) ∉ s.data.toList.take i := fun h => by
        obtain ⟨k, hk⟩ := List.getElem?_of_mem h
        have hki : k < i := by
          have := (List.getElem?_eq_some_iff.1 hk).1
          rw [List.length_take] at this
          omega
        rw [List.getElem?_take_of_lt hki] at hk
        exact h2 k hki hk
      have hsplit : s.data.toList = s.data.toList.take i ++ 10 :: s.data.toList.drop (i + 1) := by
        have h3 : s.data.toList[i] = 10 := (List.getElem?_eq_some_iff.1 h1).2
        rw [← h3, ← List.drop_eq_getElem_cons hlt, List.take_append_drop]
      rw [Lib.extract_to_end, Lib.extract_data]
      conv => rhs; rw [hsplit]
      rw [splitL_hit _ _ hp]
      simp

/-- the lines that are left, where the one at hand began at f. -/
def restL (s : ByteArray) (f i : Nat) : List ByteArray := if i ≤ s.size then (aheadL ((s.data.toList.drop f).take (i - f)) (splitL (s.data.toList.drop i))).map (fun l => ⟨l.toArray⟩) else []

theorem map_mk : ∀ ls : List ByteArray, (ls.map (·.data.toList)).map (fun l => (⟨l.toArray⟩ : ByteArray)) = ls
  | [] => rfl
  | x :: r => by rw [List.map_cons, List.map_cons, map_mk r, Lib.mk_data]

theorem restL_start (s : ByteArray) : restL s 0 0 = linesOf s := by
  unfold restL
  rw [if_pos (Nat.zero_le _)]
  have : aheadL ((s.data.toList.drop 0).take (0 - 0)) (splitL (s.data.toList.drop 0)) = splitL s.data.toList := by
    rw [List.drop_zero]
    cases h : splitL s.data.toList with
    | nil => exact absurd h (splitL_ne _)
    | cons a t => simp [aheadL]
  rw [this, ← lines_data s.size s (Nat.le_refl _), map_mk]

theorem byte_list {s : ByteArray} {i : Nat} (hi : i < s.size) : s.data.toList.drop i = s[i] :: s.data.toList.drop (i + 1) := by
  have hl : i < s.data.toList.length := by rw [← Lib.size_eq]; exact hi
  rw [List.drop_eq_getElem_cons hl]
  rfl

theorem restL_on {s : ByteArray} {f i : Nat} (hi : i < s.size) (hf : f ≤ i) (hb : (((s[i]'hi).toNat : Int) == 10) = false) : restL s f i = restL s f (i + 1) := by
  have hne : s[i] ≠ 10 := by
    intro e
    rw [e] at hb
    exact absurd hb (by decide)
  unfold restL
  rw [if_pos (by omega), if_pos (by omega), byte_list hi, splitL, if_neg hne]
  congr 1
  cases h : splitL (s.data.toList.drop (i + 1)) with
  | nil => exact absurd h (splitL_ne _)
  | cons a t =>
    show (_ ++ _ :: a) :: t = (_ ++ a) :: t
    congr 1
    have hl : i - f < (s.data.toList.drop f).length := by rw [List.length_drop, ← Lib.size_eq]; omega
    rw [show i + 1 - f = i - f + 1 by omega, List.take_succ_eq_append_getElem hl, List.append_assoc]
    congr 1
    rw [List.getElem_drop]
    simp only [List.singleton_append, List.cons.injEq, and_true]
    show s.data.toList[i]'_ = _
    congr 1
    omega

theorem restL_cut {s : ByteArray} {f i : Nat} (hi : i < s.size) (hb : ((s[i]'hi).toNat : Int) = 10) : restL s f i = s.extract f i :: restL s (i + 1) (i + 1) := by
  have he : s[i] = 10 := UInt8.toNat_inj.1 (by have h' : (s[i]'hi).toNat = 10 := by omega
                                               rw [h']; rfl)
  unfold restL
  rw [if_pos (by omega), if_pos (by omega), byte_list hi, splitL, if_pos he]
  show (⟨((s.data.toList.drop f).take (i - f) ++ []).toArray⟩ : ByteArray) :: _ = _
  congr 1
  · rw [List.append_nil, ← Lib.extract_data, Lib.mk_data]
  · congr 1
    cases h : splitL (s.data.toList.drop (i + 1)) with
    | nil => exact absurd h (splitL_ne _)
    | cons a t => simp [aheadL]

theorem restL_last {s : ByteArray} {f : Nat} : restL s f s.size = s.extract f s.size :: restL s (s.size + 1) (s.size + 1) := by
  unfold restL
  rw [if_pos (Nat.le_refl _), if_neg (by omega)]
  have h0 : s.data.toList.drop s.size = [] := by rw [Lib.size_eq, List.drop_length]
  rw [h0]
  show (⟨((s.data.toList.drop f).take (s.size - f) ++ []).toArray⟩ : ByteArray) :: [] = _
  congr 1
  rw [List.append_nil, ← Lib.extract_data, Lib.mk_data]

theorem restL_past {s : ByteArray} {f : Nat} : restL s f (s.size + 1) = [] := by unfold restL; rw [if_neg (by omega)]

end Go.Proofs.YtagbaimfigljiaaGreatDoor
namespace Go.Proofs.YtagbaimfigljiaaGreatDoor
open Go.RowKit
set_option maxRecDepth 100000

/-- the eye in block B is at token i; e: what went wrong; d: how deep it is. -/
def EyeAt (B : Nat) (l : Toks) (i : Nat) (e d : Int) (w : World) : Prop := ∃ tv, w.heap[B]? = some (.cells #[tv, .int .i64 i, .int .i64 e, .int .i64 d] 204 (0, 0)) ∧ ToksAt B w tv l ∧ i ≤ l.length ∧ ∀ t ∈ l, t.1 = 1 ∨ t.1 = 2 ∨ t.1 = 3 ∨ t.1 = 4

theorem ey_lt {B : Nat} {l : Toks} {i : Nat} {e d : Int} {w : World} (h : EyeAt B l i e d w) : B < w.heap.size := by
  obtain ⟨tv, hb, _⟩ := h
  rcases Nat.lt_or_ge B w.heap.size with h' | h'
  · exact h'
  · rw [Array.getElem?_eq_none h'] at hb; cases hb

theorem ey_below {B : Nat} {l : Toks} {i : Nat} {e d : Int} {w w' : World} (h : EyeAt B l i e d w) (hb : Below w.heap.size w w') : EyeAt B l i e d w' := by
  have hlt := ey_lt h
  obtain ⟨tv, h1, h2, h3⟩ := h
  exact ⟨tv, (hb.block B hlt).trans h1, h2.keep (hb.mono (by omega)), h3⟩

theorem ey_drewN {B : Nat} {l : Toks} {i : Nat} {e d : Int} {w : World} (h : EyeAt B l i e d w) (n : Nat) : EyeAt B l i e d (w.drewN n) := ey_below h (below_drewN (Below.refl _ _) n)

theorem ey_set1 {B : Nat} {l : Toks} {i : Nat} {e d : Int} {w : World} (h : EyeAt B l i e d w) (hi : i < l.length) : EyeAt B l (i + 1) e d (w.setCell ⟨B, 1, none⟩ (.int .i64 ((i : Int) + 1))) := by
  obtain ⟨tv, h1, h2, h3⟩ := h
  exact ⟨tv, block_set h1 1 _, h2.keep ((Below.refl B _).setCell (p := ⟨B, 1, none⟩) (Nat.le_refl B) _), hi, h3.2⟩
theorem ey_set2 {B : Nat} {l : Toks} {i : Nat} {e d : Int} {w : World} (h : EyeAt B l i e d w) (e' : Int) : EyeAt B l i e' d (w.setCell ⟨B, 2, none⟩ (.int .i64 e')) := by
  obtain ⟨tv, h1, h2, h3⟩ := h
  exact ⟨tv, block_set h1 2 _, h2.keep ((Below.refl B _).setCell (p := ⟨B, 2, none⟩) (Nat.le_refl B) _), h3⟩
theorem ey_set3 {B : Nat} {l : Toks} {i : Nat} {e d : Int} {w : World} (h : EyeAt B l i e d w) (d' : Int) : EyeAt B l i e d' (w.setCell ⟨B, 3, none⟩ (.int .i64 d')) := by
  obtain ⟨tv, h1, h2, h3⟩ := h
  exact ⟨tv, block_set h1 3 _, h2.keep ((Below.refl B _).setCell (p := ⟨B, 3, none⟩) (Nat.le_refl B) _), h3⟩

/-- what is wrong first stays. -/
def firstOf (e e' : Int) : Int := if e = 0 then e' else e

theorem bad_eye (B : Nat) (l : Toks) (i : Nat) (e d e' : Int) (w : World) (h : EyeAt B l i e d w) :
    Calls Tryz.prog 145 #[.pointer (some ⟨B, 0, none⟩), .int .i64 e'] w fun r w' => r = .returned (.tuple #[]) ∧ EyeAt B l i (firstOf e e') d w' ∧ Moved B w w' := by
  have HH := veil h
  have HM := veil (Moved.refl B w)
  obtain ⟨tv, hb, _, _⟩ := h
  have b2 : w.cell? ⟨B, 2, none⟩ = some (.int .i64 e) := by rw [cell_of_row w B 2 _ _ _ hb]; rfl
  have hfz : w.frozen? ⟨B, 2, none⟩ = false := Lib.frozen_of_heap hb 2
  clear hb
  by_cases he : e = 0
  · subst he
    have HS := veil (ey_set2 HH.out e')
    have e0 : firstOf 0 e' = e' := if_pos rfl
    rw [e0]
    go_enter Tryz.func145, Tryz.ntmps145
    go_wp2_with fail
    go_end0
    exact ⟨rfl, HS.out, HM.out.set 2 _⟩
  · have he' : (e == 0) = false := by simpa using he
    have e0 : firstOf e e' = e := if_neg he
    rw [e0]
    clear he
    go_enter Tryz.func145, Tryz.ntmps145
    go_wp2_with fail
    go_end0
    exact ⟨rfl, HH.out, HM.out⟩

theorem ey_cells {B : Nat} {l : Toks} {i : Nat} {e d : Int} {w : World} (h : EyeAt B l i e d w) : ∃ ta tcap, w.cell? ⟨B, 0, none⟩ = some (.slice ta l.length tcap) ∧ w.cell? ⟨B, 1, none⟩ = some (.int .i64 i) ∧ w.cell? ⟨B, 2, none⟩ = some (.int .i64 e) ∧ w.cell? ⟨B, 3, none⟩ = some (.int .i64 d) ∧
    w.frozen? ⟨B, 1, none⟩ = false ∧ w.frozen? ⟨B, 2, none⟩ = false ∧ w.frozen? ⟨B, 3, none⟩ = false ∧ i ≤ l.length ∧ l.length ≤ 200 ∧ (∀ (hi : i < l.length), ∃ b off, ta = some ⟨b, off, none⟩ ∧ b < B ∧ w.cell? ⟨b, off + i * 2, none⟩ = some (.int .i64 l[i].1) ∧ w.cell? ⟨b, off + i * 2 + 1, none⟩ = some (.string l[i].2) ∧ l[i].2.size ≤ maxLen) := by
  obtain ⟨tv, hb, ⟨⟨h200, _⟩, htk⟩, hi, _⟩ := h
  have c1 : w.cell? ⟨B, 1, none⟩ = some (.int .i64 i) := by rw [cell_of_row w B 1 _ _ _ hb]; rfl
  have c2 : w.cell? ⟨B, 2, none⟩ = some (.int .i64 e) := by rw [cell_of_row w B 2 _ _ _ hb]; rfl
  have c3 : w.cell? ⟨B, 3, none⟩ = some (.int .i64 d) := by rw [cell_of_row w B 3 _ _ _ hb]; rfl
  have c0 : w.cell? ⟨B, 0, none⟩ = some tv := by rw [cell_of_row w B 0 _ _ _ hb]; rfl
  have f1 := Lib.frozen_of_heap hb 1
  have f2 := Lib.frozen_of_heap hb 2
  have f3 := Lib.frozen_of_heap hb 3
  rcases htk with ⟨hl, a, cap, rfl⟩ | ⟨b, off, cap, rfl, hbB, hc⟩
  · subst hl
    exact ⟨a, cap, c0, c1, c2, c3, f1, f2, f3, hi, h200, fun h => absurd h (by simp)⟩
  · exact ⟨_, cap, c0, c1, c2, c3, f1, f2, f3, hi, h200, fun h => ⟨b, off, rfl, hbB, hc i h⟩⟩

/-- the eye sees a sign if nothing is wrong yet. -/
def seesB (l : Toks) (i : Nat) (e : Int) (s : List UInt8) : Bool := decide (e = 0) && sgn l i s

theorem down_eye (B : Nat) (l : Toks) (i : Nat) (e : Int) (d : Nat) (hd : d < 1000) (w : World) (h : EyeAt B l i e d w) :
    Calls Tryz.prog 214 #[.pointer (some ⟨B, 0, none⟩)] w fun r w' => r = .returned (.tuple #[]) ∧ EyeAt B l i (if 40 < d + 1 then firstOf e 1 else e) ((d + 1 : Nat) : Int) w' ∧ Moved B w w' := by
  obtain ⟨ta, tcap, c0, c1, c2, c3, f1, f2, f3, hi, h200, htok⟩ := ey_cells h
  have HS : Hid (EyeAt B l i e ((d : Int) + 1) (w.setCell ⟨B, 3, none⟩ (.int .i64 ((d : Int) + 1)))) := ey_set3 h _
  have HM : Hid (Moved B w (w.setCell ⟨B, 3, none⟩ (.int .i64 ((d : Int) + 1)))) := (Moved.refl B w).set 3 _
  have en : ((d + 1 : Nat) : Int) = (d : Int) + 1 := by omega
  rw [en]
  have hd' : (d : Int) < 1000 := by omega
  clear h htok c0 c1 c2 f1 f2
  by_cases h4 : 40 < d + 1
  · have h4' : (40 : Int) < (d : Int) + 1 := by omega
    rw [if_pos h4]
    clear h4
    go_enter Tryz.func214, Tryz.ntmps214
    go_wp2_with fail
    refine (bad_eye B l i e _ 1 _ HS.out).mono ?_
    rintro r w2 ⟨rfl, q1, q2⟩
    have HQ3 := veil q1
    have HQ4 := veil (HM.out.trans q2)
    clear q1 q2
    go_wp2_with fail
    go_end0
    exact ⟨rfl, HQ3.out, HQ4.out⟩
  · have h4' : ¬ (40 : Int) < (d : Int) + 1 := by omega
    rw [if_neg h4]
    clear h4
    go_enter Tryz.func214, Tryz.ntmps214
    go_wp2_with fail
    go_end0
    exact ⟨rfl, HS.out, HM.out⟩

end Go.Proofs.YtagbaimfigljiaaGreatDoor
namespace Go.Proofs.YtagbaimfigljiaaGreatDoor
open Go.RowKit
set_option maxRecDepth 100000

set_option maxHeartbeats 20000000 in
theorem sees_kind (B : Nat) (l : Toks) (i : Nat) (d : Int) (s : ByteArray) (w : World) (h : EyeAt B l i 0 d w) (hlt : i < l.length) (hk : l[i].1 ≠ 4) :
    Calls Tryz.prog 213 #[.pointer (some ⟨B, 0, none⟩), .string s] w fun r w' => r = .returned (.bool false) ∧ EyeAt B l i 0 d w' ∧ Moved B w w' := by
  have HH := veil h
  have HM := veil (Moved.refl B w)
  obtain ⟨ta, tcap, c0, c1, c2, c3, f1, f2, f3, hi, h200, htok⟩ := ey_cells h
  clear h c3 f2 f3
  obtain ⟨b, off, rfl, hbB, t0, t1, hsz⟩ := htok hlt
  have hlt' : ¬ ((l.length : Nat) : Int) ≤ (i : Int) := by omega
  have hlt3 : (i : Int) < (l.length : Int) := by omega
  have HN2 := veil (fun n => ey_set1 (ey_drewN HH.out n) hlt)
  clear htok
  have hk' : (l[i].1 != 4) = true := bne_iff_ne.2 hk
  have hdn : decide (l.length ≤ i) = false := by simp; omega
  have hdi : decide (((l.length : Nat) : Int) ≤ (i : Int)) = false := by simp; omega
  clear hk HN2
  generalize l[i].1 = kd at *
  generalize l[i].2 = tx at *
  go_enter Tryz.func213, Tryz.ntmps213
  go_wp2_with fail
  go_quiet (fail)
  all_goals
    go_wp2_with fail
    go_ret
    exact ⟨rfl, ey_drewN HH.out nq, HM.out.drewN nq⟩

end Go.Proofs.YtagbaimfigljiaaGreatDoor
