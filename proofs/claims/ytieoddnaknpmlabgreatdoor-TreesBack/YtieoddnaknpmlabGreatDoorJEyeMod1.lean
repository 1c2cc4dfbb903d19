/- The lines of a text, byte by byte. -/
import Derived.Test.YtieoddnaknpmlabGreatDoorJL
namespace Go.Proofs.YtieoddnaknpmlabGreatDoor
open Go.RowKit
set_option maxRecDepth 100000

/-- a list of bytes, cut at each line's end. -/
def splitL : List UInt8 → List (List UInt8)
  | [] => [[]]
  | c :: l => if c = 10 then [] :: splitL l else match splitL l with
    | [] => [[c]]
    | h :: t => (c :: h) :: t

theorem splitL_ne : ∀ l : List UInt8, splitL l ≠ []
  | [] => by simp [splitL]
  | c :: l => by
    unfold splitL
    split
    · simp
    · split <;> simp

/-- what is laid ahead of the first line. -/
def aheadL (p : List UInt8) (ls : List (List UInt8)) : List (List UInt8) := match ls with
  | [] => []
  | h :: t => (p ++ h) :: t

theorem splitL_free : ∀ (p l : List UInt8), (10 : UInt8) ∉ p → splitL (p ++ l) = aheadL p (splitL l)
  | [], l, _ => by
    cases h : splitL l with
    | nil => exact absurd h (splitL_ne l)
    | cons a t => simp [aheadL, h]
  | c :: p, l, hp => by
    have hc : c ≠ 10 := fun e => hp (by rw [e]; exact List.mem_cons_self)
    have ih := splitL_free p l (fun e => hp (List.mem_cons_of_mem _ e))
    rw [List.cons_append, splitL, if_neg hc, ih]
    cases h : splitL l with
    | nil => exact absurd h (splitL_ne l)
    | cons a t => rfl

theorem splitL_hit (p l : List UInt8) (hp : (10 : UInt8) ∉ p) : splitL (p ++ 10 :: l) = p :: splitL l := by
  rw [splitL_free p _ hp, splitL, if_pos rfl]
  simp [aheadL]

theorem splitL_miss (p : List UInt8) (hp : (10 : UInt8) ∉ p) : splitL p = [p] := by
  have := splitL_free p [] hp
  rw [List.append_nil] at this
  rw [this]
  simp [aheadL, splitL]

theorem lines_data (n : Nat) : ∀ s : ByteArray, s.size ≤ n → (linesOf s).map (·.data.toList) = splitL s.data.toList := by
  induction n with
  | zero =>
    intro s hs
    have h0 : s.data.toList = [] := List.length_eq_zero_iff.1 (by rw [← Lib.size_eq]; omega)
    have hi : Lib.indexB s ⟨#[10]⟩ = -1 := by
      rw [show Lib.indexB s ⟨#[10]⟩ = Lib.indexByte s.data.toList 10 from Lib.index_one _ _, h0]
      rfl
    unfold linesOf
    rw [Lib.splitB_miss _ _ _ _ hi, h0]
    simp [h0, splitL]
  | succ n ih =>
    intro s hs
    have hge := Lib.indexByte_ge s.data.toList 10
    have he : Lib.indexB s ⟨#[10]⟩ = Lib.indexByte s.data.toList 10 := Lib.index_one _ _
    by_cases hi : Lib.indexByte s.data.toList 10 = -1
    · have hm : (10 : UInt8) ∉ s.data.toList := fun h => by
        obtain ⟨k, hk⟩ := List.getElem?_of_mem h
        exact Lib.indexByte_none hi k hk
      unfold linesOf
      rw [Lib.splitB_miss _ _ _ _ (he.trans hi), splitL_miss _ hm]
      rfl
    · obtain ⟨i, ho⟩ := Int.eq_ofNat_of_zero_le (show 0 ≤ Lib.indexByte s.data.toList 10 by omega)
      obtain ⟨h1, h2⟩ := Lib.indexByte_some ho
      have hlt : i < s.data.toList.length := (List.getElem?_eq_some_iff.1 h1).1
      have hsz := Lib.size_eq s
      have hcount := Lib.countB_hit s ⟨#[10]⟩ i (Nat.le_refl _) (he.trans ho)
      have e1 : (⟨#[10]⟩ : ByteArray).size = 1 := rfl
      rw [e1] at hcount
      unfold linesOf
      rw [hcount, Nat.add_comm 1, Lib.splitB_hit _ _ _ _ i (he.trans ho), e1, List.map_cons]
      have ih' := ih (s.extract (i + 1) s.size) (by rw [ByteArray.size_extract]; omega)
      unfold linesOf at ih'
      rw [ih', Nat.add_zero]
      have hp : (10 : UInt8) ∉ s.data.toList.take i := fun h => by
        obtain ⟨k, hk⟩ := List.getElem?_of_mem h
        have hki : k < i := by
          have := (List.getElem?_eq_some_iff.1 hk).1
          rw [List.length_take] at this
          omega
        rw [List.getElem?_take_of_lt hki] at hk
        exact h2 k hki hk
      have hsplit : s.data.toList = s.data.toList.take i ++ 10 :: s.data.toList.drop (i + 1) := by
        have h3 : s.data.toList[i] = 10 := (List.getElem?_eq_some_iff.1 h1).2
        rw [← h3, ← List.drop_eq_getElem_cons hlt, List.take_append_drop]
      rw [Lib.extract_to_end, Lib.extract_data]
      conv => rhs; rw [hsplit]
      rw [splitL_hit _ _ hp]
      simp

/-- the lines that are left, where the one at hand began at f. -/
def restL (s : ByteArray) (f i : Nat) : List ByteArray := if i ≤ s.size then (aheadL ((s.data.toList.drop f).take (i - f)) (splitL (s.data.toList.drop i))).map (fun l => ⟨l.toArray⟩) else []

theorem map_mk : ∀ ls : List ByteArray, (ls.map (·.data.toList)).map (fun l => (⟨l.toArray⟩ : ByteArray)) = ls
  | [] => rfl
  | x :: r => by rw [List.map_cons, List.map_cons, map_mk r, Lib.mk_data]

theorem restL_start (s : ByteArray) : restL s 0 0 = linesOf s := by
  unfold restL
  rw [if_pos (Nat.zero_le _)]
  have : aheadL ((s.data.toList.drop 0).take (0 - 0)) (splitL (s.data.toList.drop 0)) = splitL s.data.toList := by
    rw [List.drop_zero]
    cases h : splitL s.data.toList with
    | nil => exact absurd h (splitL_ne _)
    | cons a t => simp [aheadL]
  rw [this, ← lines_data s.size s (Nat.le_refl _), map_mk]

theorem byte_list {s : ByteArray} {i : Nat} (hi : i < s.size) : s.data.toList.drop i = s[i] :: s.data.toList.drop (i + 1) := by
  have hl : i < s.data.toList.length := by rw [← Lib.size_eq]; exact hi
  rw [List.drop_eq_getElem_cons hl]
  rfl

theorem restL_on {s : ByteArray} {f i : Nat} (hi : i < s.size) (hf : f ≤ i) (hb : (((s[i]'hi).toNat : Int) == 10) = false) : restL s f i = restL s f (i + 1) := by
  have hne : s[i] ≠ 10 := by
    intro e
    rw [e] at hb
    exact absurd hb (by decide)
  unfold restL
  rw [if_pos (by omega), if_pos (by omega), byte_list hi, splitL, if_neg hne]
  congr 1
  cases h : splitL (s.data.toList.drop (i + 1)) with
  | nil => exact absurd h (splitL_ne _)
  | cons a t =>
    show (_ ++ _ :: a) :: t = (_ ++ a) :: t
    congr 1
    have hl : i - f < (s.data.toList.drop f).length := by rw [List.length_drop, ← Lib.size_eq]; omega
    rw [show i + 1 - f = i - f + 1 by omega, List.take_succ_eq_append_getElem hl, List.append_assoc]
    congr 1
    rw [List.getElem_drop]
    simp only [List.singleton_append, List.cons.injEq, and_true]
    show s.data.toList[i]'_ = _
    congr 1
    omega

theorem restL_cut {s : ByteArray} {f i : Nat} (hi : i < s.size) (hb : ((s[i]'hi).toNat : Int) = 10) : restL s f i = s.extract f i :: restL s (i + 1) (i + 1) := by
  have he : s[i] = 10 := UInt8.toNat_inj.1 (by have h' : (s[i]'hi).toNat = 10 := by omega
                                               rw [h']; rfl)
  unfold restL
  rw [if_pos (by omega), if_pos (by omega), byte_list hi, splitL, if_pos he]
  show (⟨((s.data.toList.drop f).take (i - f) ++ []).toArray⟩ : ByteArray) :: _ = _
  congr 1
  · rw [List.append_nil, ← Lib.extract_data, Lib.mk_data]
  · congr 1
    cases h : splitL (s.data.toList.drop (i + 1)) with
    | nil => exact absurd h (splitL_ne _)
    | cons a t => simp [aheadL]

theorem restL_last {s : ByteArray} {f : Nat} : restL s f s.size = s.extract f s.size :: restL s (s.size + 1) (s.size + 1) := by
  unfold restL
  rw [if_pos (Nat.le_refl _), if_neg (by omega)]
  have h0 : s.data.toList.drop s.size = [] := by rw [Lib.size_eq, List.drop_length]
  rw [h0]
  show (⟨((s.data.toList.drop f).take (s.size - f) ++ []).toArray⟩ : ByteArray) :: [] = _
  congr 1
  rw [List.append_nil, ← Lib.extract_data, Lib.mk_data]

theorem restL_past {s : ByteArray} {f : Nat} : restL s f (s.size + 1) = [] := by unfold restL; rw [if_neg (by omega)]

end Go.Proofs.YtieoddnaknpmlabGreatDoor
