/- Plain facts on texts: what was shown is cut as it was; blanks ahead change nothing; what is cut are tokens that may be. -/
import Derived.Test.YtcohalgmbgkllabCutSpec
import Derived.Test.YtcohalgmbgkllabShow
namespace Go.Proofs.Ytcohalgmbgkllab
open Go.RowKit

theorem cutF_valid (s : ByteArray) : ∀ (f i : Nat) (l : List (Int × ByteArray)), cutF s f i = some l → ∀ t ∈ l, faultOf t = 0
  | 0, _, l, h, t, ht => by
    simp only [cutF, Option.some.injEq] at h
    rw [← h] at ht
    cases ht
  | f + 1, i, l, h, t, ht => by
    unfold cutF at h
    split at h
    · split at h
      · exact cutF_valid s f _ l h t ht
      · split at h
        · cases h
        · rename_i u e _
          split at h
          · rename_i hu
            obtain ⟨r, hr, rfl⟩ := Option.map_eq_some_iff.1 h
            rcases List.mem_cons.1 ht with rfl | ht
            · exact hu
            · exact cutF_valid s f e r hr t ht
          · cases h
    · simp only [Option.some.injEq] at h
      rw [← h] at ht
      cases ht

theorem faults_valid : ∀ (l : List (Int × ByteArray)), (∀ t ∈ l, faultOf t = 0) → faults l = 0
  | [], _ => rfl
  | t :: r, h => by
    simp only [faults, h t (List.mem_cons_self ..), if_true]
    exact faults_valid r fun u hu => h u (List.mem_cons_of_mem _ hu)

theorem ba_ext {x y : ByteArray} (h : x.data.toList = y.data.toList) : x = y := by
  rw [← textOf_data x, ← textOf_data y, h]

theorem byteAt_list {T : ByteArray} {L : List UInt8} (h : T.data.toList = L) (j : Nat) : byteAt T j = ((L.getD j 0).toNat : Int) := by rw [byteAt, h]

theorem getD_mid (A W R : List UInt8) (i : Nat) (hi : i < W.length) : (A ++ (W ++ R)).getD (A.length + i) 0 = W.getD i 0 := by
  simp [List.getD_eq_getElem?_getD, List.getElem?_append_right, List.getElem?_append_left hi]
theorem getD_end (A W R : List UInt8) : (A ++ (W ++ R)).getD (A.length + W.length) 0 = R.getD 0 0 := by
  simp [List.getD_eq_getElem?_getD, List.getElem?_append_right]

theorem take_mid (A W R : List UInt8) (a n : Nat) : ((A ++ (W ++ R)).drop (A.length + a)).take n = ((W ++ R).drop a).take n := by
  rw [List.drop_append, List.drop_eq_nil_of_le (by omega), List.nil_append]
  congr 2
  omega

/-- what follows a token: nothing, or a blank. -/
def Ends (R : List UInt8) : Prop := R = [] ∨ ∃ R', R = 32 :: R'

theorem run_mid {p : Int → Bool} {T : ByteArray} {A W R : List UInt8} (hT : T.data.toList = A ++ (W ++ R)) (hW : ∀ i, i < W.length → p ((W.getD i 0).toNat : Int) = true) (hR : R = [] ∨ p ((R.getD 0 0).toNat : Int) = false) :
    runEnd p T A.length = A.length + W.length := by
  have hs : T.size = A.length + (W.length + R.length) := by rw [Lib.size_eq, hT]; simp
  refine (runTo_eq (by omega) ⟨by omega, by omega, fun j h1 h2 => ?_, fun h => ?_⟩).symm
  · show p (byteAt T j) = true
    rw [byteAt_list hT, show j = A.length + (j - A.length) by omega, getD_mid _ _ _ _ (by omega)]
    exact hW _ (by omega)
  · show p (byteAt T (A.length + W.length)) = false
    rw [byteAt_list hT, getD_end]
    rcases hR with hR | hR
    · rw [hR] at hs
      simp at hs
      omega
    · exact hR

theorem word_parts {t : ByteArray} (h : wordOk t = true) : 0 < t.data.toList.length ∧ isLetter ((t.data.toList.getD 0 0).toNat : Int) = true ∧ ∀ i, i < t.data.toList.length → isWordB ((t.data.toList.getD i 0).toNat : Int) = true := by
  simp only [wordOk, Bool.and_eq_true, allB_iff] at h
  obtain ⟨h1, h2, h3⟩ := h
  simp only [isIn, Bool.and_eq_true, decide_eq_true_eq] at h1
  refine ⟨by rw [← Lib.size_eq]; omega, h2, fun i hi => h3 i (by rw [Lib.size_eq]; exact hi)⟩
theorem num_parts {t : ByteArray} (h : numOk t = true) : 0 < t.data.toList.length ∧ ∀ i, i < t.data.toList.length → isDigit ((t.data.toList.getD i 0).toNat : Int) = true := by
  simp only [numOk, Bool.and_eq_true, allB_iff] at h
  obtain ⟨h3, h1, _⟩ := h
  simp only [isIn, Bool.and_eq_true, decide_eq_true_eq] at h1
  exact ⟨by rw [← Lib.size_eq]; omega, fun i hi => h3 i (by rw [Lib.size_eq]; exact hi)⟩
theorem quote_parts {t : ByteArray} (h : quoteOk t = true) : ∀ i, i < t.data.toList.length → notQuote ((t.data.toList.getD i 0).toNat : Int) = true := by
  simp only [quoteOk, Bool.and_eq_true, allB_iff] at h
  intro i hi
  have := h.2 i (by rw [Lib.size_eq]; exact hi)
  simp only [isQuoteB, Bool.and_eq_true, decide_eq_true_eq] at this
  have h34 := this.1.2
  simp only [notQuote, bne_iff_ne]
  exact h34
theorem sign_parts {t : ByteArray} (h : signOk t = true) : ∃ c, t.data.toList = [c] ∧ c ∈ allSigns := by
  unfold signOk at h
  split at h
  · rename_i c e
    exact ⟨c, e, by simpa using h⟩
  · cases h

theorem digit_not_letter {b : Int} (h : isDigit b = true) : isLetter b = false := by
  simp only [isDigit, Bool.and_eq_true, decide_eq_true_eq] at h
  simp [isLetter]; omega
theorem wordB_plain {b : Int} (h : isWordB b = true) : b ≠ 34 ∧ b ≠ 32 := by
  simp only [isWordB, isLetter, isDigit, Bool.or_eq_true, Bool.and_eq_true, decide_eq_true_eq] at h
  omega

theorem sign_plain {c : UInt8} (h : c ∈ allSigns) : ((c.toNat : Int) ≠ 34 ∧ (c.toNat : Int) ≠ 32) ∧ isLetter (c.toNat : Int) = false ∧ isDigit (c.toNat : Int) = false := by
  simp only [allSigns, List.mem_cons, List.not_mem_nil, or_false] at h
  rcases h with rfl | rfl | rfl | rfl | rfl | rfl | rfl | rfl | rfl | rfl | rfl <;> exact ⟨⟨by decide, by decide⟩, rfl, rfl⟩

theorem fault_ok {k : Int} {t : ByteArray} (h : tokFault k t = 0) : (k = 1 ∧ wordOk t = true) ∨ (k = 2 ∧ numOk t = true) ∨ (k = 3 ∧ quoteOk t = true) ∨ (k = 4 ∧ signOk t = true) := by
  unfold tokFault at h
  split at h
  · rename_i hk
    split at h
    · rename_i ho
      unfold tokOk at ho
      split at ho
      · exact Or.inl ⟨‹_›, ho⟩
      · split at ho
        · exact Or.inr (Or.inl ⟨‹_›, ho⟩)
        · split at ho
          · exact Or.inr (Or.inr (Or.inl ⟨‹_›, ho⟩))
          · exact Or.inr (Or.inr (Or.inr ⟨by omega, ho⟩))
    · omega
  · omega

theorem ends_not {p : Int → Bool} {R : List UInt8} (h : Ends R) (hp : p 32 = false) : R = [] ∨ p ((R.getD 0 0).toNat : Int) = false := by
  rcases h with h | ⟨R', rfl⟩
  · exact Or.inl h
  · exact Or.inr hp

/-- a token that was written is the next one. -/
theorem next_shown {T : ByteArray} {A R : List UInt8} {t : Int × ByteArray} (hT : T.data.toList = A ++ (writtenL t ++ R)) (hR : Ends R) (hf : faultOf t = 0) :
    nextTok T A.length = some (t, A.length + (writtenL t).length) ∧ byteAt T A.length ≠ 32 ∧ A.length < T.size := by
  obtain ⟨k, t⟩ := t
  have hs : T.size = A.length + ((writtenL (k, t)).length + R.length) := by rw [Lib.size_eq, hT]; simp
  have hf' : tokFault k t = 0 := hf
  rcases fault_ok hf' with ⟨rfl, h⟩ | ⟨rfl, h⟩ | ⟨rfl, h⟩ | ⟨rfl, h⟩
  · have hw : writtenL (1, t) = t.data.toList := rfl
    rw [hw] at hT hs ⊢
    obtain ⟨h0, hl, hall⟩ := word_parts h
    have hb : byteAt T A.length = ((t.data.toList.getD 0 0).toNat : Int) := by rw [byteAt_list hT]; exact congrArg (fun x : UInt8 => (x.toNat : Int)) (getD_mid A t.data.toList R 0 h0)
    have hp := wordB_plain (hall 0 h0)
    have hr := run_mid hT hall (ends_not hR rfl)
    refine ⟨?_, by rw [hb]; exact hp.2, by omega⟩
    unfold nextTok
    rw [if_neg (by rw [hb]; exact hp.1), if_pos (by rw [hb]; exact hl), hr]
    congr 3
    apply ba_ext
    rw [Lib.extract_data, hT, show A.length + t.data.toList.length - A.length = t.data.toList.length by omega]
    simp
  · have hw : writtenL (2, t) = t.data.toList := rfl
    rw [hw] at hT hs ⊢
    obtain ⟨h0, hall⟩ := num_parts h
    have hd := hall 0 h0
    have hb : byteAt T A.length = ((t.data.toList.getD 0 0).toNat : Int) := by rw [byteAt_list hT]; exact congrArg (fun x : UInt8 => (x.toNat : Int)) (getD_mid A t.data.toList R 0 h0)
    have hwb : ∀ i, i < t.data.toList.length → isWordB ((t.data.toList.getD i 0).toNat : Int) = true := fun i hi => by rw [isWordB, hall i hi, Bool.or_true]
    have hp := wordB_plain (hwb 0 h0)
    have hr := run_mid hT hwb (ends_not hR rfl)
    refine ⟨?_, by rw [hb]; exact hp.2, by omega⟩
    unfold nextTok
    rw [if_neg (by rw [hb]; exact hp.1), if_neg (by rw [hb, digit_not_letter hd]; exact Bool.false_ne_true), if_pos (by rw [hb]; exact hd), hr]
    congr 3
    apply ba_ext
    rw [Lib.extract_data, hT, show A.length + t.data.toList.length - A.length = t.data.toList.length by omega]
    simp
  · have hw : writtenL (3, t) = 34 :: (t.data.toList ++ [34]) := rfl
    rw [hw] at hT hs ⊢
    have hall := quote_parts h
    have hb : byteAt T A.length = 34 := by rw [byteAt_list hT]; exact congrArg (fun x : UInt8 => (x.toNat : Int)) (getD_mid A (34 :: (t.data.toList ++ [34])) R 0 (by simp))
    have hT' : T.data.toList = (A ++ [34]) ++ (t.data.toList ++ (34 :: R)) := by rw [hT]; simp
    have hr := run_mid hT' hall (Or.inr rfl)
    simp only [List.length_append, List.length_cons, List.length_nil] at hr hs
    refine ⟨?_, by rw [hb]; decide, by omega⟩
    unfold nextTok
    rw [if_pos hb, hr, if_neg (by omega)]
    simp only [List.length_append, List.length_cons, List.length_nil]
    refine congrArg some (Prod.ext (Prod.ext rfl (ba_ext ?_)) ?_)
    · show (T.extract (A.length + 1) (A.length + (0 + 1) + t.data.toList.length)).data.toList = t.data.toList
      rw [Lib.extract_data, hT', show A.length + (0 + 1) + t.data.toList.length - (A.length + 1) = t.data.toList.length by omega, show A.length + 1 = (A ++ [34]).length by simp, List.drop_left]
      simp
    · show A.length + (0 + 1) + t.data.toList.length + 1 = A.length + (t.data.toList.length + (0 + 1) + 1)
      omega
  · obtain ⟨c, hc, hm⟩ := sign_parts h
    have hw : writtenL (4, t) = [c] := hc
    rw [hw] at hT hs ⊢
    obtain ⟨hp, hl, hd⟩ := sign_plain hm
    have hb : byteAt T A.length = (c.toNat : Int) := by rw [byteAt_list hT]; exact congrArg (fun x : UInt8 => (x.toNat : Int)) (getD_mid A [c] R 0 (by simp))
    simp only [List.length_cons, List.length_nil] at hs
    refine ⟨?_, by rw [hb]; exact hp.2, by omega⟩
    unfold nextTok
    rw [if_neg (by rw [hb]; exact hp.1), if_neg (by rw [hb, hl]; exact Bool.false_ne_true), if_neg (by rw [hb, hd]; exact Bool.false_ne_true)]
    congr 3
    apply ba_ext
    rw [Lib.extract_data, hT, hc, show A.length + 1 - A.length = 1 by omega]
    simp

/-- the texts of tokens, a blank ahead of each but the first. -/
def restF : Bool → List (Int × ByteArray) → List UInt8
  | _, [] => []
  | first, t :: r => (if first then [] else [32]) ++ (writtenL t ++ restF false r)

theorem restF_ends : ∀ r, Ends (restF false r)
  | [] => Or.inl rfl
  | t :: r => Or.inr ⟨writtenL t ++ restF false r, by simp [restF]⟩

theorem show_rest (l : List (Int × ByteArray)) : ∀ k, k ≤ l.length → showTo l k ++ restF (decide (k = 0)) (l.drop k) = restF true l
  | 0, _ => by simp [showTo]
  | k + 1, h => by
    have ih := show_rest l k (by omega)
    rw [← ih]
    have hd : l.drop k = l.getD k (0, .empty) :: l.drop (k + 1) := by
      rw [List.drop_eq_getElem_cons (by omega), List.getD_eq_getElem?_getD, List.getElem?_eq_getElem (by omega)]
      rfl
    rw [hd]
    by_cases hk : k = 0
    · subst hk
      simp [showTo, restF]
    · simp [showTo, restF, hk]

theorem show_all (l : List (Int × ByteArray)) : showTo l l.length = restF true l := by
  have h := show_rest l l.length (Nat.le_refl _)
  rw [List.drop_of_length_le (Nat.le_refl _)] at h
  rw [← h]
  cases decide (l.length = 0) <;> simp [restF]

theorem cut_shown : ∀ (r : List (Int × ByteArray)) (first : Bool) (A : List UInt8) (T : ByteArray), T.data.toList = A ++ restF first r → (∀ t ∈ r, faultOf t = 0) → cutAt T A.length = some r
  | [], first, A, T, hT, _ => by
    have hs : T.size = A.length := by rw [Lib.size_eq, hT]; cases first <;> simp [restF]
    exact cutAt_past (by omega)
  | t :: r, first, A, T, hT, hv => by
    have hf := hv t (List.mem_cons_self ..)
    have core : ∀ A : List UInt8, T.data.toList = A ++ (writtenL t ++ restF false r) → cutAt T A.length = some (t :: r) := fun A hA => by
      obtain ⟨hn, hb, hlt⟩ := next_shown hA (restF_ends r) hf
      rw [cutAt_good hlt hb hn hf, show A.length + (writtenL t).length = (A ++ writtenL t).length by simp]
      rw [cut_shown r false (A ++ writtenL t) T (by rw [hA]; simp) fun u hu => hv u (List.mem_cons_of_mem _ hu)]
      rfl
    cases first with
    | true => exact core A (by rw [hT]; simp [restF])
    | false =>
      have hT' : T.data.toList = A ++ ([32] ++ (writtenL t ++ restF false r)) := by rw [hT]; simp [restF]
      have hs : T.size = A.length + (1 + ((writtenL t).length + (restF false r).length)) := by rw [Lib.size_eq, hT']; simp; omega
      have hb : byteAt T A.length = 32 := by rw [byteAt_list hT']; exact congrArg (fun x : UInt8 => (x.toNat : Int)) (getD_mid A [32] _ 0 (by simp))
      rw [cutAt_blank (by omega) hb, show A.length + 1 = (A ++ [32]).length by simp]
      exact core (A ++ [32]) (by rw [hT']; simp)

theorem cut_back (l : List (Int × ByteArray)) (hv : ∀ t ∈ l, faultOf t = 0) : cutAt (textOf (showTo l l.length)) 0 = some l := by
  rw [show_all]
  exact cut_shown l true [] _ (by simp [textOf]) hv

end Go.Proofs.Ytcohalgmbgkllab
