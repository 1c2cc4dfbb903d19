/- Plain functions: where a run of bytes ends, what token begins at a place, and into which tokens a text is cut. No program is named here but for the bytes' predicates. -/
import Derived.Test.YtpamadnckijfkabGreatDoorLists
namespace Go.Proofs.YtpamadnckijfkabGreatDoor
open Go.RowKit
set_option maxRecDepth 100000

def endOf (p : Int → Bool) (s : ByteArray) : Nat → Nat → Nat
  | 0, i => i
  | f + 1, i => if i < s.size ∧ p (byteAt s i) = true then endOf p s f (i + 1) else i
def runEnd (p : Int → Bool) (s : ByteArray) (i : Nat) : Nat := endOf p s (s.size - i) i

theorem endOf_spec (p : Int → Bool) (s : ByteArray) : ∀ (f i : Nat), i ≤ s.size → s.size - i ≤ f → RunTo (fun j => p (byteAt s j)) s.size i (endOf p s f i)
  | 0, i, h, hf => ⟨Nat.le_refl _, h, fun j h1 h2 => absurd h2 (by simp only [endOf]; omega), fun h3 => absurd h3 (by simp only [endOf]; omega)⟩
  | f + 1, i, h, hf => by
    unfold endOf
    by_cases hc : i < s.size ∧ p (byteAt s i) = true
    · rw [if_pos hc]
      obtain ⟨a, b, c, d⟩ := endOf_spec p s f (i + 1) (by omega) (by omega)
      refine ⟨by omega, b, fun j h1 h2 => ?_, d⟩
      by_cases e : j = i
      · rw [e]; exact hc.2
      · exact c j (by omega) h2
    · rw [if_neg hc]
      refine ⟨Nat.le_refl _, h, fun j h1 h2 => absurd h2 (by omega), fun h3 => ?_⟩
      cases e : p (byteAt s i) with
      | false => exact e
      | true => exact absurd ⟨h3, e⟩ hc

theorem runEnd_spec (p : Int → Bool) (s : ByteArray) (i : Nat) (h : i ≤ s.size) : RunTo (fun j => p (byteAt s j)) s.size i (runEnd p s i) := endOf_spec p s _ i h (Nat.le_refl _)

theorem runTo_unique {p : Nat → Bool} {n a k k' : Nat} (h : RunTo p n a k) (h' : RunTo p n a k') : k = k' := by
  obtain ⟨h1, h2, h3, h4⟩ := h
  obtain ⟨g1, g2, g3, g4⟩ := h'
  rcases Nat.lt_trichotomy k k' with hlt | he | hgt
  · have a := h4 (by omega)
    rw [g3 k h1 hlt] at a
    cases a
  · exact he
  · have a := g4 (by omega)
    rw [h3 k' g1 hgt] at a
    cases a

theorem runTo_eq {p : Int → Bool} {s : ByteArray} {a k : Nat} (ha : a ≤ s.size) (h : RunTo (fun j => p (byteAt s j)) s.size a k) : k = runEnd p s a := runTo_unique h (runEnd_spec p s a ha)

theorem runTo_pred {p : Nat → Bool} {n a k : Nat} (h : RunTo p n (a + 1) k) (ha : p a = true) : RunTo p n a k := by
  obtain ⟨h1, h2, h3, h4⟩ := h
  refine ⟨by omega, h2, fun j g1 g2 => ?_, h4⟩
  by_cases e : j = a
  · rw [e]; exact ha
  · exact h3 j (by omega) g2

def notQuote (b : Int) : Bool := b != 34
def isBlank (b : Int) : Bool := b == 32

/-- the token that begins at a place, and where it ends; none: a quote without an end. -/
def nextTok (s : ByteArray) (i : Nat) : Option ((Int × ByteArray) × Nat) :=
  if byteAt s i = 34 then
    (if runEnd notQuote s (i + 1) = s.size then none else some ((3, s.extract (i + 1) (runEnd notQuote s (i + 1))), runEnd notQuote s (i + 1) + 1))
  else if isLetter (byteAt s i) = true then some ((1, s.extract i (runEnd isWordB s i)), runEnd isWordB s i)
  else if isDigit (byteAt s i) = true then some ((2, s.extract i (runEnd isWordB s i)), runEnd isWordB s i)
  else some ((4, s.extract i (i + 1)), i + 1)

theorem size_extract_le (s : ByteArray) (a b : Nat) : (s.extract a b).size ≤ s.size := by
  rw [ByteArray.size_extract]; omega

theorem runEnd_gt {p : Int → Bool} {s : ByteArray} {i : Nat} (hi : i < s.size) (hp : p (byteAt s i) = true) : i < runEnd p s i := by
  obtain ⟨h1, h2, h3, h4⟩ := runEnd_spec p s i (by omega)
  rcases Nat.lt_or_ge i (runEnd p s i) with h | h
  · exact h
  · have e : runEnd p s i = i := by omega
    rw [e] at h4
    have h5 : p (byteAt s i) = false := h4 hi
    rw [hp] at h5
    cases h5

theorem nextTok_bd {s : ByteArray} {i : Nat} {t : Int × ByteArray} {e : Nat} (hi : i < s.size) (h : nextTok s i = some (t, e)) : i < e ∧ e ≤ s.size ∧ t.2.size ≤ s.size := by
  unfold nextTok at h
  have hle := fun (p : Int → Bool) (a : Nat) (ha : a ≤ s.size) => (runEnd_spec p s a ha).2.1
  split at h
  · split at h
    · cases h
    · rename_i hne
      simp only [Option.some.injEq, Prod.mk.injEq] at h
      obtain ⟨rfl, rfl⟩ := h
      have h1 := hle notQuote (i + 1) (by omega)
      have h2 := (runEnd_spec notQuote s (i + 1) (by omega)).1
      exact ⟨by omega, by omega, size_extract_le _ _ _⟩
  · split at h
    · rename_i hl
      simp only [Option.some.injEq, Prod.mk.injEq] at h
      obtain ⟨rfl, rfl⟩ := h
      exact ⟨runEnd_gt hi (by simp [isWordB, hl]), hle isWordB i (by omega), size_extract_le _ _ _⟩
    · split at h
      · rename_i hd
        simp only [Option.some.injEq, Prod.mk.injEq] at h
        obtain ⟨rfl, rfl⟩ := h
        exact ⟨runEnd_gt hi (by simp [isWordB, hd]), hle isWordB i (by omega), size_extract_le _ _ _⟩
      · simp only [Option.some.injEq, Prod.mk.injEq] at h
        obtain ⟨rfl, rfl⟩ := h
        exact ⟨by omega, by omega, size_extract_le _ _ _⟩

/-- the tokens of a text from a place on, by so many steps; none: something is no token. -/
def cutF (s : ByteArray) : Nat → Nat → Option (List (Int × ByteArray))
  | 0, _ => some []
  | f + 1, i =>
    if i < s.size then
      (if byteAt s i = 32 then cutF s f (i + 1)
       else match nextTok s i with
        | none => none
        | some (t, e) => if faultOf t = 0 then (cutF s f e).map (t :: ·) else none)
    else some []
def cutAt (s : ByteArray) (i : Nat) : Option (List (Int × ByteArray)) := cutF s (s.size - i) i

theorem cutF_past (s : ByteArray) (i : Nat) (h : ¬ i < s.size) : ∀ f, cutF s f i = some []
  | 0 => rfl
  | f + 1 => by unfold cutF; rw [if_neg h]

theorem cutF_enough (s : ByteArray) : ∀ (f g i : Nat), s.size - i ≤ f → s.size - i ≤ g → cutF s f i = cutF s g i
  | 0, g, i, hf, _ => by rw [cutF_past s i (by omega), cutF_past s i (by omega)]
  | f + 1, 0, i, _, hg => by rw [cutF_past s i (by omega), cutF_past s i (by omega)]
  | f + 1, g + 1, i, hf, hg => by
    unfold cutF
    by_cases hi : i < s.size
    · rw [if_pos hi, if_pos hi]
      by_cases hb : byteAt s i = 32
      · rw [if_pos hb, if_pos hb]
        exact cutF_enough s f g (i + 1) (by omega) (by omega)
      · rw [if_neg hb, if_neg hb]
        cases hn : nextTok s i with
        | none => rfl
        | some te =>
          obtain ⟨t, e⟩ := te
          have hbd := nextTok_bd hi hn
          show (if faultOf t = 0 then (cutF s f e).map (t :: ·) else none) = (if faultOf t = 0 then (cutF s g e).map (t :: ·) else none)
          rw [cutF_enough s f g e (by omega) (by omega)]
    · rw [if_neg hi, if_neg hi]

theorem cutAt_past {s : ByteArray} {i : Nat} (h : ¬ i < s.size) : cutAt s i = some [] := cutF_past s i h _

theorem cutAt_step {s : ByteArray} {i : Nat} (hi : i < s.size) : cutAt s i =
    (if byteAt s i = 32 then cutAt s (i + 1) else match nextTok s i with
      | none => none
      | some (t, e) => if faultOf t = 0 then (cutAt s e).map (t :: ·) else none) := by
  unfold cutAt
  obtain ⟨f, hf⟩ : ∃ f, s.size - i = f + 1 := ⟨s.size - i - 1, by omega⟩
  rw [hf]
  conv => lhs; unfold cutF
  rw [if_pos hi]
  by_cases hb : byteAt s i = 32
  · rw [if_pos hb, if_pos hb]
    exact cutF_enough s _ _ _ (by omega) (by omega)
  · rw [if_neg hb, if_neg hb]
    cases hn : nextTok s i with
    | none => rfl
    | some te =>
      obtain ⟨t, e⟩ := te
      have hbd := nextTok_bd hi hn
      show (if faultOf t = 0 then (cutF s f e).map (t :: ·) else none) = (if faultOf t = 0 then (cutF s (s.size - e) e).map (t :: ·) else none)
      rw [cutF_enough s f (s.size - e) e (by omega) (by omega)]

theorem cutAt_blank {s : ByteArray} {i : Nat} (hi : i < s.size) (hb : byteAt s i = 32) : cutAt s i = cutAt s (i + 1) := by
  rw [cutAt_step hi, if_pos hb]
theorem cutAt_none {s : ByteArray} {i : Nat} (hi : i < s.size) (hb : byteAt s i ≠ 32) (hn : nextTok s i = none) : cutAt s i = none := by
  rw [cutAt_step hi, if_neg hb, hn]
theorem cutAt_bad {s : ByteArray} {i : Nat} {t : Int × ByteArray} {e : Nat} (hi : i < s.size) (hb : byteAt s i ≠ 32) (hn : nextTok s i = some (t, e)) (hf : faultOf t ≠ 0) : cutAt s i = none := by
  rw [cutAt_step hi, if_neg hb, hn]
  exact if_neg hf
theorem cutAt_good {s : ByteArray} {i : Nat} {t : Int × ByteArray} {e : Nat} (hi : i < s.size) (hb : byteAt s i ≠ 32) (hn : nextTok s i = some (t, e)) (hf : faultOf t = 0) : cutAt s i = (cutAt s e).map (t :: ·) := by
  rw [cutAt_step hi, if_neg hb, hn]
  exact if_pos hf

theorem cutAt_skip {s : ByteArray} {k : Nat} : ∀ (d a : Nat), a + d = k → k ≤ s.size → (∀ j, a ≤ j → j < k → byteAt s j = 32) → cutAt s a = cutAt s k
  | 0, a, h, _, _ => by rw [← h]; rfl
  | d + 1, a, h, hk, hall => by
    rw [cutAt_blank (by omega) (hall a (Nat.le_refl _) (by omega))]
    exact cutAt_skip d (a + 1) (by omega) hk fun j h1 h2 => hall j (by omega) h2

theorem cutAt_run {s : ByteArray} {a : Nat} (ha : a ≤ s.size) : cutAt s (runEnd isBlank s a) = cutAt s a := by
  obtain ⟨h1, h2, h3, _⟩ := runEnd_spec isBlank s a ha
  refine (cutAt_skip (runEnd isBlank s a - a) a (by omega) h2 fun j g1 g2 => ?_).symm
  have := h3 j g1 g2
  simpa [isBlank] using this

/-- what the two functions answer: an error's number, and the tokens. -/
def cutErr (s : ByteArray) : Int :=
  if 1500 < s.size then 1 else match cutAt s 0 with
    | none => 4
    | some l => if 200 < l.length then 1 else 0
def cutToks (s : ByteArray) : List (Int × ByteArray) :=
  if 1500 < s.size then [] else match cutAt s 0 with
    | none => []
    | some l => if 200 < l.length then [] else l

end Go.Proofs.YtpamadnckijfkabGreatDoor
