/- The reference's way to ask whether a node leads to one, in plain words: it says what the walk says. -/
import Derived.Test.YtedpiamfpbdhoaaGrOrder
namespace Go.Proofs.Ytedpiamfpbdhoaa
open Go.RowKit

theorem order_pair {α : Type} {fault : α → Int} {name : α → ByteArray} : ∀ {l : List α} {p : ByteArray}, orderFault fault name l p = 0 → l.Pairwise (fun a b => gtB (name b) (name a) = true)
  | [], _, _ => .nil
  | y :: r, p, h => by
    rw [orderFault] at h
    by_cases hf : fault y = 0
    · rw [if_pos hf] at h
      by_cases hg : gtB (name y) p = true
      · rw [if_pos hg] at h
        exact .cons (fun x hx => (order_all (fun _ h => h) h x hx).1) (order_pair h)
      · rw [if_neg hg] at h; exact absurd h (by decide)
    · rw [if_neg hf] at h; exact absurd h hf

theorem find_is {α : Type} {p : α → Bool} : ∀ {l : List α} (h : findAt p l < l.length), p l[findAt p l] = true
  | [], h => absurd h (by simp [findAt])
  | x :: r, h => by
    by_cases hx : p x = true
    · have e : findAt p (x :: r) = 0 := by rw [findAt, if_pos hx]
      simp only [e]; exact hx
    · have e : findAt p (x :: r) = findAt p r + 1 := by rw [findAt, if_neg hx]
      simp only [e, List.getElem_cons_succ]
      exact find_is (by rw [e] at h; simpa using h)
theorem find_first {α : Type} {p : α → Bool} : ∀ {l : List α} {i : Nat} (h : i < l.length), p l[i] = true → (∀ j (hj : j < i), p (l[j]'(by omega)) = false) → findAt p l = i
  | [], _, h, _, _ => absurd h (by simp)
  | x :: r, 0, _, hp, _ => by
    have : p x = true := hp
    rw [findAt, if_pos this]
  | x :: r, i + 1, h, hp, hn => by
    have h0 : p x = false := hn 0 (by omega)
    rw [findAt, if_neg (by rw [h0]; simp), find_first (l := r) (i := i) (by simpa using h) (by simpa using hp) (fun j hj => by simpa using hn (j + 1) (by omega))]

/-- each name stands once. -/
def Alone (l : List Nd) : Prop := ∀ i j (hi : i < l.length) (hj : j < l.length), l[i].name = l[j].name → i = j
theorem nds_alone {l : List Nd} (h : ndsFault l = 0) : Alone l := by
  have ho : orderFault ndFault Nd.name l ⟨#[]⟩ = 0 := by
    unfold ndsFault at h
    by_cases h10 : 10 < (l.length : Int)
    · rw [if_pos h10] at h; exact absurd h (by decide)
    · rwa [if_neg h10] at h
  have hp := List.pairwise_iff_getElem.1 (order_pair ho)
  intro i j hi hj he
  rcases Nat.lt_trichotomy i j with hij | hij | hij
  · have := gt_ne (hp i j hi hj hij)
    rw [he, sEq_refl] at this; cases this
  · exact hij
  · have := gt_ne (hp j i hj hi hij)
    rw [he, sEq_refl] at this; cases this

theorem pos_of {l : List Nd} (ha : Alone l) {i : Nat} (hi : i < l.length) : posN l l[i].name = i := by
  refine find_first hi (sEq_refl _) (fun j hj => ?_)
  cases h : sEq (l[j]'(by omega)).name l[i].name with
  | false => rfl
  | true => exact absurd (ha j i (by omega) hi (sEq_eq h)) (by omega)
theorem pos_is {l : List Nd} {u : ByteArray} (h : posN l u < l.length) : l[posN l u].name = u := sEq_eq (find_is (p := fun k : Nd => sEq k.name u) h)

theorem grE_iff {l : List Nd} (ha : Alone l) {i j : Nat} (hi : i < l.length) (hj : j < l.length) : j ∈ grE l i ↔ l[j].name ∈ l[i].uses := by
  rw [grE_at hi, List.mem_map]
  constructor
  · rintro ⟨u, hu, he⟩
    have : posN l u < l.length := by omega
    have h2 := pos_is this
    simp only [he] at h2
    rw [h2]; exact hu
  · exact fun h => ⟨_, h, pos_of ha hj⟩

def usN (l : List Nd) (i : Nat) : List ByteArray := match l[i]? with
  | some d => d.uses
  | none => []
theorem usN_at {l : List Nd} {i : Nat} (h : i < l.length) : usN l i = l[i].uses := by
  unfold usN; rw [List.getElem?_eq_getElem h]

/-- what those use that are seen. -/
def nxtL (l : List Nd) (seen : List ByteArray) : Nat → List ByteArray
  | 0 => []
  | k + 1 => nxtL l seen k ++ (if hasS seen (nmN l k) = true then usN l k else [])
theorem nxtL_iff {l : List Nd} {seen : List ByteArray} {x : ByteArray} : ∀ {k : Nat}, x ∈ nxtL l seen k ↔ ∃ i, i < k ∧ nmN l i ∈ seen ∧ x ∈ usN l i
  | 0 => by simp [nxtL]
  | k + 1 => by
    unfold nxtL
    rw [List.mem_append, nxtL_iff]
    constructor
    · rintro (⟨i, h1, h2⟩ | h)
      · exact ⟨i, by omega, h2⟩
      · by_cases hs : hasS seen (nmN l k) = true
        · rw [if_pos hs] at h
          exact ⟨k, by omega, has_iff.1 hs, h⟩
        · rw [if_neg hs] at h; cases h
    · rintro ⟨i, h1, h2, h3⟩
      by_cases hik : i = k
      · subst hik
        exact .inr (by rw [if_pos (has_iff.2 h2)]; exact h3)
      · exact .inl ⟨i, by omega, h2, h3⟩

/-- what is new laid behind. -/
def addS (s : List ByteArray) (x : ByteArray) : List ByteArray := if hasS s x = true then s else s ++ [x]
def addL (seen nx : List ByteArray) : List ByteArray := nx.foldl addS seen
theorem addS_iff {s : List ByteArray} {x y : ByteArray} : y ∈ addS s x ↔ y ∈ s ∨ y = x := by
  unfold addS
  by_cases h : hasS s x = true
  · rw [if_pos h]
    refine ⟨.inl, ?_⟩
    rintro (h1 | rfl)
    · exact h1
    · exact has_iff.1 h
  · rw [if_neg h, List.mem_append, List.mem_singleton]
theorem addL_iff {y : ByteArray} : ∀ {nx s : List ByteArray}, y ∈ addL s nx ↔ y ∈ s ∨ y ∈ nx
  | [], s => by simp [addL]
  | x :: r, s => by
    show y ∈ addL (addS s x) r ↔ _
    rw [addL_iff, addS_iff, List.mem_cons, or_assoc]

def leadP (l : List Nd) (to : ByteArray) : Nat → List ByteArray → Bool → Bool
  | 0, _, _ => false
  | s + 1, seen, first => if hasS (nxtL l seen l.length) to = true then true else leadP l to s (addL (if first = true then [] else seen) (nxtL l seen l.length)) false

theorem nxt_node {l : List Nd} (ha : Alone l) {seen : List ByteArray} {j : Nat} (hj : j < l.length) : l[j].name ∈ nxtL l seen l.length ↔ ∃ i, ∃ hi : i < l.length, l[i].name ∈ seen ∧ j ∈ grE l i := by
  rw [nxtL_iff]
  constructor
  · rintro ⟨i, hi, h1, h2⟩
    rw [nmN_at hi] at h1
    rw [usN_at hi] at h2
    exact ⟨i, hi, h1, (grE_iff ha hi hj).2 h2⟩
  · rintro ⟨i, hi, h1, h2⟩
    exact ⟨i, hi, by rw [nmN_at hi]; exact h1, by rw [usN_at hi]; exact (grE_iff ha hi hj).1 h2⟩

theorem lead_sound {l : List Nd} (ha : Alone l) {t : Nat} (ht : t < l.length) : ∀ (s : Nat) (seen : List ByteArray), leadP l l[t].name s seen false = true → ∃ i, ∃ hi : i < l.length, l[i].name ∈ seen ∧ Plus l.length (grE l) i t
  | 0, _, h => by cases h
  | s + 1, seen, h => by
    unfold leadP at h
    by_cases hn : hasS (nxtL l seen l.length) l[t].name = true
    · obtain ⟨i, hi, h1, h2⟩ := (nxt_node ha ht).1 (has_iff.1 hn)
      exact ⟨i, hi, h1, .one h2 ht⟩
    · rw [if_neg hn] at h
      obtain ⟨i, hi, h1, h2⟩ := lead_sound ha ht s _ h
      rcases addL_iff.1 h1 with h1 | h1
      · exact ⟨i, hi, by simpa using h1, h2⟩
      · obtain ⟨k, hk, h3, h4⟩ := (nxt_node ha hi).1 h1
        exact ⟨k, hk, h3, .more h4 hi h2⟩

theorem lead_full {l : List Nd} (ha : Alone l) {t : Nat} (ht : t < l.length) : ∀ (s : Nat) (seen : List ByteArray), outs (fun i => hasS seen (nmN l i)) l.length < s → leadP l l[t].name s seen false = false → ∀ i (hi : i < l.length), l[i].name ∈ seen → ¬ Plus l.length (grE l) i t
  | 0, _, h, _ => absurd h (by omega)
  | s + 1, seen, ho, h => by
    unfold leadP at h
    have hn : hasS (nxtL l seen l.length) l[t].name = false := by
      cases hx : hasS (nxtL l seen l.length) l[t].name with
      | false => rfl
      | true => rw [if_pos hx] at h; cases h
    rw [if_neg (by rw [hn]; simp), if_neg (by simp)] at h
    by_cases hc : ∀ i (hi : i < l.length), l[i].name ∈ seen → ∀ j (hj : j < l.length), j ∈ grE l i → l[j].name ∈ seen
    · intro i hi hs hp
      have : ∀ {a b : Nat}, Plus l.length (grE l) a b → ∀ (ha' : a < l.length), b = t → l[a].name ∈ seen → False := by
        intro a b hp
        induction hp with
        | one h1 h2 =>
          rintro ha' rfl hs'
          have := (nxt_node ha h2).2 ⟨_, ha', hs', h1⟩
          rw [has_iff.2 this] at hn; cases hn
        | more h1 h2 _ ih => exact fun ha' hb hs' => ih h2 hb (hc _ ha' hs' _ h2 h1)
      exact this hp hi rfl hs
    · have hex : ∃ j, ∃ hj : j < l.length, l[j].name ∉ seen ∧ l[j].name ∈ nxtL l seen l.length := by
        refine Classical.byContradiction fun hno => hc fun i hi hs j hj he => ?_
        refine Classical.byContradiction fun hns => hno ⟨j, hj, hns, (nxt_node ha hj).2 ⟨i, hi, hs, he⟩⟩
      obtain ⟨j, hj, hjs, hjn⟩ := hex
      have hlt := outs_lt (p := fun i => hasS seen (nmN l i)) (q := fun i => hasS (addL seen (nxtL l seen l.length)) (nmN l i)) (fun i hi => has_iff.2 (addL_iff.2 (.inl (has_iff.1 hi)))) (k := j)
        (by
          show hasS seen (nmN l j) = false
          cases hx : hasS seen (nmN l j) with
          | false => rfl
          | true => rw [nmN_at hj] at hx; exact absurd (has_iff.1 hx) hjs)
        (by
          show hasS _ (nmN l j) = true
          rw [nmN_at hj]; exact has_iff.2 (addL_iff.2 (.inr hjn))) hj
      intro i hi hs
      exact lead_full ha ht s _ (by omega) h i hi (addL_iff.2 (.inl hs))

/-- twelve steps are enough for ten nodes. -/
theorem lead_iff {l : List Nd} (ha : Alone l) (h10 : l.length ≤ 10) {f t : Nat} (hf : f < l.length) (ht : t < l.length) : leadP l l[t].name 12 [l[f].name] true = true ↔ Plus l.length (grE l) f t := by
  have hnx : ∀ j (hj : j < l.length), l[j].name ∈ nxtL l [l[f].name] l.length ↔ j ∈ grE l f := fun j hj => by
    rw [nxt_node ha hj]
    constructor
    · rintro ⟨i, hi, h1, h2⟩
      have := ha i f hi hf (by simpa using h1)
      subst this; exact h2
    · exact fun h => ⟨f, hf, by simp, h⟩
  have e : leadP l l[t].name 12 [l[f].name] true = if hasS (nxtL l [l[f].name] l.length) l[t].name = true then true else leadP l l[t].name 11 (addL [] (nxtL l [l[f].name] l.length)) false := by
    rw [leadP, if_pos (rfl : true = true)]
  rw [e]
  by_cases hn : hasS (nxtL l [l[f].name] l.length) l[t].name = true
  · rw [if_pos hn]
    exact ⟨fun _ => .one ((hnx t ht).1 (has_iff.1 hn)) ht, fun _ => rfl⟩
  · rw [if_neg hn]
    constructor
    · intro h
      obtain ⟨i, hi, h1, h2⟩ := lead_sound ha ht _ _ h
      have h1' : l[i].name ∈ nxtL l [l[f].name] l.length := by
        rcases addL_iff.1 h1 with h | h
        · cases h
        · exact h
      exact .more ((hnx i hi).1 h1') hi h2
    · intro hp
      cases hl : leadP l l[t].name 11 (addL [] (nxtL l [l[f].name] l.length)) false with
      | true => rfl
      | false =>
        have hfull := lead_full ha ht 11 _ (Nat.lt_of_le_of_lt (outs_n _) (by omega)) hl
        exfalso
        cases hp with
        | one h1 h2 => exact hn (has_iff.2 ((hnx t ht).2 h1))
        | more h1 h2 h3 => exact hfull _ h2 (addL_iff.2 (.inr ((hnx _ h2).2 h1))) h3

theorem lead_rd {l : List Nd} (h : ndsFault l = 0) {i : Nat} (hi : i < l.length) : leadP l l[i].name 12 [l[i].name] true = rdB l.length (grE l) i := by
  rw [Bool.eq_iff_iff, rd_iff]
  exact lead_iff (nds_alone h) (nds_small h).1 hi hi

end Go.Proofs.Ytedpiamfpbdhoaa
