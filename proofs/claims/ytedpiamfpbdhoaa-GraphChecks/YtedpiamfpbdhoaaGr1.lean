/- Plain graphs of numbers: which nodes lead to which, found by a walk; in what order they are told. -/
import Derived.Test.YtedpiamfpbdhoaaFace
namespace Go.Proofs.Ytedpiamfpbdhoaa

/-- how many below n are not so. -/
def outs (p : Nat → Bool) : Nat → Nat
  | 0 => 0
  | n + 1 => outs p n + (if p n = true then 0 else 1)

theorem outs_n {p : Nat → Bool} : ∀ n, outs p n ≤ n
  | 0 => Nat.le_refl _
  | n + 1 => by
    have := outs_n (p := p) n
    unfold outs
    split <;> omega
theorem outs_le {p q : Nat → Bool} (h : ∀ i, p i = true → q i = true) : ∀ n, outs q n ≤ outs p n
  | 0 => Nat.le_refl _
  | n + 1 => by
    have := outs_le h n
    unfold outs
    by_cases hp : p n = true
    · rw [if_pos hp, if_pos (h n hp)]; omega
    · rw [if_neg hp]
      split <;> omega
theorem outs_lt {p q : Nat → Bool} (h : ∀ i, p i = true → q i = true) {k : Nat} (hp : p k = false) (hq : q k = true) : ∀ {n}, k < n → outs q n + 1 ≤ outs p n
  | 0, hk => absurd hk (by omega)
  | n + 1, hk => by
    unfold outs
    by_cases hkn : k = n
    · subst hkn
      have := outs_le h k
      rw [if_pos hq, if_neg (by rw [hp]; simp)]; omega
    · have := outs_lt h hp hq (n := n) (by omega)
      by_cases hp : p n = true
      · rw [if_pos hp, if_pos (h n hp)]; omega
      · rw [if_neg hp]
        split <;> omega

/-- among these? -/
def inL (m : List Nat) (i : Nat) : Bool := m.contains i
theorem inL_iff {m : List Nat} {i : Nat} : inL m i = true ↔ i ∈ m := by simp [inL]
theorem inL_not {m : List Nat} {i : Nat} : inL m i = false ↔ i ∉ m := by simp [inL]
theorem inL_cons {m : List Nat} {i k : Nat} : inL (k :: m) i = (decide (i = k) || inL m i) := by
  unfold inL
  rw [List.contains_cons]
  rfl

/-- i leads to j. -/
inductive Plus (n : Nat) (E : Nat → List Nat) : Nat → Nat → Prop
  | one {i j : Nat} : j ∈ E i → j < n → Plus n E i j
  | more {i j k : Nat} : j ∈ E i → j < n → Plus n E j k → Plus n E i k

theorem Plus.lt {n : Nat} {E : Nat → List Nat} {i j : Nat} (h : Plus n E i j) : j < n := by
  induction h with
  | one _ h => exact h
  | more _ _ _ h => exact h
theorem Plus.trans {n : Nat} {E : Nat → List Nat} {i j k : Nat} (h : Plus n E i j) (h2 : Plus n E j k) : Plus n E i k := by
  induction h with
  | one h1 h3 => exact .more h1 h3 h2
  | more h1 h3 _ ih => exact .more h1 h3 (ih h2)

/-- those that are met behind a walk through these. -/
def vis (n : Nat) (E : Nat → List Nat) : Nat → List Nat → List Nat → List Nat
  | 0, _, m => m
  | f + 1, todo, m => todo.foldl (fun m j => if (decide (n ≤ j) || inL m j) = true then m else vis n E f (E j) (j :: m)) m

theorem vis_nil {n : Nat} {E : Nat → List Nat} {f : Nat} {m : List Nat} : vis n E f [] m = m := by
  cases f <;> rfl
theorem vis_skip {n : Nat} {E : Nat → List Nat} {f j : Nat} {r m : List Nat} (h : (decide (n ≤ j) || inL m j) = true) : vis n E f (j :: r) m = vis n E f r m := by
  cases f with
  | zero => rfl
  | succ f => unfold vis; rw [List.foldl_cons, if_pos h]
theorem vis_go {n : Nat} {E : Nat → List Nat} {f j : Nat} {r m : List Nat} (h : (decide (n ≤ j) || inL m j) = false) : vis n E (f + 1) (j :: r) m = vis n E (f + 1) r (vis n E f (E j) (j :: m)) := by
  rw [vis, List.foldl_cons, if_neg (by rw [h]; simp), vis]

theorem vis_sub {n : Nat} {E : Nat → List Nat} : ∀ (f : Nat) (todo m : List Nat) (x : Nat), x ∈ m → x ∈ vis n E f todo m
  | 0, _, _, _, h => h
  | f + 1, [], _, _, h => h
  | f + 1, j :: r, m, x, h => by
    cases hj : (decide (n ≤ j) || inL m j) with
    | true => rw [vis_skip hj]; exact vis_sub (f + 1) r m x h
    | false => rw [vis_go hj]; exact vis_sub (f + 1) r _ x (vis_sub f _ _ x (List.mem_cons_of_mem _ h))

theorem vis_sound {n : Nat} {E : Nat → List Nat} : ∀ (f : Nat) (todo m : List Nat) (x : Nat), x ∈ vis n E f todo m → x ∈ m ∨ ∃ k ∈ todo, k < n ∧ (x = k ∨ Plus n E k x)
  | 0, _, _, _, h => .inl h
  | f + 1, [], _, _, h => .inl h
  | f + 1, j :: r, m, x, h => by
    cases hj : (decide (n ≤ j) || inL m j) with
    | true =>
      rw [vis_skip hj] at h
      rcases vis_sound (f + 1) r m x h with h | ⟨k, hk, h⟩
      · exact .inl h
      · exact .inr ⟨k, List.mem_cons_of_mem _ hk, h⟩
    | false =>
      rw [vis_go hj] at h
      have hjn : j < n := by
        have : decide (n ≤ j) = false := by
          cases h1 : decide (n ≤ j) <;> simp_all
        simpa using this
      rcases vis_sound (f + 1) r _ x h with h | ⟨k, hk, h⟩
      · rcases vis_sound f _ _ x h with h | ⟨k, hk, hkn, h⟩
        · rcases List.mem_cons.1 h with h | h
          · exact .inr ⟨j, by simp, hjn, .inl h⟩
          · exact .inl h
        · refine .inr ⟨j, by simp, hjn, .inr ?_⟩
          rcases h with rfl | h
          · exact .one hk hkn
          · exact .more hk hkn h
      · exact .inr ⟨k, List.mem_cons_of_mem _ hk, h⟩

theorem vis_full {n : Nat} {E : Nat → List Nat} : ∀ (f : Nat) (todo m : List Nat), outs (inL m) n < f → (∀ k ∈ todo, k < n → k ∈ vis n E f todo m) ∧ ∀ j ∈ vis n E f todo m, j ∉ m → ∀ k ∈ E j, k < n → k ∈ vis n E f todo m
  | 0, _, _, h => absurd h (by omega)
  | f + 1, [], m, h => by
    rw [vis_nil]
    exact ⟨fun k hk => (by cases hk), fun j hj hn => absurd hj hn⟩
  | f + 1, j :: r, m, h => by
    cases hj : (decide (n ≤ j) || inL m j) with
    | true =>
      obtain ⟨h1, h2⟩ := vis_full (n := n) (E := E) (f + 1) r m h
      rw [vis_skip hj]
      refine ⟨fun k hk hkn => ?_, h2⟩
      rcases List.mem_cons.1 hk with rfl | hk
      · refine vis_sub _ _ _ _ (inL_iff.1 ?_)
        have : decide (n ≤ k) = false := by simpa using hkn
        rw [this] at hj
        simpa using hj
      · exact h1 k hk hkn
    | false =>
      rw [vis_go hj]
      have hjn : j < n := by
        have : decide (n ≤ j) = false := by
          cases h1 : decide (n ≤ j) <;> simp_all
        simpa using this
      have hjm : inL m j = false := by
        cases h1 : inL m j <;> simp_all
      have hsub : ∀ (m' : List Nat), (∀ x ∈ m, x ∈ m') → j ∈ m' → outs (inL m') n + 1 ≤ outs (inL m) n := fun m' hs hm' =>
        outs_lt (p := inL m) (q := inL m') (fun i hi => inL_iff.2 (hs i (inL_iff.1 hi))) hjm (inL_iff.2 hm') hjn
      have ho1 := hsub (j :: m) (fun x hx => List.mem_cons_of_mem _ hx) (by simp)
      obtain ⟨a1, a2⟩ := vis_full (n := n) (E := E) f (E j) (j :: m) (by omega)
      have hs1 : ∀ x ∈ j :: m, x ∈ vis n E f (E j) (j :: m) := fun x hx => vis_sub _ _ _ _ hx
      have ho2 := hsub (vis n E f (E j) (j :: m)) (fun x hx => hs1 x (List.mem_cons_of_mem _ hx)) (hs1 j (by simp))
      obtain ⟨b1, b2⟩ := vis_full (n := n) (E := E) (f + 1) r (vis n E f (E j) (j :: m)) (by omega)
      have hs2 : ∀ x ∈ vis n E f (E j) (j :: m), x ∈ vis n E (f + 1) r (vis n E f (E j) (j :: m)) := fun x hx => vis_sub _ _ _ _ hx
      refine ⟨fun k hk hkn => ?_, fun x hx hxm k hk hkn => ?_⟩
      · rcases List.mem_cons.1 hk with rfl | hk
        · exact hs2 _ (hs1 _ (by simp))
        · exact b1 k hk hkn
      · by_cases hx1 : x ∈ vis n E f (E j) (j :: m)
        · by_cases hxj : x = j
          · subst hxj
            exact hs2 _ (a1 k hk hkn)
          · refine hs2 _ (a2 x hx1 ?_ k hk hkn)
            intro hc
            rcases List.mem_cons.1 hc with hc | hc
            · exact hxj hc
            · exact hxm hc
        · exact b2 x hx hx1 k hk hkn

/-- those that i leads to. -/
def reachL (n : Nat) (E : Nat → List Nat) (i : Nat) : List Nat := vis n E (n + 1) (E i) []
theorem reach_iff {n : Nat} {E : Nat → List Nat} {i j : Nat} : j ∈ reachL n E i ↔ Plus n E i j := by
  constructor
  · intro h
    rcases vis_sound _ _ _ _ h with h | ⟨k, hk, hkn, rfl | h⟩
    · cases h
    · exact .one hk hkn
    · exact .more hk hkn h
  · intro h
    obtain ⟨h1, h2⟩ := vis_full (n := n) (E := E) (n + 1) (E i) [] (Nat.lt_succ_of_le (outs_n n))
    have : ∀ {a b : Nat}, Plus n E a b → (∀ k ∈ E a, k < n → k ∈ reachL n E i) → b ∈ reachL n E i := by
      intro a b hp
      induction hp with
      | one ha hn => exact fun hc => hc _ ha hn
      | more ha hn _ ih => exact fun hc => ih (h2 _ (hc _ ha hn) (by simp))
    exact this h h1
/-- does it lead to itself? -/
def rdB (n : Nat) (E : Nat → List Nat) (i : Nat) : Bool := inL (reachL n E i) i
theorem rd_iff {n : Nat} {E : Nat → List Nat} {i : Nat} : rdB n E i = true ↔ Plus n E i i := inL_iff.trans reach_iff

/-! ### In what order they are told. -/

/-- may it be told behind these (the last one first)? -/
def rdyB (n : Nat) (E : Nat → List Nat) (rd : Nat → Bool) (out : List Nat) (i : Nat) : Bool := !(rd i || inL out i) && (E i).all fun j => decide (n ≤ j) || (rd j || inL out j)
def nxt (n : Nat) (E : Nat → List Nat) (rd : Nat → Bool) (out : List Nat) : Option Nat := (List.range n).find? (rdyB n E rd out)
def ordP (n : Nat) (E : Nat → List Nat) (rd : Nat → Bool) : Nat → List Nat → List Nat
  | 0, out => out
  | f + 1, out => match nxt n E rd out with
    | none => out
    | some i => ordP n E rd f (i :: out)

theorem ord_none {n : Nat} {E : Nat → List Nat} {rd : Nat → Bool} {out : List Nat} (h : nxt n E rd out = none) : ∀ f, ordP n E rd f out = out
  | 0 => rfl
  | f + 1 => by show (match nxt n E rd out with | none => out | some i => ordP n E rd f (i :: out)) = out; rw [h]
theorem ord_some {n : Nat} {E : Nat → List Nat} {rd : Nat → Bool} {out : List Nat} {i : Nat} (h : nxt n E rd out = some i) (f : Nat) : ordP n E rd (f + 1) out = ordP n E rd f (i :: out) := by
  show (match nxt n E rd out with | none => out | some i => ordP n E rd f (i :: out)) = _; rw [h]
theorem nxt_some {n : Nat} {E : Nat → List Nat} {rd : Nat → Bool} {out : List Nat} {i : Nat} (h : nxt n E rd out = some i) : i < n ∧ rdyB n E rd out i = true :=
  ⟨List.mem_range.1 (List.mem_of_find?_eq_some h), List.find?_some h⟩
theorem nxt_none {n : Nat} {E : Nat → List Nat} {rd : Nat → Bool} {out : List Nat} (h : nxt n E rd out = none) {i : Nat} (hi : i < n) : rdyB n E rd out i = false := by
  have := List.find?_eq_none.1 h i (List.mem_range.2 hi)
  simpa using this
theorem rdy_not {n : Nat} {E : Nat → List Nat} {rd : Nat → Bool} {out : List Nat} {i : Nat} (h : rdyB n E rd out i = true) : rd i = false ∧ inL out i = false := by
  unfold rdyB at h
  cases h1 : rd i <;> cases h2 : inL out i <;> simp_all
/-- each told is one less that is not. -/
theorem outs_told {n : Nat} {out : List Nat} {i : Nat} (hi : i < n) (h : inL out i = false) : outs (inL (i :: out)) n + 1 ≤ outs (inL out) n :=
  outs_lt (fun j hj => by rw [inL_cons, hj]; simp) h (by rw [inL_cons]; simp) hi

/-- the order of all. -/
def ordAll (n : Nat) (E : Nat → List Nat) (rd : Nat → Bool) : List Nat := ordP n E rd n []

end Go.Proofs.Ytedpiamfpbdhoaa
