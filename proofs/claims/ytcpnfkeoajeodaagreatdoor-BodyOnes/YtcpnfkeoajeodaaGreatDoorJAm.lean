/- What a type is, in plain words: names are found by a function that is given; how the module's own types are met, by their places or by their names: the same. -/
import Derived.Test.YtcpnfkeoajeodaaGreatDoorJAlias10
namespace Go.Proofs.YtcpnfkeoajeodaaGreatDoor
open Go.RowKit
set_option maxRecDepth 100000

abbrev Sol := ByteArray × Int
def intK : ByteArray := ⟨#[105, 110, 116]⟩
def textK : ByteArray := ⟨#[116, 101, 120, 116]⟩
def starK : ByteArray := ⟨#[42]⟩
def noneS : ByteArray := ⟨#[]⟩

def listR (r : Sol) : Sol := if r.2 = 0 then (if listErr r.1 = 0 then (wrapK r.1, 0) else (noneS, 5)) else (noneS, r.2)
def solveP (ρ : ByteArray → ByteArray → Sol) : Nat → Ty → Sol
  | 0, _ => (noneS, 5)
  | d + 1, .mk k o n xs => if k = 1 then (intK, 0) else if k = 2 then (textK, 0) else if k = 3 then (match xs with
    | [] => (noneS, 5)
    | t :: _ => listR (solveP ρ d t)) else ρ o n

def impR (u : List ByteArray) (l : List Im) (o n : ByteArray) : Sol := (impVal u l o n, impErr u l o n)

/-- by places: which ones were met. -/
def findR (m : Mo) (l : List Im) : Nat → List Nat → ByteArray → ByteArray → Sol
  | 0, _, o, n => if o.toList.isEmpty = true then (if ownAt m n < m.types.length then (noneS, 2) else (noneS, 5)) else impR m.uses l o n
  | u + 1, met, o, n => if o.toList.isEmpty = true then (match m.types[ownAt m n]? with
    | some f => if met.contains (ownAt m n) = true then (noneS, 2) else solveP (findR m l u (ownAt m n :: met)) 10 f.is
    | none => (noneS, 5)) else impR m.uses l o n

/-- by names: under which ones it is solved. -/
def refR (m : Mo) (l : List Im) : Nat → ByteArray → List ByteArray → ByteArray → ByteArray → Sol
  | 0, v, _, o, n => if o.toList.isEmpty = true then (if (!v.toList.isEmpty && sEq n v) = true then (starK, 0) else if ownAt m n < m.types.length then (noneS, 2) else (noneS, 5)) else impR m.uses l o n
  | u + 1, v, under, o, n => if o.toList.isEmpty = true then (if (!v.toList.isEmpty && sEq n v) = true then (starK, 0) else match m.types[ownAt m n]? with
    | some f => if hasS under n = true then (noneS, 2) else solveP (refR m l u noneS (under ++ [n])) 10 f.is
    | none => (noneS, 5)) else impR m.uses l o n

/-! ### A name's place tells the name -/

theorem find_at {α : Type} {p : α → Bool} : ∀ {l : List α} (h : findAt p l < l.length), p l[findAt p l] = true
  | [], h => by simp [findAt] at h
  | x :: r, h => by
    by_cases hp : p x = true
    · have e : findAt p (x :: r) = 0 := by rw [findAt, if_pos hp]
      simp only [e, List.getElem_cons_zero]
      exact hp
    · have e : findAt p (x :: r) = findAt p r + 1 := by rw [findAt, if_neg hp]
      have h' : findAt p r < r.length := by rw [e] at h; simpa using h
      simp only [e, List.getElem_cons_succ]
      exact find_at h'

theorem own_name {m : Mo} {n : ByteArray} (h : ownAt m n < m.types.length) : m.types[ownAt m n].name = n := sEq_eq (find_at h)

theorem own_inj {m : Mo} {n n' : ByteArray} (h : ownAt m n < m.types.length) (e : ownAt m n = ownAt m n') : n = n' := by
  have h1 := own_name h
  have h' : ownAt m n' < m.types.length := by rw [← e]; exact h
  have h2 := own_name h'
  rw [← h1, ← h2]
  congr 2

theorem hasS_mem {l : List ByteArray} {s : ByteArray} : hasS l s = true ↔ s ∈ l := by
  unfold hasS
  rw [decide_eq_true_iff]
  constructor
  · intro h
    have := find_at h
    rw [← sEq_eq this]
    exact List.getElem_mem h
  · intro h
    induction l with
    | nil => cases h
    | cons x r ih =>
      by_cases hx : sEq x s = true
      · rw [findAt, if_pos hx]; simp
      · rw [findAt, if_neg hx]
        rcases List.mem_cons.1 h with rfl | h
        · exact absurd (sEq_refl s) hx
        · have := ih h
          simp; exact this

/-- the places of the names. -/
def Meets (m : Mo) (under : List ByteArray) (met : List Nat) : Prop := ∀ n, ownAt m n < m.types.length → (met.contains (ownAt m n) = hasS under n)

theorem Meets.start (m : Mo) : Meets m [] [] := fun n _ => by simp [hasS, findAt]
theorem Meets.next {m : Mo} {under : List ByteArray} {met : List Nat} (h : Meets m under met) {n : ByteArray} (hn : ownAt m n < m.types.length) : Meets m (under ++ [n]) (ownAt m n :: met) := fun n' h' => by
  rw [Bool.eq_iff_iff, hasS_mem, List.mem_append, List.mem_singleton, ← hasS_mem, ← h n' h', List.contains_cons, Bool.or_eq_true, beq_iff_eq]
  constructor
  · rintro (e | e)
    · exact Or.inr (own_inj h' e)
    · exact Or.inl e
  · rintro (e | rfl)
    · exact Or.inr e
    · exact Or.inl rfl

theorem solveP_congr {ρ ρ' : ByteArray → ByteArray → Sol} (h : ∀ o n, ρ o n = ρ' o n) : ∀ (d : Nat) (t : Ty), solveP ρ d t = solveP ρ' d t := by
  have : ρ = ρ' := funext fun o => funext fun n => h o n
  intro d t
  rw [this]

/-- by places or by names: the same. -/
theorem find_ref (m : Mo) (l : List Im) : ∀ (u : Nat) (under : List ByteArray) (met : List Nat), Meets m under met → ∀ o n, findR m l u met o n = refR m l u noneS under o n
  | 0, under, met, _, o, n => by
    unfold findR refR
    rw [if_neg (c := (!noneS.toList.isEmpty && sEq n noneS) = true) (by simp [noneS])]
  | u + 1, under, met, hm, o, n => by
    unfold findR refR
    rw [if_neg (c := (!noneS.toList.isEmpty && sEq n noneS) = true) (by simp [noneS])]
    by_cases ho : o.toList.isEmpty = true
    · rw [if_pos ho, if_pos ho]
      by_cases hat : ownAt m n < m.types.length
      · rw [List.getElem?_eq_getElem hat]
        simp only
        rw [hm n hat]
        by_cases hh : hasS under n = true
        · rw [if_pos hh, if_pos hh]
        · rw [if_neg hh, if_neg hh]
          exact solveP_congr (fun o' n' => find_ref m l u _ _ (hm.next hat) o' n') 10 _
      · rw [List.getElem?_eq_none (by omega)]
    · rw [if_neg ho, if_neg ho]

end Go.Proofs.YtcpnfkeoajeodaaGreatDoor

/- What alias.solve and alias.solveList answer, where the closure that finds names answers so. -/
namespace Go.Proofs.YtcpnfkeoajeodaaGreatDoor
open Go.RowKit
set_option maxRecDepth 100000

def fnd (mB lB tB fB : Nat) : Value := .func (.func 69) #[] #[.pointer (some ⟨mB, 0, none⟩), .pointer (some ⟨lB, 0, none⟩), .pointer (some ⟨tB, 0, none⟩), .pointer (some ⟨fB, 0, none⟩)]

/-- what the finder's closure holds: the module, the imports, which types were met, and itself. -/
structure SEnv (w0 : World) (mB lB tB fB aB : Nat) (x y z lv : Value) (n : Nat) (met : List Nat) (W : World) : Prop where
  below : Below w0.heap.size w0 W
  m0 : W.cell? ⟨mB, 0, none⟩ = some x
  m1 : W.cell? ⟨mB, 1, none⟩ = some y
  m2 : W.cell? ⟨mB, 2, none⟩ = some z
  lc : W.cell? ⟨lB, 0, none⟩ = some lv
  tc : W.cell? ⟨tB, 0, none⟩ = some (.slice (some ⟨aB, 0, none⟩) n n)
  fc : W.cell? ⟨fB, 0, none⟩ = some (fnd mB lB tB fB)
  arr : ∀ i, i < n → W.cell? ⟨aB, i, none⟩ = some (.bool (met.contains i)) ∧ W.frozen? ⟨aB, i, none⟩ = false
  low : w0.heap.size ≤ aB
  ne : aB ≠ mB ∧ aB ≠ lB ∧ aB ≠ tB ∧ aB ≠ fB

theorem SEnv.keep {w0 : World} {mB lB tB fB aB : Nat} {x y z lv : Value} {n : Nat} {met : List Nat} {W W' : World} (h : SEnv w0 mB lB tB fB aB x y z lv n met W) (hb : Below W.heap.size W W') : SEnv w0 mB lB tB fB aB x y z lv n met W' := by
  have hk : ∀ (a : Addr) (v : Value), W.cell? a = some v → W'.cell? a = some v := fun a v hv => (hb.cell (World.block_lt_of_cell? _ _ hv)).trans hv
  refine ⟨h.below.trans (hb.mono h.below.size), hk _ _ h.m0, hk _ _ h.m1, hk _ _ h.m2, hk _ _ h.lc, hk _ _ h.tc, hk _ _ h.fc, fun i hi => ?_, h.low, h.ne⟩
  obtain ⟨h1, h2⟩ := h.arr i hi
  exact ⟨hk _ _ h1, (hb.frozen (World.block_lt_of_cell? _ _ h1)).trans h2⟩

theorem SEnv.meet {w0 : World} {mB lB tB fB aB : Nat} {x y z lv : Value} {n : Nat} {met : List Nat} {W : World} (h : SEnv w0 mB lB tB fB aB x y z lv n met W) {k : Nat} (hk : k < n) : SEnv w0 mB lB tB fB aB x y z lv n (k :: met) (W.setCell ⟨aB, k, none⟩ (.bool true)) := by
  obtain ⟨n1, n2, n3, n4⟩ := h.ne
  refine ⟨h.below.setCell h.low _, ?_, ?_, ?_, ?_, ?_, ?_, fun i hi => ⟨?_, ?_⟩, h.low, h.ne⟩
  · rw [World.cell?_setCell_far _ _ _ _ n1]; exact h.m0
  · rw [World.cell?_setCell_far _ _ _ _ n1]; exact h.m1
  · rw [World.cell?_setCell_far _ _ _ _ n1]; exact h.m2
  · rw [World.cell?_setCell_far _ _ _ _ n2]; exact h.lc
  · rw [World.cell?_setCell_far _ _ _ _ n3]; exact h.tc
  · rw [World.cell?_setCell_far _ _ _ _ n4]; exact h.fc
  · obtain ⟨h1, h2⟩ := h.arr i hi
    obtain ⟨h3, _⟩ := h.arr k hk
    by_cases hik : i = k
    · subst hik
      rw [World.cell?_setCell_same (h := h3)]
      simp
    · rw [World.cell?_setCell_other (h := by intro e; injection e with _ e; exact hik e.symm), h1]
      simp [hik]
  · obtain ⟨_, h2⟩ := h.arr i hi
    rw [World.frozen?_setCell]; exact h2

/-- what a call answers that tells a kind. -/
def Tells (w0 : World) (r : Sol) (e : Ending) (w' : World) : Prop := e = .returned (.tuple #[.string r.1, .int .i64 r.2]) ∧ Below w0.heap.size w0 w'

theorem solveP_size {ρ : ByteArray → ByteArray → Sol} (h : ∀ o n, (ρ o n).1.size ≤ maxLen) : ∀ (d : Nat) (t : Ty), (solveP ρ d t).1.size ≤ maxLen
  | 0, _ => Nat.zero_le _
  | d + 1, .mk k o n xs => by
    unfold solveP
    split
    · decide
    · split
      · decide
      · split
        · cases xs with
          | nil => exact Nat.zero_le _
          | cons t r =>
            show (listR (solveP ρ d t)).1.size ≤ _
            unfold listR
            split
            · split
              · rename_i hl
                obtain ⟨_, h5⟩ := listErr_ok hl
                have : (wrapK (solveP ρ d t).1).size = (solveP ρ d t).1.size + 2 := by
                  simp [wrapK]
                  show 1 + _ + 1 = _
                  omega
                show (wrapK (solveP ρ d t).1).size ≤ _
                rw [this]; unfold maxLen; omega
              · exact Nat.zero_le _
            · exact Nat.zero_le _
        · exact h o n

end Go.Proofs.YtcpnfkeoajeodaaGreatDoor
