/- Plain nodes of a graph, how they lie in memory, and what is wrong with them first. -/
import Derived.Test.YtedpiamfpbdhoaaAlias3
import Derived.Test.YtedpiamfpbdhoaaGr1
import Derived.Test.YtedpiamfpbdhoaaFaceRead
namespace Go.Proofs.Ytedpiamfpbdhoaa
open Go.RowKit

structure Nd where
  name : ByteArray
  uses : List ByteArray
instance : Inhabited Nd := ⟨⟨.empty, []⟩⟩

def NdAt (S : Nat → Prop) (w : World) (n : Nd) (b o : Nat) : Prop := StrAt w n.name b o ∧ ∃ v, w.cell? ⟨b, o + 1, none⟩ = some v ∧ SlAt S (StrAt w) 1 n.uses v
theorem NdAt.keep {S S' : Nat → Prop} {w w' : World} (hk : Keeps S S' w w') {n : Nd} {b o : Nat} (hb : S b) (h : NdAt S w n b o) : NdAt S' w' n b o := by
  obtain ⟨h0, v, hv, hp⟩ := h
  exact ⟨StrAt.keep hk hb h0, v, by rwa [hk.cell hb], strSl_keep hk hp⟩
theorem ndSl_keep {S S' : Nat → Prop} {w w' : World} (hk : Keeps S S' w w') {l : List Nd} {v : Value} (h : SlAt S (NdAt S w) 2 l v) : SlAt S' (NdAt S' w') 2 l v := h.imp hk.sub fun _ _ _ _ hb' h => NdAt.keep hk hb' h
theorem nd_cells {S : Nat → Prop} {w : World} {n : Nd} {b o : Nat} (h : NdAt S w n b o) : ∃ a cap, w.cell? ⟨b, o, none⟩ = some (.string n.name) ∧ n.name.size ≤ maxLen ∧ w.cell? ⟨b, o + 1, none⟩ = some (.slice a n.uses.length cap) ∧ SlAt S (StrAt w) 1 n.uses (.slice a n.uses.length cap) := by
  obtain ⟨⟨h0, h1⟩, v, hv, hp⟩ := h
  obtain ⟨a, cap, rfl⟩ := hp.is
  exact ⟨a, cap, h0, h1, hv, hp⟩

def ndOk (n : Nd) : Bool := identOk n.name && (decide (n.uses.length ≤ 24) && n.uses.all identOk)
def ndFault (n : Nd) : Int := bad4 (ndOk n)
def ndsFault (l : List Nd) : Int := if 10 < (l.length : Int) then 1 else orderFault ndFault Nd.name l ⟨#[]⟩

theorem find_any_iff {α : Type} {p : α → Bool} : ∀ {l : List α}, findAt p l < l.length ↔ ∃ x ∈ l, p x = true
  | [] => by simp [findAt]
  | x :: r => by
    unfold findAt
    by_cases h : p x = true
    · rw [if_pos h]; simp [h]
    · rw [if_neg h, List.length_cons, Nat.add_lt_add_iff_right, find_any_iff]
      simp [h]
theorem find_any_b {α : Type} {p : α → Bool} {l : List α} : decide (0 ≤ idxOf p l) = l.any p := by
  unfold idxOf
  rw [Bool.eq_iff_iff, List.any_eq_true]
  by_cases h : findAt p l < l.length
  · rw [if_pos h]; simpa using find_any_iff.1 h
  · rw [if_neg h]
    simp only [Int.reduceNeg, decide_eq_true_eq]
    refine ⟨fun h => absurd h (by decide), fun h' => absurd (find_any_iff.2 h') h⟩
theorem has_iff {l : List ByteArray} {s : ByteArray} : hasS l s = true ↔ s ∈ l := by
  unfold hasS
  rw [decide_eq_true_eq, find_any_iff]
  constructor
  · rintro ⟨x, hx, h⟩
    rwa [← sEq_eq h]
  · exact fun h => ⟨s, h, sEq_refl s⟩

end Go.Proofs.Ytedpiamfpbdhoaa
