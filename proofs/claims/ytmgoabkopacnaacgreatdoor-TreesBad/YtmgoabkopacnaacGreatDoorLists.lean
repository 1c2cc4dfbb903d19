/- What token.Check and the reference's TokensFault answer, at every list of tokens: more than 200: too many; else the first fault. -/
import Derived.Test.YtmgoabkopacnaacGreatDoorToks
namespace Go.Proofs.YtmgoabkopacnaacGreatDoor
open Go.RowKit
set_option maxRecDepth 100000

/-- a list of tokens, as it lies in memory: kinds and texts. -/
def TokRow (w : World) (v : Value) (l : List (Int × ByteArray)) : Prop :=
  (l = [] ∧ ∃ a cap, v = .slice a 0 cap) ∨
  ∃ b off cap, v = .slice (some ⟨b, off, none⟩) l.length cap ∧ b < w.heap.size ∧ l.length ≤ maxLen ∧
    ∀ i, i < l.length → w.cell? ⟨b, off + i * 2, none⟩ = some (.int .i64 (l.getD i (0, .empty)).1) ∧ w.cell? ⟨b, off + i * 2 + 1, none⟩ = some (.string (l.getD i (0, .empty)).2) ∧ (l.getD i (0, .empty)).2.size ≤ maxLen

def faultOf (t : Int × ByteArray) : Int := tokFault t.1 t.2
def faults : List (Int × ByteArray) → Int
  | [] => 0
  | t :: r => if faultOf t = 0 then faults r else faultOf t
def checkAll (l : List (Int × ByteArray)) : Int := if 200 < l.length then 1 else faults l

theorem faults_at : ∀ (l : List (Int × ByteArray)) (k : Nat), k < l.length → (∀ j, j < k → faultOf (l.getD j (0, .empty)) = 0) → faultOf (l.getD k (0, .empty)) ≠ 0 → faults l = faultOf (l.getD k (0, .empty))
  | [], k, h, _, _ => absurd h (by simp)
  | t :: r, 0, _, _, h0 => by
    have h0' : faultOf t ≠ 0 := by simpa using h0
    simp [faults, h0']
  | t :: r, k + 1, h, hj, h0 => by
    have ht : faultOf t = 0 := by simpa using hj 0 (by omega)
    have ih := faults_at r k (by simpa using h) (fun j hjk => by simpa using hj (j + 1) (by omega)) (by simpa using h0)
    simpa [faults, ht] using ih

theorem faults_none : ∀ (l : List (Int × ByteArray)), (∀ j, j < l.length → faultOf (l.getD j (0, .empty)) = 0) → faults l = 0
  | [], _ => rfl
  | t :: r, h => by
    have ht : faultOf t = 0 := by simpa using h 0 (by simp)
    have ih := faults_none r (fun j hj => by simpa using h (j + 1) (by simpa using hj))
    simp [faults, ht, ih]

/-- what lies below lies there later, too. -/
theorem TokRow.later {w w' : World} {v : Value} {l : List (Int × ByteArray)} (h : TokRow w v l) (hb : Below w.heap.size w w') : TokRow w' v l := by
  rcases h with h | ⟨b, off, cap, rfl, hbw, hl, hcell⟩
  · exact Or.inl h
  · exact Or.inr ⟨b, off, cap, rfl, Nat.lt_of_lt_of_le hbw hb.size, hl, fun i hi =>
      ⟨(hb.cell (by exact hbw)).trans (hcell i hi).1, (hb.cell (by exact hbw)).trans (hcell i hi).2.1, (hcell i hi).2.2⟩⟩

end Go.Proofs.YtmgoabkopacnaacGreatDoor
