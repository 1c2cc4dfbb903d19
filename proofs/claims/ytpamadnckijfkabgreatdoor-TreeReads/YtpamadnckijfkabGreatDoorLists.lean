/- What token.Check and the reference's TokensFault answer, at every list of tokens: more than 200: too many; else the first fault. -/
import Derived.Test.YtpamadnckijfkabGreatDoorToks
namespace Go.Proofs.YtpamadnckijfkabGreatDoor
open Go.RowKit
set_option maxRecDepth 100000

/-- a list of tokens, as it lies in memory: kinds and texts. -/
def TokRow (w : World) (v : Value) (l : List (Int × ByteArray)) : Prop :=
  (l = [] ∧ ∃ a cap, v = .slice a 0 cap) ∨
  ∃ b off cap, v = .slice (some ⟨b, off, none⟩) l.length cap ∧ b < w.heap.size ∧ l.length ≤ maxLen ∧
    ∀ i, i < l.length → w.cell? ⟨b, off + i * 2, none⟩ = some (.int .i64 (l.getD i (0, .empty)).1) ∧ w.cell? ⟨b, off + i * 2 + 1, none⟩ = some (.string (l.getD i (0, .empty)).2) ∧ (l.getD i (0, .empty)).2.size ≤ maxLen

def faultOf (t : Int × ByteArray) : Int := tokFault t.1 t.2
def faults : List (Int × ByteArray) → Int
  | [] => 0
  | t :: r => if faultOf t = 0 then faults r else faultOf t
def checkAll (l : List (Int × ByteArray)) : Int := if 200 < l.length then 1 else faults l

theorem faults_at : ∀ (l : List (Int × ByteArray)) (k : Nat), k < l.length → (∀ j, j < k → faultOf (l.getD j (0, .empty)) = 0) → faultOf (l.getD k (0, .empty)) ≠ 0 → faults l = faultOf (l.getD k (0, .empty))
  | [], k, h, _, _ => absurd h (by simp)
  | t :: r, 0, _, _, h0 => by
    have h0' : faultOf t ≠ 0 := by simpa using h0
    simp [faults, h0']
  | t :: r, k + 1, h, hj, h0 => by
    have ht : faultOf t = 0 := by simpa using hj 0 (by omega)
    have ih := faults_at r k (by simpa using h) (fun j hjk => by simpa using hj (j + 1) (by omega)) (by simpa using h0)
    simpa [faults, ht] using ih

theorem faults_none : ∀ (l : List (Int × ByteArray)), (∀ j, j < l.length → faultOf (l.getD j (0, .empty)) = 0) → faults l = 0
  | [], _ => rfl
  | t :: r, h => by
    have ht : faultOf t = 0 := by simpa using h 0 (by simp)
    have ih := faults_none r (fun j hj => by simpa using h (j + 1) (by simpa using hj))
    simp [faults, ht, ih]

set_option maxHeartbeats 2000000 in
theorem fault_row (b off cap : Nat) (l : List (Int × ByteArray)) (w : World) (hbw : b < w.heap.size) (hl : l.length ≤ 200)
    (hcell : ∀ i, i < l.length → w.cell? ⟨b, off + i * 2, none⟩ = some (.int .i64 (l.getD i (0, .empty)).1) ∧ w.cell? ⟨b, off + i * 2 + 1, none⟩ = some (.string (l.getD i (0, .empty)).2) ∧ (l.getD i (0, .empty)).2.size ≤ maxLen) :
    Calls Tryz.prog 44 #[.slice (some ⟨b, off, none⟩) l.length cap] w fun e w' => e = .returned (.int .i64 (faults l)) ∧ Below w.heap.size w w' := by
  have h200 : ¬ (200 : Int) < (l.length : Int) := by omega
  have HC := veil hcell
  clear hcell
  go_enter Tryz.func44, Tryz.ntmps44
  go_wp2
  go_loopw [3] (fun i wr => ∃ k : Nat, k ≤ l.length ∧ i = .int .i64 k ∧ (∀ j, j < k → faultOf (l.getD j (0, .empty)) = 0) ∧ Below w.heap.size w wr) (fun i _ => l.length - (intOf i).toNat)
  case atStart => exact ⟨0, Nat.zero_le _, rfl, fun j h => absurd h (by omega), Below.refl _ _⟩
  case round =>
    obtain ⟨k, hk, rfl, hall, hbl⟩ := hrel
    have HA := veil hall
    clear hall
    by_cases hlt : k < l.length
    · obtain ⟨c0, c1, hsz⟩ := HC.out k hlt
      have d0 : wr.cell? ⟨b, off + k * 2, none⟩ = some (.int .i64 (l.getD k (0, .empty)).1) := (hbl.cell (by exact hbw)).trans c0
      have d1 : wr.cell? ⟨b, off + k * 2 + 1, none⟩ = some (.string (l.getD k (0, .empty)).2) := (hbl.cell (by exact hbw)).trans c1
      clear c0 c1 HC
      obtain ⟨kd, hkd⟩ : ∃ kd, (l.getD k (0, .empty)).1 = kd := ⟨_, rfl⟩
      obtain ⟨tx, htx⟩ : ∃ tx, (l.getD k (0, .empty)).2 = tx := ⟨_, rfl⟩
      rw [hkd] at d0
      rw [htx] at d1 hsz
      have HE : Hid (faultOf (l.getD k (0, .empty)) = tokFault kd tx) := by show _ = _; rw [faultOf, hkd, htx]
      clear hkd htx
      have hbs := hbl.size
      have HN : Hid (tokFault kd tx = 0 → ∀ j, j < k + 1 → faultOf (l.getD j (0, .empty)) = 0) := fun hz j hj => by
        by_cases e : j = k
        · rw [e, HE.out, hz]
        · exact HA.out j (by omega)
      have HG : Hid (tokFault kd tx ≠ 0 → faults l = tokFault kd tx) := fun hz => by
        rw [← HE.out]
        exact faults_at l k hlt HA.out (by rw [HE.out]; exact hz)
      by_cases h1 : kd = 1
      · subst h1
        have hin : isIn 1 1 4 = true := rfl
        cases h : wordOk tx
        · have HF := veil (HG.out (by simp [tokFault, tokOk, h]))
          have HT := veil (show tokFault 1 tx = 4 by simp [tokFault, tokOk, h])
          go_wp2_with (first | (go_at_call 43; refine (in_any _ _ _ _).mono ?_; rintro e w' ⟨rfl, rfl⟩) | (go_at_call 80; refine (wordMay_any _ hsz _).mono ?_; rintro e w' ⟨rfl, rfl⟩))
          go_ret
          exact ⟨by rw [HF.out, HT.out]; rfl, hbl.alloc hbs _⟩
        · have HM := veil (HN.out (by simp [tokFault, tokOk, h]))
          go_wp2_with (first | (go_at_call 43; refine (in_any _ _ _ _).mono ?_; rintro e w' ⟨rfl, rfl⟩) | (go_at_call 80; refine (wordMay_any _ hsz _).mono ?_; rintro e w' ⟨rfl, rfl⟩))
          exact ⟨⟨k + 1, by omega, by go_num, HM.out, hbl.alloc hbs _⟩, by simp [intOf]; omega⟩
      by_cases h2 : kd = 2
      · subst h2
        have hin : isIn 2 1 4 = true := rfl
        cases h : numOk tx
        · have HF := veil (HG.out (by simp [tokFault, tokOk, h]))
          have HT := veil (show tokFault 2 tx = 4 by simp [tokFault, tokOk, h])
          go_wp2_with (first | (go_at_call 43; refine (in_any _ _ _ _).mono ?_; rintro e w' ⟨rfl, rfl⟩) | (go_at_call 81; refine (digitsMay_any _ hsz _).mono ?_; rintro e w' ⟨rfl, rfl⟩))
          go_ret
          exact ⟨by rw [HF.out, HT.out]; rfl, hbl.alloc hbs _⟩
        · have HM := veil (HN.out (by simp [tokFault, tokOk, h]))
          go_wp2_with (first | (go_at_call 43; refine (in_any _ _ _ _).mono ?_; rintro e w' ⟨rfl, rfl⟩) | (go_at_call 81; refine (digitsMay_any _ hsz _).mono ?_; rintro e w' ⟨rfl, rfl⟩))
          exact ⟨⟨k + 1, by omega, by go_num, HM.out, hbl.alloc hbs _⟩, by simp [intOf]; omega⟩
      by_cases h3 : kd = 3
      · subst h3
        have hin : isIn 3 1 4 = true := rfl
        cases h : quoteOk tx
        · have HF := veil (HG.out (by simp [tokFault, tokOk, h]))
          have HT := veil (show tokFault 3 tx = 4 by simp [tokFault, tokOk, h])
          go_wp2_with (first | (go_at_call 43; refine (in_any _ _ _ _).mono ?_; rintro e w' ⟨rfl, rfl⟩) | (go_at_call 82; refine (quoteMay_any _ hsz _).mono ?_; rintro e w' ⟨rfl, rfl⟩))
          go_ret
          exact ⟨by rw [HF.out, HT.out]; rfl, hbl.alloc hbs _⟩
        · have HM := veil (HN.out (by simp [tokFault, tokOk, h]))
          go_wp2_with (first | (go_at_call 43; refine (in_any _ _ _ _).mono ?_; rintro e w' ⟨rfl, rfl⟩) | (go_at_call 82; refine (quoteMay_any _ hsz _).mono ?_; rintro e w' ⟨rfl, rfl⟩))
          exact ⟨⟨k + 1, by omega, by go_num, HM.out, hbl.alloc hbs _⟩, by simp [intOf]; omega⟩
      by_cases h4 : kd = 4
      · subst h4
        have hin : isIn 4 1 4 = true := rfl
        cases h : signOk tx
        · have HF := veil (HG.out (by simp [tokFault, tokOk, h]))
          have HT := veil (show tokFault 4 tx = 4 by simp [tokFault, tokOk, h])
          go_wp2_with (first | (go_at_call 43; refine (in_any _ _ _ _).mono ?_; rintro e w' ⟨rfl, rfl⟩) | (go_at_call 83; refine (signMay_any _ _).mono ?_; rintro e w' ⟨rfl, rfl⟩))
          go_ret
          exact ⟨by rw [HF.out, HT.out]; rfl, hbl.alloc hbs _⟩
        · have HM := veil (HN.out (by simp [tokFault, tokOk, h]))
          go_wp2_with (first | (go_at_call 43; refine (in_any _ _ _ _).mono ?_; rintro e w' ⟨rfl, rfl⟩) | (go_at_call 83; refine (signMay_any _ _).mono ?_; rintro e w' ⟨rfl, rfl⟩))
          exact ⟨⟨k + 1, by omega, by go_num, HM.out, hbl.alloc hbs _⟩, by simp [intOf]; omega⟩
      · have hin : isIn kd 1 4 = false := by simp [isIn]; omega
        have HF := veil (HG.out (by simp [tokFault]; omega))
        have HT := veil (show tokFault kd tx = 3 by simp [tokFault]; omega)
        clear h1 h2 h3 h4
        go_wp2_with (go_at_call 43; refine (in_any _ _ _ _).mono ?_; rintro e w' ⟨rfl, rfl⟩)
        go_ret
        exact ⟨by rw [HF.out, HT.out]; rfl, hbl.alloc hbs _⟩
    · have HF := veil (faults_none l fun j hj => HA.out j (by omega))
      clear HC
      go_wp2
      go_ret
      exact ⟨by rw [HF.out]; rfl, hbl⟩

theorem fault_any (v : Value) (l : List (Int × ByteArray)) (w : World) (h : TokRow w v l) :
    Calls Tryz.prog 44 #[v] w fun e w' => e = .returned (.int .i64 (checkAll l)) ∧ Below w.heap.size w w' := by
  rcases h with ⟨rfl, a, cap, rfl⟩ | ⟨b, off, cap, rfl, hb, hl, hcell⟩
  · have HF : Hid (checkAll [] = 0) := rfl
    go_enter Tryz.func44, Tryz.ntmps44
    go_wp2
    refine wp_loop_rounds 1 ?_
    rw [rounds_succ]
    go_wp2
    go_ret
    exact ⟨by rw [HF.out]; rfl, Below.refl _ _⟩
  · by_cases h200 : 200 < l.length
    · have h' : (200 : Int) < (l.length : Int) := by omega
      have HF : Hid (checkAll l = 1) := if_pos h200
      clear hcell h200
      unfold maxLen at hl
      go_enter Tryz.func44, Tryz.ntmps44
      go_wp2
      go_ret
      exact ⟨by rw [HF.out]; rfl, Below.refl _ _⟩
    · have HF : checkAll l = faults l := if_neg h200
      rw [HF]
      exact fault_row b off cap l w hb (by omega) hcell

/-- what lies below lies there later, too. -/
theorem TokRow.later {w w' : World} {v : Value} {l : List (Int × ByteArray)} (h : TokRow w v l) (hb : Below w.heap.size w w') : TokRow w' v l := by
  rcases h with h | ⟨b, off, cap, rfl, hbw, hl, hcell⟩
  · exact Or.inl h
  · exact Or.inr ⟨b, off, cap, rfl, Nat.lt_of_lt_of_le hbw hb.size, hl, fun i hi =>
      ⟨(hb.cell (by exact hbw)).trans (hcell i hi).1, (hb.cell (by exact hbw)).trans (hcell i hi).2.1, (hcell i hi).2.2⟩⟩

end Go.Proofs.YtpamadnckijfkabGreatDoor
