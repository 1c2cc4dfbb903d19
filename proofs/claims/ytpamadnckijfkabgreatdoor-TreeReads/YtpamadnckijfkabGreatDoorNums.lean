/- What token.number and the reference's digitsMay answer, at every text: whether it is one to six digits, without a needless 0 in front. -/
import Derived.Test.YtpamadnckijfkabGreatDoorWords
namespace Go.Proofs.YtpamadnckijfkabGreatDoor
open Go.RowKit
set_option maxRecDepth 100000

/-- what the digits ahead of place k make. -/
def valTo (s : ByteArray) : Nat → Int
  | 0 => 0
  | k + 1 => valTo s k * 10 + byteAt s k - 48

def numAt (s : ByteArray) (j : Nat) : Bool := isDigit (byteAt s j) && decide (valTo s (j + 1) ≤ 999999)
def leadZero (s : ByteArray) : Bool := decide (1 < s.size) && (byteAt s 0 == 48)
def numOk (s : ByteArray) : Bool := allB (fun j => isDigit (byteAt s j)) s.size && (isIn s.size 1 6 && !leadZero s)

theorem digit_bd {b : Int} (h : isDigit b = true) : 48 ≤ b ∧ b ≤ 57 := by
  simpa [isDigit] using h

theorem valTo_bd (s : ByteArray) (n : Nat) (h : ∀ j, j < n → isDigit (byteAt s j) = true) : ∀ k, k ≤ n → 0 ≤ valTo s k ∧ valTo s k < 10 ^ k
  | 0, _ => by simp [valTo]
  | k + 1, hk => by
    have ih := valTo_bd s n h k (by omega)
    have hd := digit_bd (h k (by omega))
    have e : (10 : Int) ^ (k + 1) = 10 ^ k * 10 := Int.pow_succ _ _
    simp only [valTo]
    omega

theorem valTo_up (s : ByteArray) (n : Nat) (h : ∀ j, j < n → isDigit (byteAt s j) = true) (h0 : byteAt s 0 ≠ 48) (hn : 6 < n) : 999999 < valTo s 7 := by
  have d0 := digit_bd (h 0 (by omega))
  have d1 := digit_bd (h 1 (by omega))
  have d2 := digit_bd (h 2 (by omega))
  have d3 := digit_bd (h 3 (by omega))
  have d4 := digit_bd (h 4 (by omega))
  have d5 := digit_bd (h 5 (by omega))
  have d6 := digit_bd (h 6 (by omega))
  simp only [valTo]
  omega

theorem numOk_go (s : ByteArray) (h1 : s.size ≠ 0) (h2 : leadZero s = false) : allB (numAt s) s.size = numOk s := by
  unfold numOk
  rw [h2, Bool.not_false, Bool.and_true]
  rw [Bool.eq_iff_iff, Bool.and_eq_true, allB_iff, allB_iff]
  constructor
  · intro e
    have hd : ∀ j, j < s.size → isDigit (byteAt s j) = true := fun j hj => by
      have := e j hj
      simp only [numAt, Bool.and_eq_true] at this
      exact this.1
    refine ⟨hd, ?_⟩
    by_cases h6 : 6 < s.size
    · have hz : byteAt s 0 ≠ 48 := by
        intro hz
        simp [leadZero, hz] at h2
        omega
      have hu := valTo_up s s.size hd hz h6
      have := e 6 h6
      simp only [numAt, Bool.and_eq_true, decide_eq_true_eq] at this
      have h7 : valTo s 7 ≤ 999999 := this.2
      omega
    · simp [isIn]; omega
  · rintro ⟨hd, hin⟩ j hj
    have hs : s.size ≤ 6 := by simp [isIn] at hin; omega
    have hb := (valTo_bd s s.size hd (j + 1) (by omega)).2
    have hp : 10 ^ (j + 1) ≤ 10 ^ 6 := Nat.pow_le_pow_right (by omega) (by omega)
    have hq : ((10 ^ (j + 1) : Nat) : Int) = (10 : Int) ^ (j + 1) := Int.natCast_pow 10 (j + 1)
    have hr : (10 : Nat) ^ 6 = 1000000 := rfl
    simp only [numAt, Bool.and_eq_true, decide_eq_true_eq]
    exact ⟨hd j hj, by omega⟩

theorem num_empty (s : ByteArray) (h : s.size = 0) : numOk s = false := by
  simp [numOk, isIn, h]
theorem num_lead (s : ByteArray) (h : leadZero s = true) : numOk s = false := by
  simp [numOk, h]

/-- the closure of token.number, at its variable's cell. -/
theorem num_step (b v : Int) (B : Nat) (hb0 : 0 ≤ b) (hb1 : b ≤ 255) (hv0 : 0 ≤ v) (hv1 : v ≤ 999999) (w : World) (hc : w.cell? ⟨B, 0, none⟩ = some (.int .i64 v)) (hf : w.frozen? ⟨B, 0, none⟩ = false) :
    Calls Tryz.prog 130 #[.int .u8 b, .pointer (some ⟨B, 0, none⟩)] w fun e w' => e = .returned (.bool (isDigit b && decide (v * 10 + b - 48 ≤ 999999))) ∧ w.setCell ⟨B, 0, none⟩ (.int .i64 (v * 10 + b - 48)) = w' := by
  cases hd : isDigit b
  · go_enter Tryz.func130, Tryz.ntmps130
    go_wp2_with (go_at_call 100; refine (digit_any _ _).mono ?_; rintro e w' ⟨rfl, rfl⟩)
    go_ret
    exact ⟨rfl, rfl⟩
  · go_enter Tryz.func130, Tryz.ntmps130
    go_wp2_with (go_at_call 100; refine (digit_any _ _).mono ?_; rintro e w' ⟨rfl, rfl⟩)
    go_ret
    exact ⟨rfl, rfl⟩

theorem number_every (s : ByteArray) (hmax : s.size ≤ maxLen) (w : World) :
    Calls Tryz.prog 129 #[.string s, .func (.func 130) #[] #[.pointer (some ⟨w.heap.size, 0, none⟩)]] (w.alloc (.cells #[.int .i64 0] 3)) fun e w' => e = .returned (.bool (allB (numAt s) s.size)) ∧ Below w.heap.size w w' := by
  refine (every_any 130 #[.pointer (some ⟨w.heap.size, 0, none⟩)] (enters_of Tryz.func130 (by kernel_rfl) rfl) s hmax (numAt s)
    (fun k W => W.cell? ⟨w.heap.size, 0, none⟩ = some (.int .i64 (valTo s k)) ∧ W.frozen? ⟨w.heap.size, 0, none⟩ = false ∧ W.cell? ⟨w.heap.size + 1, 0, none⟩ = some (.string s) ∧ Below w.heap.size w W)
    (w.alloc (.cells #[.int .i64 0] 3)) ?_ ?_ ?_).mono ?_
  · rintro k hk W _ hall ⟨hc, hf, hcs, hbl⟩
    have hd : ∀ j, j < k → isDigit (byteAt s j) = true := fun j hj => by
      have := hall j (Nat.zero_le _) hj
      simp only [numAt, Bool.and_eq_true] at this
      exact this.1
    have hv0 : 0 ≤ valTo s k := (valTo_bd s k hd k (Nat.le_refl _)).1
    have hv1 : valTo s k ≤ 999999 := by
      cases k with
      | zero => simp [valTo]
      | succ j =>
        have := hall j (Nat.zero_le _) (by omega)
        simp only [numAt, Bool.and_eq_true, decide_eq_true_eq] at this
        exact this.2
    have hr := byteAt_range s k
    have hb := byteAt_get s k hk
    rw [hb]
    refine (num_step (byteAt s k) (valTo s k) w.heap.size hr.1 hr.2 hv0 hv1 W hc hf).mono ?_
    rintro e w' ⟨rfl, rfl⟩
    refine ⟨rfl, World.cell?_setCell_same W _ _ hc, ?_, ?_, hbl.setCell (Nat.le_refl _) _⟩
    · rw [World.frozen?_setCell]; exact hf
    · exact (World.cell?_setCell_other W _ _ _ (by intro h; injection h; omega)).trans hcs
  · rintro k W ⟨_, _, hcs, _⟩
    simpa using hcs
  · refine ⟨?_, ?_, ?_, ?_⟩
    · rw [World.cell?_alloc_past _ _ _ (by simp), World.cell?_alloc_at _ _ _ _ rfl]; rfl
    · rw [World.frozen?_alloc_past _ _ _ (by simp), World.frozen?_alloc_at _ _ _ _ rfl]
    · rw [World.cell?_alloc_at _ _ _ _ (by simp)]; rfl
    · exact ((Below.refl _ _).alloc (Nat.le_refl _) _).alloc (by simp) _
  · rintro e w' ⟨rfl, j, _, _, _, hb⟩
    exact ⟨rfl, hb⟩

set_option maxHeartbeats 400000 in
theorem number_any (s : ByteArray) (hs : s.size ≤ maxLen) (w : World) : Calls Tryz.prog 102 #[.string s] w fun e w' => e = .returned (.bool (numOk s)) ∧ Below w.heap.size w w' := by
  have hmf : ∀ (fn : Fn) (first cap : Array Value) (w : World), (Instr.makeFunc fn first cap).run Tryz.prog w = .ok (.func fn first cap) w := fun _ _ _ _ => rfl
  have hmax := hs
  unfold maxLen at hs
  by_cases h0 : s.size = 0
  · have hz : (((s.size : Nat) : Int) == 0) = true := by simp [h0]
    have HF := veil (num_empty s h0)
    clear h0
    go_enter Tryz.func102, Tryz.ntmps102
    go_wp2
    go_ret
    exact ⟨by rw [HF.out]; rfl, Below.refl _ _⟩
  · have hz : (((s.size : Nat) : Int) == 0) = false := by simp [h0]
    have hpos : 0 < s.size := by omega
    have HB := veil (byteAt_get s 0 hpos)
    cases hl : leadZero s
    · have HG := veil (numOk_go s h0 hl)
      have hev := number_every s hmax w
      have h1 : ¬ ((1 : Int) < (s.size : Int) ∧ ((s[0]'hpos).toNat : Int) = 48) := by
        rw [HB.out]
        rintro ⟨h1, h2⟩
        have h1' : 1 < s.size := by omega
        simp [leadZero, h1', h2] at hl
      clear hl h0
      by_cases h2 : (1 : Int) < (s.size : Int)
      · have h48 : (((s[0]'hpos).toNat : Int) == 48) = false := by
          rw [beq_eq_false_iff_ne]
          exact fun h => h1 ⟨h2, h⟩
        clear h1
        go_enter Tryz.func102, Tryz.ntmps102
        go_wp2_with (go_at_call 129; refine hev.mono ?_; rintro e w' ⟨rfl, hb⟩)
        go_ret
        exact ⟨by rw [← HG.out]; rfl, hb⟩
      · clear h1
        go_enter Tryz.func102, Tryz.ntmps102
        go_wp2_with (go_at_call 129; refine hev.mono ?_; rintro e w' ⟨rfl, hb⟩)
        go_ret
        exact ⟨by rw [← HG.out]; rfl, hb⟩
    · have HF := veil (num_lead s hl)
      have h1 : (1 : Int) < (s.size : Int) := by simp [leadZero] at hl; omega
      have h48 : (((s[0]'hpos).toNat : Int) == 48) = true := by rw [HB.out]; simp [leadZero] at hl; simp [hl.2]
      clear h0 hl
      go_enter Tryz.func102, Tryz.ntmps102
      go_wp2
      go_ret
      exact ⟨by rw [HF.out]; rfl, Below.refl _ _⟩

set_option maxHeartbeats 400000 in
theorem digitsMay_any (s : ByteArray) (hs : s.size ≤ maxLen) (w : World) : Calls Tryz.prog 81 #[.string s] w fun e w' => e = .returned (.bool (numOk s)) ∧ w = w' := by
  unfold maxLen at hs
  go_enter Tryz.func81, Tryz.ntmps81
  go_wp2
  go_loop [3] (fun i => ∃ k : Nat, k ≤ s.size ∧ i = .int .i64 k ∧ ∀ j, j < k → isDigit (byteAt s j) = true) (fun i => s.size - (intOf i).toNat)
  case atStart => exact ⟨0, Nat.zero_le _, rfl, fun j h => absurd h (by omega)⟩
  case round =>
    obtain ⟨k, hk, rfl, hall⟩ := hrel
    have HA : Hid (∀ j, j < k → isDigit (byteAt s j) = true) := hall
    clear hall
    by_cases hlt : k < s.size
    · have hr := byteAt_range s k
      have hb := byteAt_get s k hlt
      have hbd : 0 ≤ ((s[k]'hlt).toNat : Int) ∧ ((s[k]'hlt).toNat : Int) ≤ 255 := by rw [hb]; exact hr
      have HFin : Hid (isIn ((s[k]'hlt).toNat : Int) 48 57 = false → numOk s = false) := fun h => by
        rw [hb] at h
        simp only [numOk, allB_false (p := fun j => isDigit (byteAt s j)) hlt h, Bool.false_and]
      have HS : Hid (isIn ((s[k]'hlt).toNat : Int) 48 57 = true → ∀ j, j < k + 1 → isDigit (byteAt s j) = true) := fun h j hj => by
        by_cases e : j = k
        · rw [e, ← hb]; exact h
        · exact HA.out j (by omega)
      clear hb hr
      obtain ⟨hbd1, hbd2⟩ := hbd
      cases h1 : isIn ((s[k]'hlt).toNat : Int) 48 57
      · have HF := veil (HFin.out h1)
        go_wp2_with (go_at_call 43; refine (in_any _ _ _ _).mono ?_; rintro e w' ⟨rfl, rfl⟩)
        go_ret
        exact ⟨by rw [HF.out]; rfl, rfl⟩
      · have HN := veil (HS.out h1)
        go_wp2_with (go_at_call 43; refine (in_any _ _ _ _).mono ?_; rintro e w' ⟨rfl, rfl⟩)
        go_round
        case rel => exact ⟨k + 1, by omega, by go_num, HN.out⟩
        case measure => simp [intOf]; omega
    · have hks : k = s.size := by omega
      have HQ : Hid (numOk s = (isIn s.size 1 6 && !leadZero s)) := by
        show _ = _
        rw [numOk, (allB_iff _ _).2 (fun j hj => HA.out j (by omega)), Bool.true_and]
      clear hks
      cases h1 : isIn (s.size : Int) 1 6
      · have HF : Hid (numOk s = false) := by show _ = _; rw [HQ.out, h1]; rfl
        go_wp2_with (go_at_call 43; refine (in_any _ _ _ _).mono ?_; rintro e w' ⟨rfl, rfl⟩)
        go_ret
        exact ⟨by rw [HF.out]; rfl, rfl⟩
      · have hpos : 0 < s.size := by simp [isIn] at h1; omega
        have HB := veil (byteAt_get s 0 hpos)
        by_cases h2 : s.size = 1
        · have h2' : (((s.size : Nat) : Int) == 1) = true := by simp [h2]
          have HF : Hid (numOk s = true) := by show _ = _; rw [HQ.out, h1]; simp [leadZero, h2]
          clear h2
          go_wp2_with (go_at_call 43; refine (in_any _ _ _ _).mono ?_; rintro e w' ⟨rfl, rfl⟩)
          go_ret
          exact ⟨by rw [HF.out]; rfl, rfl⟩
        · have h2' : (((s.size : Nat) : Int) == 1) = false := by rw [beq_eq_false_iff_ne]; omega
          have HF : Hid (numOk s = (((s[0]'hpos).toNat : Int) != 48)) := by
            show _ = _
            have h3 : 1 < s.size := by omega
            rw [HQ.out, h1, HB.out]; simp [leadZero, h3, bne]
          clear h2
          go_wp2_with (go_at_call 43; refine (in_any _ _ _ _).mono ?_; rintro e w' ⟨rfl, rfl⟩)
          go_ret
          exact ⟨by rw [HF.out]; rfl, rfl⟩

end Go.Proofs.YtpamadnckijfkabGreatDoor
