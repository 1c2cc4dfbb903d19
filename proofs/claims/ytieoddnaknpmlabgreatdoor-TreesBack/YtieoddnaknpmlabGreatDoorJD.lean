/- What token.number and the reference's digitsMay answer, at every text: whether it is one to six digits, without a needless 0 in front. -/
import Derived.Test.YtieoddnaknpmlabGreatDoorJA
import Derived.Lib.Bytealg
import Derived.Lib.IndexAny
import Derived.WalkSpells
namespace Go.Proofs.YtieoddnaknpmlabGreatDoor
open Go.RowKit
set_option maxRecDepth 100000

/-- what the digits ahead of place k make. -/
def valTo (s : ByteArray) : Nat → Int
  | 0 => 0
  | k + 1 => valTo s k * 10 + byteAt s k - 48

def numAt (s : ByteArray) (j : Nat) : Bool := isDigit (byteAt s j) && decide (valTo s (j + 1) ≤ 999999)
def leadZero (s : ByteArray) : Bool := decide (1 < s.size) && (byteAt s 0 == 48)
def numOk (s : ByteArray) : Bool := allB (fun j => isDigit (byteAt s j)) s.size && (isIn s.size 1 6 && !leadZero s)

theorem digit_bd {b : Int} (h : isDigit b = true) : 48 ≤ b ∧ b ≤ 57 := by
  simpa [isDigit] using h

theorem valTo_bd (s : ByteArray) (n : Nat) (h : ∀ j, j < n → isDigit (byteAt s j) = true) : ∀ k, k ≤ n → 0 ≤ valTo s k ∧ valTo s k < 10 ^ k
  | 0, _ => by simp [valTo]
  | k + 1, hk => by
    have ih := valTo_bd s n h k (by omega)
    have hd := digit_bd (h k (by omega))
    have e : (10 : Int) ^ (k + 1) = 10 ^ k * 10 := Int.pow_succ _ _
    simp only [valTo]
    omega

theorem valTo_up (s : ByteArray) (n : Nat) (h : ∀ j, j < n → isDigit (byteAt s j) = true) (h0 : byteAt s 0 ≠ 48) (hn : 6 < n) : 999999 < valTo s 7 := by
  have d0 := digit_bd (h 0 (by omega))
  have d1 := digit_bd (h 1 (by omega))
  have d2 := digit_bd (h 2 (by omega))
  have d3 := digit_bd (h 3 (by omega))
  have d4 := digit_bd (h 4 (by omega))
  have d5 := digit_bd (h 5 (by omega))
  have d6 := digit_bd (h 6 (by omega))
  simp only [valTo]
  omega

theorem numOk_go (s : ByteArray) (h1 : s.size ≠ 0) (h2 : leadZero s = false) : allB (numAt s) s.size = numOk s := by
  unfold numOk
  rw [h2, Bool.not_false, Bool.and_true]
  rw [Bool.eq_iff_iff, Bool.and_eq_true, allB_iff, allB_iff]
  constructor
  · intro e
    have hd : ∀ j, j < s.size → isDigit (byteAt s j) = true := fun j hj => by
      have := e j hj
      simp only [numAt, Bool.and_eq_true] at this
      exact this.1
    refine ⟨hd, ?_⟩
    by_cases h6 : 6 < s.size
    · have hz : byteAt s 0 ≠ 48 := by
        intro hz
        simp [leadZero, hz] at h2
        omega
      have hu := valTo_up s s.size hd hz h6
      have := e 6 h6
      simp only [numAt, Bool.and_eq_true, decide_eq_true_eq] at this
      have h7 : valTo s 7 ≤ 999999 := this.2
      omega
    · simp [isIn]; omega
  · rintro ⟨hd, hin⟩ j hj
    have hs : s.size ≤ 6 := by simp [isIn] at hin; omega
    have hb := (valTo_bd s s.size hd (j + 1) (by omega)).2
    have hp : 10 ^ (j + 1) ≤ 10 ^ 6 := Nat.pow_le_pow_right (by omega) (by omega)
    have hq : ((10 ^ (j + 1) : Nat) : Int) = (10 : Int) ^ (j + 1) := Int.natCast_pow 10 (j + 1)
    have hr : (10 : Nat) ^ 6 = 1000000 := rfl
    simp only [numAt, Bool.and_eq_true, decide_eq_true_eq]
    exact ⟨hd j hj, by omega⟩

theorem num_empty (s : ByteArray) (h : s.size = 0) : numOk s = false := by
  simp [numOk, isIn, h]
theorem num_lead (s : ByteArray) (h : leadZero s = true) : numOk s = false := by
  simp [numOk, h]

/-- the closure of token.number, at its variable's cell. -/
theorem num_step (b v : Int) (B : Nat) (hb0 : 0 ≤ b) (hb1 : b ≤ 255) (hv0 : 0 ≤ v) (hv1 : v ≤ 999999) (w : World) (hc : w.cell? ⟨B, 0, none⟩ = some (.int .i64 v)) (hf : w.frozen? ⟨B, 0, none⟩ = false) :
    Calls Tryz.prog 130 #[.int .u8 b, .pointer (some ⟨B, 0, none⟩)] w fun e w' => e = .returned (.bool (isDigit b && decide (v * 10 + b - 48 ≤ 999999))) ∧ w.setCell ⟨B, 0, none⟩ (.int .i64 (v * 10 + b - 48)) = w' := by
  cases hd : isDigit b
  · go_enter Tryz.func130, Tryz.ntmps130
    go_wp2_with (go_at_call 100; refine (digit_any _ _).mono ?_; rintro e w' ⟨rfl, rfl⟩)
    go_ret
    exact ⟨rfl, rfl⟩
  · go_enter Tryz.func130, Tryz.ntmps130
    go_wp2_with (go_at_call 100; refine (digit_any _ _).mono ?_; rintro e w' ⟨rfl, rfl⟩)
    go_ret
    exact ⟨rfl, rfl⟩

theorem number_every (s : ByteArray) (hmax : s.size ≤ maxLen) (w : World) :
    Calls Tryz.prog 129 #[.string s, .func (.func 130) #[] #[.pointer (some ⟨w.heap.size, 0, none⟩)]] (w.alloc (.cells #[.int .i64 0] 3)) fun e w' => e = .returned (.bool (allB (numAt s) s.size)) ∧ Below w.heap.size w w' := by
  refine (every_any 130 #[.pointer (some ⟨w.heap.size, 0, none⟩)] (enters_of Tryz.func130 (by kernel_rfl) rfl) s hmax (numAt s)
    (fun k W => W.cell? ⟨w.heap.size, 0, none⟩ = some (.int .i64 (valTo s k)) ∧ W.frozen? ⟨w.heap.size, 0, none⟩ = false ∧ W.cell? ⟨w.heap.size + 1, 0, none⟩ = some (.string s) ∧ Below w.heap.size w W)
    (w.alloc (.cells #[.int .i64 0] 3)) ?_ ?_ ?_).mono ?_
  · rintro k hk W _ hall ⟨hc, hf, hcs, hbl⟩
    have hd : ∀ j, j < k → isDigit (byteAt s j) = true := fun j hj => by
      have := hall j (Nat.zero_le _) hj
      simp only [numAt, Bool.and_eq_true] at this
      exact this.1
    have hv0 : 0 ≤ valTo s k := (valTo_bd s k hd k (Nat.le_refl _)).1
    have hv1 : valTo s k ≤ 999999 := by
      cases k with
      | zero => simp [valTo]
      | succ j =>
        have := hall j (Nat.zero_le _) (by omega)
        simp only [numAt, Bool.and_eq_true, decide_eq_true_eq] at this
        exact this.2
    have hr := byteAt_range s k
    have hb := byteAt_get s k hk
    rw [hb]
    refine (num_step (byteAt s k) (valTo s k) w.heap.size hr.1 hr.2 hv0 hv1 W hc hf).mono ?_
    rintro e w' ⟨rfl, rfl⟩
    refine ⟨rfl, World.cell?_setCell_same W _ _ hc, ?_, ?_, hbl.setCell (Nat.le_refl _) _⟩
    · rw [World.frozen?_setCell]; exact hf
    · exact (World.cell?_setCell_other W _ _ _ (by intro h; injection h; omega)).trans hcs
  · rintro k W ⟨_, _, hcs, _⟩
    simpa using hcs
  · refine ⟨?_, ?_, ?_, ?_⟩
    · rw [World.cell?_alloc_past _ _ _ (by simp), World.cell?_alloc_at _ _ _ _ rfl]; rfl
    · rw [World.frozen?_alloc_past _ _ _ (by simp), World.frozen?_alloc_at _ _ _ _ rfl]
    · rw [World.cell?_alloc_at _ _ _ _ (by simp)]; rfl
    · exact ((Below.refl _ _).alloc (Nat.le_refl _) _).alloc (by simp) _
  · rintro e w' ⟨rfl, j, _, _, _, hb⟩
    exact ⟨rfl, hb⟩

set_option maxHeartbeats 400000 in
theorem number_any (s : ByteArray) (hs : s.size ≤ maxLen) (w : World) : Calls Tryz.prog 102 #[.string s] w fun e w' => e = .returned (.bool (numOk s)) ∧ Below w.heap.size w w' := by
  have hmf : ∀ (fn : Fn) (first cap : Array Value) (w : World), (Instr.makeFunc fn first cap).run Tryz.prog w = .ok (.func fn first cap) w := fun _ _ _ _ => rfl
  have hmax := hs
  unfold maxLen at hs
  by_cases h0 : s.size = 0
  · have hz : (((s.size : Nat) : Int) == 0) = true := by simp [h0]
    have HF := veil (num_empty s h0)
    clear h0
    go_enter Tryz.func102, Tryz.ntmps102
    go_wp2
    go_ret
    exact ⟨by rw [HF.out]; rfl, Below.refl _ _⟩
  · have hz : (((s.size : Nat) : Int) == 0) = false := by simp [h0]
    have hpos : 0 < s.size := by omega
    have HB := veil (byteAt_get s 0 hpos)
    cases hl : leadZero s
    · have HG := veil (numOk_go s h0 hl)
      have hev := number_every s hmax w
      have h1 : ¬ ((1 : Int) < (s.size : Int) ∧ ((s[0]'hpos).toNat : Int) = 48) := by
        rw [HB.out]
        rintro ⟨h1, h2⟩
        have h1' : 1 < s.size := by omega
        simp [leadZero, h1', h2] at hl
      clear hl h0
      by_cases h2 : (1 : Int) < (s.size : Int)
      · have h48 : (((s[0]'hpos).toNat : Int) == 48) = false := by
          rw [beq_eq_false_iff_ne]
          exact fun h => h1 ⟨h2, h⟩
        clear h1
        go_enter Tryz.func102, Tryz.ntmps102
        go_wp2_with (go_at_call 129; refine hev.mono ?_; rintro e w' ⟨rfl, hb⟩)
        go_ret
        exact ⟨by rw [← HG.out]; rfl, hb⟩
      · clear h1
        go_enter Tryz.func102, Tryz.ntmps102
        go_wp2_with (go_at_call 129; refine hev.mono ?_; rintro e w' ⟨rfl, hb⟩)
        go_ret
        exact ⟨by rw [← HG.out]; rfl, hb⟩
    · have HF := veil (num_lead s hl)
      have h1 : (1 : Int) < (s.size : Int) := by simp [leadZero] at hl; omega
      have h48 : (((s[0]'hpos).toNat : Int) == 48) = true := by rw [HB.out]; simp [leadZero] at hl; simp [hl.2]
      clear h0 hl
      go_enter Tryz.func102, Tryz.ntmps102
      go_wp2
      go_ret
      exact ⟨by rw [HF.out]; rfl, Below.refl _ _⟩

set_option maxHeartbeats 400000 in
theorem digitsMay_any (s : ByteArray) (hs : s.size ≤ maxLen) (w : World) : Calls Tryz.prog 81 #[.string s] w fun e w' => e = .returned (.bool (numOk s)) ∧ w = w' := by
  unfold maxLen at hs
  go_enter Tryz.func81, Tryz.ntmps81
  go_wp2
  go_loop [3] (fun i => ∃ k : Nat, k ≤ s.size ∧ i = .int .i64 k ∧ ∀ j, j < k → isDigit (byteAt s j) = true) (fun i => s.size - (intOf i).toNat)
  case atStart => exact ⟨0, Nat.zero_le _, rfl, fun j h => absurd h (by omega)⟩
  case round =>
    obtain ⟨k, hk, rfl, hall⟩ := hrel
    have HA : Hid (∀ j, j < k → isDigit (byteAt s j) = true) := hall
    clear hall
    by_cases hlt : k < s.size
    · have hr := byteAt_range s k
      have hb := byteAt_get s k hlt
      have hbd : 0 ≤ ((s[k]'hlt).toNat : Int) ∧ ((s[k]'hlt).toNat : Int) ≤ 255 := by rw [hb]; exact hr
      have HFin : Hid (isIn ((s[k]'hlt).toNat : Int) 48 57 = false → numOk s = false) := fun h => by
        rw [hb] at h
        simp only [numOk, allB_false (p := fun j => isDigit (byteAt s j)) hlt h, Bool.false_and]
      have HS : Hid (isIn ((s[k]'hlt).toNat : Int) 48 57 = true → ∀ j, j < k + 1 → isDigit (byteAt s j) = true) := fun h j hj => by
        by_cases e : j = k
        · rw [e, ← hb]; exact h
        · exact HA.out j (by omega)
      clear hb hr
      obtain ⟨hbd1, hbd2⟩ := hbd
      cases h1 : isIn ((s[k]'hlt).toNat : Int) 48 57
      · have HF := veil (HFin.out h1)
        go_wp2_with (go_at_call 43; refine (in_any _ _ _ _).mono ?_; rintro e w' ⟨rfl, rfl⟩)
        go_ret
        exact ⟨by rw [HF.out]; rfl, rfl⟩
      · have HN := veil (HS.out h1)
        go_wp2_with (go_at_call 43; refine (in_any _ _ _ _).mono ?_; rintro e w' ⟨rfl, rfl⟩)
        go_round
        case rel => exact ⟨k + 1, by omega, by go_num, HN.out⟩
        case measure => simp [intOf]; omega
    · have hks : k = s.size := by omega
      have HQ : Hid (numOk s = (isIn s.size 1 6 && !leadZero s)) := by
        show _ = _
        rw [numOk, (allB_iff _ _).2 (fun j hj => HA.out j (by omega)), Bool.true_and]
      clear hks
      cases h1 : isIn (s.size : Int) 1 6
      · have HF : Hid (numOk s = false) := by show _ = _; rw [HQ.out, h1]; rfl
        go_wp2_with (go_at_call 43; refine (in_any _ _ _ _).mono ?_; rintro e w' ⟨rfl, rfl⟩)
        go_ret
        exact ⟨by rw [HF.out]; rfl, rfl⟩
      · have hpos : 0 < s.size := by simp [isIn] at h1; omega
        have HB := veil (byteAt_get s 0 hpos)
        by_cases h2 : s.size = 1
        · have h2' : (((s.size : Nat) : Int) == 1) = true := by simp [h2]
          have HF : Hid (numOk s = true) := by show _ = _; rw [HQ.out, h1]; simp [leadZero, h2]
          clear h2
          go_wp2_with (go_at_call 43; refine (in_any _ _ _ _).mono ?_; rintro e w' ⟨rfl, rfl⟩)
          go_ret
          exact ⟨by rw [HF.out]; rfl, rfl⟩
        · have h2' : (((s.size : Nat) : Int) == 1) = false := by rw [beq_eq_false_iff_ne]; omega
          have HF : Hid (numOk s = (((s[0]'hpos).toNat : Int) != 48)) := by
            show _ = _
            have h3 : 1 < s.size := by omega
            rw [HQ.out, h1, HB.out]; simp [leadZero, h3, bne]
          clear h2
          go_wp2_with (go_at_call 43; refine (in_any _ _ _ _).mono ?_; rintro e w' ⟨rfl, rfl⟩)
          go_ret
          exact ⟨by rw [HF.out]; rfl, rfl⟩

end Go.Proofs.YtieoddnaknpmlabGreatDoor

/- What token.sign and the reference's signMay answer, at every text: whether it is one of the eleven signs. -/
namespace Go.Proofs.YtieoddnaknpmlabGreatDoor
open Go.RowKit
set_option maxRecDepth 100000

def allSigns : List UInt8 := [61, 40, 41, 91, 93, 44, 43, 46, 58, 60, 62]
def signOk (s : ByteArray) : Bool := match s.data.toList with
  | [b] => allSigns.contains b
  | _ => false

set_option maxHeartbeats 400000 in
theorem indexByte_lite (s : ByteArray) (c : Int) (w : World) :
    Calls Tryz.prog 124 #[.string s, .int .u8 c] w fun e w' => e = .returned (.int .i64 (Lib.indexByte s.data.toList c.toNat.toUInt8)) ∧ w = w' := by
  go_enter Tryz.func124, Tryz.ntmps124
  go_wp2
  rw [run_callFunc_extern Tryz.func139 (by kernel_rfl) (by kernel_rfl) (by kernel_rfl) (e := Extern.BytealgIndexByte.indexByte) (by kernel_rfl), Lib.run_indexByteString]
  simp only [Result.andThen]
  rw [Oper.upon_value]
  go_wp2
  go_ret
  exact ⟨rfl, rfl⟩

theorem indexByte_any (s : ByteArray) (c : Int) (w : World) :
    Calls Tryz.prog 132 #[.string s, .int .u8 c] w fun e w' => e = .returned (.int .i64 (Lib.indexByte s.data.toList c.toNat.toUInt8)) ∧ w = w' := by
  go_enter Tryz.func132, Tryz.ntmps132
  go_wp2_with (go_at_call 124; refine (indexByte_lite _ _ _).mono ?_; rintro e w' ⟨rfl, rfl⟩)
  go_ret
  exact ⟨rfl, rfl⟩

theorem signTest (s : ByteArray) (k : Nat) (hk : k < 11) :
    (s.toList == ((ByteArray.mk #[61, 40, 41, 91, 93, 44, 43, 46, 58, 60, 62]).extract k (k + 1)).toList) = (s.data.toList == [allSigns.getD k 0]) := by
  rw [Lib.toList_data, Lib.toList_data, Lib.extract_data]
  have e : k + 1 - k = 1 := by omega
  rw [e]
  match k, hk with
  | 0, _ => rfl
  | 1, _ => rfl
  | 2, _ => rfl
  | 3, _ => rfl
  | 4, _ => rfl
  | 5, _ => rfl
  | 6, _ => rfl
  | 7, _ => rfl
  | 8, _ => rfl
  | 9, _ => rfl
  | 10, _ => rfl

theorem sign_hit (s : ByteArray) (k : Nat) (hk : k < 11) (h : (s.data.toList == [allSigns.getD k 0]) = true) : signOk s = true := by
  have h' : s.data.toList = [allSigns.getD k 0] := by simpa using h
  unfold signOk
  rw [h']
  match k, hk with
  | 0, _ => rfl
  | 1, _ => rfl
  | 2, _ => rfl
  | 3, _ => rfl
  | 4, _ => rfl
  | 5, _ => rfl
  | 6, _ => rfl
  | 7, _ => rfl
  | 8, _ => rfl
  | 9, _ => rfl
  | 10, _ => rfl

theorem sign_miss (s : ByteArray) (h : ∀ j, j < 11 → s.data.toList ≠ [allSigns.getD j 0]) : signOk s = false := by
  unfold signOk
  split
  · rename_i b e
    rw [e] at h
    cases hb : allSigns.contains b with
    | false => rfl
    | true =>
      exfalso
      rw [List.contains_iff_mem] at hb
      obtain ⟨i, hi, hb'⟩ := List.mem_iff_getElem.1 hb
      refine h i hi ?_
      rw [← hb', List.getD_eq_getElem?_getD, List.getElem?_eq_getElem hi]
      rfl
  · rfl

set_option maxHeartbeats 400000 in
theorem signMay_any (s : ByteArray) (w : World) : Calls Tryz.prog 83 #[.string s] w fun e w' => e = .returned (.bool (signOk s)) ∧ w = w' := by
  go_enter Tryz.func83, Tryz.ntmps83
  go_wp2
  go_loop [4] (fun i => ∃ k : Nat, k ≤ 11 ∧ i = .int .i64 k ∧ ∀ j, j < k → s.data.toList ≠ [allSigns.getD j 0]) (fun i => 11 - (intOf i).toNat)
  case atStart => exact ⟨0, Nat.zero_le _, rfl, fun j h => absurd h (by omega)⟩
  case round =>
    obtain ⟨k, hk, rfl, hall⟩ := hrel
    have HA : Hid (∀ j, j < k → s.data.toList ≠ [allSigns.getD j 0]) := hall
    clear hall
    by_cases hlt : k < 11
    · have ht := signTest s k hlt
      cases ht' : (s.data.toList == [allSigns.getD k 0])
      · rw [ht'] at ht
        have HN : Hid (∀ j, j < k + 1 → s.data.toList ≠ [allSigns.getD j 0]) := fun j hj => by
          by_cases e : j = k
          · rw [e]; simpa using ht'
          · exact HA.out j (by omega)
        clear ht'
        go_wp2
        go_round
        case rel => exact ⟨k + 1, by omega, by go_num, HN.out⟩
        case measure => simp [intOf]; omega
      · rw [ht'] at ht
        have HF := veil (sign_hit s k hlt ht')
        clear ht'
        go_wp2
        go_ret
        exact ⟨by rw [HF.out]; rfl, rfl⟩
    · have HF := veil (sign_miss s fun j hj => HA.out j (by omega))
      go_wp2
      go_ret
      exact ⟨by rw [HF.out]; rfl, rfl⟩

theorem sign_one (s : ByteArray) (h : s.size = 1) (hp : 0 < s.size) : signOk s = decide ((0 : Int) ≤ Lib.indexByte [61, 40, 41, 91, 93, 44, 43, 46, 58, 60, 62] (s[0]'hp)) := by
  obtain ⟨⟨l⟩⟩ := s
  have hl : l.length = 1 := h
  match l, hl with
  | [b], _ =>
    rw [← Lib.contains_iff_indexByte]
    rfl

theorem sign_many (s : ByteArray) (h : s.size ≠ 1) : signOk s = false := by
  obtain ⟨⟨l⟩⟩ := s
  have hl : l.length ≠ 1 := h
  match l, hl with
  | [], _ => rfl
  | [b], hl => exact absurd rfl hl
  | a :: b :: l, _ => rfl

set_option maxHeartbeats 400000 in
theorem sign_any (s : ByteArray) (w : World) : Calls Tryz.prog 104 #[.string s] w fun e w' => e = .returned (.bool (signOk s)) ∧ w = w' := by
  by_cases h : s.size = 1
  · have h' : (((s.size : Nat) : Int) == 1) = true := by simp [h]
    have hpos : 0 < s.size := by omega
    have HF := veil (sign_one s h hpos)
    clear h
    go_enter Tryz.func104, Tryz.ntmps104
    go_wp2_with (go_at_call 132; refine (indexByte_any _ _ _).mono ?_; rintro e w' ⟨rfl, rfl⟩)
    go_ret
    exact ⟨by rw [HF.out]; rfl, rfl⟩
  · have h' : (((s.size : Nat) : Int) == 1) = false := by rw [beq_eq_false_iff_ne]; omega
    have HF := veil (sign_many s h)
    clear h
    go_enter Tryz.func104, Tryz.ntmps104
    go_wp2
    go_ret
    exact ⟨by rw [HF.out]; rfl, rfl⟩

end Go.Proofs.YtieoddnaknpmlabGreatDoor

/- What token.checkOne answers at every token, and token.Check and the reference's TokensFault at every list of tokens: the first fault, by the plain functions below. -/
namespace Go.Proofs.YtieoddnaknpmlabGreatDoor
open Go.RowKit
set_option maxRecDepth 100000

def tokOk (k : Int) (t : ByteArray) : Bool := if k = 1 then wordOk t else if k = 2 then numOk t else if k = 3 then quoteOk t else signOk t
def tokFault (k : Int) (t : ByteArray) : Int := if 1 ≤ k ∧ k ≤ 4 then (if tokOk k t = true then 0 else 4) else 3

set_option maxHeartbeats 1000000 in
theorem checkOne_any (k : Int) (t : ByteArray) (ht : t.size ≤ maxLen) (w : World) :
    Calls Tryz.prog 64 #[.agg #[.int .i64 k, .string t]] w fun e w' => e = .returned (.int .i64 (tokFault k t)) ∧ Below w.heap.size w w' := by
  have hb0 : Below w.heap.size w (w.alloc (.cells #[.int .i64 k, .string t] 90)) := (Below.refl _ _).alloc (Nat.le_refl _) _
  have HB := veil hb0
  clear hb0
  by_cases h1 : k = 1
  · subst h1
    cases h : wordOk t
    all_goals
      have HF := veil (show tokFault 1 t = _ by simp [tokFault, tokOk, h]; rfl)
      go_enter Tryz.func64, Tryz.ntmps64
      go_wp2_with (go_at_call 101; refine (word_any t ht _).mono ?_; rintro e w' ⟨rfl, hb⟩)
      go_ret
      exact ⟨by rw [HF.out]; rfl, HB.out.trans (hb.mono (by simp))⟩
  by_cases h2 : k = 2
  · subst h2
    cases h : numOk t
    all_goals
      have HF := veil (show tokFault 2 t = _ by simp [tokFault, tokOk, h]; rfl)
      go_enter Tryz.func64, Tryz.ntmps64
      go_wp2_with (go_at_call 102; refine (number_any t ht _).mono ?_; rintro e w' ⟨rfl, hb⟩)
      go_ret
      exact ⟨by rw [HF.out]; rfl, HB.out.trans (hb.mono (by simp))⟩
  by_cases h3 : k = 3
  · subst h3
    cases h : quoteOk t
    all_goals
      have HF := veil (show tokFault 3 t = _ by simp [tokFault, tokOk, h]; rfl)
      go_enter Tryz.func64, Tryz.ntmps64
      go_wp2_with (go_at_call 103; refine (quotable_any t ht _).mono ?_; rintro e w' ⟨rfl, hb⟩)
      go_ret
      exact ⟨by rw [HF.out]; rfl, HB.out.trans (hb.mono (by simp))⟩
  by_cases h4 : k = 4
  · subst h4
    cases h : signOk t
    all_goals
      have HF := veil (show tokFault 4 t = _ by simp [tokFault, tokOk, h]; rfl)
      go_enter Tryz.func64, Tryz.ntmps64
      go_wp2_with (go_at_call 104; refine (sign_any t _).mono ?_; rintro e w' ⟨rfl, rfl⟩)
      go_ret
      exact ⟨by rw [HF.out]; rfl, HB.out⟩
  · have HF := veil (show tokFault k t = 3 by simp [tokFault]; omega)
    have h1' : (k == 1) = false := beq_eq_false_iff_ne.2 h1
    have h2' : (k == 2) = false := beq_eq_false_iff_ne.2 h2
    have h3' : (k == 3) = false := beq_eq_false_iff_ne.2 h3
    have h4' : (k == 4) = false := beq_eq_false_iff_ne.2 h4
    clear h1 h2 h3 h4
    go_enter Tryz.func64, Tryz.ntmps64
    go_wp2
    go_ret
    exact ⟨by rw [HF.out]; rfl, HB.out⟩

end Go.Proofs.YtieoddnaknpmlabGreatDoor

/- What token.Check and the reference's TokensFault answer, at every list of tokens: more than 200: too many; else the first fault. -/
namespace Go.Proofs.YtieoddnaknpmlabGreatDoor
open Go.RowKit
set_option maxRecDepth 100000

/-- a list of tokens, as it lies in memory: kinds and texts. -/
def TokRow (w : World) (v : Value) (l : List (Int × ByteArray)) : Prop :=
  (l = [] ∧ ∃ a cap, v = .slice a 0 cap) ∨
  ∃ b off cap, v = .slice (some ⟨b, off, none⟩) l.length cap ∧ b < w.heap.size ∧ l.length ≤ maxLen ∧
    ∀ i, i < l.length → w.cell? ⟨b, off + i * 2, none⟩ = some (.int .i64 (l.getD i (0, .empty)).1) ∧ w.cell? ⟨b, off + i * 2 + 1, none⟩ = some (.string (l.getD i (0, .empty)).2) ∧ (l.getD i (0, .empty)).2.size ≤ maxLen

def faultOf (t : Int × ByteArray) : Int := tokFault t.1 t.2
def faults : List (Int × ByteArray) → Int
  | [] => 0
  | t :: r => if faultOf t = 0 then faults r else faultOf t
def checkAll (l : List (Int × ByteArray)) : Int := if 200 < l.length then 1 else faults l

theorem faults_at : ∀ (l : List (Int × ByteArray)) (k : Nat), k < l.length → (∀ j, j < k → faultOf (l.getD j (0, .empty)) = 0) → faultOf (l.getD k (0, .empty)) ≠ 0 → faults l = faultOf (l.getD k (0, .empty))
  | [], k, h, _, _ => absurd h (by simp)
  | t :: r, 0, _, _, h0 => by
    have h0' : faultOf t ≠ 0 := by simpa using h0
    simp [faults, h0']
  | t :: r, k + 1, h, hj, h0 => by
    have ht : faultOf t = 0 := by simpa using hj 0 (by omega)
    have ih := faults_at r k (by simpa using h) (fun j hjk => by simpa using hj (j + 1) (by omega)) (by simpa using h0)
    simpa [faults, ht] using ih

theorem faults_none : ∀ (l : List (Int × ByteArray)), (∀ j, j < l.length → faultOf (l.getD j (0, .empty)) = 0) → faults l = 0
  | [], _ => rfl
  | t :: r, h => by
    have ht : faultOf t = 0 := by simpa using h 0 (by simp)
    have ih := faults_none r (fun j hj => by simpa using h (j + 1) (by simpa using hj))
    simp [faults, ht, ih]

set_option maxHeartbeats 2000000 in
theorem fault_row (b off cap : Nat) (l : List (Int × ByteArray)) (w : World) (hbw : b < w.heap.size) (hl : l.length ≤ 200)
    (hcell : ∀ i, i < l.length → w.cell? ⟨b, off + i * 2, none⟩ = some (.int .i64 (l.getD i (0, .empty)).1) ∧ w.cell? ⟨b, off + i * 2 + 1, none⟩ = some (.string (l.getD i (0, .empty)).2) ∧ (l.getD i (0, .empty)).2.size ≤ maxLen) :
    Calls Tryz.prog 44 #[.slice (some ⟨b, off, none⟩) l.length cap] w fun e w' => e = .returned (.int .i64 (faults l)) ∧ Below w.heap.size w w' := by
  have h200 : ¬ (200 : Int) < (l.length : Int) := by omega
  have HC := veil hcell
  clear hcell
  go_enter Tryz.func44, Tryz.ntmps44
  go_wp2
  go_loopw [3] (fun i wr => ∃ k : Nat, k ≤ l.length ∧ i = .int .i64 k ∧ (∀ j, j < k → faultOf (l.getD j (0, .empty)) = 0) ∧ Below w.heap.size w wr) (fun i _ => l.length - (intOf i).toNat)
  case atStart => exact ⟨0, Nat.zero_le _, rfl, fun j h => absurd h (by omega), Below.refl _ _⟩
  case round =>
    obtain ⟨k, hk, rfl, hall, hbl⟩ := hrel
    have HA := veil hall
    clear hall
    by_cases hlt : k < l.length
    · obtain ⟨c0, c1, hsz⟩ := HC.out k hlt
      have d0 : wr.cell? ⟨b, off + k * 2, none⟩ = some (.int .i64 (l.getD k (0, .empty)).1) := (hbl.cell (by exact hbw)).trans c0
      have d1 : wr.cell? ⟨b, off + k * 2 + 1, none⟩ = some (.string (l.getD k (0, .empty)).2) := (hbl.cell (by exact hbw)).trans c1
      clear c0 c1 HC
      obtain ⟨kd, hkd⟩ : ∃ kd, (l.getD k (0, .empty)).1 = kd := ⟨_, rfl⟩
      obtain ⟨tx, htx⟩ : ∃ tx, (l.getD k (0, .empty)).2 = tx := ⟨_, rfl⟩
      rw [hkd] at d0
      rw [htx] at d1 hsz
      have HE : Hid (faultOf (l.getD k (0, .empty)) = tokFault kd tx) := by show _ = _; rw [faultOf, hkd, htx]
      clear hkd htx
      have hbs := hbl.size
      have HN : Hid (tokFault kd tx = 0 → ∀ j, j < k + 1 → faultOf (l.getD j (0, .empty)) = 0) := fun hz j hj => by
        by_cases e : j = k
        · rw [e, HE.out, hz]
        · exact HA.out j (by omega)
      have HG : Hid (tokFault kd tx ≠ 0 → faults l = tokFault kd tx) := fun hz => by
        rw [← HE.out]
        exact faults_at l k hlt HA.out (by rw [HE.out]; exact hz)
      by_cases h1 : kd = 1
      · subst h1
        have hin : isIn 1 1 4 = true := rfl
        cases h : wordOk tx
        · have HF := veil (HG.out (by simp [tokFault, tokOk, h]))
          have HT := veil (show tokFault 1 tx = 4 by simp [tokFault, tokOk, h])
          go_wp2_with (first | (go_at_call 43; refine (in_any _ _ _ _).mono ?_; rintro e w' ⟨rfl, rfl⟩) | (go_at_call 80; refine (wordMay_any _ hsz _).mono ?_; rintro e w' ⟨rfl, rfl⟩))
          go_ret
          exact ⟨by rw [HF.out, HT.out]; rfl, hbl.alloc hbs _⟩
        · have HM := veil (HN.out (by simp [tokFault, tokOk, h]))
          go_wp2_with (first | (go_at_call 43; refine (in_any _ _ _ _).mono ?_; rintro e w' ⟨rfl, rfl⟩) | (go_at_call 80; refine (wordMay_any _ hsz _).mono ?_; rintro e w' ⟨rfl, rfl⟩))
          exact ⟨⟨k + 1, by omega, by go_num, HM.out, hbl.alloc hbs _⟩, by simp [intOf]; omega⟩
      by_cases h2 : kd = 2
      · subst h2
        have hin : isIn 2 1 4 = true := rfl
        cases h : numOk tx
        · have HF := veil (HG.out (by simp [tokFault, tokOk, h]))
          have HT := veil (show tokFault 2 tx = 4 by simp [tokFault, tokOk, h])
          go_wp2_with (first | (go_at_call 43; refine (in_any _ _ _ _).mono ?_; rintro e w' ⟨rfl, rfl⟩) | (go_at_call 81; refine (digitsMay_any _ hsz _).mono ?_; rintro e w' ⟨rfl, rfl⟩))
          go_ret
          exact ⟨by rw [HF.out, HT.out]; rfl, hbl.alloc hbs _⟩
        · have HM := veil (HN.out (by simp [tokFault, tokOk, h]))
          go_wp2_with (first | (go_at_call 43; refine (in_any _ _ _ _).mono ?_; rintro e w' ⟨rfl, rfl⟩) | (go_at_call 81; refine (digitsMay_any _ hsz _).mono ?_; rintro e w' ⟨rfl, rfl⟩))
          exact ⟨⟨k + 1, by omega, by go_num, HM.out, hbl.alloc hbs _⟩, by simp [intOf]; omega⟩
      by_cases h3 : kd = 3
      · subst h3
        have hin : isIn 3 1 4 = true := rfl
        cases h : quoteOk tx
        · have HF := veil (HG.out (by simp [tokFault, tokOk, h]))
          have HT := veil (show tokFault 3 tx = 4 by simp [tokFault, tokOk, h])
          go_wp2_with (first | (go_at_call 43; refine (in_any _ _ _ _).mono ?_; rintro e w' ⟨rfl, rfl⟩) | (go_at_call 82; refine (quoteMay_any _ hsz _).mono ?_; rintro e w' ⟨rfl, rfl⟩))
          go_ret
          exact ⟨by rw [HF.out, HT.out]; rfl, hbl.alloc hbs _⟩
        · have HM := veil (HN.out (by simp [tokFault, tokOk, h]))
          go_wp2_with (first | (go_at_call 43; refine (in_any _ _ _ _).mono ?_; rintro e w' ⟨rfl, rfl⟩) | (go_at_call 82; refine (quoteMay_any _ hsz _).mono ?_; rintro e w' ⟨rfl, rfl⟩))
          exact ⟨⟨k + 1, by omega, by go_num, HM.out, hbl.alloc hbs _⟩, by simp [intOf]; omega⟩
      by_cases h4 : kd = 4
      · subst h4
        have hin : isIn 4 1 4 = true := rfl
        cases h : signOk tx
        · have HF := veil (HG.out (by simp [tokFault, tokOk, h]))
          have HT := veil (show tokFault 4 tx = 4 by simp [tokFault, tokOk, h])
          go_wp2_with (first | (go_at_call 43; refine (in_any _ _ _ _).mono ?_; rintro e w' ⟨rfl, rfl⟩) | (go_at_call 83; refine (signMay_any _ _).mono ?_; rintro e w' ⟨rfl, rfl⟩))
          go_ret
          exact ⟨by rw [HF.out, HT.out]; rfl, hbl.alloc hbs _⟩
        · have HM := veil (HN.out (by simp [tokFault, tokOk, h]))
          go_wp2_with (first | (go_at_call 43; refine (in_any _ _ _ _).mono ?_; rintro e w' ⟨rfl, rfl⟩) | (go_at_call 83; refine (signMay_any _ _).mono ?_; rintro e w' ⟨rfl, rfl⟩))
          exact ⟨⟨k + 1, by omega, by go_num, HM.out, hbl.alloc hbs _⟩, by simp [intOf]; omega⟩
      · have hin : isIn kd 1 4 = false := by simp [isIn]; omega
        have HF := veil (HG.out (by simp [tokFault]; omega))
        have HT := veil (show tokFault kd tx = 3 by simp [tokFault]; omega)
        clear h1 h2 h3 h4
        go_wp2_with (go_at_call 43; refine (in_any _ _ _ _).mono ?_; rintro e w' ⟨rfl, rfl⟩)
        go_ret
        exact ⟨by rw [HF.out, HT.out]; rfl, hbl.alloc hbs _⟩
    · have HF := veil (faults_none l fun j hj => HA.out j (by omega))
      clear HC
      go_wp2
      go_ret
      exact ⟨by rw [HF.out]; rfl, hbl⟩

theorem fault_any (v : Value) (l : List (Int × ByteArray)) (w : World) (h : TokRow w v l) :
    Calls Tryz.prog 44 #[v] w fun e w' => e = .returned (.int .i64 (checkAll l)) ∧ Below w.heap.size w w' := by
  rcases h with ⟨rfl, a, cap, rfl⟩ | ⟨b, off, cap, rfl, hb, hl, hcell⟩
  · have HF : Hid (checkAll [] = 0) := rfl
    go_enter Tryz.func44, Tryz.ntmps44
    go_wp2
    refine wp_loop_rounds 1 ?_
    rw [rounds_succ]
    go_wp2
    go_ret
    exact ⟨by rw [HF.out]; rfl, Below.refl _ _⟩
  · by_cases h200 : 200 < l.length
    · have h' : (200 : Int) < (l.length : Int) := by omega
      have HF : Hid (checkAll l = 1) := if_pos h200
      clear hcell h200
      unfold maxLen at hl
      go_enter Tryz.func44, Tryz.ntmps44
      go_wp2
      go_ret
      exact ⟨by rw [HF.out]; rfl, Below.refl _ _⟩
    · have HF : checkAll l = faults l := if_neg h200
      rw [HF]
      exact fault_row b off cap l w hb (by omega) hcell

/-- what lies below lies there later, too. -/
theorem TokRow.later {w w' : World} {v : Value} {l : List (Int × ByteArray)} (h : TokRow w v l) (hb : Below w.heap.size w w') : TokRow w' v l := by
  rcases h with h | ⟨b, off, cap, rfl, hbw, hl, hcell⟩
  · exact Or.inl h
  · exact Or.inr ⟨b, off, cap, rfl, Nat.lt_of_lt_of_le hbw hb.size, hl, fun i hi =>
      ⟨(hb.cell (by exact hbw)).trans (hcell i hi).1, (hb.cell (by exact hbw)).trans (hcell i hi).2.1, (hcell i hi).2.2⟩⟩

end Go.Proofs.YtieoddnaknpmlabGreatDoor

/- Plain functions: where a run of bytes ends, what token begins at a place, and into which tokens a text is cut. No program is named here but for the bytes' predicates. -/
namespace Go.Proofs.YtieoddnaknpmlabGreatDoor
open Go.RowKit
set_option maxRecDepth 100000

def endOf (p : Int → Bool) (s : ByteArray) : Nat → Nat → Nat
  | 0, i => i
  | f + 1, i => if i < s.size ∧ p (byteAt s i) = true then endOf p s f (i + 1) else i
def runEnd (p : Int → Bool) (s : ByteArray) (i : Nat) : Nat := endOf p s (s.size - i) i

theorem endOf_spec (p : Int → Bool) (s : ByteArray) : ∀ (f i : Nat), i ≤ s.size → s.size - i ≤ f → RunTo (fun j => p (byteAt s j)) s.size i (endOf p s f i)
  | 0, i, h, hf => ⟨Nat.le_refl _, h, fun j h1 h2 => absurd h2 (by simp only [endOf]; omega), fun h3 => absurd h3 (by simp only [endOf]; omega)⟩
  | f + 1, i, h, hf => by
    unfold endOf
    by_cases hc : i < s.size ∧ p (byteAt s i) = true
    · rw [if_pos hc]
      obtain ⟨a, b, c, d⟩ := endOf_spec p s f (i + 1) (by omega) (by omega)
      refine ⟨by omega, b, fun j h1 h2 => ?_, d⟩
      by_cases e : j = i
      · rw [e]; exact hc.2
      · exact c j (by omega) h2
    · rw [if_neg hc]
      refine ⟨Nat.le_refl _, h, fun j h1 h2 => absurd h2 (by omega), fun h3 => ?_⟩
      cases e : p (byteAt s i) with
      | false => exact e
      | true => exact absurd ⟨h3, e⟩ hc

theorem runEnd_spec (p : Int → Bool) (s : ByteArray) (i : Nat) (h : i ≤ s.size) : RunTo (fun j => p (byteAt s j)) s.size i (runEnd p s i) := endOf_spec p s _ i h (Nat.le_refl _)

theorem runTo_unique {p : Nat → Bool} {n a k k' : Nat} (h : RunTo p n a k) (h' : RunTo p n a k') : k = k' := by
  obtain ⟨h1, h2, h3, h4⟩ := h
  obtain ⟨g1, g2, g3, g4⟩ := h'
  rcases Nat.lt_trichotomy k k' with hlt | he | hgt
  · have a := h4 (by omega)
    rw [g3 k h1 hlt] at a
    cases a
  · exact he
  · have a := g4 (by omega)
    rw [h3 k' g1 hgt] at a
    cases a

theorem runTo_eq {p : Int → Bool} {s : ByteArray} {a k : Nat} (ha : a ≤ s.size) (h : RunTo (fun j => p (byteAt s j)) s.size a k) : k = runEnd p s a := runTo_unique h (runEnd_spec p s a ha)

theorem runTo_pred {p : Nat → Bool} {n a k : Nat} (h : RunTo p n (a + 1) k) (ha : p a = true) : RunTo p n a k := by
  obtain ⟨h1, h2, h3, h4⟩ := h
  refine ⟨by omega, h2, fun j g1 g2 => ?_, h4⟩
  by_cases e : j = a
  · rw [e]; exact ha
  · exact h3 j (by omega) g2

def notQuote (b : Int) : Bool := b != 34
def isBlank (b : Int) : Bool := b == 32

/-- the token that begins at a place, and where it ends; none: a quote without an end. -/
def nextTok (s : ByteArray) (i : Nat) : Option ((Int × ByteArray) × Nat) :=
  if byteAt s i = 34 then
    (if runEnd notQuote s (i + 1) = s.size then none else some ((3, s.extract (i + 1) (runEnd notQuote s (i + 1))), runEnd notQuote s (i + 1) + 1))
  else if isLetter (byteAt s i) = true then some ((1, s.extract i (runEnd isWordB s i)), runEnd isWordB s i)
  else if isDigit (byteAt s i) = true then some ((2, s.extract i (runEnd isWordB s i)), runEnd isWordB s i)
  else some ((4, s.extract i (i + 1)), i + 1)

theorem size_extract_le (s : ByteArray) (a b : Nat) : (s.extract a b).size ≤ s.size := by
  rw [ByteArray.size_extract]; omega

theorem runEnd_gt {p : Int → Bool} {s : ByteArray} {i : Nat} (hi : i < s.size) (hp : p (byteAt s i) = true) : i < runEnd p s i := by
  obtain ⟨h1, h2, h3, h4⟩ := runEnd_spec p s i (by omega)
  rcases Nat.lt_or_ge i (runEnd p s i) with h | h
  · exact h
  · have e : runEnd p s i = i := by omega
    rw [e] at h4
    have h5 : p (byteAt s i) = false := h4 hi
    rw [hp] at h5
    cases h5

theorem nextTok_bd {s : ByteArray} {i : Nat} {t : Int × ByteArray} {e : Nat} (hi : i < s.size) (h : nextTok s i = some (t, e)) : i < e ∧ e ≤ s.size ∧ t.2.size ≤ s.size := by
  unfold nextTok at h
  have hle := fun (p : Int → Bool) (a : Nat) (ha : a ≤ s.size) => (runEnd_spec p s a ha).2.1
  split at h
  · split at h
    · cases h
    · rename_i hne
      simp only [Option.some.injEq, Prod.mk.injEq] at h
      obtain ⟨rfl, rfl⟩ := h
      have h1 := hle notQuote (i + 1) (by omega)
      have h2 := (runEnd_spec notQuote s (i + 1) (by omega)).1
      exact ⟨by omega, by omega, size_extract_le _ _ _⟩
  · split at h
    · rename_i hl
      simp only [Option.some.injEq, Prod.mk.injEq] at h
      obtain ⟨rfl, rfl⟩ := h
      exact ⟨runEnd_gt hi (by simp [isWordB, hl]), hle isWordB i (by omega), size_extract_le _ _ _⟩
    · split at h
      · rename_i hd
        simp only [Option.some.injEq, Prod.mk.injEq] at h
        obtain ⟨rfl, rfl⟩ := h
        exact ⟨runEnd_gt hi (by simp [isWordB, hd]), hle isWordB i (by omega), size_extract_le _ _ _⟩
      · simp only [Option.some.injEq, Prod.mk.injEq] at h
        obtain ⟨rfl, rfl⟩ := h
        exact ⟨by omega, by omega, size_extract_le _ _ _⟩

/-- the tokens of a text from a place on, by so many steps; none: something is no token. -/
def cutF (s : ByteArray) : Nat → Nat → Option (List (Int × ByteArray))
  | 0, _ => some []
  | f + 1, i =>
    if i < s.size then
      (if byteAt s i = 32 then cutF s f (i + 1)
       else match nextTok s i with
        | none => none
        | some (t, e) => if faultOf t = 0 then (cutF s f e).map (t :: ·) else none)
    else some []
def cutAt (s : ByteArray) (i : Nat) : Option (List (Int × ByteArray)) := cutF s (s.size - i) i

theorem cutF_past (s : ByteArray) (i : Nat) (h : ¬ i < s.size) : ∀ f, cutF s f i = some []
  | 0 => rfl
  | f + 1 => by unfold cutF; rw [if_neg h]

theorem cutF_enough (s : ByteArray) : ∀ (f g i : Nat), s.size - i ≤ f → s.size - i ≤ g → cutF s f i = cutF s g i
  | 0, g, i, hf, _ => by rw [cutF_past s i (by omega), cutF_past s i (by omega)]
  | f + 1, 0, i, _, hg => by rw [cutF_past s i (by omega), cutF_past s i (by omega)]
  | f + 1, g + 1, i, hf, hg => by
    unfold cutF
    by_cases hi : i < s.size
    · rw [if_pos hi, if_pos hi]
      by_cases hb : byteAt s i = 32
      · rw [if_pos hb, if_pos hb]
        exact cutF_enough s f g (i + 1) (by omega) (by omega)
      · rw [if_neg hb, if_neg hb]
        cases hn : nextTok s i with
        | none => rfl
        | some te =>
          obtain ⟨t, e⟩ := te
          have hbd := nextTok_bd hi hn
          show (if faultOf t = 0 then (cutF s f e).map (t :: ·) else none) = (if faultOf t = 0 then (cutF s g e).map (t :: ·) else none)
          rw [cutF_enough s f g e (by omega) (by omega)]
    · rw [if_neg hi, if_neg hi]

theorem cutAt_past {s : ByteArray} {i : Nat} (h : ¬ i < s.size) : cutAt s i = some [] := cutF_past s i h _

theorem cutAt_step {s : ByteArray} {i : Nat} (hi : i < s.size) : cutAt s i =
    (if byteAt s i = 32 then cutAt s (i + 1) else match nextTok s i with
      | none => none
      | some (t, e) => if faultOf t = 0 then (cutAt s e).map (t :: ·) else none) := by
  unfold cutAt
  obtain ⟨f, hf⟩ : ∃ f, s.size - i = f + 1 := ⟨s.size - i - 1, by omega⟩
  rw [hf]
  conv => lhs; unfold cutF
  rw [if_pos hi]
  by_cases hb : byteAt s i = 32
  · rw [if_pos hb, if_pos hb]
    exact cutF_enough s _ _ _ (by omega) (by omega)
  · rw [if_neg hb, if_neg hb]
    cases hn : nextTok s i with
    | none => rfl
    | some te =>
      obtain ⟨t, e⟩ := te
      have hbd := nextTok_bd hi hn
      show (if faultOf t = 0 then (cutF s f e).map (t :: ·) else none) = (if faultOf t = 0 then (cutF s (s.size - e) e).map (t :: ·) else none)
      rw [cutF_enough s f (s.size - e) e (by omega) (by omega)]

theorem cutAt_blank {s : ByteArray} {i : Nat} (hi : i < s.size) (hb : byteAt s i = 32) : cutAt s i = cutAt s (i + 1) := by
  rw [cutAt_step hi, if_pos hb]
theorem cutAt_none {s : ByteArray} {i : Nat} (hi : i < s.size) (hb : byteAt s i ≠ 32) (hn : nextTok s i = none) : cutAt s i = none := by
  rw [cutAt_step hi, if_neg hb, hn]
theorem cutAt_bad {s : ByteArray} {i : Nat} {t : Int × ByteArray} {e : Nat} (hi : i < s.size) (hb : byteAt s i ≠ 32) (hn : nextTok s i = some (t, e)) (hf : faultOf t ≠ 0) : cutAt s i = none := by
  rw [cutAt_step hi, if_neg hb, hn]
  exact if_neg hf
theorem cutAt_good {s : ByteArray} {i : Nat} {t : Int × ByteArray} {e : Nat} (hi : i < s.size) (hb : byteAt s i ≠ 32) (hn : nextTok s i = some (t, e)) (hf : faultOf t = 0) : cutAt s i = (cutAt s e).map (t :: ·) := by
  rw [cutAt_step hi, if_neg hb, hn]
  exact if_pos hf

theorem cutAt_skip {s : ByteArray} {k : Nat} : ∀ (d a : Nat), a + d = k → k ≤ s.size → (∀ j, a ≤ j → j < k → byteAt s j = 32) → cutAt s a = cutAt s k
  | 0, a, h, _, _ => by rw [← h]; rfl
  | d + 1, a, h, hk, hall => by
    rw [cutAt_blank (by omega) (hall a (Nat.le_refl _) (by omega))]
    exact cutAt_skip d (a + 1) (by omega) hk fun j h1 h2 => hall j (by omega) h2

theorem cutAt_run {s : ByteArray} {a : Nat} (ha : a ≤ s.size) : cutAt s (runEnd isBlank s a) = cutAt s a := by
  obtain ⟨h1, h2, h3, _⟩ := runEnd_spec isBlank s a ha
  refine (cutAt_skip (runEnd isBlank s a - a) a (by omega) h2 fun j g1 g2 => ?_).symm
  have := h3 j g1 g2
  simpa [isBlank] using this

/-- what the two functions answer: an error's number, and the tokens. -/
def cutErr (s : ByteArray) : Int :=
  if 1500 < s.size then 1 else match cutAt s 0 with
    | none => 4
    | some l => if 200 < l.length then 1 else 0
def cutToks (s : ByteArray) : List (Int × ByteArray) :=
  if 1500 < s.size then [] else match cutAt s 0 with
    | none => []
    | some l => if 200 < l.length then [] else l

end Go.Proofs.YtieoddnaknpmlabGreatDoor

/- Plain facts: what is cut are tokens that may be. (As in BackSpec and Wide, without the showing.) -/
namespace Go.Proofs.YtieoddnaknpmlabGreatDoor
open Go.RowKit
set_option maxRecDepth 100000

theorem cutF_sound (s : ByteArray) : ∀ (f i : Nat) (l : List (Int × ByteArray)), cutF s f i = some l → ∀ t ∈ l, faultOf t = 0
  | 0, _, l, h, t, ht => by
    simp only [cutF, Option.some.injEq] at h
    rw [← h] at ht
    cases ht
  | f + 1, i, l, h, t, ht => by
    unfold cutF at h
    split at h
    · split at h
      · exact cutF_sound s f _ l h t ht
      · split at h
        · cases h
        · rename_i u e _
          split at h
          · rename_i hu
            obtain ⟨r, hr, rfl⟩ := Option.map_eq_some_iff.1 h
            rcases List.mem_cons.1 ht with rfl | ht
            · exact hu
            · exact cutF_sound s f e r hr t ht
          · cases h
    · simp only [Option.some.injEq] at h
      rw [← h] at ht
      cases ht

theorem fault_sound {k : Int} {t : ByteArray} (h : tokFault k t = 0) : (k = 1 ∧ wordOk t = true) ∨ (k = 2 ∧ numOk t = true) ∨ (k = 3 ∧ quoteOk t = true) ∨ (k = 4 ∧ signOk t = true) := by
  unfold tokFault at h
  split at h
  · rename_i hk
    split at h
    · rename_i ho
      unfold tokOk at ho
      split at ho
      · exact Or.inl ⟨‹_›, ho⟩
      · split at ho
        · exact Or.inr (Or.inl ⟨‹_›, ho⟩)
        · split at ho
          · exact Or.inr (Or.inr (Or.inl ⟨‹_›, ho⟩))
          · exact Or.inr (Or.inr (Or.inr ⟨by omega, ho⟩))
    · omega
  · omega

theorem cut_sound {s : ByteArray} (h : cutErr s = 0) : s.size ≤ 1500 ∧ cutAt s 0 = some (cutToks s) ∧ (cutToks s).length ≤ 200 ∧ (∀ t ∈ cutToks s, faultOf t = 0) := by
  unfold cutErr at h
  split at h
  · omega
  · rename_i hs
    cases hc : cutAt s 0 with
    | none => rw [hc] at h; simp at h
    | some l =>
      rw [hc] at h
      simp only at h
      split at h
      · omega
      · rename_i hl
        have e : cutToks s = l := by unfold cutToks; rw [if_neg hs, hc]; exact if_neg hl
        rw [e]
        exact ⟨by omega, rfl, by omega, cutF_sound s _ _ l hc⟩

theorem cut_empty {s : ByteArray} (h : cutErr s ≠ 0) : cutToks s = [] := by
  unfold cutErr at h
  unfold cutToks
  split
  · rfl
  · rename_i hs
    rw [if_neg hs] at h
    cases hc : cutAt s 0 with
    | none => rfl
    | some l =>
      rw [hc] at h
      simp only at h ⊢
      split
      · rfl
      · rename_i hl
        rw [if_neg hl] at h
        exact absurd rfl h

end Go.Proofs.YtieoddnaknpmlabGreatDoor

/- What token.tokenOf and token.tokenAt answer, at every text and place in it: the token that begins there, and where it ends. -/
namespace Go.Proofs.YtieoddnaknpmlabGreatDoor
open Go.RowKit
set_option maxRecDepth 100000

def CloneSaid : Prop := ∀ (s : ByteArray) (w : World), s.size ≤ 281474976710656 → Calls Tryz.prog 128 #[.string s] w fun e w' => e = .returned (.string s) ∧ Below w.heap.size w w'

set_option maxHeartbeats 400000 in
theorem tokenOf_any (hcl : CloneSaid) (k : Int) (t : ByteArray) (ht : t.size ≤ 281474976710656) (w : World) :
    Calls Tryz.prog 97 #[.int .i64 k, .string t] w fun e w' => e = .returned (.agg #[.int .i64 k, .string t]) ∧ Below w.heap.size w w' := by
  go_enter Tryz.func97, Tryz.ntmps97
  go_wp2_with fail
  refine (hcl t _ ht).mono ?_
  rintro e w1 ⟨rfl, hb⟩
  have c0 := hb.cell (p := ⟨w.heap.size, 0, none⟩) (by simp)
  have c1 := hb.cell (p := ⟨w.heap.size, 1, none⟩) (by simp)
  have f0 := hb.frozen (p := ⟨w.heap.size, 0, none⟩) (by simp)
  have f1 := hb.frozen (p := ⟨w.heap.size, 1, none⟩) (by simp)
  simp [World.cell?_alloc_at, World.frozen?_alloc_at] at c0 c1 f0 f1
  have hz : w.heap.size < w1.heap.size := by have := hb.size; simp at this; omega
  have HB := veil hb
  clear hb
  go_wp2
  have q0 : ((w1.setCell ⟨w.heap.size, 0, none⟩ (.int .i64 k)).setCell ⟨w.heap.size, 1, none⟩ (.string t)).cell? ⟨w.heap.size, 0, none⟩ = some (.int .i64 k) := by
    rw [World.cell?_setCell_other _ _ _ _ (by intro h; injection h; omega)]
    exact World.cell?_setCell_same _ _ _ c0
  have q1 : ((w1.setCell ⟨w.heap.size, 0, none⟩ (.int .i64 k)).setCell ⟨w.heap.size, 1, none⟩ (.string t)).cell? ⟨w.heap.size, 1, none⟩ = some (.string t) := by
    refine World.cell?_setCell_same _ _ _ (u := .string ⟨#[]⟩) ?_
    rw [World.cell?_setCell_other _ _ _ _ (by intro h; injection h; omega)]
    exact c1
  have hbb := (((Below.refl w.heap.size w).alloc (Nat.le_refl _) _).trans (HB.out.mono (by simp))).setCell (p := ⟨w.heap.size, 0, none⟩) (Nat.le_refl _) (.int .i64 k)
  exact bodyPost_ret (v := .agg #[.int .i64 k, .string t]) (by simp [results, Tryz.results97, go_sem, q0, q1]) rfl ⟨rfl, hbb.setCell (p := ⟨w.heap.size, 1, none⟩) (Nat.le_refl _) (.string t)⟩

theorem notQuote_any (b : Int) (w : World) : Calls Tryz.prog 96 #[.int .u8 b] w fun e w' => e = .returned (.bool (notQuote b)) ∧ w = w' := by
  go_enter Tryz.func96, Tryz.ntmps96
  go_wp2
  go_ret
  exact ⟨rfl, rfl⟩

theorem run_pure (g : Nat) (eg : ∀ args w, (callFunc g args).run Tryz.prog w = .ok (.enter g args) w) (q : Int → Bool) (hq : ∀ (b : Int) (w : World), Calls Tryz.prog g #[.int .u8 b] w fun e w' => e = .returned (.bool (q b)) ∧ w = w')
    (s : ByteArray) (hs : s.size ≤ maxLen) (B : Nat) (a : Int) (h0 : 0 ≤ a) (h1 : a ≤ s.size) (w : World) (hc : w.cell? ⟨B, 0, none⟩ = some (.string s)) :
    Calls Tryz.prog 95 #[.int .i64 a, .func (.func g) #[] #[], .pointer (some ⟨B, 0, none⟩)] w fun e w' => e = .returned (.int .i64 (runEnd q s a.toNat)) ∧ w = w' := by
  refine (run_any g #[] eg s hs (fun j => q (byteAt s j)) (fun _ W => w = W) B ?_ a ?_ h0 h1 w rfl).mono ?_
  · rintro k W rfl
    exact hc
  · rintro k hk W _ _ rfl
    refine (hq _ _).mono ?_
    rintro e w' ⟨rfl, rfl⟩
    exact ⟨by rw [byteAt_get], rfl⟩
  · rintro e w' ⟨k, rfl, hk, _, h⟩
    exact ⟨by rw [runTo_eq (by omega) hk], h⟩

def tokAns (s : ByteArray) (i : Nat) : (Int × ByteArray) × Nat := (nextTok s i).getD ((0, ⟨#[]⟩), s.size)

theorem two_set {w1 : World} {b : Nat} {x y : Value} (u v : Value) (c0 : w1.cell? ⟨b, 0, none⟩ = some x) (c1 : w1.cell? ⟨b, 1, none⟩ = some y) :
    ((w1.setCell ⟨b, 0, none⟩ u).setCell ⟨b, 1, none⟩ v).cell? ⟨b, 0, none⟩ = some u ∧ ((w1.setCell ⟨b, 0, none⟩ u).setCell ⟨b, 1, none⟩ v).cell? ⟨b, 1, none⟩ = some v := by
  constructor
  · rw [World.cell?_setCell_other _ _ _ _ (by intro h; injection h; omega)]
    exact World.cell?_setCell_same _ _ _ c0
  · refine World.cell?_setCell_same _ _ _ (u := y) ?_
    rw [World.cell?_setCell_other _ _ _ _ (by intro h; injection h; omega)]
    exact c1

theorem tok_cells {w w1 : World} {x y : Value} {c : Array Value} {t : TypeId} (hb : Below ((w.alloc (.cells #[x, y] 90)).alloc (.cells c t)).heap.size ((w.alloc (.cells #[x, y] 90)).alloc (.cells c t)) w1) :
    w1.cell? ⟨w.heap.size, 0, none⟩ = some x ∧ w1.cell? ⟨w.heap.size, 1, none⟩ = some y ∧ w1.frozen? ⟨w.heap.size, 0, none⟩ = false ∧ w1.frozen? ⟨w.heap.size, 1, none⟩ = false ∧ w.heap.size < w1.heap.size ∧ Below w.heap.size w w1 := by
  have c0 := hb.cell (p := ⟨w.heap.size, 0, none⟩) (by simp; omega)
  have c1 := hb.cell (p := ⟨w.heap.size, 1, none⟩) (by simp; omega)
  have f0 := hb.frozen (p := ⟨w.heap.size, 0, none⟩) (by simp; omega)
  have f1 := hb.frozen (p := ⟨w.heap.size, 1, none⟩) (by simp; omega)
  rw [World.cell?_alloc_past _ _ _ (by simp), World.cell?_alloc_at _ _ _ _ rfl] at c0 c1
  rw [World.frozen?_alloc_past _ _ _ (by simp), World.frozen?_alloc_at _ _ _ _ rfl] at f0 f1
  refine ⟨c0, c1, f0, f1, ?_, ?_⟩
  · have := hb.size; simp at this; omega
  · exact (((Below.refl w.heap.size w).alloc (Nat.le_refl _) _).alloc (by simp) _).trans (hb.mono (by simp; omega))

theorem tok_store {w w1 : World} (u v : Value) (h : Below w.heap.size w w1) : Below w.heap.size w ((w1.setCell ⟨w.heap.size, 0, none⟩ u).setCell ⟨w.heap.size, 1, none⟩ v) :=
  (h.setCell (p := ⟨w.heap.size, 0, none⟩) (Nat.le_refl _) u).setCell (p := ⟨w.heap.size, 1, none⟩) (Nat.le_refl _) v

theorem ans_open {s : ByteArray} {i E : Nat} (h : byteAt s i = 34) (hE : runEnd notQuote s (i + 1) = E) (he : E = s.size) : tokAns s i = ((0, ⟨#[]⟩), E) := by
  simp only [tokAns, nextTok, if_pos h, hE, he, if_true, Option.getD_none]
theorem ans_quote {s : ByteArray} {i E : Nat} (h : byteAt s i = 34) (hE : runEnd notQuote s (i + 1) = E) (he : E ≠ s.size) : tokAns s i = ((3, s.extract (i + 1) E), E + 1) := by
  simp only [tokAns, nextTok, if_pos h, hE, if_neg he, Option.getD_some]
theorem ans_word {s : ByteArray} {i E : Nat} (h : byteAt s i ≠ 34) (hl : isLetter (byteAt s i) = true) (hE : runEnd isWordB s i = E) : tokAns s i = ((1, s.extract i E), E) := by
  simp only [tokAns, nextTok, if_neg h, if_pos hl, hE, Option.getD_some]
theorem ans_num {s : ByteArray} {i E : Nat} (h : byteAt s i ≠ 34) (hl : isLetter (byteAt s i) = false) (hd : isDigit (byteAt s i) = true) (hE : runEnd isWordB s i = E) : tokAns s i = ((2, s.extract i E), E) := by
  simp only [tokAns, nextTok, if_neg h, hl, hd, hE, Option.getD_some, Bool.false_eq_true, if_false, if_true]
theorem ans_sign {s : ByteArray} {i : Nat} (h : byteAt s i ≠ 34) (hl : isLetter (byteAt s i) = false) (hd : isDigit (byteAt s i) = false) : tokAns s i = ((4, s.extract i (i + 1)), i + 1) := by
  simp only [tokAns, nextTok, if_neg h, hl, hd, Option.getD_some, Bool.false_eq_true, if_false]

set_option maxHeartbeats 1000000 in
theorem tokenAt_any (hcl : CloneSaid) (s : ByteArray) (hs : s.size ≤ 1500) (i : Nat) (hi : i < s.size) (w : World) :
    Calls Tryz.prog 63 #[.string s, .int .i64 i] w fun e w' => e = .returned (.tuple #[.agg #[.int .i64 (tokAns s i).1.1, .string (tokAns s i).1.2], .int .i64 (tokAns s i).2]) ∧ Below w.heap.size w w' := by
  have HM : Hid (s.size ≤ maxLen) := by show _ ≤ _; unfold maxLen; omega
  have HB := veil (byteAt_get s i hi)
  have hc : ((w.alloc (.cells #[.int .i64 0, .string ⟨#[]⟩] 90)).alloc (.cells #[.string s] 9)).cell? ⟨w.heap.size + 1, 0, none⟩ = some (.string s) := by
    rw [World.cell?_alloc_at _ _ _ _ (by simp)]; rfl
  by_cases h34 : (((s[i]'hi).toNat : Int) == 34) = true
  · have hr := run_pure 96 (enters_of Tryz.func96 (by kernel_rfl) rfl) notQuote notQuote_any s HM.out (w.heap.size + 1) ((i : Int) + 1) (by omega) (by omega) _ hc
    rw [show ((i : Int) + 1).toNat = i + 1 from by omega] at hr
    have h34' : byteAt s i = 34 := by rw [← HB.out]; simpa using h34
    obtain ⟨e1, e2, _, _⟩ := runEnd_spec notQuote s (i + 1) (by omega)
    have HO := veil (@ans_open s i (runEnd notQuote s (i + 1)) h34' rfl)
    have HQ := veil (@ans_quote s i (runEnd notQuote s (i + 1)) h34' rfl)
    clear h34'
    generalize runEnd notQuote s (i + 1) = E at *
    by_cases hE : E = s.size
    · have hE' : ((E : Int) == (s.size : Int)) = true := by simp [hE]
      have HA := veil (HO.out hE)
      clear HO HQ hE
      go_enter Tryz.func63, Tryz.ntmps63
      go_wp2_with (go_at_call 61; refine (runOf_any _ _).mono ?_; rintro e w' ⟨rfl, rfl⟩)
      refine hr.mono ?_
      rintro e w' ⟨rfl, rfl⟩
      clear hr
      go_wp2
      exact bodyPost_ret (v := .tuple #[.agg #[.int .i64 0, .string ⟨#[]⟩], .int .i64 E]) (by simp [results, Tryz.results63, go_sem]) rfl
        ⟨by rw [HA.out], ((Below.refl w.heap.size w).alloc (Nat.le_refl _) _).alloc (by simp) _⟩
    · have hE' : ((E : Int) == (s.size : Int)) = false := by rw [beq_eq_false_iff_ne]; omega
      have hlt : E < s.size := by omega
      have HA := veil (HQ.out hE)
      clear HO HQ hE
      go_enter Tryz.func63, Tryz.ntmps63
      go_wp2_with (go_at_call 61; refine (runOf_any _ _).mono ?_; rintro e w' ⟨rfl, rfl⟩)
      refine hr.mono ?_
      rintro e w' ⟨rfl, rfl⟩
      clear hr
      go_wp2_with fail
      refine (tokenOf_any hcl 3 (s.extract (i + 1) E) (by have := size_extract_le s (i + 1) E; omega) _).mono ?_
      rintro e w1 ⟨rfl, hb⟩
      obtain ⟨c0, c1, f0, f1, hz, hbb⟩ := tok_cells hb
      clear hb
      have HBB := veil hbb
      have Q2 := veil (two_set (.int .i64 3) (.string (s.extract (i + 1) E)) c0 c1)
      clear hbb
      go_wp2
      obtain ⟨q0, q1⟩ := Q2.out
      exact bodyPost_ret (v := .tuple #[.agg #[.int .i64 3, .string (s.extract (i + 1) E)], .int .i64 ((E : Int) + 1)]) (by simp [results, Tryz.results63, go_sem, q0, q1]) rfl
        ⟨by rw [HA.out]; simp, tok_store _ _ HBB.out⟩
  · have h34' : (((s[i]'hi).toNat : Int) == 34) = false := by simpa using h34
    have hne : byteAt s i ≠ 34 := by rw [← HB.out]; simpa using h34
    clear h34
    by_cases hl : isLetter (byteAt s i) = true
    · have hr := run_pure 99 (enters_of Tryz.func99 (by kernel_rfl) rfl) isWordB wordByte_any s HM.out (w.heap.size + 1) (i : Int) (by omega) (by omega) _ hc
      rw [Int.toNat_natCast] at hr
      have hl' : isLetter ((s[i]'hi).toNat : Int) = true := by rw [HB.out]; exact hl
      have HA := veil (@ans_word s i (runEnd isWordB s i) hne hl rfl)
      obtain ⟨e1, e2, _, _⟩ := runEnd_spec isWordB s i (by omega)
      clear hne hl
      generalize runEnd isWordB s i = E at *
      go_enter Tryz.func63, Tryz.ntmps63
      go_wp2_with (first | (go_at_call 61; refine (runOf_any _ _).mono ?_; rintro e w' ⟨rfl, rfl⟩) | (go_at_call 98; refine (letter_any _ _).mono ?_; rintro e w' ⟨rfl, rfl⟩))
      refine hr.mono ?_
      rintro e w' ⟨rfl, rfl⟩
      clear hr
      go_wp2_with fail
      refine (tokenOf_any hcl 1 (s.extract i E) (by have := size_extract_le s i E; omega) _).mono ?_
      rintro e w1 ⟨rfl, hb⟩
      obtain ⟨c0, c1, f0, f1, hz, hbb⟩ := tok_cells hb
      clear hb
      have HBB := veil hbb
      have Q2 := veil (two_set (.int .i64 1) (.string (s.extract i E)) c0 c1)
      clear hbb
      go_wp2
      obtain ⟨q0, q1⟩ := Q2.out
      exact bodyPost_ret (v := .tuple #[.agg #[.int .i64 1, .string (s.extract i E)], .int .i64 E]) (by simp [results, Tryz.results63, go_sem, q0, q1]) rfl
        ⟨by rw [HA.out], tok_store _ _ HBB.out⟩
    · have hlf : isLetter (byteAt s i) = false := by simpa using hl
      have hl' : isLetter ((s[i]'hi).toNat : Int) = false := by rw [HB.out]; exact hlf
      clear hl
      by_cases hd : isDigit (byteAt s i) = true
      · have hr := run_pure 99 (enters_of Tryz.func99 (by kernel_rfl) rfl) isWordB wordByte_any s HM.out (w.heap.size + 1) (i : Int) (by omega) (by omega) _ hc
        rw [Int.toNat_natCast] at hr
        have hd' : isDigit ((s[i]'hi).toNat : Int) = true := by rw [HB.out]; exact hd
        have HA := veil (@ans_num s i (runEnd isWordB s i) hne hlf hd rfl)
        obtain ⟨e1, e2, _, _⟩ := runEnd_spec isWordB s i (by omega)
        clear hne hd hlf
        generalize runEnd isWordB s i = E at *
        go_enter Tryz.func63, Tryz.ntmps63
        go_wp2_with (first | (go_at_call 61; refine (runOf_any _ _).mono ?_; rintro e w' ⟨rfl, rfl⟩) | (go_at_call 98; refine (letter_any _ _).mono ?_; rintro e w' ⟨rfl, rfl⟩) | (go_at_call 100; refine (digit_any _ _).mono ?_; rintro e w' ⟨rfl, rfl⟩))
        refine hr.mono ?_
        rintro e w' ⟨rfl, rfl⟩
        clear hr
        go_wp2_with fail
        refine (tokenOf_any hcl 2 (s.extract i E) (by have := size_extract_le s i E; omega) _).mono ?_
        rintro e w1 ⟨rfl, hb⟩
        obtain ⟨c0, c1, f0, f1, hz, hbb⟩ := tok_cells hb
        clear hb
        have HBB := veil hbb
        have Q2 := veil (two_set (.int .i64 2) (.string (s.extract i E)) c0 c1)
        clear hbb
        go_wp2
        obtain ⟨q0, q1⟩ := Q2.out
        exact bodyPost_ret (v := .tuple #[.agg #[.int .i64 2, .string (s.extract i E)], .int .i64 E]) (by simp [results, Tryz.results63, go_sem, q0, q1]) rfl
          ⟨by rw [HA.out], tok_store _ _ HBB.out⟩
      · have hdf : isDigit (byteAt s i) = false := by simpa using hd
        have hd' : isDigit ((s[i]'hi).toNat : Int) = false := by rw [HB.out]; exact hdf
        have HA := veil (@ans_sign s i hne hlf hdf)
        clear hne hd hlf hdf
        go_enter Tryz.func63, Tryz.ntmps63
        go_wp2_with (first | (go_at_call 61; refine (runOf_any _ _).mono ?_; rintro e w' ⟨rfl, rfl⟩) | (go_at_call 98; refine (letter_any _ _).mono ?_; rintro e w' ⟨rfl, rfl⟩) | (go_at_call 100; refine (digit_any _ _).mono ?_; rintro e w' ⟨rfl, rfl⟩))
        refine (tokenOf_any hcl 4 (s.extract i (i + 1)) (by have := size_extract_le s i (i + 1); omega) _).mono ?_
        rintro e w1 ⟨rfl, hb⟩
        obtain ⟨c0, c1, f0, f1, hz, hbb⟩ := tok_cells hb
        clear hb
        have HBB := veil hbb
        have Q2 := veil (two_set (.int .i64 4) (.string (s.extract i (i + 1))) c0 c1)
        clear hbb
        go_wp2
        obtain ⟨q0, q1⟩ := Q2.out
        exact bodyPost_ret (v := .tuple #[.agg #[.int .i64 4, .string (s.extract i (i + 1))], .int .i64 ((i : Int) + 1)]) (by simp [results, Tryz.results63, go_sem, q0, q1]) rfl
          ⟨by rw [HA.out]; simp, tok_store _ _ HBB.out⟩

end Go.Proofs.YtieoddnaknpmlabGreatDoor
