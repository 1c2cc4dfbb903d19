/- What kind.Elem and kind.Open, and the reference's IsOpen, answer: of what a list is (a copy), whether a text has a variable. -/
import Derived.Test.YtcpnfkeoajeodaaGreatDoorJKind
import Derived.Test.YtcpnfkeoajeodaaGreatDoorShelf
import Derived.Lib.IndexLaws
namespace Go.Proofs.YtcpnfkeoajeodaaGreatDoor
open Go.RowKit
set_option maxRecDepth 100000

theorem clone_kind (s : ByteArray) (w : World) (h : s.size ≤ 281474976710656) :
    Calls Tryz.prog 48 #[.string s] w fun e w' => e = .returned (.string s) ∧ Below w.heap.size w w' := by
  go_enter Tryz.func48, Tryz.ntmps48
  go_wp2_with (go_at_call 68; refine (Tryz.stringslite_Clone s _ h).mono ?_; rintro e w' ⟨rfl, hb⟩)
  go_ret
  exact ⟨rfl, hb⟩

theorem elem_list {s : ByteArray} (hs : s.size ≤ 281474976710656) (h : isList s = true) (w : World) :
    Calls Tryz.prog 87 #[.string s] w fun e w' => e = .returned (.tuple #[.string (inner s), .bool true]) ∧ Below w.heap.size w w' := by
  have h2 := isList_size h
  have hi := inner_size h2
  have hm : s.size ≤ maxLen := by unfold maxLen; omega
  go_enter Tryz.func87, Tryz.ntmps87
  go_wp2_with fail
  refine (bracketed_any s hm _).mono ?_
  rintro e w' ⟨rfl, rfl⟩
  rw [h]
  go_wp2_with fail
  refine (between_any s hm h2 _).mono ?_
  rintro e w' ⟨rfl, rfl⟩
  go_wp2_with fail
  refine (clone_kind (inner s) _ (by omega)).mono ?_
  rintro e w1 ⟨rfl, hb⟩
  go_wp2
  go_ret2
  exact ⟨rfl, hb⟩

theorem elem_none {s : ByteArray} (hm : s.size ≤ maxLen) (h : isList s = false) (w : World) :
    Calls Tryz.prog 87 #[.string s] w fun e w' => e = .returned (.tuple #[.string ⟨#[]⟩, .bool false]) ∧ w = w' := by
  go_enter Tryz.func87, Tryz.ntmps87
  go_wp2_with fail
  refine (bracketed_any s hm _).mono ?_
  rintro e w' ⟨rfl, rfl⟩
  rw [h]
  go_wp2
  go_ret2
  exact ⟨rfl, rfl⟩

/-- has a text the variable's sign? -/
def hasVar (s : ByteArray) : Bool := s.data.toList.contains 42

theorem index_has (l : List UInt8) : decide (0 ≤ Lib.indexByte l 42) = l.contains 42 := by
  cases h : l.contains 42 with
  | true =>
    rw [List.contains_iff_mem] at h
    obtain ⟨k, hk⟩ := List.getElem?_of_mem h
    have h1 := Lib.indexByte_ge l 42
    have h2 : Lib.indexByte l 42 ≠ -1 := fun e => Lib.indexByte_none e k hk
    simp; omega
  | false =>
    have h1 := Lib.indexByte_ge l 42
    simp only [decide_eq_false_iff_not]
    intro h0
    obtain ⟨o, ho⟩ := Int.eq_ofNat_of_zero_le h0
    have := (Lib.indexByte_some ho).1
    have hm := List.mem_of_getElem? this
    rw [← List.contains_iff_mem, h] at hm
    cases hm

theorem open_any (s : ByteArray) (w : World) :
    Calls Tryz.prog 82 #[.string s] w fun e w' => e = .returned (.bool (hasVar s)) ∧ w = w' := by
  have HI := veilK (index_has s.data.toList)
  have hx : Calls Tryz.prog 98 #[.string s, .int .u8 42] w fun e w' => e = .returned (.int .i64 (Lib.indexByte s.data.toList 42)) ∧ w = w' := by
    go_enter Tryz.func98, Tryz.ntmps98
    go_wp2_with fail
    refine (Tryz.stringslite_IndexByte s 42 _).mono ?_
    rintro e w' ⟨rfl, rfl⟩
    go_wp2
    go_ret
    exact ⟨rfl, rfl⟩
  have HX := veilK hx
  clear hx
  go_enter Tryz.func82, Tryz.ntmps82
  go_wp2_with fail
  refine HX.out.mono ?_
  rintro e w' ⟨rfl, rfl⟩
  have e2 := HI.out
  clear HI HX
  have HV : Hid (hasVar s = s.data.toList.contains 42) := rfl
  generalize Lib.indexByte s.data.toList 42 = n at *
  rw [← HV.out] at e2
  clear HV
  cases hv : hasVar s with
  | true =>
    have h0 : (0 : Int) ≤ n := by rw [hv] at e2; simpa using e2
    have HV := veilK hv
    clear e2 hv
    go_wp2
    go_ret
    exact ⟨by first | rfl | rw [HV.out]; rfl, rfl⟩
  | false =>
    have h0 : ¬ (0 : Int) ≤ n := by rw [hv] at e2; simpa using e2
    have h0' : decide ((0 : Int) ≤ n) = false := by simpa using h0
    have HV := veilK hv
    clear e2 hv
    go_wp2
    go_ret
    exact ⟨by rw [HV.out]; rfl, rfl⟩

theorem hasVar_no {s : ByteArray} (h : ∀ j, j < s.size → kAt s j ≠ 42) : hasVar s = false := by
  unfold hasVar
  cases e : s.data.toList.contains 42 with
  | false => rfl
  | true =>
    rw [List.contains_iff_mem] at e
    obtain ⟨k, hk⟩ := List.getElem?_of_mem e
    have hl : k < s.data.toList.length := (List.getElem?_eq_some_iff.1 hk).1
    refine absurd ?_ (h k (by simpa using hl))
    unfold kAt
    rw [List.getD_eq_getElem?_getD, hk]
    rfl

theorem hasVar_yes {s : ByteArray} {k : Nat} (hk : k < s.size) (h : kAt s k = 42) : hasVar s = true := by
  unfold hasVar
  rw [List.contains_iff_mem]
  have hl : k < s.data.toList.length := by simpa using hk
  refine List.mem_of_getElem? (i := k) ?_
  rw [List.getElem?_eq_getElem hl]
  unfold kAt at h
  rw [List.getD_eq_getElem?_getD, List.getElem?_eq_getElem hl] at h
  simp only [Option.getD_some] at h
  congr 1
  exact UInt8.toNat_inj.1 (by have h' : (s.data.toList[k]).toNat = 42 := by omega
                              rw [h']; rfl)

set_option maxHeartbeats 1000000 in
theorem isOpen_any (s : ByteArray) (hs : s.size ≤ maxLen) (w : World) :
    Calls Tryz.prog 12 #[.string s] w fun e w' => e = .returned (.bool (hasVar s)) ∧ w = w' := by
  unfold maxLen at hs
  go_enter Tryz.func12, Tryz.ntmps12
  go_wp2
  go_loop [3] (fun i => ∃ k : Nat, k ≤ s.size ∧ i = .int .i64 k ∧ ∀ j, j < k → kAt s j ≠ 42) (fun i => s.size - (intOf i).toNat)
  case atStart => exact ⟨0, Nat.zero_le _, rfl, fun j h => absurd h (by omega)⟩
  case round =>
    obtain ⟨k, hk, rfl, hall⟩ := hrel
    have HA := veilK hall
    clear hall
    by_cases hlt : k < s.size
    · have HB := veilK (kAt_get s k hlt)
      by_cases h4 : ((s[k]'hlt).toNat : Int) = 42
      · have HY : Hid (hasVar s = true) := hasVar_yes hlt (by rw [← HB.out]; exact h4)
        clear HB HA
        go_wp2
        go_ret
        exact ⟨by rw [HY.out]; rfl, rfl⟩
      · have HN : Hid (kAt s k ≠ 42) := by show _ ≠ _; rw [← HB.out]; exact h4
        have h4' : (((s[k]'hlt).toNat : Int) == 42) = false := by simpa using h4
        clear HB
        go_wp2
        go_round
        · refine ⟨k + 1, by omega, by simp, fun j hj => ?_⟩
          by_cases e : j = k
          · rw [e]; exact HN.out
          · exact HA.out j (by omega)
        · simp [intOf]; omega
    · have hk' : k = s.size := by omega
      subst hk'
      have HZ := veilK (hasVar_no HA.out)
      clear HA
      go_wp2
      go_ret
      exact ⟨by rw [HZ.out]; rfl, rfl⟩

end Go.Proofs.YtcpnfkeoajeodaaGreatDoor
