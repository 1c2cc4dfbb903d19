/- What token.sign and the reference's signMay answer, at every text: whether it is one of the eleven signs. -/
import Derived.Test.YtpamadnckijfkabGreatDoorEvery
import Derived.Lib.Bytealg
import Derived.Lib.IndexAny
import Derived.WalkSpells
namespace Go.Proofs.YtpamadnckijfkabGreatDoor
open Go.RowKit
set_option maxRecDepth 100000

def allSigns : List UInt8 := [61, 40, 41, 91, 93, 44, 43, 46, 58, 60, 62]
def signOk (s : ByteArray) : Bool := match s.data.toList with
  | [b] => allSigns.contains b
  | _ => false

set_option maxHeartbeats 400000 in
theorem indexByte_lite (s : ByteArray) (c : Int) (w : World) :
    Calls Tryz.prog 124 #[.string s, .int .u8 c] w fun e w' => e = .returned (.int .i64 (Lib.indexByte s.data.toList c.toNat.toUInt8)) ∧ w = w' := by
  go_enter Tryz.func124, Tryz.ntmps124
  go_wp2
  rw [run_callFunc_extern Tryz.func139 (by kernel_rfl) (by kernel_rfl) (by kernel_rfl) (e := Extern.BytealgIndexByte.indexByte) (by kernel_rfl), Lib.run_indexByteString]
  simp only [Result.andThen]
  rw [Oper.upon_value]
  go_wp2
  go_ret
  exact ⟨rfl, rfl⟩

theorem indexByte_any (s : ByteArray) (c : Int) (w : World) :
    Calls Tryz.prog 132 #[.string s, .int .u8 c] w fun e w' => e = .returned (.int .i64 (Lib.indexByte s.data.toList c.toNat.toUInt8)) ∧ w = w' := by
  go_enter Tryz.func132, Tryz.ntmps132
  go_wp2_with (go_at_call 124; refine (indexByte_lite _ _ _).mono ?_; rintro e w' ⟨rfl, rfl⟩)
  go_ret
  exact ⟨rfl, rfl⟩

theorem signTest (s : ByteArray) (k : Nat) (hk : k < 11) :
    (s.toList == ((ByteArray.mk #[61, 40, 41, 91, 93, 44, 43, 46, 58, 60, 62]).extract k (k + 1)).toList) = (s.data.toList == [allSigns.getD k 0]) := by
  rw [Lib.toList_data, Lib.toList_data, Lib.extract_data]
  have e : k + 1 - k = 1 := by omega
  rw [e]
  match k, hk with
  | 0, _ => rfl
  | 1, _ => rfl
  | 2, _ => rfl
  | 3, _ => rfl
  | 4, _ => rfl
  | 5, _ => rfl
  | 6, _ => rfl
  | 7, _ => rfl
  | 8, _ => rfl
  | 9, _ => rfl
  | 10, _ => rfl

theorem sign_hit (s : ByteArray) (k : Nat) (hk : k < 11) (h : (s.data.toList == [allSigns.getD k 0]) = true) : signOk s = true := by
  have h' : s.data.toList = [allSigns.getD k 0] := by simpa using h
  unfold signOk
  rw [h']
  match k, hk with
  | 0, _ => rfl
  | 1, _ => rfl
  | 2, _ => rfl
  | 3, _ => rfl
  | 4, _ => rfl
  | 5, _ => rfl
  | 6, _ => rfl
  | 7, _ => rfl
  | 8, _ => rfl
  | 9, _ => rfl
  | 10, _ => rfl

theorem sign_miss (s : ByteArray) (h : ∀ j, j < 11 → s.data.toList ≠ [allSigns.getD j 0]) : signOk s = false := by
  unfold signOk
  split
  · rename_i b e
    rw [e] at h
    cases hb : allSigns.contains b with
    | false => rfl
    | true =>
      exfalso
      rw [List.contains_iff_mem] at hb
      obtain ⟨i, hi, hb'⟩ := List.mem_iff_getElem.1 hb
      refine h i hi ?_
      rw [← hb', List.getD_eq_getElem?_getD, List.getElem?_eq_getElem hi]
      rfl
  · rfl

set_option maxHeartbeats 400000 in
theorem signMay_any (s : ByteArray) (w : World) : Calls Tryz.prog 83 #[.string s] w fun e w' => e = .returned (.bool (signOk s)) ∧ w = w' := by
  go_enter Tryz.func83, Tryz.ntmps83
  go_wp2
  go_loop [4] (fun i => ∃ k : Nat, k ≤ 11 ∧ i = .int .i64 k ∧ ∀ j, j < k → s.data.toList ≠ [allSigns.getD j 0]) (fun i => 11 - (intOf i).toNat)
  case atStart => exact ⟨0, Nat.zero_le _, rfl, fun j h => absurd h (by omega)⟩
  case round =>
    obtain ⟨k, hk, rfl, hall⟩ := hrel
    have HA : Hid (∀ j, j < k → s.data.toList ≠ [allSigns.getD j 0]) := hall
    clear hall
    by_cases hlt : k < 11
    · have ht := signTest s k hlt
      cases ht' : (s.data.toList == [allSigns.getD k 0])
      · rw [ht'] at ht
        have HN : Hid (∀ j, j < k + 1 → s.data.toList ≠ [allSigns.getD j 0]) := fun j hj => by
          by_cases e : j = k
          · rw [e]; simpa using ht'
          · exact HA.out j (by omega)
        clear ht'
        go_wp2
        go_round
        case rel => exact ⟨k + 1, by omega, by go_num, HN.out⟩
        case measure => simp [intOf]; omega
      · rw [ht'] at ht
        have HF := veil (sign_hit s k hlt ht')
        clear ht'
        go_wp2
        go_ret
        exact ⟨by rw [HF.out]; rfl, rfl⟩
    · have HF := veil (sign_miss s fun j hj => HA.out j (by omega))
      go_wp2
      go_ret
      exact ⟨by rw [HF.out]; rfl, rfl⟩

theorem sign_one (s : ByteArray) (h : s.size = 1) (hp : 0 < s.size) : signOk s = decide ((0 : Int) ≤ Lib.indexByte [61, 40, 41, 91, 93, 44, 43, 46, 58, 60, 62] (s[0]'hp)) := by
  obtain ⟨⟨l⟩⟩ := s
  have hl : l.length = 1 := h
  match l, hl with
  | [b], _ =>
    rw [← Lib.contains_iff_indexByte]
    rfl

theorem sign_many (s : ByteArray) (h : s.size ≠ 1) : signOk s = false := by
  obtain ⟨⟨l⟩⟩ := s
  have hl : l.length ≠ 1 := h
  match l, hl with
  | [], _ => rfl
  | [b], hl => exact absurd rfl hl
  | a :: b :: l, _ => rfl

set_option maxHeartbeats 400000 in
theorem sign_any (s : ByteArray) (w : World) : Calls Tryz.prog 104 #[.string s] w fun e w' => e = .returned (.bool (signOk s)) ∧ w = w' := by
  by_cases h : s.size = 1
  · have h' : (((s.size : Nat) : Int) == 1) = true := by simp [h]
    have hpos : 0 < s.size := by omega
    have HF := veil (sign_one s h hpos)
    clear h
    go_enter Tryz.func104, Tryz.ntmps104
    go_wp2_with (go_at_call 132; refine (indexByte_any _ _ _).mono ?_; rintro e w' ⟨rfl, rfl⟩)
    go_ret
    exact ⟨by rw [HF.out]; rfl, rfl⟩
  · have h' : (((s.size : Nat) : Int) == 1) = false := by rw [beq_eq_false_iff_ne]; omega
    have HF := veil (sign_many s h)
    clear h
    go_enter Tryz.func104, Tryz.ntmps104
    go_wp2
    go_ret
    exact ⟨by rw [HF.out]; rfl, rfl⟩

end Go.Proofs.YtpamadnckijfkabGreatDoor
