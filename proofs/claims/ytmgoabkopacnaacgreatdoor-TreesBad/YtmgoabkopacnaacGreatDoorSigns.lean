/- What token.sign and the reference's signMay answer, at every text: whether it is one of the eleven signs. -/
import Derived.Test.YtmgoabkopacnaacGreatDoorEvery
import Derived.Lib.Bytealg
import Derived.Lib.IndexAny
import Derived.WalkSpells
namespace Go.Proofs.YtmgoabkopacnaacGreatDoor
open Go.RowKit
set_option maxRecDepth 100000

def allSigns : List UInt8 := [61, 40, 41, 91, 93, 44, 43, 46, 58, 60, 62]
def signOk (s : ByteArray) : Bool := match s.data.toList with
  | [b] => allSigns.contains b
  | _ => false

set_option maxHeartbeats 400000 in
theorem indexByte_lite (s : ByteArray) (c : Int) (w : World) :
    Calls Tryz.prog 90 #[.string s, .int .u8 c] w fun e w' => e = .returned (.int .i64 (Lib.indexByte s.data.toList c.toNat.toUInt8)) ∧ w = w' := by
  go_enter Tryz.func90, Tryz.ntmps90
  go_wp2
  rw [run_callFunc_extern Tryz.func103 (by kernel_rfl) (by kernel_rfl) (by kernel_rfl) (e := Extern.BytealgIndexByte.indexByte) (by kernel_rfl), Lib.run_indexByteString]
  simp only [Result.andThen]
  rw [Oper.upon_value]
  go_wp2
  go_ret
  exact ⟨rfl, rfl⟩

theorem indexByte_any (s : ByteArray) (c : Int) (w : World) :
    Calls Tryz.prog 98 #[.string s, .int .u8 c] w fun e w' => e = .returned (.int .i64 (Lib.indexByte s.data.toList c.toNat.toUInt8)) ∧ w = w' := by
  go_enter Tryz.func98, Tryz.ntmps98
  go_wp2_with (go_at_call 90; refine (indexByte_lite _ _ _).mono ?_; rintro e w' ⟨rfl, rfl⟩)
  go_ret
  exact ⟨rfl, rfl⟩

theorem signTest (s : ByteArray) (k : Nat) (hk : k < 11) :
    (s.toList == ((ByteArray.mk #[61, 40, 41, 91, 93, 44, 43, 46, 58, 60, 62]).extract k (k + 1)).toList) = (s.data.toList == [allSigns.getD k 0]) := by
  rw [Lib.toList_data, Lib.toList_data, Lib.extract_data]
  have e : k + 1 - k = 1 := by omega
  rw [e]
  match k, hk with
  | 0, _ => rfl
  | 1, _ => rfl
  | 2, _ => rfl
  | 3, _ => rfl
  | 4, _ => rfl
  | 5, _ => rfl
  | 6, _ => rfl
  | 7, _ => rfl
  | 8, _ => rfl
  | 9, _ => rfl
  | 10, _ => rfl

theorem sign_hit (s : ByteArray) (k : Nat) (hk : k < 11) (h : (s.data.toList == [allSigns.getD k 0]) = true) : signOk s = true := by
  have h' : s.data.toList = [allSigns.getD k 0] := by simpa using h
  unfold signOk
  rw [h']
  match k, hk with
  | 0, _ => rfl
  | 1, _ => rfl
  | 2, _ => rfl
  | 3, _ => rfl
  | 4, _ => rfl
  | 5, _ => rfl
  | 6, _ => rfl
  | 7, _ => rfl
  | 8, _ => rfl
  | 9, _ => rfl
  | 10, _ => rfl

theorem sign_miss (s : ByteArray) (h : ∀ j, j < 11 → s.data.toList ≠ [allSigns.getD j 0]) : signOk s = false := by
  unfold signOk
  split
  · rename_i b e
    rw [e] at h
    cases hb : allSigns.contains b with
    | false => rfl
    | true =>
      exfalso
      rw [List.contains_iff_mem] at hb
      obtain ⟨i, hi, hb'⟩ := List.mem_iff_getElem.1 hb
      refine h i hi ?_
      rw [← hb', List.getD_eq_getElem?_getD, List.getElem?_eq_getElem hi]
      rfl
  · rfl

theorem sign_one (s : ByteArray) (h : s.size = 1) (hp : 0 < s.size) : signOk s = decide ((0 : Int) ≤ Lib.indexByte [61, 40, 41, 91, 93, 44, 43, 46, 58, 60, 62] (s[0]'hp)) := by
  obtain ⟨⟨l⟩⟩ := s
  have hl : l.length = 1 := h
  match l, hl with
  | [b], _ =>
    rw [← Lib.contains_iff_indexByte]
    rfl

theorem sign_many (s : ByteArray) (h : s.size ≠ 1) : signOk s = false := by
  obtain ⟨⟨l⟩⟩ := s
  have hl : l.length ≠ 1 := h
  match l, hl with
  | [], _ => rfl
  | [b], hl => exact absurd rfl hl
  | a :: b :: l, _ => rfl

set_option maxHeartbeats 400000 in
theorem sign_any (s : ByteArray) (w : World) : Calls Tryz.prog 73 #[.string s] w fun e w' => e = .returned (.bool (signOk s)) ∧ w = w' := by
  by_cases h : s.size = 1
  · have h' : (((s.size : Nat) : Int) == 1) = true := by simp [h]
    have hpos : 0 < s.size := by omega
    have HF := veil (sign_one s h hpos)
    clear h
    go_enter Tryz.func73, Tryz.ntmps73
    go_wp2_with (go_at_call 98; refine (indexByte_any _ _ _).mono ?_; rintro e w' ⟨rfl, rfl⟩)
    go_ret
    exact ⟨by rw [HF.out]; rfl, rfl⟩
  · have h' : (((s.size : Nat) : Int) == 1) = false := by rw [beq_eq_false_iff_ne]; omega
    have HF := veil (sign_many s h)
    clear h
    go_enter Tryz.func73, Tryz.ntmps73
    go_wp2
    go_ret
    exact ⟨by rw [HF.out]; rfl, rfl⟩

end Go.Proofs.YtmgoabkopacnaacGreatDoor
