/- What strings.Replace answers where one sign is put something else for, once: the text with that in the sign's place. -/
import Derived.Test.YtpamadnckijfkadDoorKindX
import Derived.LoopN
namespace Go.Proofs.YtpamadnckijfkadDoor
open Go.RowKit
set_option maxRecDepth 100000

theorem count_once {pre post : List UInt8} (h1 : (42 : UInt8) ∉ pre) (h2 : (42 : UInt8) ∉ post) : (pre ++ 42 :: post).count 42 = 1 := by
  rw [List.count_append, List.count_cons_self, List.count_eq_zero_of_not_mem h1, List.count_eq_zero_of_not_mem h2]

theorem index_once {pre post : List UInt8} (h1 : (42 : UInt8) ∉ pre) : Lib.indexByte (pre ++ 42 :: post) 42 = (pre.length : Int) := by
  have hge := Lib.indexByte_ge (pre ++ 42 :: post) 42
  have hne : Lib.indexByte (pre ++ 42 :: post) 42 ≠ -1 := fun e => Lib.indexByte_none e pre.length (by simp)
  obtain ⟨o, ho⟩ := Int.eq_ofNat_of_zero_le (show 0 ≤ Lib.indexByte (pre ++ 42 :: post) 42 by omega)
  obtain ⟨hs, hb⟩ := Lib.indexByte_some ho
  rw [ho]
  congr 1
  rcases Nat.lt_trichotomy o pre.length with h | h | h
  · rw [List.getElem?_append_left h] at hs
    exact absurd (List.mem_of_getElem? hs) h1
  · exact h
  · exact absurd (show (pre ++ 42 :: post)[pre.length]? = some 42 by simp) (hb pre.length h)

set_option maxHeartbeats 4000000 in
theorem replace_one (s new : ByteArray) (pre post : List UInt8) (hs : s.data.toList = pre ++ 42 :: post) (h1 : (42 : UInt8) ∉ pre) (h2 : (42 : UInt8) ∉ post) (hz : s.size ≤ 600) (hn : new.size ≤ 600) (w : World) :
    Calls Tryd.prog 15 #[.string s, .string ⟨#[42]⟩, .string new, .int .i64 1] w fun e w' => e = .returned (.string ⟨(pre ++ new.data.toList ++ post).toArray⟩) ∧ Below w.heap.size w w' := by
  cases hne : ([42] == new.toList) with
  | true =>
    have HE : Hid ((⟨(pre ++ new.data.toList ++ post).toArray⟩ : ByteArray) = s) := by
      have e : new.toList = [42] := (beq_iff_eq.1 hne).symm
      rw [Lib.toList_data] at e
      show _ = _
      rw [e]
      have : pre ++ [42] ++ post = s.data.toList := by rw [hs]; simp
      rw [this, Lib.mk_data]
    clear hs
    go_enter Tryd.func15, Tryd.ntmps15
    go_wp2
    go_ret
    exact ⟨by rw [HE.out]; rfl, Below.refl _ _⟩
  | false =>
    have HC := veilK (Any.strings_Count_one (P := Tryd.prog) (ρ := Tryd.lays154_ren) { Tryd.lays154 with } s 42 w)
    have HI := veilK (fun w => Any.strings_Index_one (P := Tryd.prog) (ρ := Tryd.lays154_ren) { Tryd.lays154 with } s 42 w)
    have HC1 := veilK (count_once h1 h2)
    have HI1 := veilK (@index_once pre post h1)
    have HS := veilK hs
    have hp : pre.length < s.size := by rw [Lib.size_eq, hs, List.length_append, List.length_cons]; omega
    clear hs h1 h2
    go_enter Tryd.func15, Tryd.ntmps15
    go_wp2_with fail
    refine HC.out.mono ?_
    rintro e w1 ⟨rfl, rfl⟩
    rw [show Lib.countByte s.data.toList 42 = 1 from by rw [HS.out]; exact HC1.out]
    go_wp2_with fail
    rw [show (s.size : Int) + ((new.size : Int) - 1) = ((s.size + new.size - 1 : Nat) : Int) by omega]
    refine (Any.Builder_Grow_fresh (P := Tryd.prog) (ρ := Tryd.lays154_ren) { Tryd.lays154 with } Tryd.Builder_Extra_154 w1.heap.size w1.heap.size (s.size + new.size - 1) _ (Nat.le_refl _) (heap_alloc_new w1 _) (by simp) (by omega)).mono ?_
    rintro e w2 ⟨rfl, hb0, hb1⟩
    have H2 := veilK (Or.inr hb0 : Lib.IsBuilder (Tryd.lays154_ren.t 72) (Tryd.lays154_ren.t 5) w1.heap.size w1.heap.size (Lib.byteCells []) w2)
    have HB2 := veilK (((Below.refl w1.heap.size w1).alloc (Nat.le_refl _) _).trans hb1)
    clear hb0 hb1 HC HC1
    go_wp2_with fail
    refine wp_loop_rounds 2 ?_
    rw [rounds_succ]
    go_wp2_with fail
    refine (Any.strings_Index_one (P := Tryd.prog) (ρ := Tryd.lays154_ren) { Tryd.lays154 with } _ 42 _).mono ?_
    rintro e w3 ⟨rfl, rfl⟩
    rw [HS.out, HI1.out]
    have hlt : (pre.length : Int) < (s.size : Int) := by omega
    have hle : (pre.length : Int) ≤ (s.size : Int) := by omega
    have hle1 : (pre.length : Int) + 1 ≤ (s.size : Int) := by omega
    have h0 : (0 : Int) ≤ (pre.length : Int) := by omega
    have h01 : (0 : Int) ≤ (pre.length : Int) + 1 := by omega
    have HZ : Hid (w1.heap.size ≤ w3.heap.size) := HB2.out.size
    go_wp2_with fail
    refine (Any.Builder_WriteString (P := Tryd.prog) (ρ := Tryd.lays154_ren) { Tryd.lays154 with } Tryd.Builder_Extra_154 w1.heap.size w1.heap.size _ (s.extract 0 pre.length) _ H2.out (by simp [Lib.byteCells]; omega) HZ.out).mono ?_
    rintro e w4 ⟨rfl, h4, hb4⟩
    have H4 := veilK (Or.inr h4 : Lib.IsBuilder (Tryd.lays154_ren.t 72) (Tryd.lays154_ren.t 5) w1.heap.size w1.heap.size _ w4)
    have HB4 := veilK (HB2.out.trans hb4)
    clear h4 hb4 H2 HB2
    go_wp2_with fail
    refine (Any.Builder_WriteString (P := Tryd.prog) (ρ := Tryd.lays154_ren) { Tryd.lays154 with } Tryd.Builder_Extra_154 w1.heap.size w1.heap.size _ new _ H4.out (by rw [List.length_append, Lib.byteCells_length, Lib.strCells_length, ByteArray.size_extract]; simp; omega) HB4.out.size).mono ?_
    rintro e w5 ⟨rfl, h5, hb5⟩
    have H5 := veilK (Or.inr h5 : Lib.IsBuilder (Tryd.lays154_ren.t 72) (Tryd.lays154_ren.t 5) w1.heap.size w1.heap.size _ w5)
    have HB5 := veilK (HB4.out.trans hb5)
    clear h5 hb5 H4 HB4
    go_wp2_with fail
    rw [rounds_succ]
    go_wp2_with fail
    refine (Any.Builder_WriteString (P := Tryd.prog) (ρ := Tryd.lays154_ren) { Tryd.lays154 with } Tryd.Builder_Extra_154 w1.heap.size w1.heap.size _ (s.extract (pre.length + 1) s.size) _ H5.out (by rw [List.length_append, List.length_append, Lib.byteCells_length, Lib.strCells_length, Lib.strCells_length, ByteArray.size_extract, ByteArray.size_extract]; simp; omega) HB5.out.size).mono ?_
    rintro e w6 ⟨rfl, h6, hb6⟩
    have HX : Hid (Lib.byteCells [] ++ Lib.strCells (s.extract 0 pre.length) ++ Lib.strCells new ++ Lib.strCells (s.extract (pre.length + 1) s.size) = Lib.byteCells (pre ++ new.data.toList ++ post)) := by
      show _ = _
      rw [Lib.strCells_eq, Lib.strCells_eq, Lib.strCells_eq, ← Lib.byteCells_append, ← Lib.byteCells_append, ← Lib.byteCells_append]
      congr 1
      rw [Lib.extract_data, Lib.extract_to_end, HS.out]
      simp
    rw [HX.out] at h6
    have H6 := veilK (Or.inr h6 : Lib.IsBuilder (Tryd.lays154_ren.t 72) (Tryd.lays154_ren.t 5) w1.heap.size w1.heap.size _ w6)
    have HB6 := veilK (HB5.out.trans hb6)
    clear h6 hb6 H5 HB5 HX
    go_wp2_with fail
    refine (Any.Builder_String_any (P := Tryd.prog) (ρ := Tryd.lays154_ren) { Tryd.lays154 with } Tryd.Builder_Extra_154 w1.heap.size w1.heap.size _ w6 H6.out HB6.out.size).mono ?_
    rintro e w7 ⟨rfl, hb7⟩
    have HB7 := veilK (HB6.out.trans hb7)
    clear hb7
    go_wp2
    go_ret
    exact ⟨by rw [List.append_assoc]; rfl, HB7.out⟩

end Go.Proofs.YtpamadnckijfkadDoor
