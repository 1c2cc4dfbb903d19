/- What package unify's checkAll, unwrap, bind and Match, and the reference's MatchOf, answer at every text: what the variable stands for, or what is wrong. -/
import Derived.Test.YtpamadnckijfkadDoorKindX
namespace Go.Proofs.YtpamadnckijfkadDoor
open Go.RowKit
set_option maxRecDepth 100000

/-- both out of their lists, as long as both are some. -/
def unw (p i : ByteArray) : ByteArray × ByteArray := if isList p = true ∧ isList i = true then unw (inner p) (inner i) else (p, i)
termination_by p.size
decreasing_by rename_i h; rw [inner_size (isList_size h.1)]; have := isList_size h.1; omega

theorem unw_in {p i : ByteArray} (h : isList p = true) (h' : isList i = true) : unw p i = unw (inner p) (inner i) := by rw [unw.eq_1 p i]; simp [h, h']
theorem unw_no {p i : ByteArray} (h : isList p = false ∨ isList i = false) : unw p i = (p, i) := by
  rw [unw.eq_1 p i, if_neg]
  rintro ⟨h1, h2⟩
  rcases h with h | h
  · rw [h] at h1; cases h1
  · rw [h] at h2; cases h2

def argErr (p i b : ByteArray) : Int := if kindErr p = 0 then (if kindErr i = 0 then (if b.toList == [] then 0 else kindErr b) else kindErr i) else kindErr p
def fitErr (p i b : ByteArray) : Int := if p.toList == [42] then (if b.toList == [] then 0 else if b.toList == i.toList then 0 else 8) else if p.toList == i.toList then 0 else 8
def fitVal (p i b : ByteArray) : ByteArray := if p.toList == [42] then i else b
def matchErr (p i b : ByteArray) : Int := if argErr p i b = 0 then fitErr (unw p i).1 (unw p i).2 b else argErr p i b
def matchVal (p i b : ByteArray) : ByteArray := if matchErr p i b = 0 then fitVal (unw p i).1 (unw p i).2 b else ⟨#[]⟩

theorem kindErr_inner {s : ByteArray} (h : kindErr s = 0) (hl : isList s = true) : kindErr (inner s) = 0 := by
  have hz := kindErr_size h
  have h2 := isList_size hl
  unfold kindErr at h ⊢
  rw [if_neg (by omega), kcore_in hl] at h
  rw [if_neg (by rw [inner_size h2]; omega)]
  exact h

theorem argErr_ok {p i b : ByteArray} (h : argErr p i b = 0) : kindErr p = 0 ∧ kindErr i = 0 ∧ ((b.toList == []) = true ∨ kindErr b = 0) := by
  unfold argErr at h
  split at h
  · split at h
    · split at h
      · exact ⟨by assumption, by assumption, .inl (by assumption)⟩
      · exact ⟨by assumption, by assumption, .inr h⟩
    · exact absurd h (by assumption)
  · exact absurd h (by assumption)

theorem empty_size {b : ByteArray} (h : (b.toList == []) = true) : b.size = 0 := by
  have h' : b.toList = [] := by simpa using h
  rw [Lib.toList_data] at h'
  have : b.data.toList.length = 0 := by rw [h']; rfl
  simpa using this

theorem argErr_size {p i b : ByteArray} (h : argErr p i b = 0) : p.size ≤ 600 ∧ i.size ≤ 600 ∧ b.size ≤ 600 := by
  obtain ⟨h1, h2, h3⟩ := argErr_ok h
  refine ⟨kindErr_size h1, kindErr_size h2, ?_⟩
  rcases h3 with h3 | h3
  · rw [empty_size h3]; omega
  · exact kindErr_size h3

theorem argErr_inner {p i b : ByteArray} (h : argErr p i b = 0) (hp : isList p = true) (hi : isList i = true) : argErr (inner p) (inner i) b = 0 := by
  obtain ⟨h1, h2, h3⟩ := argErr_ok h
  unfold argErr
  rw [if_pos (kindErr_inner h1 hp), if_pos (kindErr_inner h2 hi)]
  split
  · rfl
  · next hb =>
    rcases h3 with h3 | h3
    · exact absurd h3 hb
    · exact h3

theorem matchErr_in {p i b : ByteArray} (h : argErr p i b = 0) (hp : isList p = true) (hi : isList i = true) : matchErr (inner p) (inner i) b = matchErr p i b ∧ matchVal (inner p) (inner i) b = matchVal p i b := by
  have e : matchErr (inner p) (inner i) b = matchErr p i b := by
    unfold matchErr
    rw [if_pos h, if_pos (argErr_inner h hp hi), unw_in hp hi]
  refine ⟨e, ?_⟩
  unfold matchVal
  rw [e, unw_in hp hi]

set_option maxHeartbeats 1000000 in
theorem checkAll_any (p i b : ByteArray) (hp : p.size ≤ maxLen) (hi : i.size ≤ maxLen) (hb : b.size ≤ maxLen) (w : World) :
    Calls Tryd.prog 22 #[.string p, .string i, .string b] w fun e w' => e = .returned (.int .i64 (argErr p i b)) ∧ w = w' := by
  by_cases h1 : kindErr p = 0
  · by_cases h2 : kindErr i = 0
    · cases h3 : (b.toList == []) with
      | true =>
        have HE : Hid (argErr p i b = 0) := by show _ = _; unfold argErr; simp [h1, h2, h3]
        go_enter Tryd.func22, Tryd.ntmps22
        go_wp2_with fail
        refine (check_kind p hp _).mono ?_
        rintro e w' ⟨rfl, rfl⟩
        rw [h1]
        go_wp2_with fail
        refine (check_kind i hi _).mono ?_
        rintro e w' ⟨rfl, rfl⟩
        rw [h2]
        go_wp2
        go_ret
        exact ⟨by rw [HE.out]; rfl, rfl⟩
      | false =>
        have HE : Hid (argErr p i b = kindErr b) := by show _ = _; unfold argErr; rw [if_pos h1, if_pos h2, h3]; simp
        go_enter Tryd.func22, Tryd.ntmps22
        go_wp2_with fail
        refine (check_kind p hp _).mono ?_
        rintro e w' ⟨rfl, rfl⟩
        rw [h1]
        go_wp2_with fail
        refine (check_kind i hi _).mono ?_
        rintro e w' ⟨rfl, rfl⟩
        rw [h2]
        go_wp2_with fail
        refine (check_kind b hb _).mono ?_
        rintro e w' ⟨rfl, rfl⟩
        go_wp2
        go_ret
        exact ⟨by rw [HE.out]; rfl, rfl⟩
    · have HE : Hid (argErr p i b = kindErr i) := by show _ = _; unfold argErr; rw [if_pos h1, if_neg h2]
      have h2' : (kindErr i != 0) = true := by simpa using h2
      go_enter Tryd.func22, Tryd.ntmps22
      go_wp2_with fail
      refine (check_kind p hp _).mono ?_
      rintro e w' ⟨rfl, rfl⟩
      rw [h1]
      clear h1 h2
      go_wp2_with fail
      refine (check_kind i hi _).mono ?_
      rintro e w' ⟨rfl, rfl⟩
      go_wp2
      go_ret
      exact ⟨by rw [HE.out]; rfl, rfl⟩
  · have HE : Hid (argErr p i b = kindErr p) := by show _ = _; unfold argErr; rw [if_neg h1]
    have h1' : (kindErr p != 0) = true := by simpa using h1
    clear h1
    go_enter Tryd.func22, Tryd.ntmps22
    go_wp2_with fail
    refine (check_kind p hp _).mono ?_
    rintro e w' ⟨rfl, rfl⟩
    go_wp2
    go_ret
    exact ⟨by rw [HE.out]; rfl, rfl⟩

set_option maxHeartbeats 1000000 in
theorem unwrap_any (p i : ByteArray) (hp : p.size ≤ 600) (hi : i.size ≤ 600) (w : World) :
    Calls Tryd.prog 23 #[.string p, .string i] w fun e w' => e = .returned (.tuple #[.string (unw p i).1, .string (unw p i).2]) ∧ Below w.heap.size w w' := by
  go_enter Tryd.func23, Tryd.ntmps23
  go_wp2_with fail
  go_loopw [0, 1] (fun v u wr => ∃ a b : ByteArray, a.size ≤ 600 ∧ b.size ≤ 600 ∧ v = .string a ∧ u = .string b ∧ unw a b = unw p i ∧ Below w.heap.size w wr) (fun v _ _ => (textOfV v).size)
  case atStart => exact ⟨p, i, hp, hi, rfl, rfl, rfl, Below.refl _ _⟩
  case round =>
    obtain ⟨a, b, ha, hb, rfl, rfl, hu, hbl⟩ := hrel
    have HU := veilK hu
    have HB := veilK hbl
    clear hu hbl
    cases h1 : isList a with
    | true =>
      cases h2 : isList b with
      | true =>
        have HI := veilK (unw_in h1 h2)
        have HS1 := veilK (inner_size (isList_size h1))
        have HS2 := veilK (inner_size (isList_size h2))
        have HL := veilK (isList_size h1)
        go_wp2_with fail
        refine (elem_list (by omega) h1 _).mono ?_
        rintro e w1 ⟨rfl, hb1⟩
        have HB1 := veilK (HB.out.trans (hb1.mono HB.out.size))
        clear hb1 HB
        go_wp2_with fail
        refine (elem_list (by omega) h2 _).mono ?_
        rintro e w2 ⟨rfl, hb2⟩
        have HB2 := veilK (HB1.out.trans (hb2.mono HB1.out.size))
        clear hb2 HB1 h1 h2
        go_wp2_with fail
        go_roundw
        case rel => exact ⟨inner a, inner b, by rw [HS1.out]; omega, by rw [HS2.out]; omega, rfl, rfl, by rw [← HI.out]; exact HU.out, HB2.out⟩
        case measure => show (inner a).size < a.size; have := HL.out; rw [HS1.out]; omega
      | false =>
        have HN := veilK (unw_no (p := a) (i := b) (.inr h2))
        go_wp2_with fail
        refine (elem_list (by omega) h1 _).mono ?_
        rintro e w1 ⟨rfl, hb1⟩
        have HB1 := veilK (HB.out.trans (hb1.mono HB.out.size))
        clear hb1 HB
        go_wp2_with fail
        refine (elem_none (by unfold maxLen; omega) h2 _).mono ?_
        rintro e w2 ⟨rfl, rfl⟩
        clear h1 h2
        go_wp2_with fail
        go_ret2
        exact ⟨by rw [← HU.out, HN.out]; rfl, HB1.out⟩
    | false =>
      have HN := veilK (unw_no (p := a) (i := b) (.inl h1))
      go_wp2_with fail
      refine (elem_none (by unfold maxLen; omega) h1 _).mono ?_
      rintro e w1 ⟨rfl, rfl⟩
      cases h2 : isList b with
      | true =>
        go_wp2_with fail
        refine (elem_list (by omega) h2 _).mono ?_
        rintro e w2 ⟨rfl, hb2⟩
        have HB2 := veilK (HB.out.trans (hb2.mono HB.out.size))
        clear hb2 HB h1 h2
        go_wp2_with fail
        go_ret2
        exact ⟨by rw [← HU.out, HN.out]; rfl, HB2.out⟩
      | false =>
        go_wp2_with fail
        refine (elem_none (by unfold maxLen; omega) h2 _).mono ?_
        rintro e w2 ⟨rfl, rfl⟩
        clear h1 h2
        go_wp2_with fail
        go_ret2
        exact ⟨by rw [← HU.out, HN.out]; rfl, HB.out⟩

theorem unw_size (p i : ByteArray) : (unw p i).1.size ≤ p.size ∧ (unw p i).2.size ≤ i.size := by
  by_cases h : isList p = true ∧ isList i = true
  · have z1 := inner_size (isList_size h.1)
    have z2 := inner_size (isList_size h.2)
    have := unw_size (inner p) (inner i)
    rw [unw_in h.1 h.2]
    omega
  · rw [unw_no]
    · exact ⟨Nat.le_refl _, Nat.le_refl _⟩
    · cases h1 : isList p with
      | false => exact .inl rfl
      | true =>
        cases h2 : isList i with
        | false => exact .inr rfl
        | true => exact absurd ⟨h1, h2⟩ h
termination_by p.size
decreasing_by have := isList_size h.1; omega

def bindErr (i b : ByteArray) : Int := if b.toList == [] then 0 else if b.toList == i.toList then 0 else 8
def bindVal (i b : ByteArray) : ByteArray := if bindErr i b = 0 then i else ⟨#[]⟩

theorem bind_any (i b : ByteArray) (hi : i.size ≤ 600) (w : World) :
    Calls Tryd.prog 24 #[.string i, .string b] w fun e w' => e = .returned (.tuple #[.string (bindVal i b), .int .i64 (bindErr i b)]) ∧ Below w.heap.size w w' := by
  cases h2 : (b.toList == []) with
  | true =>
    have HF : Hid (bindErr i b = 0) := by show _ = _; unfold bindErr; rw [h2]; simp
    have HW : Hid (bindVal i b = i) := by show _ = _; unfold bindVal; rw [if_pos HF.out]
    go_enter Tryd.func24, Tryd.ntmps24
    go_wp2_with fail
    refine (clone_kind i _ (by omega)).mono ?_
    rintro e w3 ⟨rfl, hb3⟩
    go_wp2_with fail
    go_ret2
    exact ⟨by rw [HF.out, HW.out]; rfl, hb3⟩
  | false =>
    have h2' : (b.toList != []) = true := by rw [bne, h2]; rfl
    cases h3 : (b.toList == i.toList) with
    | true =>
      have HF : Hid (bindErr i b = 0) := by show _ = _; unfold bindErr; rw [h2, h3]; simp
      have HW : Hid (bindVal i b = i) := by show _ = _; unfold bindVal; rw [if_pos HF.out]
      have h3' : (b.toList != i.toList) = false := by rw [bne, h3]; rfl
      go_enter Tryd.func24, Tryd.ntmps24
      go_wp2_with fail
      refine (clone_kind i _ (by omega)).mono ?_
      rintro e w3 ⟨rfl, hb3⟩
      go_wp2_with fail
      go_ret2
      exact ⟨by rw [HF.out, HW.out]; rfl, hb3⟩
    | false =>
      have HF : Hid (bindErr i b = 8) := by show _ = _; unfold bindErr; rw [h2, h3]; simp
      have HW : Hid (bindVal i b = ⟨#[]⟩) := by show _ = _; unfold bindVal; rw [if_neg (by rw [HF.out]; decide)]
      have h3' : (b.toList != i.toList) = true := by rw [bne, h3]; rfl
      go_enter Tryd.func24, Tryd.ntmps24
      go_wp2_with fail
      go_ret2
      exact ⟨by rw [HF.out, HW.out]; rfl, Below.refl _ _⟩

set_option maxHeartbeats 1000000 in
theorem match_any (p i b : ByteArray) (hp : p.size ≤ maxLen) (hi : i.size ≤ maxLen) (hb : b.size ≤ maxLen) (w : World) :
    Calls Tryd.prog 11 #[.string p, .string i, .string b] w fun e w' => e = .returned (.tuple #[.string (matchVal p i b), .int .i64 (matchErr p i b)]) ∧ Below w.heap.size w w' := by
  by_cases h0 : argErr p i b = 0
  · obtain ⟨zp, zi, zb⟩ := argErr_size h0
    have HU := veilK (unwrap_any p i zp zi w)
    have zu := unw_size p i
    have HE : Hid (matchErr p i b = fitErr (unw p i).1 (unw p i).2 b) := by show _ = _; unfold matchErr; rw [if_pos h0]
    have HV : Hid (matchErr p i b = 0 → matchVal p i b = fitVal (unw p i).1 (unw p i).2 b) := by intro h; unfold matchVal; rw [if_pos h]
    have HV' : Hid (matchErr p i b ≠ 0 → matchVal p i b = ⟨#[]⟩) := by intro h; unfold matchVal; rw [if_neg h]
    go_enter Tryd.func11, Tryd.ntmps11
    go_wp2_with fail
    refine (checkAll_any p i b hp hi hb _).mono ?_
    rintro e w1 ⟨rfl, rfl⟩
    rw [h0]
    go_wp2_with fail
    refine HU.out.mono ?_
    rintro e w2 ⟨rfl, hb2⟩
    clear HU h0
    generalize (unw p i).1 = q at *
    generalize (unw p i).2 = j at *
    cases h1 : (q.toList == [42]) with
    | true =>
      have HF : Hid (matchErr p i b = bindErr j b) := by show _ = _; rw [HE.out]; unfold fitErr; rw [h1]; rfl
      have HW : Hid (matchVal p i b = bindVal j b) := by
        show _ = _
        unfold bindVal
        rw [← HF.out]
        split
        · next h => rw [HV.out h]; unfold fitVal; rw [h1]; rfl
        · next h => rw [HV'.out h]
      clear HE HV HV'
      go_wp2_with fail
      refine (bind_any j b (by omega) _).mono ?_
      rintro e w3 ⟨rfl, hb3⟩
      have HB3 := veilK (hb2.trans (hb3.mono hb2.size))
      clear hb2 hb3
      go_wp2_with fail
      go_ret2
      exact ⟨by rw [HF.out, HW.out]; rfl, HB3.out⟩
    | false =>
      cases h2 : (q.toList == j.toList) with
      | true =>
        have HF : Hid (matchErr p i b = 0) := by show _ = _; rw [HE.out]; unfold fitErr; rw [h1, h2]; rfl
        have HW : Hid (matchVal p i b = b) := by show _ = _; rw [HV.out HF.out]; unfold fitVal; rw [h1]; rfl
        have h2' : (q.toList != j.toList) = false := by rw [bne, h2]; rfl
        clear HE HV HV'
        go_wp2_with fail
        refine (clone_kind b _ (by omega)).mono ?_
        rintro e w3 ⟨rfl, hb3⟩
        have HB3 := veilK (hb2.trans (hb3.mono hb2.size))
        clear hb2 hb3
        go_wp2_with fail
        go_ret2
        exact ⟨by rw [HF.out, HW.out]; rfl, HB3.out⟩
      | false =>
        have HF : Hid (matchErr p i b = 8) := by show _ = _; rw [HE.out]; unfold fitErr; rw [h1, h2]; rfl
        have HW : Hid (matchVal p i b = ⟨#[]⟩) := HV'.out (by rw [HF.out]; decide)
        have h2' : (q.toList != j.toList) = true := by rw [bne, h2]; rfl
        clear HE HV HV'
        go_wp2_with fail
        go_ret2
        exact ⟨by rw [HF.out, HW.out]; rfl, hb2⟩
  · have HE : Hid (matchErr p i b = argErr p i b) := by show _ = _; unfold matchErr; rw [if_neg h0]
    have HV : Hid (matchVal p i b = ⟨#[]⟩) := by show _ = _; unfold matchVal matchErr; rw [if_neg h0, if_neg h0]
    have h0' : (argErr p i b != 0) = true := by simpa using h0
    clear h0
    go_enter Tryd.func11, Tryd.ntmps11
    go_wp2_with fail
    refine (checkAll_any p i b hp hi hb _).mono ?_
    rintro e w1 ⟨rfl, rfl⟩
    go_wp2_with fail
    go_ret2
    exact ⟨by rw [HE.out, HV.out]; rfl, Below.refl _ _⟩


end Go.Proofs.YtpamadnckijfkadDoor
