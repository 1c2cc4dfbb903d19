/- What the reference's MatchOf answers: the same as unify.Match. -/
import Derived.Test.YtpamadnckijfkadDoorUnify
namespace Go.Proofs.YtpamadnckijfkadDoor
open Go.RowKit
set_option maxRecDepth 100000

theorem bne_of {a b : List UInt8} {c : Bool} (h : (a == b) = c) : (a != b) = !c := by rw [bne, h]

set_option maxHeartbeats 1000000 in
theorem matchOf_ttt {p i b : ByteArray} (hp : p.size ≤ maxLen) (hi : i.size ≤ maxLen) (_hb : b.size ≤ maxLen) (h0 : argErr p i b = 0) (h1 : kindErr p = 0) (h2 : kindErr i = 0) (hE : (b.toList == []) = true) (l1 : isList p = true) (l2 : isList i = true)
    (IH : ∀ w : World, Calls Tryd.prog 19 #[.string (inner p), .string (inner i), .string b] w fun e w' => e = .returned (.tuple #[.string (matchVal (inner p) (inner i) b), .int .i64 (matchErr (inner p) (inner i) b)]) ∧ w = w') (w : World) :
    Calls Tryd.prog 19 #[.string p, .string i, .string b] w fun e w' => e = .returned (.tuple #[.string (matchVal p i b), .int .i64 (matchErr p i b)]) ∧ w = w' := by
  have hE' := bne_of hE
  have HM := veilK (matchErr_in h0 l1 l2)
  have HI := veilK IH
  clear IH
  clear h0
  go_enter Tryd.func19, Tryd.ntmps19
  go_wp2_with fail
  refine (kindFault_any p hp _).mono ?_
  rintro e w1 ⟨rfl, rfl⟩
  rw [h1]
  go_wp2_with fail
  refine (kindFault_any i hi _).mono ?_
  rintro e w1 ⟨rfl, rfl⟩
  rw [h2]
  go_wp2_with fail
  refine (elemOf_list hp l1 _).mono ?_
  rintro e w1 ⟨rfl, rfl⟩
  go_wp2_with fail
  refine (elemOf_list hi l2 _).mono ?_
  rintro e w1 ⟨rfl, rfl⟩
  go_wp2_with fail
  refine (HI.out _).mono ?_
  rintro e w1 ⟨rfl, rfl⟩
  rw [HM.out.1, HM.out.2]
  go_wp2_with fail
  go_ret2
  exact ⟨rfl, rfl⟩

set_option maxHeartbeats 1000000 in
theorem matchOf_ttf {p i b : ByteArray} (hp : p.size ≤ maxLen) (hi : i.size ≤ maxLen) (_hb : b.size ≤ maxLen) (h0 : argErr p i b = 0) (h1 : kindErr p = 0) (h2 : kindErr i = 0) (hE : (b.toList == []) = true) (l1 : isList p = true) (l2 : isList i = false) (w : World) :
    Calls Tryd.prog 19 #[.string p, .string i, .string b] w fun e w' => e = .returned (.tuple #[.string (matchVal p i b), .int .i64 (matchErr p i b)]) ∧ w = w' := by
  have hE' := bne_of hE
  have HU : Hid (unw p i = (p, i)) := unw_no (.inr l2)
  have HE : Hid (matchErr p i b = fitErr p i b) := by show _ = _; unfold matchErr; rw [if_pos h0, HU.out]
  have HV : Hid (matchVal p i b = if fitErr p i b = 0 then fitVal p i b else ⟨#[]⟩) := by show _ = _; unfold matchVal; rw [HE.out, HU.out]
  clear h0 HU
  cases q1 : (p.toList == [42]) with
  | true =>
    have HX : Hid (fitErr p i b = 0) := by show _ = _; unfold fitErr; rw [q1, hE]; rfl
    have HY : Hid (matchVal p i b = i) := by show _ = _; rw [HV.out, HX.out]; show fitVal p i b = _; unfold fitVal; rw [q1]; rfl
    go_enter Tryd.func19, Tryd.ntmps19
    go_wp2_with fail
    refine (kindFault_any p hp _).mono ?_
    rintro e w1 ⟨rfl, rfl⟩
    rw [h1]
    go_wp2_with fail
    refine (kindFault_any i hi _).mono ?_
    rintro e w1 ⟨rfl, rfl⟩
    rw [h2]
    go_wp2_with fail
    refine (elemOf_list hp l1 _).mono ?_
    rintro e w1 ⟨rfl, rfl⟩
    go_wp2_with fail
    refine (elemOf_none hi l2 _).mono ?_
    rintro e w1 ⟨rfl, rfl⟩
    go_wp2_with fail
    go_ret2
    exact ⟨by rw [HE.out, HX.out, HY.out]; rfl, rfl⟩
  | false =>
    cases q2 : (p.toList == i.toList) with
    | true =>
      have q2' := bne_of q2
      have HX : Hid (fitErr p i b = 0) := by show _ = _; unfold fitErr; rw [q1, q2]; rfl
      have HY : Hid (matchVal p i b = b) := by show _ = _; rw [HV.out, HX.out]; show fitVal p i b = _; unfold fitVal; rw [q1]; rfl
      go_enter Tryd.func19, Tryd.ntmps19
      go_wp2_with fail
      refine (kindFault_any p hp _).mono ?_
      rintro e w1 ⟨rfl, rfl⟩
      rw [h1]
      go_wp2_with fail
      refine (kindFault_any i hi _).mono ?_
      rintro e w1 ⟨rfl, rfl⟩
      rw [h2]
      go_wp2_with fail
      refine (elemOf_list hp l1 _).mono ?_
      rintro e w1 ⟨rfl, rfl⟩
      go_wp2_with fail
      refine (elemOf_none hi l2 _).mono ?_
      rintro e w1 ⟨rfl, rfl⟩
      go_wp2_with fail
      go_ret2
      exact ⟨by rw [HE.out, HX.out, HY.out]; rfl, rfl⟩
    | false =>
      have q2' := bne_of q2
      have HX : Hid (fitErr p i b = 8) := by show _ = _; unfold fitErr; rw [q1, q2]; rfl
      have HY : Hid (matchVal p i b = ⟨#[]⟩) := by show _ = _; rw [HV.out, HX.out]; rfl
      go_enter Tryd.func19, Tryd.ntmps19
      go_wp2_with fail
      refine (kindFault_any p hp _).mono ?_
      rintro e w1 ⟨rfl, rfl⟩
      rw [h1]
      go_wp2_with fail
      refine (kindFault_any i hi _).mono ?_
      rintro e w1 ⟨rfl, rfl⟩
      rw [h2]
      go_wp2_with fail
      refine (elemOf_list hp l1 _).mono ?_
      rintro e w1 ⟨rfl, rfl⟩
      go_wp2_with fail
      refine (elemOf_none hi l2 _).mono ?_
      rintro e w1 ⟨rfl, rfl⟩
      go_wp2_with fail
      go_ret2
      exact ⟨by rw [HE.out, HX.out, HY.out]; rfl, rfl⟩

set_option maxHeartbeats 1000000 in
theorem matchOf_tft {p i b : ByteArray} (hp : p.size ≤ maxLen) (hi : i.size ≤ maxLen) (_hb : b.size ≤ maxLen) (h0 : argErr p i b = 0) (h1 : kindErr p = 0) (h2 : kindErr i = 0) (hE : (b.toList == []) = true) (l1 : isList p = false) (l2 : isList i = true) (w : World) :
    Calls Tryd.prog 19 #[.string p, .string i, .string b] w fun e w' => e = .returned (.tuple #[.string (matchVal p i b), .int .i64 (matchErr p i b)]) ∧ w = w' := by
  have hE' := bne_of hE
  have HU : Hid (unw p i = (p, i)) := unw_no (.inl l1)
  have HE : Hid (matchErr p i b = fitErr p i b) := by show _ = _; unfold matchErr; rw [if_pos h0, HU.out]
  have HV : Hid (matchVal p i b = if fitErr p i b = 0 then fitVal p i b else ⟨#[]⟩) := by show _ = _; unfold matchVal; rw [HE.out, HU.out]
  clear h0 HU
  cases q1 : (p.toList == [42]) with
  | true =>
    have HX : Hid (fitErr p i b = 0) := by show _ = _; unfold fitErr; rw [q1, hE]; rfl
    have HY : Hid (matchVal p i b = i) := by show _ = _; rw [HV.out, HX.out]; show fitVal p i b = _; unfold fitVal; rw [q1]; rfl
    go_enter Tryd.func19, Tryd.ntmps19
    go_wp2_with fail
    refine (kindFault_any p hp _).mono ?_
    rintro e w1 ⟨rfl, rfl⟩
    rw [h1]
    go_wp2_with fail
    refine (kindFault_any i hi _).mono ?_
    rintro e w1 ⟨rfl, rfl⟩
    rw [h2]
    go_wp2_with fail
    refine (elemOf_none hp l1 _).mono ?_
    rintro e w1 ⟨rfl, rfl⟩
    go_wp2_with fail
    refine (elemOf_list hi l2 _).mono ?_
    rintro e w1 ⟨rfl, rfl⟩
    go_wp2_with fail
    go_ret2
    exact ⟨by rw [HE.out, HX.out, HY.out]; rfl, rfl⟩
  | false =>
    cases q2 : (p.toList == i.toList) with
    | true =>
      have q2' := bne_of q2
      have HX : Hid (fitErr p i b = 0) := by show _ = _; unfold fitErr; rw [q1, q2]; rfl
      have HY : Hid (matchVal p i b = b) := by show _ = _; rw [HV.out, HX.out]; show fitVal p i b = _; unfold fitVal; rw [q1]; rfl
      go_enter Tryd.func19, Tryd.ntmps19
      go_wp2_with fail
      refine (kindFault_any p hp _).mono ?_
      rintro e w1 ⟨rfl, rfl⟩
      rw [h1]
      go_wp2_with fail
      refine (kindFault_any i hi _).mono ?_
      rintro e w1 ⟨rfl, rfl⟩
      rw [h2]
      go_wp2_with fail
      refine (elemOf_none hp l1 _).mono ?_
      rintro e w1 ⟨rfl, rfl⟩
      go_wp2_with fail
      refine (elemOf_list hi l2 _).mono ?_
      rintro e w1 ⟨rfl, rfl⟩
      go_wp2_with fail
      go_ret2
      exact ⟨by rw [HE.out, HX.out, HY.out]; rfl, rfl⟩
    | false =>
      have q2' := bne_of q2
      have HX : Hid (fitErr p i b = 8) := by show _ = _; unfold fitErr; rw [q1, q2]; rfl
      have HY : Hid (matchVal p i b = ⟨#[]⟩) := by show _ = _; rw [HV.out, HX.out]; rfl
      go_enter Tryd.func19, Tryd.ntmps19
      go_wp2_with fail
      refine (kindFault_any p hp _).mono ?_
      rintro e w1 ⟨rfl, rfl⟩
      rw [h1]
      go_wp2_with fail
      refine (kindFault_any i hi _).mono ?_
      rintro e w1 ⟨rfl, rfl⟩
      rw [h2]
      go_wp2_with fail
      refine (elemOf_none hp l1 _).mono ?_
      rintro e w1 ⟨rfl, rfl⟩
      go_wp2_with fail
      refine (elemOf_list hi l2 _).mono ?_
      rintro e w1 ⟨rfl, rfl⟩
      go_wp2_with fail
      go_ret2
      exact ⟨by rw [HE.out, HX.out, HY.out]; rfl, rfl⟩

set_option maxHeartbeats 1000000 in
theorem matchOf_tff {p i b : ByteArray} (hp : p.size ≤ maxLen) (hi : i.size ≤ maxLen) (_hb : b.size ≤ maxLen) (h0 : argErr p i b = 0) (h1 : kindErr p = 0) (h2 : kindErr i = 0) (hE : (b.toList == []) = true) (l1 : isList p = false) (l2 : isList i = false) (w : World) :
    Calls Tryd.prog 19 #[.string p, .string i, .string b] w fun e w' => e = .returned (.tuple #[.string (matchVal p i b), .int .i64 (matchErr p i b)]) ∧ w = w' := by
  have hE' := bne_of hE
  have HU : Hid (unw p i = (p, i)) := unw_no (.inl l1)
  have HE : Hid (matchErr p i b = fitErr p i b) := by show _ = _; unfold matchErr; rw [if_pos h0, HU.out]
  have HV : Hid (matchVal p i b = if fitErr p i b = 0 then fitVal p i b else ⟨#[]⟩) := by show _ = _; unfold matchVal; rw [HE.out, HU.out]
  clear h0 HU
  cases q1 : (p.toList == [42]) with
  | true =>
    have HX : Hid (fitErr p i b = 0) := by show _ = _; unfold fitErr; rw [q1, hE]; rfl
    have HY : Hid (matchVal p i b = i) := by show _ = _; rw [HV.out, HX.out]; show fitVal p i b = _; unfold fitVal; rw [q1]; rfl
    go_enter Tryd.func19, Tryd.ntmps19
    go_wp2_with fail
    refine (kindFault_any p hp _).mono ?_
    rintro e w1 ⟨rfl, rfl⟩
    rw [h1]
    go_wp2_with fail
    refine (kindFault_any i hi _).mono ?_
    rintro e w1 ⟨rfl, rfl⟩
    rw [h2]
    go_wp2_with fail
    refine (elemOf_none hp l1 _).mono ?_
    rintro e w1 ⟨rfl, rfl⟩
    go_wp2_with fail
    refine (elemOf_none hi l2 _).mono ?_
    rintro e w1 ⟨rfl, rfl⟩
    go_wp2_with fail
    go_ret2
    exact ⟨by rw [HE.out, HX.out, HY.out]; rfl, rfl⟩
  | false =>
    cases q2 : (p.toList == i.toList) with
    | true =>
      have q2' := bne_of q2
      have HX : Hid (fitErr p i b = 0) := by show _ = _; unfold fitErr; rw [q1, q2]; rfl
      have HY : Hid (matchVal p i b = b) := by show _ = _; rw [HV.out, HX.out]; show fitVal p i b = _; unfold fitVal; rw [q1]; rfl
      go_enter Tryd.func19, Tryd.ntmps19
      go_wp2_with fail
      refine (kindFault_any p hp _).mono ?_
      rintro e w1 ⟨rfl, rfl⟩
      rw [h1]
      go_wp2_with fail
      refine (kindFault_any i hi _).mono ?_
      rintro e w1 ⟨rfl, rfl⟩
      rw [h2]
      go_wp2_with fail
      refine (elemOf_none hp l1 _).mono ?_
      rintro e w1 ⟨rfl, rfl⟩
      go_wp2_with fail
      refine (elemOf_none hi l2 _).mono ?_
      rintro e w1 ⟨rfl, rfl⟩
      go_wp2_with fail
      go_ret2
      exact ⟨by rw [HE.out, HX.out, HY.out]; rfl, rfl⟩
    | false =>
      have q2' := bne_of q2
      have HX : Hid (fitErr p i b = 8) := by show _ = _; unfold fitErr; rw [q1, q2]; rfl
      have HY : Hid (matchVal p i b = ⟨#[]⟩) := by show _ = _; rw [HV.out, HX.out]; rfl
      go_enter Tryd.func19, Tryd.ntmps19
      go_wp2_with fail
      refine (kindFault_any p hp _).mono ?_
      rintro e w1 ⟨rfl, rfl⟩
      rw [h1]
      go_wp2_with fail
      refine (kindFault_any i hi _).mono ?_
      rintro e w1 ⟨rfl, rfl⟩
      rw [h2]
      go_wp2_with fail
      refine (elemOf_none hp l1 _).mono ?_
      rintro e w1 ⟨rfl, rfl⟩
      go_wp2_with fail
      refine (elemOf_none hi l2 _).mono ?_
      rintro e w1 ⟨rfl, rfl⟩
      go_wp2_with fail
      go_ret2
      exact ⟨by rw [HE.out, HX.out, HY.out]; rfl, rfl⟩

set_option maxHeartbeats 1000000 in
theorem matchOf_ftt {p i b : ByteArray} (hp : p.size ≤ maxLen) (hi : i.size ≤ maxLen) (hb : b.size ≤ maxLen) (h0 : argErr p i b = 0) (h1 : kindErr p = 0) (h2 : kindErr i = 0) (hE : (b.toList == []) = false) (l1 : isList p = true) (l2 : isList i = true)
    (IH : ∀ w : World, Calls Tryd.prog 19 #[.string (inner p), .string (inner i), .string b] w fun e w' => e = .returned (.tuple #[.string (matchVal (inner p) (inner i) b), .int .i64 (matchErr (inner p) (inner i) b)]) ∧ w = w') (w : World) :
    Calls Tryd.prog 19 #[.string p, .string i, .string b] w fun e w' => e = .returned (.tuple #[.string (matchVal p i b), .int .i64 (matchErr p i b)]) ∧ w = w' := by
  have hE' := bne_of hE
  have h3 : kindErr b = 0 := by
    rcases (argErr_ok h0).2.2 with h | h
    · rw [hE] at h; cases h
    · exact h
  have HM := veilK (matchErr_in h0 l1 l2)
  have HI := veilK IH
  clear IH
  clear h0
  go_enter Tryd.func19, Tryd.ntmps19
  go_wp2_with fail
  refine (kindFault_any p hp _).mono ?_
  rintro e w1 ⟨rfl, rfl⟩
  rw [h1]
  go_wp2_with fail
  refine (kindFault_any i hi _).mono ?_
  rintro e w1 ⟨rfl, rfl⟩
  rw [h2]
  go_wp2_with fail
  refine (kindFault_any b hb _).mono ?_
  rintro e w1 ⟨rfl, rfl⟩
  rw [h3]
  go_wp2_with fail
  refine (elemOf_list hp l1 _).mono ?_
  rintro e w1 ⟨rfl, rfl⟩
  go_wp2_with fail
  refine (elemOf_list hi l2 _).mono ?_
  rintro e w1 ⟨rfl, rfl⟩
  go_wp2_with fail
  refine (HI.out _).mono ?_
  rintro e w1 ⟨rfl, rfl⟩
  rw [HM.out.1, HM.out.2]
  go_wp2_with fail
  go_ret2
  exact ⟨rfl, rfl⟩

set_option maxHeartbeats 1000000 in
theorem matchOf_ftf {p i b : ByteArray} (hp : p.size ≤ maxLen) (hi : i.size ≤ maxLen) (hb : b.size ≤ maxLen) (h0 : argErr p i b = 0) (h1 : kindErr p = 0) (h2 : kindErr i = 0) (hE : (b.toList == []) = false) (l1 : isList p = true) (l2 : isList i = false) (w : World) :
    Calls Tryd.prog 19 #[.string p, .string i, .string b] w fun e w' => e = .returned (.tuple #[.string (matchVal p i b), .int .i64 (matchErr p i b)]) ∧ w = w' := by
  have hE' := bne_of hE
  have h3 : kindErr b = 0 := by
    rcases (argErr_ok h0).2.2 with h | h
    · rw [hE] at h; cases h
    · exact h
  have HU : Hid (unw p i = (p, i)) := unw_no (.inr l2)
  have HE : Hid (matchErr p i b = fitErr p i b) := by show _ = _; unfold matchErr; rw [if_pos h0, HU.out]
  have HV : Hid (matchVal p i b = if fitErr p i b = 0 then fitVal p i b else ⟨#[]⟩) := by show _ = _; unfold matchVal; rw [HE.out, HU.out]
  clear h0 HU
  cases q1 : (p.toList == [42]) with
  | true =>
    cases q2 : (b.toList == i.toList) with
    | true =>
      have q2' := bne_of q2
      have HX : Hid (fitErr p i b = 0) := by show _ = _; unfold fitErr; rw [q1, hE, q2]; rfl
      have HY : Hid (matchVal p i b = i) := by show _ = _; rw [HV.out, HX.out]; show fitVal p i b = _; unfold fitVal; rw [q1]; rfl
      go_enter Tryd.func19, Tryd.ntmps19
      go_wp2_with fail
      refine (kindFault_any p hp _).mono ?_
      rintro e w1 ⟨rfl, rfl⟩
      rw [h1]
      go_wp2_with fail
      refine (kindFault_any i hi _).mono ?_
      rintro e w1 ⟨rfl, rfl⟩
      rw [h2]
      go_wp2_with fail
      refine (kindFault_any b hb _).mono ?_
      rintro e w1 ⟨rfl, rfl⟩
      rw [h3]
      go_wp2_with fail
      refine (elemOf_list hp l1 _).mono ?_
      rintro e w1 ⟨rfl, rfl⟩
      go_wp2_with fail
      refine (elemOf_none hi l2 _).mono ?_
      rintro e w1 ⟨rfl, rfl⟩
      go_wp2_with fail
      go_ret2
      exact ⟨by rw [HE.out, HX.out, HY.out]; rfl, rfl⟩
    | false =>
      have q2' := bne_of q2
      have HX : Hid (fitErr p i b = 8) := by show _ = _; unfold fitErr; rw [q1, hE, q2]; rfl
      have HY : Hid (matchVal p i b = ⟨#[]⟩) := by show _ = _; rw [HV.out, HX.out]; rfl
      go_enter Tryd.func19, Tryd.ntmps19
      go_wp2_with fail
      refine (kindFault_any p hp _).mono ?_
      rintro e w1 ⟨rfl, rfl⟩
      rw [h1]
      go_wp2_with fail
      refine (kindFault_any i hi _).mono ?_
      rintro e w1 ⟨rfl, rfl⟩
      rw [h2]
      go_wp2_with fail
      refine (kindFault_any b hb _).mono ?_
      rintro e w1 ⟨rfl, rfl⟩
      rw [h3]
      go_wp2_with fail
      refine (elemOf_list hp l1 _).mono ?_
      rintro e w1 ⟨rfl, rfl⟩
      go_wp2_with fail
      refine (elemOf_none hi l2 _).mono ?_
      rintro e w1 ⟨rfl, rfl⟩
      go_wp2_with fail
      go_ret2
      exact ⟨by rw [HE.out, HX.out, HY.out]; rfl, rfl⟩
  | false =>
    cases q2 : (p.toList == i.toList) with
    | true =>
      have q2' := bne_of q2
      have HX : Hid (fitErr p i b = 0) := by show _ = _; unfold fitErr; rw [q1, q2]; rfl
      have HY : Hid (matchVal p i b = b) := by show _ = _; rw [HV.out, HX.out]; show fitVal p i b = _; unfold fitVal; rw [q1]; rfl
      go_enter Tryd.func19, Tryd.ntmps19
      go_wp2_with fail
      refine (kindFault_any p hp _).mono ?_
      rintro e w1 ⟨rfl, rfl⟩
      rw [h1]
      go_wp2_with fail
      refine (kindFault_any i hi _).mono ?_
      rintro e w1 ⟨rfl, rfl⟩
      rw [h2]
      go_wp2_with fail
      refine (kindFault_any b hb _).mono ?_
      rintro e w1 ⟨rfl, rfl⟩
      rw [h3]
      go_wp2_with fail
      refine (elemOf_list hp l1 _).mono ?_
      rintro e w1 ⟨rfl, rfl⟩
      go_wp2_with fail
      refine (elemOf_none hi l2 _).mono ?_
      rintro e w1 ⟨rfl, rfl⟩
      go_wp2_with fail
      go_ret2
      exact ⟨by rw [HE.out, HX.out, HY.out]; rfl, rfl⟩
    | false =>
      have q2' := bne_of q2
      have HX : Hid (fitErr p i b = 8) := by show _ = _; unfold fitErr; rw [q1, q2]; rfl
      have HY : Hid (matchVal p i b = ⟨#[]⟩) := by show _ = _; rw [HV.out, HX.out]; rfl
      go_enter Tryd.func19, Tryd.ntmps19
      go_wp2_with fail
      refine (kindFault_any p hp _).mono ?_
      rintro e w1 ⟨rfl, rfl⟩
      rw [h1]
      go_wp2_with fail
      refine (kindFault_any i hi _).mono ?_
      rintro e w1 ⟨rfl, rfl⟩
      rw [h2]
      go_wp2_with fail
      refine (kindFault_any b hb _).mono ?_
      rintro e w1 ⟨rfl, rfl⟩
      rw [h3]
      go_wp2_with fail
      refine (elemOf_list hp l1 _).mono ?_
      rintro e w1 ⟨rfl, rfl⟩
      go_wp2_with fail
      refine (elemOf_none hi l2 _).mono ?_
      rintro e w1 ⟨rfl, rfl⟩
      go_wp2_with fail
      go_ret2
      exact ⟨by rw [HE.out, HX.out, HY.out]; rfl, rfl⟩

set_option maxHeartbeats 1000000 in
theorem matchOf_fft {p i b : ByteArray} (hp : p.size ≤ maxLen) (hi : i.size ≤ maxLen) (hb : b.size ≤ maxLen) (h0 : argErr p i b = 0) (h1 : kindErr p = 0) (h2 : kindErr i = 0) (hE : (b.toList == []) = false) (l1 : isList p = false) (l2 : isList i = true) (w : World) :
    Calls Tryd.prog 19 #[.string p, .string i, .string b] w fun e w' => e = .returned (.tuple #[.string (matchVal p i b), .int .i64 (matchErr p i b)]) ∧ w = w' := by
  have hE' := bne_of hE
  have h3 : kindErr b = 0 := by
    rcases (argErr_ok h0).2.2 with h | h
    · rw [hE] at h; cases h
    · exact h
  have HU : Hid (unw p i = (p, i)) := unw_no (.inl l1)
  have HE : Hid (matchErr p i b = fitErr p i b) := by show _ = _; unfold matchErr; rw [if_pos h0, HU.out]
  have HV : Hid (matchVal p i b = if fitErr p i b = 0 then fitVal p i b else ⟨#[]⟩) := by show _ = _; unfold matchVal; rw [HE.out, HU.out]
  clear h0 HU
  cases q1 : (p.toList == [42]) with
  | true =>
    cases q2 : (b.toList == i.toList) with
    | true =>
      have q2' := bne_of q2
      have HX : Hid (fitErr p i b = 0) := by show _ = _; unfold fitErr; rw [q1, hE, q2]; rfl
      have HY : Hid (matchVal p i b = i) := by show _ = _; rw [HV.out, HX.out]; show fitVal p i b = _; unfold fitVal; rw [q1]; rfl
      go_enter Tryd.func19, Tryd.ntmps19
      go_wp2_with fail
      refine (kindFault_any p hp _).mono ?_
      rintro e w1 ⟨rfl, rfl⟩
      rw [h1]
      go_wp2_with fail
      refine (kindFault_any i hi _).mono ?_
      rintro e w1 ⟨rfl, rfl⟩
      rw [h2]
      go_wp2_with fail
      refine (kindFault_any b hb _).mono ?_
      rintro e w1 ⟨rfl, rfl⟩
      rw [h3]
      go_wp2_with fail
      refine (elemOf_none hp l1 _).mono ?_
      rintro e w1 ⟨rfl, rfl⟩
      go_wp2_with fail
      refine (elemOf_list hi l2 _).mono ?_
      rintro e w1 ⟨rfl, rfl⟩
      go_wp2_with fail
      go_ret2
      exact ⟨by rw [HE.out, HX.out, HY.out]; rfl, rfl⟩
    | false =>
      have q2' := bne_of q2
      have HX : Hid (fitErr p i b = 8) := by show _ = _; unfold fitErr; rw [q1, hE, q2]; rfl
      have HY : Hid (matchVal p i b = ⟨#[]⟩) := by show _ = _; rw [HV.out, HX.out]; rfl
      go_enter Tryd.func19, Tryd.ntmps19
      go_wp2_with fail
      refine (kindFault_any p hp _).mono ?_
      rintro e w1 ⟨rfl, rfl⟩
      rw [h1]
      go_wp2_with fail
      refine (kindFault_any i hi _).mono ?_
      rintro e w1 ⟨rfl, rfl⟩
      rw [h2]
      go_wp2_with fail
      refine (kindFault_any b hb _).mono ?_
      rintro e w1 ⟨rfl, rfl⟩
      rw [h3]
      go_wp2_with fail
      refine (elemOf_none hp l1 _).mono ?_
      rintro e w1 ⟨rfl, rfl⟩
      go_wp2_with fail
      refine (elemOf_list hi l2 _).mono ?_
      rintro e w1 ⟨rfl, rfl⟩
      go_wp2_with fail
      go_ret2
      exact ⟨by rw [HE.out, HX.out, HY.out]; rfl, rfl⟩
  | false =>
    cases q2 : (p.toList == i.toList) with
    | true =>
      have q2' := bne_of q2
      have HX : Hid (fitErr p i b = 0) := by show _ = _; unfold fitErr; rw [q1, q2]; rfl
      have HY : Hid (matchVal p i b = b) := by show _ = _; rw [HV.out, HX.out]; show fitVal p i b = _; unfold fitVal; rw [q1]; rfl
      go_enter Tryd.func19, Tryd.ntmps19
      go_wp2_with fail
      refine (kindFault_any p hp _).mono ?_
      rintro e w1 ⟨rfl, rfl⟩
      rw [h1]
      go_wp2_with fail
      refine (kindFault_any i hi _).mono ?_
      rintro e w1 ⟨rfl, rfl⟩
      rw [h2]
      go_wp2_with fail
      refine (kindFault_any b hb _).mono ?_
      rintro e w1 ⟨rfl, rfl⟩
      rw [h3]
      go_wp2_with fail
      refine (elemOf_none hp l1 _).mono ?_
      rintro e w1 ⟨rfl, rfl⟩
      go_wp2_with fail
      refine (elemOf_list hi l2 _).mono ?_
      rintro e w1 ⟨rfl, rfl⟩
      go_wp2_with fail
      go_ret2
      exact ⟨by rw [HE.out, HX.out, HY.out]; rfl, rfl⟩
    | false =>
      have q2' := bne_of q2
      have HX : Hid (fitErr p i b = 8) := by show _ = _; unfold fitErr; rw [q1, q2]; rfl
      have HY : Hid (matchVal p i b = ⟨#[]⟩) := by show _ = _; rw [HV.out, HX.out]; rfl
      go_enter Tryd.func19, Tryd.ntmps19
      go_wp2_with fail
      refine (kindFault_any p hp _).mono ?_
      rintro e w1 ⟨rfl, rfl⟩
      rw [h1]
      go_wp2_with fail
      refine (kindFault_any i hi _).mono ?_
      rintro e w1 ⟨rfl, rfl⟩
      rw [h2]
      go_wp2_with fail
      refine (kindFault_any b hb _).mono ?_
      rintro e w1 ⟨rfl, rfl⟩
      rw [h3]
      go_wp2_with fail
      refine (elemOf_none hp l1 _).mono ?_
      rintro e w1 ⟨rfl, rfl⟩
      go_wp2_with fail
      refine (elemOf_list hi l2 _).mono ?_
      rintro e w1 ⟨rfl, rfl⟩
      go_wp2_with fail
      go_ret2
      exact ⟨by rw [HE.out, HX.out, HY.out]; rfl, rfl⟩

set_option maxHeartbeats 1000000 in
theorem matchOf_fff {p i b : ByteArray} (hp : p.size ≤ maxLen) (hi : i.size ≤ maxLen) (hb : b.size ≤ maxLen) (h0 : argErr p i b = 0) (h1 : kindErr p = 0) (h2 : kindErr i = 0) (hE : (b.toList == []) = false) (l1 : isList p = false) (l2 : isList i = false) (w : World) :
    Calls Tryd.prog 19 #[.string p, .string i, .string b] w fun e w' => e = .returned (.tuple #[.string (matchVal p i b), .int .i64 (matchErr p i b)]) ∧ w = w' := by
  have hE' := bne_of hE
  have h3 : kindErr b = 0 := by
    rcases (argErr_ok h0).2.2 with h | h
    · rw [hE] at h; cases h
    · exact h
  have HU : Hid (unw p i = (p, i)) := unw_no (.inl l1)
  have HE : Hid (matchErr p i b = fitErr p i b) := by show _ = _; unfold matchErr; rw [if_pos h0, HU.out]
  have HV : Hid (matchVal p i b = if fitErr p i b = 0 then fitVal p i b else ⟨#[]⟩) := by show _ = _; unfold matchVal; rw [HE.out, HU.out]
  clear h0 HU
  cases q1 : (p.toList == [42]) with
  | true =>
    cases q2 : (b.toList == i.toList) with
    | true =>
      have q2' := bne_of q2
      have HX : Hid (fitErr p i b = 0) := by show _ = _; unfold fitErr; rw [q1, hE, q2]; rfl
      have HY : Hid (matchVal p i b = i) := by show _ = _; rw [HV.out, HX.out]; show fitVal p i b = _; unfold fitVal; rw [q1]; rfl
      go_enter Tryd.func19, Tryd.ntmps19
      go_wp2_with fail
      refine (kindFault_any p hp _).mono ?_
      rintro e w1 ⟨rfl, rfl⟩
      rw [h1]
      go_wp2_with fail
      refine (kindFault_any i hi _).mono ?_
      rintro e w1 ⟨rfl, rfl⟩
      rw [h2]
      go_wp2_with fail
      refine (kindFault_any b hb _).mono ?_
      rintro e w1 ⟨rfl, rfl⟩
      rw [h3]
      go_wp2_with fail
      refine (elemOf_none hp l1 _).mono ?_
      rintro e w1 ⟨rfl, rfl⟩
      go_wp2_with fail
      refine (elemOf_none hi l2 _).mono ?_
      rintro e w1 ⟨rfl, rfl⟩
      go_wp2_with fail
      go_ret2
      exact ⟨by rw [HE.out, HX.out, HY.out]; rfl, rfl⟩
    | false =>
      have q2' := bne_of q2
      have HX : Hid (fitErr p i b = 8) := by show _ = _; unfold fitErr; rw [q1, hE, q2]; rfl
      have HY : Hid (matchVal p i b = ⟨#[]⟩) := by show _ = _; rw [HV.out, HX.out]; rfl
      go_enter Tryd.func19, Tryd.ntmps19
      go_wp2_with fail
      refine (kindFault_any p hp _).mono ?_
      rintro e w1 ⟨rfl, rfl⟩
      rw [h1]
      go_wp2_with fail
      refine (kindFault_any i hi _).mono ?_
      rintro e w1 ⟨rfl, rfl⟩
      rw [h2]
      go_wp2_with fail
      refine (kindFault_any b hb _).mono ?_
      rintro e w1 ⟨rfl, rfl⟩
      rw [h3]
      go_wp2_with fail
      refine (elemOf_none hp l1 _).mono ?_
      rintro e w1 ⟨rfl, rfl⟩
      go_wp2_with fail
      refine (elemOf_none hi l2 _).mono ?_
      rintro e w1 ⟨rfl, rfl⟩
      go_wp2_with fail
      go_ret2
      exact ⟨by rw [HE.out, HX.out, HY.out]; rfl, rfl⟩
  | false =>
    cases q2 : (p.toList == i.toList) with
    | true =>
      have q2' := bne_of q2
      have HX : Hid (fitErr p i b = 0) := by show _ = _; unfold fitErr; rw [q1, q2]; rfl
      have HY : Hid (matchVal p i b = b) := by show _ = _; rw [HV.out, HX.out]; show fitVal p i b = _; unfold fitVal; rw [q1]; rfl
      go_enter Tryd.func19, Tryd.ntmps19
      go_wp2_with fail
      refine (kindFault_any p hp _).mono ?_
      rintro e w1 ⟨rfl, rfl⟩
      rw [h1]
      go_wp2_with fail
      refine (kindFault_any i hi _).mono ?_
      rintro e w1 ⟨rfl, rfl⟩
      rw [h2]
      go_wp2_with fail
      refine (kindFault_any b hb _).mono ?_
      rintro e w1 ⟨rfl, rfl⟩
      rw [h3]
      go_wp2_with fail
      refine (elemOf_none hp l1 _).mono ?_
      rintro e w1 ⟨rfl, rfl⟩
      go_wp2_with fail
      refine (elemOf_none hi l2 _).mono ?_
      rintro e w1 ⟨rfl, rfl⟩
      go_wp2_with fail
      go_ret2
      exact ⟨by rw [HE.out, HX.out, HY.out]; rfl, rfl⟩
    | false =>
      have q2' := bne_of q2
      have HX : Hid (fitErr p i b = 8) := by show _ = _; unfold fitErr; rw [q1, q2]; rfl
      have HY : Hid (matchVal p i b = ⟨#[]⟩) := by show _ = _; rw [HV.out, HX.out]; rfl
      go_enter Tryd.func19, Tryd.ntmps19
      go_wp2_with fail
      refine (kindFault_any p hp _).mono ?_
      rintro e w1 ⟨rfl, rfl⟩
      rw [h1]
      go_wp2_with fail
      refine (kindFault_any i hi _).mono ?_
      rintro e w1 ⟨rfl, rfl⟩
      rw [h2]
      go_wp2_with fail
      refine (kindFault_any b hb _).mono ?_
      rintro e w1 ⟨rfl, rfl⟩
      rw [h3]
      go_wp2_with fail
      refine (elemOf_none hp l1 _).mono ?_
      rintro e w1 ⟨rfl, rfl⟩
      go_wp2_with fail
      refine (elemOf_none hi l2 _).mono ?_
      rintro e w1 ⟨rfl, rfl⟩
      go_wp2_with fail
      go_ret2
      exact ⟨by rw [HE.out, HX.out, HY.out]; rfl, rfl⟩

set_option maxHeartbeats 1000000 in
theorem matchOf_bad {p i b : ByteArray} (hp : p.size ≤ maxLen) (hi : i.size ≤ maxLen) (hb : b.size ≤ maxLen) (h0 : argErr p i b ≠ 0) (w : World) :
    Calls Tryd.prog 19 #[.string p, .string i, .string b] w fun e w' => e = .returned (.tuple #[.string (matchVal p i b), .int .i64 (matchErr p i b)]) ∧ w = w' := by
  have HE : Hid (matchErr p i b = argErr p i b) := by show _ = _; unfold matchErr; rw [if_neg h0]
  have HV : Hid (matchVal p i b = ⟨#[]⟩) := by show _ = _; unfold matchVal matchErr; rw [if_neg h0, if_neg h0]
  by_cases h1 : kindErr p = 0
  · by_cases h2 : kindErr i = 0
    · have hE : (b.toList == []) = false := by
        cases e : (b.toList == []) with
        | false => rfl
        | true => exact absurd (by unfold argErr; rw [if_pos h1, if_pos h2, e]; rfl) h0
      have hE' := bne_of hE
      have HA : Hid (argErr p i b = kindErr b) := by show _ = _; unfold argErr; rw [if_pos h1, if_pos h2, hE]; rfl
      have h3 : (kindErr b != 0) = true := by rw [HA.out] at h0; simpa using h0
      clear h0
      go_enter Tryd.func19, Tryd.ntmps19
      go_wp2_with fail
      refine (kindFault_any p hp _).mono ?_
      rintro e w1 ⟨rfl, rfl⟩
      rw [h1]
      go_wp2_with fail
      refine (kindFault_any i hi _).mono ?_
      rintro e w1 ⟨rfl, rfl⟩
      rw [h2]
      go_wp2_with fail
      refine (kindFault_any b hb _).mono ?_
      rintro e w1 ⟨rfl, rfl⟩
      go_wp2_with fail
      go_ret2
      exact ⟨by rw [HE.out, HV.out, HA.out]; rfl, rfl⟩
    · have HA : Hid (argErr p i b = kindErr i) := by show _ = _; unfold argErr; rw [if_pos h1, if_neg h2]
      have h3 : (kindErr i == 0) = false := by simpa using h2
      have h3' : (kindErr i != 0) = true := by simpa using h2
      clear h0 h2
      go_enter Tryd.func19, Tryd.ntmps19
      go_wp2_with fail
      refine (kindFault_any p hp _).mono ?_
      rintro e w1 ⟨rfl, rfl⟩
      rw [h1]
      clear h1
      go_wp2_with fail
      refine (kindFault_any i hi _).mono ?_
      rintro e w1 ⟨rfl, rfl⟩
      go_wp2_with fail
      go_ret2
      exact ⟨by rw [HE.out, HV.out, HA.out]; rfl, rfl⟩
  · have HA : Hid (argErr p i b = kindErr p) := by show _ = _; unfold argErr; rw [if_neg h1]
    have h3 : (kindErr p == 0) = false := by simpa using h1
    have h3' : (kindErr p != 0) = true := by simpa using h1
    clear h0 h1
    go_enter Tryd.func19, Tryd.ntmps19
    go_wp2_with fail
    refine (kindFault_any p hp _).mono ?_
    rintro e w1 ⟨rfl, rfl⟩
    go_wp2_with fail
    go_ret2
    exact ⟨by rw [HE.out, HV.out, HA.out]; rfl, rfl⟩

theorem matchOf_upto : ∀ (n : Nat) (p i b : ByteArray), p.size ≤ n → p.size ≤ maxLen → i.size ≤ maxLen → b.size ≤ maxLen → ∀ w : World,
    Calls Tryd.prog 19 #[.string p, .string i, .string b] w fun e w' => e = .returned (.tuple #[.string (matchVal p i b), .int .i64 (matchErr p i b)]) ∧ w = w' := by
  intro n
  induction n with
  | zero =>
    intro p i b hn hp hi hb w
    by_cases h0 : argErr p i b = 0
    · obtain ⟨h1, h2, h3⟩ := argErr_ok h0
      have l1 : isList p = false := by
        cases e : isList p with
        | false => rfl
        | true => have := isList_size e; omega
      cases hE : (b.toList == []) <;> cases l2 : isList i
      · exact matchOf_fff hp hi hb h0 h1 h2 hE l1 l2 w
      · exact matchOf_fft hp hi hb h0 h1 h2 hE l1 l2 w
      · exact matchOf_tff hp hi hb h0 h1 h2 hE l1 l2 w
      · exact matchOf_tft hp hi hb h0 h1 h2 hE l1 l2 w
    · exact matchOf_bad hp hi hb h0 w
  | succ n ih =>
    intro p i b hn hp hi hb w
    by_cases h0 : argErr p i b = 0
    · obtain ⟨h1, h2, h3⟩ := argErr_ok h0
      cases hE : (b.toList == []) <;> cases l1 : isList p <;> cases l2 : isList i
      · exact matchOf_fff hp hi hb h0 h1 h2 hE l1 l2 w
      · exact matchOf_fft hp hi hb h0 h1 h2 hE l1 l2 w
      · exact matchOf_ftf hp hi hb h0 h1 h2 hE l1 l2 w
      · have z1 := inner_size (isList_size l1)
        have z2 := inner_size (isList_size l2)
        have := isList_size l1
        exact matchOf_ftt hp hi hb h0 h1 h2 hE l1 l2 (fun w => ih _ _ _ (by omega) (by omega) (by omega) hb w) w
      · exact matchOf_tff hp hi hb h0 h1 h2 hE l1 l2 w
      · exact matchOf_tft hp hi hb h0 h1 h2 hE l1 l2 w
      · exact matchOf_ttf hp hi hb h0 h1 h2 hE l1 l2 w
      · have z1 := inner_size (isList_size l1)
        have z2 := inner_size (isList_size l2)
        have := isList_size l1
        exact matchOf_ttt hp hi hb h0 h1 h2 hE l1 l2 (fun w => ih _ _ _ (by omega) (by omega) (by omega) hb w) w
    · exact matchOf_bad hp hi hb h0 w

theorem matchOf_any (p i b : ByteArray) (hp : p.size ≤ maxLen) (hi : i.size ≤ maxLen) (hb : b.size ≤ maxLen) (w : World) :
    Calls Tryd.prog 19 #[.string p, .string i, .string b] w fun e w' => e = .returned (.tuple #[.string (matchVal p i b), .int .i64 (matchErr p i b)]) ∧ w = w' :=
  matchOf_upto p.size p i b (Nat.le_refl _) hp hi hb w

end Go.Proofs.YtpamadnckijfkadDoor
