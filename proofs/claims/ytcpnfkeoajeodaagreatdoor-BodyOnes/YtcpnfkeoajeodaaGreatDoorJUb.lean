/- What the reference's MatchOf answers: the same as unify.Match. -/
import Derived.Test.YtcpnfkeoajeodaaGreatDoorJUa
import Derived.Deep.RegionWith
namespace Go.Proofs.YtcpnfkeoajeodaaGreatDoor
open Go.RowKit
set_option maxRecDepth 100000

theorem bne_of {a b : List UInt8} {c : Bool} (h : (a == b) = c) : (a != b) = !c := by rw [bne, h]

set_option maxHeartbeats 1000000 in
theorem matchOf_ttt {p i b : ByteArray} (hp : p.size ≤ maxLen) (hi : i.size ≤ maxLen) (_hb : b.size ≤ maxLen) (h0 : argErr p i b = 0) (h1 : kindErr p = 0) (h2 : kindErr i = 0) (hE : (b.toList == []) = true) (l1 : isList p = true) (l2 : isList i = true)
    (IH : ∀ w : World, Calls Tryz.prog 63 #[.string (inner p), .string (inner i), .string b] w fun e w' => e = .returned (.tuple #[.string (matchVal (inner p) (inner i) b), .int .i64 (matchErr (inner p) (inner i) b)]) ∧ w = w') (w : World) :
    Calls Tryz.prog 63 #[.string p, .string i, .string b] w fun e w' => e = .returned (.tuple #[.string (matchVal p i b), .int .i64 (matchErr p i b)]) ∧ w = w' := by
  have hE' := bne_of hE
  have HM := veilK (matchErr_in h0 l1 l2)
  have HI := veilK IH
  clear IH
  clear h0
  go_enter Tryz.func63, Tryz.ntmps63
  go_wp2_with fail
  refine (kindFault_any p hp _).mono ?_
  rintro e w1 ⟨rfl, rfl⟩
  rw [h1]
  go_wp2_with fail
  refine (kindFault_any i hi _).mono ?_
  rintro e w1 ⟨rfl, rfl⟩
  rw [h2]
  go_wp2_with fail
  refine (elemOf_list hp l1 _).mono ?_
  rintro e w1 ⟨rfl, rfl⟩
  go_wp2_with fail
  refine (elemOf_list hi l2 _).mono ?_
  rintro e w1 ⟨rfl, rfl⟩
  go_wp2_with fail
  refine (HI.out _).mono ?_
  rintro e w1 ⟨rfl, rfl⟩
  rw [HM.out.1, HM.out.2]
  go_wp2_with fail
  go_ret2
  exact ⟨rfl, rfl⟩

set_option maxHeartbeats 1000000 in
theorem matchOf_ttf {p i b : ByteArray} (hp : p.size ≤ maxLen) (hi : i.size ≤ maxLen) (_hb : b.size ≤ maxLen) (h0 : argErr p i b = 0) (h1 : kindErr p = 0) (h2 : kindErr i = 0) (hE : (b.toList == []) = true) (l1 : isList p = true) (l2 : isList i = false) (w : World) :
    Calls Tryz.prog 63 #[.string p, .string i, .string b] w fun e w' => e = .returned (.tuple #[.string (matchVal p i b), .int .i64 (matchErr p i b)]) ∧ w = w' := by
  have hE' := bne_of hE
  have HU : Hid (unw p i = (p, i)) := unw_no (.inr l2)
  have HE : Hid (matchErr p i b = fitErr p i b) := by show _ = _; unfold matchErr; rw [if_pos h0, HU.out]
  have HV : Hid (matchVal p i b = if fitErr p i b = 0 then fitVal p i b else ⟨#[]⟩) := by show _ = _; unfold matchVal; rw [HE.out, HU.out]
  clear h0 HU
  cases q1 : (p.toList == [42]) with
  | true =>
    have HX : Hid (fitErr p i b = 0) := by show _ = _; unfold fitErr; rw [q1, hE]; rfl
    have HY : Hid (matchVal p i b = i) := by show _ = _; rw [HV.out, HX.out]; show fitVal p i b = _; unfold fitVal; rw [q1]; rfl
    go_enter Tryz.func63, Tryz.ntmps63
    go_wp2_with fail
    refine (kindFault_any p hp _).mono ?_
    rintro e w1 ⟨rfl, rfl⟩
    rw [h1]
    go_wp2_with fail
    refine (kindFault_any i hi _).mono ?_
    rintro e w1 ⟨rfl, rfl⟩
    rw [h2]
    go_wp2_with fail
    refine (elemOf_list hp l1 _).mono ?_
    rintro e w1 ⟨rfl, rfl⟩
    go_wp2_with fail
    refine (elemOf_none hi l2 _).mono ?_
    rintro e w1 ⟨rfl, rfl⟩
    go_wp2_with fail
    go_ret2
    exact ⟨by rw [HE.out, HX.out, HY.out]; rfl, rfl⟩
  | false =>
    cases q2 : (p.toList == i.toList) with
    | true =>
      have q2' := bne_of q2
      have HX : Hid (fitErr p i b = 0) := by show _ = _; unfold fitErr; rw [q1, q2]; rfl
      have HY : Hid (matchVal p i b = b) := by show _ = _; rw [HV.out, HX.out]; show fitVal p i b = _; unfold fitVal; rw [q1]; rfl
      go_enter Tryz.func63, Tryz.ntmps63
      go_wp2_with fail
      refine (kindFault_any p hp _).mono ?_
      rintro e w1 ⟨rfl, rfl⟩
      rw [h1]
      go_wp2_with fail
      refine (kindFault_any i hi _).mono ?_
      rintro e w1 ⟨rfl, rfl⟩
      rw [h2]
      go_wp2_with fail
      refine (elemOf_list hp l1 _).mono ?_
      rintro e w1 ⟨rfl, rfl⟩
      go_wp2_with fail
      refine (elemOf_none hi l2 _).mono ?_
      rintro e w1 ⟨rfl, rfl⟩
      go_wp2_with fail
      go_ret2
      exact ⟨by rw [HE.out, HX.out, HY.out]; rfl, rfl⟩
    | false =>
      have q2' := bne_of q2
      have HX : Hid (fitErr p i b = 8) := by show _ = _; unfold fitErr; rw [q1, q2]; rfl
      have HY : Hid (matchVal p i b = ⟨#[]⟩) := by show _ = _; rw [HV.out, HX.out]; rfl
      go_enter Tryz.func63, Tryz.ntmps63
      go_wp2_with fail
      refine (kindFault_any p hp _).mono ?_
      rintro e w1 ⟨rfl, rfl⟩
      rw [h1]
      go_wp2_with fail
      refine (kindFault_any i hi _).mono ?_
      rintro e w1 ⟨rfl, rfl⟩
      rw [h2]
      go_wp2_with fail
      refine (elemOf_list hp l1 _).mono ?_
      rintro e w1 ⟨rfl, rfl⟩
      go_wp2_with fail
      refine (elemOf_none hi l2 _).mono ?_
      rintro e w1 ⟨rfl, rfl⟩
      go_wp2_with fail
      go_ret2
      exact ⟨by rw [HE.out, HX.out, HY.out]; rfl, rfl⟩

set_option maxHeartbeats 1000000 in
theorem matchOf_tft {p i b : ByteArray} (hp : p.size ≤ maxLen) (hi : i.size ≤ maxLen) (_hb : b.size ≤ maxLen) (h0 : argErr p i b = 0) (h1 : kindErr p = 0) (h2 : kindErr i = 0) (hE : (b.toList == []) = true) (l1 : isList p = false) (l2 : isList i = true) (w : World) :
    Calls Tryz.prog 63 #[.string p, .string i, .string b] w fun e w' => e = .returned (.tuple #[.string (matchVal p i b), .int .i64 (matchErr p i b)]) ∧ w = w' := by
  have hE' := bne_of hE
  have HU : Hid (unw p i = (p, i)) := unw_no (.inl l1)
  have HE : Hid (matchErr p i b = fitErr p i b) := by show _ = _; unfold matchErr; rw [if_pos h0, HU.out]
  have HV : Hid (matchVal p i b = if fitErr p i b = 0 then fitVal p i b else ⟨#[]⟩) := by show _ = _; unfold matchVal; rw [HE.out, HU.out]
  clear h0 HU
  cases q1 : (p.toList == [42]) with
  | true =>
    have HX : Hid (fitErr p i b = 0) := by show _ = _; unfold fitErr; rw [q1, hE]; rfl
    have HY : Hid (matchVal p i b = i) := by show _ = _; rw [HV.out, HX.out]; show fitVal p i b = _; unfold fitVal; rw [q1]; rfl
    go_enter Tryz.func63, Tryz.ntmps63
    go_wp2_with fail
    refine (kindFault_any p hp _).mono ?_
    rintro e w1 ⟨rfl, rfl⟩
    rw [h1]
    go_wp2_with fail
    refine (kindFault_any i hi _).mono ?_
    rintro e w1 ⟨rfl, rfl⟩
    rw [h2]
    go_wp2_with fail
    refine (elemOf_none hp l1 _).mono ?_
    rintro e w1 ⟨rfl, rfl⟩
    go_wp2_with fail
    refine (elemOf_list hi l2 _).mono ?_
    rintro e w1 ⟨rfl, rfl⟩
    go_wp2_with fail
    go_ret2
    exact ⟨by rw [HE.out, HX.out, HY.out]; rfl, rfl⟩
  | false =>
    cases q2 : (p.toList == i.toList) with
    | true =>
      have q2' := bne_of q2
      have HX : Hid (fitErr p i b = 0) := by show _ = _; unfold fitErr; rw [q1, q2]; rfl
      have HY : Hid (matchVal p i b = b) := by show _ = _; rw [HV.out, HX.out]; show fitVal p i b = _; unfold fitVal; rw [q1]; rfl
      go_enter Tryz.func63, Tryz.ntmps63
      go_wp2_with fail
      refine (kindFault_any p hp _).mono ?_
      rintro e w1 ⟨rfl, rfl⟩
      rw [h1]
      go_wp2_with fail
      refine (kindFault_any i hi _).mono ?_
      rintro e w1 ⟨rfl, rfl⟩
      rw [h2]
      go_wp2_with fail
      refine (elemOf_none hp l1 _).mono ?_
      rintro e w1 ⟨rfl, rfl⟩
      go_wp2_with fail
      refine (elemOf_list hi l2 _).mono ?_
      rintro e w1 ⟨rfl, rfl⟩
      go_wp2_with fail
      go_ret2
      exact ⟨by rw [HE.out, HX.out, HY.out]; rfl, rfl⟩
    | false =>
      have q2' := bne_of q2
      have HX : Hid (fitErr p i b = 8) := by show _ = _; unfold fitErr; rw [q1, q2]; rfl
      have HY : Hid (matchVal p i b = ⟨#[]⟩) := by show _ = _; rw [HV.out, HX.out]; rfl
      go_enter Tryz.func63, Tryz.ntmps63
      go_wp2_with fail
      refine (kindFault_any p hp _).mono ?_
      rintro e w1 ⟨rfl, rfl⟩
      rw [h1]
      go_wp2_with fail
      refine (kindFault_any i hi _).mono ?_
      rintro e w1 ⟨rfl, rfl⟩
      rw [h2]
      go_wp2_with fail
      refine (elemOf_none hp l1 _).mono ?_
      rintro e w1 ⟨rfl, rfl⟩
      go_wp2_with fail
      refine (elemOf_list hi l2 _).mono ?_
      rintro e w1 ⟨rfl, rfl⟩
      go_wp2_with fail
      go_ret2
      exact ⟨by rw [HE.out, HX.out, HY.out]; rfl, rfl⟩

set_option maxHeartbeats 1000000 in
theorem matchOf_tff {p i b : ByteArray} (hp : p.size ≤ maxLen) (hi : i.size ≤ maxLen) (_hb : b.size ≤ maxLen) (h0 : argErr p i b = 0) (h1 : kindErr p = 0) (h2 : kindErr i = 0) (hE : (b.toList == []) = true) (l1 : isList p = false) (l2 : isList i = false) (w : World) :
    Calls Tryz.prog 63 #[.string p, .string i, .string b] w fun e w' => e = .returned (.tuple #[.string (matchVal p i b), .int .i64 (matchErr p i b)]) ∧ w = w' := by
  have hE' := bne_of hE
  have HU : Hid (unw p i = (p, i)) := unw_no (.inl l1)
  have HE : Hid (matchErr p i b = fitErr p i b) := by show _ = _; unfold matchErr; rw [if_pos h0, HU.out]
  have HV : Hid (matchVal p i b = if fitErr p i b = 0 then fitVal p i b else ⟨#[]⟩) := by show _ = _; unfold matchVal; rw [HE.out, HU.out]
  clear h0 HU
  cases q1 : (p.toList == [42]) with
  | true =>
    have HX : Hid (fitErr p i b = 0) := by show _ = _; unfold fitErr; rw [q1, hE]; rfl
    have HY : Hid (matchVal p i b = i) := by show _ = _; rw [HV.out, HX.out]; show fitVal p i b = _; unfold fitVal; rw [q1]; rfl
    go_enter Tryz.func63, Tryz.ntmps63
    go_wp2_with fail
    refine (kindFault_any p hp _).mono ?_
    rintro e w1 ⟨rfl, rfl⟩
    rw [h1]
    go_wp2_with fail
    refine (kindFault_any i hi _).mono ?_
    rintro e w1 ⟨rfl, rfl⟩
    rw [h2]
    go_wp2_with fail
    refine (elemOf_none hp l1 _).mono ?_
    rintro e w1 ⟨rfl, rfl⟩
    go_wp2_with fail
    refine (elemOf_none hi l2 _).mono ?_
    rintro e w1 ⟨rfl, rfl⟩
    go_wp2_with fail
    go_ret2
    exact ⟨by rw [HE.out, HX.out, HY.out]; rfl, rfl⟩
  | false =>
    cases q2 : (p.toList == i.toList) with
    | true =>
      have q2' := bne_of q2
      have HX : Hid (fitErr p i b = 0) := by show _ = _; unfold fitErr; rw [q1, q2]; rfl
      have HY : Hid (matchVal p i b = b) := by show _ = _; rw [HV.out, HX.out]; show fitVal p i b = _; unfold fitVal; rw [q1]; rfl
      go_enter Tryz.func63, Tryz.ntmps63
      go_wp2_with fail
      refine (kindFault_any p hp _).mono ?_
      rintro e w1 ⟨rfl, rfl⟩
      rw [h1]
      go_wp2_with fail
      refine (kindFault_any i hi _).mono ?_
      rintro e w1 ⟨rfl, rfl⟩
      rw [h2]
      go_wp2_with fail
      refine (elemOf_none hp l1 _).mono ?_
      rintro e w1 ⟨rfl, rfl⟩
      go_wp2_with fail
      refine (elemOf_none hi l2 _).mono ?_
      rintro e w1 ⟨rfl, rfl⟩
      go_wp2_with fail
      go_ret2
      exact ⟨by rw [HE.out, HX.out, HY.out]; rfl, rfl⟩
    | false =>
      have q2' := bne_of q2
      have HX : Hid (fitErr p i b = 8) := by show _ = _; unfold fitErr; rw [q1, q2]; rfl
      have HY : Hid (matchVal p i b = ⟨#[]⟩) := by show _ = _; rw [HV.out, HX.out]; rfl
      go_enter Tryz.func63, Tryz.ntmps63
      go_wp2_with fail
      refine (kindFault_any p hp _).mono ?_
      rintro e w1 ⟨rfl, rfl⟩
      rw [h1]
      go_wp2_with fail
      refine (kindFault_any i hi _).mono ?_
      rintro e w1 ⟨rfl, rfl⟩
      rw [h2]
      go_wp2_with fail
      refine (elemOf_none hp l1 _).mono ?_
      rintro e w1 ⟨rfl, rfl⟩
      go_wp2_with fail
      refine (elemOf_none hi l2 _).mono ?_
      rintro e w1 ⟨rfl, rfl⟩
      go_wp2_with fail
      go_ret2
      exact ⟨by rw [HE.out, HX.out, HY.out]; rfl, rfl⟩

set_option maxHeartbeats 1000000 in
theorem matchOf_ftt {p i b : ByteArray} (hp : p.size ≤ maxLen) (hi : i.size ≤ maxLen) (hb : b.size ≤ maxLen) (h0 : argErr p i b = 0) (h1 : kindErr p = 0) (h2 : kindErr i = 0) (hE : (b.toList == []) = false) (l1 : isList p = true) (l2 : isList i = true)
    (IH : ∀ w : World, Calls Tryz.prog 63 #[.string (inner p), .string (inner i), .string b] w fun e w' => e = .returned (.tuple #[.string (matchVal (inner p) (inner i) b), .int .i64 (matchErr (inner p) (inner i) b)]) ∧ w = w') (w : World) :
    Calls Tryz.prog 63 #[.string p, .string i, .string b] w fun e w' => e = .returned (.tuple #[.string (matchVal p i b), .int .i64 (matchErr p i b)]) ∧ w = w' := by
  have hE' := bne_of hE
  have h3 : kindErr b = 0 := by
    rcases (argErr_ok h0).2.2 with h | h
    · rw [hE] at h; cases h
    · exact h
  have HM := veilK (matchErr_in h0 l1 l2)
  have HI := veilK IH
  clear IH
  clear h0
  go_enter Tryz.func63, Tryz.ntmps63
  go_wp2_with fail
  refine (kindFault_any p hp _).mono ?_
  rintro e w1 ⟨rfl, rfl⟩
  rw [h1]
  go_wp2_with fail
  refine (kindFault_any i hi _).mono ?_
  rintro e w1 ⟨rfl, rfl⟩
  rw [h2]
  go_wp2_with fail
  refine (kindFault_any b hb _).mono ?_
  rintro e w1 ⟨rfl, rfl⟩
  rw [h3]
  go_wp2_with fail
  refine (elemOf_list hp l1 _).mono ?_
  rintro e w1 ⟨rfl, rfl⟩
  go_wp2_with fail
  refine (elemOf_list hi l2 _).mono ?_
  rintro e w1 ⟨rfl, rfl⟩
  go_wp2_with fail
  refine (HI.out _).mono ?_
  rintro e w1 ⟨rfl, rfl⟩
  rw [HM.out.1, HM.out.2]
  go_wp2_with fail
  go_ret2
  exact ⟨rfl, rfl⟩

set_option maxHeartbeats 1000000 in
theorem matchOf_ftf {p i b : ByteArray} (hp : p.size ≤ maxLen) (hi : i.size ≤ maxLen) (hb : b.size ≤ maxLen) (h0 : argErr p i b = 0) (h1 : kindErr p = 0) (h2 : kindErr i = 0) (hE : (b.toList == []) = false) (l1 : isList p = true) (l2 : isList i = false) (w : World) :
    Calls Tryz.prog 63 #[.string p, .string i, .string b] w fun e w' => e = .returned (.tuple #[.string (matchVal p i b), .int .i64 (matchErr p i b)]) ∧ w = w' := by
  have hE' := bne_of hE
  have h3 : kindErr b = 0 := by
    rcases (argErr_ok h0).2.2 with h | h
    · rw [hE] at h; cases h
    · exact h
  have HU : Hid (unw p i = (p, i)) := unw_no (.inr l2)
  have HE : Hid (matchErr p i b = fitErr p i b) := by show _ = _; unfold matchErr; rw [if_pos h0, HU.out]
  have HV : Hid (matchVal p i b = if fitErr p i b = 0 then fitVal p i b else ⟨#[]⟩) := by show _ = _; unfold matchVal; rw [HE.out, HU.out]
  clear h0 HU
  cases q1 : (p.toList == [42]) with
  | true =>
    cases q2 : (b.toList == i.toList) with
    | true =>
      have q2' := bne_of q2
      have HX : Hid (fitErr p i b = 0) := by show _ = _; unfold fitErr; rw [q1, hE, q2]; rfl
      have HY : Hid (matchVal p i b = i) := by show _ = _; rw [HV.out, HX.out]; show fitVal p i b = _; unfold fitVal; rw [q1]; rfl
      go_enter Tryz.func63, Tryz.ntmps63
      go_wp2_with fail
      refine (kindFault_any p hp _).mono ?_
      rintro e w1 ⟨rfl, rfl⟩
      rw [h1]
      go_wp2_with fail
      refine (kindFault_any i hi _).mono ?_
      rintro e w1 ⟨rfl, rfl⟩
      rw [h2]
      go_wp2_with fail
      refine (kindFault_any b hb _).mono ?_
      rintro e w1 ⟨rfl, rfl⟩
      rw [h3]
      go_wp2_with fail
      refine (elemOf_list hp l1 _).mono ?_
      rintro e w1 ⟨rfl, rfl⟩
      go_wp2_with fail
      refine (elemOf_none hi l2 _).mono ?_
      rintro e w1 ⟨rfl, rfl⟩
      go_wp2_with fail
      go_ret2
      exact ⟨by rw [HE.out, HX.out, HY.out]; rfl, rfl⟩
    | false =>
      have q2' := bne_of q2
      have HX : Hid (fitErr p i b = 8) := by show _ = _; unfold fitErr; rw [q1, hE, q2]; rfl
      have HY : Hid (matchVal p i b = ⟨#[]⟩) := by show _ = _; rw [HV.out, HX.out]; rfl
      go_enter Tryz.func63, Tryz.ntmps63
      go_wp2_with fail
      refine (kindFault_any p hp _).mono ?_
      rintro e w1 ⟨rfl, rfl⟩
      rw [h1]
      go_wp2_with fail
      refine (kindFault_any i hi _).mono ?_
      rintro e w1 ⟨rfl, rfl⟩
      rw [h2]
      go_wp2_with fail
      refine (kindFault_any b hb _).mono ?_
      rintro e w1 ⟨rfl, rfl⟩
      rw [h3]
      go_wp2_with fail
      refine (elemOf_list hp l1 _).mono ?_
      rintro e w1 ⟨rfl, rfl⟩
      go_wp2_with fail
      refine (elemOf_none hi l2 _).mono ?_
      rintro e w1 ⟨rfl, rfl⟩
      go_wp2_with fail
      go_ret2
      exact ⟨by rw [HE.out, HX.out, HY.out]; rfl, rfl⟩
  | false =>
    cases q2 : (p.toList == i.toList) with
    | true =>
      have q2' := bne_of q2
      have HX : Hid (fitErr p i b = 0) := by show _ = _; unfold fitErr; rw [q1, q2]; rfl
      have HY : Hid (matchVal p i b = b) := by show _ = _; rw [HV.out, HX.out]; show fitVal p i b = _; unfold fitVal; rw [q1]; rfl
      go_enter Tryz.func63, Tryz.ntmps63
      go_wp2_with fail
      refine (kindFault_any p hp _).mono ?_
      rintro e w1 ⟨rfl, rfl⟩
      rw [h1]
      go_wp2_with fail
      refine (kindFault_any i hi _).mono ?_
      rintro e w1 ⟨rfl, rfl⟩
      rw [h2]
      go_wp2_with fail
      refine (kindFault_any b hb _).mono ?_
      rintro e w1 ⟨rfl, rfl⟩
      rw [h3]
      go_wp2_with fail
      refine (elemOf_list hp l1 _).mono ?_
      rintro e w1 ⟨rfl, rfl⟩
      go_wp2_with fail
      refine (elemOf_none hi l2 _).mono ?_
      rintro e w1 ⟨rfl, rfl⟩
      go_wp2_with fail
      go_ret2
      exact ⟨by rw [HE.out, HX.out, HY.out]; rfl, rfl⟩
    | false =>
      have q2' := bne_of q2
      have HX : Hid (fitErr p i b = 8) := by show _ = _; unfold fitErr; rw [q1, q2]; rfl
      have HY : Hid (matchVal p i b = ⟨#[]⟩) := by show _ = _; rw [HV.out, HX.out]; rfl
      go_enter Tryz.func63, Tryz.ntmps63
      go_wp2_with fail
      refine (kindFault_any p hp _).mono ?_
      rintro e w1 ⟨rfl, rfl⟩
      rw [h1]
      go_wp2_with fail
      refine (kindFault_any i hi _).mono ?_
      rintro e w1 ⟨rfl, rfl⟩
      rw [h2]
      go_wp2_with fail
      refine (kindFault_any b hb _).mono ?_
      rintro e w1 ⟨rfl, rfl⟩
      rw [h3]
      go_wp2_with fail
      refine (elemOf_list hp l1 _).mono ?_
      rintro e w1 ⟨rfl, rfl⟩
      go_wp2_with fail
      refine (elemOf_none hi l2 _).mono ?_
      rintro e w1 ⟨rfl, rfl⟩
      go_wp2_with fail
      go_ret2
      exact ⟨by rw [HE.out, HX.out, HY.out]; rfl, rfl⟩

set_option maxHeartbeats 1000000 in
theorem matchOf_fft {p i b : ByteArray} (hp : p.size ≤ maxLen) (hi : i.size ≤ maxLen) (hb : b.size ≤ maxLen) (h0 : argErr p i b = 0) (h1 : kindErr p = 0) (h2 : kindErr i = 0) (hE : (b.toList == []) = false) (l1 : isList p = false) (l2 : isList i = true) (w : World) :
    Calls Tryz.prog 63 #[.string p, .string i, .string b] w fun e w' => e = .returned (.tuple #[.string (matchVal p i b), .int .i64 (matchErr p i b)]) ∧ w = w' := by
  have hE' := bne_of hE
  have h3 : kindErr b = 0 := by
    rcases (argErr_ok h0).2.2 with h | h
    · rw [hE] at h; cases h
    · exact h
  have HU : Hid (unw p i = (p, i)) := unw_no (.inl l1)
  have HE : Hid (matchErr p i b = fitErr p i b) := by show _ = _; unfold matchErr; rw [if_pos h0, HU.out]
  have HV : Hid (matchVal p i b = if fitErr p i b = 0 then fitVal p i b else ⟨#[]⟩) := by show _ = _; unfold matchVal; rw [HE.out, HU.out]
  clear h0 HU
  cases q1 : (p.toList == [42]) with
  | true =>
    cases q2 : (b.toList == i.toList) with
    | true =>
      have q2' := bne_of q2
      have HX : Hid (fitErr p i b = 0) := by show _ = _; unfold fitErr; rw [q1, hE, q2]; rfl
      have HY : Hid (matchVal p i b = i) := by show _ = _; rw [HV.out, HX.out]; show fitVal p i b = _; unfold fitVal; rw [q1]; rfl
      go_enter Tryz.func63, Tryz.ntmps63
      go_wp2_with fail
      refine (kindFault_any p hp _).mono ?_
      rintro e w1 ⟨rfl, rfl⟩
      rw [h1]
      go_wp2_with fail
      refine (kindFault_any i hi _).mono ?_
      rintro e w1 ⟨rfl, rfl⟩
      rw [h2]
      go_wp2_with fail
      refine (kindFault_any b hb _).mono ?_
      rintro e w1 ⟨rfl, rfl⟩
      rw [h3]
      go_wp2_with fail
      refine (elemOf_none hp l1 _).mono ?_
      rintro e w1 ⟨rfl, rfl⟩
      go_wp2_with fail
      refine (elemOf_list hi l2 _).mono ?_
      rintro e w1 ⟨rfl, rfl⟩
      go_wp2_with fail
      go_ret2
      exact ⟨by rw [HE.out, HX.out, HY.out]; rfl, rfl⟩
    | false =>
      have q2' := bne_of q2
      have HX : Hid (fitErr p i b = 8) := by show _ = _; unfold fitErr; rw [q1, hE, q2]; rfl
      have HY : Hid (matchVal p i b = ⟨#[]⟩) := by show _ = _; rw [HV.out, HX.out]; rfl
      go_enter Tryz.func63, Tryz.ntmps63
      go_wp2_with fail
      refine (kindFault_any p hp _).mono ?_
      rintro e w1 ⟨rfl, rfl⟩
      rw [h1]
      go_wp2_with fail
      refine (kindFault_any i hi _).mono ?_
      rintro e w1 ⟨rfl, rfl⟩
      rw [h2]
      go_wp2_with fail
      refine (kindFault_any b hb _).mono ?_
      rintro e w1 ⟨rfl, rfl⟩
      rw [h3]
      go_wp2_with fail
      refine (elemOf_none hp l1 _).mono ?_
      rintro e w1 ⟨rfl, rfl⟩
      go_wp2_with fail
      refine (elemOf_list hi l2 _).mono ?_
      rintro e w1 ⟨rfl, rfl⟩
      go_wp2_with fail
      go_ret2
      exact ⟨by rw [HE.out, HX.out, HY.out]; rfl, rfl⟩
  | false =>
    cases q2 : (p.toList == i.toList) with
    | true =>
      have q2' := bne_of q2
      have HX : Hid (fitErr p i b = 0) := by show _ = _; unfold fitErr; rw [q1, q2]; rfl
      have HY : Hid (matchVal p i b = b) := by show _ = _; rw [HV.out, HX.out]; show fitVal p i b = _; unfold fitVal; rw [q1]; rfl
      go_enter Tryz.func63, Tryz.ntmps63
      go_wp2_with fail
      refine (kindFault_any p hp _).mono ?_
      rintro e w1 ⟨rfl, rfl⟩
      rw [h1]
      go_wp2_with fail
      refine (kindFault_any i hi _).mono ?_
      rintro e w1 ⟨rfl, rfl⟩
      rw [h2]
      go_wp2_with fail
      refine (kindFault_any b hb _).mono ?_
      rintro e w1 ⟨rfl, rfl⟩
      rw [h3]
      go_wp2_with fail
      refine (elemOf_none hp l1 _).mono ?_
      rintro e w1 ⟨rfl, rfl⟩
      go_wp2_with fail
      refine (elemOf_list hi l2 _).mono ?_
      rintro e w1 ⟨rfl, rfl⟩
      go_wp2_with fail
      go_ret2
      exact ⟨by rw [HE.out, HX.out, HY.out]; rfl, rfl⟩
    | false =>
      have q2' := bne_of q2
      have HX : Hid (fitErr p i b = 8) := by show _ = _; unfold fitErr; rw [q1, q2]; rfl
      have HY : Hid (matchVal p i b = ⟨#[]⟩) := by show _ = _; rw [HV.out, HX.out]; rfl
      go_enter Tryz.func63, Tryz.ntmps63
      go_wp2_with fail
      refine (kindFault_any p hp _).mono ?_
      rintro e w1 ⟨rfl, rfl⟩
      rw [h1]
      go_wp2_with fail
      refine (kindFault_any i hi _).mono ?_
      rintro e w1 ⟨rfl, rfl⟩
      rw [h2]
      go_wp2_with fail
      refine (kindFault_any b hb _).mono ?_
      rintro e w1 ⟨rfl, rfl⟩
      rw [h3]
      go_wp2_with fail
      refine (elemOf_none hp l1 _).mono ?_
      rintro e w1 ⟨rfl, rfl⟩
      go_wp2_with fail
      refine (elemOf_list hi l2 _).mono ?_
      rintro e w1 ⟨rfl, rfl⟩
      go_wp2_with fail
      go_ret2
      exact ⟨by rw [HE.out, HX.out, HY.out]; rfl, rfl⟩

set_option maxHeartbeats 1000000 in
theorem matchOf_fff {p i b : ByteArray} (hp : p.size ≤ maxLen) (hi : i.size ≤ maxLen) (hb : b.size ≤ maxLen) (h0 : argErr p i b = 0) (h1 : kindErr p = 0) (h2 : kindErr i = 0) (hE : (b.toList == []) = false) (l1 : isList p = false) (l2 : isList i = false) (w : World) :
    Calls Tryz.prog 63 #[.string p, .string i, .string b] w fun e w' => e = .returned (.tuple #[.string (matchVal p i b), .int .i64 (matchErr p i b)]) ∧ w = w' := by
  have hE' := bne_of hE
  have h3 : kindErr b = 0 := by
    rcases (argErr_ok h0).2.2 with h | h
    · rw [hE] at h; cases h
    · exact h
  have HU : Hid (unw p i = (p, i)) := unw_no (.inl l1)
  have HE : Hid (matchErr p i b = fitErr p i b) := by show _ = _; unfold matchErr; rw [if_pos h0, HU.out]
  have HV : Hid (matchVal p i b = if fitErr p i b = 0 then fitVal p i b else ⟨#[]⟩) := by show _ = _; unfold matchVal; rw [HE.out, HU.out]
  clear h0 HU
  cases q1 : (p.toList == [42]) with
  | true =>
    cases q2 : (b.toList == i.toList) with
    | true =>
      have q2' := bne_of q2
      have HX : Hid (fitErr p i b = 0) := by show _ = _; unfold fitErr; rw [q1, hE, q2]; rfl
      have HY : Hid (matchVal p i b = i) := by show _ = _; rw [HV.out, HX.out]; show fitVal p i b = _; unfold fitVal; rw [q1]; rfl
      go_enter Tryz.func63, Tryz.ntmps63
      go_wp2_with fail
      refine (kindFault_any p hp _).mono ?_
      rintro e w1 ⟨rfl, rfl⟩
      rw [h1]
      go_wp2_with fail
      refine (kindFault_any i hi _).mono ?_
      rintro e w1 ⟨rfl, rfl⟩
      rw [h2]
      go_wp2_with fail
      refine (kindFault_any b hb _).mono ?_
      rintro e w1 ⟨rfl, rfl⟩
      rw [h3]
      go_wp2_with fail
      refine (elemOf_none hp l1 _).mono ?_
      rintro e w1 ⟨rfl, rfl⟩
      go_wp2_with fail
      refine (elemOf_none hi l2 _).mono ?_
      rintro e w1 ⟨rfl, rfl⟩
      go_wp2_with fail
      go_ret2
      exact ⟨by rw [HE.out, HX.out, HY.out]; rfl, rfl⟩
    | false =>
      have q2' := bne_of q2
      have HX : Hid (fitErr p i b = 8) := by show _ = _; unfold fitErr; rw [q1, hE, q2]; rfl
      have HY : Hid (matchVal p i b = ⟨#[]⟩) := by show _ = _; rw [HV.out, HX.out]; rfl
      go_enter Tryz.func63, Tryz.ntmps63
      go_wp2_with fail
      refine (kindFault_any p hp _).mono ?_
      rintro e w1 ⟨rfl, rfl⟩
      rw [h1]
      go_wp2_with fail
      refine (kindFault_any i hi _).mono ?_
      rintro e w1 ⟨rfl, rfl⟩
      rw [h2]
      go_wp2_with fail
      refine (kindFault_any b hb _).mono ?_
      rintro e w1 ⟨rfl, rfl⟩
      rw [h3]
      go_wp2_with fail
      refine (elemOf_none hp l1 _).mono ?_
      rintro e w1 ⟨rfl, rfl⟩
      go_wp2_with fail
      refine (elemOf_none hi l2 _).mono ?_
      rintro e w1 ⟨rfl, rfl⟩
      go_wp2_with fail
      go_ret2
      exact ⟨by rw [HE.out, HX.out, HY.out]; rfl, rfl⟩
  | false =>
    cases q2 : (p.toList == i.toList) with
    | true =>
      have q2' := bne_of q2
      have HX : Hid (fitErr p i b = 0) := by show _ = _; unfold fitErr; rw [q1, q2]; rfl
      have HY : Hid (matchVal p i b = b) := by show _ = _; rw [HV.out, HX.out]; show fitVal p i b = _; unfold fitVal; rw [q1]; rfl
      go_enter Tryz.func63, Tryz.ntmps63
      go_wp2_with fail
      refine (kindFault_any p hp _).mono ?_
      rintro e w1 ⟨rfl, rfl⟩
      rw [h1]
      go_wp2_with fail
      refine (kindFault_any i hi _).mono ?_
      rintro e w1 ⟨rfl, rfl⟩
      rw [h2]
      go_wp2_with fail
      refine (kindFault_any b hb _).mono ?_
      rintro e w1 ⟨rfl, rfl⟩
      rw [h3]
      go_wp2_with fail
      refine (elemOf_none hp l1 _).mono ?_
      rintro e w1 ⟨rfl, rfl⟩
      go_wp2_with fail
      refine (elemOf_none hi l2 _).mono ?_
      rintro e w1 ⟨rfl, rfl⟩
      go_wp2_with fail
      go_ret2
      exact ⟨by rw [HE.out, HX.out, HY.out]; rfl, rfl⟩
    | false =>
      have q2' := bne_of q2
      have HX : Hid (fitErr p i b = 8) := by show _ = _; unfold fitErr; rw [q1, q2]; rfl
      have HY : Hid (matchVal p i b = ⟨#[]⟩) := by show _ = _; rw [HV.out, HX.out]; rfl
      go_enter Tryz.func63, Tryz.ntmps63
      go_wp2_with fail
      refine (kindFault_any p hp _).mono ?_
      rintro e w1 ⟨rfl, rfl⟩
      rw [h1]
      go_wp2_with fail
      refine (kindFault_any i hi _).mono ?_
      rintro e w1 ⟨rfl, rfl⟩
      rw [h2]
      go_wp2_with fail
      refine (kindFault_any b hb _).mono ?_
      rintro e w1 ⟨rfl, rfl⟩
      rw [h3]
      go_wp2_with fail
      refine (elemOf_none hp l1 _).mono ?_
      rintro e w1 ⟨rfl, rfl⟩
      go_wp2_with fail
      refine (elemOf_none hi l2 _).mono ?_
      rintro e w1 ⟨rfl, rfl⟩
      go_wp2_with fail
      go_ret2
      exact ⟨by rw [HE.out, HX.out, HY.out]; rfl, rfl⟩

set_option maxHeartbeats 1000000 in
theorem matchOf_bad {p i b : ByteArray} (hp : p.size ≤ maxLen) (hi : i.size ≤ maxLen) (hb : b.size ≤ maxLen) (h0 : argErr p i b ≠ 0) (w : World) :
    Calls Tryz.prog 63 #[.string p, .string i, .string b] w fun e w' => e = .returned (.tuple #[.string (matchVal p i b), .int .i64 (matchErr p i b)]) ∧ w = w' := by
  have HE : Hid (matchErr p i b = argErr p i b) := by show _ = _; unfold matchErr; rw [if_neg h0]
  have HV : Hid (matchVal p i b = ⟨#[]⟩) := by show _ = _; unfold matchVal matchErr; rw [if_neg h0, if_neg h0]
  by_cases h1 : kindErr p = 0
  · by_cases h2 : kindErr i = 0
    · have hE : (b.toList == []) = false := by
        cases e : (b.toList == []) with
        | false => rfl
        | true => exact absurd (by unfold argErr; rw [if_pos h1, if_pos h2, e]; rfl) h0
      have hE' := bne_of hE
      have HA : Hid (argErr p i b = kindErr b) := by show _ = _; unfold argErr; rw [if_pos h1, if_pos h2, hE]; rfl
      have h3 : (kindErr b != 0) = true := by rw [HA.out] at h0; simpa using h0
      clear h0
      go_enter Tryz.func63, Tryz.ntmps63
      go_wp2_with fail
      refine (kindFault_any p hp _).mono ?_
      rintro e w1 ⟨rfl, rfl⟩
      rw [h1]
      go_wp2_with fail
      refine (kindFault_any i hi _).mono ?_
      rintro e w1 ⟨rfl, rfl⟩
      rw [h2]
      go_wp2_with fail
      refine (kindFault_any b hb _).mono ?_
      rintro e w1 ⟨rfl, rfl⟩
      go_wp2_with fail
      go_ret2
      exact ⟨by rw [HE.out, HV.out, HA.out]; rfl, rfl⟩
    · have HA : Hid (argErr p i b = kindErr i) := by show _ = _; unfold argErr; rw [if_pos h1, if_neg h2]
      have h3 : (kindErr i == 0) = false := by simpa using h2
      have h3' : (kindErr i != 0) = true := by simpa using h2
      clear h0 h2
      go_enter Tryz.func63, Tryz.ntmps63
      go_wp2_with fail
      refine (kindFault_any p hp _).mono ?_
      rintro e w1 ⟨rfl, rfl⟩
      rw [h1]
      clear h1
      go_wp2_with fail
      refine (kindFault_any i hi _).mono ?_
      rintro e w1 ⟨rfl, rfl⟩
      go_wp2_with fail
      go_ret2
      exact ⟨by rw [HE.out, HV.out, HA.out]; rfl, rfl⟩
  · have HA : Hid (argErr p i b = kindErr p) := by show _ = _; unfold argErr; rw [if_neg h1]
    have h3 : (kindErr p == 0) = false := by simpa using h1
    have h3' : (kindErr p != 0) = true := by simpa using h1
    clear h0 h1
    go_enter Tryz.func63, Tryz.ntmps63
    go_wp2_with fail
    refine (kindFault_any p hp _).mono ?_
    rintro e w1 ⟨rfl, rfl⟩
    go_wp2_with fail
    go_ret2
    exact ⟨by rw [HE.out, HV.out, HA.out]; rfl, rfl⟩

theorem matchOf_upto : ∀ (n : Nat) (p i b : ByteArray), p.size ≤ n → p.size ≤ maxLen → i.size ≤ maxLen → b.size ≤ maxLen → ∀ w : World,
    Calls Tryz.prog 63 #[.string p, .string i, .string b] w fun e w' => e = .returned (.tuple #[.string (matchVal p i b), .int .i64 (matchErr p i b)]) ∧ w = w' := by
  intro n
  induction n with
  | zero =>
    intro p i b hn hp hi hb w
    by_cases h0 : argErr p i b = 0
    · obtain ⟨h1, h2, h3⟩ := argErr_ok h0
      have l1 : isList p = false := by
        cases e : isList p with
        | false => rfl
        | true => have := isList_size e; omega
      cases hE : (b.toList == []) <;> cases l2 : isList i
      · exact matchOf_fff hp hi hb h0 h1 h2 hE l1 l2 w
      · exact matchOf_fft hp hi hb h0 h1 h2 hE l1 l2 w
      · exact matchOf_tff hp hi hb h0 h1 h2 hE l1 l2 w
      · exact matchOf_tft hp hi hb h0 h1 h2 hE l1 l2 w
    · exact matchOf_bad hp hi hb h0 w
  | succ n ih =>
    intro p i b hn hp hi hb w
    by_cases h0 : argErr p i b = 0
    · obtain ⟨h1, h2, h3⟩ := argErr_ok h0
      cases hE : (b.toList == []) <;> cases l1 : isList p <;> cases l2 : isList i
      · exact matchOf_fff hp hi hb h0 h1 h2 hE l1 l2 w
      · exact matchOf_fft hp hi hb h0 h1 h2 hE l1 l2 w
      · exact matchOf_ftf hp hi hb h0 h1 h2 hE l1 l2 w
      · have z1 := inner_size (isList_size l1)
        have z2 := inner_size (isList_size l2)
        have := isList_size l1
        exact matchOf_ftt hp hi hb h0 h1 h2 hE l1 l2 (fun w => ih _ _ _ (by omega) (by omega) (by omega) hb w) w
      · exact matchOf_tff hp hi hb h0 h1 h2 hE l1 l2 w
      · exact matchOf_tft hp hi hb h0 h1 h2 hE l1 l2 w
      · exact matchOf_ttf hp hi hb h0 h1 h2 hE l1 l2 w
      · have z1 := inner_size (isList_size l1)
        have z2 := inner_size (isList_size l2)
        have := isList_size l1
        exact matchOf_ttt hp hi hb h0 h1 h2 hE l1 l2 (fun w => ih _ _ _ (by omega) (by omega) (by omega) hb w) w
    · exact matchOf_bad hp hi hb h0 w

theorem matchOf_any (p i b : ByteArray) (hp : p.size ≤ maxLen) (hi : i.size ≤ maxLen) (hb : b.size ≤ maxLen) (w : World) :
    Calls Tryz.prog 63 #[.string p, .string i, .string b] w fun e w' => e = .returned (.tuple #[.string (matchVal p i b), .int .i64 (matchErr p i b)]) ∧ w = w' :=
  matchOf_upto p.size p i b (Nat.le_refl _) hp hi hb w

end Go.Proofs.YtcpnfkeoajeodaaGreatDoor

/- What the reference's PutOf answers: the same as unify.Put. -/
namespace Go.Proofs.YtcpnfkeoajeodaaGreatDoor
open Go.RowKit
set_option maxRecDepth 100000

theorem substL_take (b l : List UInt8) (k : Nat) : (substL b (l.take k)).length ≤ (substL b l).length := by
  have := substL_append b (l.take k) (l.drop k)
  rw [List.take_append_drop] at this
  rw [this, List.length_append]
  omega

/-- the pattern's first k signs, with b in the variable's place. -/
def putK (p b : ByteArray) (k : Nat) : ByteArray := ⟨(substL b.data.toList (p.data.toList.take k)).toArray⟩

theorem putK_size (p b : ByteArray) (k : Nat) : (putK p b k).size ≤ (putTo p b).size := by
  show (substL b.data.toList (p.data.toList.take k)).toArray.size ≤ (substL b.data.toList p.data.toList).toArray.size
  simpa using substL_take _ _ _

theorem putK_all (p b : ByteArray) : putK p b p.size = putTo p b := by
  unfold putK putTo
  rw [Lib.size_eq, List.take_length]

theorem mk_append' (l : List UInt8) (b : ByteArray) : (⟨l.toArray⟩ : ByteArray) ++ b = ⟨(l ++ b.data.toList).toArray⟩ := by
  apply ByteArray.ext
  rw [ByteArray.data_append]
  simp

theorem putK_var {p b : ByteArray} {k : Nat} (hk : k < p.size) (h : ((p[k]'hk).toNat : Int) = 42) : putK p b k ++ b = putK p b (k + 1) := by
  have hl : k < p.data.toList.length := by rw [← Lib.size_eq]; exact hk
  have e : p.data.toList[k] = 42 := by
    have : (p.data.toList[k]).toNat = 42 := by
      have : ((p[k]'hk).toNat : Int) = ((p.data.toList[k]).toNat : Int) := rfl
      omega
    exact UInt8.toNat_inj.1 (by rw [this]; rfl)
  unfold putK
  rw [mk_append', List.take_succ_eq_append_getElem hl, substL_append, e]
  simp [substL]

theorem putK_other {p b : ByteArray} {k : Nat} (hk : k < p.size) (h : (((p[k]'hk).toNat : Int) == 42) = false) : putK p b k ++ p.extract k (k + 1) = putK p b (k + 1) := by
  have hl : k < p.data.toList.length := by rw [← Lib.size_eq]; exact hk
  have e : p.data.toList[k] ≠ 42 := by
    intro e
    have h' : ((p[k]'hk).toNat : Int) = ((p.data.toList[k]).toNat : Int) := rfl
    rw [h', e] at h
    exact absurd h (by decide)
  unfold putK
  rw [mk_append', Lib.extract_data, List.take_succ_eq_append_getElem hl, substL_append]
  congr 3
  rw [Nat.add_sub_cancel_left]
  simp only [substL, if_neg e, List.append_nil]
  rw [List.drop_eq_getElem_cons hl]
  rfl

theorem putTo_le {p b : ByteArray} (hp : kindErr p = 0) (hb : hasVar p = true → kindErr b = 0) : (putTo p b).size ≤ 1200 := by
  have zp := kindErr_size hp
  cases hv : hasVar p with
  | false => rw [putTo_none hv]; omega
  | true =>
    have := putTo_size (b := b) hp hv
    have := kindErr_size (hb hv)
    omega

/-- what is told where the texts may be. -/
theorem put_said {p b : ByteArray} (hp : kindErr p = 0) (hb : hasVar p = true → kindErr b = 0) :
    (600 < (putTo p b).size → putErr p b = 1 ∧ putVal p b = ⟨#[]⟩) ∧ (¬ 600 < (putTo p b).size → putErr p b = 0 ∧ putVal p b = putTo p b) := by
  cases hv : hasVar p with
  | false =>
    have zp := kindErr_size hp
    have e : putTo p b = p := putTo_none hv
    have h0 : putErr p b = 0 := by unfold putErr; rw [if_pos hp, hv]; rfl
    refine ⟨fun h => by rw [e] at h; omega, fun _ => ⟨h0, ?_⟩⟩
    unfold putVal; rw [if_pos h0, hv, e]; rfl
  | true =>
    have hz := putTo_size (b := b) hp hv
    constructor
    · intro h
      have h0 : putErr p b = 1 := by unfold putErr; rw [if_pos hp, hv, if_pos (hb hv), if_pos (show 601 < p.size + b.size by omega)]; rfl
      exact ⟨h0, by unfold putVal; rw [if_neg (by rw [h0]; decide)]⟩
    · intro h
      have h0 : putErr p b = 0 := by unfold putErr; rw [if_pos hp, hv, if_pos (hb hv), if_neg (show ¬ 601 < p.size + b.size by omega)]; rfl
      exact ⟨h0, by unfold putVal; rw [if_pos h0, hv]; rfl⟩

theorem run_sign (s : ByteArray) (k : Nat) (h : k < s.size) (wx : World) :
    (Instr.slice 9 (.string s) (some (.int .i64 k)) (some (.int .i64 ((k : Int) + 1))) none).run Tryz.prog wx = .ok (.string (s.extract k (k + 1))) wx := by
  have := run_slice_string (P := Tryz.prog) wx 9 s .i64 .i64 k ((k : Int) + 1) Tryz.underlying9 (by omega) (by omega) (by omega)
  rw [this]
  rw [show ((k : Int) + 1).toNat = k + 1 by omega]
  rfl

set_option maxHeartbeats 2000000 in
theorem putOf_good {p b : ByteArray} (hp : p.size ≤ maxLen) (hb : b.size ≤ maxLen) (h1 : kindErr p = 0) (h2 : hasVar p = true → kindErr b = 0) (w : World) :
    Calls Tryz.prog 64 #[.string p, .string b] w fun e w' => e = .returned (.tuple #[.string (putVal p b), .int .i64 (putErr p b)]) ∧ w = w' := by
  have HS := veilK (@put_said p b h1 h2)
  have hle := putTo_le h1 h2
  have zp := kindErr_size h1
  cases hv : hasVar p
  all_goals
    go_enter Tryz.func64, Tryz.ntmps64
    go_wp2_with fail
    refine (kindFault_any p hp _).mono ?_
    rintro e w1 ⟨rfl, rfl⟩
    rw [h1]
    go_wp2_with fail
    refine (isOpen_any p hp _).mono ?_
    rintro e w1 ⟨rfl, rfl⟩
    rw [hv]
    go_wp2_with fail
    first
      | (refine (kindFault_any b hb _).mono ?_
         rintro e w1 ⟨rfl, rfl⟩
         rw [h2 hv]
         go_wp2_with fail)
      | skip
    clear h1 h2 hv
    go_loop [7, 8] (fun v i => ∃ k : Nat, k ≤ p.size ∧ v = .string (putK p b k) ∧ i = .int .i64 k) (fun _ i => p.size - (intOf i).toNat)
    case atStart => exact ⟨0, Nat.zero_le _, rfl, rfl⟩
    case round =>
      obtain ⟨k, hk, rfl, rfl⟩ := hrel
      have z0 := putK_size p b k
      by_cases hlt : k < p.size
      · have z1 := putK_size p b (k + 1)
        by_cases h4 : ((p[k]'hlt).toNat : Int) = 42
        · have HA := veilK (putK_var (b := b) hlt h4)
          have zz : (putK p b k).size + b.size ≤ 1200 := by rw [← ByteArray.size_append, HA.out]; omega
          have hlim : ¬ 9223372036854775807 < (putK p b k).size + b.size := by omega
          go_wp2
          go_round
          · exact ⟨k + 1, by omega, by rw [← HA.out], by simp⟩
          · simp [intOf]; omega
        · have h4' : (((p[k]'hlt).toNat : Int) == 42) = false := by simpa using h4
          have HA := veilK (putK_other (b := b) hlt h4')
          have hsl := run_sign p k hlt
          have hz1 : (p.extract k (k + 1)).size = 1 := by rw [ByteArray.size_extract]; omega
          have hlim : ¬ 9223372036854775807 < (putK p b k).size + 1 := by omega
          have hlim' : ¬ 9223372036854775807 < (putK p b k).size + (p.extract k (k + 1)).size := by omega
          go_wp2
          go_round
          · exact ⟨k + 1, by omega, by rw [← HA.out], by simp⟩
          · simp [intOf]; omega
      · have hk' : k = p.size := by omega
        subst hk'
        rw [putK_all]
        by_cases h6 : 600 < (putTo p b).size
        · have h6' : (600 : Int) < ((putTo p b).size : Int) := by omega
          have HX := veilK (HS.out.1 h6)
          clear HS
          go_wp2
          go_ret2
          exact ⟨by rw [HX.out.1, HX.out.2]; rfl, rfl⟩
        · have h6' : ¬ (600 : Int) < ((putTo p b).size : Int) := by omega
          have HX := veilK (HS.out.2 h6)
          clear HS
          go_wp2
          go_ret2
          exact ⟨by rw [HX.out.1, HX.out.2]; rfl, rfl⟩

set_option maxHeartbeats 1000000 in
theorem putOf_any (p b : ByteArray) (hp : p.size ≤ maxLen) (hb : b.size ≤ maxLen) (w : World) :
    Calls Tryz.prog 64 #[.string p, .string b] w fun e w' => e = .returned (.tuple #[.string (putVal p b), .int .i64 (putErr p b)]) ∧ w = w' := by
  by_cases h1 : kindErr p = 0
  · by_cases h2 : hasVar p = true → kindErr b = 0
    · exact putOf_good hp hb h1 h2 w
    · have hv : hasVar p = true := by
        cases e : hasVar p with
        | true => rfl
        | false => exact absurd (fun h => by rw [e] at h; cases h) h2
      have h3 : kindErr b ≠ 0 := fun h => h2 (fun _ => h)
      have HE : Hid (putErr p b = kindErr b) := by show _ = _; unfold putErr; rw [if_pos h1, hv, if_neg h3]; rfl
      have HV : Hid (putVal p b = ⟨#[]⟩) := by show _ = _; unfold putVal; rw [if_neg (by rw [HE.out]; exact h3)]
      have h3' : (kindErr b != 0) = true := by simpa using h3
      clear h2 h3
      go_enter Tryz.func64, Tryz.ntmps64
      go_wp2_with fail
      refine (kindFault_any p hp _).mono ?_
      rintro e w1 ⟨rfl, rfl⟩
      rw [h1]
      clear h1
      go_wp2_with fail
      refine (isOpen_any p hp _).mono ?_
      rintro e w1 ⟨rfl, rfl⟩
      rw [hv]
      clear hv
      go_wp2_with fail
      refine (kindFault_any b hb _).mono ?_
      rintro e w1 ⟨rfl, rfl⟩
      go_wp2_with fail
      go_ret2
      exact ⟨by rw [HE.out, HV.out]; rfl, rfl⟩
  · have HE : Hid (putErr p b = kindErr p) := by show _ = _; unfold putErr; rw [if_neg h1]
    have HV : Hid (putVal p b = ⟨#[]⟩) := by show _ = _; unfold putVal; rw [if_neg (by rw [HE.out]; exact h1)]
    have h1' : (kindErr p != 0) = true := by simpa using h1
    have h1'' : (kindErr p == 0) = false := by simpa using h1
    clear h1
    go_enter Tryz.func64, Tryz.ntmps64
    go_wp2_with fail
    refine (kindFault_any p hp _).mono ?_
    rintro e w1 ⟨rfl, rfl⟩
    go_wp2_with fail
    go_ret2
    exact ⟨by rw [HE.out, HV.out]; rfl, rfl⟩

end Go.Proofs.YtcpnfkeoajeodaaGreatDoor

/- What the reference's AllOf answers: the same as unify.All. -/
namespace Go.Proofs.YtcpnfkeoajeodaaGreatDoor
open Go.RowKit
set_option maxRecDepth 100000

/-- what holds at the head of AllOf's loop. -/
def AllHead (w : World) (ps is : List ByteArray) (v i : Value) (wr : World) : Prop :=
  ∃ (k : Nat) (bk : ByteArray), k ≤ ps.length ∧ v = .string bk ∧ i = .int .i64 k ∧ bk.size ≤ 600 ∧ eachRes (ps.drop k) (is.drop k) bk = eachRes ps is ⟨#[]⟩ ∧ Below w.heap.size w wr

set_option maxHeartbeats 4000000 in
theorem allOf_each (v u : Value) (ps is : List ByteArray) (r : ByteArray) (hr : r.size ≤ maxLen) (w : World) (hv : StrRow w v ps) (hu : StrRow w u is) (hno : ¬ (8 < ps.length ∨ 8 < is.length)) (hl : is.length = ps.length) (h0 : ps ≠ []) :
    Calls Tryz.prog 41 #[v, u, .string r] w fun e w' => e = .returned (.tuple #[.string (allVal ps is r), .int .i64 (allErr ps is r)]) ∧ Below w.heap.size w w' := by
  obtain ⟨b, off, cap, rfl, hm, hc⟩ := hv.some h0
  obtain ⟨b', off', cap', rfl, _, hc'⟩ := hu.some (by intro e; rw [e] at hl; exact h0 (List.length_eq_zero_iff.1 hl.symm))
  have HC := veilK hc
  have HC' := veilK hc'
  have HNo := veilK hno
  have HL := veilK hl
  have h8 : ¬ (8 : Int) < (ps.length : Int) := by omega
  have h9 : ¬ (8 : Int) < (is.length : Int) := by omega
  have hq : ((ps.length : Int) != (ps.length : Int)) = false := by simp
  rw [hl]
  clear hv hu hc hc' h0 hno hl h9 hm
  go_enter Tryz.func41, Tryz.ntmps41
  go_wp2
  go_loopw [8, 9] (fun v i wr => AllHead w ps is v i wr) (fun _ i _ => ps.length - (intOf i).toNat)
  case atStart => exact ⟨0, ⟨#[]⟩, Nat.zero_le _, rfl, rfl, Nat.zero_le _, rfl, Below.refl _ _⟩
  case round =>
    obtain ⟨k, bk, hk, rfl, rfl, hbk, hr0, hbl⟩ := hrel
    by_cases hlt : k < ps.length
    · obtain ⟨c0, z0⟩ := HC.out k hlt
      obtain ⟨c1, z1⟩ := HC'.out k (by have := HL.out; omega)
      have d0 := (hbl.cell (World.block_lt_of_cell? _ _ c0)).trans c0
      have d1 := (hbl.cell (World.block_lt_of_cell? _ _ c1)).trans c1
      have HOk := veilK (@eachRes_ok ps is k bk hlt (by have := HL.out; omega))
      have HBad := veilK (@eachRes_bad ps is k bk hlt (by have := HL.out; omega))
      have HR := veilK hr0
      have HBl := veilK hbl
      clear c0 c1 hr0 hbl
      generalize ps.getD k .empty = p at *
      generalize is.getD k .empty = q at *
      have HM := veilK (fun w => matchOf_any p q bk z0 z1 (by unfold maxLen; omega) w)
      have HZ := veilK (matchVal_size p q bk)
      by_cases he : matchErr p q bk = 0
      · have HOk := veilK (HOk.out he)
        clear HBad
        go_wp2_with fail
        go_region_with (go_at_call 63; refine (HM.out _).mono ?_; rintro e w1 ⟨rfl, rfl⟩; rw [he])
        all_goals
          clear HM
          go_wp2_with fail
          go_roundw
          case rel => exact ⟨k + 1, matchVal p q bk, by omega, rfl, by go_num, HZ.out, by rw [← HOk.out]; exact HR.out, HBl.out.drew⟩
          case measure => simp [intOf]; omega
      · have HBad := veilK (HBad.out he)
        have HEach : Hid ((eachRes ps is ⟨#[]⟩).2 = matchErr p q bk) := by show _ = _; rw [← HR.out, HBad.out]
        have HE := veilK (allErr_each (r := r) HNo.out HL.out (by rw [HEach.out]; exact he))
        have he' : (matchErr p q bk != 0) = true := by simpa using he
        clear HOk he HNo HL HC HC'
        go_wp2_with fail
        go_region_with (go_at_call 63; refine (HM.out _).mono ?_; rintro e w1 ⟨rfl, rfl⟩)
        all_goals
          clear HM
          go_wp2_with fail
          go_ret2
          exact ⟨by rw [HE.out.1, HE.out.2, HEach.out]; rfl, HBl.out.drew⟩
    · have HR : Hid (eachRes ps is ⟨#[]⟩ = (bk, 0)) := by
        show _ = _
        rw [← hr0, show k = ps.length by omega, List.drop_length, eachRes]
        simp
      have HBl := veilK hbl
      have HN : Hid (k = ps.length) := by show _ = _; omega
      have hge : ¬ (k : Int) < (ps.length : Int) := by omega
      clear hr0 hbl hlt
      by_cases hk : kindErr r = 0
      · cases hb : (bk.toList == []) with
        | true =>
          cases hv : hasVar r with
          | true =>
            have HE := veilK (allErr_open (r := r) HNo.out HL.out (by rw [HR.out]) hk (by rw [HR.out]; exact hb) hv)
            go_wp2_with fail
            refine (kindFault_any r hr _).mono ?_
            rintro e w2 ⟨rfl, rfl⟩
            rw [hk]
            go_wp2_with fail
            refine (isOpen_any r hr _).mono ?_
            rintro e w3 ⟨rfl, rfl⟩
            rw [hv]
            go_wp2_with fail
            go_ret2
            exact ⟨by rw [HE.out.1, HE.out.2]; rfl, HBl.out⟩
          | false =>
            have HE := veilK (allErr_put (r := r) HNo.out HL.out (by rw [HR.out]) hk (by rw [hv]; simp))
            rw [HR.out] at HE
            go_wp2_with fail
            refine (kindFault_any r hr _).mono ?_
            rintro e w2 ⟨rfl, rfl⟩
            rw [hk]
            go_wp2_with fail
            refine (isOpen_any r hr _).mono ?_
            rintro e w3 ⟨rfl, rfl⟩
            rw [hv]
            go_wp2_with fail
            refine (putOf_any r bk hr (by unfold maxLen; omega) _).mono ?_
            rintro e w4 ⟨rfl, rfl⟩
            go_wp2_with fail
            go_ret2
            exact ⟨by rw [HE.out.1, HE.out.2]; rfl, HBl.out⟩
        | false =>
          have HE := veilK (allErr_put (r := r) HNo.out HL.out (by rw [HR.out]) hk (by rw [HR.out, hb]; simp))
          rw [HR.out] at HE
          cases hv : hasVar r
          all_goals
            go_wp2_with fail
            refine (kindFault_any r hr _).mono ?_
            rintro e w2 ⟨rfl, rfl⟩
            rw [hk]
            go_wp2_with fail
            refine (isOpen_any r hr _).mono ?_
            rintro e w3 ⟨rfl, rfl⟩
            rw [hv]
            go_wp2_with fail
            refine (putOf_any r bk hr (by unfold maxLen; omega) _).mono ?_
            rintro e w4 ⟨rfl, rfl⟩
            go_wp2_with fail
            go_ret2
            exact ⟨by rw [HE.out.1, HE.out.2]; rfl, HBl.out⟩
      · have HE := veilK (allErr_kind (r := r) HNo.out HL.out (by rw [HR.out]) hk)
        have hk' : (kindErr r != 0) = true := by simpa using hk
        have hk2 : (kindErr r == 0) = false := by simpa using hk
        clear hk
        go_wp2_with fail
        refine (kindFault_any r hr _).mono ?_
        rintro e w2 ⟨rfl, rfl⟩
        go_wp2_with fail
        go_ret2
        exact ⟨by rw [HE.out.1, HE.out.2]; rfl, HBl.out⟩

set_option maxHeartbeats 2000000 in
theorem allOf_nil (a a' : Option Addr) (cap cap' : Nat) (r : ByteArray) (hr : r.size ≤ maxLen) (w : World) :
    Calls Tryz.prog 41 #[.slice a 0 cap, .slice a' 0 cap', .string r] w fun e w' => e = .returned (.tuple #[.string (allVal [] [] r), .int .i64 (allErr [] [] r)]) ∧ Below w.heap.size w w' := by
  have HNo : Hid (¬ (8 < ([] : List ByteArray).length ∨ 8 < ([] : List ByteArray).length)) := by show ¬ _; simp
  have he : (eachRes [] [] ⟨#[]⟩).2 = 0 := rfl
  have hb : ((eachRes [] [] ⟨#[]⟩).1.toList == []) = true := by
    show ((⟨#[]⟩ : ByteArray).toList == []) = true
    rw [Lib.toList_data]; rfl
  by_cases hk : kindErr r = 0
  · cases hv : hasVar r with
    | true =>
      have HE := veilK (allErr_open HNo.out rfl he hk hb hv)
      clear he hb
      go_enter Tryz.func41, Tryz.ntmps41
      go_wp2
      refine wp_loop_rounds 1 ?_
      rw [rounds_succ]
      go_wp2_with fail
      refine (kindFault_any r hr _).mono ?_
      rintro e w2 ⟨rfl, rfl⟩
      rw [hk]
      go_wp2_with fail
      refine (isOpen_any r hr _).mono ?_
      rintro e w3 ⟨rfl, rfl⟩
      rw [hv]
      go_wp2_with fail
      go_ret2
      exact ⟨by rw [HE.out.1, HE.out.2]; rfl, Below.refl _ _⟩
    | false =>
      have HE := veilK (allErr_put HNo.out rfl he hk (by rw [hv]; simp))
      clear he hb
      go_enter Tryz.func41, Tryz.ntmps41
      go_wp2
      refine wp_loop_rounds 1 ?_
      rw [rounds_succ]
      go_wp2_with fail
      refine (kindFault_any r hr _).mono ?_
      rintro e w2 ⟨rfl, rfl⟩
      rw [hk]
      go_wp2_with fail
      refine (isOpen_any r hr _).mono ?_
      rintro e w3 ⟨rfl, rfl⟩
      rw [hv]
      go_wp2_with fail
      refine (putOf_any r ⟨#[]⟩ hr (Nat.zero_le _) _).mono ?_
      rintro e w4 ⟨rfl, rfl⟩
      go_wp2_with fail
      go_ret2
      exact ⟨by rw [HE.out.1, HE.out.2]; rfl, Below.refl _ _⟩
  · have HE := veilK (allErr_kind (r := r) HNo.out rfl he hk)
    have hk' : (kindErr r != 0) = true := by simpa using hk
    have hk2 : (kindErr r == 0) = false := by simpa using hk
    clear hk he hb
    go_enter Tryz.func41, Tryz.ntmps41
    go_wp2
    refine wp_loop_rounds 1 ?_
    rw [rounds_succ]
    go_wp2_with fail
    refine (kindFault_any r hr _).mono ?_
    rintro e w2 ⟨rfl, rfl⟩
    go_wp2_with fail
    go_ret2
    exact ⟨by rw [HE.out.1, HE.out.2]; rfl, Below.refl _ _⟩

set_option maxHeartbeats 2000000 in
theorem allOf_any (v u : Value) (ps is : List ByteArray) (r : ByteArray) (hr : r.size ≤ maxLen) (w : World) (hv : StrRow w v ps) (hu : StrRow w u is) :
    Calls Tryz.prog 41 #[v, u, .string r] w fun e w' => e = .returned (.tuple #[.string (allVal ps is r), .int .i64 (allErr ps is r)]) ∧ Below w.heap.size w w' := by
  have HV := veilK hv
  have HU := veilK hu
  obtain ⟨a, cap, rfl, hm⟩ := hv.slice
  obtain ⟨a', cap', rfl, hm'⟩ := hu.slice
  unfold maxLen at hm hm'
  clear hv hu
  by_cases h8 : 8 < ps.length
  · have HE := veilK (allErr_size (ps := ps) (is := is) (r := r) (.inl h8))
    have h8' : (8 : Int) < (ps.length : Int) := by omega
    go_enter Tryz.func41, Tryz.ntmps41
    go_wp2
    go_ret2
    exact ⟨by rw [HE.out.1, HE.out.2]; rfl, Below.refl _ _⟩
  have h8' : ¬ (8 : Int) < (ps.length : Int) := by omega
  by_cases h9 : 8 < is.length
  · have HE := veilK (allErr_size (ps := ps) (is := is) (r := r) (.inr h9))
    have h9' : (8 : Int) < (is.length : Int) := by omega
    go_enter Tryz.func41, Tryz.ntmps41
    go_wp2
    go_ret2
    exact ⟨by rw [HE.out.1, HE.out.2]; rfl, Below.refl _ _⟩
  have h9' : ¬ (8 : Int) < (is.length : Int) := by omega
  have hno : ¬ (8 < ps.length ∨ 8 < is.length) := by omega
  by_cases hl : is.length = ps.length
  · by_cases h0 : ps = []
    · subst h0
      have hi : is = [] := List.length_eq_zero_iff.1 hl
      subst hi
      exact allOf_nil a a' cap cap' r hr w
    · exact allOf_each _ _ ps is r hr w HV.out HU.out hno hl h0
  · have HE := veilK (allErr_none (r := r) hno hl)
    have hne : ((ps.length : Int) != (is.length : Int)) = true := by
      rw [bne_iff_ne]; omega
    go_enter Tryz.func41, Tryz.ntmps41
    go_wp2
    go_ret2
    exact ⟨by rw [HE.out.1, HE.out.2]; rfl, Below.refl _ _⟩

end Go.Proofs.YtcpnfkeoajeodaaGreatDoor
