/- What the reader's ident and name answer, at every reader. -/
import Derived.Test.YtpamadnckijfkabGreatDoorReader
namespace Go.Proofs.YtpamadnckijfkabGreatDoor
open Go.RowKit
set_option maxRecDepth 100000

set_option maxHeartbeats 1000000 in
theorem ident_next (B : Nat) (l : Toks) (i : Nat) (w : World) (h : RdAt B l i w) :
    Calls Tryz.prog 66 #[.pointer (some ⟨B, 0, none⟩)] w fun e w' => Moved B w w' ∧
      ((identAt l i = none ∧ ∃ t i', e = .returned (.tuple #[.string t, .bool false]) ∧ RdAt B l i' w') ∨ ∃ t, identAt l i = some t ∧ identOk t = true ∧ e = .returned (.tuple #[.string t, .bool true]) ∧ RdAt B l (i + 1) w') := by
  have HH := veil h
  have HI : Hid (identAt l i = match takeAt l i 1 with | some t => if identOk t = true then some t else none | none => none) := rfl
  clear h
  go_enter Tryz.func66, Tryz.ntmps66
  go_wp2_with fail
  refine (take_any B l i 1 w HH.out).mono ?_
  rintro e w1 ⟨hm, ⟨ht, rfl, hr⟩ | ⟨t, ht, hsz, rfl, hr⟩⟩
  · rw [ht] at HI
    have HM := veil hm
    have HR := veil hr
    clear hm hr ht
    go_wp2_with fail
    go_ret2
    exact ⟨HM.out, Or.inl ⟨HI.out, _, _, rfl, HR.out⟩⟩
  · rw [ht] at HI
    have HM := veil hm
    have HR := veil hr
    clear hm hr ht
    have hlt := rd_lt HR.out
    cases hi : identOk t
    · have HI' : Hid (identAt l i = none) := HI.out.trans (if_neg (by rw [hi]; simp))
      go_wp2_with fail
      refine (ident_any t hsz _).mono ?_
      rintro e w2 ⟨rfl, q⟩
      rw [hi]
      have HM2 := veil (HM.out.trans (Moved.of_below q (by omega)))
      have HR2 := veil (rd_below HR.out q)
      clear q
      go_wp2_with fail
      go_ret2
      exact ⟨HM2.out, Or.inl ⟨HI'.out, _, _, rfl, HR2.out⟩⟩
    · have HI' : Hid (identAt l i = some t) := HI.out.trans (if_pos hi)
      have HOk := veil hi
      go_wp2_with fail
      refine (ident_any t hsz _).mono ?_
      rintro e w2 ⟨rfl, q⟩
      rw [hi]
      have HM2 := veil (HM.out.trans (Moved.of_below q (by omega)))
      have HR2 := veil (rd_below HR.out q)
      clear q hi
      go_wp2_with fail
      go_ret2
      exact ⟨HM2.out, Or.inr ⟨t, HI'.out, HOk.out, rfl, HR2.out⟩⟩

set_option maxHeartbeats 2000000 in
theorem name_next (B : Nat) (l : Toks) (i : Nat) (w : World) (h : RdAt B l i w) :
    Calls Tryz.prog 107 #[.pointer (some ⟨B, 0, none⟩)] w fun e w' => Moved B w w' ∧
      ((nameAt l i = .bad 4 ∧ ∃ o t, e = .returned (.tuple #[.string o, .string t, .bool false])) ∨ ∃ o t j, nameAt l i = .ok (o, t) j ∧ noneOrIdent o = true ∧ identOk t = true ∧ e = .returned (.tuple #[.string o, .string t, .bool true]) ∧ RdAt B l j w') := by
  have HH := veil h
  clear h
  go_enter Tryz.func107, Tryz.ntmps107
  go_wp2_with fail
  refine (ident_next B l i w HH.out).mono ?_
  rintro e w1 ⟨hm, ⟨hi, t, i', rfl, hr⟩ | ⟨t, hi, hok, rfl, hr⟩⟩
  · have HN : Hid (nameAt l i = .bad 4) := by show _ = _; unfold nameAt; rw [hi]
    have HM := veil hm
    clear hm hr hi
    go_wp2_with fail
    exact bodyPost_ret (v := .tuple #[.string ⟨#[]⟩, .string t, .bool false]) (by simp [results, Tryz.results107, go_sem]) rfl ⟨HM.out, Or.inl ⟨HN.out, _, _, rfl⟩⟩
  · have HM := veil hm
    have HR := veil hr
    have HOk := veil hok
    have HN : Hid (nameAt l i = if sgn l (i + 1) [46] = true then (match identAt l (i + 2) with | none => .bad 4 | some m => .ok (t, m) (i + 3)) else .ok (emptyText, t) (i + 1)) := by show _ = _; unfold nameAt; rw [hi]; rfl
    clear hm hr hi hok
    go_wp2_with fail
    refine (sign_next B l (i + 1) ⟨#[46]⟩ w1 HR.out).mono ?_
    rintro e w2 ⟨rfl, q1, q2⟩
    have HM2 := veil (HM.out.trans q2)
    clear q2
    cases hs : sgn l (i + 1) [46]
    · have hs' : sgn l (i + 1) (ByteArray.mk #[46]).data.toList = false := hs
      rw [hs'] at q1
      try rw [hs']
      have HR2 := veil q1
      rw [if_neg (by rw [hs]; simp)] at HN
      clear q1 hs hs'
      go_wp2_with fail
      exact bodyPost_ret (v := .tuple #[.string ⟨#[]⟩, .string t, .bool true]) (by simp [results, Tryz.results107, go_sem]) rfl ⟨HM2.out, Or.inr ⟨_, _, _, HN.out, by rfl, HOk.out, rfl, HR2.out⟩⟩
    · have hs' : sgn l (i + 1) (ByteArray.mk #[46]).data.toList = true := hs
      rw [hs'] at q1
      try rw [hs']
      have HR2 := veil q1
      rw [if_pos hs] at HN
      clear q1 hs hs'
      go_wp2_with fail
      refine (ident_next B l (i + 1 + 1) w2 HR2.out).mono ?_
      rintro e w3 ⟨hm, ⟨hi, m, i', rfl, hr⟩ | ⟨m, hi, hok, rfl, hr⟩⟩
      · rw [hi] at HN
        have HM3 := veil (HM2.out.trans hm)
        clear hm hr hi
        go_wp2_with fail
        exact bodyPost_ret (v := .tuple #[.string t, .string m, .bool false]) (by simp [results, Tryz.results107, go_sem]) rfl ⟨HM3.out, Or.inl ⟨HN.out, _, _, rfl⟩⟩
      · rw [hi] at HN
        have HM3 := veil (HM2.out.trans hm)
        have HR3 := veil hr
        have HOk2 := veil hok
        have HNo : Hid (noneOrIdent t = true) := by show _ = _; unfold noneOrIdent; rw [HOk.out]; simp
        clear hm hr hi hok
        go_wp2_with fail
        exact bodyPost_ret (v := .tuple #[.string t, .string m, .bool true]) (by simp [results, Tryz.results107, go_sem]) rfl ⟨HM3.out, Or.inr ⟨_, _, _, HN.out, HNo.out, HOk2.out, rfl, HR3.out⟩⟩

end Go.Proofs.YtpamadnckijfkabGreatDoor
