/- What the reference's AllOf answers: the same as unify.All. -/
import Derived.Test.YtpamadnckijfkadDoorAlls
import Derived.Test.YtpamadnckijfkadDoorMatchOf
import Derived.Test.YtpamadnckijfkadDoorPutOf
import Derived.Deep.RegionWith
namespace Go.Proofs.YtpamadnckijfkadDoor
open Go.RowKit
set_option maxRecDepth 100000

/-- what holds at the head of AllOf's loop. -/
def AllHead (w : World) (ps is : List ByteArray) (v i : Value) (wr : World) : Prop :=
  ∃ (k : Nat) (bk : ByteArray), k ≤ ps.length ∧ v = .string bk ∧ i = .int .i64 k ∧ bk.size ≤ 600 ∧ eachRes (ps.drop k) (is.drop k) bk = eachRes ps is ⟨#[]⟩ ∧ Below w.heap.size w wr

set_option maxHeartbeats 4000000 in
theorem allOf_each (v u : Value) (ps is : List ByteArray) (r : ByteArray) (hr : r.size ≤ maxLen) (w : World) (hv : StrRow w v ps) (hu : StrRow w u is) (hno : ¬ (8 < ps.length ∨ 8 < is.length)) (hl : is.length = ps.length) (h0 : ps ≠ []) :
    Calls Tryd.prog 9 #[v, u, .string r] w fun e w' => e = .returned (.tuple #[.string (allVal ps is r), .int .i64 (allErr ps is r)]) ∧ Below w.heap.size w w' := by
  obtain ⟨b, off, cap, rfl, hm, hc⟩ := hv.some h0
  obtain ⟨b', off', cap', rfl, _, hc'⟩ := hu.some (by intro e; rw [e] at hl; exact h0 (List.length_eq_zero_iff.1 hl.symm))
  have HC := veilK hc
  have HC' := veilK hc'
  have HNo := veilK hno
  have HL := veilK hl
  have h8 : ¬ (8 : Int) < (ps.length : Int) := by omega
  have h9 : ¬ (8 : Int) < (is.length : Int) := by omega
  have hq : ((ps.length : Int) != (ps.length : Int)) = false := by simp
  rw [hl]
  clear hv hu hc hc' h0 hno hl h9 hm
  go_enter Tryd.func9, Tryd.ntmps9
  go_wp2
  go_loopw [8, 9] (fun v i wr => AllHead w ps is v i wr) (fun _ i _ => ps.length - (intOf i).toNat)
  case atStart => exact ⟨0, ⟨#[]⟩, Nat.zero_le _, rfl, rfl, Nat.zero_le _, rfl, Below.refl _ _⟩
  case round =>
    obtain ⟨k, bk, hk, rfl, rfl, hbk, hr0, hbl⟩ := hrel
    by_cases hlt : k < ps.length
    · obtain ⟨c0, z0⟩ := HC.out k hlt
      obtain ⟨c1, z1⟩ := HC'.out k (by have := HL.out; omega)
      have d0 := (hbl.cell (World.block_lt_of_cell? _ _ c0)).trans c0
      have d1 := (hbl.cell (World.block_lt_of_cell? _ _ c1)).trans c1
      have HOk := veilK (@eachRes_ok ps is k bk hlt (by have := HL.out; omega))
      have HBad := veilK (@eachRes_bad ps is k bk hlt (by have := HL.out; omega))
      have HR := veilK hr0
      have HBl := veilK hbl
      clear c0 c1 hr0 hbl
      generalize ps.getD k .empty = p at *
      generalize is.getD k .empty = q at *
      have HM := veilK (fun w => matchOf_any p q bk z0 z1 (by unfold maxLen; omega) w)
      have HZ := veilK (matchVal_size p q bk)
      by_cases he : matchErr p q bk = 0
      · have HOk := veilK (HOk.out he)
        clear HBad
        go_wp2_with fail
        go_region_with (go_at_call 19; refine (HM.out _).mono ?_; rintro e w1 ⟨rfl, rfl⟩; rw [he])
        all_goals
          clear HM
          go_wp2_with fail
          go_roundw
          case rel => exact ⟨k + 1, matchVal p q bk, by omega, rfl, by go_num, HZ.out, by rw [← HOk.out]; exact HR.out, HBl.out.drew⟩
          case measure => simp [intOf]; omega
      · have HBad := veilK (HBad.out he)
        have HEach : Hid ((eachRes ps is ⟨#[]⟩).2 = matchErr p q bk) := by show _ = _; rw [← HR.out, HBad.out]
        have HE := veilK (allErr_each (r := r) HNo.out HL.out (by rw [HEach.out]; exact he))
        have he' : (matchErr p q bk != 0) = true := by simpa using he
        clear HOk he HNo HL HC HC'
        go_wp2_with fail
        go_region_with (go_at_call 19; refine (HM.out _).mono ?_; rintro e w1 ⟨rfl, rfl⟩)
        all_goals
          clear HM
          go_wp2_with fail
          go_ret2
          exact ⟨by rw [HE.out.1, HE.out.2, HEach.out]; rfl, HBl.out.drew⟩
    · have HR : Hid (eachRes ps is ⟨#[]⟩ = (bk, 0)) := by
        show _ = _
        rw [← hr0, show k = ps.length by omega, List.drop_length, eachRes]
        simp
      have HBl := veilK hbl
      have HN : Hid (k = ps.length) := by show _ = _; omega
      have hge : ¬ (k : Int) < (ps.length : Int) := by omega
      clear hr0 hbl hlt
      by_cases hk : kindErr r = 0
      · cases hb : (bk.toList == []) with
        | true =>
          cases hv : hasVar r with
          | true =>
            have HE := veilK (allErr_open (r := r) HNo.out HL.out (by rw [HR.out]) hk (by rw [HR.out]; exact hb) hv)
            go_wp2_with fail
            refine (kindFault_any r hr _).mono ?_
            rintro e w2 ⟨rfl, rfl⟩
            rw [hk]
            go_wp2_with fail
            refine (isOpen_any r hr _).mono ?_
            rintro e w3 ⟨rfl, rfl⟩
            rw [hv]
            go_wp2_with fail
            go_ret2
            exact ⟨by rw [HE.out.1, HE.out.2]; rfl, HBl.out⟩
          | false =>
            have HE := veilK (allErr_put (r := r) HNo.out HL.out (by rw [HR.out]) hk (by rw [hv]; simp))
            rw [HR.out] at HE
            go_wp2_with fail
            refine (kindFault_any r hr _).mono ?_
            rintro e w2 ⟨rfl, rfl⟩
            rw [hk]
            go_wp2_with fail
            refine (isOpen_any r hr _).mono ?_
            rintro e w3 ⟨rfl, rfl⟩
            rw [hv]
            go_wp2_with fail
            refine (putOf_any r bk hr (by unfold maxLen; omega) _).mono ?_
            rintro e w4 ⟨rfl, rfl⟩
            go_wp2_with fail
            go_ret2
            exact ⟨by rw [HE.out.1, HE.out.2]; rfl, HBl.out⟩
        | false =>
          have HE := veilK (allErr_put (r := r) HNo.out HL.out (by rw [HR.out]) hk (by rw [HR.out, hb]; simp))
          rw [HR.out] at HE
          cases hv : hasVar r
          all_goals
            go_wp2_with fail
            refine (kindFault_any r hr _).mono ?_
            rintro e w2 ⟨rfl, rfl⟩
            rw [hk]
            go_wp2_with fail
            refine (isOpen_any r hr _).mono ?_
            rintro e w3 ⟨rfl, rfl⟩
            rw [hv]
            go_wp2_with fail
            refine (putOf_any r bk hr (by unfold maxLen; omega) _).mono ?_
            rintro e w4 ⟨rfl, rfl⟩
            go_wp2_with fail
            go_ret2
            exact ⟨by rw [HE.out.1, HE.out.2]; rfl, HBl.out⟩
      · have HE := veilK (allErr_kind (r := r) HNo.out HL.out (by rw [HR.out]) hk)
        have hk' : (kindErr r != 0) = true := by simpa using hk
        have hk2 : (kindErr r == 0) = false := by simpa using hk
        clear hk
        go_wp2_with fail
        refine (kindFault_any r hr _).mono ?_
        rintro e w2 ⟨rfl, rfl⟩
        go_wp2_with fail
        go_ret2
        exact ⟨by rw [HE.out.1, HE.out.2]; rfl, HBl.out⟩

set_option maxHeartbeats 2000000 in
theorem allOf_nil (a a' : Option Addr) (cap cap' : Nat) (r : ByteArray) (hr : r.size ≤ maxLen) (w : World) :
    Calls Tryd.prog 9 #[.slice a 0 cap, .slice a' 0 cap', .string r] w fun e w' => e = .returned (.tuple #[.string (allVal [] [] r), .int .i64 (allErr [] [] r)]) ∧ Below w.heap.size w w' := by
  have HNo : Hid (¬ (8 < ([] : List ByteArray).length ∨ 8 < ([] : List ByteArray).length)) := by show ¬ _; simp
  have he : (eachRes [] [] ⟨#[]⟩).2 = 0 := rfl
  have hb : ((eachRes [] [] ⟨#[]⟩).1.toList == []) = true := by
    show ((⟨#[]⟩ : ByteArray).toList == []) = true
    rw [Lib.toList_data]; rfl
  by_cases hk : kindErr r = 0
  · cases hv : hasVar r with
    | true =>
      have HE := veilK (allErr_open HNo.out rfl he hk hb hv)
      clear he hb
      go_enter Tryd.func9, Tryd.ntmps9
      go_wp2
      refine wp_loop_rounds 1 ?_
      rw [rounds_succ]
      go_wp2_with fail
      refine (kindFault_any r hr _).mono ?_
      rintro e w2 ⟨rfl, rfl⟩
      rw [hk]
      go_wp2_with fail
      refine (isOpen_any r hr _).mono ?_
      rintro e w3 ⟨rfl, rfl⟩
      rw [hv]
      go_wp2_with fail
      go_ret2
      exact ⟨by rw [HE.out.1, HE.out.2]; rfl, Below.refl _ _⟩
    | false =>
      have HE := veilK (allErr_put HNo.out rfl he hk (by rw [hv]; simp))
      clear he hb
      go_enter Tryd.func9, Tryd.ntmps9
      go_wp2
      refine wp_loop_rounds 1 ?_
      rw [rounds_succ]
      go_wp2_with fail
      refine (kindFault_any r hr _).mono ?_
      rintro e w2 ⟨rfl, rfl⟩
      rw [hk]
      go_wp2_with fail
      refine (isOpen_any r hr _).mono ?_
      rintro e w3 ⟨rfl, rfl⟩
      rw [hv]
      go_wp2_with fail
      refine (putOf_any r ⟨#[]⟩ hr (Nat.zero_le _) _).mono ?_
      rintro e w4 ⟨rfl, rfl⟩
      go_wp2_with fail
      go_ret2
      exact ⟨by rw [HE.out.1, HE.out.2]; rfl, Below.refl _ _⟩
  · have HE := veilK (allErr_kind (r := r) HNo.out rfl he hk)
    have hk' : (kindErr r != 0) = true := by simpa using hk
    have hk2 : (kindErr r == 0) = false := by simpa using hk
    clear hk he hb
    go_enter Tryd.func9, Tryd.ntmps9
    go_wp2
    refine wp_loop_rounds 1 ?_
    rw [rounds_succ]
    go_wp2_with fail
    refine (kindFault_any r hr _).mono ?_
    rintro e w2 ⟨rfl, rfl⟩
    go_wp2_with fail
    go_ret2
    exact ⟨by rw [HE.out.1, HE.out.2]; rfl, Below.refl _ _⟩

set_option maxHeartbeats 2000000 in
theorem allOf_any (v u : Value) (ps is : List ByteArray) (r : ByteArray) (hr : r.size ≤ maxLen) (w : World) (hv : StrRow w v ps) (hu : StrRow w u is) :
    Calls Tryd.prog 9 #[v, u, .string r] w fun e w' => e = .returned (.tuple #[.string (allVal ps is r), .int .i64 (allErr ps is r)]) ∧ Below w.heap.size w w' := by
  have HV := veilK hv
  have HU := veilK hu
  obtain ⟨a, cap, rfl, hm⟩ := hv.slice
  obtain ⟨a', cap', rfl, hm'⟩ := hu.slice
  unfold maxLen at hm hm'
  clear hv hu
  by_cases h8 : 8 < ps.length
  · have HE := veilK (allErr_size (ps := ps) (is := is) (r := r) (.inl h8))
    have h8' : (8 : Int) < (ps.length : Int) := by omega
    go_enter Tryd.func9, Tryd.ntmps9
    go_wp2
    go_ret2
    exact ⟨by rw [HE.out.1, HE.out.2]; rfl, Below.refl _ _⟩
  have h8' : ¬ (8 : Int) < (ps.length : Int) := by omega
  by_cases h9 : 8 < is.length
  · have HE := veilK (allErr_size (ps := ps) (is := is) (r := r) (.inr h9))
    have h9' : (8 : Int) < (is.length : Int) := by omega
    go_enter Tryd.func9, Tryd.ntmps9
    go_wp2
    go_ret2
    exact ⟨by rw [HE.out.1, HE.out.2]; rfl, Below.refl _ _⟩
  have h9' : ¬ (8 : Int) < (is.length : Int) := by omega
  have hno : ¬ (8 < ps.length ∨ 8 < is.length) := by omega
  by_cases hl : is.length = ps.length
  · by_cases h0 : ps = []
    · subst h0
      have hi : is = [] := List.length_eq_zero_iff.1 hl
      subst hi
      exact allOf_nil a a' cap cap' r hr w
    · exact allOf_each _ _ ps is r hr w HV.out HU.out hno hl h0
  · have HE := veilK (allErr_none (r := r) hno hl)
    have hne : ((ps.length : Int) != (is.length : Int)) = true := by
      rw [bne_iff_ne]; omega
    go_enter Tryd.func9, Tryd.ntmps9
    go_wp2
    go_ret2
    exact ⟨by rw [HE.out.1, HE.out.2]; rfl, Below.refl _ _⟩

end Go.Proofs.YtpamadnckijfkadDoor
