/- What unify.matchEach and unify.All answer, at every two lists of texts and a text. -/
import Derived.Test.YtpamadnckijfkadDoorPut
namespace Go.Proofs.YtpamadnckijfkadDoor
open Go.RowKit
set_option maxRecDepth 100000

/-- a list of texts, as it lies in memory. -/
def StrRow (w : World) (v : Value) (l : List ByteArray) : Prop :=
  (l = [] ∧ ∃ a cap, v = .slice a 0 cap) ∨
  ∃ b off cap, v = .slice (some ⟨b, off, none⟩) l.length cap ∧ l.length ≤ maxLen ∧
    ∀ i, i < l.length → w.cell? ⟨b, off + i, none⟩ = some (.string (l.getD i .empty)) ∧ (l.getD i .empty).size ≤ maxLen

theorem StrRow.later {w w' : World} {v : Value} {l : List ByteArray} (h : StrRow w v l) (hb : Below w.heap.size w w') : StrRow w' v l := by
  rcases h with h | ⟨b, off, cap, hv, hm, hc⟩
  · exact .inl h
  · exact .inr ⟨b, off, cap, hv, hm, fun i hi => ⟨(hb.cell (World.block_lt_of_cell? _ _ (hc i hi).1)).trans (hc i hi).1, (hc i hi).2⟩⟩

theorem StrRow.some {w : World} {v : Value} {l : List ByteArray} (h : StrRow w v l) (hl : l ≠ []) : ∃ b off cap, v = .slice (some ⟨b, off, none⟩) l.length cap ∧ l.length ≤ maxLen ∧
    ∀ i, i < l.length → w.cell? ⟨b, off + i, none⟩ = some (.string (l.getD i .empty)) ∧ (l.getD i .empty).size ≤ maxLen := by
  rcases h with h | h
  · exact absurd h.1 hl
  · exact h

theorem StrRow.slice {w : World} {v : Value} {l : List ByteArray} (h : StrRow w v l) : ∃ a cap, v = .slice a l.length cap ∧ l.length ≤ maxLen := by
  rcases h with ⟨rfl, a, cap, rfl⟩ | ⟨b, off, cap, rfl, hm, _⟩
  · exact ⟨a, cap, rfl, Nat.zero_le _⟩
  · exact ⟨_, cap, rfl, hm⟩

/-- types one by one with what is there: what the variable stands for, and what is wrong. -/
def eachRes : List ByteArray → List ByteArray → ByteArray → ByteArray × Int
  | p :: ps, i :: is, b => if matchErr p i b = 0 then eachRes ps is (matchVal p i b) else (⟨#[]⟩, matchErr p i b)
  | _, _, b => (b, 0)

theorem eachRes_ok {ps is : List ByteArray} {k : Nat} {b : ByteArray} (hp : k < ps.length) (hi : k < is.length) (h : matchErr (ps.getD k .empty) (is.getD k .empty) b = 0) :
    eachRes (ps.drop k) (is.drop k) b = eachRes (ps.drop (k + 1)) (is.drop (k + 1)) (matchVal (ps.getD k .empty) (is.getD k .empty) b) := by
  rw [List.getD_eq_getElem?_getD, List.getElem?_eq_getElem hp, List.getD_eq_getElem?_getD, List.getElem?_eq_getElem hi] at h ⊢
  simp only [Option.getD_some] at h ⊢
  rw [List.drop_eq_getElem_cons hp, List.drop_eq_getElem_cons hi, eachRes, if_pos h]

theorem eachRes_bad {ps is : List ByteArray} {k : Nat} {b : ByteArray} (hp : k < ps.length) (hi : k < is.length) (h : matchErr (ps.getD k .empty) (is.getD k .empty) b ≠ 0) :
    eachRes (ps.drop k) (is.drop k) b = (⟨#[]⟩, matchErr (ps.getD k .empty) (is.getD k .empty) b) := by
  rw [List.getD_eq_getElem?_getD, List.getElem?_eq_getElem hp, List.getD_eq_getElem?_getD, List.getElem?_eq_getElem hi] at h ⊢
  simp only [Option.getD_some] at h ⊢
  rw [List.drop_eq_getElem_cons hp, List.drop_eq_getElem_cons hi, eachRes, if_neg h]

theorem matchVal_size (p i b : ByteArray) : (matchVal p i b).size ≤ 600 := by
  unfold matchVal
  split
  · next h =>
    have h0 : argErr p i b = 0 := by
      by_cases h0 : argErr p i b = 0
      · exact h0
      · unfold matchErr at h; rw [if_neg h0] at h; exact absurd h h0
    obtain ⟨zp, zi, zb⟩ := argErr_size h0
    have zu := unw_size p i
    unfold fitVal
    split
    · omega
    · exact zb
  · exact Nat.zero_le _

theorem eachRes_size : ∀ (ps is : List ByteArray) (b : ByteArray), b.size ≤ 600 → (eachRes ps is b).1.size ≤ 600
  | [], _, b, h => by simpa [eachRes] using h
  | _ :: _, [], b, h => by simpa [eachRes] using h
  | p :: ps, i :: is, b, h => by
    rw [eachRes]
    split
    · exact eachRes_size ps is _ (matchVal_size _ _ _)
    · exact Nat.zero_le _

set_option maxHeartbeats 2000000 in
theorem matchEach_any (v u : Value) (ps is : List ByteArray) (w : World) (hv : StrRow w v ps) (hu : StrRow w u is) (hl : is.length = ps.length) :
    Calls Tryd.prog 18 #[v, u] w fun e w' => e = .returned (.tuple #[.string (eachRes ps is ⟨#[]⟩).1, .int .i64 (eachRes ps is ⟨#[]⟩).2]) ∧ Below w.heap.size w w' := by
  by_cases h0 : ps = []
  · subst h0
    obtain ⟨a, cap, rfl, _⟩ := hv.slice
    obtain ⟨a', cap', rfl, _⟩ := hu.slice
    clear hv hu
    go_enter Tryd.func18, Tryd.ntmps18
    go_wp2
    refine wp_loop_rounds 1 ?_
    rw [rounds_succ]
    go_wp2
    go_ret2
    exact ⟨rfl, Below.refl _ _⟩
  · obtain ⟨b, off, cap, rfl, hm, hc⟩ := hv.some h0
    obtain ⟨b', off', cap', rfl, _, hc'⟩ := hu.some (by intro e; rw [e] at hl; exact h0 (List.length_eq_zero_iff.1 hl.symm))
    unfold maxLen at hm
    have HC := veilK hc
    have HC' := veilK hc'
    have HL := veilK hl
    rw [hl]
    clear hv hu hc hc' h0
    have hl0 : is.length = ps.length := HL.out
    go_enter Tryd.func18, Tryd.ntmps18
    go_wp2
    go_loopw [6, 13] (fun v i wr => ∃ (k : Nat) (bk : ByteArray), k ≤ ps.length ∧ v = .string bk ∧ i = .int .i64 k ∧ bk.size ≤ 600 ∧ eachRes (ps.drop k) (is.drop k) bk = eachRes ps is ⟨#[]⟩ ∧ Below w.heap.size w wr)
      (fun _ i _ => ps.length - (intOf i).toNat)
    case atStart => exact ⟨0, ⟨#[]⟩, Nat.zero_le _, rfl, rfl, Nat.zero_le _, rfl, Below.refl _ _⟩
    case round =>
      obtain ⟨k, bk, hk, rfl, rfl, hbk, hr, hbl⟩ := hrel
      by_cases hlt : k < ps.length
      · obtain ⟨c0, z0⟩ := HC.out k hlt
        obtain ⟨c1, z1⟩ := HC'.out k (by omega)
        have d0 := (hbl.cell (World.block_lt_of_cell? _ _ c0)).trans c0
        have d1 := (hbl.cell (World.block_lt_of_cell? _ _ c1)).trans c1
        have HOk := veilK (@eachRes_ok ps is k bk hlt (by omega))
        have HBad := veilK (@eachRes_bad ps is k bk hlt (by omega))
        have HR := veilK hr
        have HBl := veilK hbl
        clear c0 c1 hr hbl
        generalize ps.getD k .empty = p at *
        generalize is.getD k .empty = q at *
        have HM := veilK (fun w => match_any p q bk z0 z1 (by unfold maxLen; omega) w)
        have HZ := veilK (matchVal_size p q bk)
        by_cases he : matchErr p q bk = 0
        · have HOk := veilK (HOk.out he)
          clear HBad
          go_wp2_with fail
          refine (HM.out _).mono ?_
          rintro e w1 ⟨rfl, hb1⟩
          rw [he]
          have HB1 := veilK (HBl.out.trans (hb1.mono HBl.out.size))
          clear hb1 HBl he HM
          generalize matchVal p q bk = t at *
          go_wp2_with fail
          go_roundw
          case rel => exact ⟨k + 1, t, by omega, rfl, by go_num, HZ.out, by rw [← HOk.out]; exact HR.out, HB1.out⟩
          case measure => simp [intOf]; omega
        · have HBad := veilK (HBad.out he)
          have he' : (matchErr p q bk != 0) = true := by simpa using he
          clear HOk he
          go_wp2_with fail
          refine (HM.out _).mono ?_
          rintro e w1 ⟨rfl, hb1⟩
          have HB1 := veilK (HBl.out.trans (hb1.mono HBl.out.size))
          clear hb1 HBl HM
          go_wp2_with fail
          go_ret2
          exact ⟨by rw [← HR.out, HBad.out]; rfl, HB1.out⟩
      · have HR : Hid (eachRes ps is ⟨#[]⟩ = (bk, 0)) := by
          show _ = _
          rw [← hr, show k = ps.length by omega, List.drop_length, eachRes]
          simp
        have HBl := veilK hbl
        clear hr hbl
        go_wp2
        go_ret2
        exact ⟨by rw [HR.out]; rfl, HBl.out⟩

/-- what a function tells that takes ps, handed is: the type, or what is wrong. -/
def allErr (ps is : List ByteArray) (r : ByteArray) : Int :=
  if 8 < ps.length ∨ 8 < is.length then 1 else if is.length = ps.length then
    (if (eachRes ps is ⟨#[]⟩).2 = 0 then (if kindErr r = 0 then (if (eachRes ps is ⟨#[]⟩).1.toList == [] && hasVar r then 8 else putErr r (eachRes ps is ⟨#[]⟩).1) else kindErr r) else (eachRes ps is ⟨#[]⟩).2)
  else 6
def allVal (ps is : List ByteArray) (r : ByteArray) : ByteArray := if allErr ps is r = 0 then putVal r (eachRes ps is ⟨#[]⟩).1 else ⟨#[]⟩

theorem allErr_size {ps is : List ByteArray} {r : ByteArray} (h : 8 < ps.length ∨ 8 < is.length) : allErr ps is r = 1 ∧ allVal ps is r = ⟨#[]⟩ := by
  have e : allErr ps is r = 1 := by unfold allErr; rw [if_pos h]
  exact ⟨e, by unfold allVal; rw [if_neg (by rw [e]; decide)]⟩
theorem allErr_none {ps is : List ByteArray} {r : ByteArray} (h : ¬ (8 < ps.length ∨ 8 < is.length)) (hl : is.length ≠ ps.length) : allErr ps is r = 6 ∧ allVal ps is r = ⟨#[]⟩ := by
  have e : allErr ps is r = 6 := by unfold allErr; rw [if_neg h, if_neg hl]
  exact ⟨e, by unfold allVal; rw [if_neg (by rw [e]; decide)]⟩
theorem allErr_each {ps is : List ByteArray} {r : ByteArray} (h : ¬ (8 < ps.length ∨ 8 < is.length)) (hl : is.length = ps.length) (he : (eachRes ps is ⟨#[]⟩).2 ≠ 0) : allErr ps is r = (eachRes ps is ⟨#[]⟩).2 ∧ allVal ps is r = ⟨#[]⟩ := by
  have e : allErr ps is r = (eachRes ps is ⟨#[]⟩).2 := by unfold allErr; rw [if_neg h, if_pos hl, if_neg he]
  exact ⟨e, by unfold allVal; rw [if_neg (by rw [e]; exact he)]⟩
theorem allErr_kind {ps is : List ByteArray} {r : ByteArray} (h : ¬ (8 < ps.length ∨ 8 < is.length)) (hl : is.length = ps.length) (he : (eachRes ps is ⟨#[]⟩).2 = 0) (hk : kindErr r ≠ 0) : allErr ps is r = kindErr r ∧ allVal ps is r = ⟨#[]⟩ := by
  have e : allErr ps is r = kindErr r := by unfold allErr; rw [if_neg h, if_pos hl, if_pos he, if_neg hk]
  exact ⟨e, by unfold allVal; rw [if_neg (by rw [e]; exact hk)]⟩
theorem allErr_open {ps is : List ByteArray} {r : ByteArray} (h : ¬ (8 < ps.length ∨ 8 < is.length)) (hl : is.length = ps.length) (he : (eachRes ps is ⟨#[]⟩).2 = 0) (hk : kindErr r = 0) (hb : ((eachRes ps is ⟨#[]⟩).1.toList == []) = true) (hv : hasVar r = true) : allErr ps is r = 8 ∧ allVal ps is r = ⟨#[]⟩ := by
  have e : allErr ps is r = 8 := by unfold allErr; rw [if_neg h, if_pos hl, if_pos he, if_pos hk, hb, hv]; rfl
  exact ⟨e, by unfold allVal; rw [if_neg (by rw [e]; decide)]⟩
theorem allErr_put {ps is : List ByteArray} {r : ByteArray} (h : ¬ (8 < ps.length ∨ 8 < is.length)) (hl : is.length = ps.length) (he : (eachRes ps is ⟨#[]⟩).2 = 0) (hk : kindErr r = 0) (hb : ((eachRes ps is ⟨#[]⟩).1.toList == [] && hasVar r) = false) : allErr ps is r = putErr r (eachRes ps is ⟨#[]⟩).1 ∧ allVal ps is r = putVal r (eachRes ps is ⟨#[]⟩).1 := by
  have e : allErr ps is r = putErr r (eachRes ps is ⟨#[]⟩).1 := by unfold allErr; rw [if_neg h, if_pos hl, if_pos he, if_pos hk, hb]; rfl
  refine ⟨e, ?_⟩
  unfold allVal
  split
  · rfl
  · next h0 => rw [e] at h0; unfold putVal; rw [if_neg h0]

set_option maxHeartbeats 2000000 in
theorem all_any (v u : Value) (ps is : List ByteArray) (r : ByteArray) (hr : r.size ≤ maxLen) (w : World) (hv : StrRow w v ps) (hu : StrRow w u is) :
    Calls Tryd.prog 8 #[v, u, .string r] w fun e w' => e = .returned (.tuple #[.string (allVal ps is r), .int .i64 (allErr ps is r)]) ∧ Below w.heap.size w w' := by
  have HV := veilK hv
  have HU := veilK hu
  obtain ⟨a, cap, rfl, hm⟩ := hv.slice
  obtain ⟨a', cap', rfl, hm'⟩ := hu.slice
  unfold maxLen at hm hm'
  clear hv hu
  by_cases h8 : 8 < ps.length
  · have HE := veilK (allErr_size (ps := ps) (is := is) (r := r) (.inl h8))
    have h8' : (8 : Int) < (ps.length : Int) := by omega
    go_enter Tryd.func8, Tryd.ntmps8
    go_wp2
    go_ret2
    exact ⟨by rw [HE.out.1, HE.out.2]; rfl, Below.refl _ _⟩
  have h8' : ¬ (8 : Int) < (ps.length : Int) := by omega
  by_cases h9 : 8 < is.length
  · have HE := veilK (allErr_size (ps := ps) (is := is) (r := r) (.inr h9))
    have h9' : (8 : Int) < (is.length : Int) := by omega
    go_enter Tryd.func8, Tryd.ntmps8
    go_wp2
    go_ret2
    exact ⟨by rw [HE.out.1, HE.out.2]; rfl, Below.refl _ _⟩
  have h9' : ¬ (8 : Int) < (is.length : Int) := by omega
  have hno : ¬ (8 < ps.length ∨ 8 < is.length) := by omega
  by_cases hl : is.length = ps.length
  · have hne : ((ps.length : Int) != (is.length : Int)) = false := by simp [hl]
    have HM := veilK (fun w hv hu => matchEach_any (.slice a ps.length cap) (.slice a' is.length cap') ps is w hv hu hl)
    have zb := eachRes_size ps is ⟨#[]⟩ (Nat.zero_le _)
    have HNo := veilK hno
    have HL := veilK hl
    rw [hl] at HM ⊢
    clear hno hl
    by_cases he : (eachRes ps is ⟨#[]⟩).2 = 0
    · by_cases hk : kindErr r = 0
      · cases hb : ((eachRes ps is ⟨#[]⟩).1.toList == []) with
        | true =>
          cases hv : hasVar r with
          | true =>
            have HE := veilK (allErr_open HNo.out HL.out he hk hb hv)
            go_enter Tryd.func8, Tryd.ntmps8
            go_wp2_with fail
            refine (HM.out _ HV.out (by have := HU.out; rwa [HL.out] at this)).mono ?_
            rintro e w1 ⟨rfl, hb1⟩
            rw [he]
            have HB1 := veilK hb1
            clear hb1 HM HV HU HNo HL he
            generalize (eachRes ps is ⟨#[]⟩).1 = t at *
            go_wp2_with fail
            refine (check_kind r hr _).mono ?_
            rintro e w2 ⟨rfl, rfl⟩
            rw [hk]
            go_wp2_with fail
            refine (open_any r _).mono ?_
            rintro e w3 ⟨rfl, rfl⟩
            rw [hv]
            go_wp2_with fail
            go_ret2
            exact ⟨by rw [HE.out.1, HE.out.2]; rfl, HB1.out⟩
          | false =>
            have HE := veilK (allErr_put HNo.out HL.out he hk (by rw [hb, hv]; rfl))
            go_enter Tryd.func8, Tryd.ntmps8
            go_wp2_with fail
            refine (HM.out _ HV.out (by have := HU.out; rwa [HL.out] at this)).mono ?_
            rintro e w1 ⟨rfl, hb1⟩
            rw [he]
            have HB1 := veilK hb1
            clear hb1 HM HV HU HNo HL he
            generalize (eachRes ps is ⟨#[]⟩).1 = t at *
            go_wp2_with fail
            refine (check_kind r hr _).mono ?_
            rintro e w2 ⟨rfl, rfl⟩
            rw [hk]
            go_wp2_with fail
            refine (open_any r _).mono ?_
            rintro e w3 ⟨rfl, rfl⟩
            rw [hv]
            go_wp2_with fail
            refine (put_any r t hr (by unfold maxLen; omega) _).mono ?_
            rintro e w4 ⟨rfl, hb4⟩
            have HB4 := veilK (HB1.out.trans (hb4.mono HB1.out.size))
            clear hb4
            go_wp2_with fail
            go_ret2
            exact ⟨by rw [HE.out.1, HE.out.2]; rfl, HB4.out⟩
        | false =>
          have HE := veilK (allErr_put HNo.out HL.out he hk (by rw [hb]; rfl))
          go_enter Tryd.func8, Tryd.ntmps8
          go_wp2_with fail
          refine (HM.out _ HV.out (by have := HU.out; rwa [HL.out] at this)).mono ?_
          rintro e w1 ⟨rfl, hb1⟩
          rw [he]
          have HB1 := veilK hb1
          clear hb1 HM HV HU HNo HL he
          generalize (eachRes ps is ⟨#[]⟩).1 = t at *
          go_wp2_with fail
          refine (check_kind r hr _).mono ?_
          rintro e w2 ⟨rfl, rfl⟩
          rw [hk]
          go_wp2_with fail
          refine (put_any r t hr (by unfold maxLen; omega) _).mono ?_
          rintro e w4 ⟨rfl, hb4⟩
          have HB4 := veilK (HB1.out.trans (hb4.mono HB1.out.size))
          clear hb4
          go_wp2_with fail
          go_ret2
          exact ⟨by rw [HE.out.1, HE.out.2]; rfl, HB4.out⟩
      · have HE := veilK (allErr_kind (r := r) HNo.out HL.out he hk)
        have hk' : (kindErr r != 0) = true := by simpa using hk
        clear hk
        go_enter Tryd.func8, Tryd.ntmps8
        go_wp2_with fail
        refine (HM.out _ HV.out (by have := HU.out; rwa [HL.out] at this)).mono ?_
        rintro e w1 ⟨rfl, hb1⟩
        rw [he]
        have HB1 := veilK hb1
        clear hb1 HM HV HU HNo HL he
        generalize (eachRes ps is ⟨#[]⟩).1 = t at *
        go_wp2_with fail
        refine (check_kind r hr _).mono ?_
        rintro e w2 ⟨rfl, rfl⟩
        go_wp2_with fail
        go_ret2
        exact ⟨by rw [HE.out.1, HE.out.2]; rfl, HB1.out⟩
    · have HE := veilK (allErr_each (r := r) HNo.out HL.out he)
      have he' : ((eachRes ps is ⟨#[]⟩).2 != 0) = true := by simpa using he
      clear he
      go_enter Tryd.func8, Tryd.ntmps8
      go_wp2_with fail
      refine (HM.out _ HV.out (by have := HU.out; rwa [HL.out] at this)).mono ?_
      rintro e w1 ⟨rfl, hb1⟩
      have HB1 := veilK hb1
      clear hb1 HM HV HU HNo HL
      go_wp2_with fail
      go_ret2
      exact ⟨by rw [HE.out.1, HE.out.2]; rfl, HB1.out⟩
  · have HE := veilK (allErr_none (r := r) hno hl)
    have hne : ((ps.length : Int) != (is.length : Int)) = true := by
      rw [bne_iff_ne]; omega
    go_enter Tryd.func8, Tryd.ntmps8
    go_wp2
    go_ret2
    exact ⟨by rw [HE.out.1, HE.out.2]; rfl, Below.refl _ _⟩

end Go.Proofs.YtpamadnckijfkadDoor
