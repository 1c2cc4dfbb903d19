/- What the reference's PutOf answers: the same as unify.Put. -/
import Derived.Test.YtpamadnckijfkadDoorPut
namespace Go.Proofs.YtpamadnckijfkadDoor
open Go.RowKit
set_option maxRecDepth 100000

theorem substL_take (b l : List UInt8) (k : Nat) : (substL b (l.take k)).length ≤ (substL b l).length := by
  have := substL_append b (l.take k) (l.drop k)
  rw [List.take_append_drop] at this
  rw [this, List.length_append]
  omega

/-- the pattern's first k signs, with b in the variable's place. -/
def putK (p b : ByteArray) (k : Nat) : ByteArray := ⟨(substL b.data.toList (p.data.toList.take k)).toArray⟩

theorem putK_size (p b : ByteArray) (k : Nat) : (putK p b k).size ≤ (putTo p b).size := by
  show (substL b.data.toList (p.data.toList.take k)).toArray.size ≤ (substL b.data.toList p.data.toList).toArray.size
  simpa using substL_take _ _ _

theorem putK_all (p b : ByteArray) : putK p b p.size = putTo p b := by
  unfold putK putTo
  rw [Lib.size_eq, List.take_length]

theorem mk_append' (l : List UInt8) (b : ByteArray) : (⟨l.toArray⟩ : ByteArray) ++ b = ⟨(l ++ b.data.toList).toArray⟩ := by
  apply ByteArray.ext
  rw [ByteArray.data_append]
  simp

theorem putK_var {p b : ByteArray} {k : Nat} (hk : k < p.size) (h : ((p[k]'hk).toNat : Int) = 42) : putK p b k ++ b = putK p b (k + 1) := by
  have hl : k < p.data.toList.length := by rw [← Lib.size_eq]; exact hk
  have e : p.data.toList[k] = 42 := by
    have : (p.data.toList[k]).toNat = 42 := by
      have : ((p[k]'hk).toNat : Int) = ((p.data.toList[k]).toNat : Int) := rfl
      omega
    exact UInt8.toNat_inj.1 (by rw [this]; rfl)
  unfold putK
  rw [mk_append', List.take_succ_eq_append_getElem hl, substL_append, e]
  simp [substL]

theorem putK_other {p b : ByteArray} {k : Nat} (hk : k < p.size) (h : (((p[k]'hk).toNat : Int) == 42) = false) : putK p b k ++ p.extract k (k + 1) = putK p b (k + 1) := by
  have hl : k < p.data.toList.length := by rw [← Lib.size_eq]; exact hk
  have e : p.data.toList[k] ≠ 42 := by
    intro e
    have h' : ((p[k]'hk).toNat : Int) = ((p.data.toList[k]).toNat : Int) := rfl
    rw [h', e] at h
    exact absurd h (by decide)
  unfold putK
  rw [mk_append', Lib.extract_data, List.take_succ_eq_append_getElem hl, substL_append]
  congr 3
  rw [Nat.add_sub_cancel_left]
  simp only [substL, if_neg e, List.append_nil]
  rw [List.drop_eq_getElem_cons hl]
  rfl

theorem putTo_le {p b : ByteArray} (hp : kindErr p = 0) (hb : hasVar p = true → kindErr b = 0) : (putTo p b).size ≤ 1200 := by
  have zp := kindErr_size hp
  cases hv : hasVar p with
  | false => rw [putTo_none hv]; omega
  | true =>
    have := putTo_size (b := b) hp hv
    have := kindErr_size (hb hv)
    omega

/-- what is told where the texts may be. -/
theorem put_said {p b : ByteArray} (hp : kindErr p = 0) (hb : hasVar p = true → kindErr b = 0) :
    (600 < (putTo p b).size → putErr p b = 1 ∧ putVal p b = ⟨#[]⟩) ∧ (¬ 600 < (putTo p b).size → putErr p b = 0 ∧ putVal p b = putTo p b) := by
  cases hv : hasVar p with
  | false =>
    have zp := kindErr_size hp
    have e : putTo p b = p := putTo_none hv
    have h0 : putErr p b = 0 := by unfold putErr; rw [if_pos hp, hv]; rfl
    refine ⟨fun h => by rw [e] at h; omega, fun _ => ⟨h0, ?_⟩⟩
    unfold putVal; rw [if_pos h0, hv, e]; rfl
  | true =>
    have hz := putTo_size (b := b) hp hv
    constructor
    · intro h
      have h0 : putErr p b = 1 := by unfold putErr; rw [if_pos hp, hv, if_pos (hb hv), if_pos (show 601 < p.size + b.size by omega)]; rfl
      exact ⟨h0, by unfold putVal; rw [if_neg (by rw [h0]; decide)]⟩
    · intro h
      have h0 : putErr p b = 0 := by unfold putErr; rw [if_pos hp, hv, if_pos (hb hv), if_neg (show ¬ 601 < p.size + b.size by omega)]; rfl
      exact ⟨h0, by unfold putVal; rw [if_pos h0, hv]; rfl⟩

theorem run_sign (s : ByteArray) (k : Nat) (h : k < s.size) (wx : World) :
    (Instr.slice 9 (.string s) (some (.int .i64 k)) (some (.int .i64 ((k : Int) + 1))) none).run Tryd.prog wx = .ok (.string (s.extract k (k + 1))) wx := by
  have := run_slice_string (P := Tryd.prog) wx 9 s .i64 .i64 k ((k : Int) + 1) Tryd.underlying9 (by omega) (by omega) (by omega)
  rw [this]
  rw [show ((k : Int) + 1).toNat = k + 1 by omega]
  rfl

set_option maxHeartbeats 2000000 in
theorem putOf_good {p b : ByteArray} (hp : p.size ≤ maxLen) (hb : b.size ≤ maxLen) (h1 : kindErr p = 0) (h2 : hasVar p = true → kindErr b = 0) (w : World) :
    Calls Tryd.prog 7 #[.string p, .string b] w fun e w' => e = .returned (.tuple #[.string (putVal p b), .int .i64 (putErr p b)]) ∧ w = w' := by
  have HS := veilK (@put_said p b h1 h2)
  have hle := putTo_le h1 h2
  have zp := kindErr_size h1
  cases hv : hasVar p
  all_goals
    go_enter Tryd.func7, Tryd.ntmps7
    go_wp2_with fail
    refine (kindFault_any p hp _).mono ?_
    rintro e w1 ⟨rfl, rfl⟩
    rw [h1]
    go_wp2_with fail
    refine (isOpen_any p hp _).mono ?_
    rintro e w1 ⟨rfl, rfl⟩
    rw [hv]
    go_wp2_with fail
    first
      | (refine (kindFault_any b hb _).mono ?_
         rintro e w1 ⟨rfl, rfl⟩
         rw [h2 hv]
         go_wp2_with fail)
      | skip
    clear h1 h2 hv
    go_loop [7, 8] (fun v i => ∃ k : Nat, k ≤ p.size ∧ v = .string (putK p b k) ∧ i = .int .i64 k) (fun _ i => p.size - (intOf i).toNat)
    case atStart => exact ⟨0, Nat.zero_le _, rfl, rfl⟩
    case round =>
      obtain ⟨k, hk, rfl, rfl⟩ := hrel
      have z0 := putK_size p b k
      by_cases hlt : k < p.size
      · have z1 := putK_size p b (k + 1)
        by_cases h4 : ((p[k]'hlt).toNat : Int) = 42
        · have HA := veilK (putK_var (b := b) hlt h4)
          have zz : (putK p b k).size + b.size ≤ 1200 := by rw [← ByteArray.size_append, HA.out]; omega
          have hlim : ¬ 9223372036854775807 < (putK p b k).size + b.size := by omega
          go_wp2
          go_round
          · exact ⟨k + 1, by omega, by rw [← HA.out], by simp⟩
          · simp [intOf]; omega
        · have h4' : (((p[k]'hlt).toNat : Int) == 42) = false := by simpa using h4
          have HA := veilK (putK_other (b := b) hlt h4')
          have hsl := run_sign p k hlt
          have hz1 : (p.extract k (k + 1)).size = 1 := by rw [ByteArray.size_extract]; omega
          have hlim : ¬ 9223372036854775807 < (putK p b k).size + 1 := by omega
          have hlim' : ¬ 9223372036854775807 < (putK p b k).size + (p.extract k (k + 1)).size := by omega
          go_wp2
          go_round
          · exact ⟨k + 1, by omega, by rw [← HA.out], by simp⟩
          · simp [intOf]; omega
      · have hk' : k = p.size := by omega
        subst hk'
        rw [putK_all]
        by_cases h6 : 600 < (putTo p b).size
        · have h6' : (600 : Int) < ((putTo p b).size : Int) := by omega
          have HX := veilK (HS.out.1 h6)
          clear HS
          go_wp2
          go_ret2
          exact ⟨by rw [HX.out.1, HX.out.2]; rfl, rfl⟩
        · have h6' : ¬ (600 : Int) < ((putTo p b).size : Int) := by omega
          have HX := veilK (HS.out.2 h6)
          clear HS
          go_wp2
          go_ret2
          exact ⟨by rw [HX.out.1, HX.out.2]; rfl, rfl⟩

set_option maxHeartbeats 1000000 in
theorem putOf_any (p b : ByteArray) (hp : p.size ≤ maxLen) (hb : b.size ≤ maxLen) (w : World) :
    Calls Tryd.prog 7 #[.string p, .string b] w fun e w' => e = .returned (.tuple #[.string (putVal p b), .int .i64 (putErr p b)]) ∧ w = w' := by
  by_cases h1 : kindErr p = 0
  · by_cases h2 : hasVar p = true → kindErr b = 0
    · exact putOf_good hp hb h1 h2 w
    · have hv : hasVar p = true := by
        cases e : hasVar p with
        | true => rfl
        | false => exact absurd (fun h => by rw [e] at h; cases h) h2
      have h3 : kindErr b ≠ 0 := fun h => h2 (fun _ => h)
      have HE : Hid (putErr p b = kindErr b) := by show _ = _; unfold putErr; rw [if_pos h1, hv, if_neg h3]; rfl
      have HV : Hid (putVal p b = ⟨#[]⟩) := by show _ = _; unfold putVal; rw [if_neg (by rw [HE.out]; exact h3)]
      have h3' : (kindErr b != 0) = true := by simpa using h3
      clear h2 h3
      go_enter Tryd.func7, Tryd.ntmps7
      go_wp2_with fail
      refine (kindFault_any p hp _).mono ?_
      rintro e w1 ⟨rfl, rfl⟩
      rw [h1]
      clear h1
      go_wp2_with fail
      refine (isOpen_any p hp _).mono ?_
      rintro e w1 ⟨rfl, rfl⟩
      rw [hv]
      clear hv
      go_wp2_with fail
      refine (kindFault_any b hb _).mono ?_
      rintro e w1 ⟨rfl, rfl⟩
      go_wp2_with fail
      go_ret2
      exact ⟨by rw [HE.out, HV.out]; rfl, rfl⟩
  · have HE : Hid (putErr p b = kindErr p) := by show _ = _; unfold putErr; rw [if_neg h1]
    have HV : Hid (putVal p b = ⟨#[]⟩) := by show _ = _; unfold putVal; rw [if_neg (by rw [HE.out]; exact h1)]
    have h1' : (kindErr p != 0) = true := by simpa using h1
    have h1'' : (kindErr p == 0) = false := by simpa using h1
    clear h1
    go_enter Tryd.func7, Tryd.ntmps7
    go_wp2_with fail
    refine (kindFault_any p hp _).mono ?_
    rintro e w1 ⟨rfl, rfl⟩
    go_wp2_with fail
    go_ret2
    exact ⟨by rw [HE.out, HV.out]; rfl, rfl⟩

end Go.Proofs.YtpamadnckijfkadDoor
