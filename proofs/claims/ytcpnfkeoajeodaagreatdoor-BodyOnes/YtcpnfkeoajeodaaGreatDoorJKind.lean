/- What package kind's bracketed, between, Check, and the reference's ElemOf and KindFault answer, at every text: whether it is in brackets, what is between, what is wrong with it as a kind; the world as it was. -/
import Derived.Test.YtcpnfkeoajeodaaGreatDoorRows
import Derived.WalkKit
import Derived.WalkLawsBesides
import Derived.Shelf.Abstract
namespace Go.Proofs.YtcpnfkeoajeodaaGreatDoor
open Go.RowKit
set_option maxRecDepth 100000

/-- a fact that the walk must not take for a rule. -/
theorem veilK {p : Prop} (h : p) : Hid p := h

/-- byte j of s, as a number (0 beyond its end). -/
def kAt (s : ByteArray) (j : Nat) : Int := ((s.data.toList.getD j 0).toNat : Int)

theorem kAt_get (s : ByteArray) (k : Nat) (h : k < s.size) : ((s[k]'h).toNat : Int) = kAt s k := by
  unfold kAt
  have h' : k < s.data.toList.length := by simpa using h
  rw [List.getD_eq_getElem?_getD, List.getElem?_eq_getElem h']
  rfl

def isList (s : ByteArray) : Bool := decide (2 < s.size) && (kAt s 0 == 91 && kAt s (s.size - 1) == 93)
def inner (s : ByteArray) : ByteArray := s.extract 1 (s.size - 1)

theorem isList_size {s : ByteArray} (h : isList s = true) : 2 < s.size := by
  unfold isList at h
  simp only [Bool.and_eq_true, decide_eq_true_eq] at h
  exact h.1

theorem inner_size {s : ByteArray} (h : 2 < s.size) : (inner s).size = s.size - 2 := by
  unfold inner
  rw [ByteArray.size_extract]
  omega

/-- what is left of a text when all its brackets are taken away. -/
def kcore (s : ByteArray) : ByteArray := if isList s = true then kcore (inner s) else s
termination_by s.size
decreasing_by rename_i h; rw [inner_size (isList_size h)]; have := isList_size h; omega

theorem kcore_in {s : ByteArray} (h : isList s = true) : kcore s = kcore (inner s) := by rw [kcore.eq_1 s]; simp [h]
theorem kcore_no {s : ByteArray} (h : isList s = false) : kcore s = s := by rw [kcore.eq_1 s]; simp [h]

theorem bracketed_any (s : ByteArray) (hs : s.size ≤ maxLen) (w : World) :
    Calls Tryz.prog 96 #[.string s] w fun e w' => e = .returned (.bool (isList s)) ∧ w = w' := by
  unfold maxLen at hs
  by_cases h2 : 2 < s.size
  · have h2' : (2 : Int) < (s.size : Int) := by omega
    have HL : Hid (isList s = (((s[0]'(by omega)).toNat : Int) == 91 && ((s[s.size - 1]'(by omega)).toNat : Int) == 93)) := by
      show _ = _
      rw [kAt_get s 0, kAt_get s (s.size - 1)]; simp [isList, h2]
    by_cases h0 : ((s[0]'(by omega)).toNat : Int) = 91
    · go_enter Tryz.func96, Tryz.ntmps96
      go_wp2
      go_ret
      exact ⟨by rw [HL.out, h0]; rfl, rfl⟩
    · have h0' : (((s[0]'(by omega)).toNat : Int) == 91) = false := by simpa using h0
      go_enter Tryz.func96, Tryz.ntmps96
      go_wp2
      go_ret
      exact ⟨by rw [HL.out, h0']; rfl, rfl⟩
  · have h2' : ¬ (2 : Int) < (s.size : Int) := by omega
    have HL : Hid (isList s = false) := by show _ = _; simp [isList]; omega
    go_enter Tryz.func96, Tryz.ntmps96
    go_wp2
    go_ret
    exact ⟨by rw [HL.out]; rfl, rfl⟩

theorem run_inner (s : ByteArray) (h2 : 2 < s.size) (wx : World) :
    (Instr.slice 9 (.string s) (some (.int .i64 1)) (some (.int .i64 ((s.size : Int) - 1))) none).run Tryz.prog wx = .ok (.string (inner s)) wx := by
  have := run_slice_string (P := Tryz.prog) wx 9 s .i64 .i64 1 ((s.size : Int) - 1) Tryz.underlying9 (by omega) (by omega) (by omega)
  rw [this]
  unfold inner
  rw [show ((s.size : Int) - 1).toNat = s.size - 1 by omega]
  rfl

theorem between_any (s : ByteArray) (hs : s.size ≤ maxLen) (h2 : 2 < s.size) (w : World) :
    Calls Tryz.prog 97 #[.string s] w fun e w' => e = .returned (.string (inner s)) ∧ w = w' := by
  unfold maxLen at hs
  have h2' : (2 : Int) < (s.size : Int) := by omega
  have hsl := run_inner s h2
  go_enter Tryz.func97, Tryz.ntmps97
  go_wp2
  go_ret
  exact ⟨rfl, rfl⟩

/-- may a text be what is left of a kind? -/
def isBase (t : ByteArray) : Bool := t.toList == [105, 110, 116] || (t.toList == [116, 101, 120, 116] || t.toList == [42])
def kindErr (s : ByteArray) : Int := if 600 < s.size then 1 else if isBase (kcore s) then 0 else 4

def textOfV : Value → ByteArray
  | .string t => t
  | _ => ⟨#[]⟩

set_option maxHeartbeats 1000000 in
theorem check_kind (s : ByteArray) (hs : s.size ≤ maxLen) (w : World) :
    Calls Tryz.prog 81 #[.string s] w fun e w' => e = .returned (.int .i64 (kindErr s)) ∧ w = w' := by
  by_cases h6 : 600 < s.size
  · have h6' : (600 : Int) < (s.size : Int) := by omega
    have HE : Hid (kindErr s = 1) := by show _ = _; simp [kindErr, h6]
    go_enter Tryz.func81, Tryz.ntmps81
    go_wp2
    go_ret
    exact ⟨by rw [HE.out]; rfl, rfl⟩
  · have h6' : ¬ (600 : Int) < (s.size : Int) := by omega
    have HE : Hid (kindErr s = if isBase (kcore s) then 0 else 4) := by show _ = _; simp [kindErr, h6]
    go_enter Tryz.func81, Tryz.ntmps81
    go_wp2_with fail
    go_loop [0] (fun v => ∃ t : ByteArray, t.size ≤ s.size ∧ v = .string t ∧ kcore t = kcore s) (fun v => (textOfV v).size)
    case atStart => exact ⟨s, Nat.le_refl _, rfl, rfl⟩
    case round =>
      obtain ⟨t, ht, rfl, hk⟩ := hrel
      have HK := veilK hk
      clear hk
      go_wp2_with fail
      refine (bracketed_any t (by omega) _).mono ?_
      rintro e w' ⟨rfl, rfl⟩
      cases hl : isList t with
      | true =>
        have h2 := isList_size hl
        have HIn := veilK (kcore_in hl)
        have HSz := veilK (inner_size h2)
        clear hl
        go_wp2_with fail
        refine (between_any t (by omega) h2 _).mono ?_
        rintro e w' ⟨rfl, rfl⟩
        go_wp2_with fail
        go_round
        · exact ⟨inner t, by rw [HSz.out]; omega, rfl, by rw [← HIn.out]; exact HK.out⟩
        · show (inner t).size < t.size
          rw [HSz.out]; omega
      | false =>
        have HNo := veilK (kcore_no hl)
        have HF : Hid (kindErr s = if isBase t then 0 else 4) := by show _ = _; rw [HE.out, ← HK.out, HNo.out]
        clear HE HK HNo hl
        cases b1 : (t.toList == [105, 110, 116]) with
        | true =>
          go_wp2
          go_ret
          exact ⟨by rw [HF.out]; simp [isBase, b1], rfl⟩
        | false =>
          cases b2 : (t.toList == [116, 101, 120, 116]) with
          | true =>
            go_wp2
            go_ret
            exact ⟨by rw [HF.out]; simp [isBase, b1, b2], rfl⟩
          | false =>
            cases b3 : (t.toList == [42]) with
            | true =>
              go_wp2
              go_ret
              exact ⟨by rw [HF.out]; simp [isBase, b1, b2, b3], rfl⟩
            | false =>
              go_wp2
              go_ret
              exact ⟨by rw [HF.out]; simp [isBase, b1, b2, b3], rfl⟩

theorem isList_at {s : ByteArray} (h2 : 2 < s.size) : isList s = (((s[0]'(by omega)).toNat : Int) == 91 && ((s[s.size - 1]'(by omega)).toNat : Int) == 93) := by
  rw [kAt_get s 0, kAt_get s (s.size - 1)]; simp [isList, h2]

theorem elemOf_list {s : ByteArray} (hs : s.size ≤ maxLen) (h : isList s = true) (w : World) :
    Calls Tryz.prog 22 #[.string s] w fun e w' => e = .returned (.tuple #[.string (inner s), .bool true]) ∧ w = w' := by
  unfold maxLen at hs
  have h2 := isList_size h
  have h2' : (3 : Int) ≤ (s.size : Int) := by omega
  have hsl := run_inner s h2
  have hl := isList_at h2
  rw [h] at hl
  have hl' := hl.symm
  rw [Bool.and_eq_true, beq_iff_eq, beq_iff_eq] at hl'
  obtain ⟨h0, h1⟩ := hl'
  clear hl h
  go_enter Tryz.func22, Tryz.ntmps22
  go_wp2
  go_ret2
  exact ⟨rfl, rfl⟩

theorem elemOf_none {s : ByteArray} (hs : s.size ≤ maxLen) (h : isList s = false) (w : World) :
    Calls Tryz.prog 22 #[.string s] w fun e w' => e = .returned (.tuple #[.string ⟨#[]⟩, .bool false]) ∧ w = w' := by
  unfold maxLen at hs
  by_cases h2 : 2 < s.size
  · have h2' : (3 : Int) ≤ (s.size : Int) := by omega
    have hl := isList_at h2
    rw [h] at hl
    clear h
    by_cases h0 : ((s[0]'(by omega)).toNat : Int) = 91
    · have h1 : (((s[s.size - 1]'(by omega)).toNat : Int) == 93) = false := by
        rw [h0] at hl; simpa using hl.symm
      clear hl
      go_enter Tryz.func22, Tryz.ntmps22
      go_wp2
      go_ret2
      exact ⟨rfl, rfl⟩
    · clear hl
      have h0' : (((s[0]'(by omega)).toNat : Int) == 91) = false := by simpa using h0
      go_enter Tryz.func22, Tryz.ntmps22
      go_wp2
      go_ret2
      exact ⟨rfl, rfl⟩
  · have h2' : ¬ (3 : Int) ≤ (s.size : Int) := by omega
    clear h
    go_enter Tryz.func22, Tryz.ntmps22
    go_wp2
    go_ret2
    exact ⟨rfl, rfl⟩

set_option maxHeartbeats 1000000 in
theorem kindFault_any (s : ByteArray) (hs : s.size ≤ maxLen) (w : World) :
    Calls Tryz.prog 11 #[.string s] w fun e w' => e = .returned (.int .i64 (kindErr s)) ∧ w = w' := by
  by_cases h6 : 600 < s.size
  · have h6' : (600 : Int) < (s.size : Int) := by omega
    have HE : Hid (kindErr s = 1) := by show _ = _; simp [kindErr, h6]
    go_enter Tryz.func11, Tryz.ntmps11
    go_wp2
    go_ret
    exact ⟨by rw [HE.out]; rfl, rfl⟩
  · have h6' : ¬ (600 : Int) < (s.size : Int) := by omega
    have HE : Hid (kindErr s = if isBase (kcore s) then 0 else 4) := by show _ = _; simp [kindErr, h6]
    go_enter Tryz.func11, Tryz.ntmps11
    go_wp2_with fail
    go_loop [0] (fun v => ∃ t : ByteArray, t.size ≤ s.size ∧ v = .string t ∧ kcore t = kcore s) (fun v => (textOfV v).size)
    case atStart => exact ⟨s, Nat.le_refl _, rfl, rfl⟩
    case round =>
      obtain ⟨t, ht, rfl, hk⟩ := hrel
      have HK := veilK hk
      clear hk
      cases hl : isList t with
      | true =>
        have h2 := isList_size hl
        have HIn := veilK (kcore_in hl)
        have HSz := veilK (inner_size h2)
        go_wp2_with fail
        refine (elemOf_list (by omega) hl _).mono ?_
        rintro e w' ⟨rfl, rfl⟩
        clear hl
        go_wp2_with fail
        go_round
        · exact ⟨inner t, by rw [HSz.out]; omega, rfl, by rw [← HIn.out]; exact HK.out⟩
        · show (inner t).size < t.size
          rw [HSz.out]; omega
      | false =>
        have HNo := veilK (kcore_no hl)
        have HF : Hid (kindErr s = if isBase t then 0 else 4) := by show _ = _; rw [HE.out, ← HK.out, HNo.out]
        clear HE HK HNo
        go_wp2_with fail
        refine (elemOf_none (by omega) hl _).mono ?_
        rintro e w' ⟨rfl, rfl⟩
        clear hl
        cases b1 : (t.toList == [105, 110, 116]) with
        | true =>
          go_wp2
          go_ret
          exact ⟨by rw [HF.out]; simp [isBase, b1], rfl⟩
        | false =>
          cases b2 : (t.toList == [116, 101, 120, 116]) with
          | true =>
            go_wp2
            go_ret
            exact ⟨by rw [HF.out]; simp [isBase, b1, b2], rfl⟩
          | false =>
            cases b3 : (t.toList == [42]) with
            | true =>
              go_wp2
              go_ret
              exact ⟨by rw [HF.out]; simp [isBase, b1, b2, b3], rfl⟩
            | false =>
              go_wp2
              go_ret
              exact ⟨by rw [HF.out]; simp [isBase, b1, b2, b3], rfl⟩

/-- the list of a text. -/
def wrapK (s : ByteArray) : ByteArray := ⟨#[91]⟩ ++ s ++ ⟨#[93]⟩
def listErr (s : ByteArray) : Int := if kindErr s = 0 then (if 598 < s.size then 1 else 0) else kindErr s

theorem kindErr_size {s : ByteArray} (h : kindErr s = 0) : s.size ≤ 600 := by
  unfold kindErr at h
  split at h
  · cases h
  · omega

theorem listOf_bad {s : ByteArray} (hs : s.size ≤ maxLen) (h : listErr s ≠ 0) (w : World) :
    Calls Tryz.prog 86 #[.string s] w fun e w' => e = .returned (.tuple #[.string ⟨#[]⟩, .int .i64 (listErr s)]) ∧ w = w' := by
  by_cases hk : kindErr s = 0
  · have h5 : 598 < s.size := by
      unfold listErr at h; rw [if_pos hk] at h
      by_cases h5 : 598 < s.size
      · exact h5
      · rw [if_neg h5] at h; exact absurd rfl h
    have HE : Hid (listErr s = 1) := by show _ = _; simp [listErr, hk, h5]
    have h6 := kindErr_size hk
    have h7 : (600 : Int) < (s.size : Int) + 2 := by omega
    clear h
    go_enter Tryz.func86, Tryz.ntmps86
    go_wp2_with fail
    refine (check_kind s hs _).mono ?_
    rintro e w' ⟨rfl, rfl⟩
    rw [hk]
    clear hk
    go_wp2
    go_ret2
    exact ⟨by rw [HE.out]; rfl, rfl⟩
  · have HE : Hid (listErr s = kindErr s) := by show _ = _; simp [listErr, hk]
    have hk' : (kindErr s != 0) = true := by simpa using hk
    clear h hk
    go_enter Tryz.func86, Tryz.ntmps86
    go_wp2_with fail
    refine (check_kind s hs _).mono ?_
    rintro e w' ⟨rfl, rfl⟩
    go_wp2
    go_ret2
    exact ⟨by rw [HE.out]; rfl, rfl⟩

theorem listErr_ok {s : ByteArray} (h : listErr s = 0) : kindErr s = 0 ∧ s.size ≤ 598 := by
  unfold listErr at h
  split at h
  · refine ⟨by assumption, ?_⟩
    split at h
    · cases h
    · omega
  · exact absurd h (by assumption)

set_option maxRecDepth 100000 in
theorem listOf_good {s : ByteArray} (h : listErr s = 0) (w : World) :
    Calls Tryz.prog 86 #[.string s] w fun e w' => e = .returned (.tuple #[.string (wrapK s), .int .i64 0]) ∧ w = w' := by
  obtain ⟨hk, h5⟩ := listErr_ok h
  have h7 : ¬ (600 : Int) < (s.size : Int) + 2 := by omega
  have hs : s.size ≤ maxLen := by unfold maxLen; omega
  clear h
  go_enter Tryz.func86, Tryz.ntmps86
  go_wp2_with fail
  refine (check_kind s hs _).mono ?_
  rintro e w' ⟨rfl, rfl⟩
  rw [hk]
  clear hk
  go_wp2
  go_ret2
  exact ⟨rfl, rfl⟩

theorem kindList_bad {s : ByteArray} (hs : s.size ≤ maxLen) (h : listErr s ≠ 0) (w : World) :
    Calls Tryz.prog 42 #[.string s] w fun e w' => e = .returned (.tuple #[.string ⟨#[]⟩, .int .i64 (listErr s)]) ∧ w = w' := by
  by_cases hk : kindErr s = 0
  · have h5 : 598 < s.size := by
      unfold listErr at h; rw [if_pos hk] at h
      by_cases h5 : 598 < s.size
      · exact h5
      · rw [if_neg h5] at h; exact absurd rfl h
    have HE : Hid (listErr s = 1) := by show _ = _; simp [listErr, hk, h5]
    have h7 : (598 : Int) < (s.size : Int) := by omega
    clear h
    go_enter Tryz.func42, Tryz.ntmps42
    go_wp2_with fail
    refine (kindFault_any s hs _).mono ?_
    rintro e w' ⟨rfl, rfl⟩
    rw [hk]
    clear hk
    go_wp2
    go_ret2
    exact ⟨by rw [HE.out]; rfl, rfl⟩
  · have HE : Hid (listErr s = kindErr s) := by show _ = _; simp [listErr, hk]
    have hk' : (kindErr s != 0) = true := by simpa using hk
    have hk2 : (kindErr s == 0) = false := by simpa using hk
    clear h hk
    go_enter Tryz.func42, Tryz.ntmps42
    go_wp2_with fail
    refine (kindFault_any s hs _).mono ?_
    rintro e w' ⟨rfl, rfl⟩
    go_wp2
    go_ret2
    exact ⟨by rw [HE.out]; rfl, rfl⟩

set_option maxRecDepth 100000 in
theorem kindList_good {s : ByteArray} (h : listErr s = 0) (w : World) :
    Calls Tryz.prog 42 #[.string s] w fun e w' => e = .returned (.tuple #[.string (wrapK s), .int .i64 0]) ∧ w = w' := by
  obtain ⟨hk, h5⟩ := listErr_ok h
  have h7 : ¬ (598 : Int) < (s.size : Int) := by omega
  have hs : s.size ≤ maxLen := by unfold maxLen; omega
  clear h
  go_enter Tryz.func42, Tryz.ntmps42
  go_wp2_with fail
  refine (kindFault_any s hs _).mono ?_
  rintro e w' ⟨rfl, rfl⟩
  rw [hk]
  clear hk
  go_wp2
  go_ret2
  exact ⟨rfl, rfl⟩

end Go.Proofs.YtcpnfkeoajeodaaGreatDoor
