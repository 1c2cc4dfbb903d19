/- What unify.Put and the reference's PutOf answer, at every two texts: the pattern with something in its variable's place. -/
import Derived.Test.YtpamadnckijfkadDoorReplace
import Derived.Test.YtpamadnckijfkadDoorUnify
namespace Go.Proofs.YtpamadnckijfkadDoor
open Go.RowKit
set_option maxRecDepth 100000

/-- b in every place of the variable's sign. -/
def substL (b : List UInt8) : List UInt8 → List UInt8
  | [] => []
  | c :: l => (if c = 42 then b else [c]) ++ substL b l

theorem substL_append (b : List UInt8) : ∀ l m : List UInt8, substL b (l ++ m) = substL b l ++ substL b m
  | [], m => rfl
  | c :: l, m => by simp [substL, substL_append b l m]

theorem substL_none (b : List UInt8) : ∀ l : List UInt8, (42 : UInt8) ∉ l → substL b l = l
  | [], _ => rfl
  | c :: l, h => by
    have h1 : c ≠ 42 := fun e => h (by rw [e]; exact List.mem_cons_self)
    have h2 : (42 : UInt8) ∉ l := fun e => h (List.mem_cons_of_mem _ e)
    simp [substL, h1, substL_none b l h2]

def putTo (p b : ByteArray) : ByteArray := ⟨(substL b.data.toList p.data.toList).toArray⟩
def putErr (p b : ByteArray) : Int := if kindErr p = 0 then (if hasVar p then (if kindErr b = 0 then (if 601 < p.size + b.size then 1 else 0) else kindErr b) else 0) else kindErr p
def putVal (p b : ByteArray) : ByteArray := if putErr p b = 0 then (if hasVar p then putTo p b else p) else ⟨#[]⟩

theorem inner_list {s : ByteArray} (h : isList s = true) : s.data.toList = 91 :: (inner s).data.toList ++ [93] := by
  have h2 := isList_size h
  have hz : s.data.toList.length = s.size := (Lib.size_eq s).symm
  unfold isList at h
  simp only [Bool.and_eq_true, decide_eq_true_eq, beq_iff_eq] at h
  obtain ⟨_, ha, hb⟩ := h
  have e : (inner s).data.toList = (s.data.toList.drop 1).take (s.size - 1 - 1) := by
    unfold inner; rw [Lib.extract_data]
  rw [e]
  unfold kAt at ha hb
  match hl : s.data.toList, hz with
  | [], hz => simp at hz; omega
  | c :: l, hz =>
    rw [hl] at ha hb
    simp at hz
    have hc : c = 91 := by
      have h' : ((c.toNat : Nat) : Int) = 91 := by simpa using ha
      have : c.toNat = 91 := by omega
      exact UInt8.toNat_inj.1 (by rw [this]; rfl)
    rw [hc]
    simp only [List.drop_succ_cons, List.drop_zero, List.cons_append, List.cons.injEq, true_and]
    have hlen : l.length = s.size - 1 := by omega
    have hne : l ≠ [] := by intro h; rw [h] at hlen; simp at hlen; omega
    have hlast : l.getLast hne = 93 := by
      rw [List.getLast_eq_getElem]
      have : ((c :: l).getD (s.size - 1) 0) = l[l.length - 1]'(by omega) := by
        rw [show s.size - 1 = (l.length - 1) + 1 by omega, List.getD_cons_succ, List.getD_eq_getElem?_getD, List.getElem?_eq_getElem (by omega)]
        rfl
      rw [this] at hb
      exact UInt8.toNat_inj.1 (by have h' : (l[l.length - 1]'(by omega)).toNat = 93 := by omega
                                  rw [h']; rfl)
    rw [← hlast, show s.size - 1 - 1 = l.length - 1 by omega, ← List.dropLast_eq_take, List.dropLast_concat_getLast hne]

theorem isBase_var {t : ByteArray} (h : isBase t = true) (hv : hasVar t = true) : t.data.toList = [42] := by
  unfold isBase at h
  simp only [Bool.or_eq_true, beq_iff_eq, Lib.toList_data] at h
  unfold hasVar at hv
  rcases h with h | h | h
  · rw [h] at hv; exact absurd hv (by decide)
  · rw [h] at hv; exact absurd hv (by decide)
  · exact h

/-- a kind that has a variable has it once. -/
theorem var_once (n : Nat) : ∀ (p : ByteArray), p.size ≤ n → isBase (kcore p) = true → hasVar p = true → ∃ pre post : List UInt8, p.data.toList = pre ++ 42 :: post ∧ (42 : UInt8) ∉ pre ∧ (42 : UInt8) ∉ post := by
  induction n with
  | zero =>
    intro p hp hb hv
    have l1 : isList p = false := by
      cases e : isList p with
      | false => rfl
      | true => have := isList_size e; omega
    rw [kcore_no l1] at hb
    exact ⟨[], [], by rw [isBase_var hb hv]; rfl, by simp, by simp⟩
  | succ n ih =>
    intro p hp hb hv
    cases l1 : isList p with
    | false =>
      rw [kcore_no l1] at hb
      exact ⟨[], [], by rw [isBase_var hb hv]; rfl, by simp, by simp⟩
    | true =>
      have h2 := isList_size l1
      have hz := inner_size h2
      have e := inner_list l1
      rw [kcore_in l1] at hb
      obtain ⟨pre, post, h1, h3, h4⟩ := ih (inner p) (by omega) hb (by
        unfold hasVar at hv ⊢
        rw [List.contains_iff_mem] at hv ⊢
        rw [e] at hv
        simpa using hv)
      refine ⟨91 :: pre, post ++ [93], by rw [e, h1]; simp, ?_, ?_⟩
      · simpa using h3
      · simpa using h4

theorem kindErr_base {p : ByteArray} (h : kindErr p = 0) : isBase (kcore p) = true := by
  unfold kindErr at h
  split at h
  · cases h
  · split at h
    · assumption
    · cases h

theorem putTo_once {p b : ByteArray} {pre post : List UInt8} (h : p.data.toList = pre ++ 42 :: post) (h1 : (42 : UInt8) ∉ pre) (h2 : (42 : UInt8) ∉ post) : putTo p b = ⟨(pre ++ b.data.toList ++ post).toArray⟩ := by
  unfold putTo
  rw [h, substL_append, substL_none _ pre h1]
  show (⟨(pre ++ (b.data.toList ++ substL b.data.toList post)).toArray⟩ : ByteArray) = _
  rw [substL_none _ post h2, List.append_assoc]

theorem putTo_none {p b : ByteArray} (h : hasVar p = false) : putTo p b = p := by
  unfold putTo
  rw [substL_none _ _ (by intro e; rw [← List.contains_iff_mem] at e; unfold hasVar at h; rw [h] at e; cases e), Lib.mk_data]

theorem putTo_size {p b : ByteArray} (hp : kindErr p = 0) (hv : hasVar p = true) : (putTo p b).size + 1 = p.size + b.size := by
  obtain ⟨pre, post, h, h1, h2⟩ := var_once p.size p (Nat.le_refl _) (kindErr_base hp) hv
  rw [putTo_once h h1 h2, Lib.size_eq p, h, Lib.size_eq b]
  show (pre ++ b.data.toList ++ post).toArray.size + 1 = _
  simp
  omega

set_option maxHeartbeats 1000000 in
theorem put_any (p b : ByteArray) (hp : p.size ≤ maxLen) (hb : b.size ≤ maxLen) (w : World) :
    Calls Tryd.prog 6 #[.string p, .string b] w fun e w' => e = .returned (.tuple #[.string (putVal p b), .int .i64 (putErr p b)]) ∧ Below w.heap.size w w' := by
  by_cases h1 : kindErr p = 0
  · have zp := kindErr_size h1
    cases hv : hasVar p with
    | false =>
      have HE : Hid (putErr p b = 0) := by show _ = _; unfold putErr; rw [if_pos h1, hv]; rfl
      have HV : Hid (putVal p b = p) := by show _ = _; unfold putVal; rw [if_pos HE.out, hv]; rfl
      go_enter Tryd.func6, Tryd.ntmps6
      go_wp2_with fail
      refine (check_kind p hp _).mono ?_
      rintro e w1 ⟨rfl, rfl⟩
      rw [h1]
      go_wp2_with fail
      refine (open_any p _).mono ?_
      rintro e w1 ⟨rfl, rfl⟩
      rw [hv]
      go_wp2_with fail
      refine (clone_kind p _ (by omega)).mono ?_
      rintro e w1 ⟨rfl, hb1⟩
      go_wp2_with fail
      go_ret2
      exact ⟨by rw [HE.out, HV.out]; rfl, hb1⟩
    | true =>
      by_cases h2 : kindErr b = 0
      · have zb := kindErr_size h2
        obtain ⟨pre, post, hq, hq1, hq2⟩ := var_once p.size p (Nat.le_refl _) (kindErr_base h1) hv
        have HR := veilK (fun w => replace_one p b pre post hq hq1 hq2 zp zb w)
        have HO := veilK (@putTo_once p b pre post hq hq1 hq2)
        have HZ := veilK (@putTo_size p b h1 hv)
        clear hq hq1 hq2
        by_cases h6 : 601 < p.size + b.size
        · have HE : Hid (putErr p b = 1) := by show _ = _; unfold putErr; rw [if_pos h1, hv, if_pos h2, if_pos h6]; rfl
          have HV : Hid (putVal p b = ⟨#[]⟩) := by show _ = _; unfold putVal; rw [if_neg (by rw [HE.out]; decide)]
          have h6' : (600 : Int) < (p.size : Int) - 1 + (b.size : Int) := by omega
          go_enter Tryd.func6, Tryd.ntmps6
          go_wp2_with fail
          refine (check_kind p hp _).mono ?_
          rintro e w1 ⟨rfl, rfl⟩
          rw [h1]
          go_wp2_with fail
          refine (open_any p _).mono ?_
          rintro e w1 ⟨rfl, rfl⟩
          rw [hv]
          go_wp2_with fail
          refine (check_kind b hb _).mono ?_
          rintro e w1 ⟨rfl, rfl⟩
          rw [h2]
          go_wp2_with fail
          go_ret2
          exact ⟨by rw [HE.out, HV.out]; rfl, Below.refl _ _⟩
        · have HE : Hid (putErr p b = 0) := by show _ = _; unfold putErr; rw [if_pos h1, hv, if_pos h2, if_neg h6]; rfl
          have HV : Hid (putVal p b = putTo p b) := by show _ = _; unfold putVal; rw [if_pos HE.out, hv]; rfl
          have h6' : ¬ (600 : Int) < (p.size : Int) - 1 + (b.size : Int) := by omega
          go_enter Tryd.func6, Tryd.ntmps6
          go_wp2_with fail
          refine (check_kind p hp _).mono ?_
          rintro e w1 ⟨rfl, rfl⟩
          rw [h1]
          go_wp2_with fail
          refine (open_any p _).mono ?_
          rintro e w1 ⟨rfl, rfl⟩
          rw [hv]
          go_wp2_with fail
          refine (check_kind b hb _).mono ?_
          rintro e w1 ⟨rfl, rfl⟩
          rw [h2]
          go_wp2_with fail
          refine (HR.out _).mono ?_
          rintro e w2 ⟨rfl, hb2⟩
          rw [← HO.out]
          have hz := HZ.out
          go_wp2_with fail
          refine (clone_kind (putTo p b) _ (by omega)).mono ?_
          rintro e w3 ⟨rfl, hb3⟩
          have HB3 := veilK (hb2.trans (hb3.mono hb2.size))
          clear hb2 hb3
          go_wp2_with fail
          go_ret2
          exact ⟨by rw [HE.out, HV.out]; rfl, HB3.out⟩
      · have HE : Hid (putErr p b = kindErr b) := by show _ = _; unfold putErr; rw [if_pos h1, hv, if_neg h2]; rfl
        have HV : Hid (putVal p b = ⟨#[]⟩) := by show _ = _; unfold putVal; rw [if_neg (by rw [HE.out]; exact h2)]
        have h2' : (kindErr b != 0) = true := by simpa using h2
        clear h2
        go_enter Tryd.func6, Tryd.ntmps6
        go_wp2_with fail
        refine (check_kind p hp _).mono ?_
        rintro e w1 ⟨rfl, rfl⟩
        rw [h1]
        clear h1
        go_wp2_with fail
        refine (open_any p _).mono ?_
        rintro e w1 ⟨rfl, rfl⟩
        rw [hv]
        clear hv
        go_wp2_with fail
        refine (check_kind b hb _).mono ?_
        rintro e w1 ⟨rfl, rfl⟩
        go_wp2_with fail
        go_ret2
        exact ⟨by rw [HE.out, HV.out]; rfl, Below.refl _ _⟩
  · have HE : Hid (putErr p b = kindErr p) := by show _ = _; unfold putErr; rw [if_neg h1]
    have HV : Hid (putVal p b = ⟨#[]⟩) := by show _ = _; unfold putVal; rw [if_neg (by rw [HE.out]; exact h1)]
    have h1' : (kindErr p != 0) = true := by simpa using h1
    clear h1
    go_enter Tryd.func6, Tryd.ntmps6
    go_wp2_with fail
    refine (check_kind p hp _).mono ?_
    rintro e w1 ⟨rfl, rfl⟩
    go_wp2_with fail
    go_ret2
    exact ⟨by rw [HE.out, HV.out]; rfl, Below.refl _ _⟩

end Go.Proofs.YtpamadnckijfkadDoor
