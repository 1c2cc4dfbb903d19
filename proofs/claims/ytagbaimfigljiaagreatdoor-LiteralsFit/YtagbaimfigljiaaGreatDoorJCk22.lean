import Derived.Test.YtagbaimfigljiaaGreatDoorJCk12
import Derived.Test.YtagbaimfigljiaaGreatDoorJCk21
import Derived.Deep.RegionWith
namespace Go.Proofs.YtagbaimfigljiaaGreatDoor
open Go.RowKit
set_option maxRecDepth 100000

/-- both out of their lists, as long as both are some. -/
def unw (p i : ByteArray) : ByteArray × ByteArray := if isList p = true ∧ isList i = true then unw (inner p) (inner i) else (p, i)
termination_by p.size
decreasing_by rename_i h; rw [inner_size (isList_size h.1)]; have := isList_size h.1; omega

theorem unw_in {p i : ByteArray} (h : isList p = true) (h' : isList i = true) : unw p i = unw (inner p) (inner i) := by rw [unw.eq_1 p i]; simp [h, h']
theorem unw_no {p i : ByteArray} (h : isList p = false ∨ isList i = false) : unw p i = (p, i) := by
  rw [unw.eq_1 p i, if_neg]
  rintro ⟨h1, h2⟩
  rcases h with h | h
  · rw [h] at h1; cases h1
  · rw [h] at h2; cases h2

def argErr (p i b : ByteArray) : Int := if kindErr p = 0 then (if kindErr i = 0 then (if b.toList == [] then 0 else kindErr b) else kindErr i) else kindErr p
def fitErr (p i b : ByteArray) : Int := if p.toList == [42] then (if b.toList == [] then 0 else if b.toList == i.toList then 0 else 8) else if p.toList == i.toList then 0 else 8
def fitVal (p i b : ByteArray) : ByteArray := if p.toList == [42] then i else b
def matchErr (p i b : ByteArray) : Int := if argErr p i b = 0 then fitErr (unw p i).1 (unw p i).2 b else argErr p i b
def matchVal (p i b : ByteArray) : ByteArray := if matchErr p i b = 0 then fitVal (unw p i).1 (unw p i).2 b else ⟨#[]⟩

theorem argErr_ok {p i b : ByteArray} (h : argErr p i b = 0) : kindErr p = 0 ∧ kindErr i = 0 ∧ ((b.toList == []) = true ∨ kindErr b = 0) := by
  unfold argErr at h
  split at h
  · split at h
    · split at h
      · exact ⟨by assumption, by assumption, .inl (by assumption)⟩
      · exact ⟨by assumption, by assumption, .inr h⟩
    · exact absurd h (by assumption)
  · exact absurd h (by assumption)

theorem empty_size {b : ByteArray} (h : (b.toList == []) = true) : b.size = 0 := by
  have h' : b.toList = [] := by simpa using h
  rw [Lib.toList_data] at h'
  have : b.data.toList.length = 0 := by rw [h']; rfl
  simpa using this

theorem argErr_size {p i b : ByteArray} (h : argErr p i b = 0) : p.size ≤ 600 ∧ i.size ≤ 600 ∧ b.size ≤ 600 := by
  obtain ⟨h1, h2, h3⟩ := argErr_ok h
  refine ⟨kindErr_size h1, kindErr_size h2, ?_⟩
  rcases h3 with h3 | h3
  · rw [empty_size h3]; omega
  · exact kindErr_size h3

set_option maxHeartbeats 1000000 in
theorem checkAll_any (p i b : ByteArray) (hp : p.size ≤ maxLen) (hi : i.size ≤ maxLen) (hb : b.size ≤ maxLen) (w : World) :
    Calls Tryz.prog 364 #[.string p, .string i, .string b] w fun e w' => e = .returned (.int .i64 (argErr p i b)) ∧ w = w' := by
  by_cases h1 : kindErr p = 0
  · by_cases h2 : kindErr i = 0
    · cases h3 : (b.toList == []) with
      | true =>
        have HE : Hid (argErr p i b = 0) := by show _ = _; unfold argErr; simp [h1, h2, h3]
        go_enter Tryz.func364, Tryz.ntmps364
        go_wp2_with fail
        refine (check_kind p hp _).mono ?_
        rintro e w' ⟨rfl, rfl⟩
        rw [h1]
        go_wp2_with fail
        refine (check_kind i hi _).mono ?_
        rintro e w' ⟨rfl, rfl⟩
        rw [h2]
        go_wp2
        go_ret
        exact ⟨by rw [HE.out]; rfl, rfl⟩
      | false =>
        have HE : Hid (argErr p i b = kindErr b) := by show _ = _; unfold argErr; rw [if_pos h1, if_pos h2, h3]; simp
        go_enter Tryz.func364, Tryz.ntmps364
        go_wp2_with fail
        refine (check_kind p hp _).mono ?_
        rintro e w' ⟨rfl, rfl⟩
        rw [h1]
        go_wp2_with fail
        refine (check_kind i hi _).mono ?_
        rintro e w' ⟨rfl, rfl⟩
        rw [h2]
        go_wp2_with fail
        refine (check_kind b hb _).mono ?_
        rintro e w' ⟨rfl, rfl⟩
        go_wp2
        go_ret
        exact ⟨by rw [HE.out]; rfl, rfl⟩
    · have HE : Hid (argErr p i b = kindErr i) := by show _ = _; unfold argErr; rw [if_pos h1, if_neg h2]
      have h2' : (kindErr i != 0) = true := by simpa using h2
      go_enter Tryz.func364, Tryz.ntmps364
      go_wp2_with fail
      refine (check_kind p hp _).mono ?_
      rintro e w' ⟨rfl, rfl⟩
      rw [h1]
      clear h1 h2
      go_wp2_with fail
      refine (check_kind i hi _).mono ?_
      rintro e w' ⟨rfl, rfl⟩
      go_wp2
      go_ret
      exact ⟨by rw [HE.out]; rfl, rfl⟩
  · have HE : Hid (argErr p i b = kindErr p) := by show _ = _; unfold argErr; rw [if_neg h1]
    have h1' : (kindErr p != 0) = true := by simpa using h1
    clear h1
    go_enter Tryz.func364, Tryz.ntmps364
    go_wp2_with fail
    refine (check_kind p hp _).mono ?_
    rintro e w' ⟨rfl, rfl⟩
    go_wp2
    go_ret
    exact ⟨by rw [HE.out]; rfl, rfl⟩

set_option maxHeartbeats 1000000 in
theorem unwrap_any (p i : ByteArray) (hp : p.size ≤ 600) (hi : i.size ≤ 600) (w : World) :
    Calls Tryz.prog 365 #[.string p, .string i] w fun e w' => e = .returned (.tuple #[.string (unw p i).1, .string (unw p i).2]) ∧ Below w.heap.size w w' := by
  go_enter Tryz.func365, Tryz.ntmps365
  go_wp2_with fail
  go_loopw [0, 1] (fun v u wr => ∃ a b : ByteArray, a.size ≤ 600 ∧ b.size ≤ 600 ∧ v = .string a ∧ u = .string b ∧ unw a b = unw p i ∧ Below w.heap.size w wr) (fun v _ _ => (textOfV v).size)
  case atStart => exact ⟨p, i, hp, hi, rfl, rfl, rfl, Below.refl _ _⟩
  case round =>
    obtain ⟨a, b, ha, hb, rfl, rfl, hu, hbl⟩ := hrel
    have HU := veilK hu
    have HB := veilK hbl
    clear hu hbl
    cases h1 : isList a with
    | true =>
      cases h2 : isList b with
      | true =>
        have HI := veilK (unw_in h1 h2)
        have HS1 := veilK (inner_size (isList_size h1))
        have HS2 := veilK (inner_size (isList_size h2))
        have HL := veilK (isList_size h1)
        go_wp2_with fail
        refine (elem_list (by omega) h1 _).mono ?_
        rintro e w1 ⟨rfl, hb1⟩
        have HB1 := veilK (HB.out.trans (hb1.mono HB.out.size))
        clear hb1 HB
        go_wp2_with fail
        refine (elem_list (by omega) h2 _).mono ?_
        rintro e w2 ⟨rfl, hb2⟩
        have HB2 := veilK (HB1.out.trans (hb2.mono HB1.out.size))
        clear hb2 HB1 h1 h2
        go_wp2_with fail
        go_roundw
        case rel => exact ⟨inner a, inner b, by rw [HS1.out]; omega, by rw [HS2.out]; omega, rfl, rfl, by rw [← HI.out]; exact HU.out, HB2.out⟩
        case measure => show (inner a).size < a.size; have := HL.out; rw [HS1.out]; omega
      | false =>
        have HN := veilK (unw_no (p := a) (i := b) (.inr h2))
        go_wp2_with fail
        refine (elem_list (by omega) h1 _).mono ?_
        rintro e w1 ⟨rfl, hb1⟩
        have HB1 := veilK (HB.out.trans (hb1.mono HB.out.size))
        clear hb1 HB
        go_wp2_with fail
        refine (elem_none (by unfold maxLen; omega) h2 _).mono ?_
        rintro e w2 ⟨rfl, rfl⟩
        clear h1 h2
        go_wp2_with fail
        go_ret2
        exact ⟨by rw [← HU.out, HN.out]; rfl, HB1.out⟩
    | false =>
      have HN := veilK (unw_no (p := a) (i := b) (.inl h1))
      go_wp2_with fail
      refine (elem_none (by unfold maxLen; omega) h1 _).mono ?_
      rintro e w1 ⟨rfl, rfl⟩
      cases h2 : isList b with
      | true =>
        go_wp2_with fail
        refine (elem_list (by omega) h2 _).mono ?_
        rintro e w2 ⟨rfl, hb2⟩
        have HB2 := veilK (HB.out.trans (hb2.mono HB.out.size))
        clear hb2 HB h1 h2
        go_wp2_with fail
        go_ret2
        exact ⟨by rw [← HU.out, HN.out]; rfl, HB2.out⟩
      | false =>
        go_wp2_with fail
        refine (elem_none (by unfold maxLen; omega) h2 _).mono ?_
        rintro e w2 ⟨rfl, rfl⟩
        clear h1 h2
        go_wp2_with fail
        go_ret2
        exact ⟨by rw [← HU.out, HN.out]; rfl, HB.out⟩

theorem unw_size (p i : ByteArray) : (unw p i).1.size ≤ p.size ∧ (unw p i).2.size ≤ i.size := by
  by_cases h : isList p = true ∧ isList i = true
  · have z1 := inner_size (isList_size h.1)
    have z2 := inner_size (isList_size h.2)
    have := unw_size (inner p) (inner i)
    rw [unw_in h.1 h.2]
    omega
  · rw [unw_no]
    · exact ⟨Nat.le_refl _, Nat.le_refl _⟩
    · cases h1 : isList p with
      | false => exact .inl rfl
      | true =>
        cases h2 : isList i with
        | false => exact .inr rfl
        | true => exact absurd ⟨h1, h2⟩ h
termination_by p.size
decreasing_by have := isList_size h.1; omega

def bindErr (i b : ByteArray) : Int := if b.toList == [] then 0 else if b.toList == i.toList then 0 else 8
def bindVal (i b : ByteArray) : ByteArray := if bindErr i b = 0 then i else ⟨#[]⟩

theorem bind_any (i b : ByteArray) (hi : i.size ≤ 600) (w : World) :
    Calls Tryz.prog 366 #[.string i, .string b] w fun e w' => e = .returned (.tuple #[.string (bindVal i b), .int .i64 (bindErr i b)]) ∧ Below w.heap.size w w' := by
  cases h2 : (b.toList == []) with
  | true =>
    have HF : Hid (bindErr i b = 0) := by show _ = _; unfold bindErr; rw [h2]; simp
    have HW : Hid (bindVal i b = i) := by show _ = _; unfold bindVal; rw [if_pos HF.out]
    go_enter Tryz.func366, Tryz.ntmps366
    go_wp2_with fail
    refine (clone_kind i _ (by omega)).mono ?_
    rintro e w3 ⟨rfl, hb3⟩
    go_wp2_with fail
    go_ret2
    exact ⟨by rw [HF.out, HW.out]; rfl, hb3⟩
  | false =>
    have h2' : (b.toList != []) = true := by rw [bne, h2]; rfl
    cases h3 : (b.toList == i.toList) with
    | true =>
      have HF : Hid (bindErr i b = 0) := by show _ = _; unfold bindErr; rw [h2, h3]; simp
      have HW : Hid (bindVal i b = i) := by show _ = _; unfold bindVal; rw [if_pos HF.out]
      have h3' : (b.toList != i.toList) = false := by rw [bne, h3]; rfl
      go_enter Tryz.func366, Tryz.ntmps366
      go_wp2_with fail
      refine (clone_kind i _ (by omega)).mono ?_
      rintro e w3 ⟨rfl, hb3⟩
      go_wp2_with fail
      go_ret2
      exact ⟨by rw [HF.out, HW.out]; rfl, hb3⟩
    | false =>
      have HF : Hid (bindErr i b = 8) := by show _ = _; unfold bindErr; rw [h2, h3]; simp
      have HW : Hid (bindVal i b = ⟨#[]⟩) := by show _ = _; unfold bindVal; rw [if_neg (by rw [HF.out]; decide)]
      have h3' : (b.toList != i.toList) = true := by rw [bne, h3]; rfl
      go_enter Tryz.func366, Tryz.ntmps366
      go_wp2_with fail
      go_ret2
      exact ⟨by rw [HF.out, HW.out]; rfl, Below.refl _ _⟩

set_option maxHeartbeats 1000000 in
theorem match_any (p i b : ByteArray) (hp : p.size ≤ maxLen) (hi : i.size ≤ maxLen) (hb : b.size ≤ maxLen) (w : World) :
    Calls Tryz.prog 354 #[.string p, .string i, .string b] w fun e w' => e = .returned (.tuple #[.string (matchVal p i b), .int .i64 (matchErr p i b)]) ∧ Below w.heap.size w w' := by
  by_cases h0 : argErr p i b = 0
  · obtain ⟨zp, zi, zb⟩ := argErr_size h0
    have HU := veilK (unwrap_any p i zp zi w)
    have zu := unw_size p i
    have HE : Hid (matchErr p i b = fitErr (unw p i).1 (unw p i).2 b) := by show _ = _; unfold matchErr; rw [if_pos h0]
    have HV : Hid (matchErr p i b = 0 → matchVal p i b = fitVal (unw p i).1 (unw p i).2 b) := by intro h; unfold matchVal; rw [if_pos h]
    have HV' : Hid (matchErr p i b ≠ 0 → matchVal p i b = ⟨#[]⟩) := by intro h; unfold matchVal; rw [if_neg h]
    go_enter Tryz.func354, Tryz.ntmps354
    go_wp2_with fail
    refine (checkAll_any p i b hp hi hb _).mono ?_
    rintro e w1 ⟨rfl, rfl⟩
    rw [h0]
    go_wp2_with fail
    refine HU.out.mono ?_
    rintro e w2 ⟨rfl, hb2⟩
    clear HU h0
    generalize (unw p i).1 = q at *
    generalize (unw p i).2 = j at *
    cases h1 : (q.toList == [42]) with
    | true =>
      have HF : Hid (matchErr p i b = bindErr j b) := by show _ = _; rw [HE.out]; unfold fitErr; rw [h1]; rfl
      have HW : Hid (matchVal p i b = bindVal j b) := by
        show _ = _
        unfold bindVal
        rw [← HF.out]
        split
        · next h => rw [HV.out h]; unfold fitVal; rw [h1]; rfl
        · next h => rw [HV'.out h]
      clear HE HV HV'
      go_wp2_with fail
      refine (bind_any j b (by omega) _).mono ?_
      rintro e w3 ⟨rfl, hb3⟩
      have HB3 := veilK (hb2.trans (hb3.mono hb2.size))
      clear hb2 hb3
      go_wp2_with fail
      go_ret2
      exact ⟨by rw [HF.out, HW.out]; rfl, HB3.out⟩
    | false =>
      cases h2 : (q.toList == j.toList) with
      | true =>
        have HF : Hid (matchErr p i b = 0) := by show _ = _; rw [HE.out]; unfold fitErr; rw [h1, h2]; rfl
        have HW : Hid (matchVal p i b = b) := by show _ = _; rw [HV.out HF.out]; unfold fitVal; rw [h1]; rfl
        have h2' : (q.toList != j.toList) = false := by rw [bne, h2]; rfl
        clear HE HV HV'
        go_wp2_with fail
        refine (clone_kind b _ (by omega)).mono ?_
        rintro e w3 ⟨rfl, hb3⟩
        have HB3 := veilK (hb2.trans (hb3.mono hb2.size))
        clear hb2 hb3
        go_wp2_with fail
        go_ret2
        exact ⟨by rw [HF.out, HW.out]; rfl, HB3.out⟩
      | false =>
        have HF : Hid (matchErr p i b = 8) := by show _ = _; rw [HE.out]; unfold fitErr; rw [h1, h2]; rfl
        have HW : Hid (matchVal p i b = ⟨#[]⟩) := HV'.out (by rw [HF.out]; decide)
        have h2' : (q.toList != j.toList) = true := by rw [bne, h2]; rfl
        clear HE HV HV'
        go_wp2_with fail
        go_ret2
        exact ⟨by rw [HF.out, HW.out]; rfl, hb2⟩
  · have HE : Hid (matchErr p i b = argErr p i b) := by show _ = _; unfold matchErr; rw [if_neg h0]
    have HV : Hid (matchVal p i b = ⟨#[]⟩) := by show _ = _; unfold matchVal matchErr; rw [if_neg h0, if_neg h0]
    have h0' : (argErr p i b != 0) = true := by simpa using h0
    clear h0
    go_enter Tryz.func354, Tryz.ntmps354
    go_wp2_with fail
    refine (checkAll_any p i b hp hi hb _).mono ?_
    rintro e w1 ⟨rfl, rfl⟩
    go_wp2_with fail
    go_ret2
    exact ⟨by rw [HE.out, HV.out]; rfl, Below.refl _ _⟩


end Go.Proofs.YtagbaimfigljiaaGreatDoor
namespace Go.Proofs.YtagbaimfigljiaaGreatDoor
open Go.RowKit
set_option maxRecDepth 100000

/-- b in every place of the variable's sign. -/
def substL (b : List UInt8) : List UInt8 → List UInt8
  | [] => []
  | c :: l => (if c = 42 then b else [c]) ++ substL b l

theorem substL_append (b : List UInt8) : ∀ l m : List UInt8, substL b (l ++ m) = substL b l ++ substL b m
  | [], m => rfl
  | c :: l, m => by simp [substL, substL_append b l m]

theorem substL_none (b : List UInt8) : ∀ l : List UInt8, (42 : UInt8) ∉ l → substL b l = l
  | [], _ => rfl
  | c :: l, h => by
    have h1 : c ≠ 42 := fun e => h (by rw [e]; exact List.mem_cons_self)
    have h2 : (42 : UInt8) ∉ l := fun e => h (List.mem_cons_of_mem _ e)
    simp [substL, h1, substL_none b l h2]

def putTo (p b : ByteArray) : ByteArray := ⟨(substL b.data.toList p.data.toList).toArray⟩
def putErr (p b : ByteArray) : Int := if kindErr p = 0 then (if hasVar p then (if kindErr b = 0 then (if 601 < p.size + b.size then 1 else 0) else kindErr b) else 0) else kindErr p
def putVal (p b : ByteArray) : ByteArray := if putErr p b = 0 then (if hasVar p then putTo p b else p) else ⟨#[]⟩

theorem inner_list {s : ByteArray} (h : isList s = true) : s.data.toList = 91 :: (inner s).data.toList ++ [93] := by
  have h2 := isList_size h
  have hz : s.data.toList.length = s.size := (Lib.size_eq s).symm
  unfold isList at h
  simp only [Bool.and_eq_true, decide_eq_true_eq, beq_iff_eq] at h
  obtain ⟨_, ha, hb⟩ := h
  have e : (inner s).data.toList = (s.data.toList.drop 1).take (s.size - 1 - 1) := by
    unfold inner; rw [Lib.extract_data]
  rw [e]
  unfold kAt at ha hb
  match hl : s.data.toList, hz with
  | [], hz => simp at hz; omega
  | c :: l, hz =>
    rw [hl] at ha hb
    simp at hz
    have hc : c = 91 := by
      have h' : ((c.toNat : Nat) : Int) = 91 := by simpa using ha
      have : c.toNat = 91 := by omega
      exact UInt8.toNat_inj.1 (by rw [this]; rfl)
    rw [hc]
    simp only [List.drop_succ_cons, List.drop_zero, List.cons_append, List.cons.injEq, true_and]
    have hlen : l.length = s.size - 1 := by omega
    have hne : l ≠ [] := by intro h; rw [h] at hlen; simp at hlen; omega
    have hlast : l.getLast hne = 93 := by
      rw [List.getLast_eq_getElem]
      have : ((c :: l).getD (s.size - 1) 0) = l[l.length - 1]'(by omega) := by
        rw [show s.size - 1 = (l.length - 1) + 1 by omega, List.getD_cons_succ, List.getD_eq_getElem?_getD, List.getElem?_eq_getElem (by omega)]
        rfl
      rw [this] at hb
      exact UInt8.toNat_inj.1 (by have h' : (l[l.length - 1]'(by omega)).toNat = 93 := by omega
                                  rw [h']; rfl)
    rw [← hlast, show s.size - 1 - 1 = l.length - 1 by omega, ← List.dropLast_eq_take, List.dropLast_concat_getLast hne]

theorem isBase_var {t : ByteArray} (h : isBase t = true) (hv : hasVar t = true) : t.data.toList = [42] := by
  unfold isBase at h
  simp only [Bool.or_eq_true, beq_iff_eq, Lib.toList_data] at h
  unfold hasVar at hv
  rcases h with h | h | h
  · rw [h] at hv; exact absurd hv (by decide)
  · rw [h] at hv; exact absurd hv (by decide)
  · exact h

/-- a kind that has a variable has it once. -/
theorem var_once (n : Nat) : ∀ (p : ByteArray), p.size ≤ n → isBase (kcore p) = true → hasVar p = true → ∃ pre post : List UInt8, p.data.toList = pre ++ 42 :: post ∧ (42 : UInt8) ∉ pre ∧ (42 : UInt8) ∉ post := by
  induction n with
  | zero =>
    intro p hp hb hv
    have l1 : isList p = false := by
      cases e : isList p with
      | false => rfl
      | true => have := isList_size e; omega
    rw [kcore_no l1] at hb
    exact ⟨[], [], by rw [isBase_var hb hv]; rfl, by simp, by simp⟩
  | succ n ih =>
    intro p hp hb hv
    cases l1 : isList p with
    | false =>
      rw [kcore_no l1] at hb
      exact ⟨[], [], by rw [isBase_var hb hv]; rfl, by simp, by simp⟩
    | true =>
      have h2 := isList_size l1
      have hz := inner_size h2
      have e := inner_list l1
      rw [kcore_in l1] at hb
      obtain ⟨pre, post, h1, h3, h4⟩ := ih (inner p) (by omega) hb (by
        unfold hasVar at hv ⊢
        rw [List.contains_iff_mem] at hv ⊢
        rw [e] at hv
        simpa using hv)
      refine ⟨91 :: pre, post ++ [93], by rw [e, h1]; simp, ?_, ?_⟩
      · simpa using h3
      · simpa using h4

theorem kindErr_base {p : ByteArray} (h : kindErr p = 0) : isBase (kcore p) = true := by
  unfold kindErr at h
  split at h
  · cases h
  · split at h
    · assumption
    · cases h

theorem putTo_once {p b : ByteArray} {pre post : List UInt8} (h : p.data.toList = pre ++ 42 :: post) (h1 : (42 : UInt8) ∉ pre) (h2 : (42 : UInt8) ∉ post) : putTo p b = ⟨(pre ++ b.data.toList ++ post).toArray⟩ := by
  unfold putTo
  rw [h, substL_append, substL_none _ pre h1]
  show (⟨(pre ++ (b.data.toList ++ substL b.data.toList post)).toArray⟩ : ByteArray) = _
  rw [substL_none _ post h2, List.append_assoc]

theorem putTo_size {p b : ByteArray} (hp : kindErr p = 0) (hv : hasVar p = true) : (putTo p b).size + 1 = p.size + b.size := by
  obtain ⟨pre, post, h, h1, h2⟩ := var_once p.size p (Nat.le_refl _) (kindErr_base hp) hv
  rw [putTo_once h h1 h2, Lib.size_eq p, h, Lib.size_eq b]
  show (pre ++ b.data.toList ++ post).toArray.size + 1 = _
  simp
  omega

set_option maxHeartbeats 1000000 in
theorem put_any (p b : ByteArray) (hp : p.size ≤ maxLen) (hb : b.size ≤ maxLen) (w : World) :
    Calls Tryz.prog 341 #[.string p, .string b] w fun e w' => e = .returned (.tuple #[.string (putVal p b), .int .i64 (putErr p b)]) ∧ Below w.heap.size w w' := by
  by_cases h1 : kindErr p = 0
  · have zp := kindErr_size h1
    cases hv : hasVar p with
    | false =>
      have HE : Hid (putErr p b = 0) := by show _ = _; unfold putErr; rw [if_pos h1, hv]; rfl
      have HV : Hid (putVal p b = p) := by show _ = _; unfold putVal; rw [if_pos HE.out, hv]; rfl
      go_enter Tryz.func341, Tryz.ntmps341
      go_wp2_with fail
      refine (check_kind p hp _).mono ?_
      rintro e w1 ⟨rfl, rfl⟩
      rw [h1]
      go_wp2_with fail
      refine (open_any p _).mono ?_
      rintro e w1 ⟨rfl, rfl⟩
      rw [hv]
      go_wp2_with fail
      refine (clone_kind p _ (by omega)).mono ?_
      rintro e w1 ⟨rfl, hb1⟩
      go_wp2_with fail
      go_ret2
      exact ⟨by rw [HE.out, HV.out]; rfl, hb1⟩
    | true =>
      by_cases h2 : kindErr b = 0
      · have zb := kindErr_size h2
        obtain ⟨pre, post, hq, hq1, hq2⟩ := var_once p.size p (Nat.le_refl _) (kindErr_base h1) hv
        have HR := veilK (fun w => replace_one p b pre post hq hq1 hq2 zp zb w)
        have HO := veilK (@putTo_once p b pre post hq hq1 hq2)
        have HZ := veilK (@putTo_size p b h1 hv)
        clear hq hq1 hq2
        by_cases h6 : 601 < p.size + b.size
        · have HE : Hid (putErr p b = 1) := by show _ = _; unfold putErr; rw [if_pos h1, hv, if_pos h2, if_pos h6]; rfl
          have HV : Hid (putVal p b = ⟨#[]⟩) := by show _ = _; unfold putVal; rw [if_neg (by rw [HE.out]; decide)]
          have h6' : (600 : Int) < (p.size : Int) - 1 + (b.size : Int) := by omega
          go_enter Tryz.func341, Tryz.ntmps341
          go_wp2_with fail
          refine (check_kind p hp _).mono ?_
          rintro e w1 ⟨rfl, rfl⟩
          rw [h1]
          go_wp2_with fail
          refine (open_any p _).mono ?_
          rintro e w1 ⟨rfl, rfl⟩
          rw [hv]
          go_wp2_with fail
          refine (check_kind b hb _).mono ?_
          rintro e w1 ⟨rfl, rfl⟩
          rw [h2]
          go_wp2_with fail
          go_ret2
          exact ⟨by rw [HE.out, HV.out]; rfl, Below.refl _ _⟩
        · have HE : Hid (putErr p b = 0) := by show _ = _; unfold putErr; rw [if_pos h1, hv, if_pos h2, if_neg h6]; rfl
          have HV : Hid (putVal p b = putTo p b) := by show _ = _; unfold putVal; rw [if_pos HE.out, hv]; rfl
          have h6' : ¬ (600 : Int) < (p.size : Int) - 1 + (b.size : Int) := by omega
          go_enter Tryz.func341, Tryz.ntmps341
          go_wp2_with fail
          refine (check_kind p hp _).mono ?_
          rintro e w1 ⟨rfl, rfl⟩
          rw [h1]
          go_wp2_with fail
          refine (open_any p _).mono ?_
          rintro e w1 ⟨rfl, rfl⟩
          rw [hv]
          go_wp2_with fail
          refine (check_kind b hb _).mono ?_
          rintro e w1 ⟨rfl, rfl⟩
          rw [h2]
          go_wp2_with fail
          refine (HR.out _).mono ?_
          rintro e w2 ⟨rfl, hb2⟩
          rw [← HO.out]
          have hz := HZ.out
          go_wp2_with fail
          refine (clone_kind (putTo p b) _ (by omega)).mono ?_
          rintro e w3 ⟨rfl, hb3⟩
          have HB3 := veilK (hb2.trans (hb3.mono hb2.size))
          clear hb2 hb3
          go_wp2_with fail
          go_ret2
          exact ⟨by rw [HE.out, HV.out]; rfl, HB3.out⟩
      · have HE : Hid (putErr p b = kindErr b) := by show _ = _; unfold putErr; rw [if_pos h1, hv, if_neg h2]; rfl
        have HV : Hid (putVal p b = ⟨#[]⟩) := by show _ = _; unfold putVal; rw [if_neg (by rw [HE.out]; exact h2)]
        have h2' : (kindErr b != 0) = true := by simpa using h2
        clear h2
        go_enter Tryz.func341, Tryz.ntmps341
        go_wp2_with fail
        refine (check_kind p hp _).mono ?_
        rintro e w1 ⟨rfl, rfl⟩
        rw [h1]
        clear h1
        go_wp2_with fail
        refine (open_any p _).mono ?_
        rintro e w1 ⟨rfl, rfl⟩
        rw [hv]
        clear hv
        go_wp2_with fail
        refine (check_kind b hb _).mono ?_
        rintro e w1 ⟨rfl, rfl⟩
        go_wp2_with fail
        go_ret2
        exact ⟨by rw [HE.out, HV.out]; rfl, Below.refl _ _⟩
  · have HE : Hid (putErr p b = kindErr p) := by show _ = _; unfold putErr; rw [if_neg h1]
    have HV : Hid (putVal p b = ⟨#[]⟩) := by show _ = _; unfold putVal; rw [if_neg (by rw [HE.out]; exact h1)]
    have h1' : (kindErr p != 0) = true := by simpa using h1
    clear h1
    go_enter Tryz.func341, Tryz.ntmps341
    go_wp2_with fail
    refine (check_kind p hp _).mono ?_
    rintro e w1 ⟨rfl, rfl⟩
    go_wp2_with fail
    go_ret2
    exact ⟨by rw [HE.out, HV.out]; rfl, Below.refl _ _⟩

end Go.Proofs.YtagbaimfigljiaaGreatDoor
namespace Go.Proofs.YtagbaimfigljiaaGreatDoor
open Go.RowKit
set_option maxRecDepth 100000

/-- a list of texts, as it lies in memory. -/
def StrRow (w : World) (v : Value) (l : List ByteArray) : Prop :=
  (l = [] ∧ ∃ a cap, v = .slice a 0 cap) ∨
  ∃ b off cap, v = .slice (some ⟨b, off, none⟩) l.length cap ∧ l.length ≤ maxLen ∧
    ∀ i, i < l.length → w.cell? ⟨b, off + i, none⟩ = some (.string (l.getD i .empty)) ∧ (l.getD i .empty).size ≤ maxLen

theorem StrRow.later {w w' : World} {v : Value} {l : List ByteArray} (h : StrRow w v l) (hb : Below w.heap.size w w') : StrRow w' v l := by
  rcases h with h | ⟨b, off, cap, hv, hm, hc⟩
  · exact .inl h
  · exact .inr ⟨b, off, cap, hv, hm, fun i hi => ⟨(hb.cell (World.block_lt_of_cell? _ _ (hc i hi).1)).trans (hc i hi).1, (hc i hi).2⟩⟩

theorem StrRow.some {w : World} {v : Value} {l : List ByteArray} (h : StrRow w v l) (hl : l ≠ []) : ∃ b off cap, v = .slice (some ⟨b, off, none⟩) l.length cap ∧ l.length ≤ maxLen ∧
    ∀ i, i < l.length → w.cell? ⟨b, off + i, none⟩ = some (.string (l.getD i .empty)) ∧ (l.getD i .empty).size ≤ maxLen := by
  rcases h with h | h
  · exact absurd h.1 hl
  · exact h

theorem StrRow.slice {w : World} {v : Value} {l : List ByteArray} (h : StrRow w v l) : ∃ a cap, v = .slice a l.length cap ∧ l.length ≤ maxLen := by
  rcases h with ⟨rfl, a, cap, rfl⟩ | ⟨b, off, cap, rfl, hm, _⟩
  · exact ⟨a, cap, rfl, Nat.zero_le _⟩
  · exact ⟨_, cap, rfl, hm⟩

/-- types one by one with what is there: what the variable stands for, and what is wrong. -/
def eachRes : List ByteArray → List ByteArray → ByteArray → ByteArray × Int
  | p :: ps, i :: is, b => if matchErr p i b = 0 then eachRes ps is (matchVal p i b) else (⟨#[]⟩, matchErr p i b)
  | _, _, b => (b, 0)

theorem eachRes_ok {ps is : List ByteArray} {k : Nat} {b : ByteArray} (hp : k < ps.length) (hi : k < is.length) (h : matchErr (ps.getD k .empty) (is.getD k .empty) b = 0) :
    eachRes (ps.drop k) (is.drop k) b = eachRes (ps.drop (k + 1)) (is.drop (k + 1)) (matchVal (ps.getD k .empty) (is.getD k .empty) b) := by
  rw [List.getD_eq_getElem?_getD, List.getElem?_eq_getElem hp, List.getD_eq_getElem?_getD, List.getElem?_eq_getElem hi] at h ⊢
  simp only [Option.getD_some] at h ⊢
  rw [List.drop_eq_getElem_cons hp, List.drop_eq_getElem_cons hi, eachRes, if_pos h]

theorem eachRes_bad {ps is : List ByteArray} {k : Nat} {b : ByteArray} (hp : k < ps.length) (hi : k < is.length) (h : matchErr (ps.getD k .empty) (is.getD k .empty) b ≠ 0) :
    eachRes (ps.drop k) (is.drop k) b = (⟨#[]⟩, matchErr (ps.getD k .empty) (is.getD k .empty) b) := by
  rw [List.getD_eq_getElem?_getD, List.getElem?_eq_getElem hp, List.getD_eq_getElem?_getD, List.getElem?_eq_getElem hi] at h ⊢
  simp only [Option.getD_some] at h ⊢
  rw [List.drop_eq_getElem_cons hp, List.drop_eq_getElem_cons hi, eachRes, if_neg h]

theorem matchVal_size (p i b : ByteArray) : (matchVal p i b).size ≤ 600 := by
  unfold matchVal
  split
  · next h =>
    have h0 : argErr p i b = 0 := by
      by_cases h0 : argErr p i b = 0
      · exact h0
      · unfold matchErr at h; rw [if_neg h0] at h; exact absurd h h0
    obtain ⟨zp, zi, zb⟩ := argErr_size h0
    have zu := unw_size p i
    unfold fitVal
    split
    · omega
    · exact zb
  · exact Nat.zero_le _

theorem eachRes_size : ∀ (ps is : List ByteArray) (b : ByteArray), b.size ≤ 600 → (eachRes ps is b).1.size ≤ 600
  | [], _, b, h => by simpa [eachRes] using h
  | _ :: _, [], b, h => by simpa [eachRes] using h
  | p :: ps, i :: is, b, h => by
    rw [eachRes]
    split
    · exact eachRes_size ps is _ (matchVal_size _ _ _)
    · exact Nat.zero_le _

set_option maxHeartbeats 2000000 in
theorem matchEach_any (v u : Value) (ps is : List ByteArray) (w : World) (hv : StrRow w v ps) (hu : StrRow w u is) (hl : is.length = ps.length) :
    Calls Tryz.prog 340 #[v, u] w fun e w' => e = .returned (.tuple #[.string (eachRes ps is ⟨#[]⟩).1, .int .i64 (eachRes ps is ⟨#[]⟩).2]) ∧ Below w.heap.size w w' := by
  by_cases h0 : ps = []
  · subst h0
    obtain ⟨a, cap, rfl, _⟩ := hv.slice
    obtain ⟨a', cap', rfl, _⟩ := hu.slice
    clear hv hu
    go_enter Tryz.func340, Tryz.ntmps340
    go_wp2
    refine wp_loop_rounds 1 ?_
    rw [rounds_succ]
    go_wp2
    go_ret2
    exact ⟨rfl, Below.refl _ _⟩
  · obtain ⟨b, off, cap, rfl, hm, hc⟩ := hv.some h0
    obtain ⟨b', off', cap', rfl, _, hc'⟩ := hu.some (by intro e; rw [e] at hl; exact h0 (List.length_eq_zero_iff.1 hl.symm))
    unfold maxLen at hm
    have HC := veilK hc
    have HC' := veilK hc'
    have HL := veilK hl
    rw [hl]
    clear hv hu hc hc' h0
    have hl0 : is.length = ps.length := HL.out
    go_enter Tryz.func340, Tryz.ntmps340
    go_wp2
    go_loopw [6, 13] (fun v i wr => ∃ (k : Nat) (bk : ByteArray), k ≤ ps.length ∧ v = .string bk ∧ i = .int .i64 k ∧ bk.size ≤ 600 ∧ eachRes (ps.drop k) (is.drop k) bk = eachRes ps is ⟨#[]⟩ ∧ Below w.heap.size w wr)
      (fun _ i _ => ps.length - (intOf i).toNat)
    case atStart => exact ⟨0, ⟨#[]⟩, Nat.zero_le _, rfl, rfl, Nat.zero_le _, rfl, Below.refl _ _⟩
    case round =>
      obtain ⟨k, bk, hk, rfl, rfl, hbk, hr, hbl⟩ := hrel
      by_cases hlt : k < ps.length
      · obtain ⟨c0, z0⟩ := HC.out k hlt
        obtain ⟨c1, z1⟩ := HC'.out k (by omega)
        have d0 := (hbl.cell (World.block_lt_of_cell? _ _ c0)).trans c0
        have d1 := (hbl.cell (World.block_lt_of_cell? _ _ c1)).trans c1
        have HOk := veilK (@eachRes_ok ps is k bk hlt (by omega))
        have HBad := veilK (@eachRes_bad ps is k bk hlt (by omega))
        have HR := veilK hr
        have HBl := veilK hbl
        clear c0 c1 hr hbl
        generalize ps.getD k .empty = p at *
        generalize is.getD k .empty = q at *
        have HM := veilK (fun w => match_any p q bk z0 z1 (by unfold maxLen; omega) w)
        have HZ := veilK (matchVal_size p q bk)
        by_cases he : matchErr p q bk = 0
        · have HOk := veilK (HOk.out he)
          clear HBad
          go_wp2_with fail
          refine (HM.out _).mono ?_
          rintro e w1 ⟨rfl, hb1⟩
          rw [he]
          have HB1 := veilK (HBl.out.trans (hb1.mono HBl.out.size))
          clear hb1 HBl he HM
          generalize matchVal p q bk = t at *
          go_wp2_with fail
          go_roundw
          case rel => exact ⟨k + 1, t, by omega, rfl, by go_num, HZ.out, by rw [← HOk.out]; exact HR.out, HB1.out⟩
          case measure => simp [intOf]; omega
        · have HBad := veilK (HBad.out he)
          have he' : (matchErr p q bk != 0) = true := by simpa using he
          clear HOk he
          go_wp2_with fail
          refine (HM.out _).mono ?_
          rintro e w1 ⟨rfl, hb1⟩
          have HB1 := veilK (HBl.out.trans (hb1.mono HBl.out.size))
          clear hb1 HBl HM
          go_wp2_with fail
          go_ret2
          exact ⟨by rw [← HR.out, HBad.out]; rfl, HB1.out⟩
      · have HR : Hid (eachRes ps is ⟨#[]⟩ = (bk, 0)) := by
          show _ = _
          rw [← hr, show k = ps.length by omega, List.drop_length, eachRes]
          simp
        have HBl := veilK hbl
        clear hr hbl
        go_wp2
        go_ret2
        exact ⟨by rw [HR.out]; rfl, HBl.out⟩

/-- what a function tells that takes ps, handed is: the type, or what is wrong. -/
def allErr (ps is : List ByteArray) (r : ByteArray) : Int :=
  if 8 < ps.length ∨ 8 < is.length then 1 else if is.length = ps.length then
    (if (eachRes ps is ⟨#[]⟩).2 = 0 then (if kindErr r = 0 then (if (eachRes ps is ⟨#[]⟩).1.toList == [] && hasVar r then 8 else putErr r (eachRes ps is ⟨#[]⟩).1) else kindErr r) else (eachRes ps is ⟨#[]⟩).2)
  else 6
def allVal (ps is : List ByteArray) (r : ByteArray) : ByteArray := if allErr ps is r = 0 then putVal r (eachRes ps is ⟨#[]⟩).1 else ⟨#[]⟩

theorem allErr_size {ps is : List ByteArray} {r : ByteArray} (h : 8 < ps.length ∨ 8 < is.length) : allErr ps is r = 1 ∧ allVal ps is r = ⟨#[]⟩ := by
  have e : allErr ps is r = 1 := by unfold allErr; rw [if_pos h]
  exact ⟨e, by unfold allVal; rw [if_neg (by rw [e]; decide)]⟩
theorem allErr_none {ps is : List ByteArray} {r : ByteArray} (h : ¬ (8 < ps.length ∨ 8 < is.length)) (hl : is.length ≠ ps.length) : allErr ps is r = 6 ∧ allVal ps is r = ⟨#[]⟩ := by
  have e : allErr ps is r = 6 := by unfold allErr; rw [if_neg h, if_neg hl]
  exact ⟨e, by unfold allVal; rw [if_neg (by rw [e]; decide)]⟩
theorem allErr_each {ps is : List ByteArray} {r : ByteArray} (h : ¬ (8 < ps.length ∨ 8 < is.length)) (hl : is.length = ps.length) (he : (eachRes ps is ⟨#[]⟩).2 ≠ 0) : allErr ps is r = (eachRes ps is ⟨#[]⟩).2 ∧ allVal ps is r = ⟨#[]⟩ := by
  have e : allErr ps is r = (eachRes ps is ⟨#[]⟩).2 := by unfold allErr; rw [if_neg h, if_pos hl, if_neg he]
  exact ⟨e, by unfold allVal; rw [if_neg (by rw [e]; exact he)]⟩
theorem allErr_kind {ps is : List ByteArray} {r : ByteArray} (h : ¬ (8 < ps.length ∨ 8 < is.length)) (hl : is.length = ps.length) (he : (eachRes ps is ⟨#[]⟩).2 = 0) (hk : kindErr r ≠ 0) : allErr ps is r = kindErr r ∧ allVal ps is r = ⟨#[]⟩ := by
  have e : allErr ps is r = kindErr r := by unfold allErr; rw [if_neg h, if_pos hl, if_pos he, if_neg hk]
  exact ⟨e, by unfold allVal; rw [if_neg (by rw [e]; exact hk)]⟩
theorem allErr_open {ps is : List ByteArray} {r : ByteArray} (h : ¬ (8 < ps.length ∨ 8 < is.length)) (hl : is.length = ps.length) (he : (eachRes ps is ⟨#[]⟩).2 = 0) (hk : kindErr r = 0) (hb : ((eachRes ps is ⟨#[]⟩).1.toList == []) = true) (hv : hasVar r = true) : allErr ps is r = 8 ∧ allVal ps is r = ⟨#[]⟩ := by
  have e : allErr ps is r = 8 := by unfold allErr; rw [if_neg h, if_pos hl, if_pos he, if_pos hk, hb, hv]; rfl
  exact ⟨e, by unfold allVal; rw [if_neg (by rw [e]; decide)]⟩
theorem allErr_put {ps is : List ByteArray} {r : ByteArray} (h : ¬ (8 < ps.length ∨ 8 < is.length)) (hl : is.length = ps.length) (he : (eachRes ps is ⟨#[]⟩).2 = 0) (hk : kindErr r = 0) (hb : ((eachRes ps is ⟨#[]⟩).1.toList == [] && hasVar r) = false) : allErr ps is r = putErr r (eachRes ps is ⟨#[]⟩).1 ∧ allVal ps is r = putVal r (eachRes ps is ⟨#[]⟩).1 := by
  have e : allErr ps is r = putErr r (eachRes ps is ⟨#[]⟩).1 := by unfold allErr; rw [if_neg h, if_pos hl, if_pos he, if_pos hk, hb]; rfl
  refine ⟨e, ?_⟩
  unfold allVal
  split
  · rfl
  · next h0 => rw [e] at h0; unfold putVal; rw [if_neg h0]

set_option maxHeartbeats 2000000 in
theorem all_any (v u : Value) (ps is : List ByteArray) (r : ByteArray) (hr : r.size ≤ maxLen) (w : World) (hv : StrRow w v ps) (hu : StrRow w u is) :
    Calls Tryz.prog 325 #[v, u, .string r] w fun e w' => e = .returned (.tuple #[.string (allVal ps is r), .int .i64 (allErr ps is r)]) ∧ Below w.heap.size w w' := by
  have HV := veilK hv
  have HU := veilK hu
  obtain ⟨a, cap, rfl, hm⟩ := hv.slice
  obtain ⟨a', cap', rfl, hm'⟩ := hu.slice
  unfold maxLen at hm hm'
  clear hv hu
  by_cases h8 : 8 < ps.length
  · have HE := veilK (allErr_size (ps := ps) (is := is) (r := r) (.inl h8))
    have h8' : (8 : Int) < (ps.length : Int) := by omega
    go_enter Tryz.func325, Tryz.ntmps325
    go_wp2
    go_ret2
    exact ⟨by rw [HE.out.1, HE.out.2]; rfl, Below.refl _ _⟩
  have h8' : ¬ (8 : Int) < (ps.length : Int) := by omega
  by_cases h9 : 8 < is.length
  · have HE := veilK (allErr_size (ps := ps) (is := is) (r := r) (.inr h9))
    have h9' : (8 : Int) < (is.length : Int) := by omega
    go_enter Tryz.func325, Tryz.ntmps325
    go_wp2
    go_ret2
    exact ⟨by rw [HE.out.1, HE.out.2]; rfl, Below.refl _ _⟩
  have h9' : ¬ (8 : Int) < (is.length : Int) := by omega
  have hno : ¬ (8 < ps.length ∨ 8 < is.length) := by omega
  by_cases hl : is.length = ps.length
  · have hne : ((ps.length : Int) != (is.length : Int)) = false := by simp [hl]
    have HM := veilK (fun w hv hu => matchEach_any (.slice a ps.length cap) (.slice a' is.length cap') ps is w hv hu hl)
    have zb := eachRes_size ps is ⟨#[]⟩ (Nat.zero_le _)
    have HNo := veilK hno
    have HL := veilK hl
    rw [hl] at HM ⊢
    clear hno hl
    by_cases he : (eachRes ps is ⟨#[]⟩).2 = 0
    · by_cases hk : kindErr r = 0
      · cases hb : ((eachRes ps is ⟨#[]⟩).1.toList == []) with
        | true =>
          cases hv : hasVar r with
          | true =>
            have HE := veilK (allErr_open HNo.out HL.out he hk hb hv)
            go_enter Tryz.func325, Tryz.ntmps325
            go_wp2_with fail
            refine (HM.out _ HV.out (by have := HU.out; rwa [HL.out] at this)).mono ?_
            rintro e w1 ⟨rfl, hb1⟩
            rw [he]
            have HB1 := veilK hb1
            clear hb1 HM HV HU HNo HL he
            generalize (eachRes ps is ⟨#[]⟩).1 = t at *
            go_wp2_with fail
            refine (check_kind r hr _).mono ?_
            rintro e w2 ⟨rfl, rfl⟩
            rw [hk]
            go_wp2_with fail
            refine (open_any r _).mono ?_
            rintro e w3 ⟨rfl, rfl⟩
            rw [hv]
            go_wp2_with fail
            go_ret2
            exact ⟨by rw [HE.out.1, HE.out.2]; rfl, HB1.out⟩
          | false =>
            have HE := veilK (allErr_put HNo.out HL.out he hk (by rw [hb, hv]; rfl))
            go_enter Tryz.func325, Tryz.ntmps325
            go_wp2_with fail
            refine (HM.out _ HV.out (by have := HU.out; rwa [HL.out] at this)).mono ?_
            rintro e w1 ⟨rfl, hb1⟩
            rw [he]
            have HB1 := veilK hb1
            clear hb1 HM HV HU HNo HL he
            generalize (eachRes ps is ⟨#[]⟩).1 = t at *
            go_wp2_with fail
            refine (check_kind r hr _).mono ?_
            rintro e w2 ⟨rfl, rfl⟩
            rw [hk]
            go_wp2_with fail
            refine (open_any r _).mono ?_
            rintro e w3 ⟨rfl, rfl⟩
            rw [hv]
            go_wp2_with fail
            refine (put_any r t hr (by unfold maxLen; omega) _).mono ?_
            rintro e w4 ⟨rfl, hb4⟩
            have HB4 := veilK (HB1.out.trans (hb4.mono HB1.out.size))
            clear hb4
            go_wp2_with fail
            go_ret2
            exact ⟨by rw [HE.out.1, HE.out.2]; rfl, HB4.out⟩
        | false =>
          have HE := veilK (allErr_put HNo.out HL.out he hk (by rw [hb]; rfl))
          go_enter Tryz.func325, Tryz.ntmps325
          go_wp2_with fail
          refine (HM.out _ HV.out (by have := HU.out; rwa [HL.out] at this)).mono ?_
          rintro e w1 ⟨rfl, hb1⟩
          rw [he]
          have HB1 := veilK hb1
          clear hb1 HM HV HU HNo HL he
          generalize (eachRes ps is ⟨#[]⟩).1 = t at *
          go_wp2_with fail
          refine (check_kind r hr _).mono ?_
          rintro e w2 ⟨rfl, rfl⟩
          rw [hk]
          go_wp2_with fail
          refine (put_any r t hr (by unfold maxLen; omega) _).mono ?_
          rintro e w4 ⟨rfl, hb4⟩
          have HB4 := veilK (HB1.out.trans (hb4.mono HB1.out.size))
          clear hb4
          go_wp2_with fail
          go_ret2
          exact ⟨by rw [HE.out.1, HE.out.2]; rfl, HB4.out⟩
      · have HE := veilK (allErr_kind (r := r) HNo.out HL.out he hk)
        have hk' : (kindErr r != 0) = true := by simpa using hk
        clear hk
        go_enter Tryz.func325, Tryz.ntmps325
        go_wp2_with fail
        refine (HM.out _ HV.out (by have := HU.out; rwa [HL.out] at this)).mono ?_
        rintro e w1 ⟨rfl, hb1⟩
        rw [he]
        have HB1 := veilK hb1
        clear hb1 HM HV HU HNo HL he
        generalize (eachRes ps is ⟨#[]⟩).1 = t at *
        go_wp2_with fail
        refine (check_kind r hr _).mono ?_
        rintro e w2 ⟨rfl, rfl⟩
        go_wp2_with fail
        go_ret2
        exact ⟨by rw [HE.out.1, HE.out.2]; rfl, HB1.out⟩
    · have HE := veilK (allErr_each (r := r) HNo.out HL.out he)
      have he' : ((eachRes ps is ⟨#[]⟩).2 != 0) = true := by simpa using he
      clear he
      go_enter Tryz.func325, Tryz.ntmps325
      go_wp2_with fail
      refine (HM.out _ HV.out (by have := HU.out; rwa [HL.out] at this)).mono ?_
      rintro e w1 ⟨rfl, hb1⟩
      have HB1 := veilK hb1
      clear hb1 HM HV HU HNo HL
      go_wp2_with fail
      go_ret2
      exact ⟨by rw [HE.out.1, HE.out.2]; rfl, HB1.out⟩
  · have HE := veilK (allErr_none (r := r) hno hl)
    have hne : ((ps.length : Int) != (is.length : Int)) = true := by
      rw [bne_iff_ne]; omega
    go_enter Tryz.func325, Tryz.ntmps325
    go_wp2
    go_ret2
    exact ⟨by rw [HE.out.1, HE.out.2]; rfl, Below.refl _ _⟩

end Go.Proofs.YtagbaimfigljiaaGreatDoor
namespace Go.Proofs.YtagbaimfigljiaaGreatDoor
open Go.RowKit
set_option maxRecDepth 100000

end Go.Proofs.YtagbaimfigljiaaGreatDoor
namespace Go.Proofs.YtagbaimfigljiaaGreatDoor
open Go.RowKit
set_option maxRecDepth 100000

end Go.Proofs.YtagbaimfigljiaaGreatDoor
namespace Go.Proofs.YtagbaimfigljiaaGreatDoor
open Go.RowKit
set_option maxRecDepth 100000

end Go.Proofs.YtagbaimfigljiaaGreatDoor
