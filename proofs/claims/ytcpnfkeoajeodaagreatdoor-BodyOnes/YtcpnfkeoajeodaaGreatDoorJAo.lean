/- What the reference's typeAt answers: the place of the first type of a name. -/
import Derived.Test.YtcpnfkeoajeodaaGreatDoorJAn
namespace Go.Proofs.YtcpnfkeoajeodaaGreatDoor
open Go.RowKit
set_option maxRecDepth 100000

set_option maxHeartbeats 2000000 in
theorem typeAt_any (S : Nat → Prop) (m : Mo) (s : ByteArray) (vm : Value) (w : World) (hS : ∀ b, S b → b < w.heap.size) (hm : MoIs S w m vm) :
    Calls Tryz.prog 89 #[vm, .string s] w fun e w' => e = .returned (.int .i64 (idxOf (fun k : Fd => sEq k.name s) m.types)) ∧ Below w.heap.size w w' := by
  obtain ⟨vu, vt, vf, rfl, hu, hts, hf⟩ := hm
  obtain ⟨u1, u2, u3, rfl⟩ := hu.slice
  obtain ⟨t1, t3, rfl⟩ := hts.is
  obtain ⟨f1, f2, f3, rfl⟩ := hf.slice
  have HV := veil hts
  have hlen := hts.len
  unfold maxLen at hlen
  obtain ⟨w2, hwe, hs2, p1, hbel⟩ : ∃ w2, w.alloc (.cells #[.slice u1 u2 u3, .slice t1 m.types.length t3, .slice f1 f2 f3] 26) = w2 ∧ w2.heap.size = w.heap.size + 1 ∧ w2.cell? ⟨w.heap.size, 1, none⟩ = some (.slice t1 m.types.length t3) ∧ Below w.heap.size w w2 :=
    ⟨_, rfl, by simp, by simp [go_sem], (Below.refl _ _).alloc (Nat.le_refl _) _⟩
  have HWe := veil hwe
  have HBel := veil hbel
  have HP := veil p1
  clear hu hts hf hwe hbel p1
  go_enter Tryz.func89, Tryz.ntmps89
  go_wp2_with fail
  rw [HWe.out]
  clear HWe
  go_loopw [5] (fun i wr => ∃ j : Nat, j ≤ m.types.length ∧ i = .int .i64 j ∧ findAt (fun k : Fd => sEq k.name s) m.types = j + findAt (fun k : Fd => sEq k.name s) (m.types.drop j) ∧ wr = w2) (fun i _ => m.types.length - (intOf i).toNat)
  case atStart => exact ⟨0, Nat.zero_le _, rfl, (Nat.zero_add _).symm, rfl⟩
  case round =>
    obtain ⟨j, hj, rfl, hq, rfl⟩ := hrel
    have HQ := veil hq
    clear hq
    have c1 := HP.out
    by_cases hlt : j < m.types.length
    · have hlt' : (j : Int) < (m.types.length : Int) := by omega
      obtain ⟨_, b, off, rfl, hb, hat⟩ := HV.out.at hlt
      have hbk := hS b hb
      obtain ⟨kd, fo, na, p1, p2, p3, a0, _⟩ := fd_cells hat
      have d0 := (HBel.out.cell (p := ⟨b, off + j * 5, none⟩) hbk).trans a0
      have HYes : Hid ((m.types[j].name.toList == s.toList) = true → idxOf (fun k : Fd => sEq k.name s) m.types = (j : Int)) := fun h => by
        have : findAt (fun k : Fd => sEq k.name s) m.types = j := by rw [HQ.out, find_yes hlt h]; rfl
        unfold idxOf
        rw [this, if_pos hlt]
      have HNo : Hid ((m.types[j].name.toList == s.toList) = false → findAt (fun k : Fd => sEq k.name s) m.types = (j + 1) + findAt (fun k : Fd => sEq k.name s) (m.types.drop (j + 1))) := fun h => by
        rw [HQ.out, find_no hlt h]; omega
      clear a0 hat HV HQ
      generalize m.types[j].name = x at *
      cases hx : (x.toList == s.toList) with
      | true =>
        have HI := veil (HYes.out hx)
        clear HYes HNo
        go_wp2_with fail
        go_ret
        exact ⟨by rw [HI.out]; rfl, HBel.out⟩
      | false =>
        have HN := veil (HNo.out hx)
        clear HYes HNo
        go_wp2_with fail
        exact ⟨⟨j + 1, by omega, by go_num, HN.out, by simp⟩, by simp [intOf]; omega⟩
    · have hnl : ¬ (j : Int) < (m.types.length : Int) := by omega
      have HI : Hid (idxOf (fun k : Fd => sEq k.name s) m.types = -1) := by
        show _ = _
        unfold idxOf
        rw [HQ.out, find_end (by omega), if_neg (by omega)]
      clear HV HQ
      go_wp2_with fail
      go_ret
      exact ⟨by rw [HI.out]; rfl, HBel.out⟩

end Go.Proofs.YtcpnfkeoajeodaaGreatDoor

/- The code's way and the reference's tell the same of a type that may be, in plain words. -/
namespace Go.Proofs.YtcpnfkeoajeodaaGreatDoor
open Go.RowKit
set_option maxRecDepth 100000

theorem solveP_same {ρ ρ' : ByteArray → ByteArray → Sol} (h : ∀ o n, identOk n = true → ρ o n = ρ' o n) : ∀ (d : Nat) (t : Ty) (dd : Nat), tyFault t dd = 0 → solveP ρ d t = solveP ρ' d t
  | 0, _, _, _ => rfl
  | d + 1, .mk k o n xs, dd, ht => by
    obtain ⟨_, ⟨hk1, hk4⟩, h3, h4⟩ := ty_parts ht
    unfold solveP
    by_cases e1 : k = 1
    · rw [if_pos e1, if_pos e1]
    · rw [if_neg e1, if_neg e1]
      by_cases e2 : k = 2
      · rw [if_pos e2, if_pos e2]
      · rw [if_neg e2, if_neg e2]
        by_cases e3 : k = 3
        · rw [if_pos e3, if_pos e3]
          obtain ⟨t, rfl, ht1⟩ := h3 e3
          show listR _ = listR _
          rw [solveP_same h d t (dd + 1) ht1]
        · rw [if_neg e3, if_neg e3]
          exact h o n (h4 (by omega))

theorem refR_plain {m : Mo} {l : List Im} {u : Nat} {v : ByteArray} {under : List ByteArray} {o n : ByteArray} (h : (!v.toList.isEmpty && sEq n v) = false) : refR m l u v under o n = refR m l u noneS under o n := by
  have h0 : ¬ (!noneS.toList.isEmpty && sEq n noneS) = true := by simp [noneS]
  cases u with
  | zero =>
    unfold refR
    rw [if_neg (c := (!v.toList.isEmpty && sEq n v) = true) (by rw [h]; simp), if_neg h0]
  | succ u =>
    unfold refR
    rw [if_neg (c := (!v.toList.isEmpty && sEq n v) = true) (by rw [h]; simp), if_neg h0]

theorem refR_star {m : Mo} {l : List Im} {u : Nat} {v : ByteArray} {under : List ByteArray} {o n : ByteArray} (ho : o.toList.isEmpty = true) (h : (!v.toList.isEmpty && sEq n v) = true) : refR m l u v under o n = (starK, 0) := by
  cases u with
  | zero => unfold refR; rw [if_pos ho, if_pos h]
  | succ u => unfold refR; rw [if_pos ho, if_pos h]

theorem refR_imp {m : Mo} {l : List Im} {u : Nat} {v : ByteArray} {under : List ByteArray} {o n : ByteArray} (ho : o.toList.isEmpty = false) : refR m l u v under o n = impR m.uses l o n := by
  cases u <;> (unfold refR; rw [if_neg (by rw [ho]; simp)])

theorem ident_ne {n v : ByteArray} (h : identOk n = true) (hs : sEq n v = true) : v.toList.isEmpty = false := by
  rw [← sEq_eq hs, Lib.toList_data]
  have := ident_size h
  cases hn : n.data.toList with
  | nil =>
    have : n.size = 0 := by
      show n.data.size = 0
      rw [← Array.length_toList, hn]; rfl
    omega
  | cons _ _ => rfl

theorem top_ref {m : Mo} {l : List Im} {u : Nat} {v : ByteArray} {o n : ByteArray} (hn : identOk n = true) : topR v (findR m l u []) o n = refR m l u v [] o n := by
  unfold topR
  cases ho : o.toList.isEmpty with
  | false =>
    rw [if_neg (by simp), find_imp ho, refR_imp ho]
  | true =>
    cases hs : sEq n v with
    | true =>
      rw [if_pos (by rfl), refR_star ho (by rw [ident_ne hn hs, hs]; rfl)]
    | false =>
      rw [if_neg (by simp), refR_plain (by rw [hs]; simp), find_ref m l u [] [] (Meets.start m)]

/-- what alias.Solve tells is what the reference tells. -/
theorem solve_same {m : Mo} {l : List Im} {u : Nat} {v : ByteArray} {t : Ty} (ht : tyFault t 1 = 0) : solveP (topR v (findR m l u [])) 10 t = solveP (refR m l u v []) 10 t :=
  solveP_same (fun _ _ hn => top_ref hn) 10 t 1 ht

end Go.Proofs.YtcpnfkeoajeodaaGreatDoor

/- A type's name, and what it is: solving the one is solving the other, in plain words. -/
namespace Go.Proofs.YtcpnfkeoajeodaaGreatDoor
open Go.RowKit
set_option maxRecDepth 100000

/-- within k lists. -/
def listN : Nat → Sol → Sol
  | 0, r => r
  | k + 1, r => listR (listN k r)

theorem listR_bad {r : Sol} (h : r.2 ≠ 0) : listR r = (noneS, r.2) := if_neg h
theorem listN_round : ∀ k, listN k (noneS, 2) = (noneS, 2)
  | 0 => rfl
  | k + 1 => by rw [listN, listN_round k]; exact listR_bad (by decide)

/-- a type has one name at most. -/
theorem solveP_leaf : ∀ (d : Nat) (t : Ty), (∃ r, ∀ ρ, solveP ρ d t = r) ∨ ∃ k o n, ∀ ρ, solveP ρ d t = listN k (ρ o n)
  | 0, _ => Or.inl ⟨_, fun _ => rfl⟩
  | d + 1, .mk k o n xs => by
    by_cases h1 : k = 1
    · exact Or.inl ⟨_, fun _ => by unfold solveP; rw [if_pos h1]⟩
    by_cases h2 : k = 2
    · exact Or.inl ⟨_, fun _ => by unfold solveP; rw [if_neg h1, if_pos h2]⟩
    by_cases h3 : k = 3
    · cases xs with
      | nil => exact Or.inl ⟨_, fun _ => by unfold solveP; rw [if_neg h1, if_neg h2, if_pos h3]⟩
      | cons t r =>
        have e : ∀ ρ, solveP ρ (d + 1) (.mk k o n (t :: r)) = listR (solveP ρ d t) := fun ρ => by
          conv => lhs; unfold solveP
          rw [if_neg h1, if_neg h2, if_pos h3]
        rcases solveP_leaf d t with ⟨q, h⟩ | ⟨j, o', n', h⟩
        · exact Or.inl ⟨listR q, fun ρ => by rw [e, h]⟩
        · exact Or.inr ⟨j + 1, o', n', fun ρ => by rw [e, h]; rfl⟩
    · exact Or.inr ⟨0, o, n, fun _ => by unfold solveP; rw [if_neg h1, if_neg h2, if_neg h3]; rfl⟩

theorem plain_none {n : ByteArray} : ¬ (!noneS.toList.isEmpty && sEq n noneS) = true := by simp [noneS]
theorem refR_none {m : Mo} {l : List Im} {u : Nat} {under : List ByteArray} {o n : ByteArray} (ho : o.toList.isEmpty = true) (ha : ¬ ownAt m n < m.types.length) : refR m l u noneS under o n = (noneS, 5) := by
  cases u with
  | zero => unfold refR; rw [if_pos ho, if_neg plain_none, if_neg ha]
  | succ u => unfold refR; rw [if_pos ho, if_neg plain_none, List.getElem?_eq_none (by omega)]
theorem refR_round {m : Mo} {l : List Im} {u : Nat} {under : List ByteArray} {o n : ByteArray} (ho : o.toList.isEmpty = true) (ha : ownAt m n < m.types.length) (hh : hasS under n = true) : refR m l u noneS under o n = (noneS, 2) := by
  cases u with
  | zero => unfold refR; rw [if_pos ho, if_neg plain_none, if_pos ha]
  | succ u => unfold refR; rw [if_pos ho, if_neg plain_none, List.getElem?_eq_getElem ha]; simp only; rw [if_pos hh]
theorem refR_on {m : Mo} {l : List Im} {u : Nat} {under : List ByteArray} {o n : ByteArray} (ho : o.toList.isEmpty = true) (ha : ownAt m n < m.types.length) (hh : hasS under n = false) : refR m l (u + 1) noneS under o n = solveP (refR m l u noneS (under ++ [n])) 10 m.types[ownAt m n].is := by
  conv => lhs; unfold refR
  rw [if_pos ho, if_neg plain_none, List.getElem?_eq_getElem ha]; simp only; rw [if_neg (by rw [hh]; simp)]

theorem unmet_congr {met met' : List Nat} (h : ∀ i, met.contains i = met'.contains i) : ∀ n, unmet met n = unmet met' n
  | 0 => rfl
  | n + 1 => by unfold unmet; rw [unmet_congr h n, h n]

theorem hasS_snoc {U : List ByteArray} {a n : ByteArray} (h : hasS U n = true) : hasS (U ++ [a]) n = true := hasS_mem.2 (List.mem_append_left _ (hasS_mem.1 h))
theorem hasS_last (U : List ByteArray) (a : ByteArray) : hasS (U ++ [a]) a = true := hasS_mem.2 (by simp)

theorem swap_contains (a b : Nat) (met : List Nat) (i : Nat) : (a :: b :: met).contains i = (b :: a :: met).contains i := by
  simp only [List.contains_cons]
  cases (i == a) <;> cases (i == b) <;> rfl

/-- who comes back to a goes round once more. -/
theorem ref_more {m : Mo} {l : List Im} {a n1 o1 : ByteArray} {j : Nat} (ha : ownAt m a < m.types.length) (ho1 : o1.toList.isEmpty = true) (h1 : ownAt m n1 < m.types.length)
    (ht : ∀ ρ, solveP ρ 10 m.types[ownAt m a].is = listN j (ρ o1 n1)) :
    ∀ (u' u : Nat) (U W : List ByteArray) (met : List Nat), Meets m U met → Meets m W (ownAt m a :: met) → met.contains (ownAt m a) = false → hasS U n1 = true → unmet met m.types.length ≤ u → unmet (ownAt m a :: met) m.types.length ≤ u' →
      ∀ o n, refR m l u noneS U o n = refR m l u' noneS W o n := by
  intro u'
  induction u' with
  | zero =>
    intro u U W met hU hW hc hn hu hu' o n
    cases ho : o.toList.isEmpty with
    | false => rw [refR_imp ho, refR_imp ho]
    | true =>
      by_cases hn' : ownAt m n < m.types.length
      · have hm := unmet_zero (met := ownAt m a :: met) (n := m.types.length) (by omega) _ hn'
        rw [refR_round (u := 0) (under := W) ho hn' (by rw [← hW n hn']; exact hm)]
        by_cases hu2 : hasS U n = true
        · exact refR_round ho hn' hu2
        · have hu3 : hasS U n = false := by simpa using hu2
          have he : ownAt m n = ownAt m a := by
            rw [← hU n hn'] at hu3
            rw [List.contains_cons, hu3] at hm
            simpa using hm
          have hna : n = a := own_inj hn' he
          subst hna
          have := unmet_lt hc ha
          obtain ⟨v, rfl⟩ : ∃ v, u = v + 1 := ⟨u - 1, by omega⟩
          rw [refR_on ho hn' hu3, ht, refR_round ho1 h1 (hasS_snoc hn), listN_round]
      · rw [refR_none ho hn', refR_none ho hn']
  | succ u' ih =>
    intro u U W met hU hW hc hn hu hu' o n
    cases ho : o.toList.isEmpty with
    | false => rw [refR_imp ho, refR_imp ho]
    | true =>
      by_cases hn' : ownAt m n < m.types.length
      · have hlt := unmet_lt hc ha
        obtain ⟨v, rfl⟩ : ∃ v, u = v + 1 := ⟨u - 1, by omega⟩
        by_cases hu2 : hasS U n = true
        · have hm : (ownAt m a :: met).contains (ownAt m n) = true := by rw [List.contains_cons, hU n hn', hu2]; simp
          rw [refR_round ho hn' hu2, refR_round ho hn' (by rw [← hW n hn']; exact hm)]
        · have hu3 : hasS U n = false := by simpa using hu2
          by_cases he : ownAt m n = ownAt m a
          · have hna : n = a := own_inj hn' he
            subst hna
            rw [refR_round (u := u' + 1) ho hn' (by rw [← hW n hn']; simp), refR_on ho hn' hu3, ht, refR_round ho1 h1 (hasS_snoc hn), listN_round]
          · have hmn : met.contains (ownAt m n) = false := by rw [hU n hn']; exact hu3
            have hW3 : (ownAt m a :: met).contains (ownAt m n) = false := by rw [List.contains_cons, hmn]; simpa using he
            rw [refR_on ho hn' hu3, refR_on ho hn' (by rw [← hW n hn']; exact hW3)]
            have hl2 := unmet_lt hmn hn'
            have hl3 := unmet_lt hW3 hn'
            have hsw := unmet_congr (swap_contains (ownAt m n) (ownAt m a) met) m.types.length
            have hc2 : (ownAt m n :: met).contains (ownAt m a) = false := by rw [List.contains_cons, hc]; simpa using fun e => he e.symm
            refine solveP_congr (ih v (U ++ [n]) (W ++ [n]) (ownAt m n :: met) (hU.next hn') (fun x hx => ?_) hc2 (hasS_snoc hn) (by omega) (by omega)) 10 _
            rw [← (hW.next hn') x hx]
            exact swap_contains _ _ _ _
      · rw [refR_none ho hn', refR_none ho hn']

/-- solving what a name is, or the name. -/
theorem solve_name {m : Mo} {l : List Im} {a : ByteArray} (ha : ownAt m a < m.types.length) : solveP (refR m l m.types.length noneS []) 10 m.types[ownAt m a].is = refR m l m.types.length noneS [] noneS a := by
  obtain ⟨v, hv⟩ : ∃ v, m.types.length = v + 1 := ⟨m.types.length - 1, by omega⟩
  have h0 : hasS [] a = false := by simp [hasS, findAt]
  have hn0 : ∀ n, hasS [] n = false := fun n => by simp [hasS, findAt]
  have hR : refR m l m.types.length noneS [] noneS a = solveP (refR m l v noneS [a]) 10 m.types[ownAt m a].is := by
    rw [hv]; exact refR_on (by simp [noneS]) ha h0
  rw [hR]
  rcases solveP_leaf 10 m.types[ownAt m a].is with ⟨q, h⟩ | ⟨j, o1, n1, h⟩
  · rw [h, h]
  · rw [h, h]
    congr 1
    cases ho : o1.toList.isEmpty with
    | false => rw [refR_imp ho, refR_imp ho]
    | true =>
      by_cases hn : ownAt m n1 < m.types.length
      · rw [show refR m l m.types.length noneS [] o1 n1 = refR m l (v + 1) noneS [] o1 n1 by rw [hv], refR_on ho hn (hn0 n1)]
        by_cases he : ownAt m n1 = ownAt m a
        · have hna : n1 = a := own_inj hn he
          subst hna
          have hl : hasS [n1] n1 = true := hasS_last [] n1
          rw [List.nil_append, h, refR_round ho hn hl, listN_round]
        · have hM := Meets.start m
          have c1 : ([] : List Nat).contains (ownAt m n1) = false := rfl
          have c2 : [ownAt m n1].contains (ownAt m a) = false := by simpa using fun e => he e.symm
          have l1 := unmet_lt c1 hn
          have l2 := unmet_lt c2 ha
          rw [unmet_nil] at l1
          obtain ⟨v2, rfl⟩ : ∃ v2, v = v2 + 1 := ⟨v - 1, by omega⟩
          have hh : hasS [a] n1 = false := by
            rw [Bool.eq_false_iff, ne_eq, hasS_mem]
            simp
            rintro rfl; exact he rfl
          rw [refR_on ho hn hh]
          refine solveP_congr (ref_more ha ho hn h v2 (v2 + 1) [n1] ([a] ++ [n1]) [ownAt m n1] (hM.next hn) (fun x hx => ?_) c2 (hasS_last [] n1) (by omega) (by omega)) 10 _
          have := ((hM.next ha).next hn) x hx
          rw [List.nil_append] at this
          rw [← this]
          exact swap_contains _ _ _ _
      · rw [refR_none ho hn, refR_none ho hn]

end Go.Proofs.YtcpnfkeoajeodaaGreatDoor
