/- What graph.Check answers: the first thing that is wrong with nodes. -/
import Derived.Test.YtedpiamfpbdhoaaGrNode
namespace Go.Proofs.Ytedpiamfpbdhoaa
open Go.RowKit

def noIdentB (s : ByteArray) : Bool := !identOk s

theorem noIdent_any (s : ByteArray) (hs : s.size ≤ maxLen) (w : World) : Calls Try.prog 21 #[.string s] w fun e w' => e = .returned (.bool (noIdentB s)) ∧ Below w.heap.size w w' := by
  have HE : Hid (noIdentB s = !identOk s) := rfl
  go_enter Try.func21, Try.ntmps21
  go_wp2_with fail
  refine (ident_any s hs _).mono ?_
  rintro e w' ⟨rfl, hb⟩
  go_wp2
  go_ret
  exact ⟨by rw [HE.out]; rfl, hb⟩

set_option maxHeartbeats 2000000 in
theorem index_no (S : Nat → Prop) (l : List ByteArray) (v : Value) (w : World) (hS : ∀ b, S b → b < w.heap.size) (hv : SlAt S (StrAt w) 1 l v) :
    Calls Try.prog 30 #[v, .func (.func 21) #[] #[]] w fun e w' => e = .returned (.int .i64 (idxOf noIdentB l)) ∧ Below w.heap.size w w' := by
  have HV := veil hv
  have hlen := hv.len
  unfold maxLen at hlen
  obtain ⟨a, cap, rfl⟩ := hv.is
  clear hv
  go_enter Try.func30, Try.ntmps30
  go_wp2_with fail
  go_loopw [8] (fun i wr => ∃ j : Nat, j ≤ l.length ∧ i = .int .i64 j ∧ findAt noIdentB l = j + findAt noIdentB (l.drop j) ∧ Below w.heap.size w wr) (fun i _ => l.length - (intOf i).toNat)
  case atStart => exact ⟨0, Nat.zero_le _, rfl, (Nat.zero_add _).symm, Below.refl _ _⟩
  case round =>
    obtain ⟨j, hj, rfl, hq, hbl⟩ := hrel
    have HQ := veil hq
    have HBW := veil hbl
    clear hq
    by_cases hlt : j < l.length
    · have hlt' : (j : Int) < (l.length : Int) := by omega
      obtain ⟨_, b, off, rfl, hb, a0, m0⟩ := HV.out.at hlt
      have hbk := hS b hb
      rw [Nat.mul_one] at a0
      have d0 := (hbl.cell (p := ⟨b, off + j, none⟩) hbk).trans a0
      have HC : Hid (Calls Try.prog 21 #[.string l[j]] wr fun e w' => e = .returned (.bool (noIdentB l[j])) ∧ Below wr.heap.size wr w') := noIdent_any _ m0 wr
      have HYes : Hid (noIdentB l[j] = true → findAt noIdentB l = j) := fun h => by
        rw [HQ.out, find_yes hlt h]; rfl
      have HNo : Hid (noIdentB l[j] = false → findAt noIdentB l = (j + 1) + findAt noIdentB (l.drop (j + 1))) := fun h => by
        rw [HQ.out, find_no hlt h]; omega
      clear a0 m0 HV hbl HQ
      generalize l[j] = x at *
      cases hx : noIdentB x with
      | true =>
        rw [hx] at HC
        have HI : Hid (idxOf noIdentB l = (j : Int)) := by
          show _ = _
          unfold idxOf
          rw [HYes.out hx, if_pos hlt]
        clear HYes HNo hx
        go_wp2_with fail
        refine HC.out.mono ?_
        rintro e w1 ⟨rfl, hb1⟩
        have HB1 := veil (HBW.out.trans (hb1.mono HBW.out.size))
        clear hb1
        go_wp2_with fail
        go_ret
        exact ⟨by rw [HI.out]; rfl, HB1.out⟩
      | false =>
        rw [hx] at HC
        have HN := veil (HNo.out hx)
        clear HYes HNo hx
        go_wp2_with fail
        refine HC.out.mono ?_
        rintro e w1 ⟨rfl, hb1⟩
        have HB1 := veil (HBW.out.trans (hb1.mono HBW.out.size))
        clear hb1
        go_wp2_with fail
        exact ⟨⟨j + 1, by omega, by go_num, HN.out, HB1.out⟩, by simp [intOf]; omega⟩
    · have hnl : ¬ (j : Int) < (l.length : Int) := by omega
      have HI : Hid (idxOf noIdentB l = -1) := by
        show _ = _
        unfold idxOf
        rw [HQ.out, find_end (by omega), if_neg (by omega)]
      clear HV hbl HQ
      go_wp2_with fail
      go_ret
      exact ⟨by rw [HI.out]; rfl, HBW.out⟩

theorem contains_no (S : Nat → Prop) (l : List ByteArray) (v : Value) (w : World) (hS : ∀ b, S b → b < w.heap.size) (hv : SlAt S (StrAt w) 1 l v) :
    Calls Try.prog 20 #[v, .func (.func 21) #[] #[]] w fun e w' => e = .returned (.bool (l.any noIdentB)) ∧ Below w.heap.size w w' := by
  have HC : Hid (Calls Try.prog 30 #[v, .func (.func 21) #[] #[]] w fun e w' => e = .returned (.int .i64 (idxOf noIdentB l)) ∧ Below w.heap.size w w') := index_no S l v w hS hv
  have HE := veil (find_any_b (p := noIdentB) (l := l))
  obtain ⟨a, cap, rfl⟩ := hv.is
  clear hv
  generalize idxOf noIdentB l = r at *
  go_enter Try.func20, Try.ntmps20
  go_wp2_with fail
  refine HC.out.mono ?_
  rintro e w1 ⟨rfl, hb1⟩
  have HB1 := veil hb1
  clear hb1
  go_wp2_with fail
  go_ret
  exact ⟨by rw [← HE.out]; rfl, HB1.out⟩

theorem any_no {l : List ByteArray} : (!l.any noIdentB) = l.all identOk := by
  induction l with
  | nil => rfl
  | cons x r ih => rw [List.any_cons, List.all_cons, ← ih, noIdentB, Bool.not_or, Bool.not_not]

set_option maxHeartbeats 2000000 in
theorem fits_any (S : Nat → Prop) (n : Nd) (a : Option Addr) (cap : Nat) (w : World) (hS : ∀ b, S b → b < w.heap.size) (h0 : n.name.size ≤ maxLen) (hp : SlAt S (StrAt w) 1 n.uses (.slice a n.uses.length cap)) :
    Calls Try.prog 10 #[.agg #[.string n.name, .slice a n.uses.length cap]] w fun e w' => e = .returned (.bool (ndOk n)) ∧ Below w.heap.size w w' := by
  have HP := veil hp
  have hlen := hp.len
  unfold maxLen at hlen
  have HE : Hid (ndOk n = (identOk n.name && (decide (n.uses.length ≤ 24) && n.uses.all identOk))) := rfl
  have HI : Hid (∀ W, Calls Try.prog 19 #[.string n.name] W fun e w' => e = .returned (.bool (identOk n.name)) ∧ Below W.heap.size W w') := fun W => ident_any _ h0 W
  have HA : Hid (Below w.heap.size w (w.alloc (.cells #[.string n.name, .slice a n.uses.length cap] 31))) := (Below.refl _ _).alloc (Nat.le_refl _) _
  have HK : Hid (∀ W, Below w.heap.size w W → Calls Try.prog 20 #[.slice a n.uses.length cap, .func (.func 21) #[] #[]] W fun e w' => e = .returned (.bool (n.uses.any noIdentB)) ∧ Below W.heap.size W w') := fun W hW =>
    contains_no S _ _ W (fun b hb => Nat.lt_of_lt_of_le (hS b hb) hW.size) (strSl_keep (Keeps.below hW hS) hp)
  have HN := veil (any_no (l := n.uses))
  clear hp
  generalize ndOk n = ok at *
  generalize n.name = x at *
  generalize n.uses = ps at *
  cases hi : identOk x with
  | false =>
    rw [hi] at HI
    have HE' : Hid (ok = false) := by show _ = _; rw [HE.out, hi]; rfl
    clear HE hi
    go_enter Try.func10, Try.ntmps10
    go_wp2_with fail
    refine (HI.out _).mono ?_
    rintro e w1 ⟨rfl, hb⟩
    have HB := veil (HA.out.trans (hb.mono (by simp)))
    clear hb
    go_wp2_with fail
    go_ret
    exact ⟨by rw [HE'.out]; rfl, HB.out⟩
  | true =>
    rw [hi] at HI
    by_cases h8 : ps.length ≤ 24
    case neg =>
      have h8' : ¬ (ps.length : Int) ≤ 24 := by omega
      have HE' : Hid (ok = false) := by show _ = _; rw [HE.out, hi]; simp [h8]
      clear HE hi h8
      go_enter Try.func10, Try.ntmps10
      go_wp2_with fail
      refine (HI.out _).mono ?_
      rintro e w1 ⟨rfl, hb⟩
      have HB := veil (HA.out.trans (hb.mono (by simp)))
      have hc : ∀ o, w1.cell? ⟨w.heap.size, o, none⟩ = (w.alloc (.cells #[.string x, .slice a ps.length cap] 31)).cell? ⟨w.heap.size, o, none⟩ := fun o => hb.cell (p := ⟨w.heap.size, o, none⟩) (by simp)
      clear hb
      go_wp2_with fail
      go_ret
      exact ⟨by rw [HE'.out]; rfl, HB.out⟩
    have h8' : (ps.length : Int) ≤ 24 := by omega
    have HE' : Hid (ok = !ps.any noIdentB) := by show _ = _; rw [HN.out, HE.out, hi]; simp [h8]
    clear HE hi h8
    go_enter Try.func10, Try.ntmps10
    go_wp2_with fail
    refine (HI.out _).mono ?_
    rintro e w1 ⟨rfl, hb⟩
    have HB := veil (HA.out.trans (hb.mono (by simp)))
    have hc : ∀ o, w1.cell? ⟨w.heap.size, o, none⟩ = (w.alloc (.cells #[.string x, .slice a ps.length cap] 31)).cell? ⟨w.heap.size, o, none⟩ := fun o => hb.cell (p := ⟨w.heap.size, o, none⟩) (by simp)
    clear hb
    go_wp2_with fail
    refine (HK.out _ HB.out).mono ?_
    rintro e w2 ⟨rfl, hb2⟩
    have HB2 := veil (HB.out.trans (hb2.mono HB.out.size))
    clear hb2
    go_wp2_with fail
    go_ret
    exact ⟨by rw [HE'.out]; rfl, HB2.out⟩

end Go.Proofs.Ytedpiamfpbdhoaa
