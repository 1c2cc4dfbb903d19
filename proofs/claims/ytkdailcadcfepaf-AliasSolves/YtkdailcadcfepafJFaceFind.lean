/- What slices.IndexFunc answers at a list of types, or functions, with the closure that asks for a name: the place of the first that bears it, or -1. -/
import Derived.Test.YtkdailcadcfepafJFaceRead
import Derived.Test.YtkdailcadcfepafJFaceSame
namespace Go.Proofs.Ytkdailcadcfepaf
open Go.RowKit

/-- the place of the first such one; behind all, where there is none. -/
def findAt {α : Type} (p : α → Bool) : List α → Nat
  | [] => 0
  | x :: r => if p x = true then 0 else findAt p r + 1

theorem find_yes {α : Type} {p : α → Bool} {l : List α} {k : Nat} (hk : k < l.length) (h : p l[k] = true) : findAt p (l.drop k) = 0 := by
  rw [List.drop_eq_getElem_cons hk, findAt, if_pos h]
theorem find_no {α : Type} {p : α → Bool} {l : List α} {k : Nat} (hk : k < l.length) (h : p l[k] = false) : findAt p (l.drop k) = findAt p (l.drop (k + 1)) + 1 := by
  rw [List.drop_eq_getElem_cons hk, findAt, if_neg (by rw [h]; simp)]
theorem find_end {α : Type} {p : α → Bool} {l : List α} {k : Nat} (hk : l.length ≤ k) : findAt p (l.drop k) = 0 := by
  rw [List.drop_eq_nil_of_le hk, findAt]

def idxOf {α : Type} (p : α → Bool) (l : List α) : Int := if findAt p l < l.length then (findAt p l : Int) else -1

theorem typeIs_any (B : Nat) (x y s : ByteArray) (w : World) (hp : w.cell? ⟨B, 0, none⟩ = some (.string s)) :
    Calls Try.prog 94 #[.agg #[.string x, .string y], .pointer (some ⟨B, 0, none⟩)] w fun e w' => e = .returned (.bool (sEq x s)) ∧ Below w.heap.size w w' := by
  have hlt : B < w.heap.size := World.block_lt_of_cell? _ _ hp
  have HE : Hid (sEq x s = (x.toList == s.toList)) := rfl
  go_enter Try.func94, Try.ntmps94
  go_wp2
  go_ret
  exact ⟨by rw [HE.out]; rfl, (Below.refl _ _).alloc (Nat.le_refl _) _⟩

set_option maxHeartbeats 2000000 in
theorem index_kn (S : Nat → Prop) (l : List Kn) (s : ByteArray) (B : Nat) (v : Value) (w : World) (hS : ∀ b, S b → b < w.heap.size) (hv : SlAt S (KnAt w) 2 l v) (hp : w.cell? ⟨B, 0, none⟩ = some (.string s)) :
    Calls Try.prog 93 #[v, .func (.func 94) #[] #[.pointer (some ⟨B, 0, none⟩)]] w fun e w' => e = .returned (.int .i64 (idxOf (fun k : Kn => sEq k.name s) l)) ∧ Below w.heap.size w w' := by
  have HV := veil hv
  have hlen := hv.len
  unfold maxLen at hlen
  obtain ⟨a, cap, rfl⟩ := hv.is
  have HP := veil hp
  have HBl := veil (World.block_lt_of_cell? _ _ hp)
  clear hv hp
  go_enter Try.func93, Try.ntmps93
  go_wp2_with fail
  go_loopw [8] (fun i wr => ∃ j : Nat, j ≤ l.length ∧ i = .int .i64 j ∧ findAt (fun k : Kn => sEq k.name s) l = j + findAt (fun k : Kn => sEq k.name s) (l.drop j) ∧ Below w.heap.size w wr) (fun i _ => l.length - (intOf i).toNat)
  case atStart => exact ⟨0, Nat.zero_le _, rfl, (Nat.zero_add _).symm, Below.refl _ _⟩
  case round =>
    obtain ⟨j, hj, rfl, hq, hbl⟩ := hrel
    have HQ := veil hq
    have HBW := veil hbl
    clear hq
    by_cases hlt : j < l.length
    · have hlt' : (j : Int) < (l.length : Int) := by omega
      obtain ⟨_, b, off, rfl, hb, ⟨a0, m0⟩, a1, m1⟩ := HV.out.at hlt
      have hbk := hS b hb
      have d0 := (hbl.cell (p := ⟨b, off + j * 2, none⟩) hbk).trans a0
      have d1 := (hbl.cell (p := ⟨b, off + j * 2 + 1, none⟩) hbk).trans a1
      have HC : Hid (Calls Try.prog 94 #[.agg #[.string l[j].name, .string l[j].is], .pointer (some ⟨B, 0, none⟩)] wr fun e w' => e = .returned (.bool (sEq l[j].name s)) ∧ Below wr.heap.size wr w') := typeIs_any B _ _ s wr ((hbl.cell HBl.out).trans HP.out)
      have HYes : Hid (sEq l[j].name s = true → findAt (fun k : Kn => sEq k.name s) l = j) := fun h => by
        rw [HQ.out, find_yes hlt h]; rfl
      have HNo : Hid (sEq l[j].name s = false → findAt (fun k : Kn => sEq k.name s) l = (j + 1) + findAt (fun k : Kn => sEq k.name s) (l.drop (j + 1))) := fun h => by
        rw [HQ.out, find_no hlt h]; omega
      clear a0 a1 m0 m1 HV hbl HQ
      generalize l[j].name = x at *
      generalize l[j].is = y at *
      cases hx : sEq x s with
      | true =>
        rw [hx] at HC
        have HI : Hid (idxOf (fun k : Kn => sEq k.name s) l = (j : Int)) := by
          show _ = _
          unfold idxOf
          rw [HYes.out hx, if_pos hlt]
        clear HYes HNo hx
        go_wp2_with fail
        refine HC.out.mono ?_
        rintro e w1 ⟨rfl, hb1⟩
        have HB1 := veil (HBW.out.trans (hb1.mono HBW.out.size))
        clear hb1
        go_wp2_with fail
        go_ret
        exact ⟨by rw [HI.out]; rfl, HB1.out⟩
      | false =>
        rw [hx] at HC
        have HN := veil (HNo.out hx)
        clear HYes HNo hx
        go_wp2_with fail
        refine HC.out.mono ?_
        rintro e w1 ⟨rfl, hb1⟩
        have HB1 := veil (HBW.out.trans (hb1.mono HBW.out.size))
        clear hb1
        go_wp2_with fail
        exact ⟨⟨j + 1, by omega, by go_num, HN.out, HB1.out⟩, by simp [intOf]; omega⟩
    · have hnl : ¬ (j : Int) < (l.length : Int) := by omega
      have HI : Hid (idxOf (fun k : Kn => sEq k.name s) l = -1) := by
        show _ = _
        unfold idxOf
        rw [HQ.out, find_end (by omega), if_neg (by omega)]
      clear HV hbl HQ
      go_wp2_with fail
      go_ret
      exact ⟨by rw [HI.out]; rfl, HBW.out⟩

end Go.Proofs.Ytkdailcadcfepaf
