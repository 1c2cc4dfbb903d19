import Derived.Test.YtagbaimfigljiaaGreatDoorJCk11
import Derived.Test.YtagbaimfigljiaaGreatDoorProg
import Derived.Test.YtagbaimfigljiaaGreatDoorJCk7
import Derived.Deep.RegionWith
import GoSem.PinnedTables
import GoSem.Claim
import GoSem.ClaimJoined
import GoSem.ClaimMapViews
import Derived.JoinedTies
import Derived.KernelRfl
import Derived.RowKit
import Derived.WalkKit
import Derived.WalkLawsBesides
import Derived.Shelf.Abstract
import Derived.Lib.IndexLaws
import Derived.Deep.RegionHeld3
import Derived.Laws.IdiomCopy
import Derived.Laws.Rows
import Derived.Laws.MakeOwn
import Derived.OwnWalk
import Derived.Deep.Upon
namespace Go.Proofs.YtagbaimfigljiaaGreatDoor
open Go.RowKit
set_option maxRecDepth 100000

set_option maxHeartbeats 4000000 in
theorem equal_str (S : Nat → Prop) (l m : List ByteArray) (v u : Value) (w : World) (hS : ∀ b, S b → b < w.heap.size) (hv : SlAt S (StrAt w) 1 l v) (hu : SlAt S (StrAt w) 1 m u) :
    Calls Tryz.prog 28 #[v, u] w fun e w' => e = .returned (.bool (eqL sEq l m)) ∧ Below w.heap.size w w' := by
  have HL := veil (SlAt.len hv)
  have HM := veil (SlAt.len hu)
  have HV := veil hv
  have HU := veil hu
  obtain ⟨a, cap, rfl⟩ := hv.is
  obtain ⟨a2, cap2, rfl⟩ := hu.is
  clear hv hu
  by_cases hlm : l.length = m.length
  · have hne : ((l.length : Int) != (m.length : Int)) = false := by rw [hlm]; simp
    have hlen : l.length ≤ 9223372036854775807 := by have := HL.out; unfold maxLen at this; omega
    have HLM := veil hlm
    clear hlm
    go_enter Tryz.func28, Tryz.ntmps28
    go_wp2_with fail
    go_loopw [13] (fun i wr => ∃ j : Nat, j ≤ l.length ∧ i = .int .i64 j ∧ eqL sEq l m = eqL sEq (l.drop j) (m.drop j) ∧ Below w.heap.size w wr) (fun i _ => l.length - (intOf i).toNat)
    case atStart => exact ⟨0, Nat.zero_le _, rfl, rfl, Below.refl _ _⟩
    case round =>
      obtain ⟨j, hj, rfl, hq, hbl⟩ := hrel
      have HBL := veil hbl
      have HQ := veil hq
      clear hq
      by_cases hlt : j < l.length
      · have hlt' : (j : Int) < (l.length : Int) := by omega
        have hltm : j < m.length := by have := HLM.out; omega
        have hltm' : (j : Int) < (m.length : Int) := by omega
        obtain ⟨_, b, off, rfl, hb, a0, _⟩ := HV.out.at hlt
        obtain ⟨_, b2, off2, rfl, hb2, b0, _⟩ := HU.out.at hltm
        have hbk := hS b hb
        have hbk2 := hS b2 hb2
        rw [Nat.mul_one] at a0 b0
        have d0 := (hbl.cell (p := ⟨b, off + j, none⟩) hbk).trans a0
        have e0 := (hbl.cell (p := ⟨b2, off2 + j, none⟩) hbk2).trans b0
        have HD : Hid (Below w.heap.size w wr.drew) := HBL.out.drew
        have HS : Hid (eqL sEq l m = ((l[j].toList == m[j].toList) && eqL sEq (l.drop (j + 1)) (m.drop (j + 1)))) := HQ.out.trans (eqL_step hlt hltm)
        clear a0 b0 HV HU hbl HL HM
        generalize l[j] = x at *
        generalize m[j] = y at *
        cases hxy : (x.toList == y.toList) with
        | true =>
          go_wp2_with fail
          go_region
          all_goals
            go_wp2_with fail
            exact ⟨⟨j + 1, by omega, by go_num, by rw [HS.out, hxy]; rfl, HD.out⟩, by simp [intOf]; omega⟩
        | false =>
          go_wp2_with fail
          go_region
          all_goals
            go_wp2_with fail
            go_ret
            exact ⟨by rw [HS.out, hxy]; rfl, HD.out⟩
      · have hnl : ¬ (j : Int) < (l.length : Int) := by omega
        have HE : Hid (eqL sEq l m = true) := HQ.out.trans (eqL_end (by omega) (by have := HLM.out; omega))
        clear HV HU hbl
        go_wp2_with fail
        go_ret
        exact ⟨by rw [HE.out]; rfl, HBL.out⟩
  · have hne : ((l.length : Int) != (m.length : Int)) = true := by simpa using fun e : (l.length : Int) = m.length => hlm (by omega)
    have HE := veil (eqL_len (p := sEq) hlm)
    clear hlm HV HU
    go_enter Tryz.func28, Tryz.ntmps28
    go_wp2_with fail
    go_ret
    exact ⟨by rw [HE.out]; rfl, Below.refl _ _⟩

end Go.Proofs.YtagbaimfigljiaaGreatDoor
namespace Go.Proofs.YtagbaimfigljiaaGreatDoor
open Go.RowKit
set_option maxRecDepth 100000

theorem sgIs_at {S : Nat → Prop} {w : World} {g : Sg} {b o : Nat} (h : SgAt S w g b o) : ∃ a n cap, w.cell? ⟨b, o, none⟩ = some (.string g.name) ∧ w.cell? ⟨b, o + 1, none⟩ = some (.slice a n cap) ∧ w.cell? ⟨b, o + 2, none⟩ = some (.string g.result) ∧ SgIs S w g (.agg #[.string g.name, .slice a n cap, .string g.result]) := by
  obtain ⟨⟨h0, z0⟩, ⟨v, hv, hp⟩, h1, z1⟩ := h
  obtain ⟨a, cap, rfl⟩ := hp.is
  exact ⟨a, _, cap, h0, hv, h1, _, rfl, z0, z1, hp⟩

end Go.Proofs.YtagbaimfigljiaaGreatDoor
namespace Go.Proofs.YtagbaimfigljiaaGreatDoor
open Go.RowKit
set_option maxRecDepth 100000

/-- the place of the first such one; behind all, where there is none. -/
def findAt {α : Type} (p : α → Bool) : List α → Nat
  | [] => 0
  | x :: r => if p x = true then 0 else findAt p r + 1

theorem find_yes {α : Type} {p : α → Bool} {l : List α} {k : Nat} (hk : k < l.length) (h : p l[k] = true) : findAt p (l.drop k) = 0 := by
  rw [List.drop_eq_getElem_cons hk, findAt, if_pos h]
theorem find_no {α : Type} {p : α → Bool} {l : List α} {k : Nat} (hk : k < l.length) (h : p l[k] = false) : findAt p (l.drop k) = findAt p (l.drop (k + 1)) + 1 := by
  rw [List.drop_eq_getElem_cons hk, findAt, if_neg (by rw [h]; simp)]
theorem find_end {α : Type} {p : α → Bool} {l : List α} {k : Nat} (hk : l.length ≤ k) : findAt p (l.drop k) = 0 := by
  rw [List.drop_eq_nil_of_le hk, findAt]

def idxOf {α : Type} (p : α → Bool) (l : List α) : Int := if findAt p l < l.length then (findAt p l : Int) else -1

theorem typeIs_any (B : Nat) (x y s : ByteArray) (w : World) (hp : w.cell? ⟨B, 0, none⟩ = some (.string s)) :
    Calls Tryz.prog 66 #[.agg #[.string x, .string y], .pointer (some ⟨B, 0, none⟩)] w fun e w' => e = .returned (.bool (sEq x s)) ∧ Below w.heap.size w w' := by
  have hlt : B < w.heap.size := World.block_lt_of_cell? _ _ hp
  have HE : Hid (sEq x s = (x.toList == s.toList)) := rfl
  go_enter Tryz.func66, Tryz.ntmps66
  go_wp2
  go_ret
  exact ⟨by rw [HE.out]; rfl, (Below.refl _ _).alloc (Nat.le_refl _) _⟩

theorem funcIs_any (B : Nat) (x y s : ByteArray) (a : Option Addr) (n cap : Nat) (w : World) (hp : w.cell? ⟨B, 0, none⟩ = some (.string s)) :
    Calls Tryz.prog 69 #[.agg #[.string x, .slice a n cap, .string y], .pointer (some ⟨B, 0, none⟩)] w fun e w' => e = .returned (.bool (sEq x s)) ∧ Below w.heap.size w w' := by
  have hlt : B < w.heap.size := World.block_lt_of_cell? _ _ hp
  have HE : Hid (sEq x s = (x.toList == s.toList)) := rfl
  go_enter Tryz.func69, Tryz.ntmps69
  go_wp2
  go_ret
  exact ⟨by rw [HE.out]; rfl, (Below.refl _ _).alloc (Nat.le_refl _) _⟩

set_option maxHeartbeats 2000000 in
theorem index_kn (S : Nat → Prop) (l : List Kn) (s : ByteArray) (B : Nat) (v : Value) (w : World) (hS : ∀ b, S b → b < w.heap.size) (hv : SlAt S (KnAt w) 2 l v) (hp : w.cell? ⟨B, 0, none⟩ = some (.string s)) :
    Calls Tryz.prog 65 #[v, .func (.func 66) #[] #[.pointer (some ⟨B, 0, none⟩)]] w fun e w' => e = .returned (.int .i64 (idxOf (fun k : Kn => sEq k.name s) l)) ∧ Below w.heap.size w w' := by
  have HV := veil hv
  have hlen := hv.len
  unfold maxLen at hlen
  obtain ⟨a, cap, rfl⟩ := hv.is
  have HP := veil hp
  have HBl := veil (World.block_lt_of_cell? _ _ hp)
  clear hv hp
  go_enter Tryz.func65, Tryz.ntmps65
  go_wp2_with fail
  go_loopw [8] (fun i wr => ∃ j : Nat, j ≤ l.length ∧ i = .int .i64 j ∧ findAt (fun k : Kn => sEq k.name s) l = j + findAt (fun k : Kn => sEq k.name s) (l.drop j) ∧ Below w.heap.size w wr) (fun i _ => l.length - (intOf i).toNat)
  case atStart => exact ⟨0, Nat.zero_le _, rfl, (Nat.zero_add _).symm, Below.refl _ _⟩
  case round =>
    obtain ⟨j, hj, rfl, hq, hbl⟩ := hrel
    have HQ := veil hq
    have HBW := veil hbl
    clear hq
    by_cases hlt : j < l.length
    · have hlt' : (j : Int) < (l.length : Int) := by omega
      obtain ⟨_, b, off, rfl, hb, ⟨a0, m0⟩, a1, m1⟩ := HV.out.at hlt
      have hbk := hS b hb
      have d0 := (hbl.cell (p := ⟨b, off + j * 2, none⟩) hbk).trans a0
      have d1 := (hbl.cell (p := ⟨b, off + j * 2 + 1, none⟩) hbk).trans a1
      have HC : Hid (Calls Tryz.prog 66 #[.agg #[.string l[j].name, .string l[j].is], .pointer (some ⟨B, 0, none⟩)] wr fun e w' => e = .returned (.bool (sEq l[j].name s)) ∧ Below wr.heap.size wr w') := typeIs_any B _ _ s wr ((hbl.cell HBl.out).trans HP.out)
      have HYes : Hid (sEq l[j].name s = true → findAt (fun k : Kn => sEq k.name s) l = j) := fun h => by
        rw [HQ.out, find_yes hlt h]; rfl
      have HNo : Hid (sEq l[j].name s = false → findAt (fun k : Kn => sEq k.name s) l = (j + 1) + findAt (fun k : Kn => sEq k.name s) (l.drop (j + 1))) := fun h => by
        rw [HQ.out, find_no hlt h]; omega
      clear a0 a1 m0 m1 HV hbl HQ
      generalize l[j].name = x at *
      generalize l[j].is = y at *
      cases hx : sEq x s with
      | true =>
        rw [hx] at HC
        have HI : Hid (idxOf (fun k : Kn => sEq k.name s) l = (j : Int)) := by
          show _ = _
          unfold idxOf
          rw [HYes.out hx, if_pos hlt]
        clear HYes HNo hx
        go_wp2_with fail
        refine HC.out.mono ?_
        rintro e w1 ⟨rfl, hb1⟩
        have HB1 := veil (HBW.out.trans (hb1.mono HBW.out.size))
        clear hb1
        go_wp2_with fail
        go_ret
        exact ⟨by rw [HI.out]; rfl, HB1.out⟩
      | false =>
        rw [hx] at HC
        have HN := veil (HNo.out hx)
        clear HYes HNo hx
        go_wp2_with fail
        refine HC.out.mono ?_
        rintro e w1 ⟨rfl, hb1⟩
        have HB1 := veil (HBW.out.trans (hb1.mono HBW.out.size))
        clear hb1
        go_wp2_with fail
        exact ⟨⟨j + 1, by omega, by go_num, HN.out, HB1.out⟩, by simp [intOf]; omega⟩
    · have hnl : ¬ (j : Int) < (l.length : Int) := by omega
      have HI : Hid (idxOf (fun k : Kn => sEq k.name s) l = -1) := by
        show _ = _
        unfold idxOf
        rw [HQ.out, find_end (by omega), if_neg (by omega)]
      clear HV hbl HQ
      go_wp2_with fail
      go_ret
      exact ⟨by rw [HI.out]; rfl, HBW.out⟩

set_option maxHeartbeats 2000000 in
theorem index_sg (S : Nat → Prop) (l : List Sg) (s : ByteArray) (B : Nat) (v : Value) (w : World) (hS : ∀ b, S b → b < w.heap.size) (hv : SlAt S (SgAt S w) 3 l v) (hp : w.cell? ⟨B, 0, none⟩ = some (.string s)) :
    Calls Tryz.prog 68 #[v, .func (.func 69) #[] #[.pointer (some ⟨B, 0, none⟩)]] w fun e w' => e = .returned (.int .i64 (idxOf (fun k : Sg => sEq k.name s) l)) ∧ Below w.heap.size w w' := by
  have HV := veil hv
  have hlen := hv.len
  unfold maxLen at hlen
  obtain ⟨a, cap, rfl⟩ := hv.is
  have HP := veil hp
  have HBl := veil (World.block_lt_of_cell? _ _ hp)
  clear hv hp
  go_enter Tryz.func68, Tryz.ntmps68
  go_wp2_with fail
  go_loopw [8] (fun i wr => ∃ j : Nat, j ≤ l.length ∧ i = .int .i64 j ∧ findAt (fun k : Sg => sEq k.name s) l = j + findAt (fun k : Sg => sEq k.name s) (l.drop j) ∧ Below w.heap.size w wr) (fun i _ => l.length - (intOf i).toNat)
  case atStart => exact ⟨0, Nat.zero_le _, rfl, (Nat.zero_add _).symm, Below.refl _ _⟩
  case round =>
    obtain ⟨j, hj, rfl, hq, hbl⟩ := hrel
    have HQ := veil hq
    have HBW := veil hbl
    clear hq
    by_cases hlt : j < l.length
    · have hlt' : (j : Int) < (l.length : Int) := by omega
      obtain ⟨_, b, off, rfl, hb, hat⟩ := HV.out.at hlt
      have hbk := hS b hb
      obtain ⟨p1, p2, p3, a0, a1, a2, _⟩ := sgIs_at hat
      have d0 := (hbl.cell (p := ⟨b, off + j * 3, none⟩) hbk).trans a0
      have d1 := (hbl.cell (p := ⟨b, off + j * 3 + 1, none⟩) hbk).trans a1
      have d2 := (hbl.cell (p := ⟨b, off + j * 3 + 2, none⟩) hbk).trans a2
      have HC : Hid (Calls Tryz.prog 69 #[.agg #[.string l[j].name, .slice p1 p2 p3, .string l[j].result], .pointer (some ⟨B, 0, none⟩)] wr fun e w' => e = .returned (.bool (sEq l[j].name s)) ∧ Below wr.heap.size wr w') := funcIs_any B _ _ s _ _ _ wr ((hbl.cell HBl.out).trans HP.out)
      have HYes : Hid (sEq l[j].name s = true → findAt (fun k : Sg => sEq k.name s) l = j) := fun h => by
        rw [HQ.out, find_yes hlt h]; rfl
      have HNo : Hid (sEq l[j].name s = false → findAt (fun k : Sg => sEq k.name s) l = (j + 1) + findAt (fun k : Sg => sEq k.name s) (l.drop (j + 1))) := fun h => by
        rw [HQ.out, find_no hlt h]; omega
      clear a0 a1 a2 hat HV hbl HQ
      generalize l[j].name = x at *
      generalize l[j].result = y at *
      cases hx : sEq x s with
      | true =>
        rw [hx] at HC
        have HI : Hid (idxOf (fun k : Sg => sEq k.name s) l = (j : Int)) := by
          show _ = _
          unfold idxOf
          rw [HYes.out hx, if_pos hlt]
        clear HYes HNo hx
        go_wp2_with fail
        refine HC.out.mono ?_
        rintro e w1 ⟨rfl, hb1⟩
        have HB1 := veil (HBW.out.trans (hb1.mono HBW.out.size))
        clear hb1
        go_wp2_with fail
        go_ret
        exact ⟨by rw [HI.out]; rfl, HB1.out⟩
      | false =>
        rw [hx] at HC
        have HN := veil (HNo.out hx)
        clear HYes HNo hx
        go_wp2_with fail
        refine HC.out.mono ?_
        rintro e w1 ⟨rfl, hb1⟩
        have HB1 := veil (HBW.out.trans (hb1.mono HBW.out.size))
        clear hb1
        go_wp2_with fail
        exact ⟨⟨j + 1, by omega, by go_num, HN.out, HB1.out⟩, by simp [intOf]; omega⟩
    · have hnl : ¬ (j : Int) < (l.length : Int) := by omega
      have HI : Hid (idxOf (fun k : Sg => sEq k.name s) l = -1) := by
        show _ = _
        unfold idxOf
        rw [HQ.out, find_end (by omega), if_neg (by omega)]
      clear HV hbl HQ
      go_wp2_with fail
      go_ret
      exact ⟨by rw [HI.out]; rfl, HBW.out⟩

end Go.Proofs.YtagbaimfigljiaaGreatDoor
namespace Go.Proofs.YtagbaimfigljiaaGreatDoor
open Go.RowKit
set_option maxRecDepth 100000

theorem beq_flip (s x : ByteArray) : (s.toList == x.toList) = (x.toList == s.toList) := by
  rw [Bool.eq_iff_iff, beq_iff_eq, beq_iff_eq]
  exact eq_comm

def hasS (l : List ByteArray) (s : ByteArray) : Bool := decide (findAt (fun x => sEq x s) l < l.length)

set_option maxHeartbeats 2000000 in
theorem index_str (S : Nat → Prop) (l : List ByteArray) (s : ByteArray) (v : Value) (w : World) (hS : ∀ b, S b → b < w.heap.size) (hv : SlAt S (StrAt w) 1 l v) :
    Calls Tryz.prog 296 #[v, .string s] w fun e w' => e = .returned (.int .i64 (idxOf (fun x => sEq x s) l)) ∧ Below w.heap.size w w' := by
  have HV := veil hv
  have hlen := hv.len
  unfold maxLen at hlen
  obtain ⟨a, cap, rfl⟩ := hv.is
  clear hv
  go_enter Tryz.func296, Tryz.ntmps296
  go_wp2_with fail
  go_loopw [8] (fun i wr => ∃ j : Nat, j ≤ l.length ∧ i = .int .i64 j ∧ findAt (fun x => sEq x s) l = j + findAt (fun x => sEq x s) (l.drop j) ∧ Below w.heap.size w wr) (fun i _ => l.length - (intOf i).toNat)
  case atStart => exact ⟨0, Nat.zero_le _, rfl, (Nat.zero_add _).symm, Below.refl _ _⟩
  case round =>
    obtain ⟨j, hj, rfl, hq, hbl⟩ := hrel
    have HQ := veil hq
    have HBW := veil hbl
    clear hq
    by_cases hlt : j < l.length
    · have hlt' : (j : Int) < (l.length : Int) := by omega
      obtain ⟨_, b, off, rfl, hb, a0, m0⟩ := HV.out.at hlt
      have hbk := hS b hb
      rw [Nat.mul_one] at a0
      have d0 := (hbl.cell (p := ⟨b, off + j, none⟩) hbk).trans a0
      have HYes : Hid ((s.toList == l[j].toList) = true → findAt (fun x => sEq x s) l = j) := fun h => by
        rw [beq_flip] at h
        rw [HQ.out, find_yes hlt h]; rfl
      have HNo : Hid ((s.toList == l[j].toList) = false → findAt (fun x => sEq x s) l = (j + 1) + findAt (fun x => sEq x s) (l.drop (j + 1))) := fun h => by
        rw [beq_flip] at h
        rw [HQ.out, find_no hlt h]; omega
      clear a0 m0 HV hbl HQ
      generalize l[j] = x at *
      cases hx : (s.toList == x.toList) with
      | true =>
        have HI : Hid (idxOf (fun x => sEq x s) l = (j : Int)) := by
          show _ = _
          unfold idxOf
          rw [HYes.out hx, if_pos hlt]
        clear HYes HNo
        go_wp2_with fail
        go_ret
        exact ⟨by rw [HI.out]; rfl, HBW.out⟩
      | false =>
        have HN := veil (HNo.out hx)
        clear HYes HNo
        go_wp2_with fail
        exact ⟨⟨j + 1, by omega, by go_num, HN.out, HBW.out⟩, by simp [intOf]; omega⟩
    · have hnl : ¬ (j : Int) < (l.length : Int) := by omega
      have HI : Hid (idxOf (fun x => sEq x s) l = -1) := by
        show _ = _
        unfold idxOf
        rw [HQ.out, find_end (by omega), if_neg (by omega)]
      clear HV hbl HQ
      go_wp2_with fail
      go_ret
      exact ⟨by rw [HI.out]; rfl, HBW.out⟩

theorem contains_str (S : Nat → Prop) (l : List ByteArray) (s : ByteArray) (v : Value) (w : World) (hS : ∀ b, S b → b < w.heap.size) (hv : SlAt S (StrAt w) 1 l v) :
    Calls Tryz.prog 234 #[v, .string s] w fun e w' => e = .returned (.bool (hasS l s)) ∧ Below w.heap.size w w' := by
  have HC : Hid (Calls Tryz.prog 296 #[v, .string s] w fun e w' => e = .returned (.int .i64 (idxOf (fun x => sEq x s) l)) ∧ Below w.heap.size w w') := index_str S l s v w hS hv
  have hE : decide (0 ≤ idxOf (fun x => sEq x s) l) = hasS l s := by
    unfold idxOf hasS
    by_cases h : findAt (fun x => sEq x s) l < l.length
    · rw [if_pos h]; simp [h]
    · rw [if_neg h]; simp [h]
  have HE := veil hE
  obtain ⟨a, cap, rfl⟩ := hv.is
  clear hv hE
  generalize idxOf (fun x => sEq x s) l = r at *
  go_enter Tryz.func234, Tryz.ntmps234
  go_wp2_with fail
  refine HC.out.mono ?_
  rintro e w1 ⟨rfl, hb1⟩
  have HB1 := veil hb1
  clear hb1
  go_wp2_with fail
  go_ret
  exact ⟨by rw [← HE.out]; rfl, HB1.out⟩

theorem useIs_any (B : Nat) (x s : ByteArray) (y : Bool) (a : Option Addr) (n cap : Nat) (a2 : Option Addr) (n2 cap2 : Nat) (w : World) (hp : w.cell? ⟨B, 0, none⟩ = some (.string s)) :
    Calls Tryz.prog 298 #[.agg #[.string x, .bool y, .slice a n cap, .slice a2 n2 cap2], .pointer (some ⟨B, 0, none⟩)] w fun e w' => e = .returned (.bool (sEq x s)) ∧ Below w.heap.size w w' := by
  have hlt : B < w.heap.size := World.block_lt_of_cell? _ _ hp
  have HE : Hid (sEq x s = (x.toList == s.toList)) := rfl
  go_enter Tryz.func298, Tryz.ntmps298
  go_wp2
  go_ret
  exact ⟨by rw [HE.out]; rfl, (Below.refl _ _).alloc (Nat.le_refl _) _⟩

theorem im_cells {S : Nat → Prop} {w : World} {i : Im} {b o : Nat} (h : ImAt S w i b o) : ∃ a n cap a2 n2 cap2, w.cell? ⟨b, o, none⟩ = some (.string i.name) ∧ w.cell? ⟨b, o + 1, none⟩ = some (.bool i.there) ∧ w.cell? ⟨b, o + 2, none⟩ = some (.slice a n cap) ∧ w.cell? ⟨b, o + 3, none⟩ = some (.slice a2 n2 cap2) ∧ FcIs S w i.face (.agg #[.slice a n cap, .slice a2 n2 cap2]) := by
  obtain ⟨⟨h0, _⟩, h1, vt, vf, h2, h3, hc⟩ := h
  obtain ⟨a, n, cap, rfl⟩ := hc.1.slice
  obtain ⟨a2, n2, cap2, rfl⟩ := hc.2.slice
  exact ⟨a, n, cap, a2, n2, cap2, h0, h1, h2, h3, _, _, rfl, hc⟩

set_option maxHeartbeats 2000000 in
theorem index_im (S : Nat → Prop) (l : List Im) (s : ByteArray) (B : Nat) (v : Value) (w : World) (hS : ∀ b, S b → b < w.heap.size) (hv : SlAt S (ImAt S w) 4 l v) (hp : w.cell? ⟨B, 0, none⟩ = some (.string s)) :
    Calls Tryz.prog 297 #[v, .func (.func 298) #[] #[.pointer (some ⟨B, 0, none⟩)]] w fun e w' => e = .returned (.int .i64 (idxOf (fun k : Im => sEq k.name s) l)) ∧ Below w.heap.size w w' := by
  have HV := veil hv
  have hlen := hv.len
  unfold maxLen at hlen
  obtain ⟨a, cap, rfl⟩ := hv.is
  have HP := veil hp
  have HBl := veil (World.block_lt_of_cell? _ _ hp)
  clear hv hp
  go_enter Tryz.func297, Tryz.ntmps297
  go_wp2_with fail
  go_loopw [8] (fun i wr => ∃ j : Nat, j ≤ l.length ∧ i = .int .i64 j ∧ findAt (fun k : Im => sEq k.name s) l = j + findAt (fun k : Im => sEq k.name s) (l.drop j) ∧ Below w.heap.size w wr) (fun i _ => l.length - (intOf i).toNat)
  case atStart => exact ⟨0, Nat.zero_le _, rfl, (Nat.zero_add _).symm, Below.refl _ _⟩
  case round =>
    obtain ⟨j, hj, rfl, hq, hbl⟩ := hrel
    have HQ := veil hq
    have HBW := veil hbl
    clear hq
    by_cases hlt : j < l.length
    · have hlt' : (j : Int) < (l.length : Int) := by omega
      obtain ⟨_, b, off, rfl, hb, hat⟩ := HV.out.at hlt
      have hbk := hS b hb
      obtain ⟨p1, p2, p3, q1, q2, q3, a0, a1, a2, a3, _⟩ := im_cells hat
      have d0 := (hbl.cell (p := ⟨b, off + j * 4, none⟩) hbk).trans a0
      have d1 := (hbl.cell (p := ⟨b, off + j * 4 + 1, none⟩) hbk).trans a1
      have d2 := (hbl.cell (p := ⟨b, off + j * 4 + 2, none⟩) hbk).trans a2
      have d3 := (hbl.cell (p := ⟨b, off + j * 4 + 3, none⟩) hbk).trans a3
      have HC : Hid (Calls Tryz.prog 298 #[.agg #[.string l[j].name, .bool l[j].there, .slice p1 p2 p3, .slice q1 q2 q3], .pointer (some ⟨B, 0, none⟩)] wr fun e w' => e = .returned (.bool (sEq l[j].name s)) ∧ Below wr.heap.size wr w') := useIs_any B _ s _ _ _ _ _ _ _ wr ((hbl.cell HBl.out).trans HP.out)
      have HYes : Hid (sEq l[j].name s = true → findAt (fun k : Im => sEq k.name s) l = j) := fun h => by
        rw [HQ.out, find_yes hlt h]; rfl
      have HNo : Hid (sEq l[j].name s = false → findAt (fun k : Im => sEq k.name s) l = (j + 1) + findAt (fun k : Im => sEq k.name s) (l.drop (j + 1))) := fun h => by
        rw [HQ.out, find_no hlt h]; omega
      clear a0 a1 a2 a3 hat HV hbl HQ
      generalize l[j].name = x at *
      generalize l[j].there = y at *
      cases hx : sEq x s with
      | true =>
        rw [hx] at HC
        have HI : Hid (idxOf (fun k : Im => sEq k.name s) l = (j : Int)) := by
          show _ = _
          unfold idxOf
          rw [HYes.out hx, if_pos hlt]
        clear HYes HNo hx
        go_wp2_with fail
        refine HC.out.mono ?_
        rintro e w1 ⟨rfl, hb1⟩
        have HB1 := veil (HBW.out.trans (hb1.mono HBW.out.size))
        clear hb1
        go_wp2_with fail
        go_ret
        exact ⟨by rw [HI.out]; rfl, HB1.out⟩
      | false =>
        rw [hx] at HC
        have HN := veil (HNo.out hx)
        clear HYes HNo hx
        go_wp2_with fail
        refine HC.out.mono ?_
        rintro e w1 ⟨rfl, hb1⟩
        have HB1 := veil (HBW.out.trans (hb1.mono HBW.out.size))
        clear hb1
        go_wp2_with fail
        exact ⟨⟨j + 1, by omega, by go_num, HN.out, HB1.out⟩, by simp [intOf]; omega⟩
    · have hnl : ¬ (j : Int) < (l.length : Int) := by omega
      have HI : Hid (idxOf (fun k : Im => sEq k.name s) l = -1) := by
        show _ = _
        unfold idxOf
        rw [HQ.out, find_end (by omega), if_neg (by omega)]
      clear HV hbl HQ
      go_wp2_with fail
      go_ret
      exact ⟨by rw [HI.out]; rfl, HBW.out⟩

end Go.Proofs.YtagbaimfigljiaaGreatDoor
namespace Go.Proofs.YtagbaimfigljiaaGreatDoor
open Go.RowKit
set_option maxRecDepth 100000

/-- a fact that the walk must not take for a rule. -/
theorem veilK {p : Prop} (h : p) : Hid p := h

/-- byte j of s, as a number (0 beyond its end). -/
def kAt (s : ByteArray) (j : Nat) : Int := ((s.data.toList.getD j 0).toNat : Int)

theorem kAt_get (s : ByteArray) (k : Nat) (h : k < s.size) : ((s[k]'h).toNat : Int) = kAt s k := by
  unfold kAt
  have h' : k < s.data.toList.length := by simpa using h
  rw [List.getD_eq_getElem?_getD, List.getElem?_eq_getElem h']
  rfl

def isList (s : ByteArray) : Bool := decide (2 < s.size) && (kAt s 0 == 91 && kAt s (s.size - 1) == 93)
def inner (s : ByteArray) : ByteArray := s.extract 1 (s.size - 1)

theorem isList_size {s : ByteArray} (h : isList s = true) : 2 < s.size := by
  unfold isList at h
  simp only [Bool.and_eq_true, decide_eq_true_eq] at h
  exact h.1

theorem inner_size {s : ByteArray} (h : 2 < s.size) : (inner s).size = s.size - 2 := by
  unfold inner
  rw [ByteArray.size_extract]
  omega

/-- what is left of a text when all its brackets are taken away. -/
def kcore (s : ByteArray) : ByteArray := if isList s = true then kcore (inner s) else s
termination_by s.size
decreasing_by rename_i h; rw [inner_size (isList_size h)]; have := isList_size h; omega

theorem kcore_in {s : ByteArray} (h : isList s = true) : kcore s = kcore (inner s) := by rw [kcore.eq_1 s]; simp [h]
theorem kcore_no {s : ByteArray} (h : isList s = false) : kcore s = s := by rw [kcore.eq_1 s]; simp [h]

theorem bracketed_any (s : ByteArray) (hs : s.size ≤ maxLen) (w : World) :
    Calls Tryz.prog 254 #[.string s] w fun e w' => e = .returned (.bool (isList s)) ∧ w = w' := by
  unfold maxLen at hs
  by_cases h2 : 2 < s.size
  · have h2' : (2 : Int) < (s.size : Int) := by omega
    have HL : Hid (isList s = (((s[0]'(by omega)).toNat : Int) == 91 && ((s[s.size - 1]'(by omega)).toNat : Int) == 93)) := by
      show _ = _
      rw [kAt_get s 0, kAt_get s (s.size - 1)]; simp [isList, h2]
    by_cases h0 : ((s[0]'(by omega)).toNat : Int) = 91
    · go_enter Tryz.func254, Tryz.ntmps254
      go_wp2
      go_ret
      exact ⟨by rw [HL.out, h0]; rfl, rfl⟩
    · have h0' : (((s[0]'(by omega)).toNat : Int) == 91) = false := by simpa using h0
      go_enter Tryz.func254, Tryz.ntmps254
      go_wp2
      go_ret
      exact ⟨by rw [HL.out, h0']; rfl, rfl⟩
  · have h2' : ¬ (2 : Int) < (s.size : Int) := by omega
    have HL : Hid (isList s = false) := by show _ = _; simp [isList]; omega
    go_enter Tryz.func254, Tryz.ntmps254
    go_wp2
    go_ret
    exact ⟨by rw [HL.out]; rfl, rfl⟩

theorem run_inner (s : ByteArray) (h2 : 2 < s.size) (wx : World) :
    (Instr.slice 9 (.string s) (some (.int .i64 1)) (some (.int .i64 ((s.size : Int) - 1))) none).run Tryz.prog wx = .ok (.string (inner s)) wx := by
  have := run_slice_string (P := Tryz.prog) wx 9 s .i64 .i64 1 ((s.size : Int) - 1) Tryz.underlying9 (by omega) (by omega) (by omega)
  rw [this]
  unfold inner
  rw [show ((s.size : Int) - 1).toNat = s.size - 1 by omega]
  rfl

theorem between_any (s : ByteArray) (hs : s.size ≤ maxLen) (h2 : 2 < s.size) (w : World) :
    Calls Tryz.prog 255 #[.string s] w fun e w' => e = .returned (.string (inner s)) ∧ w = w' := by
  unfold maxLen at hs
  have h2' : (2 : Int) < (s.size : Int) := by omega
  have hsl := run_inner s h2
  go_enter Tryz.func255, Tryz.ntmps255
  go_wp2
  go_ret
  exact ⟨rfl, rfl⟩

/-- may a text be what is left of a kind? -/
def isBase (t : ByteArray) : Bool := t.toList == [105, 110, 116] || (t.toList == [116, 101, 120, 116] || t.toList == [42])
def kindErr (s : ByteArray) : Int := if 600 < s.size then 1 else if isBase (kcore s) then 0 else 4

def textOfV : Value → ByteArray
  | .string t => t
  | _ => ⟨#[]⟩

set_option maxHeartbeats 1000000 in
theorem check_kind (s : ByteArray) (hs : s.size ≤ maxLen) (w : World) :
    Calls Tryz.prog 178 #[.string s] w fun e w' => e = .returned (.int .i64 (kindErr s)) ∧ w = w' := by
  by_cases h6 : 600 < s.size
  · have h6' : (600 : Int) < (s.size : Int) := by omega
    have HE : Hid (kindErr s = 1) := by show _ = _; simp [kindErr, h6]
    go_enter Tryz.func178, Tryz.ntmps178
    go_wp2
    go_ret
    exact ⟨by rw [HE.out]; rfl, rfl⟩
  · have h6' : ¬ (600 : Int) < (s.size : Int) := by omega
    have HE : Hid (kindErr s = if isBase (kcore s) then 0 else 4) := by show _ = _; simp [kindErr, h6]
    go_enter Tryz.func178, Tryz.ntmps178
    go_wp2_with fail
    go_loop [0] (fun v => ∃ t : ByteArray, t.size ≤ s.size ∧ v = .string t ∧ kcore t = kcore s) (fun v => (textOfV v).size)
    case atStart => exact ⟨s, Nat.le_refl _, rfl, rfl⟩
    case round =>
      obtain ⟨t, ht, rfl, hk⟩ := hrel
      have HK := veilK hk
      clear hk
      go_wp2_with fail
      refine (bracketed_any t (by omega) _).mono ?_
      rintro e w' ⟨rfl, rfl⟩
      cases hl : isList t with
      | true =>
        have h2 := isList_size hl
        have HIn := veilK (kcore_in hl)
        have HSz := veilK (inner_size h2)
        clear hl
        go_wp2_with fail
        refine (between_any t (by omega) h2 _).mono ?_
        rintro e w' ⟨rfl, rfl⟩
        go_wp2_with fail
        go_round
        · exact ⟨inner t, by rw [HSz.out]; omega, rfl, by rw [← HIn.out]; exact HK.out⟩
        · show (inner t).size < t.size
          rw [HSz.out]; omega
      | false =>
        have HNo := veilK (kcore_no hl)
        have HF : Hid (kindErr s = if isBase t then 0 else 4) := by show _ = _; rw [HE.out, ← HK.out, HNo.out]
        clear HE HK HNo hl
        cases b1 : (t.toList == [105, 110, 116]) with
        | true =>
          go_wp2
          go_ret
          exact ⟨by rw [HF.out]; simp [isBase, b1], rfl⟩
        | false =>
          cases b2 : (t.toList == [116, 101, 120, 116]) with
          | true =>
            go_wp2
            go_ret
            exact ⟨by rw [HF.out]; simp [isBase, b1, b2], rfl⟩
          | false =>
            cases b3 : (t.toList == [42]) with
            | true =>
              go_wp2
              go_ret
              exact ⟨by rw [HF.out]; simp [isBase, b1, b2, b3], rfl⟩
            | false =>
              go_wp2
              go_ret
              exact ⟨by rw [HF.out]; simp [isBase, b1, b2, b3], rfl⟩

/-- the list of a text. -/
def wrapK (s : ByteArray) : ByteArray := ⟨#[91]⟩ ++ s ++ ⟨#[93]⟩
def listErr (s : ByteArray) : Int := if kindErr s = 0 then (if 598 < s.size then 1 else 0) else kindErr s

theorem kindErr_size {s : ByteArray} (h : kindErr s = 0) : s.size ≤ 600 := by
  unfold kindErr at h
  split at h
  · cases h
  · omega

theorem listOf_bad {s : ByteArray} (hs : s.size ≤ maxLen) (h : listErr s ≠ 0) (w : World) :
    Calls Tryz.prog 323 #[.string s] w fun e w' => e = .returned (.tuple #[.string ⟨#[]⟩, .int .i64 (listErr s)]) ∧ w = w' := by
  by_cases hk : kindErr s = 0
  · have h5 : 598 < s.size := by
      unfold listErr at h; rw [if_pos hk] at h
      by_cases h5 : 598 < s.size
      · exact h5
      · rw [if_neg h5] at h; exact absurd rfl h
    have HE : Hid (listErr s = 1) := by show _ = _; simp [listErr, hk, h5]
    have h6 := kindErr_size hk
    have h7 : (600 : Int) < (s.size : Int) + 2 := by omega
    clear h
    go_enter Tryz.func323, Tryz.ntmps323
    go_wp2_with fail
    refine (check_kind s hs _).mono ?_
    rintro e w' ⟨rfl, rfl⟩
    rw [hk]
    clear hk
    go_wp2
    go_ret2
    exact ⟨by rw [HE.out]; rfl, rfl⟩
  · have HE : Hid (listErr s = kindErr s) := by show _ = _; simp [listErr, hk]
    have hk' : (kindErr s != 0) = true := by simpa using hk
    clear h hk
    go_enter Tryz.func323, Tryz.ntmps323
    go_wp2_with fail
    refine (check_kind s hs _).mono ?_
    rintro e w' ⟨rfl, rfl⟩
    go_wp2
    go_ret2
    exact ⟨by rw [HE.out]; rfl, rfl⟩

theorem listErr_ok {s : ByteArray} (h : listErr s = 0) : kindErr s = 0 ∧ s.size ≤ 598 := by
  unfold listErr at h
  split at h
  · refine ⟨by assumption, ?_⟩
    split at h
    · cases h
    · omega
  · exact absurd h (by assumption)

set_option maxRecDepth 100000 in
theorem listOf_good {s : ByteArray} (h : listErr s = 0) (w : World) :
    Calls Tryz.prog 323 #[.string s] w fun e w' => e = .returned (.tuple #[.string (wrapK s), .int .i64 0]) ∧ w = w' := by
  obtain ⟨hk, h5⟩ := listErr_ok h
  have h7 : ¬ (600 : Int) < (s.size : Int) + 2 := by omega
  have hs : s.size ≤ maxLen := by unfold maxLen; omega
  clear h
  go_enter Tryz.func323, Tryz.ntmps323
  go_wp2_with fail
  refine (check_kind s hs _).mono ?_
  rintro e w' ⟨rfl, rfl⟩
  rw [hk]
  clear hk
  go_wp2
  go_ret2
  exact ⟨rfl, rfl⟩

end Go.Proofs.YtagbaimfigljiaaGreatDoor
namespace Go.Proofs.YtagbaimfigljiaaGreatDoor
open Go.RowKit
set_option maxRecDepth 100000

theorem clone_kind (s : ByteArray) (w : World) (h : s.size ≤ 281474976710656) :
    Calls Tryz.prog 67 #[.string s] w fun e w' => e = .returned (.string s) ∧ Below w.heap.size w w' := by
  go_enter Tryz.func67, Tryz.ntmps67
  go_wp2_with (go_at_call 117; refine (Tryz.stringslite_Clone s _ h).mono ?_; rintro e w' ⟨rfl, hb⟩)
  go_ret
  exact ⟨rfl, hb⟩

theorem elem_list {s : ByteArray} (hs : s.size ≤ 281474976710656) (h : isList s = true) (w : World) :
    Calls Tryz.prog 344 #[.string s] w fun e w' => e = .returned (.tuple #[.string (inner s), .bool true]) ∧ Below w.heap.size w w' := by
  have h2 := isList_size h
  have hi := inner_size h2
  have hm : s.size ≤ maxLen := by unfold maxLen; omega
  go_enter Tryz.func344, Tryz.ntmps344
  go_wp2_with fail
  refine (bracketed_any s hm _).mono ?_
  rintro e w' ⟨rfl, rfl⟩
  rw [h]
  go_wp2_with fail
  refine (between_any s hm h2 _).mono ?_
  rintro e w' ⟨rfl, rfl⟩
  go_wp2_with fail
  refine (clone_kind (inner s) _ (by omega)).mono ?_
  rintro e w1 ⟨rfl, hb⟩
  go_wp2
  go_ret2
  exact ⟨rfl, hb⟩

theorem elem_none {s : ByteArray} (hm : s.size ≤ maxLen) (h : isList s = false) (w : World) :
    Calls Tryz.prog 344 #[.string s] w fun e w' => e = .returned (.tuple #[.string ⟨#[]⟩, .bool false]) ∧ w = w' := by
  go_enter Tryz.func344, Tryz.ntmps344
  go_wp2_with fail
  refine (bracketed_any s hm _).mono ?_
  rintro e w' ⟨rfl, rfl⟩
  rw [h]
  go_wp2
  go_ret2
  exact ⟨rfl, rfl⟩

/-- has a text the variable's sign? -/
def hasVar (s : ByteArray) : Bool := s.data.toList.contains 42

theorem index_has (l : List UInt8) : decide (0 ≤ Lib.indexByte l 42) = l.contains 42 := by
  cases h : l.contains 42 with
  | true =>
    rw [List.contains_iff_mem] at h
    obtain ⟨k, hk⟩ := List.getElem?_of_mem h
    have h1 := Lib.indexByte_ge l 42
    have h2 : Lib.indexByte l 42 ≠ -1 := fun e => Lib.indexByte_none e k hk
    simp; omega
  | false =>
    have h1 := Lib.indexByte_ge l 42
    simp only [decide_eq_false_iff_not]
    intro h0
    obtain ⟨o, ho⟩ := Int.eq_ofNat_of_zero_le h0
    have := (Lib.indexByte_some ho).1
    have hm := List.mem_of_getElem? this
    rw [← List.contains_iff_mem, h] at hm
    cases hm

theorem open_any (s : ByteArray) (w : World) :
    Calls Tryz.prog 108 #[.string s] w fun e w' => e = .returned (.bool (hasVar s)) ∧ w = w' := by
  have HI := veilK (index_has s.data.toList)
  have hx : Calls Tryz.prog 179 #[.string s, .int .u8 42] w fun e w' => e = .returned (.int .i64 (Lib.indexByte s.data.toList 42)) ∧ w = w' := by
    go_enter Tryz.func179, Tryz.ntmps179
    go_wp2_with fail
    refine (Tryz.stringslite_IndexByte s 42 _).mono ?_
    rintro e w' ⟨rfl, rfl⟩
    go_wp2
    go_ret
    exact ⟨rfl, rfl⟩
  have HX := veilK hx
  clear hx
  go_enter Tryz.func108, Tryz.ntmps108
  go_wp2_with fail
  refine HX.out.mono ?_
  rintro e w' ⟨rfl, rfl⟩
  have e2 := HI.out
  clear HI HX
  have HV : Hid (hasVar s = s.data.toList.contains 42) := rfl
  generalize Lib.indexByte s.data.toList 42 = n at *
  rw [← HV.out] at e2
  clear HV
  cases hv : hasVar s with
  | true =>
    have h0 : (0 : Int) ≤ n := by rw [hv] at e2; simpa using e2
    have HV := veilK hv
    clear e2 hv
    go_wp2
    go_ret
    exact ⟨by first | rfl | rw [HV.out]; rfl, rfl⟩
  | false =>
    have h0 : ¬ (0 : Int) ≤ n := by rw [hv] at e2; simpa using e2
    have h0' : decide ((0 : Int) ≤ n) = false := by simpa using h0
    have HV := veilK hv
    clear e2 hv
    go_wp2
    go_ret
    exact ⟨by rw [HV.out]; rfl, rfl⟩

end Go.Proofs.YtagbaimfigljiaaGreatDoor
namespace Go.Proofs.YtagbaimfigljiaaGreatDoor
open Go.RowKit
set_option maxRecDepth 100000

/-- what copyType's region keeps. -/
def KnBox (w : World) (x y : ByteArray) (W : World) : Prop :=
  Below w.heap.size w W ∧ W.cell? ⟨w.heap.size, 0, none⟩ = some (.string x) ∧ W.cell? ⟨w.heap.size, 1, none⟩ = some (.string y)

theorem KnBox.later {w : World} {x y : ByteArray} {W W' : World} (h : KnBox w x y W) (hb : Below W.heap.size W W') : KnBox w x y W' := by
  obtain ⟨h0, h1, h2⟩ := h
  exact ⟨h0.trans (hb.mono h0.size), (hb.cell (World.block_lt_of_cell? _ _ h1)).trans h1, (hb.cell (World.block_lt_of_cell? _ _ h2)).trans h2⟩

theorem KnBox.stored {w : World} {x y : ByteArray} {W : World} (h : KnBox w x y W) (u v : Value) : KnBox w x y ((W.setCell ⟨w.heap.size + 1, 0, none⟩ u).setCell ⟨w.heap.size + 1, 1, none⟩ v) := by
  obtain ⟨h0, h1, h2⟩ := h
  refine ⟨(h0.setCell (by show w.heap.size ≤ w.heap.size + 1; omega) _).setCell (by show w.heap.size ≤ w.heap.size + 1; omega) _, ?_, ?_⟩
  · rw [World.cell?_setCell_far _ _ _ _ (by show w.heap.size + 1 ≠ w.heap.size; omega), World.cell?_setCell_far _ _ _ _ (by show w.heap.size + 1 ≠ w.heap.size; omega)]; exact h1
  · rw [World.cell?_setCell_far _ _ _ _ (by show w.heap.size + 1 ≠ w.heap.size; omega), World.cell?_setCell_far _ _ _ _ (by show w.heap.size + 1 ≠ w.heap.size; omega)]; exact h2

set_option maxHeartbeats 4000000 in
theorem copyType_any (x y : ByteArray) (hx : x.size ≤ reachBytes) (hy : y.size ≤ reachBytes) (w : World) :
    Calls Tryz.prog 60 #[.agg #[.string x, .string y]] w fun e w' => e = .returned (.agg #[.string x, .string y]) ∧ Below w.heap.size w w' := by
  have hr := reachBytes_lt
  have HCx : Hid (∀ W, Calls Tryz.prog 67 #[.string x] W fun e w' => e = .returned (.string x) ∧ Below W.heap.size W w') := fun W => clone_kind x W (by omega)
  have HCy : Hid (∀ W, Calls Tryz.prog 67 #[.string y] W fun e w' => e = .returned (.string y) ∧ Below W.heap.size W w') := fun W => clone_kind y W (by omega)
  obtain ⟨w2, hwe, hs2, p0, p1, q0, q1, f0, f1, hbel⟩ : ∃ w2, (w.alloc (.cells #[.string x, .string y] 91)).alloc (.cells #[.string ⟨#[]⟩, .string ⟨#[]⟩] 91) = w2 ∧ w2.heap.size = w.heap.size + 2 ∧
      w2.cell? ⟨w.heap.size, 0, none⟩ = some (.string x) ∧ w2.cell? ⟨w.heap.size, 1, none⟩ = some (.string y) ∧ w2.cell? ⟨w.heap.size + 1, 0, none⟩ = some (.string ⟨#[]⟩) ∧ w2.cell? ⟨w.heap.size + 1, 1, none⟩ = some (.string ⟨#[]⟩) ∧
      w2.frozen? ⟨w.heap.size + 1, 0, none⟩ = false ∧ w2.frozen? ⟨w.heap.size + 1, 1, none⟩ = false ∧ Below w.heap.size w w2 :=
    ⟨_, rfl, by simp, by simp [go_sem], by simp [go_sem], by simp [go_sem], by simp [go_sem], by simp [go_sem], by simp [go_sem], ((Below.refl _ _).alloc (Nat.le_refl _) _).alloc (by simp) _⟩
  have HWe := veil hwe
  have HX : Hid (Below (w.heap.size + 2) w2 w2.drew) := (Below.refl _ _).drew
  have HK0 : Hid (KnBox w x y w2.drew) := ⟨hbel.drew, p0, p1⟩
  have HN : Hid (∀ W W', KnBox w x y W → Below W.heap.size W W' → KnBox w x y W') := fun _ _ h hb => h.later hb
  have HN2 : Hid (∀ W u v, KnBox w x y W → KnBox w x y ((W.setCell ⟨w.heap.size + 1, 0, none⟩ u).setCell ⟨w.heap.size + 1, 1, none⟩ v)) := fun _ u v h => h.stored u v
  have HQ : Hid (∀ W, Below (w.heap.size + 2) w2 W → W.cell? ⟨w.heap.size + 1, 0, none⟩ = some (.string ⟨#[]⟩) ∧ W.cell? ⟨w.heap.size + 1, 1, none⟩ = some (.string ⟨#[]⟩) ∧ W.frozen? ⟨w.heap.size + 1, 0, none⟩ = false ∧ W.frozen? ⟨w.heap.size + 1, 1, none⟩ = false) := fun W h =>
    ⟨(h.cell (by show w.heap.size + 1 < _; omega)).trans q0, (h.cell (by show w.heap.size + 1 < _; omega)).trans q1, (h.frozen (by show w.heap.size + 1 < _; omega)).trans f0, (h.frozen (by show w.heap.size + 1 < _; omega)).trans f1⟩
  clear hx hy hr hwe p0 p1 q0 q1 f0 f1 hbel
  go_enter Tryz.func60, Tryz.ntmps60
  go_wp2_with fail
  rw [HWe.out]
  clear HWe
  go_region_held3 (fun W => Below w.heap.size w W ∧ W.cell? ⟨w.heap.size, 0, none⟩ = some (.string x) ∧ W.cell? ⟨w.heap.size, 1, none⟩ = some (.string y)) (first | exact HK0.out | exact HN.out _ _ (by assumption) (by assumption) | exact HN2.out _ _ _ (by assumption))
    (first
      | (go_at_call_of 67 (Value.string x); refine (HCx.out _).mono ?_; rintro e w' ⟨rfl, hb'⟩; replace HX := veil (HX.out.trans (hb'.mono (by have := HX.out.size; omega))); obtain ⟨g0, g1, g2, g3⟩ := HQ.out _ HX.out)
      | (go_at_call_of 67 (Value.string y); refine (HCy.out _).mono ?_; rintro e w' ⟨rfl, hb'⟩; replace HX := veil (HX.out.trans (hb'.mono (by have := HX.out.size; omega))); obtain ⟨g0, g1, g2, g3⟩ := HQ.out _ HX.out))
  all_goals
    rename_i hHeld
    have HB := veil hHeld.1
    clear hHeld
    go_wp2_with fail
    exact bodyPost_ret (v := .agg #[.string x, .string y]) (by simp [results, Tryz.results60, go_sem, g0, g1]) rfl ⟨rfl, HB.out⟩

end Go.Proofs.YtagbaimfigljiaaGreatDoor
namespace Go.Proofs.YtagbaimfigljiaaGreatDoor
open Go.RowKit
set_option maxRecDepth 100000

theorem size_setCell' (w : World) (a : Addr) (u : Value) : (w.setCell a u).heap.size = w.heap.size := by simp [World.setCell]
theorem size_setCells' (g : Nat) : ∀ (vs : List Value) (o : Nat) (w : World), (w.setCells g o vs).heap.size = w.heap.size
  | [], _, _ => rfl
  | v :: r, o, w => by rw [World.setCells, size_setCells' g r]; exact size_setCell' _ _ _
theorem below_setCells {B : Nat} {w : World} (g : Nat) (hg : B ≤ g) : ∀ (vs : List Value) (o : Nat) {W : World}, Below B w W → Below B w (W.setCells g o vs)
  | [], _, _, h => h
  | v :: r, o, W, h => by
    rw [World.setCells]
    exact below_setCells g hg r (o + 1) (h.setCell hg v)

theorem row_set {w : World} {g : Nat} {cur : Array Value} {e : TypeId} (h : w.heap[g]? = some (.cells cur e (0, 0))) (o : Nat) (u : Value) :
    (w.setCell ⟨g, o, none⟩ u).heap[g]? = some (.cells (cur.setIfInBounds o u) e (0, 0)) := by
  simp [World.setCell, Array.getElem?_modify, h]
theorem row_sets {g : Nat} {e : TypeId} : ∀ (vs : List Value) {w : World} {cur : Array Value} (_ : w.heap[g]? = some (.cells cur e (0, 0))) (o : Nat), ∃ cur', (w.setCells g o vs).heap[g]? = some (.cells cur' e (0, 0)) ∧ cur'.size = cur.size
  | [], _, cur, h, _ => ⟨cur, h, rfl⟩
  | v :: r, w, cur, h, o => by
    rw [World.setCells]
    obtain ⟨c, h1, h2⟩ := row_sets r (row_set h o v) (o + 1)
    exact ⟨c, h1, by rw [h2]; simp⟩

/-- the row in the first new block holds the first j of l. -/
structure RowJ {α : Type} (w : World) (e : TypeId) (c : Nat) (P : World → α → Nat → Prop) (l : List α) (j : Nat) (W : World) : Prop where
  bel : Below w.heap.size w W
  row : ∃ cur, W.heap[w.heap.size]? = some (.cells cur e (0, 0)) ∧ cur.size = l.length * c
  old : ∀ i (hi : i < l.length), i < j → P W l[i] (i * c)

/-- what is said of an element stands as long as its own cells, and all blocks but the row's, are as they were. -/
def Stays {α : Type} (B c : Nat) (P : World → α → Nat → Prop) : Prop :=
  ∀ (W W' : World) (x : α) (o : Nat), (∀ b, b ≠ B → b < W.heap.size → W'.heap[b]? = W.heap[b]?) → W.heap.size ≤ W'.heap.size → (∀ k, k < c → W'.cell? ⟨B, o + k, none⟩ = W.cell? ⟨B, o + k, none⟩) → P W x o → P W' x o

theorem RowJ.start {α : Type} {w : World} {e : TypeId} {c : Nat} {P : World → α → Nat → Prop} {l : List α} {arr : Array Value} (h : arr.size = l.length * c) : RowJ w e c P l 0 (w.alloc (.cells arr e)) :=
  ⟨(Below.refl _ _).alloc (Nat.le_refl _) _, ⟨arr, heap_alloc_new _ _, h⟩, fun _ _ h => absurd h (Nat.not_lt_zero _)⟩

theorem row_lt {W : World} {b : Nat} {o : Obj} (h : W.heap[b]? = some o) : b < W.heap.size := by
  rcases Nat.lt_or_ge b W.heap.size with h1 | h1
  · exact h1
  · rw [Array.getElem?_eq_none h1] at h
    cases h

theorem RowJ.lt {α : Type} {w : World} {e : TypeId} {c : Nat} {P : World → α → Nat → Prop} {l : List α} {j : Nat} {W : World} (h : RowJ w e c P l j W) : w.heap.size < W.heap.size := by
  obtain ⟨cur, h1, _⟩ := h.row
  exact row_lt h1

/-- where the next element goes. -/
theorem RowJ.room {α : Type} {w : World} {e : TypeId} {c : Nat} {P : World → α → Nat → Prop} {l : List α} {j : Nat} {W W1 : World} (h : RowJ w e c P l j W) (hb : Below W.heap.size W W1) (hj : j < l.length) : ∀ k, k < c → (∃ u, W1.cell? ⟨w.heap.size, j * c + k, none⟩ = some u) ∧ W1.frozen? ⟨w.heap.size, j * c + k, none⟩ = false := by
  intro k hk
  obtain ⟨cur, h1, h2⟩ := h.row
  have h3 := (hb.block _ h.lt).trans h1
  have hlt : j * c + k < cur.size := by
    rw [h2]
    have := Nat.mul_le_mul_right c (show j + 1 ≤ l.length from hj)
    rw [Nat.add_mul] at this
    omega
  exact ⟨⟨cur[j * c + k], by rw [cell_of_row _ _ _ _ _ _ h3, Array.getElem?_eq_getElem hlt]⟩, frozen_of_row _ _ _ _ _ h3⟩

theorem RowJ.step {α : Type} {w : World} {e : TypeId} {c : Nat} {P : World → α → Nat → Prop} {l : List α} {j : Nat} {W W1 : World} (h : RowJ w e c P l j W) (hS : Stays w.heap.size c P) (hb : Below W.heap.size W W1) (hj : j < l.length) (vs : List Value) (hv : vs.length = c)
    (hP : (∀ k (hk : k < vs.length), (W1.setCells w.heap.size (j * c) vs).cell? ⟨w.heap.size, j * c + k, none⟩ = some vs[k]) → (∀ b, b ≠ w.heap.size → b < W1.heap.size → (W1.setCells w.heap.size (j * c) vs).heap[b]? = W1.heap[b]?) → (W1.setCells w.heap.size (j * c) vs).heap.size = W1.heap.size → P (W1.setCells w.heap.size (j * c) vs) l[j] (j * c)) :
    RowJ w e c P l (j + 1) (W1.setCells w.heap.size (j * c) vs) := by
  have hlt := h.lt
  obtain ⟨cur, h1, h2⟩ := h.row
  have h3 := (hb.block _ hlt).trans h1
  have hin : ∀ k (hk : k < vs.length), (W1.setCells w.heap.size (j * c) vs).cell? ⟨w.heap.size, j * c + k, none⟩ = some vs[k] := fun k hk =>
    World.cell?_setCells_in _ vs _ W1 (fun k hk => by
      obtain ⟨⟨u, hu⟩, _⟩ := h.room hb hj k (by omega)
      rw [hu]; rfl) k hk
  have hoth : ∀ b, b ≠ w.heap.size → b < W1.heap.size → (W1.setCells w.heap.size (j * c) vs).heap[b]? = W1.heap[b]? := fun b hne hlt => World.heap_setCells_other _ _ _ _ hlt hne
  refine ⟨below_setCells _ (Nat.le_refl _) vs _ (h.bel.trans (hb.mono h.bel.size)), ?_, fun i hi hij => ?_⟩
  · obtain ⟨cur', h4, h5⟩ := row_sets vs h3 (j * c)
    exact ⟨cur', h4, h5.trans h2⟩
  · by_cases he : i = j
    · subst he
      exact hP hin hoth (size_setCells' _ _ _ _)
    · refine hS W _ _ _ (fun b hne hlt => ?_) (by rw [size_setCells']; exact hb.size) (fun k hk => ?_) (h.old i hi (by omega))
      · rw [hoth b hne (Nat.lt_of_lt_of_le hlt hb.size), hb.block b hlt]
      · rw [World.cell?_setCells_out _ vs _ _ _ (fun _ _ => Or.inl (by
          show i * c + k < j * c
          have := Nat.mul_le_mul_right c (show i + 1 ≤ j by omega)
          rw [Nat.add_mul] at this
          omega))]
        exact hb.cell (p := ⟨w.heap.size, _, none⟩) hlt

/-- the row is whole. -/
theorem RowJ.whole {α : Type} {w : World} {e : TypeId} {c : Nat} {P : World → α → Nat → Prop} {l : List α} {W : World} (h : RowJ w e c P l l.length W) (hl : l.length ≤ maxLen) {S : Nat → Prop} (hS : S w.heap.size) {Q : α → Nat → Nat → Prop} (hQ : ∀ x o, P W x o → Q x w.heap.size o) :
    SlAt S Q c l (.slice (some ⟨w.heap.size, 0, none⟩) l.length l.length) :=
  ⟨_, _, rfl, ⟨hl, Nat.le_refl _⟩, Or.inr ⟨_, _, rfl, hS, RowAt.mk fun i hi => by rw [Nat.zero_add]; exact hQ _ _ (h.old i hi hi)⟩⟩

/-- 'make([]T, n)', whatever the world. -/
theorem made_row {t e : TypeId} {z : Value} {c by' : Nat} (ht : Tryz.prog.underlying t = some (.slice e)) (hi : (Tryz.prog.info? e).map (fun i => (i.zero, i.size, i.bytes)) = some (some z, c, by')) (n : Nat) (hb : n * by' ≤ 281474976710656) (hn : n ≤ maxLen) :
    ∃ arr : Array Value, arr.size = n * c ∧ ∀ w, (Instr.makeSlice t (.int .i64 (n : Int)) (.int .i64 (n : Int))).run Tryz.prog w = .ok (.slice (some ⟨w.heap.size, 0, none⟩) n n) (w.alloc (.cells arr e)) := by
  obtain ⟨i, h1, h2, h3, h4⟩ := info_parts hi
  unfold maxLen at hn
  refine ⟨madeCells z.cells (n * c), size_madeCells _ _, fun w => ?_⟩
  have hb' : (i.bytes : Int) * (n : Int) ≤ 281474976710656 := by
    rw [h4, ← Int.natCast_mul, Nat.mul_comm]
    omega
  have := run_make (P := Tryz.prog) w t e i z ht h1 h2 .i64 .i64 n n (by omega) (Int.le_refl _) hb' (by omega)
  rw [h3] at this
  simpa using this

end Go.Proofs.YtagbaimfigljiaaGreatDoor
