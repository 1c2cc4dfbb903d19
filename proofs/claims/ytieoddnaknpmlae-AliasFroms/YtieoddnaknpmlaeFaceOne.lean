/- What face.isKind, typeName, funcName, checkType, checkFunc, rising and its closure answer. -/
import Derived.Test.YtieoddnaknpmlaeFace
import Derived.Test.YtieoddnaknpmlaeIdent
import Derived.Test.YtieoddnaknpmlaeKindX
namespace Go.Proofs.Ytieoddnaknpmlae
open Go.RowKit

def kindB (s : ByteArray) : Bool := kindErr s == 0
def knOk (k : Kn) : Bool := identOk k.name && (kindB k.is && !hasVar k.is)
def sgOk (g : Sg) : Bool := identOk g.name && (decide (g.params.length ≤ 8) && (kindB g.result && g.params.all kindB))

/-- what is wrong with one: its form, or nothing. -/
def bad4 (ok : Bool) : Int := if ok = true then 0 else 4

theorem isKind_any (s : ByteArray) (hs : s.size ≤ maxLen) (w : World) : Calls Try.prog 73 #[.string s] w fun e w' => e = .returned (.bool (kindB s)) ∧ w = w' := by
  have HE : Hid (kindB s = (kindErr s == 0)) := rfl
  go_enter Try.func73, Try.ntmps73
  go_wp2_with fail
  refine (check_kind s hs _).mono ?_
  rintro e w' ⟨rfl, rfl⟩
  go_wp2
  go_ret
  exact ⟨by rw [HE.out]; rfl, rfl⟩

theorem typeName_any (x y : ByteArray) (w : World) : Calls Try.prog 54 #[.agg #[.string x, .string y]] w fun e w' => e = .returned (.string x) ∧ Below w.heap.size w w' := by
  go_enter Try.func54, Try.ntmps54
  go_wp2
  go_ret
  exact ⟨rfl, (Below.refl _ _).alloc (Nat.le_refl _) _⟩

theorem funcName_any (x y : ByteArray) (a : Option Addr) (n cap : Nat) (w : World) : Calls Try.prog 57 #[.agg #[.string x, .slice a n cap, .string y]] w fun e w' => e = .returned (.string x) ∧ Below w.heap.size w w' := by
  go_enter Try.func57, Try.ntmps57
  go_wp2
  go_ret
  exact ⟨rfl, (Below.refl _ _).alloc (Nat.le_refl _) _⟩

/-- is s above p? -/
def gtB (s p : ByteArray) : Bool := !Op.bytesLess s.toList p.toList && !(s.toList == p.toList)

theorem risingOf_any (B : Nat) (s p : ByteArray) (w : World) (hp : w.cell? ⟨B, 0, none⟩ = some (.string p)) (hf : w.frozen? ⟨B, 0, none⟩ = false) :
    Calls Try.prog 77 #[.string s, .pointer (some ⟨B, 0, none⟩)] w fun e w' => e = .returned (.bool (gtB s p)) ∧ w' = w.setCell ⟨B, 0, none⟩ (.string s) := by
  go_enter Try.func77, Try.ntmps77
  go_wp2
  go_ret
  exact ⟨rfl, rfl⟩

theorem rising_any (w : World) :
    Calls Try.prog 61 #[] w fun e w' => e = .returned (.func (.func 77) #[] #[.pointer (some ⟨w.heap.size, 0, none⟩)]) ∧ w' = w.alloc (.cells #[.string ⟨#[]⟩] 9) := by
  go_enter Try.func61, Try.ntmps61
  go_wp2
  go_ret
  exact ⟨rfl, rfl⟩

set_option maxHeartbeats 1000000 in
theorem checkType_any (k : Kn) (h0 : k.name.size ≤ maxLen) (h1 : k.is.size ≤ maxLen) (w : World) :
    Calls Try.prog 55 #[.agg #[.string k.name, .string k.is]] w fun e w' => e = .returned (.int .i64 (bad4 (knOk k))) ∧ Below w.heap.size w w' := by
  have HE : Hid (knOk k = (identOk k.name && (kindB k.is && !hasVar k.is))) := rfl
  have HI : Hid (∀ W, Calls Try.prog 62 #[.string k.name] W fun e w' => e = .returned (.bool (identOk k.name)) ∧ Below W.heap.size W w') := fun W => ident_any _ h0 W
  have HK : Hid (∀ W, Calls Try.prog 73 #[.string k.is] W fun e w' => e = .returned (.bool (kindB k.is)) ∧ W = w') := fun W => isKind_any _ h1 W
  have HO : Hid (∀ W, Calls Try.prog 74 #[.string k.is] W fun e w' => e = .returned (.bool (hasVar k.is)) ∧ W = w') := fun W => open_any _ W
  have HA : Hid (Below w.heap.size w (w.alloc (.cells #[.string k.name, .string k.is] 53))) := (Below.refl _ _).alloc (Nat.le_refl _) _
  generalize knOk k = ok at *
  generalize k.name = x at *
  generalize k.is = y at *
  cases hi : identOk x with
  | false =>
    rw [hi] at HI
    have HE' : Hid (ok = false) := by show _ = _; rw [HE.out, hi]; rfl
    clear HE hi
    go_enter Try.func55, Try.ntmps55
    go_wp2_with fail
    refine (HI.out _).mono ?_
    rintro e w1 ⟨rfl, hb⟩
    have HB := veil (HA.out.trans (hb.mono (by simp)))
    clear hb
    go_wp2_with fail
    go_ret
    exact ⟨by rw [HE'.out]; rfl, HB.out⟩
  | true =>
    rw [hi] at HI
    cases hk : kindB y with
    | false =>
      rw [hk] at HK
      have HE' : Hid (ok = false) := by show _ = _; rw [HE.out, hi, hk]; rfl
      clear HE hi hk
      go_enter Try.func55, Try.ntmps55
      go_wp2_with fail
      refine (HI.out _).mono ?_
      rintro e w1 ⟨rfl, hb⟩
      have HB := veil (HA.out.trans (hb.mono (by simp)))
      have hc : ∀ o, w1.cell? ⟨w.heap.size, o, none⟩ = (w.alloc (.cells #[.string x, .string y] 53)).cell? ⟨w.heap.size, o, none⟩ := fun o => hb.cell (p := ⟨w.heap.size, o, none⟩) (by simp)
      clear hb
      go_wp2_with fail
      refine (HK.out _).mono ?_
      rintro e w2 ⟨rfl, rfl⟩
      go_wp2_with fail
      go_ret
      exact ⟨by rw [HE'.out]; rfl, HB.out⟩
    | true =>
      rw [hk] at HK
      cases ho : hasVar y
      all_goals
        rw [ho] at HO
        have HE' : Hid (ok = _) := HE.out.trans (by rw [hi, hk, ho])
        clear HE hi hk ho
        go_enter Try.func55, Try.ntmps55
        go_wp2_with fail
        refine (HI.out _).mono ?_
        rintro e w1 ⟨rfl, hb⟩
        have HB := veil (HA.out.trans (hb.mono (by simp)))
        have hc : ∀ o, w1.cell? ⟨w.heap.size, o, none⟩ = (w.alloc (.cells #[.string x, .string y] 53)).cell? ⟨w.heap.size, o, none⟩ := fun o => hb.cell (p := ⟨w.heap.size, o, none⟩) (by simp)
        clear hb
        go_wp2_with fail
        refine (HK.out _).mono ?_
        rintro e w2 ⟨rfl, rfl⟩
        go_wp2_with fail
        refine (HO.out _).mono ?_
        rintro e w2 ⟨rfl, rfl⟩
        go_wp2_with fail
        go_ret
        exact ⟨by rw [HE'.out]; rfl, HB.out⟩

theorem all_at {p : ByteArray → Bool} {l : List ByteArray} {k : Nat} (hk : k < l.length) : (l.drop k).all p = (p l[k] && (l.drop (k + 1)).all p) := by
  rw [List.drop_eq_getElem_cons hk, List.all_cons]

set_option maxHeartbeats 2000000 in
theorem checkFunc_any (S : Nat → Prop) (g : Sg) (v : Value) (w : World) (hS : ∀ b, S b → b < w.heap.size) (hv : SgIs S w g v) :
    Calls Try.prog 58 #[v] w fun e w' => e = .returned (.int .i64 (bad4 (sgOk g))) ∧ Below w.heap.size w w' := by
  obtain ⟨vp, rfl, h0, h1, hp⟩ := hv
  have HP := veil hp
  have hlen := hp.len
  unfold maxLen at hlen
  obtain ⟨a, cap, rfl⟩ := hp.is
  have HE : Hid (sgOk g = (identOk g.name && (decide (g.params.length ≤ 8) && (kindB g.result && g.params.all kindB)))) := rfl
  have HI : Hid (∀ W, Calls Try.prog 62 #[.string g.name] W fun e w' => e = .returned (.bool (identOk g.name)) ∧ Below W.heap.size W w') := fun W => ident_any _ h0 W
  have HK : Hid (∀ W, Calls Try.prog 73 #[.string g.result] W fun e w' => e = .returned (.bool (kindB g.result)) ∧ W = w') := fun W => isKind_any _ h1 W
  have HA : Hid (Below w.heap.size w (w.alloc (.cells #[.string g.name, .slice a g.params.length cap, .string g.result] 34))) := (Below.refl _ _).alloc (Nat.le_refl _) _
  clear hp
  generalize sgOk g = ok at *
  generalize g.name = x at *
  generalize g.result = y at *
  generalize g.params = ps at *
  cases hi : identOk x with
  | false =>
    rw [hi] at HI
    have HE' : Hid (ok = false) := by show _ = _; rw [HE.out, hi]; rfl
    clear HE hi
    go_enter Try.func58, Try.ntmps58
    go_wp2_with fail
    refine (HI.out _).mono ?_
    rintro e w1 ⟨rfl, hb⟩
    have HB := veil (HA.out.trans (hb.mono (by simp)))
    clear hb
    go_wp2_with fail
    go_ret
    exact ⟨by rw [HE'.out]; rfl, HB.out⟩
  | true =>
    rw [hi] at HI
    by_cases h8 : ps.length ≤ 8
    case neg =>
      have h8' : (8 : Int) < (ps.length : Int) := by omega
      have HE' : Hid (ok = false) := by show _ = _; rw [HE.out, hi]; simp [h8]
      clear HE hi h8
      go_enter Try.func58, Try.ntmps58
      go_wp2_with fail
      refine (HI.out _).mono ?_
      rintro e w1 ⟨rfl, hb⟩
      have HB := veil (HA.out.trans (hb.mono (by simp)))
      have hc : ∀ o, w1.cell? ⟨w.heap.size, o, none⟩ = (w.alloc (.cells #[.string x, .slice a ps.length cap, .string y] 34)).cell? ⟨w.heap.size, o, none⟩ := fun o => hb.cell (p := ⟨w.heap.size, o, none⟩) (by simp)
      clear hb
      go_wp2_with fail
      go_ret
      exact ⟨by rw [HE'.out]; rfl, HB.out⟩
    have h8' : ¬ (8 : Int) < (ps.length : Int) := by omega
    have HE1 : Hid (ok = (kindB y && ps.all kindB)) := by show _ = _; rw [HE.out, hi]; simp [h8]
    clear HE hi h8
    cases hk : kindB y with
    | false =>
      rw [hk] at HK
      have HE' : Hid (ok = false) := by show _ = _; rw [HE1.out, hk]; rfl
      clear HE1 hk
      go_enter Try.func58, Try.ntmps58
      go_wp2_with fail
      refine (HI.out _).mono ?_
      rintro e w1 ⟨rfl, hb⟩
      have HB := veil (HA.out.trans (hb.mono (by simp)))
      have hc : ∀ o, w1.cell? ⟨w.heap.size, o, none⟩ = (w.alloc (.cells #[.string x, .slice a ps.length cap, .string y] 34)).cell? ⟨w.heap.size, o, none⟩ := fun o => hb.cell (p := ⟨w.heap.size, o, none⟩) (by simp)
      clear hb
      go_wp2_with fail
      refine (HK.out _).mono ?_
      rintro e w2 ⟨rfl, rfl⟩
      go_wp2_with fail
      go_ret
      exact ⟨by rw [HE'.out]; rfl, HB.out⟩
    | true =>
      rw [hk] at HK
      have HE' : Hid (ok = ps.all kindB) := by show _ = _; rw [HE1.out, hk]; rfl
      clear HE1 hk
      go_enter Try.func58, Try.ntmps58
      go_wp2_with fail
      refine (HI.out _).mono ?_
      rintro e w1 ⟨rfl, hb⟩
      have HB := veil (HA.out.trans (hb.mono (by simp)))
      have hc : ∀ o, w1.cell? ⟨w.heap.size, o, none⟩ = (w.alloc (.cells #[.string x, .slice a ps.length cap, .string y] 34)).cell? ⟨w.heap.size, o, none⟩ := fun o => hb.cell (p := ⟨w.heap.size, o, none⟩) (by simp)
      clear hb
      go_wp2_with fail
      refine (HK.out _).mono ?_
      rintro e w2 ⟨rfl, rfl⟩
      go_wp2_with fail
      clear hc HI HK HA
      go_loopw [24] (fun i wr => ∃ j : Nat, j ≤ ps.length ∧ i = .int .i64 j ∧ ok = (ps.drop j).all kindB ∧ wr = w1) (fun i _ => ps.length - (intOf i).toNat)
      case atStart => exact ⟨0, Nat.zero_le _, rfl, HE'.out, rfl⟩
      case round =>
        obtain ⟨j, hj, rfl, hq, rfl⟩ := hrel
        have HQ := veil hq
        clear hq HE'
        by_cases hlt : j < ps.length
        · have hlt' : (j : Int) < (ps.length : Int) := by omega
          obtain ⟨_, b, off, rfl, hb, a0, m0⟩ := HP.out.at hlt
          rw [Nat.mul_one] at a0
          have d0 := (HB.out.cell (p := ⟨b, off + j, none⟩) (hS b hb)).trans a0
          have HS : Hid (ok = (kindB ps[j] && (ps.drop (j + 1)).all kindB)) := HQ.out.trans (all_at hlt)
          have HK : Hid (∀ W, Calls Try.prog 73 #[.string ps[j]] W fun e w' => e = .returned (.bool (kindB ps[j])) ∧ W = w') := fun W => isKind_any _ m0 W
          clear a0 m0 HP HQ
          generalize ps[j] = z at *
          cases hz : kindB z with
          | true =>
            rw [hz] at HK
            have HS' : Hid (ok = (ps.drop (j + 1)).all kindB) := by show _ = _; rw [HS.out, hz]; rfl
            clear HS hz
            go_wp2_with fail
            refine (HK.out _).mono ?_
            rintro e w2 ⟨rfl, rfl⟩
            go_wp2_with fail
            exact ⟨⟨j + 1, by omega, by go_num, HS'.out, by simp⟩, by simp [intOf]; omega⟩
          | false =>
            rw [hz] at HK
            have HS' : Hid (ok = false) := by show _ = _; rw [HS.out, hz]; rfl
            clear HS hz
            go_wp2_with fail
            refine (HK.out _).mono ?_
            rintro e w2 ⟨rfl, rfl⟩
            go_wp2_with fail
            go_ret
            exact ⟨by rw [HS'.out]; rfl, HB.out⟩
        · have hnl : ¬ (j : Int) < (ps.length : Int) := by omega
          have HS' : Hid (ok = true) := by show _ = _; rw [HQ.out, List.drop_eq_nil_of_le (by omega)]; rfl
          clear HP HQ
          go_wp2_with fail
          go_ret
          exact ⟨by rw [HS'.out]; rfl, HB.out⟩

end Go.Proofs.Ytieoddnaknpmlae
