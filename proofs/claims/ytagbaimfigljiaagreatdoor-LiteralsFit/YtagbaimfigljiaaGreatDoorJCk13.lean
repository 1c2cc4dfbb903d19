import Derived.Test.YtagbaimfigljiaaGreatDoorJCk12
import Derived.Test.YtagbaimfigljiaaGreatDoorJCk11
import Derived.Test.YtagbaimfigljiaaGreatDoorJCk1
import Derived.Deep.AppendLies
import Derived.OwnWalk
import Derived.BigQuiet
import Derived.Deep.QuietTactic
namespace Go.Proofs.YtagbaimfigljiaaGreatDoor
open Go.RowKit
set_option maxRecDepth 100000

theorem str_info : (Tryz.prog.info? 9).map (fun i => (i.zero, i.size, i.bytes)) = some (some (.string ⟨#[]⟩), 1, 16) := by kernel_rfl
theorem kn_info : (Tryz.prog.info? 91).map (fun i => (i.zero, i.size, i.bytes)) = some (some (.agg #[.string ⟨#[]⟩, .string ⟨#[]⟩]), 2, 32) := by kernel_rfl

def StrP (B : Nat) (W : World) (s : ByteArray) (o : Nat) : Prop := StrAt W s B o
theorem strP_stays (B : Nat) : Stays B 1 (StrP B) := fun W W' x o _ _ h hp => ⟨(h 0 (by omega)).trans hp.1, hp.2⟩
def KnP (B : Nat) (W : World) (k : Kn) (o : Nat) : Prop := KnAt W k B o
theorem knP_stays (B : Nat) : Stays B 2 (KnP B) := fun W W' x o _ _ h hp => ⟨⟨(h 0 (by omega)).trans hp.1.1, hp.1.2⟩, (h 1 (by omega)).trans hp.2.1, hp.2.2⟩

set_option maxHeartbeats 4000000 in
theorem copy_strs (S : Nat → Prop) (l : List ByteArray) (v : Value) (w : World) (hS : ∀ b, S b → b < w.heap.size) (hv : SlAt S (StrAt w) 1 l v) (hz : l.length * 16 ≤ reachBytes) (he : ∀ s ∈ l, s.size ≤ reachBytes) :
    Calls Tryz.prog 109 #[v, .func (.func 67) #[] #[]] w fun e w' => ∃ u, e = .returned u ∧ SlAt (fun b => w.heap.size ≤ b ∧ b < w'.heap.size) (StrAt w') 1 l u ∧ Below w.heap.size w w' := by
  have hr := reachBytes_lt
  have HL := veil (SlAt.len hv)
  have HV := veil hv
  obtain ⟨a, cap, rfl⟩ := hv.is
  have hlen : l.length ≤ 9223372036854775807 := by have := HL.out; unfold maxLen at this; omega
  obtain ⟨arr, harr, hmk⟩ := made_row Tryz.underlying22 str_info l.length (by omega) HL.out
  have HJ : Hid (RowJ w 9 1 (StrP w.heap.size) l 0 (w.alloc (.cells arr 9))) := RowJ.start harr
  have HZ := veil he
  clear hv hz he harr
  go_enter Tryz.func109, Tryz.ntmps109
  go_wp2_with fail
  clear hmk
  go_loopw [13] (fun i wr => ∃ j : Nat, j ≤ l.length ∧ i = .int .i64 j ∧ RowJ w 9 1 (StrP w.heap.size) l j wr) (fun i _ => l.length - (intOf i).toNat)
  case atStart => exact ⟨0, Nat.zero_le _, rfl, HJ.out⟩
  case round =>
    obtain ⟨j, hj, rfl, hrj⟩ := hrel
    have HR := veil hrj
    clear HJ
    by_cases hlt : j < l.length
    · have hlt' : (j : Int) < (l.length : Int) := by omega
      have hj0 : (0 : Int) ≤ (j : Int) := by omega
      obtain ⟨_, b, off, rfl, hb, a0, m0⟩ := HV.out.at hlt
      have hbk := hS b hb
      rw [Nat.mul_one] at a0
      have d0 := (hrj.bel.cell (p := ⟨b, off + j, none⟩) hbk).trans a0
      have HC : Hid (∀ W, Calls Tryz.prog 67 #[.string l[j]] W fun e w' => e = .returned (.string l[j]) ∧ Below W.heap.size W w') := fun W => clone_kind _ W (by have := HZ.out _ (List.getElem_mem hlt); omega)
      have HN : Hid (∀ W1, Below wr.heap.size wr W1 → RowJ w 9 1 (StrP w.heap.size) l (j + 1) (W1.setCell ⟨w.heap.size, j, none⟩ (.string l[j]))) := fun W1 h1 => by
        have := hrj.step (strP_stays _) h1 hlt [.string l[j]] rfl (fun hc _ _ => ⟨hc 0 (by simp), m0⟩)
        rw [Nat.mul_one] at this
        exact this
      have HRm : Hid (∀ W1, Below wr.heap.size wr W1 → (∃ u, W1.cell? ⟨w.heap.size, j, none⟩ = some u) ∧ W1.frozen? ⟨w.heap.size, j, none⟩ = false) := fun W1 h1 => by
        have := hrj.room h1 hlt 0 (by omega)
        rw [Nat.mul_one] at this
        exact this
      clear hrj a0 HV m0
      generalize l[j] = x at *
      go_wp2_with fail
      refine (HC.out _).mono ?_
      rintro e w' ⟨rfl, hb'⟩
      obtain ⟨⟨u, hu⟩, hfz⟩ := HRm.out _ hb'
      have HN' := veil (HN.out _ hb')
      clear hb'
      go_wp2_with fail
      exact ⟨⟨j + 1, by omega, by go_num, HN'.out⟩, by simp [intOf]; omega⟩
    · have hnl : ¬ (j : Int) < (l.length : Int) := by omega
      have hje : j = l.length := by omega
      have HW : Hid (SlAt (fun b => w.heap.size ≤ b ∧ b < wr.heap.size) (StrAt wr) 1 l (.slice (some ⟨w.heap.size, 0, none⟩) l.length l.length)) := by
        subst hje
        exact hrj.whole HL.out (S := fun b => w.heap.size ≤ b ∧ b < wr.heap.size) ⟨Nat.le_refl _, hrj.lt⟩ (fun _ _ h => h)
      have HB := veil hrj.bel
      clear hrj HV hje
      go_wp2_with fail
      go_ret
      exact ⟨_, rfl, HW.out, HB.out⟩

set_option maxHeartbeats 4000000 in
theorem copy_kns (S : Nat → Prop) (l : List Kn) (v : Value) (w : World) (hS : ∀ b, S b → b < w.heap.size) (hv : SlAt S (KnAt w) 2 l v) (hz : l.length * 32 ≤ reachBytes) (he : ∀ s ∈ l, knSmall s) :
    Calls Tryz.prog 59 #[v, .func (.func 60) #[] #[]] w fun e w' => ∃ u, e = .returned u ∧ SlAt (fun b => w.heap.size ≤ b ∧ b < w'.heap.size) (KnAt w') 2 l u ∧ Below w.heap.size w w' := by
  have hr := reachBytes_lt
  have HL := veil (SlAt.len hv)
  have HV := veil hv
  obtain ⟨a, cap, rfl⟩ := hv.is
  have hlen : l.length ≤ 9223372036854775807 := by have := HL.out; unfold maxLen at this; omega
  obtain ⟨arr, harr, hmk⟩ := made_row Tryz.underlying27 kn_info l.length (by omega) HL.out
  have HJ : Hid (RowJ w 91 2 (KnP w.heap.size) l 0 (w.alloc (.cells arr 91))) := RowJ.start harr
  have HZ := veil he
  clear hv hz he harr
  go_enter Tryz.func59, Tryz.ntmps59
  go_wp2_with fail
  clear hmk
  go_loopw [13] (fun i wr => ∃ j : Nat, j ≤ l.length ∧ i = .int .i64 j ∧ RowJ w 91 2 (KnP w.heap.size) l j wr) (fun i _ => l.length - (intOf i).toNat)
  case atStart => exact ⟨0, Nat.zero_le _, rfl, HJ.out⟩
  case round =>
    obtain ⟨j, hj, rfl, hrj⟩ := hrel
    have HR := veil hrj
    clear HJ
    by_cases hlt : j < l.length
    · have hlt' : (j : Int) < (l.length : Int) := by omega
      have hj0 : (0 : Int) ≤ (j : Int) := by omega
      obtain ⟨_, b, off, rfl, hb, ⟨a0, m0⟩, a1, m1⟩ := HV.out.at hlt
      have hbk := hS b hb
      have d0 := (hrj.bel.cell (p := ⟨b, off + j * 2, none⟩) hbk).trans a0
      have d1 := (hrj.bel.cell (p := ⟨b, off + j * 2 + 1, none⟩) hbk).trans a1
      have hsm := HZ.out _ (List.getElem_mem hlt)
      have HC : Hid (∀ W, Calls Tryz.prog 60 #[.agg #[.string l[j].name, .string l[j].is]] W fun e w' => e = .returned (.agg #[.string l[j].name, .string l[j].is]) ∧ Below W.heap.size W w') := fun W => copyType_any _ _ hsm.1 hsm.2 W
      have HN : Hid (∀ W1, Below wr.heap.size wr W1 → RowJ w 91 2 (KnP w.heap.size) l (j + 1) ((W1.setCell ⟨w.heap.size, j * 2, none⟩ (.string l[j].name)).setCell ⟨w.heap.size, j * 2 + 1, none⟩ (.string l[j].is))) := fun W1 h1 =>
        hrj.step (knP_stays _) h1 hlt [.string l[j].name, .string l[j].is] rfl (fun hc _ _ => ⟨⟨hc 0 (by simp), m0⟩, hc 1 (by simp), m1⟩)
      have HRm : Hid (∀ W1, Below wr.heap.size wr W1 → ((∃ u, W1.cell? ⟨w.heap.size, j * 2, none⟩ = some u) ∧ W1.frozen? ⟨w.heap.size, j * 2, none⟩ = false) ∧ (∃ u, W1.cell? ⟨w.heap.size, j * 2 + 1, none⟩ = some u) ∧ W1.frozen? ⟨w.heap.size, j * 2 + 1, none⟩ = false) := fun W1 h1 =>
        ⟨hrj.room h1 hlt 0 (by omega), hrj.room h1 hlt 1 (by omega)⟩
      have HA : Hid (∀ o, Below wr.heap.size wr (wr.alloc o)) := fun o => (Below.refl _ _).alloc (Nat.le_refl _) _
      have hbr : b < wr.heap.size := Nat.lt_of_lt_of_le hbk hrj.bel.size
      have hrlt := hrj.lt
      clear hrj a0 a1 HV m0 m1 hsm
      generalize l[j].name = x at *
      generalize l[j].is = y at *
      go_wp2_with fail
      refine (HC.out _).mono ?_
      rintro e w' ⟨rfl, hb'⟩
      have hb1 := (HA.out _).trans (hb'.mono (by simp))
      obtain ⟨⟨⟨u, hu⟩, hfz⟩, ⟨u', hu'⟩, hfz'⟩ := HRm.out _ hb1
      have HN' := veil (HN.out _ hb1)
      clear hb' hb1
      go_wp2_with fail
      exact ⟨⟨j + 1, by omega, by go_num, HN'.out⟩, by simp [intOf]; omega⟩
    · have hnl : ¬ (j : Int) < (l.length : Int) := by omega
      have hje : j = l.length := by omega
      have HW : Hid (SlAt (fun b => w.heap.size ≤ b ∧ b < wr.heap.size) (KnAt wr) 2 l (.slice (some ⟨w.heap.size, 0, none⟩) l.length l.length)) := by
        subst hje
        exact hrj.whole HL.out (S := fun b => w.heap.size ≤ b ∧ b < wr.heap.size) ⟨Nat.le_refl _, hrj.lt⟩ (fun _ _ h => h)
      have HB := veil hrj.bel
      clear hrj HV hje
      go_wp2_with fail
      go_ret
      exact ⟨_, rfl, HW.out, HB.out⟩

end Go.Proofs.YtagbaimfigljiaaGreatDoor
namespace Go.Proofs.YtagbaimfigljiaaGreatDoor
open Go.RowKit
set_option maxRecDepth 100000

end Go.Proofs.YtagbaimfigljiaaGreatDoor
namespace Go.Proofs.YtagbaimfigljiaaGreatDoor
open Go.RowKit
set_option maxRecDepth 100000

def kindB (s : ByteArray) : Bool := kindErr s == 0
def knOk (k : Kn) : Bool := identOk k.name && (kindB k.is && !hasVar k.is)
def sgOk (g : Sg) : Bool := identOk g.name && (decide (g.params.length ≤ 8) && (kindB g.result && g.params.all kindB))

/-- what is wrong with one: its form, or nothing. -/
def bad4 (ok : Bool) : Int := if ok = true then 0 else 4

theorem isKind_any (s : ByteArray) (hs : s.size ≤ maxLen) (w : World) : Calls Tryz.prog 107 #[.string s] w fun e w' => e = .returned (.bool (kindB s)) ∧ w = w' := by
  have HE : Hid (kindB s = (kindErr s == 0)) := rfl
  go_enter Tryz.func107, Tryz.ntmps107
  go_wp2_with fail
  refine (check_kind s hs _).mono ?_
  rintro e w' ⟨rfl, rfl⟩
  go_wp2
  go_ret
  exact ⟨by rw [HE.out]; rfl, rfl⟩

theorem typeName_any (x y : ByteArray) (w : World) : Calls Tryz.prog 51 #[.agg #[.string x, .string y]] w fun e w' => e = .returned (.string x) ∧ Below w.heap.size w w' := by
  go_enter Tryz.func51, Tryz.ntmps51
  go_wp2
  go_ret
  exact ⟨rfl, (Below.refl _ _).alloc (Nat.le_refl _) _⟩

theorem funcName_any (x y : ByteArray) (a : Option Addr) (n cap : Nat) (w : World) : Calls Tryz.prog 54 #[.agg #[.string x, .slice a n cap, .string y]] w fun e w' => e = .returned (.string x) ∧ Below w.heap.size w w' := by
  go_enter Tryz.func54, Tryz.ntmps54
  go_wp2
  go_ret
  exact ⟨rfl, (Below.refl _ _).alloc (Nat.le_refl _) _⟩

/-- is s above p? -/
def gtB (s p : ByteArray) : Bool := !Op.bytesLess s.toList p.toList && !(s.toList == p.toList)

theorem risingOf_any (B : Nat) (s p : ByteArray) (w : World) (hp : w.cell? ⟨B, 0, none⟩ = some (.string p)) (hf : w.frozen? ⟨B, 0, none⟩ = false) :
    Calls Tryz.prog 176 #[.string s, .pointer (some ⟨B, 0, none⟩)] w fun e w' => e = .returned (.bool (gtB s p)) ∧ w' = w.setCell ⟨B, 0, none⟩ (.string s) := by
  go_enter Tryz.func176, Tryz.ntmps176
  go_wp2
  go_ret
  exact ⟨rfl, rfl⟩

theorem rising_any (w : World) :
    Calls Tryz.prog 105 #[] w fun e w' => e = .returned (.func (.func 176) #[] #[.pointer (some ⟨w.heap.size, 0, none⟩)]) ∧ w' = w.alloc (.cells #[.string ⟨#[]⟩] 9) := by
  go_enter Tryz.func105, Tryz.ntmps105
  go_wp2
  go_ret
  exact ⟨rfl, rfl⟩

set_option maxHeartbeats 1000000 in
theorem checkKn_any (k : Kn) (h0 : k.name.size ≤ maxLen) (h1 : k.is.size ≤ maxLen) (w : World) :
    Calls Tryz.prog 52 #[.agg #[.string k.name, .string k.is]] w fun e w' => e = .returned (.int .i64 (bad4 (knOk k))) ∧ Below w.heap.size w w' := by
  have HE : Hid (knOk k = (identOk k.name && (kindB k.is && !hasVar k.is))) := rfl
  have HI : Hid (∀ W, Calls Tryz.prog 106 #[.string k.name] W fun e w' => e = .returned (.bool (identOk k.name)) ∧ Below W.heap.size W w') := fun W => ident_any _ h0 W
  have HK : Hid (∀ W, Calls Tryz.prog 107 #[.string k.is] W fun e w' => e = .returned (.bool (kindB k.is)) ∧ W = w') := fun W => isKind_any _ h1 W
  have HO : Hid (∀ W, Calls Tryz.prog 108 #[.string k.is] W fun e w' => e = .returned (.bool (hasVar k.is)) ∧ W = w') := fun W => open_any _ W
  have HA : Hid (Below w.heap.size w (w.alloc (.cells #[.string k.name, .string k.is] 91))) := (Below.refl _ _).alloc (Nat.le_refl _) _
  generalize knOk k = ok at *
  generalize k.name = x at *
  generalize k.is = y at *
  cases hi : identOk x with
  | false =>
    rw [hi] at HI
    have HE' : Hid (ok = false) := by show _ = _; rw [HE.out, hi]; rfl
    clear HE hi
    go_enter Tryz.func52, Tryz.ntmps52
    go_wp2_with fail
    refine (HI.out _).mono ?_
    rintro e w1 ⟨rfl, hb⟩
    have HB := veil (HA.out.trans (hb.mono (by simp)))
    clear hb
    go_wp2_with fail
    go_ret
    exact ⟨by rw [HE'.out]; rfl, HB.out⟩
  | true =>
    rw [hi] at HI
    cases hk : kindB y with
    | false =>
      rw [hk] at HK
      have HE' : Hid (ok = false) := by show _ = _; rw [HE.out, hi, hk]; rfl
      clear HE hi hk
      go_enter Tryz.func52, Tryz.ntmps52
      go_wp2_with fail
      refine (HI.out _).mono ?_
      rintro e w1 ⟨rfl, hb⟩
      have HB := veil (HA.out.trans (hb.mono (by simp)))
      have hc : ∀ o, w1.cell? ⟨w.heap.size, o, none⟩ = (w.alloc (.cells #[.string x, .string y] 91)).cell? ⟨w.heap.size, o, none⟩ := fun o => hb.cell (p := ⟨w.heap.size, o, none⟩) (by simp)
      clear hb
      go_wp2_with fail
      refine (HK.out _).mono ?_
      rintro e w2 ⟨rfl, rfl⟩
      go_wp2_with fail
      go_ret
      exact ⟨by rw [HE'.out]; rfl, HB.out⟩
    | true =>
      rw [hk] at HK
      cases ho : hasVar y
      all_goals
        rw [ho] at HO
        have HE' : Hid (ok = _) := HE.out.trans (by rw [hi, hk, ho])
        clear HE hi hk ho
        go_enter Tryz.func52, Tryz.ntmps52
        go_wp2_with fail
        refine (HI.out _).mono ?_
        rintro e w1 ⟨rfl, hb⟩
        have HB := veil (HA.out.trans (hb.mono (by simp)))
        have hc : ∀ o, w1.cell? ⟨w.heap.size, o, none⟩ = (w.alloc (.cells #[.string x, .string y] 91)).cell? ⟨w.heap.size, o, none⟩ := fun o => hb.cell (p := ⟨w.heap.size, o, none⟩) (by simp)
        clear hb
        go_wp2_with fail
        refine (HK.out _).mono ?_
        rintro e w2 ⟨rfl, rfl⟩
        go_wp2_with fail
        refine (HO.out _).mono ?_
        rintro e w2 ⟨rfl, rfl⟩
        go_wp2_with fail
        go_ret
        exact ⟨by rw [HE'.out]; rfl, HB.out⟩

theorem all_at {p : ByteArray → Bool} {l : List ByteArray} {k : Nat} (hk : k < l.length) : (l.drop k).all p = (p l[k] && (l.drop (k + 1)).all p) := by
  rw [List.drop_eq_getElem_cons hk, List.all_cons]

set_option maxHeartbeats 2000000 in
theorem checkSg_any (S : Nat → Prop) (g : Sg) (v : Value) (w : World) (hS : ∀ b, S b → b < w.heap.size) (hv : SgIs S w g v) :
    Calls Tryz.prog 55 #[v] w fun e w' => e = .returned (.int .i64 (bad4 (sgOk g))) ∧ Below w.heap.size w w' := by
  obtain ⟨vp, rfl, h0, h1, hp⟩ := hv
  have HP := veil hp
  have hlen := hp.len
  unfold maxLen at hlen
  obtain ⟨a, cap, rfl⟩ := hp.is
  have HE : Hid (sgOk g = (identOk g.name && (decide (g.params.length ≤ 8) && (kindB g.result && g.params.all kindB)))) := rfl
  have HI : Hid (∀ W, Calls Tryz.prog 106 #[.string g.name] W fun e w' => e = .returned (.bool (identOk g.name)) ∧ Below W.heap.size W w') := fun W => ident_any _ h0 W
  have HK : Hid (∀ W, Calls Tryz.prog 107 #[.string g.result] W fun e w' => e = .returned (.bool (kindB g.result)) ∧ W = w') := fun W => isKind_any _ h1 W
  have HA : Hid (Below w.heap.size w (w.alloc (.cells #[.string g.name, .slice a g.params.length cap, .string g.result] 65))) := (Below.refl _ _).alloc (Nat.le_refl _) _
  clear hp
  generalize sgOk g = ok at *
  generalize g.name = x at *
  generalize g.result = y at *
  generalize g.params = ps at *
  cases hi : identOk x with
  | false =>
    rw [hi] at HI
    have HE' : Hid (ok = false) := by show _ = _; rw [HE.out, hi]; rfl
    clear HE hi
    go_enter Tryz.func55, Tryz.ntmps55
    go_wp2_with fail
    refine (HI.out _).mono ?_
    rintro e w1 ⟨rfl, hb⟩
    have HB := veil (HA.out.trans (hb.mono (by simp)))
    clear hb
    go_wp2_with fail
    go_ret
    exact ⟨by rw [HE'.out]; rfl, HB.out⟩
  | true =>
    rw [hi] at HI
    by_cases h8 : ps.length ≤ 8
    case neg =>
      have h8' : (8 : Int) < (ps.length : Int) := by omega
      have HE' : Hid (ok = false) := by show _ = _; rw [HE.out, hi]; simp [h8]
      clear HE hi h8
      go_enter Tryz.func55, Tryz.ntmps55
      go_wp2_with fail
      refine (HI.out _).mono ?_
      rintro e w1 ⟨rfl, hb⟩
      have HB := veil (HA.out.trans (hb.mono (by simp)))
      have hc : ∀ o, w1.cell? ⟨w.heap.size, o, none⟩ = (w.alloc (.cells #[.string x, .slice a ps.length cap, .string y] 65)).cell? ⟨w.heap.size, o, none⟩ := fun o => hb.cell (p := ⟨w.heap.size, o, none⟩) (by simp)
      clear hb
      go_wp2_with fail
      go_ret
      exact ⟨by rw [HE'.out]; rfl, HB.out⟩
    have h8' : ¬ (8 : Int) < (ps.length : Int) := by omega
    have HE1 : Hid (ok = (kindB y && ps.all kindB)) := by show _ = _; rw [HE.out, hi]; simp [h8]
    clear HE hi h8
    cases hk : kindB y with
    | false =>
      rw [hk] at HK
      have HE' : Hid (ok = false) := by show _ = _; rw [HE1.out, hk]; rfl
      clear HE1 hk
      go_enter Tryz.func55, Tryz.ntmps55
      go_wp2_with fail
      refine (HI.out _).mono ?_
      rintro e w1 ⟨rfl, hb⟩
      have HB := veil (HA.out.trans (hb.mono (by simp)))
      have hc : ∀ o, w1.cell? ⟨w.heap.size, o, none⟩ = (w.alloc (.cells #[.string x, .slice a ps.length cap, .string y] 65)).cell? ⟨w.heap.size, o, none⟩ := fun o => hb.cell (p := ⟨w.heap.size, o, none⟩) (by simp)
      clear hb
      go_wp2_with fail
      refine (HK.out _).mono ?_
      rintro e w2 ⟨rfl, rfl⟩
      go_wp2_with fail
      go_ret
      exact ⟨by rw [HE'.out]; rfl, HB.out⟩
    | true =>
      rw [hk] at HK
      have HE' : Hid (ok = ps.all kindB) := by show _ = _; rw [HE1.out, hk]; rfl
      clear HE1 hk
      go_enter Tryz.func55, Tryz.ntmps55
      go_wp2_with fail
      refine (HI.out _).mono ?_
      rintro e w1 ⟨rfl, hb⟩
      have HB := veil (HA.out.trans (hb.mono (by simp)))
      have hc : ∀ o, w1.cell? ⟨w.heap.size, o, none⟩ = (w.alloc (.cells #[.string x, .slice a ps.length cap, .string y] 65)).cell? ⟨w.heap.size, o, none⟩ := fun o => hb.cell (p := ⟨w.heap.size, o, none⟩) (by simp)
      clear hb
      go_wp2_with fail
      refine (HK.out _).mono ?_
      rintro e w2 ⟨rfl, rfl⟩
      go_wp2_with fail
      clear hc HI HK HA
      go_loopw [24] (fun i wr => ∃ j : Nat, j ≤ ps.length ∧ i = .int .i64 j ∧ ok = (ps.drop j).all kindB ∧ wr = w1) (fun i _ => ps.length - (intOf i).toNat)
      case atStart => exact ⟨0, Nat.zero_le _, rfl, HE'.out, rfl⟩
      case round =>
        obtain ⟨j, hj, rfl, hq, rfl⟩ := hrel
        have HQ := veil hq
        clear hq HE'
        by_cases hlt : j < ps.length
        · have hlt' : (j : Int) < (ps.length : Int) := by omega
          obtain ⟨_, b, off, rfl, hb, a0, m0⟩ := HP.out.at hlt
          rw [Nat.mul_one] at a0
          have d0 := (HB.out.cell (p := ⟨b, off + j, none⟩) (hS b hb)).trans a0
          have HS : Hid (ok = (kindB ps[j] && (ps.drop (j + 1)).all kindB)) := HQ.out.trans (all_at hlt)
          have HK : Hid (∀ W, Calls Tryz.prog 107 #[.string ps[j]] W fun e w' => e = .returned (.bool (kindB ps[j])) ∧ W = w') := fun W => isKind_any _ m0 W
          clear a0 m0 HP HQ
          generalize ps[j] = z at *
          cases hz : kindB z with
          | true =>
            rw [hz] at HK
            have HS' : Hid (ok = (ps.drop (j + 1)).all kindB) := by show _ = _; rw [HS.out, hz]; rfl
            clear HS hz
            go_wp2_with fail
            refine (HK.out _).mono ?_
            rintro e w2 ⟨rfl, rfl⟩
            go_wp2_with fail
            exact ⟨⟨j + 1, by omega, by go_num, HS'.out, by simp⟩, by simp [intOf]; omega⟩
          | false =>
            rw [hz] at HK
            have HS' : Hid (ok = false) := by show _ = _; rw [HS.out, hz]; rfl
            clear HS hz
            go_wp2_with fail
            refine (HK.out _).mono ?_
            rintro e w2 ⟨rfl, rfl⟩
            go_wp2_with fail
            go_ret
            exact ⟨by rw [HS'.out]; rfl, HB.out⟩
        · have hnl : ¬ (j : Int) < (ps.length : Int) := by omega
          have HS' : Hid (ok = true) := by show _ = _; rw [HQ.out, List.drop_eq_nil_of_le (by omega)]; rfl
          clear HP HQ
          go_wp2_with fail
          go_ret
          exact ⟨by rw [HS'.out]; rfl, HB.out⟩

end Go.Proofs.YtagbaimfigljiaaGreatDoor
namespace Go.Proofs.YtagbaimfigljiaaGreatDoor
open Go.RowKit
set_option maxRecDepth 100000

/-- x laid where it belongs. -/
def insT (x : ByteArray) : List ByteArray → List ByteArray
  | [] => [x]
  | y :: r => if gtB y x = true then x :: y :: r else y :: insT x r
def putT (x : ByteArray) (out : List ByteArray) : List ByteArray := if hasS out x = true then out else insT x out
/-- what has been laid ahead, and what is to come. -/
def InT (x : ByteArray) (out tgt nxt : List ByteArray) (j : Nat) (done : Bool) : Prop := nxt ++ (if done = true then out.drop j else insT x (out.drop j)) = tgt
theorem InT.start (x : ByteArray) (out : List ByteArray) : InT x out (putT x out) [] 0 (hasS out x) := by
  unfold InT putT
  cases hasS out x <;> simp
theorem InT.len {x : ByteArray} {out tgt nxt : List ByteArray} {j : Nat} {done : Bool} (h : InT x out tgt nxt j done) : nxt.length ≤ tgt.length := by
  have := congrArg List.length h
  rw [List.length_append] at this
  omega
theorem InT.on {x : ByteArray} {out tgt nxt : List ByteArray} {j : Nat} (h : InT x out tgt nxt j true) (hj : j < out.length) : InT x out tgt (nxt ++ [out[j]]) (j + 1) true := by
  unfold InT at *
  rw [if_pos rfl] at *
  rw [List.append_assoc, List.singleton_append, ← List.drop_eq_getElem_cons hj]
  exact h
theorem InT.keep {x : ByteArray} {out tgt nxt : List ByteArray} {j : Nat} (h : InT x out tgt nxt j false) (hj : j < out.length) (hg : gtB out[j] x = false) : InT x out tgt (nxt ++ [out[j]]) (j + 1) false := by
  unfold InT at *
  rw [if_neg (by decide)] at *
  rw [List.drop_eq_getElem_cons hj, insT, if_neg (by rw [hg]; decide)] at h
  rw [List.append_assoc, List.singleton_append]
  exact h
theorem InT.put {x : ByteArray} {out tgt nxt : List ByteArray} {j : Nat} (h : InT x out tgt nxt j false) (hj : j < out.length) (hg : gtB out[j] x = true) : InT x out tgt (nxt ++ [x] ++ [out[j]]) (j + 1) true := by
  unfold InT at *
  rw [if_neg (by decide)] at h
  rw [if_pos rfl]
  rw [List.drop_eq_getElem_cons hj, insT, if_pos hg] at h
  rw [List.append_assoc, List.append_assoc, List.singleton_append, List.singleton_append]
  exact h
theorem InT.whole {x : ByteArray} {out tgt nxt : List ByteArray} {j : Nat} (h : InT x out tgt nxt j true) (hj : out.length ≤ j) : nxt = tgt := by
  unfold InT at h
  rw [if_pos rfl, List.drop_eq_nil_of_le hj, List.append_nil] at h
  exact h
theorem InT.last {x : ByteArray} {out tgt nxt : List ByteArray} {j : Nat} (h : InT x out tgt nxt j false) (hj : out.length ≤ j) : nxt ++ [x] = tgt := by
  unfold InT at h
  rw [if_neg (by decide), List.drop_eq_nil_of_le hj, insT] at h
  exact h

end Go.Proofs.YtagbaimfigljiaaGreatDoor
namespace Go.Proofs.YtagbaimfigljiaaGreatDoor
open Go.RowKit
set_option maxRecDepth 100000

def orderFault {α : Type} (fault : α → Int) (name : α → ByteArray) : List α → ByteArray → Int
  | [], _ => 0
  | x :: r, p => if fault x = 0 then (if gtB (name x) p = true then orderFault fault name r (name x) else 7) else fault x

theorem order_bad {α : Type} {fault : α → Int} {name : α → ByteArray} {l : List α} {k : Nat} {p : ByteArray} (hk : k < l.length) (h : fault l[k] ≠ 0) : orderFault fault name (l.drop k) p = fault l[k] := by
  rw [List.drop_eq_getElem_cons hk, orderFault, if_neg h]
theorem order_low {α : Type} {fault : α → Int} {name : α → ByteArray} {l : List α} {k : Nat} {p : ByteArray} (hk : k < l.length) (h : fault l[k] = 0) (hg : gtB (name l[k]) p = false) : orderFault fault name (l.drop k) p = 7 := by
  rw [List.drop_eq_getElem_cons hk, orderFault, if_pos h, if_neg (by rw [hg]; simp)]
theorem order_on {α : Type} {fault : α → Int} {name : α → ByteArray} {l : List α} {k : Nat} {p : ByteArray} (hk : k < l.length) (h : fault l[k] = 0) (hg : gtB (name l[k]) p = true) : orderFault fault name (l.drop k) p = orderFault fault name (l.drop (k + 1)) (name l[k]) := by
  rw [List.drop_eq_getElem_cons hk, orderFault, if_pos h, if_pos hg]
theorem order_end {α : Type} {fault : α → Int} {name : α → ByteArray} {l : List α} {k : Nat} {p : ByteArray} (hk : l.length ≤ k) : orderFault fault name (l.drop k) p = 0 := by
  rw [List.drop_eq_nil_of_le hk, orderFault]

def knFault (k : Kn) : Int := bad4 (knOk k)
def sgFault (g : Sg) : Int := bad4 (sgOk g)

/-- the name ahead lies in block B; what lay below it lies as it lay. -/
def Ahead (w : World) (p : ByteArray) (W : World) : Prop := Below w.heap.size w W ∧ w.heap.size < W.heap.size ∧ W.cell? ⟨w.heap.size, 0, none⟩ = some (.string p) ∧ W.frozen? ⟨w.heap.size, 0, none⟩ = false

theorem Ahead.start (w : World) : Ahead w ⟨#[]⟩ (w.alloc (.cells #[.string ⟨#[]⟩] 9)) :=
  ⟨(Below.refl _ _).alloc (Nat.le_refl _) _, by simp, by simp [go_sem], by simp [go_sem]⟩
theorem Ahead.later {w : World} {p : ByteArray} {W W' : World} (h : Ahead w p W) (hb : Below W.heap.size W W') : Ahead w p W' :=
  ⟨h.1.trans (hb.mono h.1.size), Nat.lt_of_lt_of_le h.2.1 hb.size, (hb.cell h.2.1).trans h.2.2.1, (hb.frozen h.2.1).trans h.2.2.2⟩
theorem Ahead.put {w : World} {p : ByteArray} {W : World} (h : Ahead w p W) (s : ByteArray) : Ahead w s (W.setCell ⟨w.heap.size, 0, none⟩ (.string s)) :=
  ⟨h.1.setCell (Nat.le_refl _) _, by simpa [World.setCell] using h.2.1, World.cell?_setCell_same' _ _ _ (by rw [h.2.2.1]; rfl), by rw [← h.2.2.2]; simp [go_sem]⟩

set_option maxHeartbeats 4000000 in
theorem inOrder_kn (S : Nat → Prop) (l : List Kn) (v : Value) (w : World) (hS : ∀ b, S b → b < w.heap.size) (hv : SlAt S (KnAt w) 2 l v) :
    Calls Tryz.prog 50 #[v, .func (.func 51) #[] #[], .func (.func 52) #[] #[]] w fun e w' => e = .returned (.int .i64 (orderFault knFault Kn.name l ⟨#[]⟩)) ∧ Below w.heap.size w w' := by
  have HV := veil hv
  have hlen := hv.len
  unfold maxLen at hlen
  obtain ⟨a, cap, rfl⟩ := hv.is
  have HA := veil (Ahead.start w)
  clear hv
  go_enter Tryz.func50, Tryz.ntmps50
  go_wp2_with fail
  refine (rising_any _).mono ?_
  rintro e w1 ⟨rfl, rfl⟩
  go_wp2_with fail
  go_loopw [14] (fun i wr => ∃ (j : Nat) (p : ByteArray), j ≤ l.length ∧ i = .int .i64 j ∧ orderFault knFault Kn.name l ⟨#[]⟩ = orderFault knFault Kn.name (l.drop j) p ∧ Ahead w p wr) (fun i _ => l.length - (intOf i).toNat)
  case atStart => exact ⟨0, _, Nat.zero_le _, rfl, rfl, HA.out⟩
  case round =>
    obtain ⟨j, p, hj, rfl, hq, hah⟩ := hrel
    have HQ := veil hq
    clear hq HA
    by_cases hlt : j < l.length
    · have hlt' : (j : Int) < (l.length : Int) := by omega
      obtain ⟨_, b, off, rfl, hb, ⟨a0, m0⟩, a1, m1⟩ := HV.out.at hlt
      have hbk := hS b hb
      have d0 := (hah.1.cell (p := ⟨b, off + j * 2, none⟩) hbk).trans a0
      have d1 := (hah.1.cell (p := ⟨b, off + j * 2 + 1, none⟩) hbk).trans a1
      have hbr : b < wr.heap.size := Nat.lt_of_lt_of_le hbk hah.1.size
      have HC : Hid (∀ W, Calls Tryz.prog 52 #[.agg #[.string l[j].name, .string l[j].is]] W fun e w' => e = .returned (.int .i64 (knFault l[j])) ∧ Below W.heap.size W w') := fun W => checkKn_any _ m0 m1 W
      have HBad := veil (@order_bad _ knFault Kn.name l j p hlt)
      have HLow := veil (@order_low _ knFault Kn.name l j p hlt)
      have HOn := veil (@order_on _ knFault Kn.name l j p hlt)
      have HAh : Hid (∀ o W, Below (wr.alloc o).heap.size (wr.alloc o) W → Ahead w p W) := fun o W hW => (hah.later ((Below.refl _ _).alloc (Nat.le_refl _) o)).later hW
      have HCe : Hid (∀ x y W, Below (wr.alloc (.cells #[.string x, .string y] 91)).heap.size (wr.alloc (.cells #[.string x, .string y] 91)) W → W.cell? ⟨wr.heap.size, 0, none⟩ = some (.string x) ∧ W.cell? ⟨wr.heap.size, 1, none⟩ = some (.string y)) := fun x y W hW =>
        ⟨(hW.cell (p := ⟨wr.heap.size, 0, none⟩) (by simp)).trans (by simp [go_sem]), (hW.cell (p := ⟨wr.heap.size, 1, none⟩) (by simp)).trans (by simp [go_sem])⟩
      clear a0 a1 m0 m1 HV hah
      generalize knFault l[j] = n at *
      generalize l[j].name = x at *
      generalize l[j].is = y at *
      by_cases hn : n = 0
      · subst hn
        go_wp2_with fail
        refine (HC.out _).mono ?_
        rintro e w1 ⟨rfl, hb1⟩
        obtain ⟨e0, e1⟩ := HCe.out _ _ _ hb1
        have ha1 := HAh.out _ _ hb1
        have HA1 := veil ha1
        clear hb1 ha1
        go_wp2_with fail
        refine (typeName_any x y _).mono ?_
        rintro e w2 ⟨rfl, hb2⟩
        have ha2 := HA1.out.later hb2
        have HA2 := veil ha2
        obtain ⟨-, hsz2, hc2, hf2⟩ := ha2
        clear hb2
        cases hg : gtB x p with
        | true =>
          have HOn' := veil (HOn.out trivial hg)
          go_wp2_with fail
          refine (risingOf_any w.heap.size x p _ hc2 hf2).mono ?_
          rintro e w3 ⟨rfl, rfl⟩
          rw [hg]
          go_wp2_with fail
          exact ⟨⟨j + 1, x, by omega, by go_num, HQ.out.trans HOn'.out, HA2.out.put x⟩, by simp [intOf]; omega⟩
        | false =>
          have HLow' := veil (HLow.out trivial hg)
          have HF : Hid (∀ s, Below w.heap.size w (w2.setCell ⟨w.heap.size, 0, none⟩ (.string s))) := fun s => (HA2.out.put s).1
          go_wp2_with fail
          refine (risingOf_any w.heap.size x p _ hc2 hf2).mono ?_
          rintro e w3 ⟨rfl, rfl⟩
          rw [hg]
          go_wp2_with fail
          go_ret
          exact ⟨by rw [HQ.out, HLow'.out]; rfl, HF.out _⟩
      · have hn' : (n != 0) = true := by simpa using hn
        have HBad' := veil (HBad.out hn)
        clear hn
        go_wp2_with fail
        refine (HC.out _).mono ?_
        rintro e w1 ⟨rfl, hb1⟩
        have HB1 := veil (HAh.out _ _ hb1).1
        clear hb1
        go_wp2_with fail
        go_ret
        exact ⟨by rw [HQ.out, HBad'.out]; rfl, HB1.out⟩
    · have hnl : ¬ (j : Int) < (l.length : Int) := by omega
      have HE : Hid (orderFault knFault Kn.name l ⟨#[]⟩ = 0) := HQ.out.trans (order_end (by omega))
      have HB := veil hah.1
      clear HV hah HQ
      go_wp2_with fail
      go_ret
      exact ⟨by rw [HE.out]; rfl, HB.out⟩

set_option maxHeartbeats 4000000 in
theorem inOrder_sg (S : Nat → Prop) (l : List Sg) (v : Value) (w : World) (hS : ∀ b, S b → b < w.heap.size) (hv : SlAt S (SgAt S w) 3 l v) :
    Calls Tryz.prog 53 #[v, .func (.func 54) #[] #[], .func (.func 55) #[] #[]] w fun e w' => e = .returned (.int .i64 (orderFault sgFault Sg.name l ⟨#[]⟩)) ∧ Below w.heap.size w w' := by
  have HV := veil hv
  have hlen := hv.len
  unfold maxLen at hlen
  obtain ⟨a, cap, rfl⟩ := hv.is
  have HA := veil (Ahead.start w)
  clear hv
  go_enter Tryz.func53, Tryz.ntmps53
  go_wp2_with fail
  refine (rising_any _).mono ?_
  rintro e w1 ⟨rfl, rfl⟩
  go_wp2_with fail
  go_loopw [14] (fun i wr => ∃ (j : Nat) (p : ByteArray), j ≤ l.length ∧ i = .int .i64 j ∧ orderFault sgFault Sg.name l ⟨#[]⟩ = orderFault sgFault Sg.name (l.drop j) p ∧ Ahead w p wr) (fun i _ => l.length - (intOf i).toNat)
  case atStart => exact ⟨0, _, Nat.zero_le _, rfl, rfl, HA.out⟩
  case round =>
    obtain ⟨j, p, hj, rfl, hq, hah⟩ := hrel
    have HQ := veil hq
    clear hq HA
    by_cases hlt : j < l.length
    · have hlt' : (j : Int) < (l.length : Int) := by omega
      obtain ⟨_, b, off, rfl, hb, hat⟩ := HV.out.at hlt
      have hbk := hS b hb
      obtain ⟨p1, p2, p3, a0, a1, a2, hsg⟩ := sgIs_at hat
      have d0 := (hah.1.cell (p := ⟨b, off + j * 3, none⟩) hbk).trans a0
      have d1 := (hah.1.cell (p := ⟨b, off + j * 3 + 1, none⟩) hbk).trans a1
      have d2 := (hah.1.cell (p := ⟨b, off + j * 3 + 2, none⟩) hbk).trans a2
      have hbr : b < wr.heap.size := Nat.lt_of_lt_of_le hbk hah.1.size
      have HC : Hid (∀ W, Below wr.heap.size wr W → Calls Tryz.prog 55 #[.agg #[.string l[j].name, .slice p1 p2 p3, .string l[j].result]] W fun e w' => e = .returned (.int .i64 (sgFault l[j])) ∧ Below W.heap.size W w') := fun W hW => by
        have hbW := hah.1.trans (hW.mono hah.1.size)
        exact checkSg_any S _ _ W (fun b hb => Nat.lt_of_lt_of_le (hS b hb) hbW.size) (hsg.keep (Keeps.below hbW hS))
      have HAl : Hid (∀ o, Below wr.heap.size wr (wr.alloc o)) := fun o => (Below.refl _ _).alloc (Nat.le_refl _) _
      have HBad := veil (@order_bad _ sgFault Sg.name l j p hlt)
      have HLow := veil (@order_low _ sgFault Sg.name l j p hlt)
      have HOn := veil (@order_on _ sgFault Sg.name l j p hlt)
      have HAh : Hid (∀ o W, Below (wr.alloc o).heap.size (wr.alloc o) W → Ahead w p W) := fun o W hW => (hah.later ((Below.refl _ _).alloc (Nat.le_refl _) o)).later hW
      have HCe : Hid (∀ x y W, Below (wr.alloc (.cells #[.string x, .slice p1 p2 p3, .string y] 65)).heap.size (wr.alloc (.cells #[.string x, .slice p1 p2 p3, .string y] 65)) W → W.cell? ⟨wr.heap.size, 0, none⟩ = some (.string x) ∧ W.cell? ⟨wr.heap.size, 1, none⟩ = some (.slice p1 p2 p3) ∧ W.cell? ⟨wr.heap.size, 2, none⟩ = some (.string y)) := fun x y W hW =>
        ⟨(hW.cell (p := ⟨wr.heap.size, 0, none⟩) (by simp)).trans (by simp [go_sem]), (hW.cell (p := ⟨wr.heap.size, 1, none⟩) (by simp)).trans (by simp [go_sem]), (hW.cell (p := ⟨wr.heap.size, 2, none⟩) (by simp)).trans (by simp [go_sem])⟩
      clear a0 a1 a2 hsg hat HV hah
      generalize sgFault l[j] = n at *
      generalize l[j].name = x at *
      generalize l[j].result = y at *
      by_cases hn : n = 0
      · subst hn
        go_wp2_with fail
        refine (HC.out _ (HAl.out _)).mono ?_
        rintro e w1 ⟨rfl, hb1⟩
        obtain ⟨e0, e1, e2⟩ := HCe.out _ _ _ hb1
        have ha1 := HAh.out _ _ hb1
        have HA1 := veil ha1
        clear hb1 ha1
        go_wp2_with fail
        refine (funcName_any x y _ _ _ _).mono ?_
        rintro e w2 ⟨rfl, hb2⟩
        have ha2 := HA1.out.later hb2
        have HA2 := veil ha2
        obtain ⟨-, hsz2, hc2, hf2⟩ := ha2
        clear hb2
        cases hg : gtB x p with
        | true =>
          have HOn' := veil (HOn.out trivial hg)
          go_wp2_with fail
          refine (risingOf_any w.heap.size x p _ hc2 hf2).mono ?_
          rintro e w3 ⟨rfl, rfl⟩
          rw [hg]
          go_wp2_with fail
          exact ⟨⟨j + 1, x, by omega, by go_num, HQ.out.trans HOn'.out, HA2.out.put x⟩, by simp [intOf]; omega⟩
        | false =>
          have HLow' := veil (HLow.out trivial hg)
          have HF : Hid (∀ s, Below w.heap.size w (w2.setCell ⟨w.heap.size, 0, none⟩ (.string s))) := fun s => (HA2.out.put s).1
          go_wp2_with fail
          refine (risingOf_any w.heap.size x p _ hc2 hf2).mono ?_
          rintro e w3 ⟨rfl, rfl⟩
          rw [hg]
          go_wp2_with fail
          go_ret
          exact ⟨by rw [HQ.out, HLow'.out]; rfl, HF.out _⟩
      · have hn' : (n != 0) = true := by simpa using hn
        have HBad' := veil (HBad.out hn)
        clear hn
        go_wp2_with fail
        refine (HC.out _ (HAl.out _)).mono ?_
        rintro e w1 ⟨rfl, hb1⟩
        have HB1 := veil (HAh.out _ _ hb1).1
        clear hb1
        go_wp2_with fail
        go_ret
        exact ⟨by rw [HQ.out, HBad'.out]; rfl, HB1.out⟩
    · have hnl : ¬ (j : Int) < (l.length : Int) := by omega
      have HE : Hid (orderFault sgFault Sg.name l ⟨#[]⟩ = 0) := HQ.out.trans (order_end (by omega))
      have HB := veil hah.1
      clear HV hah HQ
      go_wp2_with fail
      go_ret
      exact ⟨by rw [HE.out]; rfl, HB.out⟩

end Go.Proofs.YtagbaimfigljiaaGreatDoor
namespace Go.Proofs.YtagbaimfigljiaaGreatDoor
open Go.RowKit
set_option maxRecDepth 100000

def fcFault (f : Fc) : Int :=
  if 24 < wrap64 ((f.types.length : Int) + f.funcs.length) then 1 else
  if orderFault knFault Kn.name f.types ⟨#[]⟩ = 0 then orderFault sgFault Sg.name f.funcs ⟨#[]⟩ else orderFault knFault Kn.name f.types ⟨#[]⟩

set_option maxHeartbeats 2000000 in
theorem checkFace_any (S : Nat → Prop) (f : Fc) (v : Value) (w : World) (hS : ∀ b, S b → b < w.heap.size) (hv : FcIs S w f v) :
    Calls Tryz.prog 20 #[v] w fun e w' => e = .returned (.int .i64 (fcFault f)) ∧ Below w.heap.size w w' := by
  obtain ⟨vt, vf, rfl, ht, hf⟩ := hv
  have HE : Hid (fcFault f = if 24 < wrap64 ((f.types.length : Int) + f.funcs.length) then 1 else if orderFault knFault Kn.name f.types ⟨#[]⟩ = 0 then orderFault sgFault Sg.name f.funcs ⟨#[]⟩ else orderFault knFault Kn.name f.types ⟨#[]⟩) := rfl
  have HC : Hid (∀ W : World, Below w.heap.size w W → Calls Tryz.prog 50 #[vt, .func (.func 51) #[] #[], .func (.func 52) #[] #[]] W fun e w' => e = .returned (.int .i64 (orderFault knFault Kn.name f.types ⟨#[]⟩)) ∧ Below W.heap.size W w') := fun W hW =>
    inOrder_kn S _ _ W (fun b hb => Nat.lt_of_lt_of_le (hS b hb) hW.size) (knSl_keep (Keeps.below hW hS) ht)
  have HD : Hid (∀ W : World, Below w.heap.size w W → Calls Tryz.prog 53 #[vf, .func (.func 54) #[] #[], .func (.func 55) #[] #[]] W fun e w' => e = .returned (.int .i64 (orderFault sgFault Sg.name f.funcs ⟨#[]⟩)) ∧ Below W.heap.size W w') := fun W hW =>
    inOrder_sg S _ _ W (fun b hb => Nat.lt_of_lt_of_le (hS b hb) hW.size) (sgSl_keep (Keeps.below hW hS) hf)
  have h1 := ht.len
  have h2 := hf.len
  unfold maxLen at h1 h2
  obtain ⟨a, cap, rfl⟩ := ht.is
  obtain ⟨a2, cap2, rfl⟩ := hf.is
  have HA : Hid (Below w.heap.size w (w.alloc (.cells #[.slice a f.types.length cap, .slice a2 f.funcs.length cap2] 30))) := (Below.refl _ _).alloc (Nat.le_refl _) _
  clear ht hf hS
  generalize orderFault knFault Kn.name f.types ⟨#[]⟩ = p at *
  generalize orderFault sgFault Sg.name f.funcs ⟨#[]⟩ = q at *
  generalize fcFault f = r at *
  by_cases h24 : 24 < wrap64 ((f.types.length : Int) + f.funcs.length)
  · have HE' : Hid (r = 1) := HE.out.trans (if_pos h24)
    clear HE
    go_enter Tryz.func20, Tryz.ntmps20
    go_wp2_with fail
    go_ret
    exact ⟨by rw [HE'.out]; rfl, HA.out⟩
  · have HE1 : Hid (r = if p = 0 then q else p) := HE.out.trans (if_neg h24)
    clear HE
    have hc : ∀ w1, Below (w.alloc (.cells #[.slice a f.types.length cap, .slice a2 f.funcs.length cap2] 30)).heap.size (w.alloc (.cells #[.slice a f.types.length cap, .slice a2 f.funcs.length cap2] 30)) w1 → w1.cell? ⟨w.heap.size, 1, none⟩ = some (.slice a2 f.funcs.length cap2) := fun w1 hb => (hb.cell (p := ⟨w.heap.size, 1, none⟩) (by simp)).trans (by simp [go_sem])
    have HCe := veil hc
    clear hc
    by_cases hp : p = 0
    · have HE' : Hid (r = q) := HE1.out.trans (if_pos hp)
      subst hp
      clear HE1
      go_enter Tryz.func20, Tryz.ntmps20
      go_wp2_with fail
      refine (HC.out _ HA.out).mono ?_
      rintro e w1 ⟨rfl, hb⟩
      have hc := HCe.out _ hb
      have HB := veil (HA.out.trans (hb.mono (by simp)))
      clear hb
      go_wp2_with fail
      refine (HD.out _ HB.out).mono ?_
      rintro e w2 ⟨rfl, hb2⟩
      have HB2 := veil (HB.out.trans (hb2.mono HB.out.size))
      clear hb2 hc
      go_wp2_with fail
      go_ret
      exact ⟨by rw [HE'.out]; rfl, HB2.out⟩
    · have HE' : Hid (r = p) := HE1.out.trans (if_neg hp)
      have hp' : (p != 0) = true := by simpa using hp
      clear HE1 hp
      go_enter Tryz.func20, Tryz.ntmps20
      go_wp2_with fail
      refine (HC.out _ HA.out).mono ?_
      rintro e w1 ⟨rfl, hb⟩
      have HB := veil (HA.out.trans (hb.mono (by simp)))
      clear hb
      go_wp2_with fail
      go_ret
      exact ⟨by rw [HE'.out]; rfl, HB.out⟩

end Go.Proofs.YtagbaimfigljiaaGreatDoor
namespace Go.Proofs.YtagbaimfigljiaaGreatDoor
open Go.RowKit
set_option maxRecDepth 100000

end Go.Proofs.YtagbaimfigljiaaGreatDoor
namespace Go.Proofs.YtagbaimfigljiaaGreatDoor
open Go.RowKit
set_option maxRecDepth 100000

theorem ident_size {s : ByteArray} (h : identOk s = true) : 0 < s.size := by
  have h1 : wordOk s = true := by
    unfold identOk at h
    simp only [Bool.and_eq_true] at h
    exact h.1
  by_cases hs : 1 ≤ s.size ∧ s.size ≤ 8
  · omega
  · rw [word_long s hs] at h1
    cases h1

end Go.Proofs.YtagbaimfigljiaaGreatDoor
