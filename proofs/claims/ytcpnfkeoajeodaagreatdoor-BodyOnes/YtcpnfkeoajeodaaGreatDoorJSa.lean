/- What sign.declared and sign.taken answer: is there one of that name. -/
import Derived.Test.YtcpnfkeoajeodaaGreatDoorJAlias10
import Derived.Test.YtcpnfkeoajeodaaGreatDoorJAo
import Derived.Deep.RegionWith
namespace Go.Proofs.YtcpnfkeoajeodaaGreatDoor
open Go.RowKit
set_option maxRecDepth 100000

theorem takenIs_any (B : Nat) (x s : ByteArray) (k : Int) (f n : ByteArray) (a : Option Addr) (m cap : Nat) (w : World) (hp : w.cell? ⟨B, 0, none⟩ = some (.string s)) :
    Calls Tryz.prog 91 #[.agg #[.string x, .int .i64 k, .string f, .string n, .slice a m cap], .pointer (some ⟨B, 0, none⟩)] w fun e w' => e = .returned (.bool (sEq x s)) ∧ Below w.heap.size w w' := by
  have hlt : B < w.heap.size := World.block_lt_of_cell? _ _ hp
  have HE : Hid (sEq x s = (x.toList == s.toList)) := rfl
  go_enter Tryz.func91, Tryz.ntmps91
  go_wp2
  go_ret
  exact ⟨by rw [HE.out]; rfl, (Below.refl _ _).alloc (Nat.le_refl _) _⟩

theorem declaredIs_any (B : Nat) (x s : ByteArray) (y : ByteArray) (vp : Value) (k : Int) (f n : ByteArray) (va : Value) (k2 n2 : Int) (f2 s2 : ByteArray) (ve : Value) (w : World) (hp : w.cell? ⟨B, 0, none⟩ = some (.string s)) :
    Calls Tryz.prog 46 #[.agg #[.string x, .string y, vp, .int .i64 k, .string f, .string n, va, .int .i64 k2, .int .i64 n2, .string f2, .string s2, ve], .pointer (some ⟨B, 0, none⟩)] w fun e w' => e = .returned (.bool (sEq x s)) ∧ Below w.heap.size w w' := by
  have hlt : B < w.heap.size := World.block_lt_of_cell? _ _ hp
  have HE : Hid (sEq x s = (x.toList == s.toList)) := rfl
  go_enter Tryz.func46, Tryz.ntmps46
  go_wp2
  go_ret
  exact ⟨by rw [HE.out]; rfl, (Below.refl _ _).alloc (Nat.le_refl _) _⟩

theorem fu_cells {S : Nat → Prop} {w : World} {x : Fu} {b o : Nat} (h : FuAt S w x b o) : ∃ vp1 vp2 vp3 k f n a m cap k2 n2 f2 s2 ve1 ve2 ve3, w.cell? ⟨b, o, none⟩ = some (.string x.name) ∧ w.cell? ⟨b, o + 1, none⟩ = some (.string x.var) ∧ w.cell? ⟨b, o + 2, none⟩ = some (.slice vp1 vp2 vp3) ∧ w.cell? ⟨b, o + 3, none⟩ = some (.int .i64 k) ∧ w.cell? ⟨b, o + 4, none⟩ = some (.string f) ∧ w.cell? ⟨b, o + 5, none⟩ = some (.string n) ∧ w.cell? ⟨b, o + 6, none⟩ = some (.slice a m cap) ∧
    w.cell? ⟨b, o + 7, none⟩ = some (.int .i64 k2) ∧ w.cell? ⟨b, o + 8, none⟩ = some (.int .i64 n2) ∧ w.cell? ⟨b, o + 9, none⟩ = some (.string f2) ∧ w.cell? ⟨b, o + 10, none⟩ = some (.string s2) ∧ w.cell? ⟨b, o + 11, none⟩ = some (.slice ve1 ve2 ve3) ∧
    (x.name.size ≤ maxLen ∧ x.var.size ≤ maxLen ∧ SlAt S (FdAt S w) 5 x.params (.slice vp1 vp2 vp3) ∧ TyCs S w x.result k f n (.slice a m cap) ∧ ExCs S w x.body k2 n2 f2 s2 (.slice ve1 ve2 ve3)) := by
  obtain ⟨⟨c0, hsz⟩, ⟨c1, hsz1⟩, ⟨vp, c2, hps⟩, hty, hex⟩ := h
  obtain ⟨kd, fo, na, va, c3, c4, c5, c6, hcs⟩ := tyAt_cells.1 hty
  obtain ⟨ke, ne, fe, se, ve, c7, c8, c9, c10, c11, hce⟩ := exAt_cells.1 hex
  obtain ⟨va1, va2, va3, rfl⟩ := hcs.slice
  obtain ⟨vp1, vp2, vp3, rfl⟩ := hps.slice
  obtain ⟨ve1, ve2, ve3, rfl⟩ := hce.slice
  rw [Nat.add_assoc] at c4 c5 c6 c8 c9 c10 c11
  exact ⟨_, _, _, _, _, _, _, _, _, _, _, _, _, _, _, _, c0, c1, c2, c3, c4, c5, c6, c7, c8, c9, c10, c11, hsz, hsz1, hps, hcs, hce⟩

set_option maxHeartbeats 4000000 in
theorem index_taken (S : Nat → Prop) (l : List Fd) (s : ByteArray) (B : Nat) (v : Value) (w : World) (hS : ∀ b, S b → b < w.heap.size) (hv : SlAt S (FdAt S w) 5 l v) (hp : w.cell? ⟨B, 0, none⟩ = some (.string s)) :
    Calls Tryz.prog 28 #[v, .func (.func 91) #[] #[.pointer (some ⟨B, 0, none⟩)]] w fun e w' => e = .returned (.int .i64 (idxOf (fun k : Fd => sEq k.name s) l)) ∧ Below w.heap.size w w' := by
  have HV := veil hv
  have hlen := hv.len
  unfold maxLen at hlen
  obtain ⟨a, cap, rfl⟩ := hv.is
  have HP := veil hp
  have HBl := veil (World.block_lt_of_cell? _ _ hp)
  clear hv hp
  go_enter Tryz.func28, Tryz.ntmps28
  go_wp2_with fail
  go_loopw [8] (fun i wr => ∃ j : Nat, j ≤ l.length ∧ i = .int .i64 j ∧ findAt (fun k : Fd => sEq k.name s) l = j + findAt (fun k : Fd => sEq k.name s) (l.drop j) ∧ Below w.heap.size w wr) (fun i _ => l.length - (intOf i).toNat)
  case atStart => exact ⟨0, Nat.zero_le _, rfl, (Nat.zero_add _).symm, Below.refl _ _⟩
  case round =>
    obtain ⟨j, hj, rfl, hq, hbl⟩ := hrel
    have HQ := veil hq
    have HBW := veil hbl
    clear hq
    by_cases hlt : j < l.length
    · have hlt' : (j : Int) < (l.length : Int) := by omega
      obtain ⟨_, b, off, rfl, hb, hat⟩ := HV.out.at hlt
      have hbk := hS b hb
      obtain ⟨kd, fo, na, p1, p2, p3, a0, a1, a2, a3, a4, _⟩ := fd_cells hat
      have d0 := (hbl.cell (p := ⟨b, off + j * 5, none⟩) hbk).trans a0
      have d1 := (hbl.cell (p := ⟨b, off + j * 5 + 1, none⟩) hbk).trans a1
      have d2 := (hbl.cell (p := ⟨b, off + j * 5 + 2, none⟩) hbk).trans a2
      have d3 := (hbl.cell (p := ⟨b, off + j * 5 + 3, none⟩) hbk).trans a3
      have d4 := (hbl.cell (p := ⟨b, off + j * 5 + 4, none⟩) hbk).trans a4
      have HC : Hid (Calls Tryz.prog 91 #[.agg #[.string l[j].name, .int .i64 kd, .string fo, .string na, .slice p1 p2 p3], .pointer (some ⟨B, 0, none⟩)] wr fun e w' => e = .returned (.bool (sEq l[j].name s)) ∧ Below wr.heap.size wr w') := takenIs_any B _ s _ _ _ _ _ _ wr ((hbl.cell HBl.out).trans HP.out)
      have HYes : Hid (sEq l[j].name s = true → findAt (fun k : Fd => sEq k.name s) l = j) := fun h => by
        rw [HQ.out, find_yes hlt h]; rfl
      have HNo : Hid (sEq l[j].name s = false → findAt (fun k : Fd => sEq k.name s) l = (j + 1) + findAt (fun k : Fd => sEq k.name s) (l.drop (j + 1))) := fun h => by
        rw [HQ.out, find_no hlt h]; omega
      clear a0 a1 a2 a3 a4 hat HV hbl HQ
      skip
      generalize l[j].name = x at *
      cases hx : sEq x s with
      | true =>
        rw [hx] at HC
        have HI : Hid (idxOf (fun k : Fd => sEq k.name s) l = (j : Int)) := by
          show _ = _
          unfold idxOf
          rw [HYes.out hx, if_pos hlt]
        clear HYes HNo hx
        go_wp2_with fail
        refine HC.out.mono ?_
        rintro e w1 ⟨rfl, hb1⟩
        have HB1 := veil (HBW.out.trans (hb1.mono HBW.out.size))
        clear hb1
        go_wp2_with fail
        go_ret
        exact ⟨by rw [HI.out]; rfl, HB1.out⟩
      | false =>
        rw [hx] at HC
        have HN := veil (HNo.out hx)
        clear HYes HNo hx
        go_wp2_with fail
        refine HC.out.mono ?_
        rintro e w1 ⟨rfl, hb1⟩
        have HB1 := veil (HBW.out.trans (hb1.mono HBW.out.size))
        clear hb1
        go_wp2_with fail
        exact ⟨⟨j + 1, by omega, by go_num, HN.out, HB1.out⟩, by simp [intOf]; omega⟩
    · have hnl : ¬ (j : Int) < (l.length : Int) := by omega
      have HI : Hid (idxOf (fun k : Fd => sEq k.name s) l = -1) := by
        show _ = _
        unfold idxOf
        rw [HQ.out, find_end (by omega), if_neg (by omega)]
      clear HV hbl HQ
      go_wp2_with fail
      go_ret
      exact ⟨by rw [HI.out]; rfl, HBW.out⟩

set_option maxHeartbeats 4000000 in
theorem index_declared (S : Nat → Prop) (l : List Fu) (s : ByteArray) (B : Nat) (v : Value) (w : World) (hS : ∀ b, S b → b < w.heap.size) (hv : SlAt S (FuAt S w) 12 l v) (hp : w.cell? ⟨B, 0, none⟩ = some (.string s)) :
    Calls Tryz.prog 66 #[v, .func (.func 46) #[] #[.pointer (some ⟨B, 0, none⟩)]] w fun e w' => e = .returned (.int .i64 (idxOf (fun k : Fu => sEq k.name s) l)) ∧ Below w.heap.size w w' := by
  have HV := veil hv
  have hlen := hv.len
  unfold maxLen at hlen
  obtain ⟨a, cap, rfl⟩ := hv.is
  have HP := veil hp
  have HBl := veil (World.block_lt_of_cell? _ _ hp)
  clear hv hp
  go_enter Tryz.func66, Tryz.ntmps66
  go_wp2_with fail
  go_loopw [8] (fun i wr => ∃ j : Nat, j ≤ l.length ∧ i = .int .i64 j ∧ findAt (fun k : Fu => sEq k.name s) l = j + findAt (fun k : Fu => sEq k.name s) (l.drop j) ∧ Below w.heap.size w wr) (fun i _ => l.length - (intOf i).toNat)
  case atStart => exact ⟨0, Nat.zero_le _, rfl, (Nat.zero_add _).symm, Below.refl _ _⟩
  case round =>
    obtain ⟨j, hj, rfl, hq, hbl⟩ := hrel
    have HQ := veil hq
    have HBW := veil hbl
    clear hq
    by_cases hlt : j < l.length
    · have hlt' : (j : Int) < (l.length : Int) := by omega
      obtain ⟨_, b, off, rfl, hb, hat⟩ := HV.out.at hlt
      have hbk := hS b hb
      obtain ⟨vp1, vp2, vp3, kd, fo, na, p1, p2, p3, ke, ne, fe, se, ve1, ve2, ve3, a0, a1, a2, a3, a4, a5, a6, a7, a8, a9, a10, a11, _⟩ := fu_cells hat
      have d0 := (hbl.cell (p := ⟨b, off + j * 12, none⟩) hbk).trans a0
      have d1 := (hbl.cell (p := ⟨b, off + j * 12 + 1, none⟩) hbk).trans a1
      have d2 := (hbl.cell (p := ⟨b, off + j * 12 + 2, none⟩) hbk).trans a2
      have d3 := (hbl.cell (p := ⟨b, off + j * 12 + 3, none⟩) hbk).trans a3
      have d4 := (hbl.cell (p := ⟨b, off + j * 12 + 4, none⟩) hbk).trans a4
      have d5 := (hbl.cell (p := ⟨b, off + j * 12 + 5, none⟩) hbk).trans a5
      have d6 := (hbl.cell (p := ⟨b, off + j * 12 + 6, none⟩) hbk).trans a6
      have d7 := (hbl.cell (p := ⟨b, off + j * 12 + 7, none⟩) hbk).trans a7
      have d8 := (hbl.cell (p := ⟨b, off + j * 12 + 8, none⟩) hbk).trans a8
      have d9 := (hbl.cell (p := ⟨b, off + j * 12 + 9, none⟩) hbk).trans a9
      have d10 := (hbl.cell (p := ⟨b, off + j * 12 + 10, none⟩) hbk).trans a10
      have d11 := (hbl.cell (p := ⟨b, off + j * 12 + 11, none⟩) hbk).trans a11
      have HC : Hid (Calls Tryz.prog 46 #[.agg #[.string l[j].name, .string l[j].var, .slice vp1 vp2 vp3, .int .i64 kd, .string fo, .string na, .slice p1 p2 p3, .int .i64 ke, .int .i64 ne, .string fe, .string se, .slice ve1 ve2 ve3], .pointer (some ⟨B, 0, none⟩)] wr fun e w' => e = .returned (.bool (sEq l[j].name s)) ∧ Below wr.heap.size wr w') := declaredIs_any B _ s _ _ _ _ _ _ _ _ _ _ _ wr ((hbl.cell HBl.out).trans HP.out)
      have HYes : Hid (sEq l[j].name s = true → findAt (fun k : Fu => sEq k.name s) l = j) := fun h => by
        rw [HQ.out, find_yes hlt h]; rfl
      have HNo : Hid (sEq l[j].name s = false → findAt (fun k : Fu => sEq k.name s) l = (j + 1) + findAt (fun k : Fu => sEq k.name s) (l.drop (j + 1))) := fun h => by
        rw [HQ.out, find_no hlt h]; omega
      clear a0 a1 a2 a3 a4 a5 a6 a7 a8 a9 a10 a11 hat HV hbl HQ
      generalize l[j].var = xv at *
      generalize l[j].name = x at *
      cases hx : sEq x s with
      | true =>
        rw [hx] at HC
        have HI : Hid (idxOf (fun k : Fu => sEq k.name s) l = (j : Int)) := by
          show _ = _
          unfold idxOf
          rw [HYes.out hx, if_pos hlt]
        clear HYes HNo hx
        go_wp2_with fail
        refine HC.out.mono ?_
        rintro e w1 ⟨rfl, hb1⟩
        have HB1 := veil (HBW.out.trans (hb1.mono HBW.out.size))
        clear hb1
        go_wp2_with fail
        go_ret
        exact ⟨by rw [HI.out]; rfl, HB1.out⟩
      | false =>
        rw [hx] at HC
        have HN := veil (HNo.out hx)
        clear HYes HNo hx
        go_wp2_with fail
        refine HC.out.mono ?_
        rintro e w1 ⟨rfl, hb1⟩
        have HB1 := veil (HBW.out.trans (hb1.mono HBW.out.size))
        clear hb1
        go_wp2_with fail
        exact ⟨⟨j + 1, by omega, by go_num, HN.out, HB1.out⟩, by simp [intOf]; omega⟩
    · have hnl : ¬ (j : Int) < (l.length : Int) := by omega
      have HI : Hid (idxOf (fun k : Fu => sEq k.name s) l = -1) := by
        show _ = _
        unfold idxOf
        rw [HQ.out, find_end (by omega), if_neg (by omega)]
      clear HV hbl HQ
      go_wp2_with fail
      go_ret
      exact ⟨by rw [HI.out]; rfl, HBW.out⟩

def hasFd (l : List Fd) (s : ByteArray) : Bool := decide (findAt (fun k : Fd => sEq k.name s) l < l.length)
theorem taken_anyF (S : Nat → Prop) (l : List Fd) (s : ByteArray) (B : Nat) (v : Value) (w : World) (hS : ∀ b, S b → b < w.heap.size) (hv : SlAt S (FdAt S w) 5 l v) (hp : w.cell? ⟨B, 0, none⟩ = some (.string s)) :
    Calls Tryz.prog 90 #[v, .func (.func 91) #[] #[.pointer (some ⟨B, 0, none⟩)]] w fun e w' => e = .returned (.bool (hasFd l s)) ∧ Below w.heap.size w w' := by
  have HC : Hid (Calls Tryz.prog 28 #[v, .func (.func 91) #[] #[.pointer (some ⟨B, 0, none⟩)]] w fun e w' => e = .returned (.int .i64 (idxOf (fun k : Fd => sEq k.name s) l)) ∧ Below w.heap.size w w') := index_taken S l s B v w hS hv hp
  have hE : decide (0 ≤ idxOf (fun k : Fd => sEq k.name s) l) = hasFd l s := by
    unfold idxOf hasFd
    by_cases h : findAt (fun k : Fd => sEq k.name s) l < l.length
    · rw [if_pos h]; simp [h]
    · rw [if_neg h]; simp [h]
  have HE := veil hE
  obtain ⟨a, cap, rfl⟩ := hv.is
  clear hv hE
  generalize idxOf (fun k : Fd => sEq k.name s) l = r at *
  go_enter Tryz.func90, Tryz.ntmps90
  go_wp2_with fail
  refine HC.out.mono ?_
  rintro e w1 ⟨rfl, hb1⟩
  have HB1 := veil hb1
  clear hb1
  go_wp2_with fail
  go_ret
  exact ⟨by rw [← HE.out]; rfl, HB1.out⟩

theorem taken_any (S : Nat → Prop) (l : List Fd) (s : ByteArray) (v : Value) (w : World) (hS : ∀ b, S b → b < w.heap.size) (hv : SlAt S (FdAt S w) 5 l v) :
    Calls Tryz.prog 67 #[v, .string s] w fun e w' => e = .returned (.bool (hasFd l s)) ∧ Below w.heap.size w w' := by
  obtain ⟨w2, hwe, hs2, p1, hbel⟩ : ∃ w2, w.alloc (.cells #[.string s] 9) = w2 ∧ w2.heap.size = w.heap.size + 1 ∧ w2.cell? ⟨w.heap.size, 0, none⟩ = some (.string s) ∧ Below w.heap.size w w2 :=
    ⟨_, rfl, by simp, by simp [go_sem], (Below.refl _ _).alloc (Nat.le_refl _) _⟩
  have HC : Hid (Calls Tryz.prog 90 #[v, .func (.func 91) #[] #[.pointer (some ⟨w.heap.size, 0, none⟩)]] w2 fun e w' => e = .returned (.bool (hasFd l s)) ∧ Below w2.heap.size w2 w') :=
    taken_anyF S _ _ _ _ w2 (fun b hb => Nat.lt_of_lt_of_le (hS b hb) hbel.size) (fdSl_keep (Keeps.below hbel hS) hv) p1
  obtain ⟨a, n, cap, rfl⟩ := hv.slice
  have HWe := veil hwe
  have HBel := veil hbel
  clear hv hwe hbel p1
  go_enter Tryz.func67, Tryz.ntmps67
  go_wp2_with fail
  rw [HWe.out]
  refine HC.out.mono ?_
  rintro e w3 ⟨rfl, hb3⟩
  have HB := veil (HBel.out.trans (hb3.mono HBel.out.size))
  clear hb3
  go_wp2_with fail
  go_ret
  exact ⟨rfl, HB.out⟩

def hasFu (l : List Fu) (s : ByteArray) : Bool := decide (findAt (fun k : Fu => sEq k.name s) l < l.length)
theorem declared_anyF (S : Nat → Prop) (l : List Fu) (s : ByteArray) (B : Nat) (v : Value) (w : World) (hS : ∀ b, S b → b < w.heap.size) (hv : SlAt S (FuAt S w) 12 l v) (hp : w.cell? ⟨B, 0, none⟩ = some (.string s)) :
    Calls Tryz.prog 45 #[v, .func (.func 46) #[] #[.pointer (some ⟨B, 0, none⟩)]] w fun e w' => e = .returned (.bool (hasFu l s)) ∧ Below w.heap.size w w' := by
  have HC : Hid (Calls Tryz.prog 66 #[v, .func (.func 46) #[] #[.pointer (some ⟨B, 0, none⟩)]] w fun e w' => e = .returned (.int .i64 (idxOf (fun k : Fu => sEq k.name s) l)) ∧ Below w.heap.size w w') := index_declared S l s B v w hS hv hp
  have hE : decide (0 ≤ idxOf (fun k : Fu => sEq k.name s) l) = hasFu l s := by
    unfold idxOf hasFu
    by_cases h : findAt (fun k : Fu => sEq k.name s) l < l.length
    · rw [if_pos h]; simp [h]
    · rw [if_neg h]; simp [h]
  have HE := veil hE
  obtain ⟨a, cap, rfl⟩ := hv.is
  clear hv hE
  generalize idxOf (fun k : Fu => sEq k.name s) l = r at *
  go_enter Tryz.func45, Tryz.ntmps45
  go_wp2_with fail
  refine HC.out.mono ?_
  rintro e w1 ⟨rfl, hb1⟩
  have HB1 := veil hb1
  clear hb1
  go_wp2_with fail
  go_ret
  exact ⟨by rw [← HE.out]; rfl, HB1.out⟩

theorem declared_any (S : Nat → Prop) (l : List Fu) (s : ByteArray) (v : Value) (w : World) (hS : ∀ b, S b → b < w.heap.size) (hv : SlAt S (FuAt S w) 12 l v) :
    Calls Tryz.prog 23 #[v, .string s] w fun e w' => e = .returned (.bool (hasFu l s)) ∧ Below w.heap.size w w' := by
  obtain ⟨w2, hwe, hs2, p1, hbel⟩ : ∃ w2, w.alloc (.cells #[.string s] 9) = w2 ∧ w2.heap.size = w.heap.size + 1 ∧ w2.cell? ⟨w.heap.size, 0, none⟩ = some (.string s) ∧ Below w.heap.size w w2 :=
    ⟨_, rfl, by simp, by simp [go_sem], (Below.refl _ _).alloc (Nat.le_refl _) _⟩
  have HC : Hid (Calls Tryz.prog 45 #[v, .func (.func 46) #[] #[.pointer (some ⟨w.heap.size, 0, none⟩)]] w2 fun e w' => e = .returned (.bool (hasFu l s)) ∧ Below w2.heap.size w2 w') :=
    declared_anyF S _ _ _ _ w2 (fun b hb => Nat.lt_of_lt_of_le (hS b hb) hbel.size) (fuSl_keep (Keeps.below hbel hS) hv) p1
  obtain ⟨a, n, cap, rfl⟩ := hv.slice
  have HWe := veil hwe
  have HBel := veil hbel
  clear hv hwe hbel p1
  go_enter Tryz.func23, Tryz.ntmps23
  go_wp2_with fail
  rw [HWe.out]
  refine HC.out.mono ?_
  rintro e w3 ⟨rfl, hb3⟩
  have HB := veil (HBel.out.trans (hb3.mono HBel.out.size))
  clear hb3
  go_wp2_with fail
  go_ret
  exact ⟨rfl, HB.out⟩

end Go.Proofs.YtcpnfkeoajeodaaGreatDoor

/- What sign.takes answers: the kinds of params, or what is wrong with the first one that is not right. -/
namespace Go.Proofs.YtcpnfkeoajeodaaGreatDoor
open Go.RowKit
set_option maxRecDepth 100000

/-! ### In plain words. -/

def parSol (ρ : Ty → Sol) (ps : List Fd) (i : Nat) : Sol := match ps[i]? with
  | some p => if hasFd (ps.take i) p.name = true then (noneS, 4) else ρ p.is
  | none => (noneS, 4)
def upErr (c : Nat → Int) : Nat → Int
  | 0 => 0
  | k + 1 => if upErr c k ≠ 0 then upErr c k else c k
def kindsOf (ρ : Ty → Sol) (ps : List Fd) : List ByteArray := ps.map fun p => (ρ p.is).1
def parErr (ρ : Ty → Sol) (ps : List Fd) : Int := upErr (fun i => (parSol ρ ps i).2) ps.length

theorem kindsOf_at {ρ : Ty → Sol} {ps : List Fd} {j : Nat} (h : j < ps.length) (h' : j < (kindsOf ρ ps).length) : (kindsOf ρ ps)[j] = (ρ ps[j].is).1 := List.getElem_map ..
theorem parSol_at {ρ : Ty → Sol} {ps : List Fd} {i : Nat} (h : i < ps.length) : parSol ρ ps i = if hasFd (ps.take i) ps[i].name = true then (noneS, 4) else ρ ps[i].is := by
  unfold parSol
  rw [List.getElem?_eq_getElem h]
theorem upErr_none {c : Nat → Int} : ∀ {k : Nat}, (∀ j, j < k → c j = 0) → upErr c k = 0
  | 0, _ => rfl
  | k + 1, h => by
    have e := upErr_none (c := c) (k := k) (fun j hj => h j (by omega))
    rw [upErr, if_neg (by rw [e]; simp), h k (by omega)]
theorem upErr_at {c : Nat → Int} {i : Nat} (h0 : ∀ j, j < i → c j = 0) (hi : c i ≠ 0) : ∀ {k : Nat}, i < k → upErr c k = c i
  | 0, h => absurd h (by omega)
  | k + 1, h => by
    by_cases he : i = k
    · subst he
      rw [upErr, if_neg (by rw [upErr_none h0]; simp)]
    · have e := upErr_at h0 hi (k := k) (by omega)
      rw [upErr, e, if_pos hi]

/-! ### Parts of lists. -/

set_option maxRecDepth 100000 in
theorem sizeFd (W : World) : (sizeOf (Tryz.prog.elem 23)).run Tryz.prog W = .ok 5 W := by
  have : (sizeOf 64).run Tryz.prog W = .ok 5 W := by simp [go_sem]
  exact this
set_option maxRecDepth 100000 in
theorem cut_fd {S : Nat → Prop} {w : World} {u : List Fd} {a : Option Addr} {n cap : Nat} (h : SlAt S (FdAt S w) 5 u (.slice a n cap)) {k : Nat} (hk : k ≤ u.length) :
    ∃ a' cap', (∀ W, (Instr.slice 23 (.slice a n cap) none (some (.int .i64 (k : Int))) none).run Tryz.prog W = .ok (.slice a' k cap') W) ∧ SlAt S (FdAt S w) 5 (u.take k) (.slice a' k cap') := by
  have hcap : k ≤ cap := by
    obtain ⟨_, _, e, ⟨_, h2⟩, _⟩ := h
    injection e with e1 e2 e3
    omega
  obtain ⟨a', cap', e, hp⟩ := sl_part h (i := 0) (j := k) (Nat.zero_le _) hk
  rw [List.drop_zero, Nat.sub_zero] at hp
  rw [Nat.sub_zero] at e
  refine ⟨a', cap', fun W => ?_, hp⟩
  rw [run_slice_h W _ a n cap Tryz.underlying23 .i64 k (by omega) (by omega), sizeFd]
  simpa using e
set_option maxRecDepth 100000 in
theorem sizeFu (W : World) : (sizeOf (Tryz.prog.elem 24)).run Tryz.prog W = .ok 12 W := by
  have : (sizeOf 54).run Tryz.prog W = .ok 12 W := by simp [go_sem]
  exact this
set_option maxRecDepth 100000 in
theorem cut_fu {S : Nat → Prop} {w : World} {u : List Fu} {a : Option Addr} {n cap : Nat} (h : SlAt S (FuAt S w) 12 u (.slice a n cap)) {k : Nat} (hk : k ≤ u.length) :
    ∃ a' cap', (∀ W, (Instr.slice 24 (.slice a n cap) none (some (.int .i64 (k : Int))) none).run Tryz.prog W = .ok (.slice a' k cap') W) ∧ SlAt S (FuAt S w) 12 (u.take k) (.slice a' k cap') := by
  have hcap : k ≤ cap := by
    obtain ⟨_, _, e, ⟨_, h2⟩, _⟩ := h
    injection e with e1 e2 e3
    omega
  obtain ⟨a', cap', e, hp⟩ := sl_part h (i := 0) (j := k) (Nat.zero_le _) hk
  rw [List.drop_zero, Nat.sub_zero] at hp
  rw [Nat.sub_zero] at e
  refine ⟨a', cap', fun W => ?_, hp⟩
  rw [run_slice_h W _ a n cap Tryz.underlying24 .i64 k (by omega) (by omega), sizeFu]
  simpa using e

/-! ### The code. -/

/-- what sign.takes tells. -/
def Takes (w : World) (ρ : Ty → Sol) (ps : List Fd) (e : Ending) (w' : World) : Prop :=
  ∃ a n cap, e = .returned (.tuple #[.slice a n cap, .int .i64 (parErr ρ ps)]) ∧ (parErr ρ ps = 0 → SlAt (fun b => w.heap.size ≤ b ∧ b < w'.heap.size) (StrAt w') 1 (kindsOf ρ ps) (.slice a n cap)) ∧ Below w.heap.size w w'

set_option maxRecDepth 100000 in
set_option maxHeartbeats 8000000 in
theorem takes_any (S : Nat → Prop) (ρ : Ty → Sol) (ps : List Fd) (v : Value) (mB lB fB : Nat) (w : World) (hS : ∀ b, S b → b < w.heap.size) (hv : SlAt S (FdAt S w) 5 ps v) (h8 : ps.length ≤ 8) (hty : ∀ p ∈ ps, tyFault p.is 1 = 0) (hρ : ∀ t, (ρ t).1.size ≤ maxLen)
    (HF : ∀ W t u, Below w.heap.size w W → tyFault t 1 = 0 → TyIs S W t u → Calls Tryz.prog 25 #[u, .pointer (some ⟨mB, 0, none⟩), .pointer (some ⟨lB, 0, none⟩), .pointer (some ⟨fB, 0, none⟩)] W (Tells W (ρ t))) :
    Calls Tryz.prog 47 #[v, .func (.func 25) #[] #[.pointer (some ⟨mB, 0, none⟩), .pointer (some ⟨lB, 0, none⟩), .pointer (some ⟨fB, 0, none⟩)]] w (Takes w ρ ps) := by
  have hr := reachBytes_lt
  have HV := veil hv
  obtain ⟨a, cap, rfl⟩ := hv.is
  have hlen : ps.length ≤ 9223372036854775807 := by omega
  have hkl : (kindsOf ρ ps).length = ps.length := List.length_map ..
  obtain ⟨arr, harr, hmk⟩ := made_row Tryz.underlying22 str_info ps.length (by omega) (by unfold maxLen; omega)
  have HJ : Hid (RowJ w 9 1 (StrP w.heap.size) (kindsOf ρ ps) 0 (w.alloc (.cells arr 9))) := RowJ.start (by rw [hkl]; exact harr)
  have HFv := veil HF
  have HTy := veil hty
  have HRo := veil hρ
  have HKl := veil hkl
  clear hv harr HF hty hρ hkl
  go_enter Tryz.func47, Tryz.ntmps47
  go_wp2_with fail
  clear hmk
  go_loopw [16] (fun i wr => ∃ j : Nat, j ≤ ps.length ∧ i = .int .i64 j ∧ (∀ q, q < j → (parSol ρ ps q).2 = 0) ∧ RowJ w 9 1 (StrP w.heap.size) (kindsOf ρ ps) j wr) (fun i _ => ps.length - (intOf i).toNat)
  case atStart => exact ⟨0, Nat.zero_le _, rfl, fun _ h => absurd h (by omega), HJ.out⟩
  case round =>
    obtain ⟨j, hj, rfl, hall, hrj⟩ := hrel
    have HAll := veil hall
    have HR := veil hrj
    clear HJ hall
    by_cases hlt : j < ps.length
    · have hlt' : (j : Int) < (ps.length : Int) := by omega
      have hj0 : (0 : Int) ≤ (j : Int) := by omega
      obtain ⟨cu, cc, hrun, hcut⟩ := cut_fd HV.out (k := j) (by omega)
      obtain ⟨_, b, off, rfl, hb, hat⟩ := HV.out.at hlt
      obtain ⟨kd, fo, na, p1, p2, p3, a0, a1, a2, a3, a4, hcs⟩ := fd_cells hat
      have hbk := hS b hb
      have d0 := (hrj.bel.cell (p := ⟨b, off + j * 5, none⟩) hbk).trans a0
      have d1 := (hrj.bel.cell (p := ⟨b, off + j * 5 + 1, none⟩) hbk).trans a1
      have d2 := (hrj.bel.cell (p := ⟨b, off + j * 5 + 2, none⟩) hbk).trans a2
      have d3 := (hrj.bel.cell (p := ⟨b, off + j * 5 + 3, none⟩) hbk).trans a3
      have d4 := (hrj.bel.cell (p := ⟨b, off + j * 5 + 4, none⟩) hbk).trans a4
      have HTk : Hid (∀ W, Below w.heap.size w W → Calls Tryz.prog 67 #[.slice cu j cc, .string ps[j].name] W fun e w' => e = .returned (.bool (hasFd (ps.take j) ps[j].name)) ∧ Below W.heap.size W w') := fun W hW =>
        taken_any S (ps.take j) _ _ W (fun b hb => Nat.lt_of_lt_of_le (hS b hb) hW.size) (fdSl_keep (Keeps.below hW hS) hcut)
      have HSol : Hid (∀ W, Below w.heap.size w W → Calls Tryz.prog 25 #[.agg #[.int .i64 kd, .string fo, .string na, .slice p1 p2 p3], .pointer (some ⟨mB, 0, none⟩), .pointer (some ⟨lB, 0, none⟩), .pointer (some ⟨fB, 0, none⟩)] W (Tells W (ρ ps[j].is))) := fun W hW =>
        HFv.out W _ _ hW (HTy.out _ (List.getElem_mem hlt)) ⟨_, _, _, _, rfl, hcs.keep (Keeps.below hW hS)⟩
      have hkj : j < (kindsOf ρ ps).length := by rw [HKl.out]; exact hlt
      have hkv : (kindsOf ρ ps)[j] = (ρ ps[j].is).1 := kindsOf_at hlt hkj
      have HN : Hid (∀ W1, Below wr.heap.size wr W1 → RowJ w 9 1 (StrP w.heap.size) (kindsOf ρ ps) (j + 1) (W1.setCell ⟨w.heap.size, j, none⟩ (.string (ρ ps[j].is).1))) := fun W1 h1 => by
        have := hrj.step (strP_stays _) h1 hkj [.string (ρ ps[j].is).1] rfl (fun hc _ _ => ⟨by rw [hkv]; exact hc 0 (by simp), by rw [hkv]; exact HRo.out _⟩)
        rw [Nat.mul_one] at this
        exact this
      have HRm : Hid (∀ W1, Below wr.heap.size wr W1 → (∃ u, W1.cell? ⟨w.heap.size, j, none⟩ = some u) ∧ W1.frozen? ⟨w.heap.size, j, none⟩ = false) := fun W1 h1 => by
        have := hrj.room h1 hkj 0 (by omega)
        rw [Nat.mul_one] at this
        exact this
      have HBw : Hid (∀ W, Below wr.heap.size wr W → Below w.heap.size w W) := fun W hW => hrj.bel.trans (hW.mono hrj.bel.size)
      have HPs := veil (parSol_at (ρ := ρ) hlt)
      have HErr : Hid ((parSol ρ ps j).2 ≠ 0 → parErr ρ ps = (parSol ρ ps j).2) := fun h => upErr_at (c := fun i => (parSol ρ ps i).2) HAll.out h hlt
      have hbr : b < wr.heap.size := Nat.lt_of_lt_of_le hbk hrj.bel.size
      have hrlt := hrj.lt
      clear hrj a0 a1 a2 a3 a4 hat hcs HV HFv HTy HRo hcut hkv
      generalize ps[j].name = nm at *
      generalize ρ ps[j].is = r at *
      generalize hasFd (ps.take j) nm = tk at *
      generalize hpj : parSol ρ ps j = pj at *
      obtain ⟨rs, rc⟩ := r
      obtain ⟨W1, HW1, e0, e1, e2, e3, e4, hs1, hb1⟩ : ∃ W1, Hid (wr.alloc (.cells #[.string nm, .int .i64 kd, .string fo, .string na, .slice p1 p2 p3] 64) = W1) ∧ W1.cell? ⟨wr.heap.size, 0, none⟩ = some (.string nm) ∧ W1.cell? ⟨wr.heap.size, 1, none⟩ = some (.int .i64 kd) ∧ W1.cell? ⟨wr.heap.size, 2, none⟩ = some (.string fo) ∧ W1.cell? ⟨wr.heap.size, 3, none⟩ = some (.string na) ∧ W1.cell? ⟨wr.heap.size, 4, none⟩ = some (.slice p1 p2 p3) ∧ W1.heap.size = wr.heap.size + 1 ∧ Below wr.heap.size wr W1 :=
        ⟨_, rfl, by simp [go_sem], by simp [go_sem], by simp [go_sem], by simp [go_sem], by simp [go_sem], by simp, (Below.refl _ _).alloc (Nat.le_refl _) _⟩
      have HB1 := veil (HBw.out _ hb1.drew)
      have HB1r := veil hb1.drew
      clear hb1
      go_wp2_with fail
      rw [HW1.out]
      clear HW1
      go_region_with (go_at_call 67; refine (HTk.out _ HB1.out).mono ?_; rintro e w2 ⟨rfl, hb2⟩)
      all_goals
        have HB2 := veil (HB1.out.trans (hb2.mono HB1.out.size))
        have HB2r := veil (HB1r.out.trans (hb2.mono HB1r.out.size))
        have hwr2 : wr.heap.size < W1.drew.heap.size := by show _ < W1.heap.size; omega
        have g1 := (hb2.cell (p := ⟨wr.heap.size, 1, none⟩) hwr2).trans e1
        have g2 := (hb2.cell (p := ⟨wr.heap.size, 2, none⟩) hwr2).trans e2
        have g3 := (hb2.cell (p := ⟨wr.heap.size, 3, none⟩) hwr2).trans e3
        have g4 := (hb2.cell (p := ⟨wr.heap.size, 4, none⟩) hwr2).trans e4
        clear hb2 hwr2 e0 e1 e2 e3 e4 d0 d1 d2 d3 d4 hrun
        cases tk with
        | true =>
          have hpj2 : pj.2 = 4 := by rw [HPs.out, if_pos rfl]
          have HE : Hid (parErr ρ ps = 4) := by
            show _ = _
            rw [HErr.out (by rw [hpj2]; decide), hpj2]
          clear HErr HPs hpj2 hpj HN HRm HAll
          go_wp2_with fail
          go_ret2
          exact ⟨_, _, _, by rw [HE.out]; rfl, fun h => by rw [HE.out] at h; exact absurd h (by decide), HB2.out⟩
        | false =>
          have hpr : pj = (rs, rc) := by rw [HPs.out, if_neg (by decide)]
          go_wp2_with fail
          refine (HSol.out _ HB2.out).mono ?_
          rintro e w3 ⟨rfl, hb3⟩
          have HB3 := veil (HB2.out.trans (hb3.mono HB2.out.size))
          have hb3r := HB2r.out.trans (hb3.mono HB2r.out.size)
          obtain ⟨⟨y, hy⟩, hfz⟩ := HRm.out _ hb3r
          have HN' := veil (HN.out _ hb3r)
          clear hb3 hb3r g1 g2 g3 g4
          by_cases hc : rc = 0
          · subst hc
            have HAll' : Hid (∀ q, q < j + 1 → (parSol ρ ps q).2 = 0) := fun q hq => by
              by_cases hqj : q < j
              · exact HAll.out q hqj
              · have e : q = j := by omega
                rw [e, hpj, hpr]
            clear HErr HPs HAll HN HRm hpr hpj
            go_wp2_with fail
            exact ⟨⟨j + 1, by omega, by go_num, HAll'.out, HN'.out⟩, by simp [intOf]; omega⟩
          · have hc' : (rc != 0) = true := by simp [hc]
            have HE : Hid (parErr ρ ps = rc) := by
              show _ = _
              rw [HErr.out (by rw [hpr]; exact hc), hpr]
            have HNe : Hid (¬ rc = 0) := hc
            clear HErr HPs HAll HN HRm hpr hpj HN' hc hy hfz
            go_wp2_with fail
            go_ret2
            exact ⟨_, _, _, by rw [HE.out]; rfl, fun h => by rw [HE.out] at h; exact absurd h HNe.out, HB3.out⟩
    · have hnl : ¬ (j : Int) < (ps.length : Int) := by omega
      have hje : j = ps.length := by omega
      subst hje
      have HZ : Hid (parErr ρ ps = 0) := upErr_none HAll.out
      have HW : Hid (SlAt (fun b => w.heap.size ≤ b ∧ b < wr.heap.size) (StrAt wr) 1 (kindsOf ρ ps) (.slice (some ⟨w.heap.size, 0, none⟩) ps.length ps.length)) := by
        have h2 : RowJ w 9 1 (StrP w.heap.size) (kindsOf ρ ps) (kindsOf ρ ps).length wr := by rw [HKl.out]; exact hrj
        have := h2.whole (by rw [HKl.out]; unfold maxLen; omega) (S := fun b => w.heap.size ≤ b ∧ b < wr.heap.size) ⟨Nat.le_refl _, hrj.lt⟩ (Q := StrAt wr) (fun _ _ h => h)
        rwa [HKl.out] at this
      have HB := veil hrj.bel
      clear hrj HV HAll HR
      go_wp2_with fail
      go_ret2
      exact ⟨_, _, _, by rw [HZ.out]; rfl, fun _ => HW.out, HB.out⟩

end Go.Proofs.YtcpnfkeoajeodaaGreatDoor
