/- What sign.declared and sign.taken answer: is there one of that name. -/
import Derived.Test.YtkdailcadcfepafGreatJAlias10
namespace Go.Proofs.YtkdailcadcfepafGreat
open Go.RowKit
set_option maxRecDepth 100000

theorem takenIs_any (B : Nat) (x s : ByteArray) (k : Int) (f n : ByteArray) (a : Option Addr) (m cap : Nat) (w : World) (hp : w.cell? ⟨B, 0, none⟩ = some (.string s)) :
    Calls Tryz.prog 92 #[.agg #[.string x, .int .i64 k, .string f, .string n, .slice a m cap], .pointer (some ⟨B, 0, none⟩)] w fun e w' => e = .returned (.bool (sEq x s)) ∧ Below w.heap.size w w' := by
  have hlt : B < w.heap.size := World.block_lt_of_cell? _ _ hp
  have HE : Hid (sEq x s = (x.toList == s.toList)) := rfl
  go_enter Tryz.func92, Tryz.ntmps92
  go_wp2
  go_ret
  exact ⟨by rw [HE.out]; rfl, (Below.refl _ _).alloc (Nat.le_refl _) _⟩

theorem declaredIs_any (B : Nat) (x s : ByteArray) (y : ByteArray) (vp : Value) (k : Int) (f n : ByteArray) (va : Value) (k2 n2 : Int) (f2 s2 : ByteArray) (ve : Value) (w : World) (hp : w.cell? ⟨B, 0, none⟩ = some (.string s)) :
    Calls Tryz.prog 45 #[.agg #[.string x, .string y, vp, .int .i64 k, .string f, .string n, va, .int .i64 k2, .int .i64 n2, .string f2, .string s2, ve], .pointer (some ⟨B, 0, none⟩)] w fun e w' => e = .returned (.bool (sEq x s)) ∧ Below w.heap.size w w' := by
  have hlt : B < w.heap.size := World.block_lt_of_cell? _ _ hp
  have HE : Hid (sEq x s = (x.toList == s.toList)) := rfl
  go_enter Tryz.func45, Tryz.ntmps45
  go_wp2
  go_ret
  exact ⟨by rw [HE.out]; rfl, (Below.refl _ _).alloc (Nat.le_refl _) _⟩

theorem fu_cells {S : Nat → Prop} {w : World} {x : Fu} {b o : Nat} (h : FuAt S w x b o) : ∃ vp1 vp2 vp3 k f n a m cap k2 n2 f2 s2 ve1 ve2 ve3, w.cell? ⟨b, o, none⟩ = some (.string x.name) ∧ w.cell? ⟨b, o + 1, none⟩ = some (.string x.var) ∧ w.cell? ⟨b, o + 2, none⟩ = some (.slice vp1 vp2 vp3) ∧ w.cell? ⟨b, o + 3, none⟩ = some (.int .i64 k) ∧ w.cell? ⟨b, o + 4, none⟩ = some (.string f) ∧ w.cell? ⟨b, o + 5, none⟩ = some (.string n) ∧ w.cell? ⟨b, o + 6, none⟩ = some (.slice a m cap) ∧
    w.cell? ⟨b, o + 7, none⟩ = some (.int .i64 k2) ∧ w.cell? ⟨b, o + 8, none⟩ = some (.int .i64 n2) ∧ w.cell? ⟨b, o + 9, none⟩ = some (.string f2) ∧ w.cell? ⟨b, o + 10, none⟩ = some (.string s2) ∧ w.cell? ⟨b, o + 11, none⟩ = some (.slice ve1 ve2 ve3) ∧
    (x.name.size ≤ maxLen ∧ x.var.size ≤ maxLen ∧ SlAt S (FdAt S w) 5 x.params (.slice vp1 vp2 vp3) ∧ TyCs S w x.result k f n (.slice a m cap) ∧ ExCs S w x.body k2 n2 f2 s2 (.slice ve1 ve2 ve3)) := by
  obtain ⟨⟨c0, hsz⟩, ⟨c1, hsz1⟩, ⟨vp, c2, hps⟩, hty, hex⟩ := h
  obtain ⟨kd, fo, na, va, c3, c4, c5, c6, hcs⟩ := tyAt_cells.1 hty
  obtain ⟨ke, ne, fe, se, ve, c7, c8, c9, c10, c11, hce⟩ := exAt_cells.1 hex
  obtain ⟨va1, va2, va3, rfl⟩ := hcs.slice
  obtain ⟨vp1, vp2, vp3, rfl⟩ := hps.slice
  obtain ⟨ve1, ve2, ve3, rfl⟩ := hce.slice
  rw [Nat.add_assoc] at c4 c5 c6 c8 c9 c10 c11
  exact ⟨_, _, _, _, _, _, _, _, _, _, _, _, _, _, _, _, c0, c1, c2, c3, c4, c5, c6, c7, c8, c9, c10, c11, hsz, hsz1, hps, hcs, hce⟩

set_option maxHeartbeats 4000000 in
theorem index_taken (S : Nat → Prop) (l : List Fd) (s : ByteArray) (B : Nat) (v : Value) (w : World) (hS : ∀ b, S b → b < w.heap.size) (hv : SlAt S (FdAt S w) 5 l v) (hp : w.cell? ⟨B, 0, none⟩ = some (.string s)) :
    Calls Tryz.prog 64 #[v, .func (.func 92) #[] #[.pointer (some ⟨B, 0, none⟩)]] w fun e w' => e = .returned (.int .i64 (idxOf (fun k : Fd => sEq k.name s) l)) ∧ Below w.heap.size w w' := by
  have HV := veil hv
  have hlen := hv.len
  unfold maxLen at hlen
  obtain ⟨a, cap, rfl⟩ := hv.is
  have HP := veil hp
  have HBl := veil (World.block_lt_of_cell? _ _ hp)
  clear hv hp
  go_enter Tryz.func64, Tryz.ntmps64
  go_wp2_with fail
  go_loopw [8] (fun i wr => ∃ j : Nat, j ≤ l.length ∧ i = .int .i64 j ∧ findAt (fun k : Fd => sEq k.name s) l = j + findAt (fun k : Fd => sEq k.name s) (l.drop j) ∧ Below w.heap.size w wr) (fun i _ => l.length - (intOf i).toNat)
  case atStart => exact ⟨0, Nat.zero_le _, rfl, (Nat.zero_add _).symm, Below.refl _ _⟩
  case round =>
    obtain ⟨j, hj, rfl, hq, hbl⟩ := hrel
    have HQ := veil hq
    have HBW := veil hbl
    clear hq
    by_cases hlt : j < l.length
    · have hlt' : (j : Int) < (l.length : Int) := by omega
      obtain ⟨_, b, off, rfl, hb, hat⟩ := HV.out.at hlt
      have hbk := hS b hb
      obtain ⟨kd, fo, na, p1, p2, p3, a0, a1, a2, a3, a4, _⟩ := fd_cells hat
      have d0 := (hbl.cell (p := ⟨b, off + j * 5, none⟩) hbk).trans a0
      have d1 := (hbl.cell (p := ⟨b, off + j * 5 + 1, none⟩) hbk).trans a1
      have d2 := (hbl.cell (p := ⟨b, off + j * 5 + 2, none⟩) hbk).trans a2
      have d3 := (hbl.cell (p := ⟨b, off + j * 5 + 3, none⟩) hbk).trans a3
      have d4 := (hbl.cell (p := ⟨b, off + j * 5 + 4, none⟩) hbk).trans a4
      have HC : Hid (Calls Tryz.prog 92 #[.agg #[.string l[j].name, .int .i64 kd, .string fo, .string na, .slice p1 p2 p3], .pointer (some ⟨B, 0, none⟩)] wr fun e w' => e = .returned (.bool (sEq l[j].name s)) ∧ Below wr.heap.size wr w') := takenIs_any B _ s _ _ _ _ _ _ wr ((hbl.cell HBl.out).trans HP.out)
      have HYes : Hid (sEq l[j].name s = true → findAt (fun k : Fd => sEq k.name s) l = j) := fun h => by
        rw [HQ.out, find_yes hlt h]; rfl
      have HNo : Hid (sEq l[j].name s = false → findAt (fun k : Fd => sEq k.name s) l = (j + 1) + findAt (fun k : Fd => sEq k.name s) (l.drop (j + 1))) := fun h => by
        rw [HQ.out, find_no hlt h]; omega
      clear a0 a1 a2 a3 a4 hat HV hbl HQ
      skip
      generalize l[j].name = x at *
      cases hx : sEq x s with
      | true =>
        rw [hx] at HC
        have HI : Hid (idxOf (fun k : Fd => sEq k.name s) l = (j : Int)) := by
          show _ = _
          unfold idxOf
          rw [HYes.out hx, if_pos hlt]
        clear HYes HNo hx
        go_wp2_with fail
        refine HC.out.mono ?_
        rintro e w1 ⟨rfl, hb1⟩
        have HB1 := veil (HBW.out.trans (hb1.mono HBW.out.size))
        clear hb1
        go_wp2_with fail
        go_ret
        exact ⟨by rw [HI.out]; rfl, HB1.out⟩
      | false =>
        rw [hx] at HC
        have HN := veil (HNo.out hx)
        clear HYes HNo hx
        go_wp2_with fail
        refine HC.out.mono ?_
        rintro e w1 ⟨rfl, hb1⟩
        have HB1 := veil (HBW.out.trans (hb1.mono HBW.out.size))
        clear hb1
        go_wp2_with fail
        exact ⟨⟨j + 1, by omega, by go_num, HN.out, HB1.out⟩, by simp [intOf]; omega⟩
    · have hnl : ¬ (j : Int) < (l.length : Int) := by omega
      have HI : Hid (idxOf (fun k : Fd => sEq k.name s) l = -1) := by
        show _ = _
        unfold idxOf
        rw [HQ.out, find_end (by omega), if_neg (by omega)]
      clear HV hbl HQ
      go_wp2_with fail
      go_ret
      exact ⟨by rw [HI.out]; rfl, HBW.out⟩

set_option maxHeartbeats 4000000 in
theorem index_declared (S : Nat → Prop) (l : List Fu) (s : ByteArray) (B : Nat) (v : Value) (w : World) (hS : ∀ b, S b → b < w.heap.size) (hv : SlAt S (FuAt S w) 12 l v) (hp : w.cell? ⟨B, 0, none⟩ = some (.string s)) :
    Calls Tryz.prog 74 #[v, .func (.func 45) #[] #[.pointer (some ⟨B, 0, none⟩)]] w fun e w' => e = .returned (.int .i64 (idxOf (fun k : Fu => sEq k.name s) l)) ∧ Below w.heap.size w w' := by
  have HV := veil hv
  have hlen := hv.len
  unfold maxLen at hlen
  obtain ⟨a, cap, rfl⟩ := hv.is
  have HP := veil hp
  have HBl := veil (World.block_lt_of_cell? _ _ hp)
  clear hv hp
  go_enter Tryz.func74, Tryz.ntmps74
  go_wp2_with fail
  go_loopw [8] (fun i wr => ∃ j : Nat, j ≤ l.length ∧ i = .int .i64 j ∧ findAt (fun k : Fu => sEq k.name s) l = j + findAt (fun k : Fu => sEq k.name s) (l.drop j) ∧ Below w.heap.size w wr) (fun i _ => l.length - (intOf i).toNat)
  case atStart => exact ⟨0, Nat.zero_le _, rfl, (Nat.zero_add _).symm, Below.refl _ _⟩
  case round =>
    obtain ⟨j, hj, rfl, hq, hbl⟩ := hrel
    have HQ := veil hq
    have HBW := veil hbl
    clear hq
    by_cases hlt : j < l.length
    · have hlt' : (j : Int) < (l.length : Int) := by omega
      obtain ⟨_, b, off, rfl, hb, hat⟩ := HV.out.at hlt
      have hbk := hS b hb
      obtain ⟨vp1, vp2, vp3, kd, fo, na, p1, p2, p3, ke, ne, fe, se, ve1, ve2, ve3, a0, a1, a2, a3, a4, a5, a6, a7, a8, a9, a10, a11, _⟩ := fu_cells hat
      have d0 := (hbl.cell (p := ⟨b, off + j * 12, none⟩) hbk).trans a0
      have d1 := (hbl.cell (p := ⟨b, off + j * 12 + 1, none⟩) hbk).trans a1
      have d2 := (hbl.cell (p := ⟨b, off + j * 12 + 2, none⟩) hbk).trans a2
      have d3 := (hbl.cell (p := ⟨b, off + j * 12 + 3, none⟩) hbk).trans a3
      have d4 := (hbl.cell (p := ⟨b, off + j * 12 + 4, none⟩) hbk).trans a4
      have d5 := (hbl.cell (p := ⟨b, off + j * 12 + 5, none⟩) hbk).trans a5
      have d6 := (hbl.cell (p := ⟨b, off + j * 12 + 6, none⟩) hbk).trans a6
      have d7 := (hbl.cell (p := ⟨b, off + j * 12 + 7, none⟩) hbk).trans a7
      have d8 := (hbl.cell (p := ⟨b, off + j * 12 + 8, none⟩) hbk).trans a8
      have d9 := (hbl.cell (p := ⟨b, off + j * 12 + 9, none⟩) hbk).trans a9
      have d10 := (hbl.cell (p := ⟨b, off + j * 12 + 10, none⟩) hbk).trans a10
      have d11 := (hbl.cell (p := ⟨b, off + j * 12 + 11, none⟩) hbk).trans a11
      have HC : Hid (Calls Tryz.prog 45 #[.agg #[.string l[j].name, .string l[j].var, .slice vp1 vp2 vp3, .int .i64 kd, .string fo, .string na, .slice p1 p2 p3, .int .i64 ke, .int .i64 ne, .string fe, .string se, .slice ve1 ve2 ve3], .pointer (some ⟨B, 0, none⟩)] wr fun e w' => e = .returned (.bool (sEq l[j].name s)) ∧ Below wr.heap.size wr w') := declaredIs_any B _ s _ _ _ _ _ _ _ _ _ _ _ wr ((hbl.cell HBl.out).trans HP.out)
      have HYes : Hid (sEq l[j].name s = true → findAt (fun k : Fu => sEq k.name s) l = j) := fun h => by
        rw [HQ.out, find_yes hlt h]; rfl
      have HNo : Hid (sEq l[j].name s = false → findAt (fun k : Fu => sEq k.name s) l = (j + 1) + findAt (fun k : Fu => sEq k.name s) (l.drop (j + 1))) := fun h => by
        rw [HQ.out, find_no hlt h]; omega
      clear a0 a1 a2 a3 a4 a5 a6 a7 a8 a9 a10 a11 hat HV hbl HQ
      generalize l[j].var = xv at *
      generalize l[j].name = x at *
      cases hx : sEq x s with
      | true =>
        rw [hx] at HC
        have HI : Hid (idxOf (fun k : Fu => sEq k.name s) l = (j : Int)) := by
          show _ = _
          unfold idxOf
          rw [HYes.out hx, if_pos hlt]
        clear HYes HNo hx
        go_wp2_with fail
        refine HC.out.mono ?_
        rintro e w1 ⟨rfl, hb1⟩
        have HB1 := veil (HBW.out.trans (hb1.mono HBW.out.size))
        clear hb1
        go_wp2_with fail
        go_ret
        exact ⟨by rw [HI.out]; rfl, HB1.out⟩
      | false =>
        rw [hx] at HC
        have HN := veil (HNo.out hx)
        clear HYes HNo hx
        go_wp2_with fail
        refine HC.out.mono ?_
        rintro e w1 ⟨rfl, hb1⟩
        have HB1 := veil (HBW.out.trans (hb1.mono HBW.out.size))
        clear hb1
        go_wp2_with fail
        exact ⟨⟨j + 1, by omega, by go_num, HN.out, HB1.out⟩, by simp [intOf]; omega⟩
    · have hnl : ¬ (j : Int) < (l.length : Int) := by omega
      have HI : Hid (idxOf (fun k : Fu => sEq k.name s) l = -1) := by
        show _ = _
        unfold idxOf
        rw [HQ.out, find_end (by omega), if_neg (by omega)]
      clear HV hbl HQ
      go_wp2_with fail
      go_ret
      exact ⟨by rw [HI.out]; rfl, HBW.out⟩

def hasFd (l : List Fd) (s : ByteArray) : Bool := decide (findAt (fun k : Fd => sEq k.name s) l < l.length)
theorem taken_anyF (S : Nat → Prop) (l : List Fd) (s : ByteArray) (B : Nat) (v : Value) (w : World) (hS : ∀ b, S b → b < w.heap.size) (hv : SlAt S (FdAt S w) 5 l v) (hp : w.cell? ⟨B, 0, none⟩ = some (.string s)) :
    Calls Tryz.prog 91 #[v, .func (.func 92) #[] #[.pointer (some ⟨B, 0, none⟩)]] w fun e w' => e = .returned (.bool (hasFd l s)) ∧ Below w.heap.size w w' := by
  have HC : Hid (Calls Tryz.prog 64 #[v, .func (.func 92) #[] #[.pointer (some ⟨B, 0, none⟩)]] w fun e w' => e = .returned (.int .i64 (idxOf (fun k : Fd => sEq k.name s) l)) ∧ Below w.heap.size w w') := index_taken S l s B v w hS hv hp
  have hE : decide (0 ≤ idxOf (fun k : Fd => sEq k.name s) l) = hasFd l s := by
    unfold idxOf hasFd
    by_cases h : findAt (fun k : Fd => sEq k.name s) l < l.length
    · rw [if_pos h]; simp [h]
    · rw [if_neg h]; simp [h]
  have HE := veil hE
  obtain ⟨a, cap, rfl⟩ := hv.is
  clear hv hE
  generalize idxOf (fun k : Fd => sEq k.name s) l = r at *
  go_enter Tryz.func91, Tryz.ntmps91
  go_wp2_with fail
  refine HC.out.mono ?_
  rintro e w1 ⟨rfl, hb1⟩
  have HB1 := veil hb1
  clear hb1
  go_wp2_with fail
  go_ret
  exact ⟨by rw [← HE.out]; rfl, HB1.out⟩

theorem taken_any (S : Nat → Prop) (l : List Fd) (s : ByteArray) (v : Value) (w : World) (hS : ∀ b, S b → b < w.heap.size) (hv : SlAt S (FdAt S w) 5 l v) :
    Calls Tryz.prog 75 #[v, .string s] w fun e w' => e = .returned (.bool (hasFd l s)) ∧ Below w.heap.size w w' := by
  obtain ⟨w2, hwe, hs2, p1, hbel⟩ : ∃ w2, w.alloc (.cells #[.string s] 9) = w2 ∧ w2.heap.size = w.heap.size + 1 ∧ w2.cell? ⟨w.heap.size, 0, none⟩ = some (.string s) ∧ Below w.heap.size w w2 :=
    ⟨_, rfl, by simp, by simp [go_sem], (Below.refl _ _).alloc (Nat.le_refl _) _⟩
  have HC : Hid (Calls Tryz.prog 91 #[v, .func (.func 92) #[] #[.pointer (some ⟨w.heap.size, 0, none⟩)]] w2 fun e w' => e = .returned (.bool (hasFd l s)) ∧ Below w2.heap.size w2 w') :=
    taken_anyF S _ _ _ _ w2 (fun b hb => Nat.lt_of_lt_of_le (hS b hb) hbel.size) (fdSl_keep (Keeps.below hbel hS) hv) p1
  obtain ⟨a, n, cap, rfl⟩ := hv.slice
  have HWe := veil hwe
  have HBel := veil hbel
  clear hv hwe hbel p1
  go_enter Tryz.func75, Tryz.ntmps75
  go_wp2_with fail
  rw [HWe.out]
  refine HC.out.mono ?_
  rintro e w3 ⟨rfl, hb3⟩
  have HB := veil (HBel.out.trans (hb3.mono HBel.out.size))
  clear hb3
  go_wp2_with fail
  go_ret
  exact ⟨rfl, HB.out⟩

def hasFu (l : List Fu) (s : ByteArray) : Bool := decide (findAt (fun k : Fu => sEq k.name s) l < l.length)
theorem declared_anyF (S : Nat → Prop) (l : List Fu) (s : ByteArray) (B : Nat) (v : Value) (w : World) (hS : ∀ b, S b → b < w.heap.size) (hv : SlAt S (FuAt S w) 12 l v) (hp : w.cell? ⟨B, 0, none⟩ = some (.string s)) :
    Calls Tryz.prog 44 #[v, .func (.func 45) #[] #[.pointer (some ⟨B, 0, none⟩)]] w fun e w' => e = .returned (.bool (hasFu l s)) ∧ Below w.heap.size w w' := by
  have HC : Hid (Calls Tryz.prog 74 #[v, .func (.func 45) #[] #[.pointer (some ⟨B, 0, none⟩)]] w fun e w' => e = .returned (.int .i64 (idxOf (fun k : Fu => sEq k.name s) l)) ∧ Below w.heap.size w w') := index_declared S l s B v w hS hv hp
  have hE : decide (0 ≤ idxOf (fun k : Fu => sEq k.name s) l) = hasFu l s := by
    unfold idxOf hasFu
    by_cases h : findAt (fun k : Fu => sEq k.name s) l < l.length
    · rw [if_pos h]; simp [h]
    · rw [if_neg h]; simp [h]
  have HE := veil hE
  obtain ⟨a, cap, rfl⟩ := hv.is
  clear hv hE
  generalize idxOf (fun k : Fu => sEq k.name s) l = r at *
  go_enter Tryz.func44, Tryz.ntmps44
  go_wp2_with fail
  refine HC.out.mono ?_
  rintro e w1 ⟨rfl, hb1⟩
  have HB1 := veil hb1
  clear hb1
  go_wp2_with fail
  go_ret
  exact ⟨by rw [← HE.out]; rfl, HB1.out⟩

theorem declared_any (S : Nat → Prop) (l : List Fu) (s : ByteArray) (v : Value) (w : World) (hS : ∀ b, S b → b < w.heap.size) (hv : SlAt S (FuAt S w) 12 l v) :
    Calls Tryz.prog 27 #[v, .string s] w fun e w' => e = .returned (.bool (hasFu l s)) ∧ Below w.heap.size w w' := by
  obtain ⟨w2, hwe, hs2, p1, hbel⟩ : ∃ w2, w.alloc (.cells #[.string s] 9) = w2 ∧ w2.heap.size = w.heap.size + 1 ∧ w2.cell? ⟨w.heap.size, 0, none⟩ = some (.string s) ∧ Below w.heap.size w w2 :=
    ⟨_, rfl, by simp, by simp [go_sem], (Below.refl _ _).alloc (Nat.le_refl _) _⟩
  have HC : Hid (Calls Tryz.prog 44 #[v, .func (.func 45) #[] #[.pointer (some ⟨w.heap.size, 0, none⟩)]] w2 fun e w' => e = .returned (.bool (hasFu l s)) ∧ Below w2.heap.size w2 w') :=
    declared_anyF S _ _ _ _ w2 (fun b hb => Nat.lt_of_lt_of_le (hS b hb) hbel.size) (fuSl_keep (Keeps.below hbel hS) hv) p1
  obtain ⟨a, n, cap, rfl⟩ := hv.slice
  have HWe := veil hwe
  have HBel := veil hbel
  clear hv hwe hbel p1
  go_enter Tryz.func27, Tryz.ntmps27
  go_wp2_with fail
  rw [HWe.out]
  refine HC.out.mono ?_
  rintro e w3 ⟨rfl, hb3⟩
  have HB := veil (HBel.out.trans (hb3.mono HBel.out.size))
  clear hb3
  go_wp2_with fail
  go_ret
  exact ⟨rfl, HB.out⟩

end Go.Proofs.YtkdailcadcfepafGreat
