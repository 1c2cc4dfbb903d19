/- What slices.Contains answers at a list of texts, and slices.IndexFunc at imports and at fields with the closures that ask for a name; the reference's hasText and typeAt. -/
import Derived.Test.YtcpnfkeoajeodaaGreatDoorJFa
namespace Go.Proofs.YtcpnfkeoajeodaaGreatDoor
open Go.RowKit
set_option maxRecDepth 100000

theorem beq_flip (s x : ByteArray) : (s.toList == x.toList) = (x.toList == s.toList) := by
  rw [Bool.eq_iff_iff, beq_iff_eq, beq_iff_eq]
  exact eq_comm

def hasS (l : List ByteArray) (s : ByteArray) : Bool := decide (findAt (fun x => sEq x s) l < l.length)

set_option maxHeartbeats 2000000 in
theorem index_str (S : Nat → Prop) (l : List ByteArray) (s : ByteArray) (v : Value) (w : World) (hS : ∀ b, S b → b < w.heap.size) (hv : SlAt S (StrAt w) 1 l v) :
    Calls Tryz.prog 94 #[v, .string s] w fun e w' => e = .returned (.int .i64 (idxOf (fun x => sEq x s) l)) ∧ Below w.heap.size w w' := by
  have HV := veil hv
  have hlen := hv.len
  unfold maxLen at hlen
  obtain ⟨a, cap, rfl⟩ := hv.is
  clear hv
  go_enter Tryz.func94, Tryz.ntmps94
  go_wp2_with fail
  go_loopw [8] (fun i wr => ∃ j : Nat, j ≤ l.length ∧ i = .int .i64 j ∧ findAt (fun x => sEq x s) l = j + findAt (fun x => sEq x s) (l.drop j) ∧ Below w.heap.size w wr) (fun i _ => l.length - (intOf i).toNat)
  case atStart => exact ⟨0, Nat.zero_le _, rfl, (Nat.zero_add _).symm, Below.refl _ _⟩
  case round =>
    obtain ⟨j, hj, rfl, hq, hbl⟩ := hrel
    have HQ := veil hq
    have HBW := veil hbl
    clear hq
    by_cases hlt : j < l.length
    · have hlt' : (j : Int) < (l.length : Int) := by omega
      obtain ⟨_, b, off, rfl, hb, a0, m0⟩ := HV.out.at hlt
      have hbk := hS b hb
      rw [Nat.mul_one] at a0
      have d0 := (hbl.cell (p := ⟨b, off + j, none⟩) hbk).trans a0
      have HYes : Hid ((s.toList == l[j].toList) = true → findAt (fun x => sEq x s) l = j) := fun h => by
        rw [beq_flip] at h
        rw [HQ.out, find_yes hlt h]; rfl
      have HNo : Hid ((s.toList == l[j].toList) = false → findAt (fun x => sEq x s) l = (j + 1) + findAt (fun x => sEq x s) (l.drop (j + 1))) := fun h => by
        rw [beq_flip] at h
        rw [HQ.out, find_no hlt h]; omega
      clear a0 m0 HV hbl HQ
      generalize l[j] = x at *
      cases hx : (s.toList == x.toList) with
      | true =>
        have HI : Hid (idxOf (fun x => sEq x s) l = (j : Int)) := by
          show _ = _
          unfold idxOf
          rw [HYes.out hx, if_pos hlt]
        clear HYes HNo
        go_wp2_with fail
        go_ret
        exact ⟨by rw [HI.out]; rfl, HBW.out⟩
      | false =>
        have HN := veil (HNo.out hx)
        clear HYes HNo
        go_wp2_with fail
        exact ⟨⟨j + 1, by omega, by go_num, HN.out, HBW.out⟩, by simp [intOf]; omega⟩
    · have hnl : ¬ (j : Int) < (l.length : Int) := by omega
      have HI : Hid (idxOf (fun x => sEq x s) l = -1) := by
        show _ = _
        unfold idxOf
        rw [HQ.out, find_end (by omega), if_neg (by omega)]
      clear HV hbl HQ
      go_wp2_with fail
      go_ret
      exact ⟨by rw [HI.out]; rfl, HBW.out⟩

theorem contains_str (S : Nat → Prop) (l : List ByteArray) (s : ByteArray) (v : Value) (w : World) (hS : ∀ b, S b → b < w.heap.size) (hv : SlAt S (StrAt w) 1 l v) :
    Calls Tryz.prog 75 #[v, .string s] w fun e w' => e = .returned (.bool (hasS l s)) ∧ Below w.heap.size w w' := by
  have HC : Hid (Calls Tryz.prog 94 #[v, .string s] w fun e w' => e = .returned (.int .i64 (idxOf (fun x => sEq x s) l)) ∧ Below w.heap.size w w') := index_str S l s v w hS hv
  have hE : decide (0 ≤ idxOf (fun x => sEq x s) l) = hasS l s := by
    unfold idxOf hasS
    by_cases h : findAt (fun x => sEq x s) l < l.length
    · rw [if_pos h]; simp [h]
    · rw [if_neg h]; simp [h]
  have HE := veil hE
  obtain ⟨a, cap, rfl⟩ := hv.is
  clear hv hE
  generalize idxOf (fun x => sEq x s) l = r at *
  go_enter Tryz.func75, Tryz.ntmps75
  go_wp2_with fail
  refine HC.out.mono ?_
  rintro e w1 ⟨rfl, hb1⟩
  have HB1 := veil hb1
  clear hb1
  go_wp2_with fail
  go_ret
  exact ⟨by rw [← HE.out]; rfl, HB1.out⟩

theorem useIs_any (B : Nat) (x s : ByteArray) (y : Bool) (a : Option Addr) (n cap : Nat) (a2 : Option Addr) (n2 cap2 : Nat) (w : World) (hp : w.cell? ⟨B, 0, none⟩ = some (.string s)) :
    Calls Tryz.prog 74 #[.agg #[.string x, .bool y, .slice a n cap, .slice a2 n2 cap2], .pointer (some ⟨B, 0, none⟩)] w fun e w' => e = .returned (.bool (sEq x s)) ∧ Below w.heap.size w w' := by
  have hlt : B < w.heap.size := World.block_lt_of_cell? _ _ hp
  have HE : Hid (sEq x s = (x.toList == s.toList)) := rfl
  go_enter Tryz.func74, Tryz.ntmps74
  go_wp2
  go_ret
  exact ⟨by rw [HE.out]; rfl, (Below.refl _ _).alloc (Nat.le_refl _) _⟩

theorem im_cells {S : Nat → Prop} {w : World} {i : Im} {b o : Nat} (h : ImAt S w i b o) : ∃ a n cap a2 n2 cap2, w.cell? ⟨b, o, none⟩ = some (.string i.name) ∧ w.cell? ⟨b, o + 1, none⟩ = some (.bool i.there) ∧ w.cell? ⟨b, o + 2, none⟩ = some (.slice a n cap) ∧ w.cell? ⟨b, o + 3, none⟩ = some (.slice a2 n2 cap2) ∧ FcIs S w i.face (.agg #[.slice a n cap, .slice a2 n2 cap2]) := by
  obtain ⟨⟨h0, _⟩, h1, vt, vf, h2, h3, hc⟩ := h
  obtain ⟨a, n, cap, rfl⟩ := hc.1.slice
  obtain ⟨a2, n2, cap2, rfl⟩ := hc.2.slice
  exact ⟨a, n, cap, a2, n2, cap2, h0, h1, h2, h3, _, _, rfl, hc⟩

set_option maxHeartbeats 2000000 in
theorem index_im (S : Nat → Prop) (l : List Im) (s : ByteArray) (B : Nat) (v : Value) (w : World) (hS : ∀ b, S b → b < w.heap.size) (hv : SlAt S (ImAt S w) 4 l v) (hp : w.cell? ⟨B, 0, none⟩ = some (.string s)) :
    Calls Tryz.prog 73 #[v, .func (.func 74) #[] #[.pointer (some ⟨B, 0, none⟩)]] w fun e w' => e = .returned (.int .i64 (idxOf (fun k : Im => sEq k.name s) l)) ∧ Below w.heap.size w w' := by
  have HV := veil hv
  have hlen := hv.len
  unfold maxLen at hlen
  obtain ⟨a, cap, rfl⟩ := hv.is
  have HP := veil hp
  have HBl := veil (World.block_lt_of_cell? _ _ hp)
  clear hv hp
  go_enter Tryz.func73, Tryz.ntmps73
  go_wp2_with fail
  go_loopw [8] (fun i wr => ∃ j : Nat, j ≤ l.length ∧ i = .int .i64 j ∧ findAt (fun k : Im => sEq k.name s) l = j + findAt (fun k : Im => sEq k.name s) (l.drop j) ∧ Below w.heap.size w wr) (fun i _ => l.length - (intOf i).toNat)
  case atStart => exact ⟨0, Nat.zero_le _, rfl, (Nat.zero_add _).symm, Below.refl _ _⟩
  case round =>
    obtain ⟨j, hj, rfl, hq, hbl⟩ := hrel
    have HQ := veil hq
    have HBW := veil hbl
    clear hq
    by_cases hlt : j < l.length
    · have hlt' : (j : Int) < (l.length : Int) := by omega
      obtain ⟨_, b, off, rfl, hb, hat⟩ := HV.out.at hlt
      have hbk := hS b hb
      obtain ⟨p1, p2, p3, q1, q2, q3, a0, a1, a2, a3, _⟩ := im_cells hat
      have d0 := (hbl.cell (p := ⟨b, off + j * 4, none⟩) hbk).trans a0
      have d1 := (hbl.cell (p := ⟨b, off + j * 4 + 1, none⟩) hbk).trans a1
      have d2 := (hbl.cell (p := ⟨b, off + j * 4 + 2, none⟩) hbk).trans a2
      have d3 := (hbl.cell (p := ⟨b, off + j * 4 + 3, none⟩) hbk).trans a3
      have HC : Hid (Calls Tryz.prog 74 #[.agg #[.string l[j].name, .bool l[j].there, .slice p1 p2 p3, .slice q1 q2 q3], .pointer (some ⟨B, 0, none⟩)] wr fun e w' => e = .returned (.bool (sEq l[j].name s)) ∧ Below wr.heap.size wr w') := useIs_any B _ s _ _ _ _ _ _ _ wr ((hbl.cell HBl.out).trans HP.out)
      have HYes : Hid (sEq l[j].name s = true → findAt (fun k : Im => sEq k.name s) l = j) := fun h => by
        rw [HQ.out, find_yes hlt h]; rfl
      have HNo : Hid (sEq l[j].name s = false → findAt (fun k : Im => sEq k.name s) l = (j + 1) + findAt (fun k : Im => sEq k.name s) (l.drop (j + 1))) := fun h => by
        rw [HQ.out, find_no hlt h]; omega
      clear a0 a1 a2 a3 hat HV hbl HQ
      generalize l[j].name = x at *
      generalize l[j].there = y at *
      cases hx : sEq x s with
      | true =>
        rw [hx] at HC
        have HI : Hid (idxOf (fun k : Im => sEq k.name s) l = (j : Int)) := by
          show _ = _
          unfold idxOf
          rw [HYes.out hx, if_pos hlt]
        clear HYes HNo hx
        go_wp2_with fail
        refine HC.out.mono ?_
        rintro e w1 ⟨rfl, hb1⟩
        have HB1 := veil (HBW.out.trans (hb1.mono HBW.out.size))
        clear hb1
        go_wp2_with fail
        go_ret
        exact ⟨by rw [HI.out]; rfl, HB1.out⟩
      | false =>
        rw [hx] at HC
        have HN := veil (HNo.out hx)
        clear HYes HNo hx
        go_wp2_with fail
        refine HC.out.mono ?_
        rintro e w1 ⟨rfl, hb1⟩
        have HB1 := veil (HBW.out.trans (hb1.mono HBW.out.size))
        clear hb1
        go_wp2_with fail
        exact ⟨⟨j + 1, by omega, by go_num, HN.out, HB1.out⟩, by simp [intOf]; omega⟩
    · have hnl : ¬ (j : Int) < (l.length : Int) := by omega
      have HI : Hid (idxOf (fun k : Im => sEq k.name s) l = -1) := by
        show _ = _
        unfold idxOf
        rw [HQ.out, find_end (by omega), if_neg (by omega)]
      clear HV hbl HQ
      go_wp2_with fail
      go_ret
      exact ⟨by rw [HI.out]; rfl, HBW.out⟩

set_option maxHeartbeats 2000000 in
theorem hasText_any (S : Nat → Prop) (l : List ByteArray) (s : ByteArray) (v : Value) (w : World) (hS : ∀ b, S b → b < w.heap.size) (hv : SlAt S (StrAt w) 1 l v) :
    Calls Tryz.prog 62 #[v, .string s] w fun e w' => e = .returned (.bool (hasS l s)) ∧ Below w.heap.size w w' := by
  have HV := veil hv
  have hlen := hv.len
  unfold maxLen at hlen
  obtain ⟨a, cap, rfl⟩ := hv.is
  clear hv
  go_enter Tryz.func62, Tryz.ntmps62
  go_wp2_with fail
  go_loopw [5] (fun i wr => ∃ j : Nat, j ≤ l.length ∧ i = .int .i64 j ∧ findAt (fun x => sEq x s) l = j + findAt (fun x => sEq x s) (l.drop j) ∧ wr = w) (fun i _ => l.length - (intOf i).toNat)
  case atStart => exact ⟨0, Nat.zero_le _, rfl, (Nat.zero_add _).symm, rfl⟩
  case round =>
    obtain ⟨j, hj, rfl, hq, rfl⟩ := hrel
    have HQ := veil hq
    clear hq
    by_cases hlt : j < l.length
    · have hlt' : (j : Int) < (l.length : Int) := by omega
      obtain ⟨_, b, off, rfl, hb, a0, m0⟩ := HV.out.at hlt
      have hbk := hS b hb
      rw [Nat.mul_one] at a0
      have HYes : Hid ((l[j].toList == s.toList) = true → hasS l s = true) := fun h => by
        unfold hasS
        rw [HQ.out, find_yes hlt h]; simpa using hlt
      have HNo : Hid ((l[j].toList == s.toList) = false → findAt (fun x => sEq x s) l = (j + 1) + findAt (fun x => sEq x s) (l.drop (j + 1))) := fun h => by
        rw [HQ.out, find_no hlt h]; omega
      clear m0 HV HQ
      generalize l[j] = x at *
      cases hx : (x.toList == s.toList) with
      | true =>
        have HI := veil (HYes.out hx)
        clear HYes HNo
        go_wp2_with fail
        go_ret
        exact ⟨by rw [HI.out]; rfl, Below.refl _ _⟩
      | false =>
        have HN := veil (HNo.out hx)
        clear HYes HNo
        go_wp2_with fail
        exact ⟨⟨j + 1, by omega, by go_num, HN.out, by simp⟩, by simp [intOf]; omega⟩
    · have hnl : ¬ (j : Int) < (l.length : Int) := by omega
      have HI : Hid (hasS l s = false) := by
        show _ = _
        unfold hasS
        rw [HQ.out, find_end (by omega)]; simp; omega
      clear HV HQ
      go_wp2_with fail
      go_ret
      exact ⟨by rw [HI.out]; rfl, Below.refl _ _⟩

end Go.Proofs.YtcpnfkeoajeodaaGreatDoor
