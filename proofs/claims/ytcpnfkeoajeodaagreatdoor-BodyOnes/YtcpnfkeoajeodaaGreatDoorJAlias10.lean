/- What alias.named and the reference's typeAt answer: the place of the first type of a name; what alias.imported answers: what a type of another module is. -/
import Derived.Test.YtcpnfkeoajeodaaGreatDoorJAl
import Derived.Test.YtcpnfkeoajeodaaGreatDoorJFaceType
namespace Go.Proofs.YtcpnfkeoajeodaaGreatDoor
open Go.RowKit
set_option maxRecDepth 100000

theorem namedIs_any (B : Nat) (x s : ByteArray) (k : Int) (f n : ByteArray) (a : Option Addr) (m cap : Nat) (w : World) (hp : w.cell? ⟨B, 0, none⟩ = some (.string s)) :
    Calls Tryz.prog 93 #[.agg #[.string x, .int .i64 k, .string f, .string n, .slice a m cap], .pointer (some ⟨B, 0, none⟩)] w fun e w' => e = .returned (.bool (sEq x s)) ∧ Below w.heap.size w w' := by
  have hlt : B < w.heap.size := World.block_lt_of_cell? _ _ hp
  have HE : Hid (sEq x s = (x.toList == s.toList)) := rfl
  go_enter Tryz.func93, Tryz.ntmps93
  go_wp2
  go_ret
  exact ⟨by rw [HE.out]; rfl, (Below.refl _ _).alloc (Nat.le_refl _) _⟩

theorem fd_cells {S : Nat → Prop} {w : World} {x : Fd} {b o : Nat} (h : FdAt S w x b o) : ∃ k f n a m cap, w.cell? ⟨b, o, none⟩ = some (.string x.name) ∧ w.cell? ⟨b, o + 1, none⟩ = some (.int .i64 k) ∧ w.cell? ⟨b, o + 2, none⟩ = some (.string f) ∧ w.cell? ⟨b, o + 3, none⟩ = some (.string n) ∧ w.cell? ⟨b, o + 4, none⟩ = some (.slice a m cap) ∧ TyCs S w x.is k f n (.slice a m cap) := by
  obtain ⟨⟨h0, _⟩, h1⟩ := h
  obtain ⟨k, f, n, va, c0, c1, c2, c3, hc⟩ := tyAt_cells.1 h1
  obtain ⟨a, m, cap, rfl⟩ : ∃ a m cap, va = .slice a m cap := by
    obtain ⟨_, _, _, _, hs⟩ := hc
    exact SlAt.slice hs
  exact ⟨k, f, n, a, m, cap, h0, c0, c1, c2, c3, hc⟩

set_option maxHeartbeats 2000000 in
theorem index_fd (S : Nat → Prop) (l : List Fd) (s : ByteArray) (B : Nat) (v : Value) (w : World) (hS : ∀ b, S b → b < w.heap.size) (hv : SlAt S (FdAt S w) 5 l v) (hp : w.cell? ⟨B, 0, none⟩ = some (.string s)) :
    Calls Tryz.prog 28 #[v, .func (.func 93) #[] #[.pointer (some ⟨B, 0, none⟩)]] w fun e w' => e = .returned (.int .i64 (idxOf (fun k : Fd => sEq k.name s) l)) ∧ Below w.heap.size w w' := by
  have HV := veil hv
  have hlen := hv.len
  unfold maxLen at hlen
  obtain ⟨a, cap, rfl⟩ := hv.is
  have HP := veil hp
  have HBl := veil (World.block_lt_of_cell? _ _ hp)
  clear hv hp
  go_enter Tryz.func28, Tryz.ntmps28
  go_wp2_with fail
  go_loopw [8] (fun i wr => ∃ j : Nat, j ≤ l.length ∧ i = .int .i64 j ∧ findAt (fun k : Fd => sEq k.name s) l = j + findAt (fun k : Fd => sEq k.name s) (l.drop j) ∧ Below w.heap.size w wr) (fun i _ => l.length - (intOf i).toNat)
  case atStart => exact ⟨0, Nat.zero_le _, rfl, (Nat.zero_add _).symm, Below.refl _ _⟩
  case round =>
    obtain ⟨j, hj, rfl, hq, hbl⟩ := hrel
    have HQ := veil hq
    have HBW := veil hbl
    clear hq
    by_cases hlt : j < l.length
    · have hlt' : (j : Int) < (l.length : Int) := by omega
      obtain ⟨_, b, off, rfl, hb, hat⟩ := HV.out.at hlt
      have hbk := hS b hb
      obtain ⟨kd, fo, na, p1, p2, p3, a0, a1, a2, a3, a4, _⟩ := fd_cells hat
      have d0 := (hbl.cell (p := ⟨b, off + j * 5, none⟩) hbk).trans a0
      have d1 := (hbl.cell (p := ⟨b, off + j * 5 + 1, none⟩) hbk).trans a1
      have d2 := (hbl.cell (p := ⟨b, off + j * 5 + 2, none⟩) hbk).trans a2
      have d3 := (hbl.cell (p := ⟨b, off + j * 5 + 3, none⟩) hbk).trans a3
      have d4 := (hbl.cell (p := ⟨b, off + j * 5 + 4, none⟩) hbk).trans a4
      have HC : Hid (Calls Tryz.prog 93 #[.agg #[.string l[j].name, .int .i64 kd, .string fo, .string na, .slice p1 p2 p3], .pointer (some ⟨B, 0, none⟩)] wr fun e w' => e = .returned (.bool (sEq l[j].name s)) ∧ Below wr.heap.size wr w') := namedIs_any B _ s _ _ _ _ _ _ wr ((hbl.cell HBl.out).trans HP.out)
      have HYes : Hid (sEq l[j].name s = true → findAt (fun k : Fd => sEq k.name s) l = j) := fun h => by
        rw [HQ.out, find_yes hlt h]; rfl
      have HNo : Hid (sEq l[j].name s = false → findAt (fun k : Fd => sEq k.name s) l = (j + 1) + findAt (fun k : Fd => sEq k.name s) (l.drop (j + 1))) := fun h => by
        rw [HQ.out, find_no hlt h]; omega
      clear a0 a1 a2 a3 a4 hat HV hbl HQ
      generalize l[j].name = x at *
      cases hx : sEq x s with
      | true =>
        rw [hx] at HC
        have HI : Hid (idxOf (fun k : Fd => sEq k.name s) l = (j : Int)) := by
          show _ = _
          unfold idxOf
          rw [HYes.out hx, if_pos hlt]
        clear HYes HNo hx
        go_wp2_with fail
        refine HC.out.mono ?_
        rintro e w1 ⟨rfl, hb1⟩
        have HB1 := veil (HBW.out.trans (hb1.mono HBW.out.size))
        clear hb1
        go_wp2_with fail
        go_ret
        exact ⟨by rw [HI.out]; rfl, HB1.out⟩
      | false =>
        rw [hx] at HC
        have HN := veil (HNo.out hx)
        clear HYes HNo hx
        go_wp2_with fail
        refine HC.out.mono ?_
        rintro e w1 ⟨rfl, hb1⟩
        have HB1 := veil (HBW.out.trans (hb1.mono HBW.out.size))
        clear hb1
        go_wp2_with fail
        exact ⟨⟨j + 1, by omega, by go_num, HN.out, HB1.out⟩, by simp [intOf]; omega⟩
    · have hnl : ¬ (j : Int) < (l.length : Int) := by omega
      have HI : Hid (idxOf (fun k : Fd => sEq k.name s) l = -1) := by
        show _ = _
        unfold idxOf
        rw [HQ.out, find_end (by omega), if_neg (by omega)]
      clear HV hbl HQ
      go_wp2_with fail
      go_ret
      exact ⟨by rw [HI.out]; rfl, HBW.out⟩


def ownAt (m : Mo) (s : ByteArray) : Nat := findAt (fun f : Fd => sEq f.name s) m.types

theorem named_any (S : Nat → Prop) (l : List Fd) (s : ByteArray) (v : Value) (w : World) (hS : ∀ b, S b → b < w.heap.size) (hv : SlAt S (FdAt S w) 5 l v) :
    Calls Tryz.prog 71 #[v, .string s] w fun e w' => e = .returned (.int .i64 (idxOf (fun k : Fd => sEq k.name s) l)) ∧ Below w.heap.size w w' := by
  obtain ⟨w2, hwe, hs2, p1, hbel⟩ : ∃ w2, w.alloc (.cells #[.string s] 9) = w2 ∧ w2.heap.size = w.heap.size + 1 ∧ w2.cell? ⟨w.heap.size, 0, none⟩ = some (.string s) ∧ Below w.heap.size w w2 :=
    ⟨_, rfl, by simp, by simp [go_sem], (Below.refl _ _).alloc (Nat.le_refl _) _⟩
  have HC : Hid (Calls Tryz.prog 28 #[v, .func (.func 93) #[] #[.pointer (some ⟨w.heap.size, 0, none⟩)]] w2 fun e w' => e = .returned (.int .i64 (idxOf (fun k : Fd => sEq k.name s) l)) ∧ Below w2.heap.size w2 w') :=
    index_fd S _ _ _ _ w2 (fun b hb => Nat.lt_of_lt_of_le (hS b hb) hbel.size) (fdSl_keep (Keeps.below hbel hS) hv) p1
  obtain ⟨a, n, cap, rfl⟩ := hv.slice
  have HWe := veil hwe
  have HBel := veil hbel
  clear hv hwe hbel p1
  go_enter Tryz.func71, Tryz.ntmps71
  go_wp2_with fail
  rw [HWe.out]
  refine HC.out.mono ?_
  rintro e w3 ⟨rfl, hb3⟩
  have HB := veil (HBel.out.trans (hb3.mono HBel.out.size))
  clear hb3
  go_wp2_with fail
  go_ret
  exact ⟨rfl, HB.out⟩

def impVal (u : List ByteArray) (l : List Im) (o n : ByteArray) : ByteArray := if (fromOk u l o && typeErr (fromFc u l o) n == 0) = true then typeVal (fromFc u l o) n else ⟨#[]⟩
def impErr (u : List ByteArray) (l : List Im) (o n : ByteArray) : Int := if (fromOk u l o && typeErr (fromFc u l o) n == 0) = true then 0 else 5

set_option maxHeartbeats 2000000 in
theorem imported_any (S : Nat → Prop) (m : Mo) (l : List Im) (o n : ByteArray) (vm v : Value) (w : World) (hS : ∀ b, S b → b < w.heap.size) (hm : MoIs S w m vm) (hv : SlAt S (ImAt S w) 4 l v) (hz : ∀ i ∈ l, fcSmall i.face) :
    Calls Tryz.prog 70 #[vm, v, .string o, .string n] w fun e w' => e = .returned (.tuple #[.string (impVal m.uses l o n), .int .i64 (impErr m.uses l o n)]) ∧ Below w.heap.size w w' := by
  have hz' := from_small (u := m.uses) o hz
  have HC : Hid (∀ W, Below w.heap.size w W → Calls Tryz.prog 52 #[vm, v, .string o] W fun e w' => ∃ a n cap a2 n2 cap2, e = .returned (.tuple #[.agg #[.slice a n cap, .slice a2 n2 cap2], .bool (fromOk m.uses l o)]) ∧ FcIs S w' (fromFc m.uses l o) (.agg #[.slice a n cap, .slice a2 n2 cap2]) ∧ Below W.heap.size W w') := fun W hW => by
    have hS' : ∀ b, S b → b < W.heap.size := fun b hb => Nat.lt_of_lt_of_le (hS b hb) hW.size
    refine (used_any S m l o vm v W hS' (hm.keep (Keeps.below hW hS)) (imSl_keep (Keeps.below hW hS) hv)).mono ?_
    rintro e w' ⟨a, n, cap, a2, n2, cap2, rfl, hf, hb⟩
    exact ⟨a, n, cap, a2, n2, cap2, rfl, hf.keep (Keeps.below hb hS'), hb⟩
  have HT : Hid (∀ W u, w.heap.size ≤ W.heap.size → FcIs S W (fromFc m.uses l o) u → Calls Tryz.prog 92 #[u, .string n] W fun e w' => e = .returned (.tuple #[.string (typeVal (fromFc m.uses l o) n), .int .i64 (typeErr (fromFc m.uses l o) n)]) ∧ Below W.heap.size W w') := fun W u hW hu =>
    type_any S _ n _ W (fun b hb => Nat.lt_of_lt_of_le (hS b hb) hW) hu hz'
  have HV : Hid (impVal m.uses l o n = if (fromOk m.uses l o && typeErr (fromFc m.uses l o) n == 0) = true then typeVal (fromFc m.uses l o) n else ⟨#[]⟩) := rfl
  have HE : Hid (impErr m.uses l o n = if (fromOk m.uses l o && typeErr (fromFc m.uses l o) n == 0) = true then 0 else 5) := rfl
  obtain ⟨vu, vt, vf, rfl, hu, ht, hf⟩ := hm
  obtain ⟨u1, u2, u3, rfl⟩ := hu.slice
  obtain ⟨t1, t2, t3, rfl⟩ := ht.slice
  obtain ⟨f1, f2, f3, rfl⟩ := hf.slice
  obtain ⟨a, k, cap, rfl⟩ := hv.slice
  clear hu ht hf hv hz hz'
  generalize fromFc m.uses l o = fc at *
  generalize fromOk m.uses l o = ok at *
  generalize impVal m.uses l o n = iv at *
  generalize impErr m.uses l o n = ie at *
  generalize typeVal fc n = tv at *
  generalize typeErr fc n = te at *
  have HA : Hid (Below w.heap.size w (w.alloc (.cells #[.slice u1 u2 u3, .slice t1 t2 t3, .slice f1 f2 f3] 26))) := (Below.refl _ _).alloc (Nat.le_refl _) _
  go_enter Tryz.func70, Tryz.ntmps70
  go_wp2_with fail
  refine (HC.out _ HA.out).mono ?_
  rintro e w3 ⟨b1, b2, b3, c1, c2, c3, rfl, hfc, hb3⟩
  have hb4 : Below w3.heap.size w3 (w3.alloc (.cells #[.slice b1 b2 b3, .slice c1 c2 c3] 31)) := (Below.refl _ _).alloc (Nat.le_refl _) _
  have hb3' := HA.out.trans (hb3.mono HA.out.size)
  have hS3 : ∀ b, S b → b < w3.heap.size := fun b hb => by have := hS b hb; have := hb3'.size; omega
  have HF4 := veil (hfc.keep (Keeps.below hb4 hS3))
  have HB4 := veil (hb3'.trans (hb4.mono hb3'.size))
  have p0 : (w3.alloc (.cells #[.slice b1 b2 b3, .slice c1 c2 c3] 31)).cell? ⟨w3.heap.size, 0, none⟩ = some (.slice b1 b2 b3) := by simp [go_sem]
  have p1 : (w3.alloc (.cells #[.slice b1 b2 b3, .slice c1 c2 c3] 31)).cell? ⟨w3.heap.size, 1, none⟩ = some (.slice c1 c2 c3) := by simp [go_sem]
  clear hb3 hb4 hb3' hfc hS3 HC HA
  cases ok with
  | false =>
    have HR1 : Hid (iv = ⟨#[]⟩) := HV.out.trans (if_neg (by simp))
    have HR2 : Hid (ie = 5) := HE.out.trans (if_neg (by simp))
    clear HV HE HT p0 p1
    go_wp2_with fail
    go_ret2
    exact ⟨by rw [HR1.out, HR2.out]; rfl, HB4.out⟩
  | true =>
    have HT2 := veil (HT.out _ _ HB4.out.size HF4.out)
    clear HT
    go_wp2_with fail
    refine HT2.out.mono ?_
    rintro e w5 ⟨rfl, hb5⟩
    have HB5 := veil (HB4.out.trans (hb5.mono HB4.out.size))
    clear hb5 p0 p1 HT2
    cases ht : (te == 0) with
    | true =>
      have HR1 : Hid (iv = tv) := HV.out.trans (if_pos (by rw [ht]; rfl))
      have HR2 : Hid (ie = 0) := HE.out.trans (if_pos (by rw [ht]; rfl))
      have ht' : (te != 0) = false := by simpa using ht
      clear HV HE ht
      go_wp2_with fail
      go_ret2
      exact ⟨by rw [HR1.out, HR2.out]; rfl, HB5.out⟩
    | false =>
      have HR1 : Hid (iv = ⟨#[]⟩) := HV.out.trans (if_neg (by rw [ht]; simp))
      have HR2 : Hid (ie = 5) := HE.out.trans (if_neg (by rw [ht]; simp))
      have ht' : (te != 0) = true := by simpa using ht
      clear HV HE ht
      go_wp2_with fail
      go_ret2
      exact ⟨by rw [HR1.out, HR2.out]; rfl, HB5.out⟩

end Go.Proofs.YtcpnfkeoajeodaaGreatDoor
