import Derived.Test.YtagbaimfigljiaaGreatDoorJCk12
import Derived.Test.YtagbaimfigljiaaGreatDoorJCk15
namespace Go.Proofs.YtagbaimfigljiaaGreatDoor
open Go.RowKit
set_option maxRecDepth 100000

def typeAt (f : Fc) (s : ByteArray) : Nat := findAt (fun k : Kn => sEq k.name s) f.types
def typeVal (f : Fc) (s : ByteArray) : ByteArray := ((f.types[typeAt f s]?).map Kn.is).getD ⟨#[]⟩
def typeErr (f : Fc) (s : ByteArray) : Int := if typeAt f s < f.types.length then 0 else 6

theorem type_yes {f : Fc} {s : ByteArray} {k : Nat} (hk : k < f.types.length) (h : typeAt f s = k) : typeVal f s = f.types[k].is ∧ typeErr f s = 0 := by
  unfold typeVal typeErr
  rw [h, List.getElem?_eq_getElem hk, if_pos hk]
  exact ⟨rfl, rfl⟩
theorem type_no {f : Fc} {s : ByteArray} (h : f.types.length ≤ typeAt f s) : typeVal f s = ⟨#[]⟩ ∧ typeErr f s = 6 := by
  unfold typeVal typeErr
  rw [List.getElem?_eq_none h, if_neg (by omega)]
  exact ⟨rfl, rfl⟩

set_option maxHeartbeats 2000000 in
theorem type_any (S : Nat → Prop) (f : Fc) (s : ByteArray) (v : Value) (w : World) (hS : ∀ b, S b → b < w.heap.size) (hv : FcIs S w f v) (hz : fcSmall f) :
    Calls Tryz.prog 26 #[v, .string s] w fun e w' => e = .returned (.tuple #[.string (typeVal f s), .int .i64 (typeErr f s)]) ∧ Below w.heap.size w w' := by
  have hr := reachBytes_lt
  obtain ⟨vt, vf, rfl, ht, hf⟩ := hv
  have HT := veil ht
  have hlen := ht.len
  unfold maxLen at hlen
  obtain ⟨a, cap, rfl⟩ := ht.is
  obtain ⟨a2, n2, cap2, rfl⟩ := hf.slice
  obtain ⟨w2, hwe, hs2, p0, p1, hbel⟩ : ∃ w2, (w.alloc (.cells #[.slice a f.types.length cap, .slice a2 n2 cap2] 30)).alloc (.cells #[.string s] 9) = w2 ∧ w2.heap.size = w.heap.size + 2 ∧
      w2.cell? ⟨w.heap.size, 0, none⟩ = some (.slice a f.types.length cap) ∧ w2.cell? ⟨w.heap.size + 1, 0, none⟩ = some (.string s) ∧ Below w.heap.size w w2 :=
    ⟨_, rfl, by simp, by simp [go_sem], by simp [go_sem], ((Below.refl _ _).alloc (Nat.le_refl _) _).alloc (by simp) _⟩
  have HC : Hid (Calls Tryz.prog 65 #[.slice a f.types.length cap, .func (.func 66) #[] #[.pointer (some ⟨w.heap.size + 1, 0, none⟩)]] w2 fun e w' => e = .returned (.int .i64 (idxOf (fun k : Kn => sEq k.name s) f.types)) ∧ Below w2.heap.size w2 w') :=
    index_kn S _ _ _ _ w2 (fun b hb => Nat.lt_of_lt_of_le (hS b hb) hbel.size) (knSl_keep (Keeps.below hbel hS) ht) p1
  have HWe := veil hwe
  have HBel := veil hbel
  clear ht hf hwe hbel p1
  by_cases hat : typeAt f s < f.types.length
  · obtain ⟨_, b, off, rfl, hb, ⟨_, _⟩, a1, _⟩ := HT.out.at hat
    have hbk := hS b hb
    have hI : idxOf (fun k : Kn => sEq k.name s) f.types = (typeAt f s : Int) := if_pos hat
    have HR := veil (type_yes hat rfl)
    have HCl : Hid (∀ W, Calls Tryz.prog 67 #[.string f.types[typeAt f s].is] W fun e w' => e = .returned (.string f.types[typeAt f s].is) ∧ Below W.heap.size W w') := fun W => clone_kind _ W (by have := (hz.1.2 _ (List.getElem_mem hat)).2; omega)
    have HA1 := veil a1
    clear hz a1 HT
    rw [hI] at HC
    generalize f.types[typeAt f s].is = y at *
    generalize typeAt f s = k at *
    have hk' : (k : Int) < (f.types.length : Int) := by omega
    have hk0 : ¬ (k : Int) < 0 := by omega
    have hk1 : (0 : Int) ≤ (k : Int) := by omega
    clear hI
    go_enter Tryz.func26, Tryz.ntmps26
    go_wp2_with fail
    rw [HWe.out]
    refine HC.out.mono ?_
    rintro e w3 ⟨rfl, hb3⟩
    have c0 := (hb3.cell (p := ⟨w.heap.size, 0, none⟩) (by show w.heap.size < _; omega)).trans p0
    have hb4 := HBel.out.trans (hb3.mono HBel.out.size)
    have d1 := (hb4.cell (p := ⟨b, off + k * 2 + 1, none⟩) hbk).trans HA1.out
    have HB4 := veil hb4
    clear hb3 hb4 p0
    go_wp2_with fail
    refine (HCl.out _).mono ?_
    rintro e w5 ⟨rfl, hb5⟩
    have HB5 := veil (HB4.out.trans (hb5.mono HB4.out.size))
    clear hb5
    go_wp2_with fail
    go_ret2
    exact ⟨by rw [HR.out.1, HR.out.2]; rfl, HB5.out⟩
  · have hI : idxOf (fun k : Kn => sEq k.name s) f.types = -1 := if_neg hat
    have HR := veil (type_no (f := f) (s := s) (by omega))
    clear hz HT
    rw [hI] at HC
    clear hI hat
    go_enter Tryz.func26, Tryz.ntmps26
    go_wp2_with fail
    rw [HWe.out]
    refine HC.out.mono ?_
    rintro e w3 ⟨rfl, hb3⟩
    have HB4 := veil (HBel.out.trans (hb3.mono HBel.out.size))
    clear hb3 p0
    go_wp2_with fail
    go_ret2
    exact ⟨by rw [HR.out.1, HR.out.2]; rfl, HB4.out⟩

end Go.Proofs.YtagbaimfigljiaaGreatDoor
namespace Go.Proofs.YtagbaimfigljiaaGreatDoor
open Go.RowKit
set_option maxRecDepth 100000

theorem namedIs_any (B : Nat) (x s : ByteArray) (k : Int) (f n : ByteArray) (a : Option Addr) (m cap : Nat) (w : World) (hp : w.cell? ⟨B, 0, none⟩ = some (.string s)) :
    Calls Tryz.prog 279 #[.agg #[.string x, .int .i64 k, .string f, .string n, .slice a m cap], .pointer (some ⟨B, 0, none⟩)] w fun e w' => e = .returned (.bool (sEq x s)) ∧ Below w.heap.size w w' := by
  have hlt : B < w.heap.size := World.block_lt_of_cell? _ _ hp
  have HE : Hid (sEq x s = (x.toList == s.toList)) := rfl
  go_enter Tryz.func279, Tryz.ntmps279
  go_wp2
  go_ret
  exact ⟨by rw [HE.out]; rfl, (Below.refl _ _).alloc (Nat.le_refl _) _⟩

theorem fd_cells {S : Nat → Prop} {w : World} {x : Fd} {b o : Nat} (h : FdAt S w x b o) : ∃ k f n a m cap, w.cell? ⟨b, o, none⟩ = some (.string x.name) ∧ w.cell? ⟨b, o + 1, none⟩ = some (.int .i64 k) ∧ w.cell? ⟨b, o + 2, none⟩ = some (.string f) ∧ w.cell? ⟨b, o + 3, none⟩ = some (.string n) ∧ w.cell? ⟨b, o + 4, none⟩ = some (.slice a m cap) ∧ TyCs S w x.is k f n (.slice a m cap) := by
  obtain ⟨⟨h0, _⟩, h1⟩ := h
  obtain ⟨k, f, n, va, c0, c1, c2, c3, hc⟩ := tyAt_cells.1 h1
  obtain ⟨a, m, cap, rfl⟩ : ∃ a m cap, va = .slice a m cap := by
    obtain ⟨_, _, _, _, hs⟩ := hc
    exact SlAt.slice hs
  exact ⟨k, f, n, a, m, cap, h0, c0, c1, c2, c3, hc⟩

set_option maxHeartbeats 2000000 in
theorem index_fd (S : Nat → Prop) (l : List Fd) (s : ByteArray) (B : Nat) (v : Value) (w : World) (hS : ∀ b, S b → b < w.heap.size) (hv : SlAt S (FdAt S w) 5 l v) (hp : w.cell? ⟨B, 0, none⟩ = some (.string s)) :
    Calls Tryz.prog 278 #[v, .func (.func 279) #[] #[.pointer (some ⟨B, 0, none⟩)]] w fun e w' => e = .returned (.int .i64 (idxOf (fun k : Fd => sEq k.name s) l)) ∧ Below w.heap.size w w' := by
  have HV := veil hv
  have hlen := hv.len
  unfold maxLen at hlen
  obtain ⟨a, cap, rfl⟩ := hv.is
  have HP := veil hp
  have HBl := veil (World.block_lt_of_cell? _ _ hp)
  clear hv hp
  go_enter Tryz.func278, Tryz.ntmps278
  go_wp2_with fail
  go_loopw [8] (fun i wr => ∃ j : Nat, j ≤ l.length ∧ i = .int .i64 j ∧ findAt (fun k : Fd => sEq k.name s) l = j + findAt (fun k : Fd => sEq k.name s) (l.drop j) ∧ Below w.heap.size w wr) (fun i _ => l.length - (intOf i).toNat)
  case atStart => exact ⟨0, Nat.zero_le _, rfl, (Nat.zero_add _).symm, Below.refl _ _⟩
  case round =>
    obtain ⟨j, hj, rfl, hq, hbl⟩ := hrel
    have HQ := veil hq
    have HBW := veil hbl
    clear hq
    by_cases hlt : j < l.length
    · have hlt' : (j : Int) < (l.length : Int) := by omega
      obtain ⟨_, b, off, rfl, hb, hat⟩ := HV.out.at hlt
      have hbk := hS b hb
      obtain ⟨kd, fo, na, p1, p2, p3, a0, a1, a2, a3, a4, _⟩ := fd_cells hat
      have d0 := (hbl.cell (p := ⟨b, off + j * 5, none⟩) hbk).trans a0
      have d1 := (hbl.cell (p := ⟨b, off + j * 5 + 1, none⟩) hbk).trans a1
      have d2 := (hbl.cell (p := ⟨b, off + j * 5 + 2, none⟩) hbk).trans a2
      have d3 := (hbl.cell (p := ⟨b, off + j * 5 + 3, none⟩) hbk).trans a3
      have d4 := (hbl.cell (p := ⟨b, off + j * 5 + 4, none⟩) hbk).trans a4
      have HC : Hid (Calls Tryz.prog 279 #[.agg #[.string l[j].name, .int .i64 kd, .string fo, .string na, .slice p1 p2 p3], .pointer (some ⟨B, 0, none⟩)] wr fun e w' => e = .returned (.bool (sEq l[j].name s)) ∧ Below wr.heap.size wr w') := namedIs_any B _ s _ _ _ _ _ _ wr ((hbl.cell HBl.out).trans HP.out)
      have HYes : Hid (sEq l[j].name s = true → findAt (fun k : Fd => sEq k.name s) l = j) := fun h => by
        rw [HQ.out, find_yes hlt h]; rfl
      have HNo : Hid (sEq l[j].name s = false → findAt (fun k : Fd => sEq k.name s) l = (j + 1) + findAt (fun k : Fd => sEq k.name s) (l.drop (j + 1))) := fun h => by
        rw [HQ.out, find_no hlt h]; omega
      clear a0 a1 a2 a3 a4 hat HV hbl HQ
      generalize l[j].name = x at *
      cases hx : sEq x s with
      | true =>
        rw [hx] at HC
        have HI : Hid (idxOf (fun k : Fd => sEq k.name s) l = (j : Int)) := by
          show _ = _
          unfold idxOf
          rw [HYes.out hx, if_pos hlt]
        clear HYes HNo hx
        go_wp2_with fail
        refine HC.out.mono ?_
        rintro e w1 ⟨rfl, hb1⟩
        have HB1 := veil (HBW.out.trans (hb1.mono HBW.out.size))
        clear hb1
        go_wp2_with fail
        go_ret
        exact ⟨by rw [HI.out]; rfl, HB1.out⟩
      | false =>
        rw [hx] at HC
        have HN := veil (HNo.out hx)
        clear HYes HNo hx
        go_wp2_with fail
        refine HC.out.mono ?_
        rintro e w1 ⟨rfl, hb1⟩
        have HB1 := veil (HBW.out.trans (hb1.mono HBW.out.size))
        clear hb1
        go_wp2_with fail
        exact ⟨⟨j + 1, by omega, by go_num, HN.out, HB1.out⟩, by simp [intOf]; omega⟩
    · have hnl : ¬ (j : Int) < (l.length : Int) := by omega
      have HI : Hid (idxOf (fun k : Fd => sEq k.name s) l = -1) := by
        show _ = _
        unfold idxOf
        rw [HQ.out, find_end (by omega), if_neg (by omega)]
      clear HV hbl HQ
      go_wp2_with fail
      go_ret
      exact ⟨by rw [HI.out]; rfl, HBW.out⟩


def ownAt (m : Mo) (s : ByteArray) : Nat := findAt (fun f : Fd => sEq f.name s) m.types

theorem named_any (S : Nat → Prop) (l : List Fd) (s : ByteArray) (v : Value) (w : World) (hS : ∀ b, S b → b < w.heap.size) (hv : SlAt S (FdAt S w) 5 l v) :
    Calls Tryz.prog 217 #[v, .string s] w fun e w' => e = .returned (.int .i64 (idxOf (fun k : Fd => sEq k.name s) l)) ∧ Below w.heap.size w w' := by
  obtain ⟨w2, hwe, hs2, p1, hbel⟩ : ∃ w2, w.alloc (.cells #[.string s] 9) = w2 ∧ w2.heap.size = w.heap.size + 1 ∧ w2.cell? ⟨w.heap.size, 0, none⟩ = some (.string s) ∧ Below w.heap.size w w2 :=
    ⟨_, rfl, by simp, by simp [go_sem], (Below.refl _ _).alloc (Nat.le_refl _) _⟩
  have HC : Hid (Calls Tryz.prog 278 #[v, .func (.func 279) #[] #[.pointer (some ⟨w.heap.size, 0, none⟩)]] w2 fun e w' => e = .returned (.int .i64 (idxOf (fun k : Fd => sEq k.name s) l)) ∧ Below w2.heap.size w2 w') :=
    index_fd S _ _ _ _ w2 (fun b hb => Nat.lt_of_lt_of_le (hS b hb) hbel.size) (fdSl_keep (Keeps.below hbel hS) hv) p1
  obtain ⟨a, n, cap, rfl⟩ := hv.slice
  have HWe := veil hwe
  have HBel := veil hbel
  clear hv hwe hbel p1
  go_enter Tryz.func217, Tryz.ntmps217
  go_wp2_with fail
  rw [HWe.out]
  refine HC.out.mono ?_
  rintro e w3 ⟨rfl, hb3⟩
  have HB := veil (HBel.out.trans (hb3.mono HBel.out.size))
  clear hb3
  go_wp2_with fail
  go_ret
  exact ⟨rfl, HB.out⟩

def impVal (u : List ByteArray) (l : List Im) (o n : ByteArray) : ByteArray := if (fromOk u l o && typeErr (fromFc u l o) n == 0) = true then typeVal (fromFc u l o) n else ⟨#[]⟩
def impErr (u : List ByteArray) (l : List Im) (o n : ByteArray) : Int := if (fromOk u l o && typeErr (fromFc u l o) n == 0) = true then 0 else 5

set_option maxHeartbeats 2000000 in
theorem imported_any (S : Nat → Prop) (m : Mo) (l : List Im) (o n : ByteArray) (vm v : Value) (w : World) (hS : ∀ b, S b → b < w.heap.size) (hm : MoIs S w m vm) (hv : SlAt S (ImAt S w) 4 l v) (hz : ∀ i ∈ l, fcSmall i.face) :
    Calls Tryz.prog 291 #[vm, v, .string o, .string n] w fun e w' => e = .returned (.tuple #[.string (impVal m.uses l o n), .int .i64 (impErr m.uses l o n)]) ∧ Below w.heap.size w w' := by
  have hz' := from_small (u := m.uses) o hz
  have HC : Hid (∀ W, Below w.heap.size w W → Calls Tryz.prog 235 #[vm, v, .string o] W fun e w' => ∃ a n cap a2 n2 cap2, e = .returned (.tuple #[.agg #[.slice a n cap, .slice a2 n2 cap2], .bool (fromOk m.uses l o)]) ∧ FcIs S w' (fromFc m.uses l o) (.agg #[.slice a n cap, .slice a2 n2 cap2]) ∧ Below W.heap.size W w') := fun W hW => by
    have hS' : ∀ b, S b → b < W.heap.size := fun b hb => Nat.lt_of_lt_of_le (hS b hb) hW.size
    refine (used_any S m l o vm v W hS' (hm.keep (Keeps.below hW hS)) (imSl_keep (Keeps.below hW hS) hv)).mono ?_
    rintro e w' ⟨a, n, cap, a2, n2, cap2, rfl, hf, hb⟩
    exact ⟨a, n, cap, a2, n2, cap2, rfl, hf.keep (Keeps.below hb hS'), hb⟩
  have HT : Hid (∀ W u, w.heap.size ≤ W.heap.size → FcIs S W (fromFc m.uses l o) u → Calls Tryz.prog 26 #[u, .string n] W fun e w' => e = .returned (.tuple #[.string (typeVal (fromFc m.uses l o) n), .int .i64 (typeErr (fromFc m.uses l o) n)]) ∧ Below W.heap.size W w') := fun W u hW hu =>
    type_any S _ n _ W (fun b hb => Nat.lt_of_lt_of_le (hS b hb) hW) hu hz'
  have HV : Hid (impVal m.uses l o n = if (fromOk m.uses l o && typeErr (fromFc m.uses l o) n == 0) = true then typeVal (fromFc m.uses l o) n else ⟨#[]⟩) := rfl
  have HE : Hid (impErr m.uses l o n = if (fromOk m.uses l o && typeErr (fromFc m.uses l o) n == 0) = true then 0 else 5) := rfl
  obtain ⟨vu, vt, vf, rfl, hu, ht, hf⟩ := hm
  obtain ⟨u1, u2, u3, rfl⟩ := hu.slice
  obtain ⟨t1, t2, t3, rfl⟩ := ht.slice
  obtain ⟨f1, f2, f3, rfl⟩ := hf.slice
  obtain ⟨a, k, cap, rfl⟩ := hv.slice
  clear hu ht hf hv hz hz'
  generalize fromFc m.uses l o = fc at *
  generalize fromOk m.uses l o = ok at *
  generalize impVal m.uses l o n = iv at *
  generalize impErr m.uses l o n = ie at *
  generalize typeVal fc n = tv at *
  generalize typeErr fc n = te at *
  have HA : Hid (Below w.heap.size w (w.alloc (.cells #[.slice u1 u2 u3, .slice t1 t2 t3, .slice f1 f2 f3] 44))) := (Below.refl _ _).alloc (Nat.le_refl _) _
  go_enter Tryz.func291, Tryz.ntmps291
  go_wp2_with fail
  refine (HC.out _ HA.out).mono ?_
  rintro e w3 ⟨b1, b2, b3, c1, c2, c3, rfl, hfc, hb3⟩
  have hb4 : Below w3.heap.size w3 (w3.alloc (.cells #[.slice b1 b2 b3, .slice c1 c2 c3] 30)) := (Below.refl _ _).alloc (Nat.le_refl _) _
  have hb3' := HA.out.trans (hb3.mono HA.out.size)
  have hS3 : ∀ b, S b → b < w3.heap.size := fun b hb => by have := hS b hb; have := hb3'.size; omega
  have HF4 := veil (hfc.keep (Keeps.below hb4 hS3))
  have HB4 := veil (hb3'.trans (hb4.mono hb3'.size))
  have p0 : (w3.alloc (.cells #[.slice b1 b2 b3, .slice c1 c2 c3] 30)).cell? ⟨w3.heap.size, 0, none⟩ = some (.slice b1 b2 b3) := by simp [go_sem]
  have p1 : (w3.alloc (.cells #[.slice b1 b2 b3, .slice c1 c2 c3] 30)).cell? ⟨w3.heap.size, 1, none⟩ = some (.slice c1 c2 c3) := by simp [go_sem]
  clear hb3 hb4 hb3' hfc hS3 HC HA
  cases ok with
  | false =>
    have HR1 : Hid (iv = ⟨#[]⟩) := HV.out.trans (if_neg (by simp))
    have HR2 : Hid (ie = 5) := HE.out.trans (if_neg (by simp))
    clear HV HE HT p0 p1
    go_wp2_with fail
    go_ret2
    exact ⟨by rw [HR1.out, HR2.out]; rfl, HB4.out⟩
  | true =>
    have HT2 := veil (HT.out _ _ HB4.out.size HF4.out)
    clear HT
    go_wp2_with fail
    refine HT2.out.mono ?_
    rintro e w5 ⟨rfl, hb5⟩
    have HB5 := veil (HB4.out.trans (hb5.mono HB4.out.size))
    clear hb5 p0 p1 HT2
    cases ht : (te == 0) with
    | true =>
      have HR1 : Hid (iv = tv) := HV.out.trans (if_pos (by rw [ht]; rfl))
      have HR2 : Hid (ie = 0) := HE.out.trans (if_pos (by rw [ht]; rfl))
      have ht' : (te != 0) = false := by simpa using ht
      clear HV HE ht
      go_wp2_with fail
      go_ret2
      exact ⟨by rw [HR1.out, HR2.out]; rfl, HB5.out⟩
    | false =>
      have HR1 : Hid (iv = ⟨#[]⟩) := HV.out.trans (if_neg (by rw [ht]; simp))
      have HR2 : Hid (ie = 5) := HE.out.trans (if_neg (by rw [ht]; simp))
      have ht' : (te != 0) = true := by simpa using ht
      clear HV HE ht
      go_wp2_with fail
      go_ret2
      exact ⟨by rw [HR1.out, HR2.out]; rfl, HB5.out⟩

end Go.Proofs.YtagbaimfigljiaaGreatDoor
namespace Go.Proofs.YtagbaimfigljiaaGreatDoor
open Go.RowKit
set_option maxRecDepth 100000

abbrev Sol := ByteArray × Int
def intK : ByteArray := ⟨#[105, 110, 116]⟩
def textK : ByteArray := ⟨#[116, 101, 120, 116]⟩
def starK : ByteArray := ⟨#[42]⟩
def noneS : ByteArray := ⟨#[]⟩

def listR (r : Sol) : Sol := if r.2 = 0 then (if listErr r.1 = 0 then (wrapK r.1, 0) else (noneS, 5)) else (noneS, r.2)
def solveP (ρ : ByteArray → ByteArray → Sol) : Nat → Ty → Sol
  | 0, _ => (noneS, 5)
  | d + 1, .mk k o n xs => if k = 1 then (intK, 0) else if k = 2 then (textK, 0) else if k = 3 then (match xs with
    | [] => (noneS, 5)
    | t :: _ => listR (solveP ρ d t)) else ρ o n

def impR (u : List ByteArray) (l : List Im) (o n : ByteArray) : Sol := (impVal u l o n, impErr u l o n)

/-- by places: which ones were met. -/
def findR (m : Mo) (l : List Im) : Nat → List Nat → ByteArray → ByteArray → Sol
  | 0, _, o, n => if o.toList.isEmpty = true then (if ownAt m n < m.types.length then (noneS, 2) else (noneS, 5)) else impR m.uses l o n
  | u + 1, met, o, n => if o.toList.isEmpty = true then (match m.types[ownAt m n]? with
    | some f => if met.contains (ownAt m n) = true then (noneS, 2) else solveP (findR m l u (ownAt m n :: met)) 10 f.is
    | none => (noneS, 5)) else impR m.uses l o n

/-- by names: under which ones it is solved. -/
def refR (m : Mo) (l : List Im) : Nat → ByteArray → List ByteArray → ByteArray → ByteArray → Sol
  | 0, v, _, o, n => if o.toList.isEmpty = true then (if (!v.toList.isEmpty && sEq n v) = true then (starK, 0) else if ownAt m n < m.types.length then (noneS, 2) else (noneS, 5)) else impR m.uses l o n
  | u + 1, v, under, o, n => if o.toList.isEmpty = true then (if (!v.toList.isEmpty && sEq n v) = true then (starK, 0) else match m.types[ownAt m n]? with
    | some f => if hasS under n = true then (noneS, 2) else solveP (refR m l u noneS (under ++ [n])) 10 f.is
    | none => (noneS, 5)) else impR m.uses l o n

/-! ### A name's place tells the name -/

theorem find_at {α : Type} {p : α → Bool} : ∀ {l : List α} (h : findAt p l < l.length), p l[findAt p l] = true
  | [], h => by simp [findAt] at h
  | x :: r, h => by
    by_cases hp : p x = true
    · have e : findAt p (x :: r) = 0 := by rw [findAt, if_pos hp]
      simp only [e, List.getElem_cons_zero]
      exact hp
    · have e : findAt p (x :: r) = findAt p r + 1 := by rw [findAt, if_neg hp]
      have h' : findAt p r < r.length := by rw [e] at h; simpa using h
      simp only [e, List.getElem_cons_succ]
      exact find_at h'

theorem own_name {m : Mo} {n : ByteArray} (h : ownAt m n < m.types.length) : m.types[ownAt m n].name = n := sEq_eq (find_at h)

theorem own_inj {m : Mo} {n n' : ByteArray} (h : ownAt m n < m.types.length) (e : ownAt m n = ownAt m n') : n = n' := by
  have h1 := own_name h
  have h' : ownAt m n' < m.types.length := by rw [← e]; exact h
  have h2 := own_name h'
  rw [← h1, ← h2]
  congr 2

theorem hasS_mem {l : List ByteArray} {s : ByteArray} : hasS l s = true ↔ s ∈ l := by
  unfold hasS
  rw [decide_eq_true_iff]
  constructor
  · intro h
    have := find_at h
    rw [← sEq_eq this]
    exact List.getElem_mem h
  · intro h
    induction l with
    | nil => cases h
    | cons x r ih =>
      by_cases hx : sEq x s = true
      · rw [findAt, if_pos hx]; simp
      · rw [findAt, if_neg hx]
        rcases List.mem_cons.1 h with rfl | h
        · exact absurd (sEq_refl s) hx
        · have := ih h
          simp; exact this

/-- the places of the names. -/
def Meets (m : Mo) (under : List ByteArray) (met : List Nat) : Prop := ∀ n, ownAt m n < m.types.length → (met.contains (ownAt m n) = hasS under n)

theorem Meets.start (m : Mo) : Meets m [] [] := fun n _ => by simp [hasS, findAt]
theorem Meets.next {m : Mo} {under : List ByteArray} {met : List Nat} (h : Meets m under met) {n : ByteArray} (hn : ownAt m n < m.types.length) : Meets m (under ++ [n]) (ownAt m n :: met) := fun n' h' => by
  rw [Bool.eq_iff_iff, hasS_mem, List.mem_append, List.mem_singleton, ← hasS_mem, ← h n' h', List.contains_cons, Bool.or_eq_true, beq_iff_eq]
  constructor
  · rintro (e | e)
    · exact Or.inr (own_inj h' e)
    · exact Or.inl e
  · rintro (e | rfl)
    · exact Or.inr e
    · exact Or.inl rfl

theorem solveP_congr {ρ ρ' : ByteArray → ByteArray → Sol} (h : ∀ o n, ρ o n = ρ' o n) : ∀ (d : Nat) (t : Ty), solveP ρ d t = solveP ρ' d t := by
  have : ρ = ρ' := funext fun o => funext fun n => h o n
  intro d t
  rw [this]

/-- by places or by names: the same. -/
theorem find_ref (m : Mo) (l : List Im) : ∀ (u : Nat) (under : List ByteArray) (met : List Nat), Meets m under met → ∀ o n, findR m l u met o n = refR m l u noneS under o n
  | 0, under, met, _, o, n => by
    unfold findR refR
    rw [if_neg (c := (!noneS.toList.isEmpty && sEq n noneS) = true) (by simp [noneS])]
  | u + 1, under, met, hm, o, n => by
    unfold findR refR
    rw [if_neg (c := (!noneS.toList.isEmpty && sEq n noneS) = true) (by simp [noneS])]
    by_cases ho : o.toList.isEmpty = true
    · rw [if_pos ho, if_pos ho]
      by_cases hat : ownAt m n < m.types.length
      · rw [List.getElem?_eq_getElem hat]
        simp only
        rw [hm n hat]
        by_cases hh : hasS under n = true
        · rw [if_pos hh, if_pos hh]
        · rw [if_neg hh, if_neg hh]
          exact solveP_congr (fun o' n' => find_ref m l u _ _ (hm.next hat) o' n') 10 _
      · rw [List.getElem?_eq_none (by omega)]
    · rw [if_neg ho, if_neg ho]

end Go.Proofs.YtagbaimfigljiaaGreatDoor
namespace Go.Proofs.YtagbaimfigljiaaGreatDoor
open Go.RowKit
set_option maxRecDepth 100000

def fnd (mB lB tB fB : Nat) : Value := .func (.func 290) #[] #[.pointer (some ⟨mB, 0, none⟩), .pointer (some ⟨lB, 0, none⟩), .pointer (some ⟨tB, 0, none⟩), .pointer (some ⟨fB, 0, none⟩)]

/-- what the finder's closure holds: the module, the imports, which types were met, and itself. -/
structure SEnv (w0 : World) (mB lB tB fB aB : Nat) (x y z lv : Value) (n : Nat) (met : List Nat) (W : World) : Prop where
  below : Below w0.heap.size w0 W
  m0 : W.cell? ⟨mB, 0, none⟩ = some x
  m1 : W.cell? ⟨mB, 1, none⟩ = some y
  m2 : W.cell? ⟨mB, 2, none⟩ = some z
  lc : W.cell? ⟨lB, 0, none⟩ = some lv
  tc : W.cell? ⟨tB, 0, none⟩ = some (.slice (some ⟨aB, 0, none⟩) n n)
  fc : W.cell? ⟨fB, 0, none⟩ = some (fnd mB lB tB fB)
  arr : ∀ i, i < n → W.cell? ⟨aB, i, none⟩ = some (.bool (met.contains i)) ∧ W.frozen? ⟨aB, i, none⟩ = false
  low : w0.heap.size ≤ aB
  ne : aB ≠ mB ∧ aB ≠ lB ∧ aB ≠ tB ∧ aB ≠ fB

theorem SEnv.keep {w0 : World} {mB lB tB fB aB : Nat} {x y z lv : Value} {n : Nat} {met : List Nat} {W W' : World} (h : SEnv w0 mB lB tB fB aB x y z lv n met W) (hb : Below W.heap.size W W') : SEnv w0 mB lB tB fB aB x y z lv n met W' := by
  have hk : ∀ (a : Addr) (v : Value), W.cell? a = some v → W'.cell? a = some v := fun a v hv => (hb.cell (World.block_lt_of_cell? _ _ hv)).trans hv
  refine ⟨h.below.trans (hb.mono h.below.size), hk _ _ h.m0, hk _ _ h.m1, hk _ _ h.m2, hk _ _ h.lc, hk _ _ h.tc, hk _ _ h.fc, fun i hi => ?_, h.low, h.ne⟩
  obtain ⟨h1, h2⟩ := h.arr i hi
  exact ⟨hk _ _ h1, (hb.frozen (World.block_lt_of_cell? _ _ h1)).trans h2⟩

theorem SEnv.meet {w0 : World} {mB lB tB fB aB : Nat} {x y z lv : Value} {n : Nat} {met : List Nat} {W : World} (h : SEnv w0 mB lB tB fB aB x y z lv n met W) {k : Nat} (hk : k < n) : SEnv w0 mB lB tB fB aB x y z lv n (k :: met) (W.setCell ⟨aB, k, none⟩ (.bool true)) := by
  obtain ⟨n1, n2, n3, n4⟩ := h.ne
  refine ⟨h.below.setCell h.low _, ?_, ?_, ?_, ?_, ?_, ?_, fun i hi => ⟨?_, ?_⟩, h.low, h.ne⟩
  · rw [World.cell?_setCell_far _ _ _ _ n1]; exact h.m0
  · rw [World.cell?_setCell_far _ _ _ _ n1]; exact h.m1
  · rw [World.cell?_setCell_far _ _ _ _ n1]; exact h.m2
  · rw [World.cell?_setCell_far _ _ _ _ n2]; exact h.lc
  · rw [World.cell?_setCell_far _ _ _ _ n3]; exact h.tc
  · rw [World.cell?_setCell_far _ _ _ _ n4]; exact h.fc
  · obtain ⟨h1, h2⟩ := h.arr i hi
    obtain ⟨h3, _⟩ := h.arr k hk
    by_cases hik : i = k
    · subst hik
      rw [World.cell?_setCell_same (h := h3)]
      simp
    · rw [World.cell?_setCell_other (h := by intro e; injection e with _ e; exact hik e.symm), h1]
      simp [hik]
  · obtain ⟨_, h2⟩ := h.arr i hi
    rw [World.frozen?_setCell]; exact h2

/-- what a call answers that tells a kind. -/
def Tells (w0 : World) (r : Sol) (e : Ending) (w' : World) : Prop := e = .returned (.tuple #[.string r.1, .int .i64 r.2]) ∧ Below w0.heap.size w0 w'

theorem solveP_size {ρ : ByteArray → ByteArray → Sol} (h : ∀ o n, (ρ o n).1.size ≤ maxLen) : ∀ (d : Nat) (t : Ty), (solveP ρ d t).1.size ≤ maxLen
  | 0, _ => Nat.zero_le _
  | d + 1, .mk k o n xs => by
    unfold solveP
    split
    · decide
    · split
      · decide
      · split
        · cases xs with
          | nil => exact Nat.zero_le _
          | cons t r =>
            show (listR (solveP ρ d t)).1.size ≤ _
            unfold listR
            split
            · split
              · rename_i hl
                obtain ⟨_, h5⟩ := listErr_ok hl
                have : (wrapK (solveP ρ d t).1).size = (solveP ρ d t).1.size + 2 := by
                  simp [wrapK]
                  show 1 + _ + 1 = _
                  omega
                show (wrapK (solveP ρ d t).1).size ≤ _
                rw [this]; unfold maxLen; omega
              · exact Nat.zero_le _
            · exact Nat.zero_le _
        · exact h o n

end Go.Proofs.YtagbaimfigljiaaGreatDoor
namespace Go.Proofs.YtagbaimfigljiaaGreatDoor
open Go.RowKit
set_option maxRecDepth 100000

/-- a type that may be: how it is. -/
theorem ty_parts {k : Int} {o n : ByteArray} {xs : List Ty} {dd : Nat} (h : tyFault (.mk k o n xs) dd = 0) : dd ≤ 10 ∧ (1 ≤ k ∧ k ≤ 4) ∧ (k = 3 → ∃ t, xs = [t] ∧ tyFault t (dd + 1) = 0) ∧ (k = 4 → identOk n = true) := by
  rw [tyFault] at h
  by_cases h1 : 10 < dd
  · rw [if_pos h1] at h; exact absurd h (by decide)
  · rw [if_neg h1] at h
    by_cases h2 : isIn k 1 4 = false
    · rw [if_pos h2] at h; exact absurd h (by decide)
    · rw [if_neg h2] at h
      by_cases h3 : tyFits k o n xs.length = false
      · rw [if_pos h3] at h; exact absurd h (by decide)
      · rw [if_neg h3] at h
        have hk : 1 ≤ k ∧ k ≤ 4 := by simpa [isIn] using h2
        refine ⟨by omega, hk, fun e => ?_, fun e => ?_⟩
        · subst e
          simp [tyFits] at h3
          obtain ⟨t, rfl⟩ := List.length_eq_one_iff.1 h3.1
          refine ⟨t, rfl, ?_⟩
          rw [tysFault] at h
          by_cases h4 : tyFault t (dd + 1) = 0
          · exact h4
          · rw [if_neg h4] at h; exact h
        · subst e
          simp [tyFits] at h3
          exact h3.2.1

set_option maxHeartbeats 2000000 in
theorem solveList_A (w0 : World) (S : Nat → Prop) (hS : ∀ b, S b → b < w0.heap.size) (ρ : ByteArray → ByteArray → Sol) (hρ : ∀ o n, (ρ o n).1.size ≤ maxLen) (Env : World → Prop) (hE0 : ∀ W, Env W → Below w0.heap.size w0 W) (hEk : ∀ W W', Env W → Below W.heap.size W W' → Env W') (mB lB tB fB : Nat) (d : Nat) (HRec : Hid (∀ (t : Ty) (dd : Nat) (v : Value) (W : World), tyFault t dd = 0 → 11 ≤ dd + d → Env W → TyIs S W t v → Calls Tryz.prog 223 #[v, .func (.func 290) #[] #[.pointer (some ⟨mB, 0, none⟩), .pointer (some ⟨lB, 0, none⟩), .pointer (some ⟨tB, 0, none⟩), .pointer (some ⟨fB, 0, none⟩)]] W (Tells w0 (solveP ρ d t)))) (t : Ty) (dd : Nat) (o n : ByteArray) (v : Value) (W : World) (ht : tyFault t (dd + 1) = 0) (hd : 11 ≤ dd + 1 + d) (hW : Env W) (hv : TyIs S W (.mk 3 o n [t]) v) :
    Calls Tryz.prog 292 #[v, .func (.func 290) #[] #[.pointer (some ⟨mB, 0, none⟩), .pointer (some ⟨lB, 0, none⟩), .pointer (some ⟨tB, 0, none⟩), .pointer (some ⟨fB, 0, none⟩)]] W (Tells w0 (listR (solveP ρ d t))) := by
  obtain ⟨k, f, x, va, rfl, xs, e, _, _, hsl⟩ := hv
  injection e with e1 e2 e3 e4
  subst e1 e2 e3 e4
  obtain ⟨a, cap, rfl⟩ := hsl.is
  obtain ⟨_, b, off, rfl, hb, hat⟩ := hsl.at (k := 0) (by simp)
  simp only [List.getElem_cons_zero, Nat.zero_mul, Nat.add_zero] at hat
  obtain ⟨k1, f1, x1, va1, q0, q1, q2, q3, hcs1⟩ := tyAt_cells.1 hat
  obtain ⟨a1, m1, c1, rfl⟩ : ∃ a1 m1 c1, va1 = .slice a1 m1 c1 := by
    obtain ⟨_, _, _, _, hs⟩ := hcs1
    exact SlAt.slice hs
  have hSW : ∀ b, S b → b < W.heap.size := fun b hb => Nat.lt_of_lt_of_le (hS b hb) (hE0 W hW).size
  have hbW := hSW b hb
  obtain ⟨w2, rfl, p3, hbel⟩ : ∃ w2, w2 = W.alloc (.cells #[.int .i64 3, .string o, .string n, .slice (some ⟨b, off, none⟩) 1 cap] 84) ∧ w2.cell? ⟨W.heap.size, 3, none⟩ = some (.slice (some ⟨b, off, none⟩) 1 cap) ∧ Below W.heap.size W w2 :=
    ⟨_, rfl, by simp [go_sem], (Below.refl _ _).alloc (Nat.le_refl _) _⟩
  have d0 := (hbel.cell (p := ⟨b, off, none⟩) hbW).trans q0
  have d1 := (hbel.cell (p := ⟨b, off + 1, none⟩) hbW).trans q1
  have d2 := (hbel.cell (p := ⟨b, off + 2, none⟩) hbW).trans q2
  have d3 := (hbel.cell (p := ⟨b, off + 3, none⟩) hbW).trans q3
  have HR := veil (HRec.out t (dd + 1) (.agg #[.int .i64 k1, .string f1, .string x1, .slice a1 m1 c1]) _ ht hd (hEk _ _ hW hbel) ⟨_, _, _, _, rfl, hcs1.keep (Keeps.below hbel hSW)⟩)
  have HZ := veil (solveP_size hρ d t)
  have HL : Hid (listR (solveP ρ d t) = if (solveP ρ d t).2 = 0 then (if listErr (solveP ρ d t).1 = 0 then (wrapK (solveP ρ d t).1, 0) else (noneS, 5)) else (noneS, (solveP ρ d t).2)) := rfl
  clear hat hcs1 hsl hbel HRec hρ hW hSW q0 q1 q2 q3 ht hd
  generalize listR (solveP ρ d t) = r at *
  generalize solveP ρ d t = sp at *
  obtain ⟨ss, sc⟩ := sp
  obtain ⟨rs, rc⟩ := r
  simp only at HL HZ
  go_enter Tryz.func292, Tryz.ntmps292
  go_wp2_with fail
  refine HR.out.mono ?_
  rintro e w3 ⟨rfl, hb3⟩
  have HB3 := veil hb3
  clear hb3 HR d0 d1 d2 d3 p3
  by_cases hc : sc = 0
  · rw [if_pos hc] at HL
    subst hc
    by_cases hl : listErr ss = 0
    · rw [if_pos hl] at HL
      have HR1 : Hid (rs = wrapK ss) := (Prod.mk.inj HL.out).1
      have HR2 : Hid (rc = 0) := (Prod.mk.inj HL.out).2
      have HLo := veil (fun W => listOf_good hl W)
      clear hl HL
      go_wp2_with fail
      refine (HLo.out _).mono ?_
      rintro e w4 ⟨rfl, rfl⟩
      go_wp2_with fail
      go_ret2
      exact ⟨by rw [HR1.out, HR2.out]; rfl, HB3.out⟩
    · rw [if_neg hl] at HL
      have HR1 : Hid (rs = noneS) := (Prod.mk.inj HL.out).1
      have HR2 : Hid (rc = 5) := (Prod.mk.inj HL.out).2
      have HLo := veil (fun W => listOf_bad HZ.out hl W)
      have hl' : (listErr ss != 0) = true := by simpa using hl
      clear hl HL
      generalize listErr ss = le at *
      go_wp2_with fail
      refine (HLo.out _).mono ?_
      rintro e w4 ⟨rfl, rfl⟩
      go_wp2_with fail
      go_ret2
      exact ⟨by rw [HR1.out, HR2.out]; rfl, HB3.out⟩
  · rw [if_neg hc] at HL
    have HR1 : Hid (rs = noneS) := (Prod.mk.inj HL.out).1
    have HR2 : Hid (rc = sc) := (Prod.mk.inj HL.out).2
    have hc' : (sc != 0) = true := by simpa using hc
    clear hc HL
    go_wp2_with fail
    go_ret2
    exact ⟨by rw [HR1.out, HR2.out]; rfl, HB3.out⟩

set_option maxHeartbeats 2000000 in
theorem solve_A (w0 : World) (S : Nat → Prop) (hS : ∀ b, S b → b < w0.heap.size) (ρ : ByteArray → ByteArray → Sol) (hρ : ∀ o n, (ρ o n).1.size ≤ maxLen) (Env : World → Prop) (hE0 : ∀ W, Env W → Below w0.heap.size w0 W) (hEk : ∀ W W', Env W → Below W.heap.size W W' → Env W') (mB lB tB fB : Nat) (HF : ∀ o n W, Env W → Calls Tryz.prog 290 #[.string o, .string n, .pointer (some ⟨mB, 0, none⟩), .pointer (some ⟨lB, 0, none⟩), .pointer (some ⟨tB, 0, none⟩), .pointer (some ⟨fB, 0, none⟩)] W (Tells w0 (ρ o n))) : ∀ (d : Nat) (t : Ty) (dd : Nat) (v : Value) (W : World), tyFault t dd = 0 → 11 ≤ dd + d → Env W → TyIs S W t v → Calls Tryz.prog 223 #[v, .func (.func 290) #[] #[.pointer (some ⟨mB, 0, none⟩), .pointer (some ⟨lB, 0, none⟩), .pointer (some ⟨tB, 0, none⟩), .pointer (some ⟨fB, 0, none⟩)]] W (Tells w0 (solveP ρ d t)) := by
  intro d
  induction d with
  | zero =>
    intro t dd v W ht hd
    obtain ⟨k, o, n, xs⟩ := t
    have := (ty_parts ht).1
    omega
  | succ d ih =>
    intro t dd v W ht hd hW hv
    obtain ⟨k, o, n, xs⟩ := t
    obtain ⟨_, ⟨hk1, hk4⟩, h3, _⟩ := ty_parts ht
    have HRec : Hid (∀ (t : Ty) (dd : Nat) (v : Value) (W : World), tyFault t dd = 0 → 11 ≤ dd + d → Env W → TyIs S W t v → Calls Tryz.prog 223 #[v, .func (.func 290) #[] #[.pointer (some ⟨mB, 0, none⟩), .pointer (some ⟨lB, 0, none⟩), .pointer (some ⟨tB, 0, none⟩), .pointer (some ⟨fB, 0, none⟩)]] W (Tells w0 (solveP ρ d t))) := ih
    have HP : Hid (solveP ρ (d + 1) (.mk k o n xs) = if k = 1 then (intK, 0) else if k = 2 then (textK, 0) else if k = 3 then (match xs with
      | [] => (noneS, 5)
      | t :: _ => listR (solveP ρ d t)) else ρ o n) := rfl
    have hv0 := hv
    obtain ⟨k', f', x', va, rfl, xs', e, _, _, hsl⟩ := hv
    injection e with e1 e2 e3 e4
    subst e1 e2 e3 e4
    obtain ⟨a, m, cap, rfl⟩ := hsl.slice
    have hbel : Below W.heap.size W (W.alloc (.cells #[.int .i64 k, .string o, .string n, .slice a m cap] 84)) := (Below.refl _ _).alloc (Nat.le_refl _) _
    have HBel := veil hbel
    have hSW : ∀ b, S b → b < W.heap.size := fun b hb => Nat.lt_of_lt_of_le (hS b hb) (hE0 W hW).size
    have HEnd := veil ((hE0 W hW).trans (hbel.mono (hE0 W hW).size))
    have hk : k = 1 ∨ k = 2 ∨ k = 3 ∨ k = 4 := by omega
    rcases hk with rfl | rfl | rfl | rfl
    · have HR : Hid (solveP ρ (d + 1) (.mk 1 o n xs) = (intK, 0)) := HP.out
      clear HP HRec ih h3 hv0 hsl hW hSW hρ HF
      generalize solveP ρ (d + 1) (.mk 1 o n xs) = r at *
      go_enter Tryz.func223, Tryz.ntmps223
      go_wp2_with fail
      go_ret2
      exact ⟨by rw [HR.out]; rfl, HEnd.out⟩
    · have HR : Hid (solveP ρ (d + 1) (.mk 2 o n xs) = (textK, 0)) := HP.out
      clear HP HRec ih h3 hv0 hsl hW hSW hρ HF
      generalize solveP ρ (d + 1) (.mk 2 o n xs) = r at *
      go_enter Tryz.func223, Tryz.ntmps223
      go_wp2_with fail
      go_ret2
      exact ⟨by rw [HR.out]; rfl, HEnd.out⟩
    · obtain ⟨t, rfl, ht1⟩ := h3 rfl
      have HR : Hid (solveP ρ (d + 1) (.mk 3 o n [t]) = listR (solveP ρ d t)) := HP.out
      have HS := veil (solveList_A w0 S hS ρ hρ Env hE0 hEk mB lB tB fB d HRec t dd o n _ _ ht1 (by omega) (hEk _ _ hW hbel) (hv0.keep (Keeps.below hbel hSW)))
      clear HP HRec ih h3 hv0 hsl hW hSW hρ HF
      generalize solveP ρ (d + 1) (.mk 3 o n [t]) = r at *
      generalize listR (solveP ρ d t) = r' at *
      go_enter Tryz.func223, Tryz.ntmps223
      go_wp2_with fail
      refine HS.out.mono ?_
      rintro e w3 ⟨rfl, hb3⟩
      have HB3 := veil hb3
      clear hb3
      go_wp2_with fail
      go_ret2
      exact ⟨by rw [HR.out]; rfl, HB3.out⟩
    · have HR : Hid (solveP ρ (d + 1) (.mk 4 o n xs) = ρ o n) := HP.out
      have HS := veil (HF o n _ (hEk _ _ hW hbel))
      clear HP HRec ih h3 hv0 hsl hW hSW hρ HF
      generalize solveP ρ (d + 1) (.mk 4 o n xs) = r at *
      generalize ρ o n = r' at *
      go_enter Tryz.func223, Tryz.ntmps223
      go_wp2_with fail
      refine HS.out.mono ?_
      rintro e w3 ⟨rfl, hb3⟩
      have HB3 := veil hb3
      clear hb3
      go_wp2_with fail
      go_ret2
      exact ⟨by rw [HR.out]; rfl, HB3.out⟩

end Go.Proofs.YtagbaimfigljiaaGreatDoor
