/- What face.Type and the reference's TypeIn answer: what the first type of that name is. -/
import Derived.Test.YtcpnfkeoajeodaaGreatDoorJFa
import Derived.Test.YtcpnfkeoajeodaaGreatDoorJKindX
namespace Go.Proofs.YtcpnfkeoajeodaaGreatDoor
open Go.RowKit
set_option maxRecDepth 100000

def typeAt (f : Fc) (s : ByteArray) : Nat := findAt (fun k : Kn => sEq k.name s) f.types
def typeVal (f : Fc) (s : ByteArray) : ByteArray := ((f.types[typeAt f s]?).map Kn.is).getD ⟨#[]⟩
def typeErr (f : Fc) (s : ByteArray) : Int := if typeAt f s < f.types.length then 0 else 6

theorem type_yes {f : Fc} {s : ByteArray} {k : Nat} (hk : k < f.types.length) (h : typeAt f s = k) : typeVal f s = f.types[k].is ∧ typeErr f s = 0 := by
  unfold typeVal typeErr
  rw [h, List.getElem?_eq_getElem hk, if_pos hk]
  exact ⟨rfl, rfl⟩
theorem type_no {f : Fc} {s : ByteArray} (h : f.types.length ≤ typeAt f s) : typeVal f s = ⟨#[]⟩ ∧ typeErr f s = 6 := by
  unfold typeVal typeErr
  rw [List.getElem?_eq_none h, if_neg (by omega)]
  exact ⟨rfl, rfl⟩

set_option maxHeartbeats 2000000 in
theorem type_any (S : Nat → Prop) (f : Fc) (s : ByteArray) (v : Value) (w : World) (hS : ∀ b, S b → b < w.heap.size) (hv : FcIs S w f v) (hz : fcSmall f) :
    Calls Tryz.prog 92 #[v, .string s] w fun e w' => e = .returned (.tuple #[.string (typeVal f s), .int .i64 (typeErr f s)]) ∧ Below w.heap.size w w' := by
  have hr := reachBytes_lt
  obtain ⟨vt, vf, rfl, ht, hf⟩ := hv
  have HT := veil ht
  have hlen := ht.len
  unfold maxLen at hlen
  obtain ⟨a, cap, rfl⟩ := ht.is
  obtain ⟨a2, n2, cap2, rfl⟩ := hf.slice
  obtain ⟨w2, hwe, hs2, p0, p1, hbel⟩ : ∃ w2, (w.alloc (.cells #[.slice a f.types.length cap, .slice a2 n2 cap2] 31)).alloc (.cells #[.string s] 9) = w2 ∧ w2.heap.size = w.heap.size + 2 ∧
      w2.cell? ⟨w.heap.size, 0, none⟩ = some (.slice a f.types.length cap) ∧ w2.cell? ⟨w.heap.size + 1, 0, none⟩ = some (.string s) ∧ Below w.heap.size w w2 :=
    ⟨_, rfl, by simp, by simp [go_sem], by simp [go_sem], ((Below.refl _ _).alloc (Nat.le_refl _) _).alloc (by simp) _⟩
  have HC : Hid (Calls Tryz.prog 101 #[.slice a f.types.length cap, .func (.func 102) #[] #[.pointer (some ⟨w.heap.size + 1, 0, none⟩)]] w2 fun e w' => e = .returned (.int .i64 (idxOf (fun k : Kn => sEq k.name s) f.types)) ∧ Below w2.heap.size w2 w') :=
    index_kn S _ _ _ _ w2 (fun b hb => Nat.lt_of_lt_of_le (hS b hb) hbel.size) (knSl_keep (Keeps.below hbel hS) ht) p1
  have HWe := veil hwe
  have HBel := veil hbel
  clear ht hf hwe hbel p1
  by_cases hat : typeAt f s < f.types.length
  · obtain ⟨_, b, off, rfl, hb, ⟨_, _⟩, a1, _⟩ := HT.out.at hat
    have hbk := hS b hb
    have hI : idxOf (fun k : Kn => sEq k.name s) f.types = (typeAt f s : Int) := if_pos hat
    have HR := veil (type_yes hat rfl)
    have HCl : Hid (∀ W, Calls Tryz.prog 48 #[.string f.types[typeAt f s].is] W fun e w' => e = .returned (.string f.types[typeAt f s].is) ∧ Below W.heap.size W w') := fun W => clone_kind _ W (by have := (hz.1.2 _ (List.getElem_mem hat)).2; omega)
    have HA1 := veil a1
    clear hz a1 HT
    rw [hI] at HC
    generalize f.types[typeAt f s].is = y at *
    generalize typeAt f s = k at *
    have hk' : (k : Int) < (f.types.length : Int) := by omega
    have hk0 : ¬ (k : Int) < 0 := by omega
    have hk1 : (0 : Int) ≤ (k : Int) := by omega
    clear hI
    go_enter Tryz.func92, Tryz.ntmps92
    go_wp2_with fail
    rw [HWe.out]
    refine HC.out.mono ?_
    rintro e w3 ⟨rfl, hb3⟩
    have c0 := (hb3.cell (p := ⟨w.heap.size, 0, none⟩) (by show w.heap.size < _; omega)).trans p0
    have hb4 := HBel.out.trans (hb3.mono HBel.out.size)
    have d1 := (hb4.cell (p := ⟨b, off + k * 2 + 1, none⟩) hbk).trans HA1.out
    have HB4 := veil hb4
    clear hb3 hb4 p0
    go_wp2_with fail
    refine (HCl.out _).mono ?_
    rintro e w5 ⟨rfl, hb5⟩
    have HB5 := veil (HB4.out.trans (hb5.mono HB4.out.size))
    clear hb5
    go_wp2_with fail
    go_ret2
    exact ⟨by rw [HR.out.1, HR.out.2]; rfl, HB5.out⟩
  · have hI : idxOf (fun k : Kn => sEq k.name s) f.types = -1 := if_neg hat
    have HR := veil (type_no (f := f) (s := s) (by omega))
    clear hz HT
    rw [hI] at HC
    clear hI hat
    go_enter Tryz.func92, Tryz.ntmps92
    go_wp2_with fail
    rw [HWe.out]
    refine HC.out.mono ?_
    rintro e w3 ⟨rfl, hb3⟩
    have HB4 := veil (HBel.out.trans (hb3.mono HBel.out.size))
    clear hb3 p0
    go_wp2_with fail
    go_ret2
    exact ⟨by rw [HR.out.1, HR.out.2]; rfl, HB4.out⟩

set_option maxHeartbeats 2000000 in
theorem typeIn_any (S : Nat → Prop) (f : Fc) (s : ByteArray) (v : Value) (w : World) (hS : ∀ b, S b → b < w.heap.size) (hv : FcIs S w f v) :
    Calls Tryz.prog 88 #[v, .string s] w fun e w' => e = .returned (.tuple #[.string (typeVal f s), .int .i64 (typeErr f s)]) ∧ Below w.heap.size w w' := by
  obtain ⟨vt, vf, rfl, ht, hf⟩ := hv
  have HT := veil ht
  have hlen := ht.len
  unfold maxLen at hlen
  obtain ⟨a, cap, rfl⟩ := ht.is
  obtain ⟨a2, n2, cap2, rfl⟩ := hf.slice
  obtain ⟨w2, hwe, hs2, p0, hbel⟩ : ∃ w2, w.alloc (.cells #[.slice a f.types.length cap, .slice a2 n2 cap2] 31) = w2 ∧ w2.heap.size = w.heap.size + 1 ∧
      w2.cell? ⟨w.heap.size, 0, none⟩ = some (.slice a f.types.length cap) ∧ Below w.heap.size w w2 :=
    ⟨_, rfl, by simp, by simp [go_sem], (Below.refl _ _).alloc (Nat.le_refl _) _⟩
  have HWe := veil hwe
  have HBel := veil hbel
  have HP0 := veil p0
  clear ht hf hwe hbel p0
  go_enter Tryz.func88, Tryz.ntmps88
  go_wp2_with fail
  rw [HWe.out]
  clear HWe
  go_loopw [6] (fun i wr => ∃ j : Nat, j ≤ f.types.length ∧ i = .int .i64 j ∧ findAt (fun k : Kn => sEq k.name s) f.types = j + findAt (fun k : Kn => sEq k.name s) (f.types.drop j) ∧ wr = w2) (fun i _ => f.types.length - (intOf i).toNat)
  case atStart => exact ⟨0, Nat.zero_le _, rfl, (Nat.zero_add _).symm, rfl⟩
  case round =>
    obtain ⟨j, hj, rfl, hq, rfl⟩ := hrel
    have HQ := veil hq
    clear hq
    have c0 := HP0.out
    by_cases hlt : j < f.types.length
    · have hlt' : (j : Int) < (f.types.length : Int) := by omega
      obtain ⟨_, b, off, rfl, hb, ⟨a0, _⟩, a1, _⟩ := HT.out.at hlt
      have hbk := hS b hb
      have d0 := (HBel.out.cell (p := ⟨b, off + j * 2, none⟩) hbk).trans a0
      have d1 := (HBel.out.cell (p := ⟨b, off + j * 2 + 1, none⟩) hbk).trans a1
      have HYes : Hid ((f.types[j].name.toList == s.toList) = true → typeVal f s = f.types[j].is ∧ typeErr f s = 0) := fun h => type_yes hlt (by
        show findAt (fun k : Kn => sEq k.name s) f.types = j
        rw [HQ.out, find_yes hlt h]; rfl)
      have HNo : Hid ((f.types[j].name.toList == s.toList) = false → findAt (fun k : Kn => sEq k.name s) f.types = (j + 1) + findAt (fun k : Kn => sEq k.name s) (f.types.drop (j + 1))) := fun h => by
        rw [HQ.out, find_no hlt h]; omega
      clear a0 a1 HT HQ
      generalize f.types[j].name = x at *
      generalize f.types[j].is = y at *
      cases hx : (x.toList == s.toList) with
      | true =>
        have HR := veil (HYes.out hx)
        clear HYes HNo
        go_wp2_with fail
        go_ret2
        exact ⟨by rw [HR.out.1, HR.out.2]; rfl, HBel.out⟩
      | false =>
        have HN := veil (HNo.out hx)
        clear HYes HNo
        go_wp2_with fail
        exact ⟨⟨j + 1, by omega, by go_num, HN.out, by simp⟩, by simp [intOf]; omega⟩
    · have hnl : ¬ (j : Int) < (f.types.length : Int) := by omega
      have HR := veil (type_no (f := f) (s := s) (by
        show f.types.length ≤ findAt (fun k : Kn => sEq k.name s) f.types
        rw [HQ.out, find_end (by omega)]; omega))
      clear HT HQ
      go_wp2_with fail
      go_ret2
      exact ⟨by rw [HR.out.1, HR.out.2]; rfl, HBel.out⟩

end Go.Proofs.YtcpnfkeoajeodaaGreatDoor
