/- What face.Func and the reference's FuncIn answer: the first function of that name; and that scullerylaw.sameSig tells two that are the same to be so. -/
import Derived.Test.YtcpnfkeoajeodaaGreatDoorJFa
import Derived.Test.YtcpnfkeoajeodaaGreatDoorJFd
namespace Go.Proofs.YtcpnfkeoajeodaaGreatDoor
open Go.RowKit
set_option maxRecDepth 100000

def funcAt (f : Fc) (s : ByteArray) : Nat := findAt (fun k : Sg => sEq k.name s) f.funcs
def funcVal (f : Fc) (s : ByteArray) : Sg := (f.funcs[funcAt f s]?).getD ⟨⟨#[]⟩, [], ⟨#[]⟩⟩
def funcErr (f : Fc) (s : ByteArray) : Int := if funcAt f s < f.funcs.length then 0 else 6

theorem func_yes {f : Fc} {s : ByteArray} {k : Nat} (hk : k < f.funcs.length) (h : funcAt f s = k) : funcVal f s = f.funcs[k] ∧ funcErr f s = 0 := by
  unfold funcVal funcErr
  rw [h, List.getElem?_eq_getElem hk, if_pos hk]
  exact ⟨rfl, rfl⟩
theorem func_no {f : Fc} {s : ByteArray} (h : f.funcs.length ≤ funcAt f s) : funcVal f s = ⟨⟨#[]⟩, [], ⟨#[]⟩⟩ ∧ funcErr f s = 6 := by
  unfold funcVal funcErr
  rw [List.getElem?_eq_none h, if_neg (by omega)]
  exact ⟨rfl, rfl⟩

theorem sg_none (S : Nat → Prop) (w : World) : SgIs S w ⟨⟨#[]⟩, [], ⟨#[]⟩⟩ (.agg #[.string ⟨#[]⟩, .slice none 0 0, .string ⟨#[]⟩]) :=
  ⟨_, rfl, Nat.zero_le _, Nat.zero_le _, none, 0, rfl, ⟨by simp, by simp⟩, .inl rfl⟩

/-- behind the store of the three cells of the result. -/
theorem sg_stored {B : Nat} {W : World} {g : Sg} {v : Value} (h : SgIs (fun b => B < b ∧ b < W.heap.size) W g v) (u0 u1 u2 : Value) :
    SgIs (fun b => b < (((W.setCell ⟨B, 0, none⟩ u0).setCell ⟨B, 1, none⟩ u1).setCell ⟨B, 2, none⟩ u2).heap.size) (((W.setCell ⟨B, 0, none⟩ u0).setCell ⟨B, 1, none⟩ u1).setCell ⟨B, 2, none⟩ u2) g v := by
  refine h.keep ⟨fun b hb => ?_, fun b hb => ?_⟩
  · rw [Below.heap_setCell _ _ _ _ (by show b ≠ B; omega), Below.heap_setCell _ _ _ _ (by show b ≠ B; omega), Below.heap_setCell _ _ _ _ (by show b ≠ B; omega)]
  · rw [size_setCell', size_setCell', size_setCell']; exact hb.2

set_option maxHeartbeats 4000000 in
theorem func_any (S : Nat → Prop) (f : Fc) (s : ByteArray) (v : Value) (w : World) (hS : ∀ b, S b → b < w.heap.size) (hv : FcIs S w f v) (hz : fcSmall f) :
    Calls Tryz.prog 32 #[v, .string s] w fun e w' => ∃ a n cap, e = .returned (.tuple #[.agg #[.string (funcVal f s).name, .slice a n cap, .string (funcVal f s).result], .int .i64 (funcErr f s)]) ∧ SgIs (fun b => b < w'.heap.size) w' (funcVal f s) (.agg #[.string (funcVal f s).name, .slice a n cap, .string (funcVal f s).result]) ∧ Below w.heap.size w w' := by
  obtain ⟨vt, vf, rfl, ht, hf⟩ := hv
  have HT := veil hf
  have hlen := hf.len
  unfold maxLen at hlen
  obtain ⟨a2, n2, cap2, rfl⟩ := ht.slice
  obtain ⟨a, cap, rfl⟩ := hf.is
  obtain ⟨w2, hwe, hs2, p0, p1, hbel, q0, q1, q2, f0, f1, f2⟩ : ∃ w2, ((w.alloc (.cells #[.slice a2 n2 cap2, .slice a f.funcs.length cap] 31)).alloc (.cells #[.string s] 9)).alloc (.cells #[.string ⟨#[]⟩, .slice none 0 0, .string ⟨#[]⟩] 44) = w2 ∧ w2.heap.size = w.heap.size + 3 ∧
      w2.cell? ⟨w.heap.size, 1, none⟩ = some (.slice a f.funcs.length cap) ∧ w2.cell? ⟨w.heap.size + 1, 0, none⟩ = some (.string s) ∧ Below w.heap.size w w2 ∧
      w2.cell? ⟨w.heap.size + 2, 0, none⟩ = some (.string ⟨#[]⟩) ∧ w2.cell? ⟨w.heap.size + 2, 1, none⟩ = some (.slice none 0 0) ∧ w2.cell? ⟨w.heap.size + 2, 2, none⟩ = some (.string ⟨#[]⟩) ∧
      w2.frozen? ⟨w.heap.size + 2, 0, none⟩ = false ∧ w2.frozen? ⟨w.heap.size + 2, 1, none⟩ = false ∧ w2.frozen? ⟨w.heap.size + 2, 2, none⟩ = false :=
    ⟨_, rfl, by simp, by simp [go_sem], by simp [go_sem], (((Below.refl _ _).alloc (Nat.le_refl _) _).alloc (by simp) _).alloc (by simp; omega) _, by simp [go_sem], by simp [go_sem], by simp [go_sem], by simp [go_sem], by simp [go_sem], by simp [go_sem]⟩
  have HC : Hid (Calls Tryz.prog 54 #[.slice a f.funcs.length cap, .func (.func 55) #[] #[.pointer (some ⟨w.heap.size + 1, 0, none⟩)]] w2 fun e w' => e = .returned (.int .i64 (idxOf (fun k : Sg => sEq k.name s) f.funcs)) ∧ Below w2.heap.size w2 w') :=
    index_sg S _ _ _ _ w2 (fun b hb => Nat.lt_of_lt_of_le (hS b hb) hbel.size) (sgSl_keep (Keeps.below hbel hS) hf) p1
  have HRes : Hid (∀ W, Below w2.heap.size w2 W → (W.cell? ⟨w.heap.size, 1, none⟩ = some (.slice a f.funcs.length cap) ∧ Below w.heap.size w W ∧ w.heap.size + 2 < W.heap.size) ∧ (W.cell? ⟨w.heap.size + 2, 0, none⟩ = some (.string ⟨#[]⟩) ∧ W.cell? ⟨w.heap.size + 2, 1, none⟩ = some (.slice none 0 0) ∧ W.cell? ⟨w.heap.size + 2, 2, none⟩ = some (.string ⟨#[]⟩)) ∧
      W.frozen? ⟨w.heap.size + 2, 0, none⟩ = false ∧ W.frozen? ⟨w.heap.size + 2, 1, none⟩ = false ∧ W.frozen? ⟨w.heap.size + 2, 2, none⟩ = false) := fun W h => by
    have hsz := h.size
    exact ⟨⟨(h.cell (p := ⟨w.heap.size, 1, none⟩) (by show w.heap.size < _; omega)).trans p0, hbel.trans (h.mono hbel.size), by omega⟩,
      ⟨(h.cell (p := ⟨w.heap.size + 2, 0, none⟩) (by show w.heap.size + 2 < _; omega)).trans q0, (h.cell (p := ⟨w.heap.size + 2, 1, none⟩) (by show w.heap.size + 2 < _; omega)).trans q1, (h.cell (p := ⟨w.heap.size + 2, 2, none⟩) (by show w.heap.size + 2 < _; omega)).trans q2⟩,
      (h.frozen (p := ⟨w.heap.size + 2, 0, none⟩) (by show w.heap.size + 2 < _; omega)).trans f0, (h.frozen (p := ⟨w.heap.size + 2, 1, none⟩) (by show w.heap.size + 2 < _; omega)).trans f1, (h.frozen (p := ⟨w.heap.size + 2, 2, none⟩) (by show w.heap.size + 2 < _; omega)).trans f2⟩
  have HSet : Hid (∀ W u0 u1 u2, Below w.heap.size w W → Below w.heap.size w (((W.setCell ⟨w.heap.size + 2, 0, none⟩ u0).setCell ⟨w.heap.size + 2, 1, none⟩ u1).setCell ⟨w.heap.size + 2, 2, none⟩ u2)) := fun W u0 u1 u2 h =>
    ((h.setCell (by show w.heap.size ≤ w.heap.size + 2; omega) _).setCell (by show w.heap.size ≤ w.heap.size + 2; omega) _).setCell (by show w.heap.size ≤ w.heap.size + 2; omega) _
  have HWe := veil hwe
  clear ht hf hwe hbel p0 p1 q0 q1 q2 f0 f1 f2
  by_cases hat : funcAt f s < f.funcs.length
  · obtain ⟨_, b, off, rfl, hb, hsg⟩ := HT.out.at hat
    have hbk := hS b hb
    obtain ⟨r1, r2, r3, a0, a1, a3, hgi⟩ := sgIs_at hsg
    have hI : idxOf (fun k : Sg => sEq k.name s) f.funcs = (funcAt f s : Int) := if_pos hat
    have HR := veil (func_yes hat rfl)
    have HCp : Hid (∀ W, Below w.heap.size w W → w.heap.size + 2 < W.heap.size → Calls Tryz.prog 56 #[.agg #[.string f.funcs[funcAt f s].name, .slice r1 r2 r3, .string f.funcs[funcAt f s].result]] W fun e w' => ∃ a n cap, e = .returned (.agg #[.string f.funcs[funcAt f s].name, .slice a n cap, .string f.funcs[funcAt f s].result]) ∧ SgIs (fun b => w.heap.size + 2 < b ∧ b < w'.heap.size) w' f.funcs[funcAt f s] (.agg #[.string f.funcs[funcAt f s].name, .slice a n cap, .string f.funcs[funcAt f s].result]) ∧ Below W.heap.size W w') := fun W hW h2 => by
      refine (copyFunc_any S _ _ W (fun b hb => Nat.lt_of_lt_of_le (hS b hb) hW.size) (hgi.keep (Keeps.below hW hS)) (hz.2.2 _ (List.getElem_mem hat))).mono ?_
      rintro e w' ⟨a, n, cap, rfl, h3, h4⟩
      obtain ⟨_, _, z0, z1, _⟩ := hgi
      exact ⟨a, n, cap, rfl, ⟨_, rfl, z0, z1, h3.imp (fun b hb => ⟨by omega, hb.2⟩) (fun _ _ _ _ _ h => h)⟩, h4⟩
    have HA : Hid (∀ W, Below w.heap.size w W → W.cell? ⟨b, off + funcAt f s * 3, none⟩ = some (.string f.funcs[funcAt f s].name) ∧ W.cell? ⟨b, off + funcAt f s * 3 + 1, none⟩ = some (.slice r1 r2 r3) ∧ W.cell? ⟨b, off + funcAt f s * 3 + 2, none⟩ = some (.string f.funcs[funcAt f s].result)) := fun W h =>
      ⟨(h.cell (p := ⟨b, off + funcAt f s * 3, none⟩) hbk).trans a0, (h.cell (p := ⟨b, off + funcAt f s * 3 + 1, none⟩) hbk).trans a1, (h.cell (p := ⟨b, off + funcAt f s * 3 + 2, none⟩) hbk).trans a3⟩
    clear hz a0 a1 a3 HT hsg hgi
    rw [hI] at HC
    rw [HR.out.1, HR.out.2]
    clear HR hI
    generalize f.funcs[funcAt f s] = g at *
    generalize funcAt f s = k at *
    have hk' : (k : Int) < (f.funcs.length : Int) := by omega
    have hk0 : ¬ (k : Int) < 0 := by omega
    have hk1 : (0 : Int) ≤ (k : Int) := by omega
    go_enter Tryz.func32, Tryz.ntmps32
    go_wp2_with fail
    rw [HWe.out]
    refine HC.out.mono ?_
    rintro e w3 ⟨rfl, hb3⟩
    obtain ⟨⟨c0, hb4, hl4⟩, -⟩ := HRes.out _ hb3
    obtain ⟨d0, d1, d2⟩ := HA.out _ hb4
    have HB3 := veil hb3
    have HB4 := veil hb4
    clear hb3 hb4
    go_wp2_with fail
    refine (HCp.out _ HB4.out hl4).mono ?_
    rintro e w5 ⟨a5, n5, cap5, rfl, hg5, hb5⟩
    obtain ⟨⟨_, hb6, _⟩, ⟨g0, g1, g2⟩, g3, g4, g5⟩ := HRes.out _ (HB3.out.trans (hb5.mono HB3.out.size))
    have HG5 := veil hg5
    have HB6 := veil hb6
    clear hb5 hg5 hb6
    go_wp2_with fail
    exact bodyPost_ret (v := .tuple #[.agg #[.string g.name, .slice a5 n5 cap5, .string g.result], .int .i64 0]) (by simp [results, Tryz.results32, go_sem, g0, g1, g2]) rfl ⟨a5, n5, cap5, rfl, sg_stored HG5.out _ _ _, HSet.out _ _ _ _ HB6.out⟩
  · have hI : idxOf (fun k : Sg => sEq k.name s) f.funcs = -1 := if_neg hat
    have HR := veil (func_no (f := f) (s := s) (by omega))
    clear hz HT
    rw [hI] at HC
    rw [HR.out.1, HR.out.2]
    clear hI hat HR
    go_enter Tryz.func32, Tryz.ntmps32
    go_wp2_with fail
    rw [HWe.out]
    refine HC.out.mono ?_
    rintro e w3 ⟨rfl, hb3⟩
    obtain ⟨⟨c0, hb4, hl4⟩, ⟨g0, g1, g2⟩, g3, g4, g5⟩ := HRes.out _ hb3
    have HB4 := veil hb4
    clear hb3 hb4
    go_wp2_with fail
    exact bodyPost_ret (v := .tuple #[.agg #[.string ⟨#[]⟩, .slice none 0 0, .string ⟨#[]⟩], .int .i64 6]) (by simp [results, Tryz.results32, go_sem, g0, g1, g2]) rfl ⟨none, 0, 0, rfl, sg_none _ _, HSet.out _ _ _ _ HB4.out⟩

set_option maxHeartbeats 4000000 in
theorem funcIn_any (S : Nat → Prop) (f : Fc) (s : ByteArray) (v : Value) (w : World) (hS : ∀ b, S b → b < w.heap.size) (hv : FcIs S w f v) :
    Calls Tryz.prog 40 #[v, .string s] w fun e w' => ∃ a n cap, e = .returned (.tuple #[.agg #[.string (funcVal f s).name, .slice a n cap, .string (funcVal f s).result], .int .i64 (funcErr f s)]) ∧ SgIs (fun b => b < w'.heap.size) w' (funcVal f s) (.agg #[.string (funcVal f s).name, .slice a n cap, .string (funcVal f s).result]) ∧ Below w.heap.size w w' := by
  obtain ⟨vt, vf, rfl, ht, hf⟩ := hv
  have HT := veil hf
  have hlen := hf.len
  unfold maxLen at hlen
  obtain ⟨a2, n2, cap2, rfl⟩ := ht.slice
  obtain ⟨a, cap, rfl⟩ := hf.is
  obtain ⟨w2, hwe, hs2, p0, hbel, q0, q1, q2, f0, f1, f2⟩ : ∃ w2, (w.alloc (.cells #[.slice a2 n2 cap2, .slice a f.funcs.length cap] 31)).alloc (.cells #[.string ⟨#[]⟩, .slice none 0 0, .string ⟨#[]⟩] 44) = w2 ∧ w2.heap.size = w.heap.size + 2 ∧
      w2.cell? ⟨w.heap.size, 1, none⟩ = some (.slice a f.funcs.length cap) ∧ Below w.heap.size w w2 ∧
      w2.cell? ⟨w.heap.size + 1, 0, none⟩ = some (.string ⟨#[]⟩) ∧ w2.cell? ⟨w.heap.size + 1, 1, none⟩ = some (.slice none 0 0) ∧ w2.cell? ⟨w.heap.size + 1, 2, none⟩ = some (.string ⟨#[]⟩) ∧
      w2.frozen? ⟨w.heap.size + 1, 0, none⟩ = false ∧ w2.frozen? ⟨w.heap.size + 1, 1, none⟩ = false ∧ w2.frozen? ⟨w.heap.size + 1, 2, none⟩ = false :=
    ⟨_, rfl, by simp, by simp [go_sem], ((Below.refl _ _).alloc (Nat.le_refl _) _).alloc (by simp) _, by simp [go_sem], by simp [go_sem], by simp [go_sem], by simp [go_sem], by simp [go_sem], by simp [go_sem]⟩
  have HWe := veil hwe
  have HBel := veil hbel
  have HP0 := veil p0
  have HSet : Hid (∀ u0 u1 u2, Below w.heap.size w (((w2.setCell ⟨w.heap.size + 1, 0, none⟩ u0).setCell ⟨w.heap.size + 1, 1, none⟩ u1).setCell ⟨w.heap.size + 1, 2, none⟩ u2)) := fun u0 u1 u2 =>
    ((hbel.setCell (by show w.heap.size ≤ w.heap.size + 1; omega) _).setCell (by show w.heap.size ≤ w.heap.size + 1; omega) _).setCell (by show w.heap.size ≤ w.heap.size + 1; omega) _
  have HSg : Hid (∀ g v u0 u1 u2, SgIs S w2 g v → SgIs (fun b => b < (((w2.setCell ⟨w.heap.size + 1, 0, none⟩ u0).setCell ⟨w.heap.size + 1, 1, none⟩ u1).setCell ⟨w.heap.size + 1, 2, none⟩ u2).heap.size) (((w2.setCell ⟨w.heap.size + 1, 0, none⟩ u0).setCell ⟨w.heap.size + 1, 1, none⟩ u1).setCell ⟨w.heap.size + 1, 2, none⟩ u2) g v) := fun g v u0 u1 u2 h => by
    refine h.keep ⟨fun b hb => ?_, fun b hb => ?_⟩
    · have := hS b hb
      rw [Below.heap_setCell _ _ _ _ (by show b ≠ w.heap.size + 1; omega), Below.heap_setCell _ _ _ _ (by show b ≠ w.heap.size + 1; omega), Below.heap_setCell _ _ _ _ (by show b ≠ w.heap.size + 1; omega)]
    · have := hS b hb
      rw [size_setCell', size_setCell', size_setCell']; omega
  clear ht hf hwe hbel p0
  go_enter Tryz.func40, Tryz.ntmps40
  go_wp2_with fail
  rw [HWe.out]
  clear HWe
  go_loopw [6] (fun i wr => ∃ j : Nat, j ≤ f.funcs.length ∧ i = .int .i64 j ∧ findAt (fun k : Sg => sEq k.name s) f.funcs = j + findAt (fun k : Sg => sEq k.name s) (f.funcs.drop j) ∧ wr = w2) (fun i _ => f.funcs.length - (intOf i).toNat)
  case atStart => exact ⟨0, Nat.zero_le _, rfl, (Nat.zero_add _).symm, rfl⟩
  case round =>
    obtain ⟨j, hj, rfl, hq, rfl⟩ := hrel
    have HQ := veil hq
    clear hq
    have c0 := HP0.out
    by_cases hlt : j < f.funcs.length
    · have hlt' : (j : Int) < (f.funcs.length : Int) := by omega
      obtain ⟨_, b, off, rfl, hb, hat⟩ := HT.out.at hlt
      have hbk := hS b hb
      obtain ⟨r1, r2, r3, a0, a1, a3, hgi⟩ := sgIs_at hat
      have d0 := (HBel.out.cell (p := ⟨b, off + j * 3, none⟩) hbk).trans a0
      have d1 := (HBel.out.cell (p := ⟨b, off + j * 3 + 1, none⟩) hbk).trans a1
      have d2 := (HBel.out.cell (p := ⟨b, off + j * 3 + 2, none⟩) hbk).trans a3
      have HG := veil (hgi.keep (Keeps.below HBel.out hS))
      have HYes : Hid ((f.funcs[j].name.toList == s.toList) = true → funcVal f s = f.funcs[j] ∧ funcErr f s = 0) := fun h => func_yes hlt (by
        show findAt (fun k : Sg => sEq k.name s) f.funcs = j
        rw [HQ.out, find_yes hlt h]; rfl)
      have HNo : Hid ((f.funcs[j].name.toList == s.toList) = false → findAt (fun k : Sg => sEq k.name s) f.funcs = (j + 1) + findAt (fun k : Sg => sEq k.name s) (f.funcs.drop (j + 1))) := fun h => by
        rw [HQ.out, find_no hlt h]; omega
      clear a0 a1 a3 HT HQ hat hgi
      generalize f.funcs[j] = g at *
      cases hx : (g.name.toList == s.toList) with
      | true =>
        have HR := veil (HYes.out hx)
        clear HYes HNo
        go_wp2_with fail
        rw [HR.out.1, HR.out.2]
        exact bodyPost_ret (v := .tuple #[.agg #[.string g.name, .slice r1 r2 r3, .string g.result], .int .i64 0]) (by simp [results, Tryz.results40, go_sem, q0, q1, q2]) rfl ⟨r1, r2, r3, rfl, HSg.out _ _ _ _ _ HG.out, HSet.out _ _ _⟩
      | false =>
        have HN := veil (HNo.out hx)
        clear HYes HNo
        go_wp2_with fail
        exact ⟨⟨j + 1, by omega, by go_num, HN.out, by simp⟩, by simp [intOf]; omega⟩
    · have hnl : ¬ (j : Int) < (f.funcs.length : Int) := by omega
      have HR := veil (func_no (f := f) (s := s) (by
        show f.funcs.length ≤ findAt (fun k : Sg => sEq k.name s) f.funcs
        rw [HQ.out, find_end (by omega)]; omega))
      clear HT HQ
      go_wp2_with fail
      rw [HR.out.1, HR.out.2]
      exact bodyPost_ret (v := .tuple #[.agg #[.string ⟨#[]⟩, .slice none 0 0, .string ⟨#[]⟩], .int .i64 6]) (by simp [results, Tryz.results40, go_sem, q0, q1, q2]) rfl ⟨none, 0, 0, rfl, sg_none _ _, HSet.out _ _ _⟩

end Go.Proofs.YtcpnfkeoajeodaaGreatDoor
