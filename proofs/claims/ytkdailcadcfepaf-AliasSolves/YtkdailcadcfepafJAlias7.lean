/- What alias.diag and alias.checkUse answer. -/
import Derived.Test.YtkdailcadcfepafJAlias6
namespace Go.Proofs.Ytkdailcadcfepaf
open Go.RowKit

theorem diag_any (s : ByteArray) (c : Int) (w : World) (h : s.size ≤ 281474976710656) :
    Calls Try.prog 27 #[.string s, .int .i64 c] w fun e w' => e = .returned (.agg #[.string s, .int .i64 c]) ∧ Below w.heap.size w w' := by
  have HC : Hid (∀ W, Calls Try.prog 36 #[.string s] W fun e w' => e = .returned (.string s) ∧ Below W.heap.size W w') := fun W => clone_kind s W h
  clear h
  obtain ⟨w2, hwe, hs2, hbel, q0, q1, f0, f1⟩ : ∃ w2, w.alloc (.cells #[.string ⟨#[]⟩, .int .i64 0] 62) = w2 ∧ w2.heap.size = w.heap.size + 1 ∧ Below w.heap.size w w2 ∧
      w2.cell? ⟨w.heap.size, 0, none⟩ = some (.string ⟨#[]⟩) ∧ w2.cell? ⟨w.heap.size, 1, none⟩ = some (.int .i64 0) ∧ w2.frozen? ⟨w.heap.size, 0, none⟩ = false ∧ w2.frozen? ⟨w.heap.size, 1, none⟩ = false :=
    ⟨_, rfl, by simp, (Below.refl _ _).alloc (Nat.le_refl _) _, by simp [go_sem], by simp [go_sem], by simp [go_sem], by simp [go_sem]⟩
  have HWe := veil hwe
  clear hwe
  go_enter Try.func27, Try.ntmps27
  go_wp2_with fail
  rw [HWe.out]
  refine (HC.out _).mono ?_
  rintro e w3 ⟨rfl, hb⟩
  have g0 := (hb.cell (p := ⟨w.heap.size, 0, none⟩) (by show w.heap.size < _; omega)).trans q0
  have g1 := (hb.cell (p := ⟨w.heap.size, 1, none⟩) (by show w.heap.size < _; omega)).trans q1
  have g2 := (hb.frozen (p := ⟨w.heap.size, 0, none⟩) (by show w.heap.size < _; omega)).trans f0
  have g3 := (hb.frozen (p := ⟨w.heap.size, 1, none⟩) (by show w.heap.size < _; omega)).trans f1
  have HB := veil (hbel.trans (hb.mono hbel.size))
  clear hb hbel q0 q1 f0 f1
  go_wp2_with fail
  exact bodyPost_ret (v := .agg #[.string s, .int .i64 c]) (by simp [results, Try.results27, go_sem, g0, g1]) rfl ⟨rfl, (HB.out.setCell (Nat.le_refl _) _).setCell (Nat.le_refl _) _⟩

set_option maxHeartbeats 2000000 in
theorem checkUse_any (S : Nat → Prop) (m : Mo) (l : List Im) (k : Nat) (vm v : Value) (w : World) (hS : ∀ b, S b → b < w.heap.size) (hm : MoIs S w m vm) (hv : SlAt S (ImAt S w) 4 l v) (hk : k < m.uses.length) :
    Calls Try.prog 26 #[vm, v, .int .i64 k] w fun e w' => e = .returned (.int .i64 (useCode m.uses l k)) ∧ Below w.heap.size w w' := by
  have HC : Hid (∀ W s, Below w.heap.size w W → Calls Try.prog 51 #[vm, v, .string s] W fun e w' => ∃ a n cap a2 n2 cap2, e = .returned (.tuple #[.agg #[.slice a n cap, .slice a2 n2 cap2], .bool (fromOk m.uses l s)]) ∧ Below W.heap.size W w') := fun W s hW => by
    refine (used_any S m l s vm v W (fun b hb => Nat.lt_of_lt_of_le (hS b hb) hW.size) (hm.keep (Keeps.below hW hS)) (imSl_keep (Keeps.below hW hS) hv)).mono ?_
    rintro e w' ⟨a, n, cap, a2, n2, cap2, rfl, _, hb⟩
    exact ⟨a, n, cap, a2, n2, cap2, rfl, hb⟩
  obtain ⟨vu, vt, vf, rfl, hu, ht, hf⟩ := hm
  have hlen := hu.len
  unfold maxLen at hlen
  obtain ⟨u1, u3, rfl⟩ := hu.is
  obtain ⟨t1, t2, t3, rfl⟩ := ht.slice
  obtain ⟨f1, f2, f3, rfl⟩ := hf.slice
  obtain ⟨a, n, cap, rfl⟩ := hv.slice
  obtain ⟨cu, cc, hrun, hcut⟩ := cut_str hu (k := k) (by omega)
  obtain ⟨_, b, off, rfl, hb, a0, m0⟩ := hu.at hk
  rw [Nat.mul_one] at a0
  have hbk := hS b hb
  obtain ⟨w2, hwe, hs2, hbel, q0, q1, q2⟩ : ∃ w2, w.alloc (.cells #[.slice (some ⟨b, off, none⟩) m.uses.length u3, .slice t1 t2 t3, .slice f1 f2 f3] 26) = w2 ∧ w2.heap.size = w.heap.size + 1 ∧ Below w.heap.size w w2 ∧
      w2.cell? ⟨w.heap.size, 0, none⟩ = some (.slice (some ⟨b, off, none⟩) m.uses.length u3) ∧ w2.cell? ⟨w.heap.size, 1, none⟩ = some (.slice t1 t2 t3) ∧ w2.cell? ⟨w.heap.size, 2, none⟩ = some (.slice f1 f2 f3) :=
    ⟨_, rfl, by simp, (Below.refl _ _).alloc (Nat.le_refl _) _, by simp [go_sem], by simp [go_sem], by simp [go_sem]⟩
  have hk' : (k : Int) < (m.uses.length : Int) := by omega
  have hk0 : (0 : Int) ≤ (k : Int) := by omega
  have HU : Hid (∀ s, Calls Try.prog 50 #[.slice cu k cc, .string s] w2 fun e w' => e = .returned (.bool (hasS (m.uses.take k) s)) ∧ Below w2.heap.size w2 w') := fun s =>
    contains_str S _ s _ w2 (fun b hb => Nat.lt_of_lt_of_le (hS b hb) hbel.size) (strSl_keep (Keeps.below hbel hS) hcut)
  have d0 := (hbel.cell (p := ⟨b, off + k, none⟩) hbk).trans a0
  have HE : Hid (useCode m.uses l k = if hasS (m.uses.take k) m.uses[k] = true then 4 else if fromOk m.uses l m.uses[k] = true then 0 else 3) := by
    show useCode m.uses l k = _
    unfold useCode
    rw [useName_at hk]
  have HBel := veil hbel
  have HWe := veil hwe
  have d0' : (w.alloc (.cells #[.slice (some ⟨b, off, none⟩) m.uses.length u3, .slice t1 t2 t3, .slice f1 f2 f3] 26)).cell? ⟨b, off + k, none⟩ = some (.string m.uses[k]) := by rw [hwe]; exact d0
  clear hu ht hf hv hcut a0 m0 hwe hbel
  generalize m.uses[k] = s at *
  go_enter Try.func26, Try.ntmps26
  go_wp2_with fail
  rw [HWe.out]
  refine (HU.out _).mono ?_
  rintro e w3 ⟨rfl, hb3⟩
  have c0 := (hb3.cell (p := ⟨w.heap.size, 0, none⟩) (by show w.heap.size < _; omega)).trans q0
  have c1 := (hb3.cell (p := ⟨w.heap.size, 1, none⟩) (by show w.heap.size < _; omega)).trans q1
  have c2 := (hb3.cell (p := ⟨w.heap.size, 2, none⟩) (by show w.heap.size < _; omega)).trans q2
  have HB3 := veil (HBel.out.trans (hb3.mono HBel.out.size))
  clear hb3 q0 q1 q2 d0 d0' hrun
  cases hh : hasS (m.uses.take k) s with
  | true =>
    have HR : Hid (useCode m.uses l k = 4) := by rw [HE.out, hh]; exact if_pos rfl
    clear HE HU HC
    go_wp2_with fail
    go_ret
    exact ⟨by rw [HR.out]; rfl, HB3.out⟩
  | false =>
    have HC2 := veil (HC.out w3 s HB3.out)
    clear HU HC
    go_wp2_with fail
    refine HC2.out.mono ?_
    rintro e w4 ⟨x1, x2, x3, y1, y2, y3, rfl, hb4⟩
    have HB4 := veil (HB3.out.trans (hb4.mono HB3.out.size))
    clear hb4 HC2 c0 c1 c2
    cases ho : fromOk m.uses l s with
    | true =>
      have HR : Hid (useCode m.uses l k = 0) := by rw [HE.out, hh, ho]; rfl
      clear HE
      go_wp2_with fail
      go_ret
      exact ⟨by rw [HR.out]; rfl, HB4.out.alloc HB4.out.size _⟩
    | false =>
      have HR : Hid (useCode m.uses l k = 3) := by rw [HE.out, hh, ho]; rfl
      clear HE
      go_wp2_with fail
      go_ret
      exact ⟨by rw [HR.out]; rfl, HB4.out.alloc HB4.out.size _⟩

end Go.Proofs.Ytkdailcadcfepaf
