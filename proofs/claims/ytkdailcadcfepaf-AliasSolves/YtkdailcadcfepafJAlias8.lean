/- What alias.Uses answers: what is wrong with each use, in their order. -/
import Derived.Test.YtkdailcadcfepafJAlias7
import Derived.Test.YtkdailcadcfepafJReadTree
namespace Go.Proofs.Ytkdailcadcfepaf
open Go.RowKit

theorem ident_eight {s : ByteArray} (h : identOk s = true) : s.size ≤ 8 := by
  unfold identOk wordOk at h
  simp only [Bool.and_eq_true] at h
  have := h.1.1
  simp [isIn] at this
  omega
theorem mo_counts {m : Mo} (h : moFault m = 0) (hz : moSmall m) : m.uses.length + m.types.length + m.funcs.length ≤ 24 := by
  have hr := reachBytes_lt
  obtain ⟨z1, z2, z3⟩ := hz
  unfold moFault at h
  by_cases hc : 24 < wrap64 (wrap64 ((m.uses.length : Int) + m.types.length) + m.funcs.length)
  · rw [if_pos hc] at h; exact absurd h (by decide)
  · unfold wrap64 at hc
    omega
theorem mo_uses {m : Mo} (h : moFault m = 0) : ∀ s ∈ m.uses, identOk s = true := by
  unfold moFault at h
  by_cases hc : 24 < wrap64 (wrap64 ((m.uses.length : Int) + m.types.length) + m.funcs.length)
  · rw [if_pos hc] at h; exact absurd h (by decide)
  · rw [if_neg hc] at h
    by_cases hu : firstBad useFault m.uses ≠ 0
    · rw [if_pos hu] at h; exact absurd h hu
    · intro s hs
      obtain ⟨k, hk, rfl⟩ := List.getElem_of_mem hs
      have := firstBad_all useFault m.uses (by omega) k hk
      unfold useFault at this
      by_cases hi : identOk m.uses[k] = true
      · exact hi
      · rw [if_neg hi] at this; exact absurd this (by decide)
theorem mo_types {m : Mo} (h : moFault m = 0) : ∀ f ∈ m.types, identOk f.name = true ∧ tyFault f.is 1 = 0 := by
  unfold moFault at h
  by_cases hc : 24 < wrap64 (wrap64 ((m.uses.length : Int) + m.types.length) + m.funcs.length)
  · rw [if_pos hc] at h; exact absurd h (by decide)
  · rw [if_neg hc] at h
    by_cases hu : firstBad useFault m.uses ≠ 0
    · rw [if_pos hu] at h; exact absurd h hu
    · rw [if_neg hu] at h
      by_cases ht : firstBad fdFault m.types ≠ 0
      · rw [if_pos ht] at h; exact absurd h ht
      · intro s hs
        obtain ⟨k, hk, rfl⟩ := List.getElem_of_mem hs
        have := firstBad_all fdFault m.types (by omega) k hk
        unfold fdFault at this
        by_cases hi : identOk (m.types[k]).name = true
        · rw [if_pos hi] at this; exact ⟨hi, this⟩
        · rw [if_neg hi] at this; exact absurd this (by decide)

set_option maxHeartbeats 4000000 in
theorem uses_any (S : Nat → Prop) (m : Mo) (l : List Im) (vm v : Value) (w : World) (hS : ∀ b, S b → b < w.heap.size) (hm : MoIs S w m vm) (hv : SlAt S (ImAt S w) 4 l v) (hz : m.uses.length ≤ 24) (hn : ∀ s ∈ m.uses, s.size ≤ 8) :
    Calls Try.prog 9 #[vm, v] w fun e w' => ∃ u, e = .returned u ∧ SlAt (fun b => w.heap.size ≤ b ∧ b < w'.heap.size) (DgAt w') 2 (usesUpto m.uses l m.uses.length) u ∧ Below w.heap.size w w' := by
  have HC : Hid (∀ W k, k < m.uses.length → Below w.heap.size w W → Calls Try.prog 26 #[vm, v, .int .i64 (k : Nat)] W fun e w' => e = .returned (.int .i64 (useCode m.uses l k)) ∧ Below W.heap.size W w') := fun W k hk hW =>
    checkUse_any S m l k vm v W (fun b hb => Nat.lt_of_lt_of_le (hS b hb) hW.size) (hm.keep (Keeps.below hW hS)) (imSl_keep (Keeps.below hW hS) hv) hk
  obtain ⟨vu, vt, vf, rfl, hu, ht, hf⟩ := hm
  have HU := veil hu
  have hlen := hu.len
  unfold maxLen at hlen
  obtain ⟨u1, u3, rfl⟩ := hu.is
  obtain ⟨t1, t2, t3, rfl⟩ := ht.slice
  obtain ⟨f1, f2, f3, rfl⟩ := hf.slice
  obtain ⟨a, n, cap, rfl⟩ := hv.slice
  obtain ⟨w0, hwe, hs0, hA, q0, q1, q2⟩ : ∃ w0, w.alloc (.cells #[.slice u1 m.uses.length u3, .slice t1 t2 t3, .slice f1 f2 f3] 26) = w0 ∧ w0.heap.size = w.heap.size + 1 ∧ Below w.heap.size w w0 ∧
      w0.cell? ⟨w.heap.size, 0, none⟩ = some (.slice u1 m.uses.length u3) ∧ w0.cell? ⟨w.heap.size, 1, none⟩ = some (.slice t1 t2 t3) ∧ w0.cell? ⟨w.heap.size, 2, none⟩ = some (.slice f1 f2 f3) :=
    ⟨_, rfl, by simp, (Below.refl _ _).alloc (Nat.le_refl _) _, by simp [go_sem], by simp [go_sem], by simp [go_sem]⟩
  have HBox : Hid (∀ W, Below w0.heap.size w0 W → (W.cell? ⟨w.heap.size, 0, none⟩ = some (.slice u1 m.uses.length u3) ∧ W.cell? ⟨w.heap.size, 1, none⟩ = some (.slice t1 t2 t3) ∧ W.cell? ⟨w.heap.size, 2, none⟩ = some (.slice f1 f2 f3)) ∧ Below w.heap.size w W ∧ w.heap.size + 1 ≤ W.heap.size) := fun W h =>
    ⟨⟨(h.cell (p := ⟨w.heap.size, 0, none⟩) (by show w.heap.size < _; omega)).trans q0, (h.cell (p := ⟨w.heap.size, 1, none⟩) (by show w.heap.size < _; omega)).trans q1, (h.cell (p := ⟨w.heap.size, 2, none⟩) (by show w.heap.size < _; omega)).trans q2⟩, hA.trans (h.mono hA.size), by have := h.size; omega⟩
  have HWe := veil hwe
  have HN : Hid (∀ k (hk : k < m.uses.length), (m.uses[k]).size ≤ 8) := fun k hk => hn _ (List.getElem_mem hk)
  have HSz : Hid (∀ t ∈ usesUpto m.uses l m.uses.length, t.wh.size ≤ maxLen) := by
    show ∀ t ∈ usesUpto m.uses l m.uses.length, t.wh.size ≤ maxLen
    have : ∀ k, k ≤ m.uses.length → ∀ t ∈ usesUpto m.uses l k, t.wh.size ≤ maxLen := by
      intro k
      induction k with
      | zero => intro _ t ht; cases ht
      | succ k ih =>
        intro hk t ht
        rw [usesUpto] at ht
        rcases List.mem_append.1 ht with h | h
        · exact ih (by omega) t h
        · unfold useStep at h
          by_cases hc : useCode m.uses l k = 0
          · rw [if_pos hc] at h; cases h
          · rw [if_neg hc] at h
            rw [List.mem_singleton.1 h]
            show (useName m.uses k).size ≤ _
            rw [useName_at (by omega)]
            have := hn _ (List.getElem_mem (show k < m.uses.length by omega))
            unfold maxLen; omega
    exact this _ (Nat.le_refl _)
  clear hu ht hf hv hwe hA q0 q1 q2 hn
  obtain ⟨i0, hi, hz0, hz1, hz2⟩ := info_parts infoDg
  go_enter Try.func9, Try.ntmps9
  go_wp2_with fail
  rw [HWe.out]
  clear HWe
  go_loopw [5, 12] (fun v i wr => ∃ k : Nat, k ≤ m.uses.length ∧ i = .int .i64 k ∧ wr.ownsRow (w.heap.size + 1) 62 2 v (usesUpto m.uses l k).length (dgCells (usesUpto m.uses l k)) ∧ Below w0.heap.size w0 wr) (fun _ i _ => m.uses.length - (intOf i).toNat)
  case atStart => exact ⟨0, Nat.zero_le _, rfl, World.ownsRow_nil _ _ _ _, Below.refl _ _⟩
  case round =>
    obtain ⟨k, hk, rfl, hown, hbl⟩ := hrel
    obtain ⟨⟨c0, c1, c2⟩, hbw, hsz⟩ := HBox.out _ hbl
    have HOwn := veil hown
    have HBl := veil hbl
    have HBw := veil hbw
    clear hown hbl hbw
    by_cases hlt : k < m.uses.length
    · have hlt' : (k : Int) < (m.uses.length : Int) := by omega
      obtain ⟨_, b, off, rfl, hb, a0, m0⟩ := HU.out.at hlt
      rw [Nat.mul_one] at a0
      have hbk := hS b hb
      have d0 := (HBw.out.cell (p := ⟨b, off + k, none⟩) hbk).trans a0
      have HC2 := veil (HC.out wr k hlt HBw.out)
      have hnk := HN.out k hlt
      have hnm : useName m.uses k = m.uses[k] := useName_at hlt
      have HNm := veil hnm
      have HLe := veil (usesUpto_le m.uses l k)
      clear a0 m0 hnm HC HU
      generalize m.uses[k] = s at *
      go_wp2_with fail
      refine HC2.out.mono ?_
      rintro e w1 ⟨rfl, hb1⟩
      have hbl1 := HBl.out.trans (hb1.mono HBl.out.size)
      obtain ⟨⟨e0, e1, e2⟩, hbw1, hsz1⟩ := HBox.out _ hbl1
      have HOwn1 := veil (ownsRow_later HOwn.out hb1)
      have HBl1 := veil hbl1
      clear c0 c1 c2 hb1 hbl1 hbw1 HC2 HOwn d0
      by_cases hc : useCode m.uses l k = 0
      · have hc' : (useCode m.uses l k != 0) = false := by simp [hc]
        have HZ := veil (usesUpto_zero hc)
        clear hc
        generalize useCode m.uses l k = c at *
        go_wp2_with fail
        exact ⟨⟨k + 1, by omega, by go_num, by rw [HZ.out]; exact HOwn1.out, HBl1.out⟩, by simp [intOf]; omega⟩
      · have hc' : (useCode m.uses l k != 0) = true := by simp [hc]
        have HZ := veil (usesUpto_one hc)
        rw [HNm.out] at HZ
        clear hc HNm
        generalize useCode m.uses l k = c at *
        go_wp2_with fail
        refine (diag_any s c _ (by omega)).mono ?_
        rintro e w2 ⟨rfl, hb2⟩
        have hbl2 := HBl1.out.trans (hb2.mono HBl1.out.size)
        have hown2 := ownsRow_later HOwn1.out hb2
        obtain ⟨-, hbw2, hsz2⟩ := HBox.out _ hbl2
        have HBl2 := veil hbl2
        clear e0 e1 e2 hb2 hbl2 hbw2 HOwn1 HBl1
        go_wp2_with (at_builtin; refine wpList_append_own _ rfl _ _ 29 rfl (w.heap.size + 1) 62 i0 (.agg #[.string ⟨#[]⟩, .int .i64 0]) 2 24 Try.underlying29 hi hz0 hz1 hz2 rfl (by decide) _ _ _ rfl (hown2.alloc _) ⟨w2.heap.size, 0, none⟩ 1 1 [.string s, .int .i64 c] rfl rfl ?c1 ?c2 ?c3 ?c4 ?c5 ?_)
        case c1 => exact cell_two_new _ _ _ _
        case c2 =>
          intro u hu
          simp at hu
          rcases hu with rfl | rfl <;> rfl
        case c3 => have := HLe.out; unfold maxLen; omega
        case c4 => have := HLe.out; omega
        case c5 => simp; omega
        intro v' w3 hown3 hgrow _
        have hrow := ownsRow_at hown2
        have HL3 : Hid (Below w0.heap.size w0 w3) := (HBl2.out.alloc (by omega) (.cells #[.string s, .int .i64 c] 62)).grown hgrow (by simp; omega) (fun j hj => by have := hrow j hj; omega)
        have HO3 : Hid (w3.ownsRow (w.heap.size + 1) 62 2 v' (usesUpto m.uses l (k + 1)).length (dgCells (usesUpto m.uses l (k + 1)))) := by
          show w3.ownsRow _ _ _ _ _ _
          rw [HZ.out, dgCells_snoc, List.length_append]
          exact hown3
        clear hown3 hgrow hrow hown2
        go_wp2_with fail
        exact ⟨⟨k + 1, by omega, by go_num, HO3.out, HL3.out⟩, by simp [intOf]; omega⟩
    · have hnl : ¬ (k : Int) < (m.uses.length : Int) := by omega
      have hke : k = m.uses.length := by omega
      subst hke
      have HFin := veil (ownsRow_dgs HOwn.out (Nat.le_trans (usesUpto_le _ _ _) (by unfold maxLen; omega)) HSz.out)
      clear HOwn HU HC
      go_wp2_with fail
      go_ret
      refine ⟨_, rfl, HFin.out.imp (fun b hb => ⟨by omega, hb.2⟩) (fun _ _ _ _ _ h => h), HBw.out⟩

end Go.Proofs.Ytkdailcadcfepaf
