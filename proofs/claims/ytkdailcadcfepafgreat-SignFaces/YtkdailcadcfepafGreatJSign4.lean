/- What sign.One answers. -/
import Derived.Test.YtkdailcadcfepafGreatJSign3
namespace Go.Proofs.YtkdailcadcfepafGreat
open Go.RowKit
set_option maxRecDepth 100000

def fnName (m : Mo) (k : Nat) : ByteArray := ((m.funcs[k]?).map Fu.name).getD noneS
def oneCode (m : Mo) (l : List Im) (k : Nat) : Int := match m.funcs[k]? with
  | some f => if hasFu (m.funcs.take k) f.name = true then 4 else sigCode (rhoR m l f.var) f
  | none => 6
def oneSg (m : Mo) (l : List Im) (k : Nat) : Sg := match m.funcs[k]? with
  | some f => if hasFu (m.funcs.take k) f.name = true then ⟨noneS, [], noneS⟩ else sigOf (rhoR m l f.var) f
  | none => ⟨noneS, [], noneS⟩
theorem fnName_at {m : Mo} {k : Nat} (h : k < m.funcs.length) : fnName m k = m.funcs[k].name := by
  unfold fnName
  rw [List.getElem?_eq_getElem h]; rfl
theorem oneCode_at {m : Mo} {l : List Im} {k : Nat} (h : k < m.funcs.length) : oneCode m l k = (if hasFu (m.funcs.take k) m.funcs[k].name = true then 4 else sigCode (rhoR m l m.funcs[k].var) m.funcs[k]) ∧ oneSg m l k = (if hasFu (m.funcs.take k) m.funcs[k].name = true then ⟨noneS, [], noneS⟩ else sigOf (rhoR m l m.funcs[k].var) m.funcs[k]) := by
  unfold oneCode oneSg
  rw [List.getElem?_eq_getElem h]
  exact ⟨rfl, rfl⟩

/-- a function that may be. -/
def FuMay (f : Fu) : Prop := identOk f.name = true ∧ f.params.length ≤ 8 ∧ (∀ p ∈ f.params, identOk p.name = true ∧ tyFault p.is 1 = 0) ∧ tyFault f.result 1 = 0
theorem fuMay_of {f : Fu} (h : fuFault f = 0) : FuMay f := by
  unfold fuFault at h
  by_cases h1 : identOk f.name = false ∨ noneOrIdent f.var = false
  · rw [if_pos h1] at h; exact absurd h (by decide)
  · rw [if_neg h1] at h
    by_cases h2 : 8 < f.params.length
    · rw [if_pos h2] at h; exact absurd h (by decide)
    · rw [if_neg h2] at h
      by_cases h3 : firstBad fdFault f.params ≠ 0
      · rw [if_pos h3] at h; exact absurd h h3
      · rw [if_neg h3] at h
        by_cases h4 : tyFault f.result 1 ≠ 0
        · rw [if_pos h4] at h; exact absurd h h4
        · refine ⟨?_, by omega, fun p hp => ?_, by simpa using h4⟩
          · cases hi : identOk f.name with
            | true => rfl
            | false => exact absurd (Or.inl hi) h1
          · obtain ⟨k, hk, rfl⟩ := List.getElem_of_mem hp
            have := firstBad_all fdFault f.params (by simpa using h3) k hk
            unfold fdFault at this
            by_cases hi : identOk (f.params[k]).name = true
            · rw [if_pos hi] at this; exact ⟨hi, this⟩
            · rw [if_neg hi] at this; exact absurd this (by decide)
theorem mo_funcs {m : Mo} (h : moFault m = 0) : ∀ f ∈ m.funcs, FuMay f := by
  unfold moFault at h
  by_cases hc : 24 < wrap64 (wrap64 ((m.uses.length : Int) + m.types.length) + m.funcs.length)
  · rw [if_pos hc] at h; exact absurd h (by decide)
  · rw [if_neg hc] at h
    by_cases hu : firstBad useFault m.uses ≠ 0
    · rw [if_pos hu] at h; exact absurd h hu
    · rw [if_neg hu] at h
      by_cases ht : firstBad fdFault m.types ≠ 0
      · rw [if_pos ht] at h; exact absurd h ht
      · rw [if_neg ht] at h
        intro f hf
        obtain ⟨k, hk, rfl⟩ := List.getElem_of_mem hf
        exact fuMay_of (firstBad_all fuFault m.funcs h k hk)

theorem mo_funcs_sl {S : Nat → Prop} {w : World} {m : Mo} {x y z : Value} (h : MoIs S w m (.agg #[x, y, z])) : SlAt S (FuAt S w) 12 m.funcs z := by
  obtain ⟨vu, vt, vf, e, _, _, h3⟩ := h
  injection e with e
  have e' : [x, y, z] = [vu, vt, vf] := congrArg Array.toList e
  injection e' with _ e'
  injection e' with _ e'
  injection e' with e3 _
  rw [e3]; exact h3

set_option maxRecDepth 100000 in
set_option maxHeartbeats 8000000 in
theorem one_any (S : Nat → Prop) (m : Mo) (l : List Im) (k : Nat) (vm vl : Value) (w : World) (hS : ∀ b, S b → b < w.heap.size) (hm : MoIs S w m vm) (hl : SlAt S (ImAt S w) 4 l vl) (hz : ∀ i ∈ l, fcSmall i.face) (hty : ∀ f ∈ m.types, tyFault f.is 1 = 0) (hn : m.types.length ≤ reachBytes) (hfu : ∀ f ∈ m.funcs, FuMay f) (hk : k < m.funcs.length) :
    Calls Tryz.prog 12 #[vm, vl, .int .i64 (k : Nat)] w (Signs w (oneSg m l k) (oneCode m l k)) := by
  obtain ⟨hoc, hos⟩ := oneCode_at (l := l) hk
  obtain ⟨vu, vty, vf, rfl, hu, hts, hf⟩ := id hm
  have hlen := hf.len
  unfold maxLen at hlen
  obtain ⟨u1, u2, u3, rfl⟩ := hu.slice
  obtain ⟨t1, t2, t3, rfl⟩ := hts.slice
  obtain ⟨f1, f3, rfl⟩ := hf.is
  obtain ⟨la, ln, lc, rfl⟩ := hl.slice
  obtain ⟨hident, h8, hps8, htr⟩ := hfu _ (List.getElem_mem hk)
  obtain ⟨cu, cc, hrun, hcut⟩ := cut_fu hf (k := k) (by omega)
  obtain ⟨_, b, off, rfl, hb, hat⟩ := hf.at hk
  obtain ⟨vp1, vp2, vp3, kd, fo, na, p1, p2, p3, ke, ne, fe, se, ve1, ve2, ve3, a0, a1, a2, a3, a4, a5, a6, a7, a8, a9, a10, a11, hsz0, hsz1, hps, hcs, hce⟩ := fu_cells hat
  have hbw := hS b hb
  have HDec : Hid (∀ W, Below w.heap.size w W → Calls Tryz.prog 27 #[.slice cu k cc, .string m.funcs[k].name] W fun e w' => e = .returned (.bool (hasFu (m.funcs.take k) m.funcs[k].name)) ∧ Below W.heap.size W w') := fun W hW =>
    declared_any S (m.funcs.take k) _ _ W (fun b hb => Nat.lt_of_lt_of_le (hS b hb) hW.size) (fuSl_keep (Keeps.below hW hS) hcut)
  obtain ⟨w0, hwe0, hs0, hbel0, m0, m1, m2, m3, y0, y1, y2, z0, z1, z2⟩ : ∃ w0, ((w.alloc (.cells #[.slice u1 u2 u3, .slice t1 t2 t3, .slice (some ⟨b, off, none⟩) m.funcs.length f3] 26)).alloc (.cells #[.slice la ln lc] 27)).alloc (.cells #[.string ⟨#[]⟩, .slice none 0 0, .string ⟨#[]⟩] 52) = w0 ∧ w0.heap.size = w.heap.size + 3 ∧ Below w.heap.size w w0 ∧
      w0.cell? ⟨w.heap.size, 0, none⟩ = some (.slice u1 u2 u3) ∧ w0.cell? ⟨w.heap.size, 1, none⟩ = some (.slice t1 t2 t3) ∧ w0.cell? ⟨w.heap.size, 2, none⟩ = some (.slice (some ⟨b, off, none⟩) m.funcs.length f3) ∧ w0.cell? ⟨w.heap.size + 1, 0, none⟩ = some (.slice la ln lc) ∧
      w0.cell? ⟨w.heap.size + 2, 0, none⟩ = some (.string ⟨#[]⟩) ∧ w0.cell? ⟨w.heap.size + 2, 1, none⟩ = some (.slice none 0 0) ∧ w0.cell? ⟨w.heap.size + 2, 2, none⟩ = some (.string ⟨#[]⟩) ∧ w0.frozen? ⟨w.heap.size + 2, 0, none⟩ = false ∧ w0.frozen? ⟨w.heap.size + 2, 1, none⟩ = false ∧ w0.frozen? ⟨w.heap.size + 2, 2, none⟩ = false :=
    ⟨_, rfl, by simp, (((Below.refl _ _).alloc (Nat.le_refl _) _).alloc (by simp) _).alloc (by simp; omega) _, by simp [go_sem], by simp [go_sem], by simp [go_sem], by simp [go_sem], by simp [go_sem], by simp [go_sem], by simp [go_sem], by simp [go_sem], by simp [go_sem], by simp [go_sem]⟩
  obtain ⟨w2, hwe, hs2, hbel2, c0, c1, c2, c3, c4, c5, c6, c7, c8, c9, c10, c11⟩ : ∃ w2, w0.alloc (.cells #[.string m.funcs[k].name, .string m.funcs[k].var, .slice vp1 vp2 vp3, .int .i64 kd, .string fo, .string na, .slice p1 p2 p3, .int .i64 ke, .int .i64 ne, .string fe, .string se, .slice ve1 ve2 ve3] 50) = w2 ∧ w2.heap.size = w.heap.size + 4 ∧ Below w0.heap.size w0 w2 ∧
      w2.cell? ⟨w.heap.size + 3, 0, none⟩ = some (.string m.funcs[k].name) ∧ w2.cell? ⟨w.heap.size + 3, 1, none⟩ = some (.string m.funcs[k].var) ∧ w2.cell? ⟨w.heap.size + 3, 2, none⟩ = some (.slice vp1 vp2 vp3) ∧ w2.cell? ⟨w.heap.size + 3, 3, none⟩ = some (.int .i64 kd) ∧ w2.cell? ⟨w.heap.size + 3, 4, none⟩ = some (.string fo) ∧ w2.cell? ⟨w.heap.size + 3, 5, none⟩ = some (.string na) ∧ w2.cell? ⟨w.heap.size + 3, 6, none⟩ = some (.slice p1 p2 p3) ∧
      w2.cell? ⟨w.heap.size + 3, 7, none⟩ = some (.int .i64 ke) ∧ w2.cell? ⟨w.heap.size + 3, 8, none⟩ = some (.int .i64 ne) ∧ w2.cell? ⟨w.heap.size + 3, 9, none⟩ = some (.string fe) ∧ w2.cell? ⟨w.heap.size + 3, 10, none⟩ = some (.string se) ∧ w2.cell? ⟨w.heap.size + 3, 11, none⟩ = some (.slice ve1 ve2 ve3) := by
    rw [← hs0]
    exact ⟨_, rfl, by simp; omega, (Below.refl _ _).alloc (Nat.le_refl _) _, by simp [go_sem], by simp [go_sem], by simp [go_sem], by simp [go_sem], by simp [go_sem], by simp [go_sem], by simp [go_sem], by simp [go_sem], by simp [go_sem], by simp [go_sem], by simp [go_sem], by simp [go_sem]⟩
  have HBox : Hid (∀ W, Below w2.heap.size w2 W → ((W.cell? ⟨w.heap.size, 0, none⟩ = some (.slice u1 u2 u3) ∧ W.cell? ⟨w.heap.size, 1, none⟩ = some (.slice t1 t2 t3) ∧ W.cell? ⟨w.heap.size, 2, none⟩ = some (.slice (some ⟨b, off, none⟩) m.funcs.length f3) ∧ W.cell? ⟨w.heap.size + 1, 0, none⟩ = some (.slice la ln lc)) ∧
      (W.cell? ⟨w.heap.size + 2, 0, none⟩ = some (.string ⟨#[]⟩) ∧ W.cell? ⟨w.heap.size + 2, 1, none⟩ = some (.slice none 0 0) ∧ W.cell? ⟨w.heap.size + 2, 2, none⟩ = some (.string ⟨#[]⟩)) ∧ (W.frozen? ⟨w.heap.size + 2, 0, none⟩ = false ∧ W.frozen? ⟨w.heap.size + 2, 1, none⟩ = false ∧ W.frozen? ⟨w.heap.size + 2, 2, none⟩ = false)) ∧ Below w.heap.size w W ∧
      (W.cell? ⟨w.heap.size + 3, 0, none⟩ = some (.string m.funcs[k].name) ∧ W.cell? ⟨w.heap.size + 3, 1, none⟩ = some (.string m.funcs[k].var) ∧ W.cell? ⟨w.heap.size + 3, 2, none⟩ = some (.slice vp1 vp2 vp3) ∧ W.cell? ⟨w.heap.size + 3, 3, none⟩ = some (.int .i64 kd) ∧ W.cell? ⟨w.heap.size + 3, 4, none⟩ = some (.string fo) ∧ W.cell? ⟨w.heap.size + 3, 5, none⟩ = some (.string na) ∧ W.cell? ⟨w.heap.size + 3, 6, none⟩ = some (.slice p1 p2 p3) ∧
      W.cell? ⟨w.heap.size + 3, 7, none⟩ = some (.int .i64 ke) ∧ W.cell? ⟨w.heap.size + 3, 8, none⟩ = some (.int .i64 ne) ∧ W.cell? ⟨w.heap.size + 3, 9, none⟩ = some (.string fe) ∧ W.cell? ⟨w.heap.size + 3, 10, none⟩ = some (.string se) ∧ W.cell? ⟨w.heap.size + 3, 11, none⟩ = some (.slice ve1 ve2 ve3))) := fun W hW => by
    have hW0 := hbel2.trans (hW.mono hbel2.size)
    have l0 : w.heap.size < w0.heap.size := by omega
    have l1 : w.heap.size + 1 < w0.heap.size := by omega
    have l2 : w.heap.size + 2 < w0.heap.size := by omega
    have l3 : w.heap.size + 3 < w2.heap.size := by omega
    exact ⟨⟨⟨(hW0.cell (p := ⟨w.heap.size, 0, none⟩) l0).trans m0, (hW0.cell (p := ⟨w.heap.size, 1, none⟩) l0).trans m1, (hW0.cell (p := ⟨w.heap.size, 2, none⟩) l0).trans m2, (hW0.cell (p := ⟨w.heap.size + 1, 0, none⟩) l1).trans m3⟩,
      ⟨(hW0.cell (p := ⟨w.heap.size + 2, 0, none⟩) l2).trans y0, (hW0.cell (p := ⟨w.heap.size + 2, 1, none⟩) l2).trans y1, (hW0.cell (p := ⟨w.heap.size + 2, 2, none⟩) l2).trans y2⟩, (hW0.frozen (p := ⟨w.heap.size + 2, 0, none⟩) l2).trans z0, (hW0.frozen (p := ⟨w.heap.size + 2, 1, none⟩) l2).trans z1, (hW0.frozen (p := ⟨w.heap.size + 2, 2, none⟩) l2).trans z2⟩, hbel0.trans (hW0.mono hbel0.size),
      (hW.cell (p := ⟨w.heap.size + 3, 0, none⟩) l3).trans c0, (hW.cell (p := ⟨w.heap.size + 3, 1, none⟩) l3).trans c1, (hW.cell (p := ⟨w.heap.size + 3, 2, none⟩) l3).trans c2, (hW.cell (p := ⟨w.heap.size + 3, 3, none⟩) l3).trans c3, (hW.cell (p := ⟨w.heap.size + 3, 4, none⟩) l3).trans c4, (hW.cell (p := ⟨w.heap.size + 3, 5, none⟩) l3).trans c5, (hW.cell (p := ⟨w.heap.size + 3, 6, none⟩) l3).trans c6, (hW.cell (p := ⟨w.heap.size + 3, 7, none⟩) l3).trans c7, (hW.cell (p := ⟨w.heap.size + 3, 8, none⟩) l3).trans c8, (hW.cell (p := ⟨w.heap.size + 3, 9, none⟩) l3).trans c9, (hW.cell (p := ⟨w.heap.size + 3, 10, none⟩) l3).trans c10, (hW.cell (p := ⟨w.heap.size + 3, 11, none⟩) l3).trans c11⟩
  have HSet : Hid (∀ W v0 v1 v2, Below w.heap.size w W → Below w.heap.size w (((W.setCell ⟨w.heap.size + 2, 0, none⟩ v0).setCell ⟨w.heap.size + 2, 1, none⟩ v1).setCell ⟨w.heap.size + 2, 2, none⟩ v2)) := fun W v0 v1 v2 h =>
    ((h.setCell (by show w.heap.size ≤ w.heap.size + 2; omega) _).setCell (by show w.heap.size ≤ w.heap.size + 2; omega) _).setCell (by show w.heap.size ≤ w.heap.size + 2; omega) _
  have HSig : Hid (∀ W, Below w2.heap.size w2 W → Calls Tryz.prog 28 #[.agg #[.string m.funcs[k].name, .string m.funcs[k].var, .slice vp1 vp2 vp3, .int .i64 kd, .string fo, .string na, .slice p1 p2 p3, .int .i64 ke, .int .i64 ne, .string fe, .string se, .slice ve1 ve2 ve3], .func (.func 29) #[] #[.pointer (some ⟨w.heap.size, 0, none⟩), .pointer (some ⟨w.heap.size + 1, 0, none⟩), .pointer (some ⟨w.heap.size + 3, 0, none⟩)]] W (Signs W (sigOf (rhoR m l m.funcs[k].var) m.funcs[k]) (sigCode (rhoR m l m.funcs[k].var) m.funcs[k]))) := fun W hW => by
    obtain ⟨_, hWw, _⟩ := HBox.out W hW
    have hSW : ∀ b, S b → b < W.heap.size := fun b hb => Nat.lt_of_lt_of_le (hS b hb) hWw.size
    refine sig_any S (rhoR m l m.funcs[k].var) m.funcs[k] vp1 p1 ve1 vp2 vp3 p2 p3 ve2 ve3 kd ke ne fo na fe se w.heap.size (w.heap.size + 1) (w.heap.size + 3) W hSW (fdSl_keep (Keeps.below hWw hS) hps) (hcs.keep (Keeps.below hWw hS)) h8 (fun p hp => (hps8 p hp).2) htr (ident_eight hident) (fun t => rhoR_size hz _ t) (fun W' t u hW' ht hu' => ?_)
    have h2 := hW.trans (hW'.mono hW.size)
    obtain ⟨⟨⟨q0, q1, q2, q3⟩, _, _⟩, hWw', ⟨_, q4, _⟩⟩ := HBox.out W' h2
    exact oneCl_any S m l m.funcs[k].var t u1 t1 (some ⟨b, off, none⟩) la u2 u3 t2 t3 m.funcs.length f3 ln lc u w.heap.size (w.heap.size + 1) (w.heap.size + 3) W' (fun b hb => Nat.lt_of_lt_of_le (hSW b hb) hW'.size) (hm.keep (Keeps.below hWw' hS)) (imSl_keep (Keeps.below hWw' hS) hl) hz hty hn ht hu' q0 q1 q2 q3 q4
  have HW0 := veil hwe0
  have HW2 := veil hwe
  have HB2 := veil hbel2
  have HB0 := veil hbel0
  have d0 := (hbel0.cell (p := ⟨b, off + k * 12, none⟩) hbw).trans a0
  have d1 := (hbel0.cell (p := ⟨b, off + k * 12 + 1, none⟩) hbw).trans a1
  have d2 := (hbel0.cell (p := ⟨b, off + k * 12 + 2, none⟩) hbw).trans a2
  have d3 := (hbel0.cell (p := ⟨b, off + k * 12 + 3, none⟩) hbw).trans a3
  have d4 := (hbel0.cell (p := ⟨b, off + k * 12 + 4, none⟩) hbw).trans a4
  have d5 := (hbel0.cell (p := ⟨b, off + k * 12 + 5, none⟩) hbw).trans a5
  have d6 := (hbel0.cell (p := ⟨b, off + k * 12 + 6, none⟩) hbw).trans a6
  have d7 := (hbel0.cell (p := ⟨b, off + k * 12 + 7, none⟩) hbw).trans a7
  have d8 := (hbel0.cell (p := ⟨b, off + k * 12 + 8, none⟩) hbw).trans a8
  have d9 := (hbel0.cell (p := ⟨b, off + k * 12 + 9, none⟩) hbw).trans a9
  have d10 := (hbel0.cell (p := ⟨b, off + k * 12 + 10, none⟩) hbw).trans a10
  have d11 := (hbel0.cell (p := ⟨b, off + k * 12 + 11, none⟩) hbw).trans a11
  have HOc := veil hoc
  have HOs := veil hos
  clear hm hl hz hty hn hfu hu hts hf hcut hat hsz0 hsz1 hps hcs hce hwe0 hwe hbel0 hbel2 a0 a1 a2 a3 a4 a5 a6 a7 a8 a9 a10 a11 c0 c1 c2 c3 c4 c5 c6 c7 c8 c9 c10 c11 y0 y1 y2 z0 z1 z2 hoc hos hident h8 hps8 htr
  unfold Signs at HSig
  generalize oneSg m l k = og at *
  generalize oneCode m l k = oc at *
  generalize sigOf (rhoR m l m.funcs[k].var) m.funcs[k] = sg at *
  generalize sigCode (rhoR m l m.funcs[k].var) m.funcs[k] = sc at *
  generalize m.funcs[k].name = nm at *
  generalize m.funcs[k].var = vr at *
  generalize hasFu (m.funcs.take k) nm = tk at *
  have hk1 : ¬ (k : Int) < 0 := by omega
  have hk2 : ¬ (m.funcs.length : Int) ≤ (k : Int) := by omega
  have hk3 : (k : Int) < (m.funcs.length : Int) := by omega
  have hk4 : (0 : Int) ≤ (k : Int) := by omega
  go_enter Tryz.func12, Tryz.ntmps12
  go_wp2_with (rw [HW0.out]; clear HW0)
  rw [HW2.out]
  clear HW2
  obtain ⟨⟨⟨q0, q1, q2, q3⟩, _, _⟩, hb2w, ⟨r0, r1, r2, r3, r4, r5, r6, r7, r8, r9, r10, r11⟩⟩ := HBox.out w2 (Below.refl _ _)
  have HB2w := veil hb2w
  have HBd := veil hb2w.drew
  clear hb2w d0 d1 d2 d3 d4 d5 d6 d7 d8 d9 d10 d11 m0 m1 m2 m3
  go_region_with (go_at_call 27; refine (HDec.out _ HBd.out).mono ?_; rintro e w3 ⟨rfl, hb3⟩)
  all_goals
    have hb23 : Below w2.heap.size w2 w3 := (Below.refl _ _).drew.trans (hb3.mono (Nat.le_refl _))
    obtain ⟨⟨⟨c0, c1, c2, c3⟩, ⟨g0, g1, g2⟩, h0, h1, h2⟩, hbw3, ⟨e0, e1, e2, e3, e4, e5, e6, e7, e8, e9, e10, e11⟩⟩ := HBox.out w3 hb23
    have HB23 := veil hb23
    have HBw3 := veil hbw3
    clear hb3 hb23 hbw3 q0 q1 q2 q3 r0 r1 r2 r3 r4 r5 r6 r7 r8 r9 r10 r11 hrun
    cases tk with
    | true =>
      have HC : Hid (oc = 4) := by show _ = _; rw [HOc.out, if_pos rfl]
      have HG : Hid (og = ⟨noneS, [], noneS⟩) := by show _ = _; rw [HOs.out, if_pos rfl]
      clear HOc HOs HSig
      go_wp2_with fail
      refine bodyPost_ret (v := .tuple #[.agg #[.string ⟨#[]⟩, .slice none 0 0, .string ⟨#[]⟩], .int .i64 4]) (by simp [results, Tryz.results12, go_sem, g0, g1, g2]) rfl ?_
      refine ⟨none, 0, 0, by rw [HC.out, HG.out]; rfl, ?_, HSet.out _ _ _ _ HBw3.out⟩
      rw [HG.out]
      exact sgNil _ _
    | false =>
      have HC : Hid (oc = sc) := by show _ = _; rw [HOc.out, if_neg (by decide)]
      have HG : Hid (og = sg) := by show _ = _; rw [HOs.out, if_neg (by decide)]
      clear HOc HOs
      go_wp2_with fail
      refine (HSig.out w3 HB23.out).mono ?_
      rintro e w5 ⟨xa, xn, xc, rfl, hsg, hb5⟩
      have hb25 := HB23.out.trans (hb5.mono HB23.out.size)
      obtain ⟨⟨_, ⟨k0, k1, k2⟩, l0, l1, l2⟩, hbw5, _⟩ := HBox.out w5 hb25
      have HFin : Hid (∀ W', (∀ b, w2.heap.size ≤ b → b < w5.heap.size → W'.heap[b]? = w5.heap[b]?) → w5.heap.size ≤ W'.heap.size → SgIs (fun b => w.heap.size ≤ b ∧ b < W'.heap.size) W' sg (.agg #[.string sg.name, .slice xa xn xc, .string sg.result])) := fun W' hk' hsz =>
        hsg.keep ⟨fun b hb => hk' b (Nat.le_trans HB23.out.size hb.1) hb.2, fun b hb => by have := HB23.out.size; omega⟩
      have HBw5 := veil hbw5
      clear hsg hb5 hb25 hbw5 c0 c1 c2 c3 g0 g1 g2 h0 h1 h2 e0 e1 e2 e3 e4 e5 e6 e7 e8 e9 e10 e11 HSig
      generalize hsn : sg.name = sn at *
      generalize hsr : sg.result = sr at *
      have HSn := veil hsn
      have HSr := veil hsr
      clear hsn hsr
      go_wp2_with fail
      refine bodyPost_ret (v := .tuple #[.agg #[.string sn, .slice xa xn xc, .string sr], .int .i64 sc]) (by simp [results, Tryz.results12, go_sem, k0, k1, k2]) rfl ?_
      refine ⟨xa, xn, xc, by rw [HC.out, HG.out, HSn.out, HSr.out], ?_, HSet.out _ _ _ _ HBw5.out⟩
      rw [HG.out, HSn.out, HSr.out]
      exact HFin.out _ (fun b hb _ => by
        rw [Below.heap_setCell _ _ _ _ (by show b ≠ w.heap.size + 2; omega), Below.heap_setCell _ _ _ _ (by show b ≠ w.heap.size + 2; omega), Below.heap_setCell _ _ _ _ (by show b ≠ w.heap.size + 2; omega)]) (by simp)

end Go.Proofs.YtkdailcadcfepafGreat
