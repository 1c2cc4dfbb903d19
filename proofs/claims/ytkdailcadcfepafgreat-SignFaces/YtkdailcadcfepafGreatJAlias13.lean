/- What alias.solve and alias.solveList answer, where the closure that finds names answers so. -/
import Derived.Test.YtkdailcadcfepafGreatJAm
namespace Go.Proofs.YtkdailcadcfepafGreat
open Go.RowKit
set_option maxRecDepth 100000

/-- a type that may be: how it is. -/
theorem ty_parts {k : Int} {o n : ByteArray} {xs : List Ty} {dd : Nat} (h : tyFault (.mk k o n xs) dd = 0) : dd ≤ 10 ∧ (1 ≤ k ∧ k ≤ 4) ∧ (k = 3 → ∃ t, xs = [t] ∧ tyFault t (dd + 1) = 0) ∧ (k = 4 → identOk n = true) := by
  rw [tyFault] at h
  by_cases h1 : 10 < dd
  · rw [if_pos h1] at h; exact absurd h (by decide)
  · rw [if_neg h1] at h
    by_cases h2 : isIn k 1 4 = false
    · rw [if_pos h2] at h; exact absurd h (by decide)
    · rw [if_neg h2] at h
      by_cases h3 : tyFits k o n xs.length = false
      · rw [if_pos h3] at h; exact absurd h (by decide)
      · rw [if_neg h3] at h
        have hk : 1 ≤ k ∧ k ≤ 4 := by simpa [isIn] using h2
        refine ⟨by omega, hk, fun e => ?_, fun e => ?_⟩
        · subst e
          simp [tyFits] at h3
          obtain ⟨t, rfl⟩ := List.length_eq_one_iff.1 h3.1
          refine ⟨t, rfl, ?_⟩
          rw [tysFault] at h
          by_cases h4 : tyFault t (dd + 1) = 0
          · exact h4
          · rw [if_neg h4] at h; exact h
        · subst e
          simp [tyFits] at h3
          exact h3.2.1

set_option maxHeartbeats 2000000 in
theorem solveList_A (w0 : World) (S : Nat → Prop) (hS : ∀ b, S b → b < w0.heap.size) (ρ : ByteArray → ByteArray → Sol) (hρ : ∀ o n, (ρ o n).1.size ≤ maxLen) (Env : World → Prop) (hE0 : ∀ W, Env W → Below w0.heap.size w0 W) (hEk : ∀ W W', Env W → Below W.heap.size W W' → Env W') (mB lB tB fB : Nat) (d : Nat) (HRec : Hid (∀ (t : Ty) (dd : Nat) (v : Value) (W : World), tyFault t dd = 0 → 11 ≤ dd + d → Env W → TyIs S W t v → Calls Tryz.prog 48 #[v, .func (.func 76) #[] #[.pointer (some ⟨mB, 0, none⟩), .pointer (some ⟨lB, 0, none⟩), .pointer (some ⟨tB, 0, none⟩), .pointer (some ⟨fB, 0, none⟩)]] W (Tells w0 (solveP ρ d t)))) (t : Ty) (dd : Nat) (o n : ByteArray) (v : Value) (W : World) (ht : tyFault t (dd + 1) = 0) (hd : 11 ≤ dd + 1 + d) (hW : Env W) (hv : TyIs S W (.mk 3 o n [t]) v) :
    Calls Tryz.prog 78 #[v, .func (.func 76) #[] #[.pointer (some ⟨mB, 0, none⟩), .pointer (some ⟨lB, 0, none⟩), .pointer (some ⟨tB, 0, none⟩), .pointer (some ⟨fB, 0, none⟩)]] W (Tells w0 (listR (solveP ρ d t))) := by
  obtain ⟨k, f, x, va, rfl, xs, e, _, _, hsl⟩ := hv
  injection e with e1 e2 e3 e4
  subst e1 e2 e3 e4
  obtain ⟨a, cap, rfl⟩ := hsl.is
  obtain ⟨_, b, off, rfl, hb, hat⟩ := hsl.at (k := 0) (by simp)
  simp only [List.getElem_cons_zero, Nat.zero_mul, Nat.add_zero] at hat
  obtain ⟨k1, f1, x1, va1, q0, q1, q2, q3, hcs1⟩ := tyAt_cells.1 hat
  obtain ⟨a1, m1, c1, rfl⟩ : ∃ a1 m1 c1, va1 = .slice a1 m1 c1 := by
    obtain ⟨_, _, _, _, hs⟩ := hcs1
    exact SlAt.slice hs
  have hSW : ∀ b, S b → b < W.heap.size := fun b hb => Nat.lt_of_lt_of_le (hS b hb) (hE0 W hW).size
  have hbW := hSW b hb
  obtain ⟨w2, rfl, p3, hbel⟩ : ∃ w2, w2 = W.alloc (.cells #[.int .i64 3, .string o, .string n, .slice (some ⟨b, off, none⟩) 1 cap] 45) ∧ w2.cell? ⟨W.heap.size, 3, none⟩ = some (.slice (some ⟨b, off, none⟩) 1 cap) ∧ Below W.heap.size W w2 :=
    ⟨_, rfl, by simp [go_sem], (Below.refl _ _).alloc (Nat.le_refl _) _⟩
  have d0 := (hbel.cell (p := ⟨b, off, none⟩) hbW).trans q0
  have d1 := (hbel.cell (p := ⟨b, off + 1, none⟩) hbW).trans q1
  have d2 := (hbel.cell (p := ⟨b, off + 2, none⟩) hbW).trans q2
  have d3 := (hbel.cell (p := ⟨b, off + 3, none⟩) hbW).trans q3
  have HR := veil (HRec.out t (dd + 1) (.agg #[.int .i64 k1, .string f1, .string x1, .slice a1 m1 c1]) _ ht hd (hEk _ _ hW hbel) ⟨_, _, _, _, rfl, hcs1.keep (Keeps.below hbel hSW)⟩)
  have HZ := veil (solveP_size hρ d t)
  have HL : Hid (listR (solveP ρ d t) = if (solveP ρ d t).2 = 0 then (if listErr (solveP ρ d t).1 = 0 then (wrapK (solveP ρ d t).1, 0) else (noneS, 5)) else (noneS, (solveP ρ d t).2)) := rfl
  clear hat hcs1 hsl hbel HRec hρ hW hSW q0 q1 q2 q3 ht hd
  generalize listR (solveP ρ d t) = r at *
  generalize solveP ρ d t = sp at *
  obtain ⟨ss, sc⟩ := sp
  obtain ⟨rs, rc⟩ := r
  simp only at HL HZ
  go_enter Tryz.func78, Tryz.ntmps78
  go_wp2_with fail
  refine HR.out.mono ?_
  rintro e w3 ⟨rfl, hb3⟩
  have HB3 := veil hb3
  clear hb3 HR d0 d1 d2 d3 p3
  by_cases hc : sc = 0
  · rw [if_pos hc] at HL
    subst hc
    by_cases hl : listErr ss = 0
    · rw [if_pos hl] at HL
      have HR1 : Hid (rs = wrapK ss) := (Prod.mk.inj HL.out).1
      have HR2 : Hid (rc = 0) := (Prod.mk.inj HL.out).2
      have HLo := veil (fun W => listOf_good hl W)
      clear hl HL
      go_wp2_with fail
      refine (HLo.out _).mono ?_
      rintro e w4 ⟨rfl, rfl⟩
      go_wp2_with fail
      go_ret2
      exact ⟨by rw [HR1.out, HR2.out]; rfl, HB3.out⟩
    · rw [if_neg hl] at HL
      have HR1 : Hid (rs = noneS) := (Prod.mk.inj HL.out).1
      have HR2 : Hid (rc = 5) := (Prod.mk.inj HL.out).2
      have HLo := veil (fun W => listOf_bad HZ.out hl W)
      have hl' : (listErr ss != 0) = true := by simpa using hl
      clear hl HL
      generalize listErr ss = le at *
      go_wp2_with fail
      refine (HLo.out _).mono ?_
      rintro e w4 ⟨rfl, rfl⟩
      go_wp2_with fail
      go_ret2
      exact ⟨by rw [HR1.out, HR2.out]; rfl, HB3.out⟩
  · rw [if_neg hc] at HL
    have HR1 : Hid (rs = noneS) := (Prod.mk.inj HL.out).1
    have HR2 : Hid (rc = sc) := (Prod.mk.inj HL.out).2
    have hc' : (sc != 0) = true := by simpa using hc
    clear hc HL
    go_wp2_with fail
    go_ret2
    exact ⟨by rw [HR1.out, HR2.out]; rfl, HB3.out⟩

set_option maxHeartbeats 2000000 in
theorem solve_A (w0 : World) (S : Nat → Prop) (hS : ∀ b, S b → b < w0.heap.size) (ρ : ByteArray → ByteArray → Sol) (hρ : ∀ o n, (ρ o n).1.size ≤ maxLen) (Env : World → Prop) (hE0 : ∀ W, Env W → Below w0.heap.size w0 W) (hEk : ∀ W W', Env W → Below W.heap.size W W' → Env W') (mB lB tB fB : Nat) (HF : ∀ o n W, Env W → Calls Tryz.prog 76 #[.string o, .string n, .pointer (some ⟨mB, 0, none⟩), .pointer (some ⟨lB, 0, none⟩), .pointer (some ⟨tB, 0, none⟩), .pointer (some ⟨fB, 0, none⟩)] W (Tells w0 (ρ o n))) : ∀ (d : Nat) (t : Ty) (dd : Nat) (v : Value) (W : World), tyFault t dd = 0 → 11 ≤ dd + d → Env W → TyIs S W t v → Calls Tryz.prog 48 #[v, .func (.func 76) #[] #[.pointer (some ⟨mB, 0, none⟩), .pointer (some ⟨lB, 0, none⟩), .pointer (some ⟨tB, 0, none⟩), .pointer (some ⟨fB, 0, none⟩)]] W (Tells w0 (solveP ρ d t)) := by
  intro d
  induction d with
  | zero =>
    intro t dd v W ht hd
    obtain ⟨k, o, n, xs⟩ := t
    have := (ty_parts ht).1
    omega
  | succ d ih =>
    intro t dd v W ht hd hW hv
    obtain ⟨k, o, n, xs⟩ := t
    obtain ⟨_, ⟨hk1, hk4⟩, h3, _⟩ := ty_parts ht
    have HRec : Hid (∀ (t : Ty) (dd : Nat) (v : Value) (W : World), tyFault t dd = 0 → 11 ≤ dd + d → Env W → TyIs S W t v → Calls Tryz.prog 48 #[v, .func (.func 76) #[] #[.pointer (some ⟨mB, 0, none⟩), .pointer (some ⟨lB, 0, none⟩), .pointer (some ⟨tB, 0, none⟩), .pointer (some ⟨fB, 0, none⟩)]] W (Tells w0 (solveP ρ d t))) := ih
    have HP : Hid (solveP ρ (d + 1) (.mk k o n xs) = if k = 1 then (intK, 0) else if k = 2 then (textK, 0) else if k = 3 then (match xs with
      | [] => (noneS, 5)
      | t :: _ => listR (solveP ρ d t)) else ρ o n) := rfl
    have hv0 := hv
    obtain ⟨k', f', x', va, rfl, xs', e, _, _, hsl⟩ := hv
    injection e with e1 e2 e3 e4
    subst e1 e2 e3 e4
    obtain ⟨a, m, cap, rfl⟩ := hsl.slice
    have hbel : Below W.heap.size W (W.alloc (.cells #[.int .i64 k, .string o, .string n, .slice a m cap] 45)) := (Below.refl _ _).alloc (Nat.le_refl _) _
    have HBel := veil hbel
    have hSW : ∀ b, S b → b < W.heap.size := fun b hb => Nat.lt_of_lt_of_le (hS b hb) (hE0 W hW).size
    have HEnd := veil ((hE0 W hW).trans (hbel.mono (hE0 W hW).size))
    have hk : k = 1 ∨ k = 2 ∨ k = 3 ∨ k = 4 := by omega
    rcases hk with rfl | rfl | rfl | rfl
    · have HR : Hid (solveP ρ (d + 1) (.mk 1 o n xs) = (intK, 0)) := HP.out
      clear HP HRec ih h3 hv0 hsl hW hSW hρ HF
      generalize solveP ρ (d + 1) (.mk 1 o n xs) = r at *
      go_enter Tryz.func48, Tryz.ntmps48
      go_wp2_with fail
      go_ret2
      exact ⟨by rw [HR.out]; rfl, HEnd.out⟩
    · have HR : Hid (solveP ρ (d + 1) (.mk 2 o n xs) = (textK, 0)) := HP.out
      clear HP HRec ih h3 hv0 hsl hW hSW hρ HF
      generalize solveP ρ (d + 1) (.mk 2 o n xs) = r at *
      go_enter Tryz.func48, Tryz.ntmps48
      go_wp2_with fail
      go_ret2
      exact ⟨by rw [HR.out]; rfl, HEnd.out⟩
    · obtain ⟨t, rfl, ht1⟩ := h3 rfl
      have HR : Hid (solveP ρ (d + 1) (.mk 3 o n [t]) = listR (solveP ρ d t)) := HP.out
      have HS := veil (solveList_A w0 S hS ρ hρ Env hE0 hEk mB lB tB fB d HRec t dd o n _ _ ht1 (by omega) (hEk _ _ hW hbel) (hv0.keep (Keeps.below hbel hSW)))
      clear HP HRec ih h3 hv0 hsl hW hSW hρ HF
      generalize solveP ρ (d + 1) (.mk 3 o n [t]) = r at *
      generalize listR (solveP ρ d t) = r' at *
      go_enter Tryz.func48, Tryz.ntmps48
      go_wp2_with fail
      refine HS.out.mono ?_
      rintro e w3 ⟨rfl, hb3⟩
      have HB3 := veil hb3
      clear hb3
      go_wp2_with fail
      go_ret2
      exact ⟨by rw [HR.out]; rfl, HB3.out⟩
    · have HR : Hid (solveP ρ (d + 1) (.mk 4 o n xs) = ρ o n) := HP.out
      have HS := veil (HF o n _ (hEk _ _ hW hbel))
      clear HP HRec ih h3 hv0 hsl hW hSW hρ HF
      generalize solveP ρ (d + 1) (.mk 4 o n xs) = r at *
      generalize ρ o n = r' at *
      go_enter Tryz.func48, Tryz.ntmps48
      go_wp2_with fail
      refine HS.out.mono ?_
      rintro e w3 ⟨rfl, hb3⟩
      have HB3 := veil hb3
      clear hb3
      go_wp2_with fail
      go_ret2
      exact ⟨by rw [HR.out]; rfl, HB3.out⟩

end Go.Proofs.YtkdailcadcfepafGreat
