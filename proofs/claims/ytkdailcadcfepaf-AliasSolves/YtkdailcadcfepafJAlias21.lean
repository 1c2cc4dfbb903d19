/- What the reference's solved answers of what is no name, where it answers so of names. -/
import Derived.Test.YtkdailcadcfepafJAlias20
import Derived.Deep.RegionWith
namespace Go.Proofs.Ytkdailcadcfepaf
open Go.RowKit

set_option maxHeartbeats 2000000 in
theorem solvedList (w0 : World) (S : Nat → Prop) (hS : ∀ b, S b → b < w0.heap.size) (ρ : ByteArray → ByteArray → Sol) (hρ : ∀ o n, (ρ o n).1.size ≤ maxLen) (Env : World → Prop) (hE0 : ∀ W, Env W → Below w0.heap.size w0 W) (hEk : ∀ W W', Env W → Below W.heap.size W W' → Env W') (u1 t1 f1 la ua : Option Addr) (u2 u3 t2 t3 f2 f3 ln lc un uc : Nat) (vv : ByteArray) (d : Nat) (HRec : Hid (∀ (t : Ty) (dd : Nat) (v : Value) (W : World), tyFault t dd = 0 → 11 ≤ dd + d → Env W → TyIs S W t v → Calls Try.prog 34 #[.agg #[.slice u1 u2 u3, .slice t1 t2 t3, .slice f1 f2 f3], .slice la ln lc, .string vv, v, .slice ua un uc] W (Tells w0 (solveP ρ d t)))) (t : Ty) (dd : Nat) (o n : ByteArray) (v : Value) (W : World) (ht : tyFault t (dd + 1) = 0) (hd : 11 ≤ dd + 1 + d) (hW : Env W) (hv : TyIs S W (.mk 3 o n [t]) v) :
    Calls Try.prog 34 #[.agg #[.slice u1 u2 u3, .slice t1 t2 t3, .slice f1 f2 f3], .slice la ln lc, .string vv, v, .slice ua un uc] W (Tells w0 (listR (solveP ρ d t))) := by
  obtain ⟨k, f, x, va, rfl, xs, e, _, _, hsl⟩ := hv
  injection e with e1 e2 e3 e4
  subst e1 e2 e3 e4
  obtain ⟨a, cap, rfl⟩ := hsl.is
  obtain ⟨_, b, off, rfl, hb, hat⟩ := hsl.at (k := 0) (by simp)
  simp only [List.getElem_cons_zero, Nat.zero_mul, Nat.add_zero] at hat
  obtain ⟨k1, f1', x1, va1, q0, q1, q2, q3, hcs1⟩ := tyAt_cells.1 hat
  obtain ⟨a1, m1, c1, rfl⟩ : ∃ a1 m1 c1, va1 = .slice a1 m1 c1 := by
    obtain ⟨_, _, _, _, hs⟩ := hcs1
    exact SlAt.slice hs
  have hSW : ∀ b, S b → b < W.heap.size := fun b hb => Nat.lt_of_lt_of_le (hS b hb) (hE0 W hW).size
  have hbW := hSW b hb
  obtain ⟨w2, hwe, p0, p1, p2, p3, p4, hbel⟩ : ∃ w2, (W.alloc (.cells #[.slice u1 u2 u3, .slice t1 t2 t3, .slice f1 f2 f3] 26)).alloc (.cells #[.int .i64 3, .string o, .string n, .slice (some ⟨b, off, none⟩) 1 cap] 37) = w2 ∧ w2.cell? ⟨W.heap.size, 0, none⟩ = some (.slice u1 u2 u3) ∧ w2.cell? ⟨W.heap.size, 1, none⟩ = some (.slice t1 t2 t3) ∧ w2.cell? ⟨W.heap.size, 2, none⟩ = some (.slice f1 f2 f3) ∧ w2.cell? ⟨W.heap.size + 1, 0, none⟩ = some (.int .i64 3) ∧ w2.cell? ⟨W.heap.size + 1, 3, none⟩ = some (.slice (some ⟨b, off, none⟩) 1 cap) ∧ Below W.heap.size W w2 :=
    ⟨_, rfl, by simp [go_sem], by simp [go_sem], by simp [go_sem], by simp [go_sem], by simp [go_sem], ((Below.refl _ _).alloc (Nat.le_refl _) _).alloc (by simp) _⟩
  have d0 := (hbel.cell (p := ⟨b, off, none⟩) hbW).trans q0
  have d1 := (hbel.cell (p := ⟨b, off + 1, none⟩) hbW).trans q1
  have d2 := (hbel.cell (p := ⟨b, off + 2, none⟩) hbW).trans q2
  have d3 := (hbel.cell (p := ⟨b, off + 3, none⟩) hbW).trans q3
  have HR := veil (HRec.out t (dd + 1) (.agg #[.int .i64 k1, .string f1', .string x1, .slice a1 m1 c1]) w2.drew ht hd (hEk _ _ hW hbel.drew) ⟨_, _, _, _, rfl, hcs1.keep (Keeps.below hbel.drew hSW)⟩)
  have HZ := veil (solveP_size hρ d t)
  have HL : Hid (listR (solveP ρ d t) = if (solveP ρ d t).2 = 0 then (if listErr (solveP ρ d t).1 = 0 then (wrapK (solveP ρ d t).1, 0) else (noneS, 5)) else (noneS, (solveP ρ d t).2)) := rfl
  have HWe := veil hwe
  clear hwe hat hcs1 hsl hbel HRec hρ hW hSW q0 q1 q2 q3 ht hd
  generalize listR (solveP ρ d t) = r at *
  generalize solveP ρ d t = sp at *
  obtain ⟨ss, sc⟩ := sp
  obtain ⟨rs, rc⟩ := r
  simp only at HL HZ
  go_enter Try.func34, Try.ntmps34
  go_wp2_with fail
  rw [HWe.out]
  go_wp2_with fail
  go_region_with (go_at_call 34; refine HR.out.mono ?_; rintro e w3 ⟨rfl, hb3⟩)
  all_goals
    have HB3 := veil hb3
    clear hb3 HR d0 d1 d2 d3 p0 p1 p2 p3 p4
    by_cases hc : sc = 0
    · rw [if_pos hc] at HL
      subst hc
      by_cases hl : listErr ss = 0
      · rw [if_pos hl] at HL
        have HR1 : Hid (rs = wrapK ss) := (Prod.mk.inj HL.out).1
        have HR2 : Hid (rc = 0) := (Prod.mk.inj HL.out).2
        have HLo := veil (fun W => kindList_good hl W)
        clear hl HL
        go_wp2_with fail
        refine (HLo.out _).mono ?_
        rintro e w4 ⟨rfl, rfl⟩
        go_wp2_with fail
        go_ret2
        exact ⟨by rw [HR1.out, HR2.out]; rfl, HB3.out⟩
      · rw [if_neg hl] at HL
        have HR1 : Hid (rs = noneS) := (Prod.mk.inj HL.out).1
        have HR2 : Hid (rc = 5) := (Prod.mk.inj HL.out).2
        have HLo := veil (fun W => kindList_bad HZ.out hl W)
        have hl' : (listErr ss != 0) = true := by simpa using hl
        clear hl HL
        generalize listErr ss = le at *
        go_wp2_with fail
        refine (HLo.out _).mono ?_
        rintro e w4 ⟨rfl, rfl⟩
        go_wp2_with fail
        go_ret2
        exact ⟨by rw [HR1.out, HR2.out]; rfl, HB3.out⟩
    · rw [if_neg hc] at HL
      have HR1 : Hid (rs = noneS) := (Prod.mk.inj HL.out).1
      have HR2 : Hid (rc = sc) := (Prod.mk.inj HL.out).2
      have hc' : (sc != 0) = true := by simpa using hc
      clear hc HL
      go_wp2_with fail
      go_ret2
      exact ⟨by rw [HR1.out, HR2.out]; rfl, HB3.out⟩

set_option maxHeartbeats 2000000 in
theorem solved_R (w0 : World) (S : Nat → Prop) (hS : ∀ b, S b → b < w0.heap.size) (ρ : ByteArray → ByteArray → Sol) (hρ : ∀ o n, (ρ o n).1.size ≤ maxLen) (Env : World → Prop) (hE0 : ∀ W, Env W → Below w0.heap.size w0 W) (hEk : ∀ W W', Env W → Below W.heap.size W W' → Env W') (u1 t1 f1 la ua : Option Addr) (u2 u3 t2 t3 f2 f3 ln lc un uc : Nat) (vv : ByteArray)
    (HF : ∀ o n a c cap W, Env W → Calls Try.prog 34 #[.agg #[.slice u1 u2 u3, .slice t1 t2 t3, .slice f1 f2 f3], .slice la ln lc, .string vv, .agg #[.int .i64 4, .string o, .string n, .slice a c cap], .slice ua un uc] W (Tells w0 (ρ o n))) : ∀ (d : Nat) (t : Ty) (dd : Nat) (v : Value) (W : World), tyFault t dd = 0 → 11 ≤ dd + d → Env W → TyIs S W t v → Calls Try.prog 34 #[.agg #[.slice u1 u2 u3, .slice t1 t2 t3, .slice f1 f2 f3], .slice la ln lc, .string vv, v, .slice ua un uc] W (Tells w0 (solveP ρ d t)) := by
  intro d
  induction d with
  | zero =>
    intro t dd v W ht hd
    obtain ⟨k, o, n, xs⟩ := t
    have := (ty_parts ht).1
    omega
  | succ d ih =>
    intro t dd v W ht hd hW hv
    obtain ⟨k, o, n, xs⟩ := t
    obtain ⟨_, ⟨hk1, hk4⟩, h3, _⟩ := ty_parts ht
    have HP : Hid (solveP ρ (d + 1) (.mk k o n xs) = if k = 1 then (intK, 0) else if k = 2 then (textK, 0) else if k = 3 then (match xs with
      | [] => (noneS, 5)
      | t :: _ => listR (solveP ρ d t)) else ρ o n) := rfl
    have hk : k = 1 ∨ k = 2 ∨ k = 3 ∨ k = 4 := by omega
    rcases hk with rfl | rfl | rfl | rfl
    · obtain ⟨k', f', x', va, rfl, xs', e, _, _, hsl⟩ := hv
      injection e with e1 e2 e3 e4
      subst e1 e2 e3 e4
      obtain ⟨a, m, cap, rfl⟩ := hsl.slice
      have hbel : Below W.heap.size W ((W.alloc (.cells #[.slice u1 u2 u3, .slice t1 t2 t3, .slice f1 f2 f3] 26)).alloc (.cells #[.int .i64 1, .string o, .string n, .slice a m cap] 37)) := ((Below.refl _ _).alloc (Nat.le_refl _) _).alloc (by simp) _
      have HEnd := veil ((hE0 W hW).trans (hbel.mono (hE0 W hW).size))
      have HR : Hid (solveP ρ (d + 1) (.mk 1 o n xs) = (intK, 0)) := HP.out
      clear HP ih h3 hsl hW hρ HF hbel
      generalize solveP ρ (d + 1) (.mk 1 o n xs) = r at *
      go_enter Try.func34, Try.ntmps34
      go_wp2_with fail
      go_ret2
      exact ⟨by rw [HR.out]; rfl, HEnd.out⟩
    · obtain ⟨k', f', x', va, rfl, xs', e, _, _, hsl⟩ := hv
      injection e with e1 e2 e3 e4
      subst e1 e2 e3 e4
      obtain ⟨a, m, cap, rfl⟩ := hsl.slice
      have hbel : Below W.heap.size W ((W.alloc (.cells #[.slice u1 u2 u3, .slice t1 t2 t3, .slice f1 f2 f3] 26)).alloc (.cells #[.int .i64 2, .string o, .string n, .slice a m cap] 37)) := ((Below.refl _ _).alloc (Nat.le_refl _) _).alloc (by simp) _
      have HEnd := veil ((hE0 W hW).trans (hbel.mono (hE0 W hW).size))
      have HR : Hid (solveP ρ (d + 1) (.mk 2 o n xs) = (textK, 0)) := HP.out
      clear HP ih h3 hsl hW hρ HF hbel
      generalize solveP ρ (d + 1) (.mk 2 o n xs) = r at *
      go_enter Try.func34, Try.ntmps34
      go_wp2_with fail
      go_ret2
      exact ⟨by rw [HR.out]; rfl, HEnd.out⟩
    · obtain ⟨t, rfl, ht1⟩ := h3 rfl
      rw [show solveP ρ (d + 1) (.mk 3 o n [t]) = listR (solveP ρ d t) from HP.out]
      exact solvedList w0 S hS ρ hρ Env hE0 hEk u1 t1 f1 la ua u2 u3 t2 t3 f2 f3 ln lc un uc vv d (veil ih) t dd o n v W ht1 (by omega) hW hv
    · obtain ⟨k', f', x', va, rfl, xs', e, _, _, hsl⟩ := hv
      injection e with e1 e2 e3 e4
      subst e1 e2 e3 e4
      obtain ⟨a, m, cap, rfl⟩ := hsl.slice
      rw [show solveP ρ (d + 1) (.mk 4 o n xs) = ρ o n from HP.out]
      exact HF o n a m cap W hW

end Go.Proofs.Ytkdailcadcfepaf
