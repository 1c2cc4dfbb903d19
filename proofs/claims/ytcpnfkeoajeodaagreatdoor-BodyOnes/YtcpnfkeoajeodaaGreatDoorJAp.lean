/- What the reference's solved answers of what is no name, where it answers so of names. -/
import Derived.Test.YtcpnfkeoajeodaaGreatDoorJAo
import Derived.Deep.RegionWith
namespace Go.Proofs.YtcpnfkeoajeodaaGreatDoor
open Go.RowKit
set_option maxRecDepth 100000

set_option maxHeartbeats 2000000 in
theorem solvedList (w0 : World) (S : Nat → Prop) (hS : ∀ b, S b → b < w0.heap.size) (ρ : ByteArray → ByteArray → Sol) (hρ : ∀ o n, (ρ o n).1.size ≤ maxLen) (Env : World → Prop) (hE0 : ∀ W, Env W → Below w0.heap.size w0 W) (hEk : ∀ W W', Env W → Below W.heap.size W W' → Env W') (u1 t1 f1 la ua : Option Addr) (u2 u3 t2 t3 f2 f3 ln lc un uc : Nat) (vv : ByteArray) (d : Nat) (HRec : Hid (∀ (t : Ty) (dd : Nat) (v : Value) (W : World), tyFault t dd = 0 → 11 ≤ dd + d → Env W → TyIs S W t v → Calls Tryz.prog 61 #[.agg #[.slice u1 u2 u3, .slice t1 t2 t3, .slice f1 f2 f3], .slice la ln lc, .string vv, v, .slice ua un uc] W (Tells w0 (solveP ρ d t)))) (t : Ty) (dd : Nat) (o n : ByteArray) (v : Value) (W : World) (ht : tyFault t (dd + 1) = 0) (hd : 11 ≤ dd + 1 + d) (hW : Env W) (hv : TyIs S W (.mk 3 o n [t]) v) :
    Calls Tryz.prog 61 #[.agg #[.slice u1 u2 u3, .slice t1 t2 t3, .slice f1 f2 f3], .slice la ln lc, .string vv, v, .slice ua un uc] W (Tells w0 (listR (solveP ρ d t))) := by
  obtain ⟨k, f, x, va, rfl, xs, e, _, _, hsl⟩ := hv
  injection e with e1 e2 e3 e4
  subst e1 e2 e3 e4
  obtain ⟨a, cap, rfl⟩ := hsl.is
  obtain ⟨_, b, off, rfl, hb, hat⟩ := hsl.at (k := 0) (by simp)
  simp only [List.getElem_cons_zero, Nat.zero_mul, Nat.add_zero] at hat
  obtain ⟨k1, f1', x1, va1, q0, q1, q2, q3, hcs1⟩ := tyAt_cells.1 hat
  obtain ⟨a1, m1, c1, rfl⟩ : ∃ a1 m1 c1, va1 = .slice a1 m1 c1 := by
    obtain ⟨_, _, _, _, hs⟩ := hcs1
    exact SlAt.slice hs
  have hSW : ∀ b, S b → b < W.heap.size := fun b hb => Nat.lt_of_lt_of_le (hS b hb) (hE0 W hW).size
  have hbW := hSW b hb
  obtain ⟨w2, hwe, p0, p1, p2, p3, p4, hbel⟩ : ∃ w2, (W.alloc (.cells #[.slice u1 u2 u3, .slice t1 t2 t3, .slice f1 f2 f3] 26)).alloc (.cells #[.int .i64 3, .string o, .string n, .slice (some ⟨b, off, none⟩) 1 cap] 49) = w2 ∧ w2.cell? ⟨W.heap.size, 0, none⟩ = some (.slice u1 u2 u3) ∧ w2.cell? ⟨W.heap.size, 1, none⟩ = some (.slice t1 t2 t3) ∧ w2.cell? ⟨W.heap.size, 2, none⟩ = some (.slice f1 f2 f3) ∧ w2.cell? ⟨W.heap.size + 1, 0, none⟩ = some (.int .i64 3) ∧ w2.cell? ⟨W.heap.size + 1, 3, none⟩ = some (.slice (some ⟨b, off, none⟩) 1 cap) ∧ Below W.heap.size W w2 :=
    ⟨_, rfl, by simp [go_sem], by simp [go_sem], by simp [go_sem], by simp [go_sem], by simp [go_sem], ((Below.refl _ _).alloc (Nat.le_refl _) _).alloc (by simp) _⟩
  have d0 := (hbel.cell (p := ⟨b, off, none⟩) hbW).trans q0
  have d1 := (hbel.cell (p := ⟨b, off + 1, none⟩) hbW).trans q1
  have d2 := (hbel.cell (p := ⟨b, off + 2, none⟩) hbW).trans q2
  have d3 := (hbel.cell (p := ⟨b, off + 3, none⟩) hbW).trans q3
  have HR := veil (HRec.out t (dd + 1) (.agg #[.int .i64 k1, .string f1', .string x1, .slice a1 m1 c1]) w2.drew ht hd (hEk _ _ hW hbel.drew) ⟨_, _, _, _, rfl, hcs1.keep (Keeps.below hbel.drew hSW)⟩)
  have HZ := veil (solveP_size hρ d t)
  have HL : Hid (listR (solveP ρ d t) = if (solveP ρ d t).2 = 0 then (if listErr (solveP ρ d t).1 = 0 then (wrapK (solveP ρ d t).1, 0) else (noneS, 5)) else (noneS, (solveP ρ d t).2)) := rfl
  have HWe := veil hwe
  clear hwe hat hcs1 hsl hbel HRec hρ hW hSW q0 q1 q2 q3 ht hd
  generalize listR (solveP ρ d t) = r at *
  generalize solveP ρ d t = sp at *
  obtain ⟨ss, sc⟩ := sp
  obtain ⟨rs, rc⟩ := r
  simp only at HL HZ
  go_enter Tryz.func61, Tryz.ntmps61
  go_wp2_with fail
  rw [HWe.out]
  go_wp2_with fail
  go_region_with (go_at_call 61; refine HR.out.mono ?_; rintro e w3 ⟨rfl, hb3⟩)
  all_goals
    have HB3 := veil hb3
    clear hb3 HR d0 d1 d2 d3 p0 p1 p2 p3 p4
    by_cases hc : sc = 0
    · rw [if_pos hc] at HL
      subst hc
      by_cases hl : listErr ss = 0
      · rw [if_pos hl] at HL
        have HR1 : Hid (rs = wrapK ss) := (Prod.mk.inj HL.out).1
        have HR2 : Hid (rc = 0) := (Prod.mk.inj HL.out).2
        have HLo := veil (fun W => kindList_good hl W)
        clear hl HL
        go_wp2_with fail
        refine (HLo.out _).mono ?_
        rintro e w4 ⟨rfl, rfl⟩
        go_wp2_with fail
        go_ret2
        exact ⟨by rw [HR1.out, HR2.out]; rfl, HB3.out⟩
      · rw [if_neg hl] at HL
        have HR1 : Hid (rs = noneS) := (Prod.mk.inj HL.out).1
        have HR2 : Hid (rc = 5) := (Prod.mk.inj HL.out).2
        have HLo := veil (fun W => kindList_bad HZ.out hl W)
        have hl' : (listErr ss != 0) = true := by simpa using hl
        clear hl HL
        generalize listErr ss = le at *
        go_wp2_with fail
        refine (HLo.out _).mono ?_
        rintro e w4 ⟨rfl, rfl⟩
        go_wp2_with fail
        go_ret2
        exact ⟨by rw [HR1.out, HR2.out]; rfl, HB3.out⟩
    · rw [if_neg hc] at HL
      have HR1 : Hid (rs = noneS) := (Prod.mk.inj HL.out).1
      have HR2 : Hid (rc = sc) := (Prod.mk.inj HL.out).2
      have hc' : (sc != 0) = true := by simpa using hc
      clear hc HL
      go_wp2_with fail
      go_ret2
      exact ⟨by rw [HR1.out, HR2.out]; rfl, HB3.out⟩

set_option maxHeartbeats 2000000 in
theorem solved_R (w0 : World) (S : Nat → Prop) (hS : ∀ b, S b → b < w0.heap.size) (ρ : ByteArray → ByteArray → Sol) (hρ : ∀ o n, (ρ o n).1.size ≤ maxLen) (Env : World → Prop) (hE0 : ∀ W, Env W → Below w0.heap.size w0 W) (hEk : ∀ W W', Env W → Below W.heap.size W W' → Env W') (u1 t1 f1 la ua : Option Addr) (u2 u3 t2 t3 f2 f3 ln lc un uc : Nat) (vv : ByteArray)
    (HF : ∀ o n a c cap W, Env W → Calls Tryz.prog 61 #[.agg #[.slice u1 u2 u3, .slice t1 t2 t3, .slice f1 f2 f3], .slice la ln lc, .string vv, .agg #[.int .i64 4, .string o, .string n, .slice a c cap], .slice ua un uc] W (Tells w0 (ρ o n))) : ∀ (d : Nat) (t : Ty) (dd : Nat) (v : Value) (W : World), tyFault t dd = 0 → 11 ≤ dd + d → Env W → TyIs S W t v → Calls Tryz.prog 61 #[.agg #[.slice u1 u2 u3, .slice t1 t2 t3, .slice f1 f2 f3], .slice la ln lc, .string vv, v, .slice ua un uc] W (Tells w0 (solveP ρ d t)) := by
  intro d
  induction d with
  | zero =>
    intro t dd v W ht hd
    obtain ⟨k, o, n, xs⟩ := t
    have := (ty_parts ht).1
    omega
  | succ d ih =>
    intro t dd v W ht hd hW hv
    obtain ⟨k, o, n, xs⟩ := t
    obtain ⟨_, ⟨hk1, hk4⟩, h3, _⟩ := ty_parts ht
    have HP : Hid (solveP ρ (d + 1) (.mk k o n xs) = if k = 1 then (intK, 0) else if k = 2 then (textK, 0) else if k = 3 then (match xs with
      | [] => (noneS, 5)
      | t :: _ => listR (solveP ρ d t)) else ρ o n) := rfl
    have hk : k = 1 ∨ k = 2 ∨ k = 3 ∨ k = 4 := by omega
    rcases hk with rfl | rfl | rfl | rfl
    · obtain ⟨k', f', x', va, rfl, xs', e, _, _, hsl⟩ := hv
      injection e with e1 e2 e3 e4
      subst e1 e2 e3 e4
      obtain ⟨a, m, cap, rfl⟩ := hsl.slice
      have hbel : Below W.heap.size W ((W.alloc (.cells #[.slice u1 u2 u3, .slice t1 t2 t3, .slice f1 f2 f3] 26)).alloc (.cells #[.int .i64 1, .string o, .string n, .slice a m cap] 49)) := ((Below.refl _ _).alloc (Nat.le_refl _) _).alloc (by simp) _
      have HEnd := veil ((hE0 W hW).trans (hbel.mono (hE0 W hW).size))
      have HR : Hid (solveP ρ (d + 1) (.mk 1 o n xs) = (intK, 0)) := HP.out
      clear HP ih h3 hsl hW hρ HF hbel
      generalize solveP ρ (d + 1) (.mk 1 o n xs) = r at *
      go_enter Tryz.func61, Tryz.ntmps61
      go_wp2_with fail
      go_ret2
      exact ⟨by rw [HR.out]; rfl, HEnd.out⟩
    · obtain ⟨k', f', x', va, rfl, xs', e, _, _, hsl⟩ := hv
      injection e with e1 e2 e3 e4
      subst e1 e2 e3 e4
      obtain ⟨a, m, cap, rfl⟩ := hsl.slice
      have hbel : Below W.heap.size W ((W.alloc (.cells #[.slice u1 u2 u3, .slice t1 t2 t3, .slice f1 f2 f3] 26)).alloc (.cells #[.int .i64 2, .string o, .string n, .slice a m cap] 49)) := ((Below.refl _ _).alloc (Nat.le_refl _) _).alloc (by simp) _
      have HEnd := veil ((hE0 W hW).trans (hbel.mono (hE0 W hW).size))
      have HR : Hid (solveP ρ (d + 1) (.mk 2 o n xs) = (textK, 0)) := HP.out
      clear HP ih h3 hsl hW hρ HF hbel
      generalize solveP ρ (d + 1) (.mk 2 o n xs) = r at *
      go_enter Tryz.func61, Tryz.ntmps61
      go_wp2_with fail
      go_ret2
      exact ⟨by rw [HR.out]; rfl, HEnd.out⟩
    · obtain ⟨t, rfl, ht1⟩ := h3 rfl
      rw [show solveP ρ (d + 1) (.mk 3 o n [t]) = listR (solveP ρ d t) from HP.out]
      exact solvedList w0 S hS ρ hρ Env hE0 hEk u1 t1 f1 la ua u2 u3 t2 t3 f2 f3 ln lc un uc vv d (veil ih) t dd o n v W ht1 (by omega) hW hv
    · obtain ⟨k', f', x', va, rfl, xs', e, _, _, hsl⟩ := hv
      injection e with e1 e2 e3 e4
      subst e1 e2 e3 e4
      obtain ⟨a, m, cap, rfl⟩ := hsl.slice
      rw [show solveP ρ (d + 1) (.mk 4 o n xs) = ρ o n from HP.out]
      exact HF o n a m cap W hW

end Go.Proofs.YtcpnfkeoajeodaaGreatDoor

/- What the reference's solved answers of a name: of another module's, the variable, one that is not there, one that is met again. -/
namespace Go.Proofs.YtcpnfkeoajeodaaGreatDoor
open Go.RowKit
set_option maxRecDepth 100000

set_option maxHeartbeats 2000000 in
theorem solved_imp (w0 : World) (S : Nat → Prop) (hS : ∀ b, S b → b < w0.heap.size) (m : Mo) (l : List Im) (u1 t1 f1 la ua a : Option Addr) (u2 u3 t2 t3 f2 f3 ln lc un uc c cap : Nat) (vv o n : ByteArray) (hm : MoIs S w0 m (.agg #[.slice u1 u2 u3, .slice t1 t2 t3, .slice f1 f2 f3])) (hl : SlAt S (ImAt S w0) 4 l (.slice la ln lc)) (hi : imsFault l = 0) (ho : o.toList.isEmpty = false) (W : World) (hb : Below w0.heap.size w0 W) :
    Calls Tryz.prog 61 #[.agg #[.slice u1 u2 u3, .slice t1 t2 t3, .slice f1 f2 f3], .slice la ln lc, .string vv, .agg #[.int .i64 4, .string o, .string n, .slice a c cap], .slice ua un uc] W (Tells w0 (impR m.uses l o n)) := by
  have HC : Hid (∀ W', Below w0.heap.size w0 W' → Calls Tryz.prog 39 #[.agg #[.slice u1 u2 u3, .slice t1 t2 t3, .slice f1 f2 f3], .slice la ln lc, .string o] W' fun e w' => ∃ a n cap a2 n2 cap2, e = .returned (.tuple #[.agg #[.slice a n cap, .slice a2 n2 cap2], .bool (fromOk m.uses l o)]) ∧ FcIs S w' (fromFc m.uses l o) (.agg #[.slice a n cap, .slice a2 n2 cap2]) ∧ Below W'.heap.size W' w') := fun W' hW' => by
    have hS' : ∀ b, S b → b < W'.heap.size := fun b hb => Nat.lt_of_lt_of_le (hS b hb) hW'.size
    refine (fromOf_any S m l o _ _ W' hS' (hm.keep (Keeps.below hW' hS)) (imSl_keep (Keeps.below hW' hS) hl) hi).mono ?_
    rintro e w' ⟨a, n, cap, a2, n2, cap2, rfl, hf, hb⟩
    exact ⟨a, n, cap, a2, n2, cap2, rfl, hf.keep (Keeps.below hb hS'), hb⟩
  have HT : Hid (∀ W' u, w0.heap.size ≤ W'.heap.size → FcIs S W' (fromFc m.uses l o) u → Calls Tryz.prog 88 #[u, .string n] W' fun e w' => e = .returned (.tuple #[.string (typeVal (fromFc m.uses l o) n), .int .i64 (typeErr (fromFc m.uses l o) n)]) ∧ Below W'.heap.size W' w') := fun W' u hW' hu =>
    typeIn_any S _ n _ W' (fun b hb => Nat.lt_of_lt_of_le (hS b hb) hW') hu
  have HV : Hid (impVal m.uses l o n = if (fromOk m.uses l o && typeErr (fromFc m.uses l o) n == 0) = true then typeVal (fromFc m.uses l o) n else ⟨#[]⟩) := rfl
  have HE : Hid (impErr m.uses l o n = if (fromOk m.uses l o && typeErr (fromFc m.uses l o) n == 0) = true then 0 else 5) := rfl
  have HI : Hid (impR m.uses l o n = (impVal m.uses l o n, impErr m.uses l o n)) := rfl
  obtain ⟨w2, hwe, hs2, p0, p1, p2, q0, q1, q2, hbel⟩ : ∃ w2, (W.alloc (.cells #[.slice u1 u2 u3, .slice t1 t2 t3, .slice f1 f2 f3] 26)).alloc (.cells #[.int .i64 4, .string o, .string n, .slice a c cap] 49) = w2 ∧ w2.heap.size = W.heap.size + 2 ∧ w2.cell? ⟨W.heap.size, 0, none⟩ = some (.slice u1 u2 u3) ∧ w2.cell? ⟨W.heap.size, 1, none⟩ = some (.slice t1 t2 t3) ∧ w2.cell? ⟨W.heap.size, 2, none⟩ = some (.slice f1 f2 f3) ∧ w2.cell? ⟨W.heap.size + 1, 0, none⟩ = some (.int .i64 4) ∧ w2.cell? ⟨W.heap.size + 1, 1, none⟩ = some (.string o) ∧ w2.cell? ⟨W.heap.size + 1, 2, none⟩ = some (.string n) ∧ Below W.heap.size W w2 :=
    ⟨_, rfl, by simp, by simp [go_sem], by simp [go_sem], by simp [go_sem], by simp [go_sem], by simp [go_sem], by simp [go_sem], ((Below.refl _ _).alloc (Nat.le_refl _) _).alloc (by simp) _⟩
  have HB2 := veil (hb.trans (hbel.mono hb.size))
  have HWe := veil hwe
  clear hm hl hi hb hwe hbel
  generalize impR m.uses l o n = r at *
  generalize fromFc m.uses l o = fc at *
  generalize fromOk m.uses l o = ok at *
  generalize impVal m.uses l o n = iv at *
  generalize impErr m.uses l o n = ie at *
  generalize typeVal fc n = tv at *
  generalize typeErr fc n = te at *
  go_enter Tryz.func61, Tryz.ntmps61
  go_wp2_with fail
  rw [HWe.out]
  go_wp2_with fail
  refine (HC.out _ HB2.out).mono ?_
  rintro e w3 ⟨b1, b2, b3, c1, c2, c3, rfl, hfc, hb3⟩
  have hb4 : Below w3.heap.size w3 (w3.alloc (.cells #[.slice b1 b2 b3, .slice c1 c2 c3] 31)) := (Below.refl _ _).alloc (Nat.le_refl _) _
  have hb3' := HB2.out.trans (hb3.mono HB2.out.size)
  have hS3 : ∀ b, S b → b < w3.heap.size := fun b hb => by have := hS b hb; have := hb3'.size; omega
  have HF4 := veil (hfc.keep (Keeps.below hb4 hS3))
  have HB4 := veil (hb3'.trans (hb4.mono hb3'.size))
  have r0 : (w3.alloc (.cells #[.slice b1 b2 b3, .slice c1 c2 c3] 31)).cell? ⟨w3.heap.size, 0, none⟩ = some (.slice b1 b2 b3) := by simp [go_sem]
  have r1 : (w3.alloc (.cells #[.slice b1 b2 b3, .slice c1 c2 c3] 31)).cell? ⟨w3.heap.size, 1, none⟩ = some (.slice c1 c2 c3) := by simp [go_sem]
  have r2 := (hb3.cell (p := ⟨W.heap.size + 1, 2, none⟩) (by show W.heap.size + 1 < _; omega)).trans q2
  have r3 := (hb4.cell (p := ⟨W.heap.size + 1, 2, none⟩) (by show W.heap.size + 1 < _; have := hb3.size; omega)).trans r2
  have HT2 := veil (HT.out _ _ HB4.out.size HF4.out)
  clear hb3 hb4 hb3' hfc hS3 HC HT p0 p1 p2 q0 q1 q2
  go_wp2_with fail
  refine HT2.out.mono ?_
  rintro e w5 ⟨rfl, hb5⟩
  have HB5 := veil (HB4.out.trans (hb5.mono HB4.out.size))
  clear hb5 r0 r1 r2 r3 HT2
  cases ok with
  | false =>
    have HR1 : Hid (iv = ⟨#[]⟩) := HV.out.trans (if_neg (by simp))
    have HR2 : Hid (ie = 5) := HE.out.trans (if_neg (by simp))
    clear HV HE
    go_wp2_with fail
    go_ret2
    exact ⟨by rw [HI.out, HR1.out, HR2.out]; rfl, HB5.out⟩
  | true =>
    cases ht : (te == 0) with
    | true =>
      have HR1 : Hid (iv = tv) := HV.out.trans (if_pos (by rw [ht]; rfl))
      have HR2 : Hid (ie = 0) := HE.out.trans (if_pos (by rw [ht]; rfl))
      have ht' : (te != 0) = false := by simpa using ht
      clear HV HE ht
      go_wp2_with fail
      go_ret2
      exact ⟨by rw [HI.out, HR1.out, HR2.out]; rfl, HB5.out⟩
    | false =>
      have HR1 : Hid (iv = ⟨#[]⟩) := HV.out.trans (if_neg (by rw [ht]; simp))
      have HR2 : Hid (ie = 5) := HE.out.trans (if_neg (by rw [ht]; simp))
      have ht' : (te != 0) = true := by simpa using ht
      clear HV HE ht
      go_wp2_with fail
      go_ret2
      exact ⟨by rw [HI.out, HR1.out, HR2.out]; rfl, HB5.out⟩

set_option maxHeartbeats 2000000 in
theorem solved_star (w0 : World) (u1 t1 f1 la ua a : Option Addr) (u2 u3 t2 t3 f2 f3 ln lc un uc c cap : Nat) (vv o n : ByteArray) (ho : o.toList.isEmpty = true) (hv : (!vv.toList.isEmpty && sEq n vv) = true) (W : World) (hb : Below w0.heap.size w0 W) :
    Calls Tryz.prog 61 #[.agg #[.slice u1 u2 u3, .slice t1 t2 t3, .slice f1 f2 f3], .slice la ln lc, .string vv, .agg #[.int .i64 4, .string o, .string n, .slice a c cap], .slice ua un uc] W (Tells w0 (starK, 0)) := by
  obtain ⟨hv1, hv2⟩ : vv.toList.isEmpty = false ∧ (n.toList == vv.toList) = true := by
    rw [Bool.and_eq_true] at hv
    exact ⟨by simpa using hv.1, hv.2⟩
  have HB : Hid (Below w0.heap.size w0 ((W.alloc (.cells #[.slice u1 u2 u3, .slice t1 t2 t3, .slice f1 f2 f3] 26)).alloc (.cells #[.int .i64 4, .string o, .string n, .slice a c cap] 49))) := (hb.alloc hb.size _).alloc (by have := hb.size; simp; omega) _
  clear hb hv
  go_enter Tryz.func61, Tryz.ntmps61
  go_wp2_with fail
  go_ret2
  exact ⟨rfl, HB.out⟩

set_option maxHeartbeats 2000000 in
theorem solved_none (w0 : World) (S : Nat → Prop) (hS : ∀ b, S b → b < w0.heap.size) (m : Mo) (u1 t1 f1 la ua a : Option Addr) (u2 u3 t2 t3 f2 f3 ln lc un uc c cap : Nat) (vv o n : ByteArray) (hm : MoIs S w0 m (.agg #[.slice u1 u2 u3, .slice t1 t2 t3, .slice f1 f2 f3])) (ho : o.toList.isEmpty = true) (hv : (!vv.toList.isEmpty && sEq n vv) = false) (ha : ¬ ownAt m n < m.types.length) (W : World) (hb : Below w0.heap.size w0 W) :
    Calls Tryz.prog 61 #[.agg #[.slice u1 u2 u3, .slice t1 t2 t3, .slice f1 f2 f3], .slice la ln lc, .string vv, .agg #[.int .i64 4, .string o, .string n, .slice a c cap], .slice ua un uc] W (Tells w0 (noneS, 5)) := by
  have HT : Hid (∀ W', Below w0.heap.size w0 W' → Calls Tryz.prog 89 #[.agg #[.slice u1 u2 u3, .slice t1 t2 t3, .slice f1 f2 f3], .string n] W' fun e w' => e = .returned (.int .i64 (-1)) ∧ Below W'.heap.size W' w') := fun W' hW' => by
    have := typeAt_any S m n _ W' (fun b hb => Nat.lt_of_lt_of_le (hS b hb) hW'.size) (hm.keep (Keeps.below hW' hS))
    rwa [own_out ha] at this
  obtain ⟨w2, hwe, hs2, p0, p1, p2, q0, q1, q2, hbel⟩ : ∃ w2, (W.alloc (.cells #[.slice u1 u2 u3, .slice t1 t2 t3, .slice f1 f2 f3] 26)).alloc (.cells #[.int .i64 4, .string o, .string n, .slice a c cap] 49) = w2 ∧ w2.heap.size = W.heap.size + 2 ∧ w2.cell? ⟨W.heap.size, 0, none⟩ = some (.slice u1 u2 u3) ∧ w2.cell? ⟨W.heap.size, 1, none⟩ = some (.slice t1 t2 t3) ∧ w2.cell? ⟨W.heap.size, 2, none⟩ = some (.slice f1 f2 f3) ∧ w2.cell? ⟨W.heap.size + 1, 0, none⟩ = some (.int .i64 4) ∧ w2.cell? ⟨W.heap.size + 1, 1, none⟩ = some (.string o) ∧ w2.cell? ⟨W.heap.size + 1, 2, none⟩ = some (.string n) ∧ Below W.heap.size W w2 :=
    ⟨_, rfl, by simp, by simp [go_sem], by simp [go_sem], by simp [go_sem], by simp [go_sem], by simp [go_sem], by simp [go_sem], ((Below.refl _ _).alloc (Nat.le_refl _) _).alloc (by simp) _⟩
  have HB2 := veil (hb.trans (hbel.mono hb.size))
  have HWe := veil hwe
  have hvn : vv.toList.isEmpty = true ∨ vv.toList.isEmpty = false ∧ (n.toList == vv.toList) = false := by
    cases h : vv.toList.isEmpty with
    | true => exact Or.inl rfl
    | false => rw [h] at hv; exact Or.inr ⟨rfl, hv⟩
  clear hm hb hwe hbel hv ha
  rcases hvn with hve | ⟨hve, hvs⟩
  all_goals
    go_enter Tryz.func61, Tryz.ntmps61
    go_wp2_with fail
    rw [HWe.out]
    refine (HT.out _ HB2.out).mono ?_
    rintro e w3 ⟨rfl, hb3⟩
    have HB3 := veil (HB2.out.trans (hb3.mono HB2.out.size))
    clear hb3
    go_wp2_with fail
    go_ret2
    exact ⟨rfl, HB3.out⟩

set_option maxHeartbeats 2000000 in
theorem solved_round (w0 : World) (S : Nat → Prop) (hS : ∀ b, S b → b < w0.heap.size) (m : Mo) (u1 t1 f1 la ua a : Option Addr) (u2 u3 t2 t3 f2 f3 ln lc un uc c cap : Nat) (vv o n : ByteArray) (hm : MoIs S w0 m (.agg #[.slice u1 u2 u3, .slice t1 t2 t3, .slice f1 f2 f3])) (ho : o.toList.isEmpty = true) (hv : (!vv.toList.isEmpty && sEq n vv) = false) (ha : ownAt m n < m.types.length) (W : World) (hb : Below w0.heap.size w0 W) (under : List ByteArray) (hun : SlAt (fun b => b < W.heap.size) (StrAt W) 1 under (.slice ua un uc)) (hh : hasS under n = true) :
    Calls Tryz.prog 61 #[.agg #[.slice u1 u2 u3, .slice t1 t2 t3, .slice f1 f2 f3], .slice la ln lc, .string vv, .agg #[.int .i64 4, .string o, .string n, .slice a c cap], .slice ua un uc] W (Tells w0 (noneS, 2)) := by
  have HT : Hid (∀ W', Below w0.heap.size w0 W' → Calls Tryz.prog 89 #[.agg #[.slice u1 u2 u3, .slice t1 t2 t3, .slice f1 f2 f3], .string n] W' fun e w' => e = .returned (.int .i64 (ownAt m n : Nat)) ∧ Below W'.heap.size W' w') := fun W' hW' => by
    have := typeAt_any S m n _ W' (fun b hb => Nat.lt_of_lt_of_le (hS b hb) hW'.size) (hm.keep (Keeps.below hW' hS))
    rwa [own_idx ha] at this
  have HH : Hid (∀ W', Below W.heap.size W W' → Calls Tryz.prog 62 #[.slice ua un uc, .string n] W' fun e w' => e = .returned (.bool true) ∧ Below W'.heap.size W' w') := fun W' hW' => by
    have := hasText_any (fun b => b < W.heap.size) under n _ W' (fun b hb => Nat.lt_of_lt_of_le hb hW'.size) (strSl_keep (Keeps.below hW' (fun _ h => h)) hun)
    rwa [hh] at this
  obtain ⟨w2, hwe, hs2, p0, p1, p2, q0, q1, q2, hbel⟩ : ∃ w2, (W.alloc (.cells #[.slice u1 u2 u3, .slice t1 t2 t3, .slice f1 f2 f3] 26)).alloc (.cells #[.int .i64 4, .string o, .string n, .slice a c cap] 49) = w2 ∧ w2.heap.size = W.heap.size + 2 ∧ w2.cell? ⟨W.heap.size, 0, none⟩ = some (.slice u1 u2 u3) ∧ w2.cell? ⟨W.heap.size, 1, none⟩ = some (.slice t1 t2 t3) ∧ w2.cell? ⟨W.heap.size, 2, none⟩ = some (.slice f1 f2 f3) ∧ w2.cell? ⟨W.heap.size + 1, 0, none⟩ = some (.int .i64 4) ∧ w2.cell? ⟨W.heap.size + 1, 1, none⟩ = some (.string o) ∧ w2.cell? ⟨W.heap.size + 1, 2, none⟩ = some (.string n) ∧ Below W.heap.size W w2 :=
    ⟨_, rfl, by simp, by simp [go_sem], by simp [go_sem], by simp [go_sem], by simp [go_sem], by simp [go_sem], by simp [go_sem], ((Below.refl _ _).alloc (Nat.le_refl _) _).alloc (by simp) _⟩
  have HB2 := veil (hb.trans (hbel.mono hb.size))
  have HBl := veil hbel
  have HWe := veil hwe
  have hvn : vv.toList.isEmpty = true ∨ vv.toList.isEmpty = false ∧ (n.toList == vv.toList) = false := by
    cases h : vv.toList.isEmpty with
    | true => exact Or.inl rfl
    | false => rw [h] at hv; exact Or.inr ⟨rfl, hv⟩
  clear hm hb hwe hbel hv hun hh
  generalize ownAt m n = k at *
  have hk0 : ¬ (k : Int) < 0 := by omega
  rcases hvn with hve | ⟨hve, hvs⟩
  all_goals
    go_enter Tryz.func61, Tryz.ntmps61
    go_wp2_with fail
    rw [HWe.out]
    refine (HT.out _ HB2.out).mono ?_
    rintro e w3 ⟨rfl, hb3⟩
    have r2 := (hb3.cell (p := ⟨W.heap.size + 1, 2, none⟩) (by show W.heap.size + 1 < _; omega)).trans q2
    have HB3 := veil (HBl.out.trans (hb3.mono HBl.out.size))
    have HB03 := veil (HB2.out.trans (hb3.mono HB2.out.size))
    clear hb3
    go_wp2_with fail
    refine (HH.out _ HB3.out).mono ?_
    rintro e w4 ⟨rfl, hb4⟩
    have HB4 := veil (HB03.out.trans (hb4.mono HB03.out.size))
    clear hb4
    go_wp2_with fail
    go_ret2
    exact ⟨rfl, HB4.out⟩

end Go.Proofs.YtcpnfkeoajeodaaGreatDoor
