/- What the reference's solved answers of a name: of another module's, the variable, one that is not there, one that is met again. -/
import Derived.Test.YtkdailcadcfepafJAlias21
namespace Go.Proofs.Ytkdailcadcfepaf
open Go.RowKit

set_option maxHeartbeats 2000000 in
theorem solved_imp (w0 : World) (S : Nat → Prop) (hS : ∀ b, S b → b < w0.heap.size) (m : Mo) (l : List Im) (u1 t1 f1 la ua a : Option Addr) (u2 u3 t2 t3 f2 f3 ln lc un uc c cap : Nat) (vv o n : ByteArray) (hm : MoIs S w0 m (.agg #[.slice u1 u2 u3, .slice t1 t2 t3, .slice f1 f2 f3])) (hl : SlAt S (ImAt S w0) 4 l (.slice la ln lc)) (hi : imsFault l = 0) (ho : o.toList.isEmpty = false) (W : World) (hb : Below w0.heap.size w0 W) :
    Calls Try.prog 34 #[.agg #[.slice u1 u2 u3, .slice t1 t2 t3, .slice f1 f2 f3], .slice la ln lc, .string vv, .agg #[.int .i64 4, .string o, .string n, .slice a c cap], .slice ua un uc] W (Tells w0 (impR m.uses l o n)) := by
  have HC : Hid (∀ W', Below w0.heap.size w0 W' → Calls Try.prog 28 #[.agg #[.slice u1 u2 u3, .slice t1 t2 t3, .slice f1 f2 f3], .slice la ln lc, .string o] W' fun e w' => ∃ a n cap a2 n2 cap2, e = .returned (.tuple #[.agg #[.slice a n cap, .slice a2 n2 cap2], .bool (fromOk m.uses l o)]) ∧ FcIs S w' (fromFc m.uses l o) (.agg #[.slice a n cap, .slice a2 n2 cap2]) ∧ Below W'.heap.size W' w') := fun W' hW' => by
    have hS' : ∀ b, S b → b < W'.heap.size := fun b hb => Nat.lt_of_lt_of_le (hS b hb) hW'.size
    refine (fromOf_any S m l o _ _ W' hS' (hm.keep (Keeps.below hW' hS)) (imSl_keep (Keeps.below hW' hS) hl) hi).mono ?_
    rintro e w' ⟨a, n, cap, a2, n2, cap2, rfl, hf, hb⟩
    exact ⟨a, n, cap, a2, n2, cap2, rfl, hf.keep (Keeps.below hb hS'), hb⟩
  have HT : Hid (∀ W' u, w0.heap.size ≤ W'.heap.size → FcIs S W' (fromFc m.uses l o) u → Calls Try.prog 58 #[u, .string n] W' fun e w' => e = .returned (.tuple #[.string (typeVal (fromFc m.uses l o) n), .int .i64 (typeErr (fromFc m.uses l o) n)]) ∧ Below W'.heap.size W' w') := fun W' u hW' hu =>
    typeIn_any S _ n _ W' (fun b hb => Nat.lt_of_lt_of_le (hS b hb) hW') hu
  have HV : Hid (impVal m.uses l o n = if (fromOk m.uses l o && typeErr (fromFc m.uses l o) n == 0) = true then typeVal (fromFc m.uses l o) n else ⟨#[]⟩) := rfl
  have HE : Hid (impErr m.uses l o n = if (fromOk m.uses l o && typeErr (fromFc m.uses l o) n == 0) = true then 0 else 5) := rfl
  have HI : Hid (impR m.uses l o n = (impVal m.uses l o n, impErr m.uses l o n)) := rfl
  obtain ⟨w2, hwe, hs2, p0, p1, p2, q0, q1, q2, hbel⟩ : ∃ w2, (W.alloc (.cells #[.slice u1 u2 u3, .slice t1 t2 t3, .slice f1 f2 f3] 26)).alloc (.cells #[.int .i64 4, .string o, .string n, .slice a c cap] 37) = w2 ∧ w2.heap.size = W.heap.size + 2 ∧ w2.cell? ⟨W.heap.size, 0, none⟩ = some (.slice u1 u2 u3) ∧ w2.cell? ⟨W.heap.size, 1, none⟩ = some (.slice t1 t2 t3) ∧ w2.cell? ⟨W.heap.size, 2, none⟩ = some (.slice f1 f2 f3) ∧ w2.cell? ⟨W.heap.size + 1, 0, none⟩ = some (.int .i64 4) ∧ w2.cell? ⟨W.heap.size + 1, 1, none⟩ = some (.string o) ∧ w2.cell? ⟨W.heap.size + 1, 2, none⟩ = some (.string n) ∧ Below W.heap.size W w2 :=
    ⟨_, rfl, by simp, by simp [go_sem], by simp [go_sem], by simp [go_sem], by simp [go_sem], by simp [go_sem], by simp [go_sem], ((Below.refl _ _).alloc (Nat.le_refl _) _).alloc (by simp) _⟩
  have HB2 := veil (hb.trans (hbel.mono hb.size))
  have HWe := veil hwe
  clear hm hl hi hb hwe hbel
  generalize impR m.uses l o n = r at *
  generalize fromFc m.uses l o = fc at *
  generalize fromOk m.uses l o = ok at *
  generalize impVal m.uses l o n = iv at *
  generalize impErr m.uses l o n = ie at *
  generalize typeVal fc n = tv at *
  generalize typeErr fc n = te at *
  go_enter Try.func34, Try.ntmps34
  go_wp2_with fail
  rw [HWe.out]
  go_wp2_with fail
  refine (HC.out _ HB2.out).mono ?_
  rintro e w3 ⟨b1, b2, b3, c1, c2, c3, rfl, hfc, hb3⟩
  have hb4 : Below w3.heap.size w3 (w3.alloc (.cells #[.slice b1 b2 b3, .slice c1 c2 c3] 47)) := (Below.refl _ _).alloc (Nat.le_refl _) _
  have hb3' := HB2.out.trans (hb3.mono HB2.out.size)
  have hS3 : ∀ b, S b → b < w3.heap.size := fun b hb => by have := hS b hb; have := hb3'.size; omega
  have HF4 := veil (hfc.keep (Keeps.below hb4 hS3))
  have HB4 := veil (hb3'.trans (hb4.mono hb3'.size))
  have r0 : (w3.alloc (.cells #[.slice b1 b2 b3, .slice c1 c2 c3] 47)).cell? ⟨w3.heap.size, 0, none⟩ = some (.slice b1 b2 b3) := by simp [go_sem]
  have r1 : (w3.alloc (.cells #[.slice b1 b2 b3, .slice c1 c2 c3] 47)).cell? ⟨w3.heap.size, 1, none⟩ = some (.slice c1 c2 c3) := by simp [go_sem]
  have r2 := (hb3.cell (p := ⟨W.heap.size + 1, 2, none⟩) (by show W.heap.size + 1 < _; omega)).trans q2
  have r3 := (hb4.cell (p := ⟨W.heap.size + 1, 2, none⟩) (by show W.heap.size + 1 < _; have := hb3.size; omega)).trans r2
  have HT2 := veil (HT.out _ _ HB4.out.size HF4.out)
  clear hb3 hb4 hb3' hfc hS3 HC HT p0 p1 p2 q0 q1 q2
  go_wp2_with fail
  refine HT2.out.mono ?_
  rintro e w5 ⟨rfl, hb5⟩
  have HB5 := veil (HB4.out.trans (hb5.mono HB4.out.size))
  clear hb5 r0 r1 r2 r3 HT2
  cases ok with
  | false =>
    have HR1 : Hid (iv = ⟨#[]⟩) := HV.out.trans (if_neg (by simp))
    have HR2 : Hid (ie = 5) := HE.out.trans (if_neg (by simp))
    clear HV HE
    go_wp2_with fail
    go_ret2
    exact ⟨by rw [HI.out, HR1.out, HR2.out]; rfl, HB5.out⟩
  | true =>
    cases ht : (te == 0) with
    | true =>
      have HR1 : Hid (iv = tv) := HV.out.trans (if_pos (by rw [ht]; rfl))
      have HR2 : Hid (ie = 0) := HE.out.trans (if_pos (by rw [ht]; rfl))
      have ht' : (te != 0) = false := by simpa using ht
      clear HV HE ht
      go_wp2_with fail
      go_ret2
      exact ⟨by rw [HI.out, HR1.out, HR2.out]; rfl, HB5.out⟩
    | false =>
      have HR1 : Hid (iv = ⟨#[]⟩) := HV.out.trans (if_neg (by rw [ht]; simp))
      have HR2 : Hid (ie = 5) := HE.out.trans (if_neg (by rw [ht]; simp))
      have ht' : (te != 0) = true := by simpa using ht
      clear HV HE ht
      go_wp2_with fail
      go_ret2
      exact ⟨by rw [HI.out, HR1.out, HR2.out]; rfl, HB5.out⟩

set_option maxHeartbeats 2000000 in
theorem solved_star (w0 : World) (u1 t1 f1 la ua a : Option Addr) (u2 u3 t2 t3 f2 f3 ln lc un uc c cap : Nat) (vv o n : ByteArray) (ho : o.toList.isEmpty = true) (hv : (!vv.toList.isEmpty && sEq n vv) = true) (W : World) (hb : Below w0.heap.size w0 W) :
    Calls Try.prog 34 #[.agg #[.slice u1 u2 u3, .slice t1 t2 t3, .slice f1 f2 f3], .slice la ln lc, .string vv, .agg #[.int .i64 4, .string o, .string n, .slice a c cap], .slice ua un uc] W (Tells w0 (starK, 0)) := by
  obtain ⟨hv1, hv2⟩ : vv.toList.isEmpty = false ∧ (n.toList == vv.toList) = true := by
    rw [Bool.and_eq_true] at hv
    exact ⟨by simpa using hv.1, hv.2⟩
  have HB : Hid (Below w0.heap.size w0 ((W.alloc (.cells #[.slice u1 u2 u3, .slice t1 t2 t3, .slice f1 f2 f3] 26)).alloc (.cells #[.int .i64 4, .string o, .string n, .slice a c cap] 37))) := (hb.alloc hb.size _).alloc (by have := hb.size; simp; omega) _
  clear hb hv
  go_enter Try.func34, Try.ntmps34
  go_wp2_with fail
  go_ret2
  exact ⟨rfl, HB.out⟩

set_option maxHeartbeats 2000000 in
theorem solved_none (w0 : World) (S : Nat → Prop) (hS : ∀ b, S b → b < w0.heap.size) (m : Mo) (u1 t1 f1 la ua a : Option Addr) (u2 u3 t2 t3 f2 f3 ln lc un uc c cap : Nat) (vv o n : ByteArray) (hm : MoIs S w0 m (.agg #[.slice u1 u2 u3, .slice t1 t2 t3, .slice f1 f2 f3])) (ho : o.toList.isEmpty = true) (hv : (!vv.toList.isEmpty && sEq n vv) = false) (ha : ¬ ownAt m n < m.types.length) (W : World) (hb : Below w0.heap.size w0 W) :
    Calls Try.prog 34 #[.agg #[.slice u1 u2 u3, .slice t1 t2 t3, .slice f1 f2 f3], .slice la ln lc, .string vv, .agg #[.int .i64 4, .string o, .string n, .slice a c cap], .slice ua un uc] W (Tells w0 (noneS, 5)) := by
  have HT : Hid (∀ W', Below w0.heap.size w0 W' → Calls Try.prog 40 #[.agg #[.slice u1 u2 u3, .slice t1 t2 t3, .slice f1 f2 f3], .string n] W' fun e w' => e = .returned (.int .i64 (-1)) ∧ Below W'.heap.size W' w') := fun W' hW' => by
    have := typeAt_any S m n _ W' (fun b hb => Nat.lt_of_lt_of_le (hS b hb) hW'.size) (hm.keep (Keeps.below hW' hS))
    rwa [own_out ha] at this
  obtain ⟨w2, hwe, hs2, p0, p1, p2, q0, q1, q2, hbel⟩ : ∃ w2, (W.alloc (.cells #[.slice u1 u2 u3, .slice t1 t2 t3, .slice f1 f2 f3] 26)).alloc (.cells #[.int .i64 4, .string o, .string n, .slice a c cap] 37) = w2 ∧ w2.heap.size = W.heap.size + 2 ∧ w2.cell? ⟨W.heap.size, 0, none⟩ = some (.slice u1 u2 u3) ∧ w2.cell? ⟨W.heap.size, 1, none⟩ = some (.slice t1 t2 t3) ∧ w2.cell? ⟨W.heap.size, 2, none⟩ = some (.slice f1 f2 f3) ∧ w2.cell? ⟨W.heap.size + 1, 0, none⟩ = some (.int .i64 4) ∧ w2.cell? ⟨W.heap.size + 1, 1, none⟩ = some (.string o) ∧ w2.cell? ⟨W.heap.size + 1, 2, none⟩ = some (.string n) ∧ Below W.heap.size W w2 :=
    ⟨_, rfl, by simp, by simp [go_sem], by simp [go_sem], by simp [go_sem], by simp [go_sem], by simp [go_sem], by simp [go_sem], ((Below.refl _ _).alloc (Nat.le_refl _) _).alloc (by simp) _⟩
  have HB2 := veil (hb.trans (hbel.mono hb.size))
  have HWe := veil hwe
  have hvn : vv.toList.isEmpty = true ∨ vv.toList.isEmpty = false ∧ (n.toList == vv.toList) = false := by
    cases h : vv.toList.isEmpty with
    | true => exact Or.inl rfl
    | false => rw [h] at hv; exact Or.inr ⟨rfl, hv⟩
  clear hm hb hwe hbel hv ha
  rcases hvn with hve | ⟨hve, hvs⟩
  all_goals
    go_enter Try.func34, Try.ntmps34
    go_wp2_with fail
    rw [HWe.out]
    refine (HT.out _ HB2.out).mono ?_
    rintro e w3 ⟨rfl, hb3⟩
    have HB3 := veil (HB2.out.trans (hb3.mono HB2.out.size))
    clear hb3
    go_wp2_with fail
    go_ret2
    exact ⟨rfl, HB3.out⟩

set_option maxHeartbeats 2000000 in
theorem solved_round (w0 : World) (S : Nat → Prop) (hS : ∀ b, S b → b < w0.heap.size) (m : Mo) (u1 t1 f1 la ua a : Option Addr) (u2 u3 t2 t3 f2 f3 ln lc un uc c cap : Nat) (vv o n : ByteArray) (hm : MoIs S w0 m (.agg #[.slice u1 u2 u3, .slice t1 t2 t3, .slice f1 f2 f3])) (ho : o.toList.isEmpty = true) (hv : (!vv.toList.isEmpty && sEq n vv) = false) (ha : ownAt m n < m.types.length) (W : World) (hb : Below w0.heap.size w0 W) (under : List ByteArray) (hun : SlAt (fun b => b < W.heap.size) (StrAt W) 1 under (.slice ua un uc)) (hh : hasS under n = true) :
    Calls Try.prog 34 #[.agg #[.slice u1 u2 u3, .slice t1 t2 t3, .slice f1 f2 f3], .slice la ln lc, .string vv, .agg #[.int .i64 4, .string o, .string n, .slice a c cap], .slice ua un uc] W (Tells w0 (noneS, 2)) := by
  have HT : Hid (∀ W', Below w0.heap.size w0 W' → Calls Try.prog 40 #[.agg #[.slice u1 u2 u3, .slice t1 t2 t3, .slice f1 f2 f3], .string n] W' fun e w' => e = .returned (.int .i64 (ownAt m n : Nat)) ∧ Below W'.heap.size W' w') := fun W' hW' => by
    have := typeAt_any S m n _ W' (fun b hb => Nat.lt_of_lt_of_le (hS b hb) hW'.size) (hm.keep (Keeps.below hW' hS))
    rwa [own_idx ha] at this
  have HH : Hid (∀ W', Below W.heap.size W W' → Calls Try.prog 29 #[.slice ua un uc, .string n] W' fun e w' => e = .returned (.bool true) ∧ Below W'.heap.size W' w') := fun W' hW' => by
    have := hasText_any (fun b => b < W.heap.size) under n _ W' (fun b hb => Nat.lt_of_lt_of_le hb hW'.size) (strSl_keep (Keeps.below hW' (fun _ h => h)) hun)
    rwa [hh] at this
  obtain ⟨w2, hwe, hs2, p0, p1, p2, q0, q1, q2, hbel⟩ : ∃ w2, (W.alloc (.cells #[.slice u1 u2 u3, .slice t1 t2 t3, .slice f1 f2 f3] 26)).alloc (.cells #[.int .i64 4, .string o, .string n, .slice a c cap] 37) = w2 ∧ w2.heap.size = W.heap.size + 2 ∧ w2.cell? ⟨W.heap.size, 0, none⟩ = some (.slice u1 u2 u3) ∧ w2.cell? ⟨W.heap.size, 1, none⟩ = some (.slice t1 t2 t3) ∧ w2.cell? ⟨W.heap.size, 2, none⟩ = some (.slice f1 f2 f3) ∧ w2.cell? ⟨W.heap.size + 1, 0, none⟩ = some (.int .i64 4) ∧ w2.cell? ⟨W.heap.size + 1, 1, none⟩ = some (.string o) ∧ w2.cell? ⟨W.heap.size + 1, 2, none⟩ = some (.string n) ∧ Below W.heap.size W w2 :=
    ⟨_, rfl, by simp, by simp [go_sem], by simp [go_sem], by simp [go_sem], by simp [go_sem], by simp [go_sem], by simp [go_sem], ((Below.refl _ _).alloc (Nat.le_refl _) _).alloc (by simp) _⟩
  have HB2 := veil (hb.trans (hbel.mono hb.size))
  have HBl := veil hbel
  have HWe := veil hwe
  have hvn : vv.toList.isEmpty = true ∨ vv.toList.isEmpty = false ∧ (n.toList == vv.toList) = false := by
    cases h : vv.toList.isEmpty with
    | true => exact Or.inl rfl
    | false => rw [h] at hv; exact Or.inr ⟨rfl, hv⟩
  clear hm hb hwe hbel hv hun hh
  generalize ownAt m n = k at *
  have hk0 : ¬ (k : Int) < 0 := by omega
  rcases hvn with hve | ⟨hve, hvs⟩
  all_goals
    go_enter Try.func34, Try.ntmps34
    go_wp2_with fail
    rw [HWe.out]
    refine (HT.out _ HB2.out).mono ?_
    rintro e w3 ⟨rfl, hb3⟩
    have r2 := (hb3.cell (p := ⟨W.heap.size + 1, 2, none⟩) (by show W.heap.size + 1 < _; omega)).trans q2
    have HB3 := veil (HBl.out.trans (hb3.mono HBl.out.size))
    have HB03 := veil (HB2.out.trans (hb3.mono HB2.out.size))
    clear hb3
    go_wp2_with fail
    refine (HH.out _ HB3.out).mono ?_
    rintro e w4 ⟨rfl, hb4⟩
    have HB4 := veil (HB03.out.trans (hb4.mono HB03.out.size))
    clear hb4
    go_wp2_with fail
    go_ret2
    exact ⟨rfl, HB4.out⟩

end Go.Proofs.Ytkdailcadcfepaf
