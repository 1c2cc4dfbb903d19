/- What alias.solve and alias.solveList answer, where the closure that finds names answers so. -/
import Derived.Test.YtcpnfkeoajeodaaGreatDoorJAm
import Derived.Deep.RegionWith
namespace Go.Proofs.YtcpnfkeoajeodaaGreatDoor
open Go.RowKit
set_option maxRecDepth 100000

/-- a type that may be: how it is. -/
theorem ty_parts {k : Int} {o n : ByteArray} {xs : List Ty} {dd : Nat} (h : tyFault (.mk k o n xs) dd = 0) : dd ≤ 10 ∧ (1 ≤ k ∧ k ≤ 4) ∧ (k = 3 → ∃ t, xs = [t] ∧ tyFault t (dd + 1) = 0) ∧ (k = 4 → identOk n = true) := by
  rw [tyFault] at h
  by_cases h1 : 10 < dd
  · rw [if_pos h1] at h; exact absurd h (by decide)
  · rw [if_neg h1] at h
    by_cases h2 : isIn k 1 4 = false
    · rw [if_pos h2] at h; exact absurd h (by decide)
    · rw [if_neg h2] at h
      by_cases h3 : tyFits k o n xs.length = false
      · rw [if_pos h3] at h; exact absurd h (by decide)
      · rw [if_neg h3] at h
        have hk : 1 ≤ k ∧ k ≤ 4 := by simpa [isIn] using h2
        refine ⟨by omega, hk, fun e => ?_, fun e => ?_⟩
        · subst e
          simp [tyFits] at h3
          obtain ⟨t, rfl⟩ := List.length_eq_one_iff.1 h3.1
          refine ⟨t, rfl, ?_⟩
          rw [tysFault] at h
          by_cases h4 : tyFault t (dd + 1) = 0
          · exact h4
          · rw [if_neg h4] at h; exact h
        · subst e
          simp [tyFits] at h3
          exact h3.2.1

set_option maxHeartbeats 2000000 in
theorem solveList_A (w0 : World) (S : Nat → Prop) (hS : ∀ b, S b → b < w0.heap.size) (ρ : ByteArray → ByteArray → Sol) (hρ : ∀ o n, (ρ o n).1.size ≤ maxLen) (Env : World → Prop) (hE0 : ∀ W, Env W → Below w0.heap.size w0 W) (hEk : ∀ W W', Env W → Below W.heap.size W W' → Env W') (mB lB tB fB : Nat) (d : Nat) (HRec : Hid (∀ (t : Ty) (dd : Nat) (v : Value) (W : World), tyFault t dd = 0 → 11 ≤ dd + d → Env W → TyIs S W t v → Calls Tryz.prog 50 #[v, .func (.func 69) #[] #[.pointer (some ⟨mB, 0, none⟩), .pointer (some ⟨lB, 0, none⟩), .pointer (some ⟨tB, 0, none⟩), .pointer (some ⟨fB, 0, none⟩)]] W (Tells w0 (solveP ρ d t)))) (t : Ty) (dd : Nat) (o n : ByteArray) (v : Value) (W : World) (ht : tyFault t (dd + 1) = 0) (hd : 11 ≤ dd + 1 + d) (hW : Env W) (hv : TyIs S W (.mk 3 o n [t]) v) :
    Calls Tryz.prog 72 #[v, .func (.func 69) #[] #[.pointer (some ⟨mB, 0, none⟩), .pointer (some ⟨lB, 0, none⟩), .pointer (some ⟨tB, 0, none⟩), .pointer (some ⟨fB, 0, none⟩)]] W (Tells w0 (listR (solveP ρ d t))) := by
  obtain ⟨k, f, x, va, rfl, xs, e, _, _, hsl⟩ := hv
  injection e with e1 e2 e3 e4
  subst e1 e2 e3 e4
  obtain ⟨a, cap, rfl⟩ := hsl.is
  obtain ⟨_, b, off, rfl, hb, hat⟩ := hsl.at (k := 0) (by simp)
  simp only [List.getElem_cons_zero, Nat.zero_mul, Nat.add_zero] at hat
  obtain ⟨k1, f1, x1, va1, q0, q1, q2, q3, hcs1⟩ := tyAt_cells.1 hat
  obtain ⟨a1, m1, c1, rfl⟩ : ∃ a1 m1 c1, va1 = .slice a1 m1 c1 := by
    obtain ⟨_, _, _, _, hs⟩ := hcs1
    exact SlAt.slice hs
  have hSW : ∀ b, S b → b < W.heap.size := fun b hb => Nat.lt_of_lt_of_le (hS b hb) (hE0 W hW).size
  have hbW := hSW b hb
  obtain ⟨w2, rfl, p3, hbel⟩ : ∃ w2, w2 = W.alloc (.cells #[.int .i64 3, .string o, .string n, .slice (some ⟨b, off, none⟩) 1 cap] 49) ∧ w2.cell? ⟨W.heap.size, 3, none⟩ = some (.slice (some ⟨b, off, none⟩) 1 cap) ∧ Below W.heap.size W w2 :=
    ⟨_, rfl, by simp [go_sem], (Below.refl _ _).alloc (Nat.le_refl _) _⟩
  have d0 := (hbel.cell (p := ⟨b, off, none⟩) hbW).trans q0
  have d1 := (hbel.cell (p := ⟨b, off + 1, none⟩) hbW).trans q1
  have d2 := (hbel.cell (p := ⟨b, off + 2, none⟩) hbW).trans q2
  have d3 := (hbel.cell (p := ⟨b, off + 3, none⟩) hbW).trans q3
  have HR := veil (HRec.out t (dd + 1) (.agg #[.int .i64 k1, .string f1, .string x1, .slice a1 m1 c1]) _ ht hd (hEk _ _ hW hbel) ⟨_, _, _, _, rfl, hcs1.keep (Keeps.below hbel hSW)⟩)
  have HZ := veil (solveP_size hρ d t)
  have HL : Hid (listR (solveP ρ d t) = if (solveP ρ d t).2 = 0 then (if listErr (solveP ρ d t).1 = 0 then (wrapK (solveP ρ d t).1, 0) else (noneS, 5)) else (noneS, (solveP ρ d t).2)) := rfl
  clear hat hcs1 hsl hbel HRec hρ hW hSW q0 q1 q2 q3 ht hd
  generalize listR (solveP ρ d t) = r at *
  generalize solveP ρ d t = sp at *
  obtain ⟨ss, sc⟩ := sp
  obtain ⟨rs, rc⟩ := r
  simp only at HL HZ
  go_enter Tryz.func72, Tryz.ntmps72
  go_wp2_with fail
  refine HR.out.mono ?_
  rintro e w3 ⟨rfl, hb3⟩
  have HB3 := veil hb3
  clear hb3 HR d0 d1 d2 d3 p3
  by_cases hc : sc = 0
  · rw [if_pos hc] at HL
    subst hc
    by_cases hl : listErr ss = 0
    · rw [if_pos hl] at HL
      have HR1 : Hid (rs = wrapK ss) := (Prod.mk.inj HL.out).1
      have HR2 : Hid (rc = 0) := (Prod.mk.inj HL.out).2
      have HLo := veil (fun W => listOf_good hl W)
      clear hl HL
      go_wp2_with fail
      refine (HLo.out _).mono ?_
      rintro e w4 ⟨rfl, rfl⟩
      go_wp2_with fail
      go_ret2
      exact ⟨by rw [HR1.out, HR2.out]; rfl, HB3.out⟩
    · rw [if_neg hl] at HL
      have HR1 : Hid (rs = noneS) := (Prod.mk.inj HL.out).1
      have HR2 : Hid (rc = 5) := (Prod.mk.inj HL.out).2
      have HLo := veil (fun W => listOf_bad HZ.out hl W)
      have hl' : (listErr ss != 0) = true := by simpa using hl
      clear hl HL
      generalize listErr ss = le at *
      go_wp2_with fail
      refine (HLo.out _).mono ?_
      rintro e w4 ⟨rfl, rfl⟩
      go_wp2_with fail
      go_ret2
      exact ⟨by rw [HR1.out, HR2.out]; rfl, HB3.out⟩
  · rw [if_neg hc] at HL
    have HR1 : Hid (rs = noneS) := (Prod.mk.inj HL.out).1
    have HR2 : Hid (rc = sc) := (Prod.mk.inj HL.out).2
    have hc' : (sc != 0) = true := by simpa using hc
    clear hc HL
    go_wp2_with fail
    go_ret2
    exact ⟨by rw [HR1.out, HR2.out]; rfl, HB3.out⟩

set_option maxHeartbeats 2000000 in
theorem solve_A (w0 : World) (S : Nat → Prop) (hS : ∀ b, S b → b < w0.heap.size) (ρ : ByteArray → ByteArray → Sol) (hρ : ∀ o n, (ρ o n).1.size ≤ maxLen) (Env : World → Prop) (hE0 : ∀ W, Env W → Below w0.heap.size w0 W) (hEk : ∀ W W', Env W → Below W.heap.size W W' → Env W') (mB lB tB fB : Nat) (HF : ∀ o n W, Env W → Calls Tryz.prog 69 #[.string o, .string n, .pointer (some ⟨mB, 0, none⟩), .pointer (some ⟨lB, 0, none⟩), .pointer (some ⟨tB, 0, none⟩), .pointer (some ⟨fB, 0, none⟩)] W (Tells w0 (ρ o n))) : ∀ (d : Nat) (t : Ty) (dd : Nat) (v : Value) (W : World), tyFault t dd = 0 → 11 ≤ dd + d → Env W → TyIs S W t v → Calls Tryz.prog 50 #[v, .func (.func 69) #[] #[.pointer (some ⟨mB, 0, none⟩), .pointer (some ⟨lB, 0, none⟩), .pointer (some ⟨tB, 0, none⟩), .pointer (some ⟨fB, 0, none⟩)]] W (Tells w0 (solveP ρ d t)) := by
  intro d
  induction d with
  | zero =>
    intro t dd v W ht hd
    obtain ⟨k, o, n, xs⟩ := t
    have := (ty_parts ht).1
    omega
  | succ d ih =>
    intro t dd v W ht hd hW hv
    obtain ⟨k, o, n, xs⟩ := t
    obtain ⟨_, ⟨hk1, hk4⟩, h3, _⟩ := ty_parts ht
    have HRec : Hid (∀ (t : Ty) (dd : Nat) (v : Value) (W : World), tyFault t dd = 0 → 11 ≤ dd + d → Env W → TyIs S W t v → Calls Tryz.prog 50 #[v, .func (.func 69) #[] #[.pointer (some ⟨mB, 0, none⟩), .pointer (some ⟨lB, 0, none⟩), .pointer (some ⟨tB, 0, none⟩), .pointer (some ⟨fB, 0, none⟩)]] W (Tells w0 (solveP ρ d t))) := ih
    have HP : Hid (solveP ρ (d + 1) (.mk k o n xs) = if k = 1 then (intK, 0) else if k = 2 then (textK, 0) else if k = 3 then (match xs with
      | [] => (noneS, 5)
      | t :: _ => listR (solveP ρ d t)) else ρ o n) := rfl
    have hv0 := hv
    obtain ⟨k', f', x', va, rfl, xs', e, _, _, hsl⟩ := hv
    injection e with e1 e2 e3 e4
    subst e1 e2 e3 e4
    obtain ⟨a, m, cap, rfl⟩ := hsl.slice
    have hbel : Below W.heap.size W (W.alloc (.cells #[.int .i64 k, .string o, .string n, .slice a m cap] 49)) := (Below.refl _ _).alloc (Nat.le_refl _) _
    have HBel := veil hbel
    have hSW : ∀ b, S b → b < W.heap.size := fun b hb => Nat.lt_of_lt_of_le (hS b hb) (hE0 W hW).size
    have HEnd := veil ((hE0 W hW).trans (hbel.mono (hE0 W hW).size))
    have hk : k = 1 ∨ k = 2 ∨ k = 3 ∨ k = 4 := by omega
    rcases hk with rfl | rfl | rfl | rfl
    · have HR : Hid (solveP ρ (d + 1) (.mk 1 o n xs) = (intK, 0)) := HP.out
      clear HP HRec ih h3 hv0 hsl hW hSW hρ HF
      generalize solveP ρ (d + 1) (.mk 1 o n xs) = r at *
      go_enter Tryz.func50, Tryz.ntmps50
      go_wp2_with fail
      go_ret2
      exact ⟨by rw [HR.out]; rfl, HEnd.out⟩
    · have HR : Hid (solveP ρ (d + 1) (.mk 2 o n xs) = (textK, 0)) := HP.out
      clear HP HRec ih h3 hv0 hsl hW hSW hρ HF
      generalize solveP ρ (d + 1) (.mk 2 o n xs) = r at *
      go_enter Tryz.func50, Tryz.ntmps50
      go_wp2_with fail
      go_ret2
      exact ⟨by rw [HR.out]; rfl, HEnd.out⟩
    · obtain ⟨t, rfl, ht1⟩ := h3 rfl
      have HR : Hid (solveP ρ (d + 1) (.mk 3 o n [t]) = listR (solveP ρ d t)) := HP.out
      have HS := veil (solveList_A w0 S hS ρ hρ Env hE0 hEk mB lB tB fB d HRec t dd o n _ _ ht1 (by omega) (hEk _ _ hW hbel) (hv0.keep (Keeps.below hbel hSW)))
      clear HP HRec ih h3 hv0 hsl hW hSW hρ HF
      generalize solveP ρ (d + 1) (.mk 3 o n [t]) = r at *
      generalize listR (solveP ρ d t) = r' at *
      go_enter Tryz.func50, Tryz.ntmps50
      go_wp2_with fail
      refine HS.out.mono ?_
      rintro e w3 ⟨rfl, hb3⟩
      have HB3 := veil hb3
      clear hb3
      go_wp2_with fail
      go_ret2
      exact ⟨by rw [HR.out]; rfl, HB3.out⟩
    · have HR : Hid (solveP ρ (d + 1) (.mk 4 o n xs) = ρ o n) := HP.out
      have HS := veil (HF o n _ (hEk _ _ hW hbel))
      clear HP HRec ih h3 hv0 hsl hW hSW hρ HF
      generalize solveP ρ (d + 1) (.mk 4 o n xs) = r at *
      generalize ρ o n = r' at *
      go_enter Tryz.func50, Tryz.ntmps50
      go_wp2_with fail
      refine HS.out.mono ?_
      rintro e w3 ⟨rfl, hb3⟩
      have HB3 := veil hb3
      clear hb3
      go_wp2_with fail
      go_ret2
      exact ⟨by rw [HR.out]; rfl, HB3.out⟩

end Go.Proofs.YtcpnfkeoajeodaaGreatDoor

/- What the finder's closure answers: by the places that were met. -/
namespace Go.Proofs.YtcpnfkeoajeodaaGreatDoor
open Go.RowKit
set_option maxRecDepth 100000

def unmet (met : List Nat) : Nat → Nat
  | 0 => 0
  | n + 1 => unmet met n + (if met.contains n = true then 0 else 1)
theorem unmet_le (met : List Nat) (k : Nat) : ∀ n, unmet (k :: met) n ≤ unmet met n
  | 0 => Nat.le_refl _
  | n + 1 => by
    have := unmet_le met k n
    unfold unmet
    by_cases h : met.contains n = true
    · rw [if_pos h, if_pos (by rw [List.contains_cons, h]; simp)]; omega
    · rw [if_neg h]
      split <;> omega
theorem unmet_lt {met : List Nat} {k : Nat} (hk : met.contains k = false) : ∀ {n}, k < n → unmet (k :: met) n + 1 ≤ unmet met n
  | 0, h => absurd h (by omega)
  | n + 1, h => by
    unfold unmet
    by_cases hkn : k = n
    · subst hkn
      have := unmet_le met k k
      rw [if_pos (by simp), if_neg (by rw [hk]; simp)]; omega
    · have := unmet_lt hk (n := n) (by omega)
      by_cases h : met.contains n = true
      · rw [if_pos h, if_pos (by rw [List.contains_cons, h]; simp)]; omega
      · rw [if_neg h]
        split <;> omega
theorem unmet_zero {met : List Nat} : ∀ {n}, unmet met n = 0 → ∀ i, i < n → met.contains i = true
  | 0, _, i, hi => absurd hi (by omega)
  | n + 1, h, i, hi => by
    unfold unmet at h
    by_cases hn : met.contains n = true
    · rw [if_pos hn] at h
      by_cases hin : i = n
      · subst hin; exact hn
      · exact unmet_zero (n := n) (by omega) i (by omega)
    · rw [if_neg hn] at h; omega

theorem impR_size {u : List ByteArray} {l : List Im} (hz : ∀ i ∈ l, fcSmall i.face) (o n : ByteArray) : (impR u l o n).1.size ≤ maxLen := by
  have hr := reachBytes_lt
  show (impVal u l o n).size ≤ _
  unfold impVal
  split
  · unfold typeVal
    cases hk : (fromFc u l o).types[typeAt (fromFc u l o) n]? with
    | none => exact Nat.zero_le _
    | some k =>
      have := (from_small (u := u) o hz).1.2 k (List.mem_of_getElem? hk)
      have h2 := this.2
      show k.is.size ≤ _
      unfold maxLen; omega
  · exact Nat.zero_le _
theorem findR_size {m : Mo} {l : List Im} (hz : ∀ i ∈ l, fcSmall i.face) : ∀ (u : Nat) (met : List Nat) (o n : ByteArray), (findR m l u met o n).1.size ≤ maxLen
  | 0, met, o, n => by
    unfold findR
    split
    · split <;> exact Nat.zero_le _
    · exact impR_size hz o n
  | u + 1, met, o, n => by
    unfold findR
    split
    · cases m.types[ownAt m n]? with
      | none => exact Nat.zero_le _
      | some f =>
        simp only
        split
        · exact Nat.zero_le _
        · exact solveP_size (fun o n => findR_size hz u _ o n) 10 _
    · exact impR_size hz o n

theorem own_idx {m : Mo} {n : ByteArray} (h : ownAt m n < m.types.length) : idxOf (fun k : Fd => sEq k.name n) m.types = (ownAt m n : Int) := if_pos h
theorem own_out {m : Mo} {n : ByteArray} (h : ¬ ownAt m n < m.types.length) : idxOf (fun k : Fd => sEq k.name n) m.types = -1 := if_neg h

theorem find_imp {m : Mo} {l : List Im} {u : Nat} {met : List Nat} {o n : ByteArray} (h : o.toList.isEmpty = false) : findR m l u met o n = impR m.uses l o n := by
  cases u <;> (unfold findR; rw [if_neg (by rw [h]; simp)])
theorem find_none {m : Mo} {l : List Im} {u : Nat} {met : List Nat} {o n : ByteArray} (h : o.toList.isEmpty = true) (ha : ¬ ownAt m n < m.types.length) : findR m l u met o n = (noneS, 5) := by
  cases u with
  | zero => unfold findR; rw [if_pos h, if_neg ha]
  | succ u => unfold findR; rw [if_pos h, List.getElem?_eq_none (by omega)]
theorem find_round {m : Mo} {l : List Im} {u : Nat} {met : List Nat} {o n : ByteArray} (h : o.toList.isEmpty = true) (ha : ownAt m n < m.types.length) (hm : met.contains (ownAt m n) = true) : findR m l u met o n = (noneS, 2) := by
  cases u with
  | zero => unfold findR; rw [if_pos h, if_pos ha]
  | succ u => unfold findR; rw [if_pos h, List.getElem?_eq_getElem ha]; simp only; rw [if_pos hm]
theorem find_on {m : Mo} {l : List Im} {u : Nat} {met : List Nat} {o n : ByteArray} (h : o.toList.isEmpty = true) (ha : ownAt m n < m.types.length) (hm : met.contains (ownAt m n) = false) : findR m l (u + 1) met o n = solveP (findR m l u (ownAt m n :: met)) 10 m.types[ownAt m n].is := by
  unfold findR; rw [if_pos h, List.getElem?_eq_getElem ha]; simp only; rw [if_neg (by rw [hm]; simp)]

theorem mo_types_sl {S : Nat → Prop} {w : World} {m : Mo} {x y z : Value} (h : MoIs S w m (.agg #[x, y, z])) : SlAt S (FdAt S w) 5 m.types y := by
  obtain ⟨vu, vt, vf, e, _, h2, _⟩ := h
  injection e with e
  have e' : [x, y, z] = [vu, vt, vf] := congrArg Array.toList e
  injection e' with _ e'
  injection e' with e2 _
  rw [e2]; exact h2

set_option maxHeartbeats 4000000 in
theorem find_step (w0 : World) (S : Nat → Prop) (hS : ∀ b, S b → b < w0.heap.size) (m : Mo) (l : List Im) (u1 t1 f1 la : Option Addr) (u2 u3 t3 f2 f3 ln lc : Nat) (hm : MoIs S w0 m (.agg #[.slice u1 u2 u3, .slice t1 m.types.length t3, .slice f1 f2 f3])) (hl : SlAt S (ImAt S w0) 4 l (.slice la ln lc)) (hz : ∀ i ∈ l, fcSmall i.face) (mB lB tB fB aB : Nat) (u : Nat) (met : List Nat) (o n : ByteArray) (W : World) (henv : SEnv w0 mB lB tB fB aB (.slice u1 u2 u3) (.slice t1 m.types.length t3) (.slice f1 f2 f3) (.slice la ln lc) m.types.length met W)
    (hon : ∀ (ha : ownAt m n < m.types.length), o.toList.isEmpty = true → met.contains (ownAt m n) = false → ∀ W' v, SEnv w0 mB lB tB fB aB (.slice u1 u2 u3) (.slice t1 m.types.length t3) (.slice f1 f2 f3) (.slice la ln lc) m.types.length (ownAt m n :: met) W' → TyIs S W' m.types[ownAt m n].is v → Calls Tryz.prog 50 #[v, .func (.func 69) #[] #[.pointer (some ⟨mB, 0, none⟩), .pointer (some ⟨lB, 0, none⟩), .pointer (some ⟨tB, 0, none⟩), .pointer (some ⟨fB, 0, none⟩)]] W' (Tells w0 (findR m l u met o n))) :
    Calls Tryz.prog 69 #[.string o, .string n, .pointer (some ⟨mB, 0, none⟩), .pointer (some ⟨lB, 0, none⟩), .pointer (some ⟨tB, 0, none⟩), .pointer (some ⟨fB, 0, none⟩)] W (Tells w0 (findR m l u met o n)) := by
  have hb := henv.below
  have hSW : ∀ b, S b → b < W.heap.size := fun b h => Nat.lt_of_lt_of_le (hS b h) hb.size
  have HB := veil hb
  have HEnv := veil henv
  have hmW := hm.keep (Keeps.below hb hS)
  have hlW := imSl_keep (Keeps.below hb hS) hl
  have c0 := henv.m0
  have c1 := henv.m1
  have c2 := henv.m2
  have c3 := henv.lc
  have c4 := henv.tc
  have c5 := henv.fc
  have hmB := World.block_lt_of_cell? _ _ c0
  cases ho : o.toList.isEmpty with
  | false =>
    have HI : Hid (Calls Tryz.prog 70 #[.agg #[.slice u1 u2 u3, .slice t1 m.types.length t3, .slice f1 f2 f3], .slice la ln lc, .string o, .string n] W fun e w' => e = .returned (.tuple #[.string (impVal m.uses l o n), .int .i64 (impErr m.uses l o n)]) ∧ Below W.heap.size W w') := imported_any S m l o n _ _ W hSW hmW hlW hz
    have HR : Hid (findR m l u met o n = (impVal m.uses l o n, impErr m.uses l o n)) := find_imp ho
    clear hon hmW hlW hm hl hz henv hb hSW c4 c5
    generalize findR m l u met o n = r at *
    generalize impVal m.uses l o n = iv at *
    generalize impErr m.uses l o n = ie at *
    go_enter Tryz.func69, Tryz.ntmps69
    go_wp2_with fail
    refine HI.out.mono ?_
    rintro e w3 ⟨rfl, hb3⟩
    have HB3 := veil (HB.out.trans (hb3.mono HB.out.size))
    clear hb3
    go_wp2_with fail
    go_ret2
    exact ⟨by rw [HR.out]; rfl, HB3.out⟩
  | true =>
    have hts := mo_types_sl hmW
    have HN : Hid (Calls Tryz.prog 71 #[.slice t1 m.types.length t3, .string n] W fun e w' => e = .returned (.int .i64 (idxOf (fun k : Fd => sEq k.name n) m.types)) ∧ Below W.heap.size W w') := named_any S m.types n _ W hSW hts
    by_cases ha : ownAt m n < m.types.length
    · rw [own_idx ha] at HN
      cases hc : met.contains (ownAt m n) with
      | true =>
        have HR : Hid (findR m l u met o n = (noneS, 2)) := find_round ho ha hc
        obtain ⟨g0, _⟩ := henv.arr _ ha
        rw [hc] at g0
        have HG := veil g0
        have hgl := World.block_lt_of_cell? _ _ g0
        clear hon hmW hlW hm hl hz henv hb hts hSW c5 g0 hc
        generalize findR m l u met o n = r at *
        generalize ownAt m n = k at *
        have hk' : (k : Int) < (m.types.length : Int) := by omega
        have hk0 : ¬ (k : Int) < 0 := by omega
        have hk1 : (0 : Int) ≤ (k : Int) := by omega
        go_enter Tryz.func69, Tryz.ntmps69
        go_wp2_with fail
        refine HN.out.mono ?_
        rintro e w3 ⟨rfl, hb3⟩
        have HB3 := veil (HB.out.trans (hb3.mono HB.out.size))
        have d4 := (hb3.cell (World.block_lt_of_cell? _ _ c4)).trans c4
        have dg := (hb3.cell (p := ⟨aB, k, none⟩) hgl).trans HG.out
        clear hb3
        go_wp2_with fail
        go_ret2
        exact ⟨by rw [HR.out]; rfl, HB3.out⟩
      | false =>
        obtain ⟨g0, gf⟩ := henv.arr _ ha
        rw [hc] at g0
        obtain ⟨_, b, off, rfl, hb', hat⟩ := hts.at ha
        obtain ⟨kd, fo, na, p1, p2, p3, a0, a1, a2, a3, a4, hcs⟩ := fd_cells hat
        have hbk := hSW b hb'
        have hlow := henv.low
        have hbS := hS b hb'
        have hgl := World.block_lt_of_cell? _ _ g0
        have HOn := veil (hon ha ho hc)
        have HIs : Hid (∀ W', Below W.heap.size W W' → TyIs S (W'.setCell ⟨aB, ownAt m n, none⟩ (.bool true)) m.types[ownAt m n].is (.agg #[.int .i64 kd, .string fo, .string na, .slice p1 p2 p3])) := fun W' hW' =>
          ⟨_, _, _, _, rfl, (hcs.keep (Keeps.below hW' hSW)).keep ⟨fun b hb2 => Below.heap_setCell _ _ _ _ (by show b ≠ aB; have := hS b hb2; omega), fun _ h => h⟩⟩
        have HCell : Hid (∀ W', Below W.heap.size W W' → (W'.setCell ⟨aB, ownAt m n, none⟩ (.bool true)).cell? ⟨b, off + ownAt m n * 5 + 1, none⟩ = some (.int .i64 kd) ∧ (W'.setCell ⟨aB, ownAt m n, none⟩ (.bool true)).cell? ⟨b, off + ownAt m n * 5 + 2, none⟩ = some (.string fo) ∧ (W'.setCell ⟨aB, ownAt m n, none⟩ (.bool true)).cell? ⟨b, off + ownAt m n * 5 + 3, none⟩ = some (.string na) ∧ (W'.setCell ⟨aB, ownAt m n, none⟩ (.bool true)).cell? ⟨b, off + ownAt m n * 5 + 4, none⟩ = some (.slice p1 p2 p3)) := fun W' hW' => by
          have hne : aB ≠ b := by omega
          refine ⟨?_, ?_, ?_, ?_⟩
          · rw [World.cell?_setCell_far _ _ _ _ hne]; exact (hW'.cell (p := ⟨b, _, none⟩) hbk).trans a1
          · rw [World.cell?_setCell_far _ _ _ _ hne]; exact (hW'.cell (p := ⟨b, _, none⟩) hbk).trans a2
          · rw [World.cell?_setCell_far _ _ _ _ hne]; exact (hW'.cell (p := ⟨b, _, none⟩) hbk).trans a3
          · rw [World.cell?_setCell_far _ _ _ _ hne]; exact (hW'.cell (p := ⟨b, _, none⟩) hbk).trans a4
        have HMeet : Hid (∀ W', Below W.heap.size W W' → SEnv w0 mB lB tB fB aB (.slice u1 u2 u3) (.slice (some ⟨b, off, none⟩) m.types.length t3) (.slice f1 f2 f3) (.slice la ln lc) m.types.length (ownAt m n :: met) (W'.setCell ⟨aB, ownAt m n, none⟩ (.bool true))) := fun W' hW' => (HEnv.out.keep hW').meet ha
        have HG := veil g0
        have HGf := veil gf
        clear hon hmW hlW hm hl hz henv hb hts hSW hat hcs a0 a1 a2 a3 a4 g0 gf hc
        generalize findR m l u met o n = r at *
        generalize m.types[ownAt m n].is = ty at *
        generalize ownAt m n = k at *
        have hk' : (k : Int) < (m.types.length : Int) := by omega
        have hk0 : ¬ (k : Int) < 0 := by omega
        have hk1 : (0 : Int) ≤ (k : Int) := by omega
        go_enter Tryz.func69, Tryz.ntmps69
        go_wp2_with fail
        refine HN.out.mono ?_
        rintro e w3 ⟨rfl, hb3⟩
        have d4 := (hb3.cell (World.block_lt_of_cell? _ _ c4)).trans c4
        have dg := (hb3.cell (p := ⟨aB, k, none⟩) hgl).trans HG.out
        have dgf := (hb3.frozen (p := ⟨aB, k, none⟩) hgl).trans HGf.out
        have HM3 := veil (HMeet.out w3 hb3)
        obtain ⟨q1, q2, q3, q4⟩ := HCell.out w3 hb3
        have HI3 := veil (HIs.out w3 hb3)
        have e1 := HM3.out.m1
        have e5 := HM3.out.fc
        clear hb3
        have HM4 := veil (HM3.out.keep ((Below.refl _ _).drew))
        have HI4 : Hid (TyIs S (w3.setCell ⟨aB, k, none⟩ (.bool true)).drew ty (.agg #[.int .i64 kd, .string fo, .string na, .slice p1 p2 p3])) := TyIs.keep (w := w3.setCell ⟨aB, k, none⟩ (.bool true)) (w' := (w3.setCell ⟨aB, k, none⟩ (.bool true)).drew) (S := S) (S' := S) ⟨fun _ _ => rfl, fun _ h => h⟩ HI3.out
        go_wp2_with fail
        go_region_with (go_at_call 50; refine (HOn.out _ _ HM4.out HI4.out).mono ?_; rintro e w4 ⟨rfl, hb4⟩)
        all_goals
          have HB4 := veil hb4
          clear hb4
          go_wp2_with fail
          go_ret2
          exact ⟨rfl, HB4.out⟩
    · rw [own_out ha] at HN
      have HR : Hid (findR m l u met o n = (noneS, 5)) := find_none ho ha
      clear hon hmW hlW hm hl hz henv hb hts hSW c4 c5 ha
      generalize findR m l u met o n = r at *
      go_enter Tryz.func69, Tryz.ntmps69
      go_wp2_with fail
      refine HN.out.mono ?_
      rintro e w3 ⟨rfl, hb3⟩
      have HB3 := veil (HB.out.trans (hb3.mono HB.out.size))
      clear hb3
      go_wp2_with fail
      go_ret2
      exact ⟨by rw [HR.out]; rfl, HB3.out⟩

theorem find_any (w0 : World) (S : Nat → Prop) (hS : ∀ b, S b → b < w0.heap.size) (m : Mo) (l : List Im) (u1 t1 f1 la : Option Addr) (u2 u3 t3 f2 f3 ln lc : Nat) (hm : MoIs S w0 m (.agg #[.slice u1 u2 u3, .slice t1 m.types.length t3, .slice f1 f2 f3])) (hl : SlAt S (ImAt S w0) 4 l (.slice la ln lc)) (hz : ∀ i ∈ l, fcSmall i.face) (hty : ∀ f ∈ m.types, tyFault f.is 1 = 0)
    (mB lB tB fB aB : Nat) : ∀ (u : Nat) (met : List Nat), unmet met m.types.length ≤ u → ∀ (o n : ByteArray) (W : World), SEnv w0 mB lB tB fB aB (.slice u1 u2 u3) (.slice t1 m.types.length t3) (.slice f1 f2 f3) (.slice la ln lc) m.types.length met W →
    Calls Tryz.prog 69 #[.string o, .string n, .pointer (some ⟨mB, 0, none⟩), .pointer (some ⟨lB, 0, none⟩), .pointer (some ⟨tB, 0, none⟩), .pointer (some ⟨fB, 0, none⟩)] W (Tells w0 (findR m l u met o n)) := by
  intro u
  induction u with
  | zero =>
    intro met hu o n W henv
    refine find_step w0 S hS m l u1 t1 f1 la u2 u3 t3 f2 f3 ln lc hm hl hz mB lB tB fB aB 0 met o n W henv (fun ha _ hc => ?_)
    rw [unmet_zero (by omega) _ ha] at hc
    cases hc
  | succ u ih =>
    intro met hu o n W henv
    refine find_step w0 S hS m l u1 t1 f1 la u2 u3 t3 f2 f3 ln lc hm hl hz mB lB tB fB aB (u + 1) met o n W henv (fun ha ho hc W' v hW' hv => ?_)
    rw [find_on ho ha hc]
    have hlt := unmet_lt hc ha
    exact solve_A w0 S hS (findR m l u (ownAt m n :: met)) (fun o n => findR_size hz u _ o n) (SEnv w0 mB lB tB fB aB (.slice u1 u2 u3) (.slice t1 m.types.length t3) (.slice f1 f2 f3) (.slice la ln lc) m.types.length (ownAt m n :: met)) (fun _ h => h.below) (fun _ _ h hb => h.keep hb) mB lB tB fB
      (fun o' n' W hW => ih (ownAt m n :: met) (by omega) o' n' W hW) 10 _ 1 v W' (hty _ (List.getElem_mem ha)) (by omega) hW' hv

end Go.Proofs.YtcpnfkeoajeodaaGreatDoor
