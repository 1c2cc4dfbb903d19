import Derived.Test.YtagbaimfigljiaaGreatDoorJCk16
import Derived.Deep.RegionWith
import Derived.Laws.EntriesVeiled
namespace Go.Proofs.YtagbaimfigljiaaGreatDoor
open Go.RowKit
set_option maxRecDepth 100000

def unmet (met : List Nat) : Nat → Nat
  | 0 => 0
  | n + 1 => unmet met n + (if met.contains n = true then 0 else 1)
theorem unmet_le (met : List Nat) (k : Nat) : ∀ n, unmet (k :: met) n ≤ unmet met n
  | 0 => Nat.le_refl _
  | n + 1 => by
    have := unmet_le met k n
    unfold unmet
    by_cases h : met.contains n = true
    · rw [if_pos h, if_pos (by rw [List.contains_cons, h]; simp)]; omega
    · rw [if_neg h]
      split <;> omega
theorem unmet_lt {met : List Nat} {k : Nat} (hk : met.contains k = false) : ∀ {n}, k < n → unmet (k :: met) n + 1 ≤ unmet met n
  | 0, h => absurd h (by omega)
  | n + 1, h => by
    unfold unmet
    by_cases hkn : k = n
    · subst hkn
      have := unmet_le met k k
      rw [if_pos (by simp), if_neg (by rw [hk]; simp)]; omega
    · have := unmet_lt hk (n := n) (by omega)
      by_cases h : met.contains n = true
      · rw [if_pos h, if_pos (by rw [List.contains_cons, h]; simp)]; omega
      · rw [if_neg h]
        split <;> omega
theorem unmet_zero {met : List Nat} : ∀ {n}, unmet met n = 0 → ∀ i, i < n → met.contains i = true
  | 0, _, i, hi => absurd hi (by omega)
  | n + 1, h, i, hi => by
    unfold unmet at h
    by_cases hn : met.contains n = true
    · rw [if_pos hn] at h
      by_cases hin : i = n
      · subst hin; exact hn
      · exact unmet_zero (n := n) (by omega) i (by omega)
    · rw [if_neg hn] at h; omega

theorem impR_size {u : List ByteArray} {l : List Im} (hz : ∀ i ∈ l, fcSmall i.face) (o n : ByteArray) : (impR u l o n).1.size ≤ maxLen := by
  have hr := reachBytes_lt
  show (impVal u l o n).size ≤ _
  unfold impVal
  split
  · unfold typeVal
    cases hk : (fromFc u l o).types[typeAt (fromFc u l o) n]? with
    | none => exact Nat.zero_le _
    | some k =>
      have := (from_small (u := u) o hz).1.2 k (List.mem_of_getElem? hk)
      have h2 := this.2
      show k.is.size ≤ _
      unfold maxLen; omega
  · exact Nat.zero_le _
theorem findR_size {m : Mo} {l : List Im} (hz : ∀ i ∈ l, fcSmall i.face) : ∀ (u : Nat) (met : List Nat) (o n : ByteArray), (findR m l u met o n).1.size ≤ maxLen
  | 0, met, o, n => by
    unfold findR
    split
    · split <;> exact Nat.zero_le _
    · exact impR_size hz o n
  | u + 1, met, o, n => by
    unfold findR
    split
    · cases m.types[ownAt m n]? with
      | none => exact Nat.zero_le _
      | some f =>
        simp only
        split
        · exact Nat.zero_le _
        · exact solveP_size (fun o n => findR_size hz u _ o n) 10 _
    · exact impR_size hz o n

theorem own_idx {m : Mo} {n : ByteArray} (h : ownAt m n < m.types.length) : idxOf (fun k : Fd => sEq k.name n) m.types = (ownAt m n : Int) := if_pos h
theorem own_out {m : Mo} {n : ByteArray} (h : ¬ ownAt m n < m.types.length) : idxOf (fun k : Fd => sEq k.name n) m.types = -1 := if_neg h

theorem find_imp {m : Mo} {l : List Im} {u : Nat} {met : List Nat} {o n : ByteArray} (h : o.toList.isEmpty = false) : findR m l u met o n = impR m.uses l o n := by
  cases u <;> (unfold findR; rw [if_neg (by rw [h]; simp)])
theorem find_none {m : Mo} {l : List Im} {u : Nat} {met : List Nat} {o n : ByteArray} (h : o.toList.isEmpty = true) (ha : ¬ ownAt m n < m.types.length) : findR m l u met o n = (noneS, 5) := by
  cases u with
  | zero => unfold findR; rw [if_pos h, if_neg ha]
  | succ u => unfold findR; rw [if_pos h, List.getElem?_eq_none (by omega)]
theorem find_round {m : Mo} {l : List Im} {u : Nat} {met : List Nat} {o n : ByteArray} (h : o.toList.isEmpty = true) (ha : ownAt m n < m.types.length) (hm : met.contains (ownAt m n) = true) : findR m l u met o n = (noneS, 2) := by
  cases u with
  | zero => unfold findR; rw [if_pos h, if_pos ha]
  | succ u => unfold findR; rw [if_pos h, List.getElem?_eq_getElem ha]; simp only; rw [if_pos hm]
theorem find_on {m : Mo} {l : List Im} {u : Nat} {met : List Nat} {o n : ByteArray} (h : o.toList.isEmpty = true) (ha : ownAt m n < m.types.length) (hm : met.contains (ownAt m n) = false) : findR m l (u + 1) met o n = solveP (findR m l u (ownAt m n :: met)) 10 m.types[ownAt m n].is := by
  unfold findR; rw [if_pos h, List.getElem?_eq_getElem ha]; simp only; rw [if_neg (by rw [hm]; simp)]

theorem mo_types_sl {S : Nat → Prop} {w : World} {m : Mo} {x y z : Value} (h : MoIs S w m (.agg #[x, y, z])) : SlAt S (FdAt S w) 5 m.types y := by
  obtain ⟨vu, vt, vf, e, _, h2, _⟩ := h
  injection e with e
  have e' : [x, y, z] = [vu, vt, vf] := congrArg Array.toList e
  injection e' with _ e'
  injection e' with e2 _
  rw [e2]; exact h2

set_option maxHeartbeats 4000000 in
theorem find_step (w0 : World) (S : Nat → Prop) (hS : ∀ b, S b → b < w0.heap.size) (m : Mo) (l : List Im) (u1 t1 f1 la : Option Addr) (u2 u3 t3 f2 f3 ln lc : Nat) (hm : MoIs S w0 m (.agg #[.slice u1 u2 u3, .slice t1 m.types.length t3, .slice f1 f2 f3])) (hl : SlAt S (ImAt S w0) 4 l (.slice la ln lc)) (hz : ∀ i ∈ l, fcSmall i.face) (mB lB tB fB aB : Nat) (u : Nat) (met : List Nat) (o n : ByteArray) (W : World) (henv : SEnv w0 mB lB tB fB aB (.slice u1 u2 u3) (.slice t1 m.types.length t3) (.slice f1 f2 f3) (.slice la ln lc) m.types.length met W)
    (hon : ∀ (ha : ownAt m n < m.types.length), o.toList.isEmpty = true → met.contains (ownAt m n) = false → ∀ W' v, SEnv w0 mB lB tB fB aB (.slice u1 u2 u3) (.slice t1 m.types.length t3) (.slice f1 f2 f3) (.slice la ln lc) m.types.length (ownAt m n :: met) W' → TyIs S W' m.types[ownAt m n].is v → Calls Tryz.prog 223 #[v, .func (.func 290) #[] #[.pointer (some ⟨mB, 0, none⟩), .pointer (some ⟨lB, 0, none⟩), .pointer (some ⟨tB, 0, none⟩), .pointer (some ⟨fB, 0, none⟩)]] W' (Tells w0 (findR m l u met o n))) :
    Calls Tryz.prog 290 #[.string o, .string n, .pointer (some ⟨mB, 0, none⟩), .pointer (some ⟨lB, 0, none⟩), .pointer (some ⟨tB, 0, none⟩), .pointer (some ⟨fB, 0, none⟩)] W (Tells w0 (findR m l u met o n)) := by
  have hb := henv.below
  have hSW : ∀ b, S b → b < W.heap.size := fun b h => Nat.lt_of_lt_of_le (hS b h) hb.size
  have HB := veil hb
  have HEnv := veil henv
  have hmW := hm.keep (Keeps.below hb hS)
  have hlW := imSl_keep (Keeps.below hb hS) hl
  have c0 := henv.m0
  have c1 := henv.m1
  have c2 := henv.m2
  have c3 := henv.lc
  have c4 := henv.tc
  have c5 := henv.fc
  have hmB := World.block_lt_of_cell? _ _ c0
  cases ho : o.toList.isEmpty with
  | false =>
    have HI : Hid (Calls Tryz.prog 291 #[.agg #[.slice u1 u2 u3, .slice t1 m.types.length t3, .slice f1 f2 f3], .slice la ln lc, .string o, .string n] W fun e w' => e = .returned (.tuple #[.string (impVal m.uses l o n), .int .i64 (impErr m.uses l o n)]) ∧ Below W.heap.size W w') := imported_any S m l o n _ _ W hSW hmW hlW hz
    have HR : Hid (findR m l u met o n = (impVal m.uses l o n, impErr m.uses l o n)) := find_imp ho
    clear hon hmW hlW hm hl hz henv hb hSW c4 c5
    generalize findR m l u met o n = r at *
    generalize impVal m.uses l o n = iv at *
    generalize impErr m.uses l o n = ie at *
    go_enter Tryz.func290, Tryz.ntmps290
    go_wp2_with fail
    refine HI.out.mono ?_
    rintro e w3 ⟨rfl, hb3⟩
    have HB3 := veil (HB.out.trans (hb3.mono HB.out.size))
    clear hb3
    go_wp2_with fail
    go_ret2
    exact ⟨by rw [HR.out]; rfl, HB3.out⟩
  | true =>
    have hts := mo_types_sl hmW
    have HN : Hid (Calls Tryz.prog 217 #[.slice t1 m.types.length t3, .string n] W fun e w' => e = .returned (.int .i64 (idxOf (fun k : Fd => sEq k.name n) m.types)) ∧ Below W.heap.size W w') := named_any S m.types n _ W hSW hts
    by_cases ha : ownAt m n < m.types.length
    · rw [own_idx ha] at HN
      cases hc : met.contains (ownAt m n) with
      | true =>
        have HR : Hid (findR m l u met o n = (noneS, 2)) := find_round ho ha hc
        obtain ⟨g0, _⟩ := henv.arr _ ha
        rw [hc] at g0
        have HG := veil g0
        have hgl := World.block_lt_of_cell? _ _ g0
        clear hon hmW hlW hm hl hz henv hb hts hSW c5 g0 hc
        generalize findR m l u met o n = r at *
        generalize ownAt m n = k at *
        have hk' : (k : Int) < (m.types.length : Int) := by omega
        have hk0 : ¬ (k : Int) < 0 := by omega
        have hk1 : (0 : Int) ≤ (k : Int) := by omega
        go_enter Tryz.func290, Tryz.ntmps290
        go_wp2_with fail
        refine HN.out.mono ?_
        rintro e w3 ⟨rfl, hb3⟩
        have HB3 := veil (HB.out.trans (hb3.mono HB.out.size))
        have d4 := (hb3.cell (World.block_lt_of_cell? _ _ c4)).trans c4
        have dg := (hb3.cell (p := ⟨aB, k, none⟩) hgl).trans HG.out
        clear hb3
        go_wp2_with fail
        go_ret2
        exact ⟨by rw [HR.out]; rfl, HB3.out⟩
      | false =>
        obtain ⟨g0, gf⟩ := henv.arr _ ha
        rw [hc] at g0
        obtain ⟨_, b, off, rfl, hb', hat⟩ := hts.at ha
        obtain ⟨kd, fo, na, p1, p2, p3, a0, a1, a2, a3, a4, hcs⟩ := fd_cells hat
        have hbk := hSW b hb'
        have hlow := henv.low
        have hbS := hS b hb'
        have hgl := World.block_lt_of_cell? _ _ g0
        have HOn := veil (hon ha ho hc)
        have HIs : Hid (∀ W', Below W.heap.size W W' → TyIs S (W'.setCell ⟨aB, ownAt m n, none⟩ (.bool true)) m.types[ownAt m n].is (.agg #[.int .i64 kd, .string fo, .string na, .slice p1 p2 p3])) := fun W' hW' =>
          ⟨_, _, _, _, rfl, (hcs.keep (Keeps.below hW' hSW)).keep ⟨fun b hb2 => Below.heap_setCell _ _ _ _ (by show b ≠ aB; have := hS b hb2; omega), fun _ h => h⟩⟩
        have HCell : Hid (∀ W', Below W.heap.size W W' → (W'.setCell ⟨aB, ownAt m n, none⟩ (.bool true)).cell? ⟨b, off + ownAt m n * 5 + 1, none⟩ = some (.int .i64 kd) ∧ (W'.setCell ⟨aB, ownAt m n, none⟩ (.bool true)).cell? ⟨b, off + ownAt m n * 5 + 2, none⟩ = some (.string fo) ∧ (W'.setCell ⟨aB, ownAt m n, none⟩ (.bool true)).cell? ⟨b, off + ownAt m n * 5 + 3, none⟩ = some (.string na) ∧ (W'.setCell ⟨aB, ownAt m n, none⟩ (.bool true)).cell? ⟨b, off + ownAt m n * 5 + 4, none⟩ = some (.slice p1 p2 p3)) := fun W' hW' => by
          have hne : aB ≠ b := by omega
          refine ⟨?_, ?_, ?_, ?_⟩
          · rw [World.cell?_setCell_far _ _ _ _ hne]; exact (hW'.cell (p := ⟨b, _, none⟩) hbk).trans a1
          · rw [World.cell?_setCell_far _ _ _ _ hne]; exact (hW'.cell (p := ⟨b, _, none⟩) hbk).trans a2
          · rw [World.cell?_setCell_far _ _ _ _ hne]; exact (hW'.cell (p := ⟨b, _, none⟩) hbk).trans a3
          · rw [World.cell?_setCell_far _ _ _ _ hne]; exact (hW'.cell (p := ⟨b, _, none⟩) hbk).trans a4
        have HMeet : Hid (∀ W', Below W.heap.size W W' → SEnv w0 mB lB tB fB aB (.slice u1 u2 u3) (.slice (some ⟨b, off, none⟩) m.types.length t3) (.slice f1 f2 f3) (.slice la ln lc) m.types.length (ownAt m n :: met) (W'.setCell ⟨aB, ownAt m n, none⟩ (.bool true))) := fun W' hW' => (HEnv.out.keep hW').meet ha
        have HG := veil g0
        have HGf := veil gf
        clear hon hmW hlW hm hl hz henv hb hts hSW hat hcs a0 a1 a2 a3 a4 g0 gf hc
        generalize findR m l u met o n = r at *
        generalize m.types[ownAt m n].is = ty at *
        generalize ownAt m n = k at *
        have hk' : (k : Int) < (m.types.length : Int) := by omega
        have hk0 : ¬ (k : Int) < 0 := by omega
        have hk1 : (0 : Int) ≤ (k : Int) := by omega
        go_enter Tryz.func290, Tryz.ntmps290
        go_wp2_with fail
        refine HN.out.mono ?_
        rintro e w3 ⟨rfl, hb3⟩
        have d4 := (hb3.cell (World.block_lt_of_cell? _ _ c4)).trans c4
        have dg := (hb3.cell (p := ⟨aB, k, none⟩) hgl).trans HG.out
        have dgf := (hb3.frozen (p := ⟨aB, k, none⟩) hgl).trans HGf.out
        have HM3 := veil (HMeet.out w3 hb3)
        obtain ⟨q1, q2, q3, q4⟩ := HCell.out w3 hb3
        have HI3 := veil (HIs.out w3 hb3)
        have e1 := HM3.out.m1
        have e5 := HM3.out.fc
        clear hb3
        have HM4 := veil (HM3.out.keep ((Below.refl _ _).drew))
        have HI4 : Hid (TyIs S (w3.setCell ⟨aB, k, none⟩ (.bool true)).drew ty (.agg #[.int .i64 kd, .string fo, .string na, .slice p1 p2 p3])) := TyIs.keep (w := w3.setCell ⟨aB, k, none⟩ (.bool true)) (w' := (w3.setCell ⟨aB, k, none⟩ (.bool true)).drew) (S := S) (S' := S) ⟨fun _ _ => rfl, fun _ h => h⟩ HI3.out
        go_wp2_with fail
        go_region_with (go_at_call 223; refine (HOn.out _ _ HM4.out HI4.out).mono ?_; rintro e w4 ⟨rfl, hb4⟩)
        all_goals
          have HB4 := veil hb4
          clear hb4
          go_wp2_with fail
          go_ret2
          exact ⟨rfl, HB4.out⟩
    · rw [own_out ha] at HN
      have HR : Hid (findR m l u met o n = (noneS, 5)) := find_none ho ha
      clear hon hmW hlW hm hl hz henv hb hts hSW c4 c5 ha
      generalize findR m l u met o n = r at *
      go_enter Tryz.func290, Tryz.ntmps290
      go_wp2_with fail
      refine HN.out.mono ?_
      rintro e w3 ⟨rfl, hb3⟩
      have HB3 := veil (HB.out.trans (hb3.mono HB.out.size))
      clear hb3
      go_wp2_with fail
      go_ret2
      exact ⟨by rw [HR.out]; rfl, HB3.out⟩

theorem find_any (w0 : World) (S : Nat → Prop) (hS : ∀ b, S b → b < w0.heap.size) (m : Mo) (l : List Im) (u1 t1 f1 la : Option Addr) (u2 u3 t3 f2 f3 ln lc : Nat) (hm : MoIs S w0 m (.agg #[.slice u1 u2 u3, .slice t1 m.types.length t3, .slice f1 f2 f3])) (hl : SlAt S (ImAt S w0) 4 l (.slice la ln lc)) (hz : ∀ i ∈ l, fcSmall i.face) (hty : ∀ f ∈ m.types, tyFault f.is 1 = 0)
    (mB lB tB fB aB : Nat) : ∀ (u : Nat) (met : List Nat), unmet met m.types.length ≤ u → ∀ (o n : ByteArray) (W : World), SEnv w0 mB lB tB fB aB (.slice u1 u2 u3) (.slice t1 m.types.length t3) (.slice f1 f2 f3) (.slice la ln lc) m.types.length met W →
    Calls Tryz.prog 290 #[.string o, .string n, .pointer (some ⟨mB, 0, none⟩), .pointer (some ⟨lB, 0, none⟩), .pointer (some ⟨tB, 0, none⟩), .pointer (some ⟨fB, 0, none⟩)] W (Tells w0 (findR m l u met o n)) := by
  intro u
  induction u with
  | zero =>
    intro met hu o n W henv
    refine find_step w0 S hS m l u1 t1 f1 la u2 u3 t3 f2 f3 ln lc hm hl hz mB lB tB fB aB 0 met o n W henv (fun ha _ hc => ?_)
    rw [unmet_zero (by omega) _ ha] at hc
    cases hc
  | succ u ih =>
    intro met hu o n W henv
    refine find_step w0 S hS m l u1 t1 f1 la u2 u3 t3 f2 f3 ln lc hm hl hz mB lB tB fB aB (u + 1) met o n W henv (fun ha ho hc W' v hW' hv => ?_)
    rw [find_on ho ha hc]
    have hlt := unmet_lt hc ha
    exact solve_A w0 S hS (findR m l u (ownAt m n :: met)) (fun o n => findR_size hz u _ o n) (SEnv w0 mB lB tB fB aB (.slice u1 u2 u3) (.slice t1 m.types.length t3) (.slice f1 f2 f3) (.slice la ln lc) m.types.length (ownAt m n :: met)) (fun _ h => h.below) (fun _ _ h hb => h.keep hb) mB lB tB fB
      (fun o' n' W hW => ih (ownAt m n :: met) (by omega) o' n' W hW) 10 _ 1 v W' (hty _ (List.getElem_mem ha)) (by omega) hW' hv

end Go.Proofs.YtagbaimfigljiaaGreatDoor
namespace Go.Proofs.YtagbaimfigljiaaGreatDoor
open Go.RowKit
set_option maxRecDepth 100000

set_option maxHeartbeats 2000000 in
theorem solveList_B (w0 : World) (S : Nat → Prop) (hS : ∀ b, S b → b < w0.heap.size) (ρ : ByteArray → ByteArray → Sol) (hρ : ∀ o n, (ρ o n).1.size ≤ maxLen) (Env : World → Prop) (hE0 : ∀ W, Env W → Below w0.heap.size w0 W) (hEk : ∀ W W', Env W → Below W.heap.size W W' → Env W') (vB gB : Nat) (d : Nat) (HRec : Hid (∀ (t : Ty) (dd : Nat) (v : Value) (W : World), tyFault t dd = 0 → 11 ≤ dd + d → Env W → TyIs S W t v → Calls Tryz.prog 223 #[v, .func (.func 224) #[] #[.pointer (some ⟨vB, 0, none⟩), .pointer (some ⟨gB, 0, none⟩)]] W (Tells w0 (solveP ρ d t)))) (t : Ty) (dd : Nat) (o n : ByteArray) (v : Value) (W : World) (ht : tyFault t (dd + 1) = 0) (hd : 11 ≤ dd + 1 + d) (hW : Env W) (hv : TyIs S W (.mk 3 o n [t]) v) :
    Calls Tryz.prog 292 #[v, .func (.func 224) #[] #[.pointer (some ⟨vB, 0, none⟩), .pointer (some ⟨gB, 0, none⟩)]] W (Tells w0 (listR (solveP ρ d t))) := by
  obtain ⟨k, f, x, va, rfl, xs, e, _, _, hsl⟩ := hv
  injection e with e1 e2 e3 e4
  subst e1 e2 e3 e4
  obtain ⟨a, cap, rfl⟩ := hsl.is
  obtain ⟨_, b, off, rfl, hb, hat⟩ := hsl.at (k := 0) (by simp)
  simp only [List.getElem_cons_zero, Nat.zero_mul, Nat.add_zero] at hat
  obtain ⟨k1, f1, x1, va1, q0, q1, q2, q3, hcs1⟩ := tyAt_cells.1 hat
  obtain ⟨a1, m1, c1, rfl⟩ : ∃ a1 m1 c1, va1 = .slice a1 m1 c1 := by
    obtain ⟨_, _, _, _, hs⟩ := hcs1
    exact SlAt.slice hs
  have hSW : ∀ b, S b → b < W.heap.size := fun b hb => Nat.lt_of_lt_of_le (hS b hb) (hE0 W hW).size
  have hbW := hSW b hb
  obtain ⟨w2, rfl, p3, hbel⟩ : ∃ w2, w2 = W.alloc (.cells #[.int .i64 3, .string o, .string n, .slice (some ⟨b, off, none⟩) 1 cap] 84) ∧ w2.cell? ⟨W.heap.size, 3, none⟩ = some (.slice (some ⟨b, off, none⟩) 1 cap) ∧ Below W.heap.size W w2 :=
    ⟨_, rfl, by simp [go_sem], (Below.refl _ _).alloc (Nat.le_refl _) _⟩
  have d0 := (hbel.cell (p := ⟨b, off, none⟩) hbW).trans q0
  have d1 := (hbel.cell (p := ⟨b, off + 1, none⟩) hbW).trans q1
  have d2 := (hbel.cell (p := ⟨b, off + 2, none⟩) hbW).trans q2
  have d3 := (hbel.cell (p := ⟨b, off + 3, none⟩) hbW).trans q3
  have HR := veil (HRec.out t (dd + 1) (.agg #[.int .i64 k1, .string f1, .string x1, .slice a1 m1 c1]) _ ht hd (hEk _ _ hW hbel) ⟨_, _, _, _, rfl, hcs1.keep (Keeps.below hbel hSW)⟩)
  have HZ := veil (solveP_size hρ d t)
  have HL : Hid (listR (solveP ρ d t) = if (solveP ρ d t).2 = 0 then (if listErr (solveP ρ d t).1 = 0 then (wrapK (solveP ρ d t).1, 0) else (noneS, 5)) else (noneS, (solveP ρ d t).2)) := rfl
  clear hat hcs1 hsl hbel HRec hρ hW hSW q0 q1 q2 q3 ht hd
  generalize listR (solveP ρ d t) = r at *
  generalize solveP ρ d t = sp at *
  obtain ⟨ss, sc⟩ := sp
  obtain ⟨rs, rc⟩ := r
  simp only at HL HZ
  go_enter Tryz.func292, Tryz.ntmps292
  go_wp2_with fail
  refine HR.out.mono ?_
  rintro e w3 ⟨rfl, hb3⟩
  have HB3 := veil hb3
  clear hb3 HR d0 d1 d2 d3 p3
  by_cases hc : sc = 0
  · rw [if_pos hc] at HL
    subst hc
    by_cases hl : listErr ss = 0
    · rw [if_pos hl] at HL
      have HR1 : Hid (rs = wrapK ss) := (Prod.mk.inj HL.out).1
      have HR2 : Hid (rc = 0) := (Prod.mk.inj HL.out).2
      have HLo := veil (fun W => listOf_good hl W)
      clear hl HL
      go_wp2_with fail
      refine (HLo.out _).mono ?_
      rintro e w4 ⟨rfl, rfl⟩
      go_wp2_with fail
      go_ret2
      exact ⟨by rw [HR1.out, HR2.out]; rfl, HB3.out⟩
    · rw [if_neg hl] at HL
      have HR1 : Hid (rs = noneS) := (Prod.mk.inj HL.out).1
      have HR2 : Hid (rc = 5) := (Prod.mk.inj HL.out).2
      have HLo := veil (fun W => listOf_bad HZ.out hl W)
      have hl' : (listErr ss != 0) = true := by simpa using hl
      clear hl HL
      generalize listErr ss = le at *
      go_wp2_with fail
      refine (HLo.out _).mono ?_
      rintro e w4 ⟨rfl, rfl⟩
      go_wp2_with fail
      go_ret2
      exact ⟨by rw [HR1.out, HR2.out]; rfl, HB3.out⟩
  · rw [if_neg hc] at HL
    have HR1 : Hid (rs = noneS) := (Prod.mk.inj HL.out).1
    have HR2 : Hid (rc = sc) := (Prod.mk.inj HL.out).2
    have hc' : (sc != 0) = true := by simpa using hc
    clear hc HL
    go_wp2_with fail
    go_ret2
    exact ⟨by rw [HR1.out, HR2.out]; rfl, HB3.out⟩

set_option maxHeartbeats 2000000 in
theorem solve_B (w0 : World) (S : Nat → Prop) (hS : ∀ b, S b → b < w0.heap.size) (ρ : ByteArray → ByteArray → Sol) (hρ : ∀ o n, (ρ o n).1.size ≤ maxLen) (Env : World → Prop) (hE0 : ∀ W, Env W → Below w0.heap.size w0 W) (hEk : ∀ W W', Env W → Below W.heap.size W W' → Env W') (vB gB : Nat) (HF : ∀ o n W, Env W → Calls Tryz.prog 224 #[.string o, .string n, .pointer (some ⟨vB, 0, none⟩), .pointer (some ⟨gB, 0, none⟩)] W (Tells w0 (ρ o n))) : ∀ (d : Nat) (t : Ty) (dd : Nat) (v : Value) (W : World), tyFault t dd = 0 → 11 ≤ dd + d → Env W → TyIs S W t v → Calls Tryz.prog 223 #[v, .func (.func 224) #[] #[.pointer (some ⟨vB, 0, none⟩), .pointer (some ⟨gB, 0, none⟩)]] W (Tells w0 (solveP ρ d t)) := by
  intro d
  induction d with
  | zero =>
    intro t dd v W ht hd
    obtain ⟨k, o, n, xs⟩ := t
    have := (ty_parts ht).1
    omega
  | succ d ih =>
    intro t dd v W ht hd hW hv
    obtain ⟨k, o, n, xs⟩ := t
    obtain ⟨_, ⟨hk1, hk4⟩, h3, _⟩ := ty_parts ht
    have HRec : Hid (∀ (t : Ty) (dd : Nat) (v : Value) (W : World), tyFault t dd = 0 → 11 ≤ dd + d → Env W → TyIs S W t v → Calls Tryz.prog 223 #[v, .func (.func 224) #[] #[.pointer (some ⟨vB, 0, none⟩), .pointer (some ⟨gB, 0, none⟩)]] W (Tells w0 (solveP ρ d t))) := ih
    have HP : Hid (solveP ρ (d + 1) (.mk k o n xs) = if k = 1 then (intK, 0) else if k = 2 then (textK, 0) else if k = 3 then (match xs with
      | [] => (noneS, 5)
      | t :: _ => listR (solveP ρ d t)) else ρ o n) := rfl
    have hv0 := hv
    obtain ⟨k', f', x', va, rfl, xs', e, _, _, hsl⟩ := hv
    injection e with e1 e2 e3 e4
    subst e1 e2 e3 e4
    obtain ⟨a, m, cap, rfl⟩ := hsl.slice
    have hbel : Below W.heap.size W (W.alloc (.cells #[.int .i64 k, .string o, .string n, .slice a m cap] 84)) := (Below.refl _ _).alloc (Nat.le_refl _) _
    have HBel := veil hbel
    have hSW : ∀ b, S b → b < W.heap.size := fun b hb => Nat.lt_of_lt_of_le (hS b hb) (hE0 W hW).size
    have HEnd := veil ((hE0 W hW).trans (hbel.mono (hE0 W hW).size))
    have hk : k = 1 ∨ k = 2 ∨ k = 3 ∨ k = 4 := by omega
    rcases hk with rfl | rfl | rfl | rfl
    · have HR : Hid (solveP ρ (d + 1) (.mk 1 o n xs) = (intK, 0)) := HP.out
      clear HP HRec ih h3 hv0 hsl hW hSW hρ HF
      generalize solveP ρ (d + 1) (.mk 1 o n xs) = r at *
      go_enter Tryz.func223, Tryz.ntmps223
      go_wp2_with fail
      go_ret2
      exact ⟨by rw [HR.out]; rfl, HEnd.out⟩
    · have HR : Hid (solveP ρ (d + 1) (.mk 2 o n xs) = (textK, 0)) := HP.out
      clear HP HRec ih h3 hv0 hsl hW hSW hρ HF
      generalize solveP ρ (d + 1) (.mk 2 o n xs) = r at *
      go_enter Tryz.func223, Tryz.ntmps223
      go_wp2_with fail
      go_ret2
      exact ⟨by rw [HR.out]; rfl, HEnd.out⟩
    · obtain ⟨t, rfl, ht1⟩ := h3 rfl
      have HR : Hid (solveP ρ (d + 1) (.mk 3 o n [t]) = listR (solveP ρ d t)) := HP.out
      have HS := veil (solveList_B w0 S hS ρ hρ Env hE0 hEk vB gB d HRec t dd o n _ _ ht1 (by omega) (hEk _ _ hW hbel) (hv0.keep (Keeps.below hbel hSW)))
      clear HP HRec ih h3 hv0 hsl hW hSW hρ HF
      generalize solveP ρ (d + 1) (.mk 3 o n [t]) = r at *
      generalize listR (solveP ρ d t) = r' at *
      go_enter Tryz.func223, Tryz.ntmps223
      go_wp2_with fail
      refine HS.out.mono ?_
      rintro e w3 ⟨rfl, hb3⟩
      have HB3 := veil hb3
      clear hb3
      go_wp2_with fail
      go_ret2
      exact ⟨by rw [HR.out]; rfl, HB3.out⟩
    · have HR : Hid (solveP ρ (d + 1) (.mk 4 o n xs) = ρ o n) := HP.out
      have HS := veil (HF o n _ (hEk _ _ hW hbel))
      clear HP HRec ih h3 hv0 hsl hW hSW hρ HF
      generalize solveP ρ (d + 1) (.mk 4 o n xs) = r at *
      generalize ρ o n = r' at *
      go_enter Tryz.func223, Tryz.ntmps223
      go_wp2_with fail
      refine HS.out.mono ?_
      rintro e w3 ⟨rfl, hb3⟩
      have HB3 := veil hb3
      clear hb3
      go_wp2_with fail
      go_ret2
      exact ⟨by rw [HR.out]; rfl, HB3.out⟩


def topR (v : ByteArray) (ρ : ByteArray → ByteArray → Sol) (o n : ByteArray) : Sol := if (o.toList.isEmpty && sEq n v) = true then (starK, 0) else ρ o n

theorem solve1_any (w0 : World) (v o n : ByteArray) (vB gB mB lB tB fB : Nat) (r : Sol) (W : World) (hb : Below w0.heap.size w0 W) (hv : W.cell? ⟨vB, 0, none⟩ = some (.string v)) (hg : W.cell? ⟨gB, 0, none⟩ = some (fnd mB lB tB fB))
    (HF : Calls Tryz.prog 290 #[.string o, .string n, .pointer (some ⟨mB, 0, none⟩), .pointer (some ⟨lB, 0, none⟩), .pointer (some ⟨tB, 0, none⟩), .pointer (some ⟨fB, 0, none⟩)] W (Tells w0 r)) :
    Calls Tryz.prog 224 #[.string o, .string n, .pointer (some ⟨vB, 0, none⟩), .pointer (some ⟨gB, 0, none⟩)] W (Tells w0 (if (o.toList.isEmpty && sEq n v) = true then (starK, 0) else r)) := by
  have hg' : W.cell? ⟨gB, 0, none⟩ = some (.func (.func 290) #[] #[.pointer (some ⟨mB, 0, none⟩), .pointer (some ⟨lB, 0, none⟩), .pointer (some ⟨tB, 0, none⟩), .pointer (some ⟨fB, 0, none⟩)]) := hg
  have H := veil HF
  have HB := veil hb
  clear HF hb hg
  cases ho : o.toList.isEmpty with
  | false =>
    have HR : Hid ((if (false && sEq n v) = true then (starK, (0 : Int)) else r) = r) := if_neg (by simp)
    generalize (if (false && sEq n v) = true then (starK, (0 : Int)) else r) = r' at *
    go_enter Tryz.func224, Tryz.ntmps224
    go_wp2_with fail
    refine H.out.mono ?_
    rintro e w3 ⟨rfl, hb3⟩
    have HB3 := veil hb3
    clear hb3
    go_wp2_with fail
    go_ret2
    exact ⟨by rw [HR.out]; rfl, HB3.out⟩
  | true =>
    cases hs : (n.toList == v.toList) with
    | true =>
      have HR : Hid ((if (true && sEq n v) = true then (starK, (0 : Int)) else r) = (starK, 0)) := if_pos (by show (true && (n.toList == v.toList)) = true; rw [hs]; rfl)
      generalize (if (true && sEq n v) = true then (starK, (0 : Int)) else r) = r' at *
      go_enter Tryz.func224, Tryz.ntmps224
      go_wp2_with fail
      go_ret2
      exact ⟨by rw [HR.out]; rfl, HB.out⟩
    | false =>
      have HR : Hid ((if (true && sEq n v) = true then (starK, (0 : Int)) else r) = r) := if_neg (by show ¬ (true && (n.toList == v.toList)) = true; rw [hs]; simp)
      generalize (if (true && sEq n v) = true then (starK, (0 : Int)) else r) = r' at *
      go_enter Tryz.func224, Tryz.ntmps224
      go_wp2_with fail
      refine H.out.mono ?_
      rintro e w3 ⟨rfl, hb3⟩
      have HB3 := veil hb3
      clear hb3
      go_wp2_with fail
      go_ret2
      exact ⟨by rw [HR.out]; rfl, HB3.out⟩

end Go.Proofs.YtagbaimfigljiaaGreatDoor
namespace Go.Proofs.YtagbaimfigljiaaGreatDoor
open Go.RowKit
set_option maxRecDepth 100000

theorem bool_info : (Tryz.prog.info? 4).map (fun i => (i.zero, i.size, i.bytes)) = some (some (.bool false), 1, 1) := by kernel_rfl

theorem made_bools (n : Nat) (hb : n ≤ 281474976710656) :
    ∃ arr : Array Value, (∀ i, i < n → arr[i]? = some (.bool false)) ∧ ∀ w, (Instr.makeSlice 311 (.int .i64 (n : Int)) (.int .i64 (n : Int))).run Tryz.prog w = .ok (.slice (some ⟨w.heap.size, 0, none⟩) n n) (w.alloc (.cells arr 4)) := by
  obtain ⟨i, h1, h2, h3, h4⟩ := info_parts bool_info
  refine ⟨madeCells (Value.bool false).cells n, fun j hj => ?_, fun w => ?_⟩
  · simp [madeCells, Value.cells, hj]
    rw [Nat.mod_one]; rfl
  have hb' : (i.bytes : Int) * (n : Int) ≤ 281474976710656 := by
    rw [h4]
    omega
  have := run_make (P := Tryz.prog) w 311 4 i (.bool false) Tryz.underlying311 h1 h2 .i64 .i64 n n (by omega) (Int.le_refl _) hb' (by omega)
  rw [h3] at this
  simpa using this

set_option maxHeartbeats 2000000 in
theorem finder_any (m : Mo) (u1 t1 f1 la : Option Addr) (u2 u3 t3 f2 f3 ln lc : Nat) (w : World) (hn : m.types.length ≤ reachBytes) :
    Calls Tryz.prog 222 #[.agg #[.slice u1 u2 u3, .slice t1 m.types.length t3, .slice f1 f2 f3], .slice la ln lc] w fun e w' => ∃ mB lB tB fB aB, e = .returned (fnd mB lB tB fB) ∧ SEnv w mB lB tB fB aB (.slice u1 u2 u3) (.slice t1 m.types.length t3) (.slice f1 f2 f3) (.slice la ln lc) m.types.length [] w' := by
  have hr := reachBytes_lt
  obtain ⟨arr, harr, hmk⟩ := made_bools m.types.length (by omega)
  have HEnv : Hid (SEnv w w.heap.size (w.heap.size + 1) (w.heap.size + 1 + 1 + 1) (w.heap.size + 1 + 1 + 1 + 1) (w.heap.size + 1 + 1) (.slice u1 u2 u3) (.slice t1 m.types.length t3) (.slice f1 f2 f3) (.slice la ln lc) m.types.length []
      (((((w.alloc (.cells #[.slice u1 u2 u3, .slice t1 m.types.length t3, .slice f1 f2 f3] 44)).alloc (.cells #[.slice la ln lc] 26)).alloc (.cells arr 4)).alloc (.cells #[.slice (some ⟨w.heap.size + 1 + 1, 0, none⟩) m.types.length m.types.length] 311)).alloc (.cells #[fnd w.heap.size (w.heap.size + 1) (w.heap.size + 1 + 1 + 1) (w.heap.size + 1 + 1 + 1 + 1)] 264))) := by
    refine ⟨((((((Below.refl _ _).alloc (Nat.le_refl _) _).alloc (by simp) _).alloc (by simp; omega) _).alloc (by simp; omega) _).alloc (by simp; omega) _), by simp [go_sem], by simp [go_sem], by simp [go_sem], by simp [go_sem], by simp [go_sem], by simp [go_sem], fun i hi => ⟨?_, by simp [go_sem]⟩, by omega, by omega, by omega, by omega, by omega⟩
    have := harr i hi
    simp [go_sem, this]
  clear harr
  go_enter Tryz.func222, Tryz.ntmps222
  go_wp2_with fail
  go_ret
  exact ⟨_, _, _, _, _, rfl, HEnv.out⟩

end Go.Proofs.YtagbaimfigljiaaGreatDoor
namespace Go.Proofs.YtagbaimfigljiaaGreatDoor
open Go.RowKit
set_option maxRecDepth 100000

theorem unmet_nil : ∀ n, unmet [] n = n
  | 0 => rfl
  | n + 1 => by rw [unmet, unmet_nil n]; simp

set_option maxHeartbeats 2000000 in
theorem solveAll_any (S : Nat → Prop) (m : Mo) (l : List Im) (v : ByteArray) (t : Ty) (vm vl vt : Value) (w : World) (hS : ∀ b, S b → b < w.heap.size) (hm : MoIs S w m vm) (hl : SlAt S (ImAt S w) 4 l vl) (hz : ∀ i ∈ l, fcSmall i.face) (hty : ∀ f ∈ m.types, tyFault f.is 1 = 0) (ht : tyFault t 1 = 0) (hvt : TyIs S w t vt) (hn : m.types.length ≤ reachBytes) :
    Calls Tryz.prog 156 #[vm, vl, .string v, vt] w (Tells w (solveP (topR v (findR m l m.types.length [])) 10 t)) := by
  obtain ⟨vu, vty, vf, rfl, hu, hts, hf⟩ := id hm
  obtain ⟨u1, u2, u3, rfl⟩ := hu.slice
  obtain ⟨t1, t3, rfl⟩ := hts.is
  obtain ⟨f1, f2, f3, rfl⟩ := hf.slice
  obtain ⟨la, ln, lc, rfl⟩ := hl.slice
  obtain ⟨k, fo, na, va, rfl, hcs⟩ := id hvt
  obtain ⟨a, c, cap, rfl⟩ : ∃ a c cap, va = .slice a c cap := by
    obtain ⟨_, _, _, _, hs⟩ := hcs
    exact SlAt.slice hs
  obtain ⟨w2, hwe, hs2, p0, q0, q1, q2, q3, hbel⟩ : ∃ w2, ((w.alloc (.cells #[.slice u1 u2 u3, .slice t1 m.types.length t3, .slice f1 f2 f3] 44)).alloc (.cells #[.string v] 9)).alloc (.cells #[.int .i64 k, .string fo, .string na, .slice a c cap] 84) = w2 ∧ w2.heap.size = w.heap.size + 3 ∧
      w2.cell? ⟨w.heap.size + 1, 0, none⟩ = some (.string v) ∧ w2.cell? ⟨w.heap.size + 2, 0, none⟩ = some (.int .i64 k) ∧ w2.cell? ⟨w.heap.size + 2, 1, none⟩ = some (.string fo) ∧ w2.cell? ⟨w.heap.size + 2, 2, none⟩ = some (.string na) ∧ w2.cell? ⟨w.heap.size + 2, 3, none⟩ = some (.slice a c cap) ∧ Below w.heap.size w w2 :=
    ⟨_, rfl, by simp, by simp [go_sem], by simp [go_sem], by simp [go_sem], by simp [go_sem], by simp [go_sem], (((Below.refl _ _).alloc (Nat.le_refl _) _).alloc (by simp) _).alloc (by simp; omega) _⟩
  have hS2 : ∀ b, S b → b < w2.heap.size := fun b hb => Nat.lt_of_lt_of_le (hS b hb) hbel.size
  have hk2 := Keeps.below hbel hS
  have hm2 := hm.keep hk2
  have hl2 := imSl_keep hk2 hl
  have HAll : Hid (∀ (mB lB tB fB aB gB : Nat) (W : World), SEnv w2 mB lB tB fB aB (.slice u1 u2 u3) (.slice t1 m.types.length t3) (.slice f1 f2 f3) (.slice la ln lc) m.types.length [] W → W.cell? ⟨w.heap.size + 1, 0, none⟩ = some (.string v) → W.cell? ⟨gB, 0, none⟩ = some (fnd mB lB tB fB) → Calls Tryz.prog 223 #[.agg #[.int .i64 k, .string fo, .string na, .slice a c cap], .func (.func 224) #[] #[.pointer (some ⟨w.heap.size + 1, 0, none⟩), .pointer (some ⟨gB, 0, none⟩)]] W (Tells w2 (solveP (topR v (findR m l m.types.length [])) 10 t))) := fun mB lB tB fB aB gB W henv hv hg => by
    refine solve_B w2 S hS2 (topR v (findR m l m.types.length [])) (fun o n => ?_) (fun W => SEnv w2 mB lB tB fB aB (.slice u1 u2 u3) (.slice t1 m.types.length t3) (.slice f1 f2 f3) (.slice la ln lc) m.types.length [] W ∧ W.cell? ⟨w.heap.size + 1, 0, none⟩ = some (.string v) ∧ W.cell? ⟨gB, 0, none⟩ = some (fnd mB lB tB fB)) (fun _ h => h.1.below) (fun W W' h hb => ⟨h.1.keep hb, (hb.cell (World.block_lt_of_cell? _ _ h.2.1)).trans h.2.1, (hb.cell (World.block_lt_of_cell? _ _ h.2.2)).trans h.2.2⟩) (w.heap.size + 1) gB
      (fun o n W hW => solve1_any w2 v o n (w.heap.size + 1) gB mB lB tB fB _ W hW.1.below hW.2.1 hW.2.2 (find_any w2 S hS2 m l u1 t1 f1 la u2 u3 t3 f2 f3 ln lc hm2 hl2 hz hty mB lB tB fB aB m.types.length [] (by rw [unmet_nil]; exact Nat.le_refl _) o n W hW.1)) 10 t 1 _ W ht (by omega) ⟨henv, hv, hg⟩ (hvt.keep ⟨fun b hb => (henv.below.block b (hS2 b hb)).trans (hbel.block b (hS b hb)), fun _ h => h⟩)
    unfold topR
    split
    · show (1 : Nat) ≤ _
      unfold maxLen; omega
    · exact findR_size hz _ _ o n
  have HF := veil (finder_any m u1 t1 f1 la u2 u3 t3 f2 f3 ln lc w2 hn)
  have HWe := veil hwe
  have HBel := veil hbel
  clear hwe hbel hm hl hu hts hf hvt hcs hm2 hl2 hk2 hz hty ht hn hS2
  generalize solveP (topR v (findR m l m.types.length [])) 10 t = r at *
  go_enter Tryz.func156, Tryz.ntmps156
  go_wp2_with fail
  rw [HWe.out]
  refine HF.out.mono ?_
  rintro e w3 ⟨mB, lB, tB, fB, aB, rfl, henv⟩
  have hb3 := henv.below
  have hsz3 := hb3.size
  have hfn : fnd mB lB tB fB = .func (.func 290) #[] #[.pointer (some ⟨mB, 0, none⟩), .pointer (some ⟨lB, 0, none⟩), .pointer (some ⟨tB, 0, none⟩), .pointer (some ⟨fB, 0, none⟩)] := rfl
  have hb4 : Below w3.heap.size w3 (w3.alloc (.cells #[fnd mB lB tB fB] 264)) := (Below.refl _ _).alloc (Nat.le_refl _) _
  have hb5 := hb3.trans (hb4.mono hb3.size)
  have r0 := (hb5.cell (p := ⟨w.heap.size + 2, 0, none⟩) (by show w.heap.size + 2 < _; omega)).trans q0
  have r1 := (hb5.cell (p := ⟨w.heap.size + 2, 1, none⟩) (by show w.heap.size + 2 < _; omega)).trans q1
  have r2 := (hb5.cell (p := ⟨w.heap.size + 2, 2, none⟩) (by show w.heap.size + 2 < _; omega)).trans q2
  have r3 := (hb5.cell (p := ⟨w.heap.size + 2, 3, none⟩) (by show w.heap.size + 2 < _; omega)).trans q3
  have HC := veil (HAll.out mB lB tB fB aB w3.heap.size _ (henv.keep hb4) ((hb5.cell (p := ⟨w.heap.size + 1, 0, none⟩) (by show w.heap.size + 1 < _; omega)).trans p0) (by simp [go_sem]))
  clear henv hb3 hb4 hb5 q0 q1 q2 q3 p0 HAll HF
  rw [hfn] at HC r0 r1 r2 r3 ⊢
  clear hfn
  go_wp2_with fail
  refine HC.out.mono ?_
  rintro e w6 ⟨rfl, hb6⟩
  have HB6 := veil (HBel.out.trans (hb6.mono HBel.out.size))
  clear hb6
  go_wp2_with fail
  go_ret2
  exact ⟨rfl, HB6.out⟩

end Go.Proofs.YtagbaimfigljiaaGreatDoor
namespace Go.Proofs.YtagbaimfigljiaaGreatDoor
open Go.RowKit
set_option maxRecDepth 100000

end Go.Proofs.YtagbaimfigljiaaGreatDoor
namespace Go.Proofs.YtagbaimfigljiaaGreatDoor
open Go.RowKit
set_option maxRecDepth 100000

theorem solveP_same {ρ ρ' : ByteArray → ByteArray → Sol} (h : ∀ o n, identOk n = true → ρ o n = ρ' o n) : ∀ (d : Nat) (t : Ty) (dd : Nat), tyFault t dd = 0 → solveP ρ d t = solveP ρ' d t
  | 0, _, _, _ => rfl
  | d + 1, .mk k o n xs, dd, ht => by
    obtain ⟨_, ⟨hk1, hk4⟩, h3, h4⟩ := ty_parts ht
    unfold solveP
    by_cases e1 : k = 1
    · rw [if_pos e1, if_pos e1]
    · rw [if_neg e1, if_neg e1]
      by_cases e2 : k = 2
      · rw [if_pos e2, if_pos e2]
      · rw [if_neg e2, if_neg e2]
        by_cases e3 : k = 3
        · rw [if_pos e3, if_pos e3]
          obtain ⟨t, rfl, ht1⟩ := h3 e3
          show listR _ = listR _
          rw [solveP_same h d t (dd + 1) ht1]
        · rw [if_neg e3, if_neg e3]
          exact h o n (h4 (by omega))

theorem refR_plain {m : Mo} {l : List Im} {u : Nat} {v : ByteArray} {under : List ByteArray} {o n : ByteArray} (h : (!v.toList.isEmpty && sEq n v) = false) : refR m l u v under o n = refR m l u noneS under o n := by
  have h0 : ¬ (!noneS.toList.isEmpty && sEq n noneS) = true := by simp [noneS]
  cases u with
  | zero =>
    unfold refR
    rw [if_neg (c := (!v.toList.isEmpty && sEq n v) = true) (by rw [h]; simp), if_neg h0]
  | succ u =>
    unfold refR
    rw [if_neg (c := (!v.toList.isEmpty && sEq n v) = true) (by rw [h]; simp), if_neg h0]

theorem refR_star {m : Mo} {l : List Im} {u : Nat} {v : ByteArray} {under : List ByteArray} {o n : ByteArray} (ho : o.toList.isEmpty = true) (h : (!v.toList.isEmpty && sEq n v) = true) : refR m l u v under o n = (starK, 0) := by
  cases u with
  | zero => unfold refR; rw [if_pos ho, if_pos h]
  | succ u => unfold refR; rw [if_pos ho, if_pos h]

theorem refR_imp {m : Mo} {l : List Im} {u : Nat} {v : ByteArray} {under : List ByteArray} {o n : ByteArray} (ho : o.toList.isEmpty = false) : refR m l u v under o n = impR m.uses l o n := by
  cases u <;> (unfold refR; rw [if_neg (by rw [ho]; simp)])

theorem ident_ne {n v : ByteArray} (h : identOk n = true) (hs : sEq n v = true) : v.toList.isEmpty = false := by
  rw [← sEq_eq hs, Lib.toList_data]
  have := ident_size h
  cases hn : n.data.toList with
  | nil =>
    have : n.size = 0 := by
      show n.data.size = 0
      rw [← Array.length_toList, hn]; rfl
    omega
  | cons _ _ => rfl

theorem top_ref {m : Mo} {l : List Im} {u : Nat} {v : ByteArray} {o n : ByteArray} (hn : identOk n = true) : topR v (findR m l u []) o n = refR m l u v [] o n := by
  unfold topR
  cases ho : o.toList.isEmpty with
  | false =>
    rw [if_neg (by simp), find_imp ho, refR_imp ho]
  | true =>
    cases hs : sEq n v with
    | true =>
      rw [if_pos (by rfl), refR_star ho (by rw [ident_ne hn hs, hs]; rfl)]
    | false =>
      rw [if_neg (by simp), refR_plain (by rw [hs]; simp), find_ref m l u [] [] (Meets.start m)]

/-- what alias.Solve tells is what the reference tells. -/
theorem solve_same {m : Mo} {l : List Im} {u : Nat} {v : ByteArray} {t : Ty} (ht : tyFault t 1 = 0) : solveP (topR v (findR m l u [])) 10 t = solveP (refR m l u v []) 10 t :=
  solveP_same (fun _ _ hn => top_ref hn) 10 t 1 ht

end Go.Proofs.YtagbaimfigljiaaGreatDoor
namespace Go.Proofs.YtagbaimfigljiaaGreatDoor
open Go.RowKit
set_option maxRecDepth 100000

/-- within k lists. -/
def listN : Nat → Sol → Sol
  | 0, r => r
  | k + 1, r => listR (listN k r)

theorem listR_bad {r : Sol} (h : r.2 ≠ 0) : listR r = (noneS, r.2) := if_neg h
theorem listN_round : ∀ k, listN k (noneS, 2) = (noneS, 2)
  | 0 => rfl
  | k + 1 => by rw [listN, listN_round k]; exact listR_bad (by decide)

/-- a type has one name at most. -/
theorem solveP_leaf : ∀ (d : Nat) (t : Ty), (∃ r, ∀ ρ, solveP ρ d t = r) ∨ ∃ k o n, ∀ ρ, solveP ρ d t = listN k (ρ o n)
  | 0, _ => Or.inl ⟨_, fun _ => rfl⟩
  | d + 1, .mk k o n xs => by
    by_cases h1 : k = 1
    · exact Or.inl ⟨_, fun _ => by unfold solveP; rw [if_pos h1]⟩
    by_cases h2 : k = 2
    · exact Or.inl ⟨_, fun _ => by unfold solveP; rw [if_neg h1, if_pos h2]⟩
    by_cases h3 : k = 3
    · cases xs with
      | nil => exact Or.inl ⟨_, fun _ => by unfold solveP; rw [if_neg h1, if_neg h2, if_pos h3]⟩
      | cons t r =>
        have e : ∀ ρ, solveP ρ (d + 1) (.mk k o n (t :: r)) = listR (solveP ρ d t) := fun ρ => by
          conv => lhs; unfold solveP
          rw [if_neg h1, if_neg h2, if_pos h3]
        rcases solveP_leaf d t with ⟨q, h⟩ | ⟨j, o', n', h⟩
        · exact Or.inl ⟨listR q, fun ρ => by rw [e, h]⟩
        · exact Or.inr ⟨j + 1, o', n', fun ρ => by rw [e, h]; rfl⟩
    · exact Or.inr ⟨0, o, n, fun _ => by unfold solveP; rw [if_neg h1, if_neg h2, if_neg h3]; rfl⟩

theorem plain_none {n : ByteArray} : ¬ (!noneS.toList.isEmpty && sEq n noneS) = true := by simp [noneS]
theorem refR_none {m : Mo} {l : List Im} {u : Nat} {under : List ByteArray} {o n : ByteArray} (ho : o.toList.isEmpty = true) (ha : ¬ ownAt m n < m.types.length) : refR m l u noneS under o n = (noneS, 5) := by
  cases u with
  | zero => unfold refR; rw [if_pos ho, if_neg plain_none, if_neg ha]
  | succ u => unfold refR; rw [if_pos ho, if_neg plain_none, List.getElem?_eq_none (by omega)]
theorem refR_round {m : Mo} {l : List Im} {u : Nat} {under : List ByteArray} {o n : ByteArray} (ho : o.toList.isEmpty = true) (ha : ownAt m n < m.types.length) (hh : hasS under n = true) : refR m l u noneS under o n = (noneS, 2) := by
  cases u with
  | zero => unfold refR; rw [if_pos ho, if_neg plain_none, if_pos ha]
  | succ u => unfold refR; rw [if_pos ho, if_neg plain_none, List.getElem?_eq_getElem ha]; simp only; rw [if_pos hh]
theorem refR_on {m : Mo} {l : List Im} {u : Nat} {under : List ByteArray} {o n : ByteArray} (ho : o.toList.isEmpty = true) (ha : ownAt m n < m.types.length) (hh : hasS under n = false) : refR m l (u + 1) noneS under o n = solveP (refR m l u noneS (under ++ [n])) 10 m.types[ownAt m n].is := by
  conv => lhs; unfold refR
  rw [if_pos ho, if_neg plain_none, List.getElem?_eq_getElem ha]; simp only; rw [if_neg (by rw [hh]; simp)]

theorem unmet_congr {met met' : List Nat} (h : ∀ i, met.contains i = met'.contains i) : ∀ n, unmet met n = unmet met' n
  | 0 => rfl
  | n + 1 => by unfold unmet; rw [unmet_congr h n, h n]

theorem hasS_snoc {U : List ByteArray} {a n : ByteArray} (h : hasS U n = true) : hasS (U ++ [a]) n = true := hasS_mem.2 (List.mem_append_left _ (hasS_mem.1 h))
theorem hasS_last (U : List ByteArray) (a : ByteArray) : hasS (U ++ [a]) a = true := hasS_mem.2 (by simp)

theorem swap_contains (a b : Nat) (met : List Nat) (i : Nat) : (a :: b :: met).contains i = (b :: a :: met).contains i := by
  simp only [List.contains_cons]
  cases (i == a) <;> cases (i == b) <;> rfl

/-- who comes back to a goes round once more. -/
theorem ref_more {m : Mo} {l : List Im} {a n1 o1 : ByteArray} {j : Nat} (ha : ownAt m a < m.types.length) (ho1 : o1.toList.isEmpty = true) (h1 : ownAt m n1 < m.types.length)
    (ht : ∀ ρ, solveP ρ 10 m.types[ownAt m a].is = listN j (ρ o1 n1)) :
    ∀ (u' u : Nat) (U W : List ByteArray) (met : List Nat), Meets m U met → Meets m W (ownAt m a :: met) → met.contains (ownAt m a) = false → hasS U n1 = true → unmet met m.types.length ≤ u → unmet (ownAt m a :: met) m.types.length ≤ u' →
      ∀ o n, refR m l u noneS U o n = refR m l u' noneS W o n := by
  intro u'
  induction u' with
  | zero =>
    intro u U W met hU hW hc hn hu hu' o n
    cases ho : o.toList.isEmpty with
    | false => rw [refR_imp ho, refR_imp ho]
    | true =>
      by_cases hn' : ownAt m n < m.types.length
      · have hm := unmet_zero (met := ownAt m a :: met) (n := m.types.length) (by omega) _ hn'
        rw [refR_round (u := 0) (under := W) ho hn' (by rw [← hW n hn']; exact hm)]
        by_cases hu2 : hasS U n = true
        · exact refR_round ho hn' hu2
        · have hu3 : hasS U n = false := by simpa using hu2
          have he : ownAt m n = ownAt m a := by
            rw [← hU n hn'] at hu3
            rw [List.contains_cons, hu3] at hm
            simpa using hm
          have hna : n = a := own_inj hn' he
          subst hna
          have := unmet_lt hc ha
          obtain ⟨v, rfl⟩ : ∃ v, u = v + 1 := ⟨u - 1, by omega⟩
          rw [refR_on ho hn' hu3, ht, refR_round ho1 h1 (hasS_snoc hn), listN_round]
      · rw [refR_none ho hn', refR_none ho hn']
  | succ u' ih =>
    intro u U W met hU hW hc hn hu hu' o n
    cases ho : o.toList.isEmpty with
    | false => rw [refR_imp ho, refR_imp ho]
    | true =>
      by_cases hn' : ownAt m n < m.types.length
      · have hlt := unmet_lt hc ha
        obtain ⟨v, rfl⟩ : ∃ v, u = v + 1 := ⟨u - 1, by omega⟩
        by_cases hu2 : hasS U n = true
        · have hm : (ownAt m a :: met).contains (ownAt m n) = true := by rw [List.contains_cons, hU n hn', hu2]; simp
          rw [refR_round ho hn' hu2, refR_round ho hn' (by rw [← hW n hn']; exact hm)]
        · have hu3 : hasS U n = false := by simpa using hu2
          by_cases he : ownAt m n = ownAt m a
          · have hna : n = a := own_inj hn' he
            subst hna
            rw [refR_round (u := u' + 1) ho hn' (by rw [← hW n hn']; simp), refR_on ho hn' hu3, ht, refR_round ho1 h1 (hasS_snoc hn), listN_round]
          · have hmn : met.contains (ownAt m n) = false := by rw [hU n hn']; exact hu3
            have hW3 : (ownAt m a :: met).contains (ownAt m n) = false := by rw [List.contains_cons, hmn]; simpa using he
            rw [refR_on ho hn' hu3, refR_on ho hn' (by rw [← hW n hn']; exact hW3)]
            have hl2 := unmet_lt hmn hn'
            have hl3 := unmet_lt hW3 hn'
            have hsw := unmet_congr (swap_contains (ownAt m n) (ownAt m a) met) m.types.length
            have hc2 : (ownAt m n :: met).contains (ownAt m a) = false := by rw [List.contains_cons, hc]; simpa using fun e => he e.symm
            refine solveP_congr (ih v (U ++ [n]) (W ++ [n]) (ownAt m n :: met) (hU.next hn') (fun x hx => ?_) hc2 (hasS_snoc hn) (by omega) (by omega)) 10 _
            rw [← (hW.next hn') x hx]
            exact swap_contains _ _ _ _
      · rw [refR_none ho hn', refR_none ho hn']

/-- solving what a name is, or the name. -/
theorem solve_name {m : Mo} {l : List Im} {a : ByteArray} (ha : ownAt m a < m.types.length) : solveP (refR m l m.types.length noneS []) 10 m.types[ownAt m a].is = refR m l m.types.length noneS [] noneS a := by
  obtain ⟨v, hv⟩ : ∃ v, m.types.length = v + 1 := ⟨m.types.length - 1, by omega⟩
  have h0 : hasS [] a = false := by simp [hasS, findAt]
  have hn0 : ∀ n, hasS [] n = false := fun n => by simp [hasS, findAt]
  have hR : refR m l m.types.length noneS [] noneS a = solveP (refR m l v noneS [a]) 10 m.types[ownAt m a].is := by
    rw [hv]; exact refR_on (by simp [noneS]) ha h0
  rw [hR]
  rcases solveP_leaf 10 m.types[ownAt m a].is with ⟨q, h⟩ | ⟨j, o1, n1, h⟩
  · rw [h, h]
  · rw [h, h]
    congr 1
    cases ho : o1.toList.isEmpty with
    | false => rw [refR_imp ho, refR_imp ho]
    | true =>
      by_cases hn : ownAt m n1 < m.types.length
      · rw [show refR m l m.types.length noneS [] o1 n1 = refR m l (v + 1) noneS [] o1 n1 by rw [hv], refR_on ho hn (hn0 n1)]
        by_cases he : ownAt m n1 = ownAt m a
        · have hna : n1 = a := own_inj hn he
          subst hna
          have hl : hasS [n1] n1 = true := hasS_last [] n1
          rw [List.nil_append, h, refR_round ho hn hl, listN_round]
        · have hM := Meets.start m
          have c1 : ([] : List Nat).contains (ownAt m n1) = false := rfl
          have c2 : [ownAt m n1].contains (ownAt m a) = false := by simpa using fun e => he e.symm
          have l1 := unmet_lt c1 hn
          have l2 := unmet_lt c2 ha
          rw [unmet_nil] at l1
          obtain ⟨v2, rfl⟩ : ∃ v2, v = v2 + 1 := ⟨v - 1, by omega⟩
          have hh : hasS [a] n1 = false := by
            rw [Bool.eq_false_iff, ne_eq, hasS_mem]
            simp
            rintro rfl; exact he rfl
          rw [refR_on ho hn hh]
          refine solveP_congr (ref_more ha ho hn h v2 (v2 + 1) [n1] ([a] ++ [n1]) [ownAt m n1] (hM.next hn) (fun x hx => ?_) c2 (hasS_last [] n1) (by omega) (by omega)) 10 _
          have := ((hM.next ha).next hn) x hx
          rw [List.nil_append] at this
          rw [← this]
          exact swap_contains _ _ _ _
      · rw [refR_none ho hn, refR_none ho hn]

end Go.Proofs.YtagbaimfigljiaaGreatDoor
