import Derived.Test.YtagbaimfigljiaaGreatDoorJCk1
namespace Go.Proofs.YtagbaimfigljiaaGreatDoor
open Go.RowKit
set_option maxRecDepth 100000

def StrIs (s : ByteArray) (v : Value) : Prop := v = .string s ∧ s.size ≤ maxLen

set_option maxHeartbeats 2000000 in
theorem first_ty (g : Nat) (lb : Array Value) (eg : ∀ args w, (callFunc g args).run Tryz.prog w = .ok (.enter g args) w) (f : Ty → Int) (S : Nat → Prop) (l : List Ty) (v : Value) (w : World) (hS : ∀ b, S b → b < w.heap.size) (hl : SlAt S (TyAt S w) 4 l v)
    (hg : ∀ t ∈ l, ∀ (W : World) (u : Value), Below w.heap.size w W → TyIs S W t u → Calls Tryz.prog g (#[u] ++ lb) W fun e w' => e = .returned (.int .i64 (f t)) ∧ Below W.heap.size W w') :
    Calls Tryz.prog 243 #[v, .func (.func g) #[] lb] w fun e w' => e = .returned (.int .i64 (firstBad f l)) ∧ Below w.heap.size w w' := by
  obtain ⟨a, cap, rfl, ⟨hlen, hlenC⟩, hrow⟩ := hl
  unfold maxLen at hlen
  have HG := veil hg
  clear hg
  rcases hrow with h0 | ⟨b, off, rfl, hb, hrow⟩
  · have hnil : l = [] := List.eq_nil_of_length_eq_zero h0
    subst hnil
    clear HG eg
    go_enter Tryz.func243, Tryz.ntmps243
    go_wp2
    refine wp_loop_rounds 1 ?_
    rw [rounds_succ]
    go_wp2
    go_ret
    exact ⟨rfl, Below.refl _ _⟩
  have hbw := hS b hb
  have HR := veil hrow
  clear hrow
  go_enter Tryz.func243, Tryz.ntmps243
  go_wp2
  go_loopw [10] (fun i wr => ∃ k : Nat, k ≤ l.length ∧ i = .int .i64 k ∧ (∀ j (hj : j < l.length), j < k → f l[j] = 0) ∧ Below w.heap.size w wr) (fun i _ => l.length - (intOf i).toNat)
  case atStart => exact ⟨0, Nat.zero_le _, rfl, fun j _ h => absurd h (by omega), Below.refl _ _⟩
  case round =>
    obtain ⟨k, hk, rfl, hall, hbl⟩ := hrel
    have HA := veil hall
    clear hall
    have hbs := hbl.size
    by_cases hlt : k < l.length
    · have hkeep : Keeps S S w wr := Keeps.below hbl hS
      obtain ⟨kd, fo, na, va, c0, c1, c2, c3, hcs⟩ := tyAt_cells.1 (HR.out.get k hlt)
      obtain ⟨va1, va2, va3, rfl⟩ := hcs.slice
      have d0 := (hbl.cell (p := ⟨b, off + k * 4, none⟩) hbw).trans c0
      have d1 := (hbl.cell (p := ⟨b, off + k * 4 + 1, none⟩) hbw).trans c1
      have d2 := (hbl.cell (p := ⟨b, off + k * 4 + 2, none⟩) hbw).trans c2
      have d3 := (hbl.cell (p := ⟨b, off + k * 4 + 3, none⟩) hbw).trans c3
      have HC := veil ((hcs.keep hkeep).keep (Keeps.below ((Below.refl wr.heap.size wr).alloc (Nat.le_refl _) (.cells #[.int .i64 kd, .string fo, .string na, .slice va1 va2 va3] 84)) fun b h => Nat.lt_of_lt_of_le (hS b h) hbs))
      clear c0 c1 c2 c3 hcs
      have HL := veil (hbl.alloc hbs (.cells #[.int .i64 kd, .string fo, .string na, .slice va1 va2 va3] 84))
      have cG := HG.out l[k] (List.getElem_mem hlt) _ (.agg #[.int .i64 kd, .string fo, .string na, .slice va1 va2 va3]) HL.out ⟨_, _, _, _, rfl, HC.out⟩
      clear HG HR
      by_cases hz : f l[k] = 0
      · have hz' : (f l[k] != 0) = false := by simp [hz]
        have HN : Hid (∀ j (hj : j < l.length), j < k + 1 → f l[j] = 0) := fun j hj hjk => by
          by_cases e : j = k
          · subst e; exact hz
          · exact HA.out j hj (by omega)
        clear hz
        generalize f l[k] = fk at *
        go_wp2_with (go_at_fn g; refine cG.mono ?_; rintro e w' ⟨rfl, hb'⟩)
        exact ⟨⟨k + 1, by omega, by go_num, HN.out, HL.out.trans (hb'.mono (by simp; omega))⟩, by simp [intOf]; omega⟩
      · have hz' : (f l[k] != 0) = true := by simp [hz]
        have HF := veil (firstBad_at f l k hlt (fun j hj => HA.out j (by omega) hj) hz)
        clear hz
        generalize f l[k] = fk at *
        go_wp2_with (go_at_fn g; refine cG.mono ?_; rintro e w' ⟨rfl, hb'⟩)
        go_ret
        exact ⟨by rw [HF.out]; rfl, HL.out.trans (hb'.mono (by simp; omega))⟩
    · have HF := veil (firstBad_none f l fun j hj => HA.out j hj (by omega))
      clear HG HR eg
      go_wp2
      go_ret
      exact ⟨by rw [HF.out]; rfl, hbl⟩

set_option maxHeartbeats 2000000 in
theorem first_ex (g : Nat) (lb : Array Value) (eg : ∀ args w, (callFunc g args).run Tryz.prog w = .ok (.enter g args) w) (f : Ex → Int) (S : Nat → Prop) (l : List Ex) (v : Value) (w : World) (hS : ∀ b, S b → b < w.heap.size) (hl : SlAt S (ExAt S w) 5 l v)
    (hg : ∀ t ∈ l, ∀ (W : World) (u : Value), Below w.heap.size w W → ExIs S W t u → Calls Tryz.prog g (#[u] ++ lb) W fun e w' => e = .returned (.int .i64 (f t)) ∧ Below W.heap.size W w') :
    Calls Tryz.prog 247 #[v, .func (.func g) #[] lb] w fun e w' => e = .returned (.int .i64 (firstBad f l)) ∧ Below w.heap.size w w' := by
  obtain ⟨a, cap, rfl, ⟨hlen, hlenC⟩, hrow⟩ := hl
  unfold maxLen at hlen
  have HG := veil hg
  clear hg
  rcases hrow with h0 | ⟨b, off, rfl, hb, hrow⟩
  · have hnil : l = [] := List.eq_nil_of_length_eq_zero h0
    subst hnil
    clear HG eg
    go_enter Tryz.func247, Tryz.ntmps247
    go_wp2
    refine wp_loop_rounds 1 ?_
    rw [rounds_succ]
    go_wp2
    go_ret
    exact ⟨rfl, Below.refl _ _⟩
  have hbw := hS b hb
  have HR := veil hrow
  clear hrow
  go_enter Tryz.func247, Tryz.ntmps247
  go_wp2
  go_loopw [10] (fun i wr => ∃ k : Nat, k ≤ l.length ∧ i = .int .i64 k ∧ (∀ j (hj : j < l.length), j < k → f l[j] = 0) ∧ Below w.heap.size w wr) (fun i _ => l.length - (intOf i).toNat)
  case atStart => exact ⟨0, Nat.zero_le _, rfl, fun j _ h => absurd h (by omega), Below.refl _ _⟩
  case round =>
    obtain ⟨k, hk, rfl, hall, hbl⟩ := hrel
    have HA := veil hall
    clear hall
    have hbs := hbl.size
    by_cases hlt : k < l.length
    · have hkeep : Keeps S S w wr := Keeps.below hbl hS
      obtain ⟨kd, nu, fo, na, va, c0, c1, c2, c3, c4, hcs⟩ := exAt_cells.1 (HR.out.get k hlt)
      obtain ⟨va1, va2, va3, rfl⟩ := hcs.slice
      have d0 := (hbl.cell (p := ⟨b, off + k * 5, none⟩) hbw).trans c0
      have d1 := (hbl.cell (p := ⟨b, off + k * 5 + 1, none⟩) hbw).trans c1
      have d2 := (hbl.cell (p := ⟨b, off + k * 5 + 2, none⟩) hbw).trans c2
      have d3 := (hbl.cell (p := ⟨b, off + k * 5 + 3, none⟩) hbw).trans c3
      have d4 := (hbl.cell (p := ⟨b, off + k * 5 + 4, none⟩) hbw).trans c4
      have HC := veil ((hcs.keep hkeep).keep (Keeps.below ((Below.refl wr.heap.size wr).alloc (Nat.le_refl _) (.cells #[.int .i64 kd, .int .i64 nu, .string fo, .string na, .slice va1 va2 va3] 87)) fun b h => Nat.lt_of_lt_of_le (hS b h) hbs))
      clear c0 c1 c2 c3 c4 hcs
      have HL := veil (hbl.alloc hbs (.cells #[.int .i64 kd, .int .i64 nu, .string fo, .string na, .slice va1 va2 va3] 87))
      have cG := HG.out l[k] (List.getElem_mem hlt) _ (.agg #[.int .i64 kd, .int .i64 nu, .string fo, .string na, .slice va1 va2 va3]) HL.out ⟨_, _, _, _, _, rfl, HC.out⟩
      clear HG HR
      by_cases hz : f l[k] = 0
      · have hz' : (f l[k] != 0) = false := by simp [hz]
        have HN : Hid (∀ j (hj : j < l.length), j < k + 1 → f l[j] = 0) := fun j hj hjk => by
          by_cases e : j = k
          · subst e; exact hz
          · exact HA.out j hj (by omega)
        clear hz
        generalize f l[k] = fk at *
        go_wp2_with (go_at_fn g; refine cG.mono ?_; rintro e w' ⟨rfl, hb'⟩)
        exact ⟨⟨k + 1, by omega, by go_num, HN.out, HL.out.trans (hb'.mono (by simp; omega))⟩, by simp [intOf]; omega⟩
      · have hz' : (f l[k] != 0) = true := by simp [hz]
        have HF := veil (firstBad_at f l k hlt (fun j hj => HA.out j (by omega) hj) hz)
        clear hz
        generalize f l[k] = fk at *
        go_wp2_with (go_at_fn g; refine cG.mono ?_; rintro e w' ⟨rfl, hb'⟩)
        go_ret
        exact ⟨by rw [HF.out]; rfl, HL.out.trans (hb'.mono (by simp; omega))⟩
    · have HF := veil (firstBad_none f l fun j hj => HA.out j hj (by omega))
      clear HG HR eg
      go_wp2
      go_ret
      exact ⟨by rw [HF.out]; rfl, hbl⟩

set_option maxHeartbeats 2000000 in
theorem first_fd (g : Nat) (lb : Array Value) (eg : ∀ args w, (callFunc g args).run Tryz.prog w = .ok (.enter g args) w) (f : Fd → Int) (S : Nat → Prop) (l : List Fd) (v : Value) (w : World) (hS : ∀ b, S b → b < w.heap.size) (hl : SlAt S (FdAt S w) 5 l v)
    (hg : ∀ t ∈ l, ∀ (W : World) (u : Value), Below w.heap.size w W → FdIs S W t u → Calls Tryz.prog g (#[u] ++ lb) W fun e w' => e = .returned (.int .i64 (f t)) ∧ Below W.heap.size W w') :
    Calls Tryz.prog 97 #[v, .func (.func g) #[] lb] w fun e w' => e = .returned (.int .i64 (firstBad f l)) ∧ Below w.heap.size w w' := by
  obtain ⟨a, cap, rfl, ⟨hlen, hlenC⟩, hrow⟩ := hl
  unfold maxLen at hlen
  have HG := veil hg
  clear hg
  rcases hrow with h0 | ⟨b, off, rfl, hb, hrow⟩
  · have hnil : l = [] := List.eq_nil_of_length_eq_zero h0
    subst hnil
    clear HG eg
    go_enter Tryz.func97, Tryz.ntmps97
    go_wp2
    refine wp_loop_rounds 1 ?_
    rw [rounds_succ]
    go_wp2
    go_ret
    exact ⟨rfl, Below.refl _ _⟩
  have hbw := hS b hb
  have HR := veil hrow
  clear hrow
  go_enter Tryz.func97, Tryz.ntmps97
  go_wp2
  go_loopw [10] (fun i wr => ∃ k : Nat, k ≤ l.length ∧ i = .int .i64 k ∧ (∀ j (hj : j < l.length), j < k → f l[j] = 0) ∧ Below w.heap.size w wr) (fun i _ => l.length - (intOf i).toNat)
  case atStart => exact ⟨0, Nat.zero_le _, rfl, fun j _ h => absurd h (by omega), Below.refl _ _⟩
  case round =>
    obtain ⟨k, hk, rfl, hall, hbl⟩ := hrel
    have HA := veil hall
    clear hall
    have hbs := hbl.size
    by_cases hlt : k < l.length
    · have hkeep : Keeps S S w wr := Keeps.below hbl hS
      obtain ⟨⟨c0, hsz⟩, hty⟩ := HR.out.get k hlt
      obtain ⟨kd, fo, na, va, c1, c2, c3, c4, hcs⟩ := tyAt_cells.1 hty
      obtain ⟨va1, va2, va3, rfl⟩ := hcs.slice
      rw [Nat.add_assoc] at c2 c3 c4
      have d0 := (hbl.cell (p := ⟨b, off + k * 5, none⟩) hbw).trans c0
      have d1 := (hbl.cell (p := ⟨b, off + k * 5 + 1, none⟩) hbw).trans c1
      have d2 := (hbl.cell (p := ⟨b, off + k * 5 + 2, none⟩) hbw).trans c2
      have d3 := (hbl.cell (p := ⟨b, off + k * 5 + 3, none⟩) hbw).trans c3
      have d4 := (hbl.cell (p := ⟨b, off + k * 5 + 4, none⟩) hbw).trans c4
      have HC := veil ((hcs.keep hkeep).keep (Keeps.below ((Below.refl wr.heap.size wr).alloc (Nat.le_refl _) (.cells #[.string l[k].name, .int .i64 kd, .string fo, .string na, .slice va1 va2 va3] 101)) fun b h => Nat.lt_of_lt_of_le (hS b h) hbs))
      clear c0 c1 c2 c3 c4 hcs hty
      have HL := veil (hbl.alloc hbs (.cells #[.string l[k].name, .int .i64 kd, .string fo, .string na, .slice va1 va2 va3] 101))
      have cG := HG.out l[k] (List.getElem_mem hlt) _ (.agg #[.string l[k].name, .int .i64 kd, .string fo, .string na, .slice va1 va2 va3]) HL.out ⟨_, _, _, _, rfl, hsz, HC.out⟩
      clear HG HR
      by_cases hz : f l[k] = 0
      · have hz' : (f l[k] != 0) = false := by simp [hz]
        have HN : Hid (∀ j (hj : j < l.length), j < k + 1 → f l[j] = 0) := fun j hj hjk => by
          by_cases e : j = k
          · subst e; exact hz
          · exact HA.out j hj (by omega)
        clear hz
        generalize f l[k] = fk at *
        go_wp2_with (go_at_fn g; refine cG.mono ?_; rintro e w' ⟨rfl, hb'⟩)
        exact ⟨⟨k + 1, by omega, by go_num, HN.out, HL.out.trans (hb'.mono (by simp; omega))⟩, by simp [intOf]; omega⟩
      · have hz' : (f l[k] != 0) = true := by simp [hz]
        have HF := veil (firstBad_at f l k hlt (fun j hj => HA.out j (by omega) hj) hz)
        clear hz
        generalize f l[k] = fk at *
        go_wp2_with (go_at_fn g; refine cG.mono ?_; rintro e w' ⟨rfl, hb'⟩)
        go_ret
        exact ⟨by rw [HF.out]; rfl, HL.out.trans (hb'.mono (by simp; omega))⟩
    · have HF := veil (firstBad_none f l fun j hj => HA.out j hj (by omega))
      clear HG HR eg
      go_wp2
      go_ret
      exact ⟨by rw [HF.out]; rfl, hbl⟩

set_option maxHeartbeats 2000000 in
theorem first_fu (g : Nat) (lb : Array Value) (eg : ∀ args w, (callFunc g args).run Tryz.prog w = .ok (.enter g args) w) (f : Fu → Int) (S : Nat → Prop) (l : List Fu) (v : Value) (w : World) (hS : ∀ b, S b → b < w.heap.size) (hl : SlAt S (FuAt S w) 12 l v)
    (hg : ∀ t ∈ l, ∀ (W : World) (u : Value), Below w.heap.size w W → FuIs S W t u → Calls Tryz.prog g (#[u] ++ lb) W fun e w' => e = .returned (.int .i64 (f t)) ∧ Below W.heap.size W w') :
    Calls Tryz.prog 99 #[v, .func (.func g) #[] lb] w fun e w' => e = .returned (.int .i64 (firstBad f l)) ∧ Below w.heap.size w w' := by
  obtain ⟨a, cap, rfl, ⟨hlen, hlenC⟩, hrow⟩ := hl
  unfold maxLen at hlen
  have HG := veil hg
  clear hg
  rcases hrow with h0 | ⟨b, off, rfl, hb, hrow⟩
  · have hnil : l = [] := List.eq_nil_of_length_eq_zero h0
    subst hnil
    clear HG eg
    go_enter Tryz.func99, Tryz.ntmps99
    go_wp2
    refine wp_loop_rounds 1 ?_
    rw [rounds_succ]
    go_wp2
    go_ret
    exact ⟨rfl, Below.refl _ _⟩
  have hbw := hS b hb
  have HR := veil hrow
  clear hrow
  go_enter Tryz.func99, Tryz.ntmps99
  go_wp2
  go_loopw [10] (fun i wr => ∃ k : Nat, k ≤ l.length ∧ i = .int .i64 k ∧ (∀ j (hj : j < l.length), j < k → f l[j] = 0) ∧ Below w.heap.size w wr) (fun i _ => l.length - (intOf i).toNat)
  case atStart => exact ⟨0, Nat.zero_le _, rfl, fun j _ h => absurd h (by omega), Below.refl _ _⟩
  case round =>
    obtain ⟨k, hk, rfl, hall, hbl⟩ := hrel
    have HA := veil hall
    clear hall
    have hbs := hbl.size
    by_cases hlt : k < l.length
    · have hkeep : Keeps S S w wr := Keeps.below hbl hS
      obtain ⟨⟨c0, hsz⟩, ⟨c1, hsz1⟩, ⟨vp, c2, hps⟩, hty, hex⟩ := HR.out.get k hlt
      obtain ⟨kd, fo, na, va, c3, c4, c5, c6, hcs⟩ := tyAt_cells.1 hty
      obtain ⟨ke, ne, fe, se, ve, c7, c8, c9, c10, c11, hce⟩ := exAt_cells.1 hex
      obtain ⟨va1, va2, va3, rfl⟩ := hcs.slice
      obtain ⟨vp1, vp2, vp3, rfl⟩ := hps.slice
      obtain ⟨ve1, ve2, ve3, rfl⟩ := hce.slice
      rw [Nat.add_assoc] at c4 c5 c6 c8 c9 c10 c11
      have d0 := (hbl.cell (p := ⟨b, off + k * 12, none⟩) hbw).trans c0
      have d1 := (hbl.cell (p := ⟨b, off + k * 12 + 1, none⟩) hbw).trans c1
      have d2 := (hbl.cell (p := ⟨b, off + k * 12 + 2, none⟩) hbw).trans c2
      have d3 := (hbl.cell (p := ⟨b, off + k * 12 + 3, none⟩) hbw).trans c3
      have d4 := (hbl.cell (p := ⟨b, off + k * 12 + 4, none⟩) hbw).trans c4
      have d5 := (hbl.cell (p := ⟨b, off + k * 12 + 5, none⟩) hbw).trans c5
      have d6 := (hbl.cell (p := ⟨b, off + k * 12 + 6, none⟩) hbw).trans c6
      have d7 := (hbl.cell (p := ⟨b, off + k * 12 + 7, none⟩) hbw).trans c7
      have d8 := (hbl.cell (p := ⟨b, off + k * 12 + 8, none⟩) hbw).trans c8
      have d9 := (hbl.cell (p := ⟨b, off + k * 12 + 9, none⟩) hbw).trans c9
      have d10 := (hbl.cell (p := ⟨b, off + k * 12 + 10, none⟩) hbw).trans c10
      have d11 := (hbl.cell (p := ⟨b, off + k * 12 + 11, none⟩) hbw).trans c11
      have hk2 : Keeps S S wr (wr.alloc (.cells #[.string l[k].name, .string l[k].var, .slice vp1 vp2 vp3, .int .i64 kd, .string fo, .string na, .slice va1 va2 va3, .int .i64 ke, .int .i64 ne, .string fe, .string se, .slice ve1 ve2 ve3] 89)) := Keeps.below ((Below.refl wr.heap.size wr).alloc (Nat.le_refl _) _) fun b h => Nat.lt_of_lt_of_le (hS b h) hbs
      have HC := veil ((hcs.keep hkeep).keep hk2)
      have HC2 := veil ((hce.keep hkeep).keep hk2)
      have HC3 := veil (fdSl_keep hk2 (fdSl_keep hkeep hps))
      clear c0 c1 c2 c3 c4 c5 c6 c7 c8 c9 c10 c11 hcs hty hps hce hex hk2
      have HL := veil (hbl.alloc hbs (.cells #[.string l[k].name, .string l[k].var, .slice vp1 vp2 vp3, .int .i64 kd, .string fo, .string na, .slice va1 va2 va3, .int .i64 ke, .int .i64 ne, .string fe, .string se, .slice ve1 ve2 ve3] 89))
      have cG := HG.out l[k] (List.getElem_mem hlt) _ (.agg #[.string l[k].name, .string l[k].var, .slice vp1 vp2 vp3, .int .i64 kd, .string fo, .string na, .slice va1 va2 va3, .int .i64 ke, .int .i64 ne, .string fe, .string se, .slice ve1 ve2 ve3]) HL.out ⟨_, _, _, _, _, _, _, _, _, _, rfl, hsz, hsz1, HC3.out, HC.out, HC2.out⟩
      clear HG HR
      by_cases hz : f l[k] = 0
      · have hz' : (f l[k] != 0) = false := by simp [hz]
        have HN : Hid (∀ j (hj : j < l.length), j < k + 1 → f l[j] = 0) := fun j hj hjk => by
          by_cases e : j = k
          · subst e; exact hz
          · exact HA.out j hj (by omega)
        clear hz
        generalize f l[k] = fk at *
        go_wp2_with (go_at_fn g; refine cG.mono ?_; rintro e w' ⟨rfl, hb'⟩)
        exact ⟨⟨k + 1, by omega, by go_num, HN.out, HL.out.trans (hb'.mono (by simp; omega))⟩, by simp [intOf]; omega⟩
      · have hz' : (f l[k] != 0) = true := by simp [hz]
        have HF := veil (firstBad_at f l k hlt (fun j hj => HA.out j (by omega) hj) hz)
        clear hz
        generalize f l[k] = fk at *
        go_wp2_with (go_at_fn g; refine cG.mono ?_; rintro e w' ⟨rfl, hb'⟩)
        go_ret
        exact ⟨by rw [HF.out]; rfl, HL.out.trans (hb'.mono (by simp; omega))⟩
    · have HF := veil (firstBad_none f l fun j hj => HA.out j hj (by omega))
      clear HG HR eg
      go_wp2
      go_ret
      exact ⟨by rw [HF.out]; rfl, hbl⟩

set_option maxHeartbeats 2000000 in
theorem first_str (g : Nat) (lb : Array Value) (eg : ∀ args w, (callFunc g args).run Tryz.prog w = .ok (.enter g args) w) (f : ByteArray → Int) (S : Nat → Prop) (l : List ByteArray) (v : Value) (w : World) (hS : ∀ b, S b → b < w.heap.size) (hl : SlAt S (StrAt w) 1 l v)
    (hg : ∀ t ∈ l, ∀ (W : World) (u : Value), Below w.heap.size w W → StrIs t u → Calls Tryz.prog g (#[u] ++ lb) W fun e w' => e = .returned (.int .i64 (f t)) ∧ Below W.heap.size W w') :
    Calls Tryz.prog 95 #[v, .func (.func g) #[] lb] w fun e w' => e = .returned (.int .i64 (firstBad f l)) ∧ Below w.heap.size w w' := by
  obtain ⟨a, cap, rfl, ⟨hlen, hlenC⟩, hrow⟩ := hl
  unfold maxLen at hlen
  have HG := veil hg
  clear hg
  rcases hrow with h0 | ⟨b, off, rfl, hb, hrow⟩
  · have hnil : l = [] := List.eq_nil_of_length_eq_zero h0
    subst hnil
    clear HG eg
    go_enter Tryz.func95, Tryz.ntmps95
    go_wp2
    refine wp_loop_rounds 1 ?_
    rw [rounds_succ]
    go_wp2
    go_ret
    exact ⟨rfl, Below.refl _ _⟩
  have hbw := hS b hb
  have HR := veil hrow
  clear hrow
  go_enter Tryz.func95, Tryz.ntmps95
  go_wp2
  go_loopw [10] (fun i wr => ∃ k : Nat, k ≤ l.length ∧ i = .int .i64 k ∧ (∀ j (hj : j < l.length), j < k → f l[j] = 0) ∧ Below w.heap.size w wr) (fun i _ => l.length - (intOf i).toNat)
  case atStart => exact ⟨0, Nat.zero_le _, rfl, fun j _ h => absurd h (by omega), Below.refl _ _⟩
  case round =>
    obtain ⟨k, hk, rfl, hall, hbl⟩ := hrel
    have HA := veil hall
    clear hall
    have hbs := hbl.size
    by_cases hlt : k < l.length
    · obtain ⟨c0, hsz⟩ := HR.out.get k hlt
      rw [Nat.mul_one] at c0
      have d0 := (hbl.cell (p := ⟨b, off + k, none⟩) hbw).trans c0
      clear c0
      have cG := HG.out l[k] (List.getElem_mem hlt) _ (.string l[k]) hbl ⟨rfl, hsz⟩
      clear HG HR
      by_cases hz : f l[k] = 0
      · have hz' : (f l[k] != 0) = false := by simp [hz]
        have HN : Hid (∀ j (hj : j < l.length), j < k + 1 → f l[j] = 0) := fun j hj hjk => by
          by_cases e : j = k
          · subst e; exact hz
          · exact HA.out j hj (by omega)
        clear hz
        generalize f l[k] = fk at *
        go_wp2_with (go_at_fn g; refine cG.mono ?_; rintro e w' ⟨rfl, hb'⟩)
        exact ⟨⟨k + 1, by omega, by go_num, HN.out, hbl.trans (hb'.mono (by omega))⟩, by simp [intOf]; omega⟩
      · have hz' : (f l[k] != 0) = true := by simp [hz]
        have HF := veil (firstBad_at f l k hlt (fun j hj => HA.out j (by omega) hj) hz)
        clear hz
        generalize f l[k] = fk at *
        go_wp2_with (go_at_fn g; refine cG.mono ?_; rintro e w' ⟨rfl, hb'⟩)
        go_ret
        exact ⟨by rw [HF.out]; rfl, hbl.trans (hb'.mono (by omega))⟩
    · have HF := veil (firstBad_none f l fun j hj => HA.out j hj (by omega))
      clear HG HR eg
      go_wp2
      go_ret
      exact ⟨by rw [HF.out]; rfl, hbl⟩

end Go.Proofs.YtagbaimfigljiaaGreatDoor
namespace Go.Proofs.YtagbaimfigljiaaGreatDoor
open Go.RowKit
set_option maxRecDepth 100000

theorem makeFunc_run (fn : Fn) (first cap : Array Value) (w : World) : (Instr.makeFunc fn first cap).run Tryz.prog w = .ok (.func fn first cap) w := rfl

set_option maxHeartbeats 2000000 in
theorem checkType_any : ∀ (m d : Nat), 10 < d + m → ∀ (S : Nat → Prop) (t : Ty) (v : Value) (w : World), d < 1000 → (∀ b, S b → b < w.heap.size) → TyIs S w t v →
    Calls Tryz.prog 170 #[v, .int .i64 d] w fun e w' => e = .returned (.int .i64 (tyFault t d)) ∧ Below w.heap.size w w' := by
  intro m
  induction m with
  | zero =>
    rintro d hd S t v w hd1 hS ⟨k, f, n, va, rfl, xs, rfl, hf, hn, hsl⟩
    have hd' : (10 : Int) < (d : Int) := by omega
    have HF : Hid (tyFault (.mk k f n xs) d = 1) := by show _ = _; rw [tyFault, if_pos (by omega)]
    obtain ⟨a, c, cap, rfl⟩ := hsl.slice
    clear hsl
    go_enter Tryz.func170, Tryz.ntmps170
    go_wp2_with fail
    go_ret
    exact ⟨by rw [HF.out]; rfl, ((Below.refl _ _).alloc (Nat.le_refl _) _).alloc (by simp) _⟩
  | succ m ih =>
    rintro d hd S t v w hd1 hS ⟨k, f, n, va, rfl, xs, rfl, hf, hn, hsl⟩
    have HIH := veil ih
    clear ih
    by_cases hd0 : 10 < d
    · have hd' : (10 : Int) < (d : Int) := by omega
      have HF : Hid (tyFault (.mk k f n xs) d = 1) := by show _ = _; rw [tyFault, if_pos (by omega)]
      obtain ⟨a, c, cap, rfl⟩ := hsl.slice
      clear hsl
      go_enter Tryz.func170, Tryz.ntmps170
      go_wp2_with fail
      go_ret
      exact ⟨by rw [HF.out]; rfl, ((Below.refl _ _).alloc (Nat.le_refl _) _).alloc (by simp) _⟩
    have hd' : ¬ (10 : Int) < (d : Int) := by omega
    cases hk : isIn k 1 4
    · have HF : Hid (tyFault (.mk k f n xs) d = 3) := by show _ = _; rw [tyFault, if_neg hd0, if_pos hk]
      obtain ⟨a, c, cap, rfl⟩ := hsl.slice
      clear hsl
      have hk2 : k < 1 ∨ 4 < k := by simp [isIn] at hk; omega
      clear hk
      rcases hk2 with hk2 | hk2
      · go_enter Tryz.func170, Tryz.ntmps170
        go_wp2_with fail
        go_ret
        exact ⟨by rw [HF.out]; rfl, ((Below.refl _ _).alloc (Nat.le_refl _) _).alloc (by simp) _⟩
      · have hk3 : ¬ k < 1 := by omega
        go_enter Tryz.func170, Tryz.ntmps170
        go_wp2_with fail
        go_ret
        exact ⟨by rw [HF.out]; rfl, ((Below.refl _ _).alloc (Nat.le_refl _) _).alloc (by simp) _⟩
    have hk2 : ¬ k < 1 := by simp [isIn] at hk; omega
    have hk3 : ¬ 4 < k := by simp [isIn] at hk; omega
    have HT : Hid (tyFault (.mk k f n xs) d = if tyFits k f n xs.length = false then 4 else tysFault xs (d + 1)) := by show _ = _; rw [tyFault, if_neg hd0, if_neg (by rw [hk]; simp)]
    clear hk
    obtain ⟨a, cap, rfl, hrest⟩ := hsl
    have HSL : Hid (SlAt S (TyAt S w) 4 xs (.slice a xs.length cap)) := ⟨a, cap, rfl, hrest⟩
    clear hrest
    have HB : Hid (Below w.heap.size w ((w.alloc (.cells #[.int .i64 k, .string f, .string n, .slice a xs.length cap] 84)).alloc (.cells #[.int .i64 d] 3))) := ((Below.refl _ _).alloc (Nat.le_refl _) _).alloc (by simp) _
    have hef := makeFunc_run
    cases hfit : tyFits k f n xs.length
    · have HF := veil (HT.out.trans (if_pos hfit))
      go_enter Tryz.func170, Tryz.ntmps170
      go_wp2_with fail
      refine (typeFits_any k f n a xs.length cap hf hn _).mono ?_
      rintro e w1 ⟨rfl, hb⟩
      rw [hfit]
      go_wp2
      go_ret
      exact ⟨by rw [HF.out]; rfl, HB.out.trans (hb.mono (by simp; omega))⟩
    · have HF := veil (HT.out.trans ((if_neg (by rw [hfit]; simp)).trans (tysFault_first xs (d + 1))))
      clear HT
      go_enter Tryz.func170, Tryz.ntmps170
      go_wp2_with fail
      refine (typeFits_any k f n a xs.length cap hf hn _).mono ?_
      rintro e w1 ⟨rfl, hb⟩
      rw [hfit]
      have c3 : w1.cell? ⟨w.heap.size, 3, none⟩ = some (.slice a xs.length cap) := (hb.cell (by simp; omega)).trans ((World.cell?_alloc_old _ _ _ (by simp)).trans (World.cell?_alloc_at _ _ _ _ rfl))
      have hcd : w1.cell? ⟨w.heap.size + 1, 0, none⟩ = some (.int .i64 d) := (hb.cell (by simp)).trans (World.cell?_alloc_at _ _ _ _ (by simp))
      have HCD := veil hcd
      have HB1 := veil (HB.out.trans (hb.mono (by simp; omega)))
      have hs1 : w.heap.size + 2 ≤ w1.heap.size := by have := hb.size; simp at this; omega
      clear hb hcd
      go_wp2_with fail
      refine (first_ty 244 #[.pointer (some ⟨w.heap.size + 1, 0, none⟩)] (enters_of Tryz.func244 (by kernel_rfl) rfl) (fun t => tyFault t (d + 1)) S xs _ w1 (fun b h => by have := hS b h; omega) (tySl_keep (Keeps.below HB1.out hS) HSL.out) ?_).mono ?_
      · rintro t ht W u hbW ⟨k', f', n', va', rfl, hcs⟩
        have hcd : W.cell? ⟨w.heap.size + 1, 0, none⟩ = some (.int .i64 d) := (hbW.cell (by show w.heap.size + 1 < w1.heap.size; omega)).trans HCD.out
        have hne : w.heap.size + 1 < W.heap.size := by have := hbW.size; omega
        obtain ⟨va1, va2, va3, rfl⟩ := hcs.slice
        have hws := hbW.size
        have hSW : ∀ b, S b → b < W.heap.size := fun b h => by have := hS b h; omega
        have HC := veil (hcs.keep (Keeps.below ((Below.refl W.heap.size W).alloc (Nat.le_refl _) (.cells #[.int .i64 k', .string f', .string n', .slice va1 va2 va3] 84)) hSW))
        have HBW : Hid (Below W.heap.size W (W.alloc (.cells #[.int .i64 k', .string f', .string n', .slice va1 va2 va3] 84))) := (Below.refl _ _).alloc (Nat.le_refl _) _
        have cI := HIH.out (d + 1) (by omega) S t _ _ (by omega) (fun b h => by have := hSW b h; simp; omega) ⟨_, _, _, _, rfl, HC.out⟩
        have en : ((d + 1 : Nat) : Int) = (d : Int) + 1 := by omega
        rw [en] at cI
        clear HIH HC hcs
        go_enter Tryz.func244, Tryz.ntmps244
        go_wp2_with fail
        refine cI.mono ?_
        rintro e w2 ⟨rfl, hb2⟩
        go_wp2
        go_ret
        exact ⟨rfl, HBW.out.trans (hb2.mono (by simp))⟩
      · rintro e w2 ⟨rfl, hb2⟩
        go_wp2
        go_ret
        exact ⟨by rw [HF.out]; rfl, HB1.out.trans (hb2.mono (by omega))⟩

end Go.Proofs.YtagbaimfigljiaaGreatDoor
namespace Go.Proofs.YtagbaimfigljiaaGreatDoor
open Go.RowKit
set_option maxRecDepth 100000

/-- the blocks that are new since there were n. -/
def Fresh (n : Nat) (w : World) (b : Nat) : Prop := n ≤ b ∧ b < w.heap.size

/-- a call that answers a number of which R holds. -/
def Ends (R : Int → World → Prop) (e : Ending) (w : World) : Prop := ∃ x, e = .returned (.int .i64 x) ∧ R x w

theorem fresh_keeps {B n : Nat} {w w' : World} (hB : B < n) (h : Moved B w w') : Keeps (Fresh n w) (Fresh n w') w w' :=
  ⟨fun b hb => h.above b (Nat.lt_of_lt_of_le hB hb.1) hb.2, fun _ hb => ⟨hb.1, Nat.lt_of_lt_of_le hb.2 h.below.size⟩⟩

theorem none_sl {α : Type} {S : Nat → Prop} {P : α → Nat → Nat → Prop} {c : Nat} : SlAt S P c [] (.slice none 0 0) := ⟨none, 0, rfl, ⟨by simp, by simp⟩, Or.inl rfl⟩

theorem empty_le : emptyText.size ≤ maxLen := by show 0 ≤ maxLen; exact Nat.zero_le _
theorem noneOr_le {s : ByteArray} (h : noneOrIdent s = true) : s.size ≤ maxLen := by
  unfold maxLen
  unfold noneOrIdent at h
  cases hn : noneB s with
  | true =>
    have : s.data.toList = [] := by simpa [noneB] using hn
    have e : s.size = s.data.toList.length := rfl
    rw [this] at e
    have e' : s.size = 0 := e
    omega
  | false =>
    rw [hn] at h
    have hi : identOk s = true := by simpa using h
    have h1 : isIn s.size 1 8 = true := by
      cases e : isIn s.size 1 8 with
      | true => rfl
      | false => rw [identOk, wordOk, e] at hi; cases hi
    simp [isIn] at h1
    omega
theorem ident_le {s : ByteArray} (h : identOk s = true) : s.size ≤ maxLen := noneOr_le (by unfold noneOrIdent; rw [h]; simp)

/-- the way back of 'typ' within brackets. -/
theorem typ_back (B : Nat) (l : Toks) (j n : Nat) (t : Ty) (k : Int) (f na : ByteArray) (va : Value) (W : World) (g : Nat) (lb : Array Value) (br bk : Nat) (eg : ∀ args w, (callFunc g args).run Tryz.prog w = .ok (.enter g args) w) (R : Int → World → Prop)
    (hr : RdAt B l j W) (hBn : B < n) (hbr : W.cell? ⟨br, 0, none⟩ = some (.pointer (some ⟨B, 0, none⟩))) (hbk : W.cell? ⟨bk, 0, none⟩ = some (.func (.func g) #[] lb)) (hbrB : B < br) (hbkB : B < bk) (hnW : n ≤ W.heap.size) (ht : TyCs (Fresh n W) W t k f na va)
    (hbad : sgn l j [93] = false → ∀ w', Moved B W w' → R 4 w')
    (hok : sgn l j [93] = true → ∀ w' v, Moved B W w' → RdAt B l (j + 1) w' → TyIs (Fresh n w') w' (.mk 3 emptyText emptyText [t]) v → Calls Tryz.prog g (#[v] ++ lb) w' (Ends R)) :
    Calls Tryz.prog 269 #[.agg #[.int .i64 k, .string f, .string na, va], .pointer (some ⟨br, 0, none⟩), .pointer (some ⟨bk, 0, none⟩)] W (Ends R) := by
  obtain ⟨va1, va2, va3, rfl⟩ := ht.slice
  have hlt := rd_lt hr
  have hbrW := World.block_lt_of_cell? W _ hbr
  have hbkW := World.block_lt_of_cell? W _ hbk
  have HA : Hid (Moved B W (W.alloc (.cells #[.int .i64 k, .string f, .string na, .slice va1 va2 va3] 84))) := Moved.of_below ((Below.refl _ _).alloc (Nat.le_refl _) _) (by omega)
  have HR := veil (rd_below hr ((Below.refl _ _).alloc (Nat.le_refl _) (.cells #[.int .i64 k, .string f, .string na, .slice va1 va2 va3] 84)))
  have hne1 : br < W.heap.size := hbrW
  have HBad := veil hbad
  have HOk := veil hok
  have HT := veil ht
  clear hbad hok ht hr
  go_enter Tryz.func269, Tryz.ntmps269
  go_wp2_with fail
  refine (sign_next B l j ⟨#[93]⟩ _ HR.out).mono ?_
  rintro e w1 ⟨rfl, q1, q2⟩
  have hm1 := HA.out.trans q2
  have b0 : w1.cell? ⟨W.heap.size, 0, none⟩ = some (.int .i64 k) := (q2.cell (by omega) (by simp) 0).trans (World.cell?_alloc_at _ _ _ _ rfl)
  have b1 : w1.cell? ⟨W.heap.size, 1, none⟩ = some (.string f) := (q2.cell (by omega) (by simp) 1).trans (World.cell?_alloc_at _ _ _ _ rfl)
  have b2 : w1.cell? ⟨W.heap.size, 2, none⟩ = some (.string na) := (q2.cell (by omega) (by simp) 2).trans (World.cell?_alloc_at _ _ _ _ rfl)
  have b3 : w1.cell? ⟨W.heap.size, 3, none⟩ = some (.slice va1 va2 va3) := (q2.cell (by omega) (by simp) 3).trans (World.cell?_alloc_at _ _ _ _ rfl)
  have hk1 : w1.cell? ⟨bk, 0, none⟩ = some (.func (.func g) #[] lb) := (hm1.cell hbkB hbkW 0).trans hbk
  have HM1 := veil hm1
  have hs1 := q2.below.size
  cases hs : sgn l j [93]
  · have hs' : sgn l j (ByteArray.mk #[93]).data.toList = false := hs
    have HB := veil (HBad.out hs w1 HM1.out)
    try rw [hs']
    clear q1 q2 hm1
    go_wp2_with fail
    go_ret
    exact ⟨_, rfl, HB.out⟩
  · have hs' : sgn l j (ByteArray.mk #[93]).data.toList = true := hs
    rw [hs'] at q1
    have q1' : RdAt B l (j + 1) w1 := q1
    have hW1 : W.heap.size + 1 ≤ w1.heap.size := by simpa using hs1
    have hal : Below w1.heap.size w1 (w1.alloc (.cells #[.int .i64 k, .string f, .string na, .slice va1 va2 va3] 84)) := (Below.refl _ _).alloc (Nat.le_refl _) _
    have hm2 : Moved B W (w1.alloc (.cells #[.int .i64 k, .string f, .string na, .slice va1 va2 va3] 84)) := hm1.trans (Moved.of_below hal (by omega))
    have hty : TyIs (Fresh n (w1.alloc (.cells #[.int .i64 k, .string f, .string na, .slice va1 va2 va3] 84))) (w1.alloc (.cells #[.int .i64 k, .string f, .string na, .slice va1 va2 va3] 84)) (.mk 3 emptyText emptyText [t]) (.agg #[.int .i64 3, .string ⟨#[]⟩, .string ⟨#[]⟩, .slice (some ⟨w1.heap.size, 0, none⟩) 1 1]) := by
      refine ⟨3, _, _, _, rfl, [t], rfl, empty_le, empty_le, some ⟨w1.heap.size, 0, none⟩, 1, rfl, ⟨by simp [maxLen], by simp⟩, Or.inr ⟨w1.heap.size, 0, rfl, ⟨by omega, by simp⟩, ?_, trivial⟩⟩
      exact tyAt_cells.2 ⟨k, f, na, _, World.cell?_alloc_at _ _ _ _ rfl, World.cell?_alloc_at _ _ _ _ rfl, World.cell?_alloc_at _ _ _ _ rfl, World.cell?_alloc_at _ _ _ _ rfl, HT.out.keep (fresh_keeps hBn hm2)⟩
    have cK := HOk.out hs _ _ hm2 (rd_below q1' hal) hty
    have HK := veil cK
    try rw [hs']
    clear q1 q2 hm1 hm2 hty cK q1' hal HOk HBad HT
    have hef := eg
    go_wp2_with fail
    refine HK.out.mono ?_
    rintro e w' ⟨y, rfl, hy⟩
    have HY := veil hy
    clear hy
    go_wp2_with fail
    go_ret
    exact ⟨_, rfl, HY.out⟩

/-- a type without parts. -/
theorem ty_leaf {S : Nat → Prop} {w : World} (k : Int) {o n : ByteArray} (ho : o.size ≤ maxLen) (hn : n.size ≤ maxLen) : TyIs S w (.mk k o n []) (.agg #[.int .i64 k, .string o, .string n, .slice none 0 0]) := ⟨k, o, n, _, rfl, [], rfl, ho, hn, none_sl⟩

set_option maxHeartbeats 4000000 in
theorem typ_next : ∀ (f d : Nat), d + f = 41 → ∀ (B : Nat) (l : Toks) (i : Nat) (w : World) (g : Nat) (lb : Array Value), (∀ args w, (callFunc g args).run Tryz.prog w = .ok (.enter g args) w) → ∀ (R : Int → World → Prop), RdAt B l i w →
    (∀ e, pTy l f i = .bad e → ∀ w', Moved B w w' → R e w') →
    (∀ t j, pTy l f i = .ok t j → ∀ w' v, Moved B w w' → RdAt B l j w' → TyIs (Fresh w.heap.size w') w' t v → Calls Tryz.prog g (#[v] ++ lb) w' (Ends R)) →
    Calls Tryz.prog 196 #[.pointer (some ⟨B, 0, none⟩), .int .i64 d, .func (.func g) #[] lb] w (Ends R) := by
  intro f
  induction f with
  | zero =>
    intro d hd B l i w g lb eg R hr hbad hok
    have hd' : (40 : Int) < (d : Int) := by omega
    have hlt := rd_lt hr
    have HB := veil (hbad 1 (by rw [pTy]) ((w.alloc (.cells #[.pointer (some ⟨B, 0, none⟩)] 179)).alloc (.cells #[.func (.func g) #[] lb] 246)) ((Moved.of_below ((Below.refl _ _).alloc (Nat.le_refl _) _) (by omega)).alloc (by simp; omega) _))
    clear hbad hok eg hr
    go_enter Tryz.func196, Tryz.ntmps196
    go_wp2_with fail
    go_ret
    exact ⟨_, rfl, HB.out⟩
  | succ f ih =>
    intro d hd B l i w g lb eg R hr hbad hok
    have HIH := veil ih
    have HEg := veil eg
    have hd' : ¬ (40 : Int) < (d : Int) := by omega
    have hlt := rd_lt hr
    have hal : Below w.heap.size w ((w.alloc (.cells #[.pointer (some ⟨B, 0, none⟩)] 179)).alloc (.cells #[.func (.func g) #[] lb] 246)) := ((Below.refl _ _).alloc (Nat.le_refl _) _).alloc (by simp) _
    have HM0 : Hid (Moved B w ((w.alloc (.cells #[.pointer (some ⟨B, 0, none⟩)] 179)).alloc (.cells #[.func (.func g) #[] lb] 246))) := Moved.of_below hal (by omega)
    have HR0 := veil (rd_below hr hal)
    have hcr : ((w.alloc (.cells #[.pointer (some ⟨B, 0, none⟩)] 179)).alloc (.cells #[.func (.func g) #[] lb] 246)).cell? ⟨w.heap.size, 0, none⟩ = some (.pointer (some ⟨B, 0, none⟩)) := (World.cell?_alloc_old _ _ _ (by simp)).trans (World.cell?_alloc_at _ _ _ _ rfl)
    have hck : ((w.alloc (.cells #[.pointer (some ⟨B, 0, none⟩)] 179)).alloc (.cells #[.func (.func g) #[] lb] 246)).cell? ⟨w.heap.size + 1, 0, none⟩ = some (.func (.func g) #[] lb) := World.cell?_alloc_at _ _ _ _ (by simp)
    have HCr := veil hcr
    have HCk := veil hck
    have HP : Hid (pTy l (f + 1) i = if wrd l i [105, 110, 116] = true then .ok (.mk 1 emptyText emptyText []) (i + 1)
      else if wrd l i [116, 101, 120, 116] = true then .ok (.mk 2 emptyText emptyText []) (i + 1)
      else if sgn l i [91] = true then (match pTy l f (i + 1) with
        | .bad e => .bad e
        | .ok t j => if sgn l j [93] = true then .ok (.mk 3 emptyText emptyText [t]) (j + 1) else .bad 4)
      else match nameAt l i with
        | .bad e => .bad e
        | .ok x j => .ok (.mk 4 x.1 x.2 []) j) := by show _ = _; rw [pTy]; rfl
    have HBad := veil hbad
    have HOk := veil hok
    have hef := makeFunc_run
    clear hbad hok hr ih hal hcr hck eg
    have hkeep : ∀ W, Moved B w W → (Moved B ((w.alloc (.cells #[.pointer (some ⟨B, 0, none⟩)] 179)).alloc (.cells #[.func (.func g) #[] lb] 246)) W) → W.cell? ⟨w.heap.size, 0, none⟩ = some (.pointer (some ⟨B, 0, none⟩)) ∧ W.cell? ⟨w.heap.size + 1, 0, none⟩ = some (.func (.func g) #[] lb) := fun W _ h2 =>
      ⟨(h2.cell (by omega) (by simp; omega) 0).trans HCr.out, (h2.cell (by omega) (by simp) 0).trans HCk.out⟩
    have HKeep := veil hkeep
    clear hkeep
    go_enter Tryz.func196, Tryz.ntmps196
    go_wp2_with fail
    refine (word_next B l i ⟨#[105, 110, 116]⟩ _ HR0.out).mono ?_
    rintro e w1 ⟨rfl, q1, q2⟩
    have HN1 := veil q2
    have HM1 := veil (HM0.out.trans q2)
    obtain ⟨k1, k2⟩ := HKeep.out w1 HM1.out HN1.out
    have hsz1 : w.heap.size + 2 ≤ w1.heap.size := by have := q2.below.size; simpa using this
    cases hw1 : wrd l i [105, 110, 116]
    case true =>
      have hw1' : wrd l i (ByteArray.mk #[105, 110, 116]).data.toList = true := hw1
      rw [hw1'] at q1
      rw [if_pos hw1] at HP
      have HK := veil (HOk.out _ _ HP.out w1 _ HM1.out q1 (ty_leaf 1 empty_le empty_le))
      have eg := HEg.out
      try rw [hw1']
      clear q1 q2 HBad HOk
      go_wp2_with fail
      refine HK.out.mono ?_
      rintro e w' ⟨y, rfl, hy⟩
      have HY := veil hy
      clear hy
      go_wp2_with fail
      go_ret
      exact ⟨_, rfl, HY.out⟩
    have hw1' : wrd l i (ByteArray.mk #[105, 110, 116]).data.toList = false := hw1
    rw [hw1'] at q1
    rw [if_neg (by rw [hw1]; simp)] at HP
    have HR1 : Hid (RdAt B l i w1) := q1
    try rw [hw1']
    clear q1 q2
    go_wp2_with fail
    refine (word_next B l i ⟨#[116, 101, 120, 116]⟩ _ HR1.out).mono ?_
    rintro e w2 ⟨rfl, q1, q2⟩
    have HN2 := veil (HN1.out.trans q2)
    have HM2 := veil (HM1.out.trans q2)
    obtain ⟨k3, k4⟩ := HKeep.out w2 HM2.out HN2.out
    have hsz2 : w.heap.size + 2 ≤ w2.heap.size := by have := q2.below.size; omega
    cases hw2 : wrd l i [116, 101, 120, 116]
    case true =>
      have hw2' : wrd l i (ByteArray.mk #[116, 101, 120, 116]).data.toList = true := hw2
      rw [hw2'] at q1
      rw [if_pos hw2] at HP
      have HK := veil (HOk.out _ _ HP.out w2 _ HM2.out q1 (ty_leaf 2 empty_le empty_le))
      have eg := HEg.out
      try rw [hw2']
      clear q1 q2 HBad HOk
      go_wp2_with fail
      refine HK.out.mono ?_
      rintro e w' ⟨y, rfl, hy⟩
      have HY := veil hy
      clear hy
      go_wp2_with fail
      go_ret
      exact ⟨_, rfl, HY.out⟩
    have hw2' : wrd l i (ByteArray.mk #[116, 101, 120, 116]).data.toList = false := hw2
    rw [hw2'] at q1
    rw [if_neg (by rw [hw2]; simp)] at HP
    have HR2 : Hid (RdAt B l i w2) := q1
    try rw [hw2']
    clear q1 q2 k1 k2
    go_wp2_with fail
    refine (sign_next B l i ⟨#[91]⟩ _ HR2.out).mono ?_
    rintro e w3 ⟨rfl, q1, q2⟩
    have HN3 := veil (HN2.out.trans q2)
    have HM3 := veil (HM2.out.trans q2)
    obtain ⟨k5, k6⟩ := HKeep.out w3 HM3.out HN3.out
    have hsz3 : w.heap.size + 2 ≤ w3.heap.size := by have := q2.below.size; omega
    cases hw3 : sgn l i [91]
    case true =>
      have hw3' : sgn l i (ByteArray.mk #[91]).data.toList = true := hw3
      rw [hw3'] at q1
      rw [if_pos hw3] at HP
      have HR3 : Hid (RdAt B l (i + 1) w3) := q1
      have en : ((d + 1 : Nat) : Int) = (d : Int) + 1 := by omega
      have cI := HIH.out (d + 1) (by omega) B l (i + 1) w3 269 #[.pointer (some ⟨w.heap.size, 0, none⟩), .pointer (some ⟨w.heap.size + 1, 0, none⟩)] (enters_of Tryz.func269 (by kernel_rfl) rfl) R HR3.out
        (fun e he w' hm => HBad.out e (by rw [HP.out, he]) w' (HM3.out.trans hm))
        (fun t j hp w' v hm hr' ht => by
          obtain ⟨k', f', n', va', rfl, hcs⟩ := ht
          obtain ⟨kk5, kk6⟩ := HKeep.out w' (HM3.out.trans hm) (HN3.out.trans hm)
          have hsz' := hm.below.size
          refine typ_back B l j w.heap.size t k' f' n' va' w' g lb w.heap.size (w.heap.size + 1) HEg.out R hr' (by omega) kk5 kk6 (by omega) (by omega) (by omega) ?_ ?_ ?_
          · exact hcs.keep ⟨fun _ _ => rfl, fun b hb => ⟨by have := hb.1; omega, hb.2⟩⟩
          · intro hs w'' hm'
            exact HBad.out 4 (by rw [HP.out, hp]; simp [hs]) w'' ((HM3.out.trans hm).trans hm')
          · intro hs w'' v hm' hr'' ht''
            exact HOk.out _ _ (by rw [HP.out, hp]; simp [hs]) w'' v ((HM3.out.trans hm).trans hm') hr'' ht'')
      rw [en] at cI
      have HCI := veil cI
      try rw [hw3']
      clear q1 q2 HBad HOk cI
      go_wp2_with fail
      refine HCI.out.mono ?_
      rintro e w' ⟨y, rfl, hy⟩
      have HY := veil hy
      clear hy
      go_wp2_with fail
      go_ret
      exact ⟨_, rfl, HY.out⟩
    have hw3' : sgn l i (ByteArray.mk #[91]).data.toList = false := hw3
    rw [hw3'] at q1
    rw [if_neg (by rw [hw3]; simp)] at HP
    have HR3 : Hid (RdAt B l i w3) := q1
    try rw [hw3']
    clear q1 q2 k3 k4
    go_wp2_with fail
    refine (name_next B l i _ HR3.out).mono ?_
    rintro e w4 ⟨hm, ⟨hn, o, t, rfl⟩ | ⟨o, t, j, hn, ho, ht, rfl, hr⟩⟩
    · rw [hn] at HP
      have HB := veil (HBad.out _ HP.out w4 (HM3.out.trans hm))
      clear hm hn HBad HOk
      go_wp2_with fail
      go_ret
      exact ⟨_, rfl, HB.out⟩
    · rw [hn] at HP
      obtain ⟨k7, k8⟩ := HKeep.out w4 (HM3.out.trans hm) (HN3.out.trans hm)
      have HK := veil (HOk.out _ _ HP.out w4 _ (HM3.out.trans hm) hr (ty_leaf 4 (noneOr_le ho) (ident_le ht)))
      have eg := HEg.out
      clear hm hn HBad HOk hr
      go_wp2_with fail
      refine HK.out.mono ?_
      rintro e w' ⟨y, rfl, hy⟩
      have HY := veil hy
      clear hy
      go_wp2_with fail
      go_ret
      exact ⟨_, rfl, HY.out⟩

end Go.Proofs.YtagbaimfigljiaaGreatDoor
namespace Go.Proofs.YtagbaimfigljiaaGreatDoor
open Go.RowKit
set_option maxRecDepth 100000

theorem nameAt_adv {l : Toks} {i j : Nat} {x : ByteArray × ByteArray} (h : nameAt l i = .ok x j) : i ≤ j := by
  unfold nameAt at h
  split at h
  · cases h
  · split at h
    · split at h
      · cases h
      · injection h with _ h; omega
    · injection h with _ h; omega

theorem pList_adv {α : Type} {sub : Nat → Res α} {l : Toks} {fin : List UInt8} (hs : ∀ i x j, sub i = .ok x j → i ≤ j) : ∀ (n : Nat) (acc : List α) (i j : Nat) (r : List α), pList sub l fin n acc i = .ok r j → i ≤ j
  | 0, _, _, _, _, h => by rw [pList] at h; cases h
  | n + 1, acc, i, j, r, h => by
    rw [pList] at h
    split at h
    · cases h
    · rename_i x k hk
      have := hs i x k hk
      split at h
      · have := pList_adv hs n _ _ _ _ h
        omega
      · split at h
        · injection h with _ h; omega
        · cases h

theorem pCall_adv {sub : Nat → Res Ex} {l : Toks} (hs : ∀ i x j, sub i = .ok x j → i ≤ j) {i j : Nat} {x : Ex} (h : pCall sub l i = .ok x j) : i ≤ j := by
  unfold pCall at h
  split at h
  · cases h
  · rename_i y k hk
    have := nameAt_adv hk
    split at h
    · split at h
      · injection h with _ h; omega
      · split at h
        · cases h
        · rename_i hl
          have := pList_adv hs _ _ _ _ _ hl
          injection h with _ h; omega
    · split at h
      · injection h with _ h; omega
      · cases h

theorem pHead_adv {sub : Nat → Res Ex} {l : Toks} (hs : ∀ i x j, sub i = .ok x j → i ≤ j) {i j : Nat} {x : Ex} (h : pHead sub l i = .ok x j) : i ≤ j := by
  unfold pHead at h
  split at h
  · split at h
    · cases h
    · rename_i hk
      have := hs _ _ _ hk
      split at h
      · injection h with _ h; omega
      · cases h
  · split at h
    · split at h
      · cases h
      · rename_i hl
        have := pList_adv hs _ _ _ _ _ hl
        injection h with _ h; omega
    · split at h
      · injection h with _ h; omega
      · split at h
        · injection h with _ h; omega
        · exact pCall_adv hs h

theorem pPlaces_adv {sub : Nat → Res Ex} {l : Toks} (hs : ∀ i x j, sub i = .ok x j → i ≤ j) : ∀ (n : Nat) (x y : Ex) (i j : Nat), pPlaces sub l n x i = .ok y j → i ≤ j
  | 0, _, _, _, _, h => by rw [pPlaces] at h; cases h
  | n + 1, x, y, i, j, h => by
    rw [pPlaces] at h
    split at h
    · split at h
      · cases h
      · rename_i hk
        have := hs _ _ _ hk
        split at h
        · have := pPlaces_adv hs n _ _ _ _ h
          omega
        · cases h
    · injection h with _ h; omega

theorem pTail_adv {sub : Nat → Res Ex} {l : Toks} (hs : ∀ i x j, sub i = .ok x j → i ≤ j) {i j : Nat} {x : Ex} (h : pTail sub l i = .ok x j) : i ≤ j := by
  unfold pTail at h
  split at h
  · cases h
  · rename_i hk
    have := pHead_adv hs hk
    have := pPlaces_adv hs _ _ _ _ _ h
    omega

theorem pSums_adv {sub : Nat → Res Ex} {l : Toks} (hs : ∀ i x j, sub i = .ok x j → i ≤ j) : ∀ (n : Nat) (x y : Ex) (i j : Nat), pSums sub l n x i = .ok y j → i ≤ j
  | 0, _, _, _, _, h => by rw [pSums] at h; cases h
  | n + 1, x, y, i, j, h => by
    rw [pSums] at h
    split at h
    · split at h
      · cases h
      · rename_i hk
        have := pTail_adv hs hk
        have := pSums_adv hs n _ _ _ _ h
        omega
    · injection h with _ h; omega

theorem pEx_adv {l : Toks} : ∀ (f i : Nat) (x : Ex) (j : Nat), pEx l f i = .ok x j → i ≤ j
  | 0, _, _, _, h => by rw [pEx] at h; cases h
  | f + 1, i, x, j, h => by
    rw [pEx] at h
    split at h
    · cases h
    · rename_i hk
      have := pTail_adv (fun i x j => pEx_adv f i x j) hk
      have := pSums_adv (fun i x j => pEx_adv f i x j) _ _ _ _ _ h
      omega

theorem sgn_lt {l : Toks} {i : Nat} {s : List UInt8} (h : sgn l i s = true) : i < l.length := by
  unfold sgn tokB at h
  split at h
  · rename_i hk
    exact (List.getElem?_eq_some_iff.1 hk).1
  · cases h

end Go.Proofs.YtagbaimfigljiaaGreatDoor
