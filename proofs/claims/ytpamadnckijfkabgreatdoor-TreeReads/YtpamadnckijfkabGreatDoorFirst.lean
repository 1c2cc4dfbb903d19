/- What the five forms of tree.first answer, at every list and at every function value that answers f: the first of f that is not 0. -/
import Derived.Test.YtpamadnckijfkabGreatDoorFits
namespace Go.Proofs.YtpamadnckijfkabGreatDoor
open Go.RowKit
set_option maxRecDepth 100000

def StrIs (s : ByteArray) (v : Value) : Prop := v = .string s ∧ s.size ≤ maxLen

set_option maxHeartbeats 2000000 in
theorem first_ty (g : Nat) (lb : Array Value) (eg : ∀ args w, (callFunc g args).run Tryz.prog w = .ok (.enter g args) w) (f : Ty → Int) (S : Nat → Prop) (l : List Ty) (v : Value) (w : World) (hS : ∀ b, S b → b < w.heap.size) (hl : SlAt S (TyAt S w) 4 l v)
    (hg : ∀ t ∈ l, ∀ (W : World) (u : Value), Below w.heap.size w W → TyIs S W t u → Calls Tryz.prog g (#[u] ++ lb) W fun e w' => e = .returned (.int .i64 (f t)) ∧ Below W.heap.size W w') :
    Calls Tryz.prog 114 #[v, .func (.func g) #[] lb] w fun e w' => e = .returned (.int .i64 (firstBad f l)) ∧ Below w.heap.size w w' := by
  obtain ⟨a, cap, rfl, ⟨hlen, hlenC⟩, hrow⟩ := hl
  unfold maxLen at hlen
  have HG := veil hg
  clear hg
  rcases hrow with h0 | ⟨b, off, rfl, hb, hrow⟩
  · have hnil : l = [] := List.eq_nil_of_length_eq_zero h0
    subst hnil
    clear HG eg
    go_enter Tryz.func114, Tryz.ntmps114
    go_wp2
    refine wp_loop_rounds 1 ?_
    rw [rounds_succ]
    go_wp2
    go_ret
    exact ⟨rfl, Below.refl _ _⟩
  have hbw := hS b hb
  have HR := veil hrow
  clear hrow
  go_enter Tryz.func114, Tryz.ntmps114
  go_wp2
  go_loopw [10] (fun i wr => ∃ k : Nat, k ≤ l.length ∧ i = .int .i64 k ∧ (∀ j (hj : j < l.length), j < k → f l[j] = 0) ∧ Below w.heap.size w wr) (fun i _ => l.length - (intOf i).toNat)
  case atStart => exact ⟨0, Nat.zero_le _, rfl, fun j _ h => absurd h (by omega), Below.refl _ _⟩
  case round =>
    obtain ⟨k, hk, rfl, hall, hbl⟩ := hrel
    have HA := veil hall
    clear hall
    have hbs := hbl.size
    by_cases hlt : k < l.length
    · have hkeep : Keeps S S w wr := Keeps.below hbl hS
      obtain ⟨kd, fo, na, va, c0, c1, c2, c3, hcs⟩ := tyAt_cells.1 (HR.out.get k hlt)
      obtain ⟨va1, va2, va3, rfl⟩ := hcs.slice
      have d0 := (hbl.cell (p := ⟨b, off + k * 4, none⟩) hbw).trans c0
      have d1 := (hbl.cell (p := ⟨b, off + k * 4 + 1, none⟩) hbw).trans c1
      have d2 := (hbl.cell (p := ⟨b, off + k * 4 + 2, none⟩) hbw).trans c2
      have d3 := (hbl.cell (p := ⟨b, off + k * 4 + 3, none⟩) hbw).trans c3
      have HC := veil ((hcs.keep hkeep).keep (Keeps.below ((Below.refl wr.heap.size wr).alloc (Nat.le_refl _) (.cells #[.int .i64 kd, .string fo, .string na, .slice va1 va2 va3] 49)) fun b h => Nat.lt_of_lt_of_le (hS b h) hbs))
      clear c0 c1 c2 c3 hcs
      have HL := veil (hbl.alloc hbs (.cells #[.int .i64 kd, .string fo, .string na, .slice va1 va2 va3] 49))
      have cG := HG.out l[k] (List.getElem_mem hlt) _ (.agg #[.int .i64 kd, .string fo, .string na, .slice va1 va2 va3]) HL.out ⟨_, _, _, _, rfl, HC.out⟩
      clear HG HR
      by_cases hz : f l[k] = 0
      · have hz' : (f l[k] != 0) = false := by simp [hz]
        have HN : Hid (∀ j (hj : j < l.length), j < k + 1 → f l[j] = 0) := fun j hj hjk => by
          by_cases e : j = k
          · subst e; exact hz
          · exact HA.out j hj (by omega)
        clear hz
        generalize f l[k] = fk at *
        go_wp2_with (go_at_fn g; refine cG.mono ?_; rintro e w' ⟨rfl, hb'⟩)
        exact ⟨⟨k + 1, by omega, by go_num, HN.out, HL.out.trans (hb'.mono (by simp; omega))⟩, by simp [intOf]; omega⟩
      · have hz' : (f l[k] != 0) = true := by simp [hz]
        have HF := veil (firstBad_at f l k hlt (fun j hj => HA.out j (by omega) hj) hz)
        clear hz
        generalize f l[k] = fk at *
        go_wp2_with (go_at_fn g; refine cG.mono ?_; rintro e w' ⟨rfl, hb'⟩)
        go_ret
        exact ⟨by rw [HF.out]; rfl, HL.out.trans (hb'.mono (by simp; omega))⟩
    · have HF := veil (firstBad_none f l fun j hj => HA.out j hj (by omega))
      clear HG HR eg
      go_wp2
      go_ret
      exact ⟨by rw [HF.out]; rfl, hbl⟩

set_option maxHeartbeats 2000000 in
theorem first_ex (g : Nat) (lb : Array Value) (eg : ∀ args w, (callFunc g args).run Tryz.prog w = .ok (.enter g args) w) (f : Ex → Int) (S : Nat → Prop) (l : List Ex) (v : Value) (w : World) (hS : ∀ b, S b → b < w.heap.size) (hl : SlAt S (ExAt S w) 5 l v)
    (hg : ∀ t ∈ l, ∀ (W : World) (u : Value), Below w.heap.size w W → ExIs S W t u → Calls Tryz.prog g (#[u] ++ lb) W fun e w' => e = .returned (.int .i64 (f t)) ∧ Below W.heap.size W w') :
    Calls Tryz.prog 118 #[v, .func (.func g) #[] lb] w fun e w' => e = .returned (.int .i64 (firstBad f l)) ∧ Below w.heap.size w w' := by
  obtain ⟨a, cap, rfl, ⟨hlen, hlenC⟩, hrow⟩ := hl
  unfold maxLen at hlen
  have HG := veil hg
  clear hg
  rcases hrow with h0 | ⟨b, off, rfl, hb, hrow⟩
  · have hnil : l = [] := List.eq_nil_of_length_eq_zero h0
    subst hnil
    clear HG eg
    go_enter Tryz.func118, Tryz.ntmps118
    go_wp2
    refine wp_loop_rounds 1 ?_
    rw [rounds_succ]
    go_wp2
    go_ret
    exact ⟨rfl, Below.refl _ _⟩
  have hbw := hS b hb
  have HR := veil hrow
  clear hrow
  go_enter Tryz.func118, Tryz.ntmps118
  go_wp2
  go_loopw [10] (fun i wr => ∃ k : Nat, k ≤ l.length ∧ i = .int .i64 k ∧ (∀ j (hj : j < l.length), j < k → f l[j] = 0) ∧ Below w.heap.size w wr) (fun i _ => l.length - (intOf i).toNat)
  case atStart => exact ⟨0, Nat.zero_le _, rfl, fun j _ h => absurd h (by omega), Below.refl _ _⟩
  case round =>
    obtain ⟨k, hk, rfl, hall, hbl⟩ := hrel
    have HA := veil hall
    clear hall
    have hbs := hbl.size
    by_cases hlt : k < l.length
    · have hkeep : Keeps S S w wr := Keeps.below hbl hS
      obtain ⟨kd, nu, fo, na, va, c0, c1, c2, c3, c4, hcs⟩ := exAt_cells.1 (HR.out.get k hlt)
      obtain ⟨va1, va2, va3, rfl⟩ := hcs.slice
      have d0 := (hbl.cell (p := ⟨b, off + k * 5, none⟩) hbw).trans c0
      have d1 := (hbl.cell (p := ⟨b, off + k * 5 + 1, none⟩) hbw).trans c1
      have d2 := (hbl.cell (p := ⟨b, off + k * 5 + 2, none⟩) hbw).trans c2
      have d3 := (hbl.cell (p := ⟨b, off + k * 5 + 3, none⟩) hbw).trans c3
      have d4 := (hbl.cell (p := ⟨b, off + k * 5 + 4, none⟩) hbw).trans c4
      have HC := veil ((hcs.keep hkeep).keep (Keeps.below ((Below.refl wr.heap.size wr).alloc (Nat.le_refl _) (.cells #[.int .i64 kd, .int .i64 nu, .string fo, .string na, .slice va1 va2 va3] 52)) fun b h => Nat.lt_of_lt_of_le (hS b h) hbs))
      clear c0 c1 c2 c3 c4 hcs
      have HL := veil (hbl.alloc hbs (.cells #[.int .i64 kd, .int .i64 nu, .string fo, .string na, .slice va1 va2 va3] 52))
      have cG := HG.out l[k] (List.getElem_mem hlt) _ (.agg #[.int .i64 kd, .int .i64 nu, .string fo, .string na, .slice va1 va2 va3]) HL.out ⟨_, _, _, _, _, rfl, HC.out⟩
      clear HG HR
      by_cases hz : f l[k] = 0
      · have hz' : (f l[k] != 0) = false := by simp [hz]
        have HN : Hid (∀ j (hj : j < l.length), j < k + 1 → f l[j] = 0) := fun j hj hjk => by
          by_cases e : j = k
          · subst e; exact hz
          · exact HA.out j hj (by omega)
        clear hz
        generalize f l[k] = fk at *
        go_wp2_with (go_at_fn g; refine cG.mono ?_; rintro e w' ⟨rfl, hb'⟩)
        exact ⟨⟨k + 1, by omega, by go_num, HN.out, HL.out.trans (hb'.mono (by simp; omega))⟩, by simp [intOf]; omega⟩
      · have hz' : (f l[k] != 0) = true := by simp [hz]
        have HF := veil (firstBad_at f l k hlt (fun j hj => HA.out j (by omega) hj) hz)
        clear hz
        generalize f l[k] = fk at *
        go_wp2_with (go_at_fn g; refine cG.mono ?_; rintro e w' ⟨rfl, hb'⟩)
        go_ret
        exact ⟨by rw [HF.out]; rfl, HL.out.trans (hb'.mono (by simp; omega))⟩
    · have HF := veil (firstBad_none f l fun j hj => HA.out j hj (by omega))
      clear HG HR eg
      go_wp2
      go_ret
      exact ⟨by rw [HF.out]; rfl, hbl⟩

set_option maxHeartbeats 2000000 in
theorem first_fd (g : Nat) (lb : Array Value) (eg : ∀ args w, (callFunc g args).run Tryz.prog w = .ok (.enter g args) w) (f : Fd → Int) (S : Nat → Prop) (l : List Fd) (v : Value) (w : World) (hS : ∀ b, S b → b < w.heap.size) (hl : SlAt S (FdAt S w) 5 l v)
    (hg : ∀ t ∈ l, ∀ (W : World) (u : Value), Below w.heap.size w W → FdIs S W t u → Calls Tryz.prog g (#[u] ++ lb) W fun e w' => e = .returned (.int .i64 (f t)) ∧ Below W.heap.size W w') :
    Calls Tryz.prog 39 #[v, .func (.func g) #[] lb] w fun e w' => e = .returned (.int .i64 (firstBad f l)) ∧ Below w.heap.size w w' := by
  obtain ⟨a, cap, rfl, ⟨hlen, hlenC⟩, hrow⟩ := hl
  unfold maxLen at hlen
  have HG := veil hg
  clear hg
  rcases hrow with h0 | ⟨b, off, rfl, hb, hrow⟩
  · have hnil : l = [] := List.eq_nil_of_length_eq_zero h0
    subst hnil
    clear HG eg
    go_enter Tryz.func39, Tryz.ntmps39
    go_wp2
    refine wp_loop_rounds 1 ?_
    rw [rounds_succ]
    go_wp2
    go_ret
    exact ⟨rfl, Below.refl _ _⟩
  have hbw := hS b hb
  have HR := veil hrow
  clear hrow
  go_enter Tryz.func39, Tryz.ntmps39
  go_wp2
  go_loopw [10] (fun i wr => ∃ k : Nat, k ≤ l.length ∧ i = .int .i64 k ∧ (∀ j (hj : j < l.length), j < k → f l[j] = 0) ∧ Below w.heap.size w wr) (fun i _ => l.length - (intOf i).toNat)
  case atStart => exact ⟨0, Nat.zero_le _, rfl, fun j _ h => absurd h (by omega), Below.refl _ _⟩
  case round =>
    obtain ⟨k, hk, rfl, hall, hbl⟩ := hrel
    have HA := veil hall
    clear hall
    have hbs := hbl.size
    by_cases hlt : k < l.length
    · have hkeep : Keeps S S w wr := Keeps.below hbl hS
      obtain ⟨⟨c0, hsz⟩, hty⟩ := HR.out.get k hlt
      obtain ⟨kd, fo, na, va, c1, c2, c3, c4, hcs⟩ := tyAt_cells.1 hty
      obtain ⟨va1, va2, va3, rfl⟩ := hcs.slice
      rw [Nat.add_assoc] at c2 c3 c4
      have d0 := (hbl.cell (p := ⟨b, off + k * 5, none⟩) hbw).trans c0
      have d1 := (hbl.cell (p := ⟨b, off + k * 5 + 1, none⟩) hbw).trans c1
      have d2 := (hbl.cell (p := ⟨b, off + k * 5 + 2, none⟩) hbw).trans c2
      have d3 := (hbl.cell (p := ⟨b, off + k * 5 + 3, none⟩) hbw).trans c3
      have d4 := (hbl.cell (p := ⟨b, off + k * 5 + 4, none⟩) hbw).trans c4
      have HC := veil ((hcs.keep hkeep).keep (Keeps.below ((Below.refl wr.heap.size wr).alloc (Nat.le_refl _) (.cells #[.string l[k].name, .int .i64 kd, .string fo, .string na, .slice va1 va2 va3] 63)) fun b h => Nat.lt_of_lt_of_le (hS b h) hbs))
      clear c0 c1 c2 c3 c4 hcs hty
      have HL := veil (hbl.alloc hbs (.cells #[.string l[k].name, .int .i64 kd, .string fo, .string na, .slice va1 va2 va3] 63))
      have cG := HG.out l[k] (List.getElem_mem hlt) _ (.agg #[.string l[k].name, .int .i64 kd, .string fo, .string na, .slice va1 va2 va3]) HL.out ⟨_, _, _, _, rfl, hsz, HC.out⟩
      clear HG HR
      by_cases hz : f l[k] = 0
      · have hz' : (f l[k] != 0) = false := by simp [hz]
        have HN : Hid (∀ j (hj : j < l.length), j < k + 1 → f l[j] = 0) := fun j hj hjk => by
          by_cases e : j = k
          · subst e; exact hz
          · exact HA.out j hj (by omega)
        clear hz
        generalize f l[k] = fk at *
        go_wp2_with (go_at_fn g; refine cG.mono ?_; rintro e w' ⟨rfl, hb'⟩)
        exact ⟨⟨k + 1, by omega, by go_num, HN.out, HL.out.trans (hb'.mono (by simp; omega))⟩, by simp [intOf]; omega⟩
      · have hz' : (f l[k] != 0) = true := by simp [hz]
        have HF := veil (firstBad_at f l k hlt (fun j hj => HA.out j (by omega) hj) hz)
        clear hz
        generalize f l[k] = fk at *
        go_wp2_with (go_at_fn g; refine cG.mono ?_; rintro e w' ⟨rfl, hb'⟩)
        go_ret
        exact ⟨by rw [HF.out]; rfl, HL.out.trans (hb'.mono (by simp; omega))⟩
    · have HF := veil (firstBad_none f l fun j hj => HA.out j hj (by omega))
      clear HG HR eg
      go_wp2
      go_ret
      exact ⟨by rw [HF.out]; rfl, hbl⟩

set_option maxHeartbeats 2000000 in
theorem first_fu (g : Nat) (lb : Array Value) (eg : ∀ args w, (callFunc g args).run Tryz.prog w = .ok (.enter g args) w) (f : Fu → Int) (S : Nat → Prop) (l : List Fu) (v : Value) (w : World) (hS : ∀ b, S b → b < w.heap.size) (hl : SlAt S (FuAt S w) 12 l v)
    (hg : ∀ t ∈ l, ∀ (W : World) (u : Value), Below w.heap.size w W → FuIs S W t u → Calls Tryz.prog g (#[u] ++ lb) W fun e w' => e = .returned (.int .i64 (f t)) ∧ Below W.heap.size W w') :
    Calls Tryz.prog 41 #[v, .func (.func g) #[] lb] w fun e w' => e = .returned (.int .i64 (firstBad f l)) ∧ Below w.heap.size w w' := by
  obtain ⟨a, cap, rfl, ⟨hlen, hlenC⟩, hrow⟩ := hl
  unfold maxLen at hlen
  have HG := veil hg
  clear hg
  rcases hrow with h0 | ⟨b, off, rfl, hb, hrow⟩
  · have hnil : l = [] := List.eq_nil_of_length_eq_zero h0
    subst hnil
    clear HG eg
    go_enter Tryz.func41, Tryz.ntmps41
    go_wp2
    refine wp_loop_rounds 1 ?_
    rw [rounds_succ]
    go_wp2
    go_ret
    exact ⟨rfl, Below.refl _ _⟩
  have hbw := hS b hb
  have HR := veil hrow
  clear hrow
  go_enter Tryz.func41, Tryz.ntmps41
  go_wp2
  go_loopw [10] (fun i wr => ∃ k : Nat, k ≤ l.length ∧ i = .int .i64 k ∧ (∀ j (hj : j < l.length), j < k → f l[j] = 0) ∧ Below w.heap.size w wr) (fun i _ => l.length - (intOf i).toNat)
  case atStart => exact ⟨0, Nat.zero_le _, rfl, fun j _ h => absurd h (by omega), Below.refl _ _⟩
  case round =>
    obtain ⟨k, hk, rfl, hall, hbl⟩ := hrel
    have HA := veil hall
    clear hall
    have hbs := hbl.size
    by_cases hlt : k < l.length
    · have hkeep : Keeps S S w wr := Keeps.below hbl hS
      obtain ⟨⟨c0, hsz⟩, ⟨c1, hsz1⟩, ⟨vp, c2, hps⟩, hty, hex⟩ := HR.out.get k hlt
      obtain ⟨kd, fo, na, va, c3, c4, c5, c6, hcs⟩ := tyAt_cells.1 hty
      obtain ⟨ke, ne, fe, se, ve, c7, c8, c9, c10, c11, hce⟩ := exAt_cells.1 hex
      obtain ⟨va1, va2, va3, rfl⟩ := hcs.slice
      obtain ⟨vp1, vp2, vp3, rfl⟩ := hps.slice
      obtain ⟨ve1, ve2, ve3, rfl⟩ := hce.slice
      rw [Nat.add_assoc] at c4 c5 c6 c8 c9 c10 c11
      have d0 := (hbl.cell (p := ⟨b, off + k * 12, none⟩) hbw).trans c0
      have d1 := (hbl.cell (p := ⟨b, off + k * 12 + 1, none⟩) hbw).trans c1
      have d2 := (hbl.cell (p := ⟨b, off + k * 12 + 2, none⟩) hbw).trans c2
      have d3 := (hbl.cell (p := ⟨b, off + k * 12 + 3, none⟩) hbw).trans c3
      have d4 := (hbl.cell (p := ⟨b, off + k * 12 + 4, none⟩) hbw).trans c4
      have d5 := (hbl.cell (p := ⟨b, off + k * 12 + 5, none⟩) hbw).trans c5
      have d6 := (hbl.cell (p := ⟨b, off + k * 12 + 6, none⟩) hbw).trans c6
      have d7 := (hbl.cell (p := ⟨b, off + k * 12 + 7, none⟩) hbw).trans c7
      have d8 := (hbl.cell (p := ⟨b, off + k * 12 + 8, none⟩) hbw).trans c8
      have d9 := (hbl.cell (p := ⟨b, off + k * 12 + 9, none⟩) hbw).trans c9
      have d10 := (hbl.cell (p := ⟨b, off + k * 12 + 10, none⟩) hbw).trans c10
      have d11 := (hbl.cell (p := ⟨b, off + k * 12 + 11, none⟩) hbw).trans c11
      have hk2 : Keeps S S wr (wr.alloc (.cells #[.string l[k].name, .string l[k].var, .slice vp1 vp2 vp3, .int .i64 kd, .string fo, .string na, .slice va1 va2 va3, .int .i64 ke, .int .i64 ne, .string fe, .string se, .slice ve1 ve2 ve3] 54)) := Keeps.below ((Below.refl wr.heap.size wr).alloc (Nat.le_refl _) _) fun b h => Nat.lt_of_lt_of_le (hS b h) hbs
      have HC := veil ((hcs.keep hkeep).keep hk2)
      have HC2 := veil ((hce.keep hkeep).keep hk2)
      have HC3 := veil (fdSl_keep hk2 (fdSl_keep hkeep hps))
      clear c0 c1 c2 c3 c4 c5 c6 c7 c8 c9 c10 c11 hcs hty hps hce hex hk2
      have HL := veil (hbl.alloc hbs (.cells #[.string l[k].name, .string l[k].var, .slice vp1 vp2 vp3, .int .i64 kd, .string fo, .string na, .slice va1 va2 va3, .int .i64 ke, .int .i64 ne, .string fe, .string se, .slice ve1 ve2 ve3] 54))
      have cG := HG.out l[k] (List.getElem_mem hlt) _ (.agg #[.string l[k].name, .string l[k].var, .slice vp1 vp2 vp3, .int .i64 kd, .string fo, .string na, .slice va1 va2 va3, .int .i64 ke, .int .i64 ne, .string fe, .string se, .slice ve1 ve2 ve3]) HL.out ⟨_, _, _, _, _, _, _, _, _, _, rfl, hsz, hsz1, HC3.out, HC.out, HC2.out⟩
      clear HG HR
      by_cases hz : f l[k] = 0
      · have hz' : (f l[k] != 0) = false := by simp [hz]
        have HN : Hid (∀ j (hj : j < l.length), j < k + 1 → f l[j] = 0) := fun j hj hjk => by
          by_cases e : j = k
          · subst e; exact hz
          · exact HA.out j hj (by omega)
        clear hz
        generalize f l[k] = fk at *
        go_wp2_with (go_at_fn g; refine cG.mono ?_; rintro e w' ⟨rfl, hb'⟩)
        exact ⟨⟨k + 1, by omega, by go_num, HN.out, HL.out.trans (hb'.mono (by simp; omega))⟩, by simp [intOf]; omega⟩
      · have hz' : (f l[k] != 0) = true := by simp [hz]
        have HF := veil (firstBad_at f l k hlt (fun j hj => HA.out j (by omega) hj) hz)
        clear hz
        generalize f l[k] = fk at *
        go_wp2_with (go_at_fn g; refine cG.mono ?_; rintro e w' ⟨rfl, hb'⟩)
        go_ret
        exact ⟨by rw [HF.out]; rfl, HL.out.trans (hb'.mono (by simp; omega))⟩
    · have HF := veil (firstBad_none f l fun j hj => HA.out j hj (by omega))
      clear HG HR eg
      go_wp2
      go_ret
      exact ⟨by rw [HF.out]; rfl, hbl⟩

set_option maxHeartbeats 2000000 in
theorem first_str (g : Nat) (lb : Array Value) (eg : ∀ args w, (callFunc g args).run Tryz.prog w = .ok (.enter g args) w) (f : ByteArray → Int) (S : Nat → Prop) (l : List ByteArray) (v : Value) (w : World) (hS : ∀ b, S b → b < w.heap.size) (hl : SlAt S (StrAt w) 1 l v)
    (hg : ∀ t ∈ l, ∀ (W : World) (u : Value), Below w.heap.size w W → StrIs t u → Calls Tryz.prog g (#[u] ++ lb) W fun e w' => e = .returned (.int .i64 (f t)) ∧ Below W.heap.size W w') :
    Calls Tryz.prog 37 #[v, .func (.func g) #[] lb] w fun e w' => e = .returned (.int .i64 (firstBad f l)) ∧ Below w.heap.size w w' := by
  obtain ⟨a, cap, rfl, ⟨hlen, hlenC⟩, hrow⟩ := hl
  unfold maxLen at hlen
  have HG := veil hg
  clear hg
  rcases hrow with h0 | ⟨b, off, rfl, hb, hrow⟩
  · have hnil : l = [] := List.eq_nil_of_length_eq_zero h0
    subst hnil
    clear HG eg
    go_enter Tryz.func37, Tryz.ntmps37
    go_wp2
    refine wp_loop_rounds 1 ?_
    rw [rounds_succ]
    go_wp2
    go_ret
    exact ⟨rfl, Below.refl _ _⟩
  have hbw := hS b hb
  have HR := veil hrow
  clear hrow
  go_enter Tryz.func37, Tryz.ntmps37
  go_wp2
  go_loopw [10] (fun i wr => ∃ k : Nat, k ≤ l.length ∧ i = .int .i64 k ∧ (∀ j (hj : j < l.length), j < k → f l[j] = 0) ∧ Below w.heap.size w wr) (fun i _ => l.length - (intOf i).toNat)
  case atStart => exact ⟨0, Nat.zero_le _, rfl, fun j _ h => absurd h (by omega), Below.refl _ _⟩
  case round =>
    obtain ⟨k, hk, rfl, hall, hbl⟩ := hrel
    have HA := veil hall
    clear hall
    have hbs := hbl.size
    by_cases hlt : k < l.length
    · obtain ⟨c0, hsz⟩ := HR.out.get k hlt
      rw [Nat.mul_one] at c0
      have d0 := (hbl.cell (p := ⟨b, off + k, none⟩) hbw).trans c0
      clear c0
      have cG := HG.out l[k] (List.getElem_mem hlt) _ (.string l[k]) hbl ⟨rfl, hsz⟩
      clear HG HR
      by_cases hz : f l[k] = 0
      · have hz' : (f l[k] != 0) = false := by simp [hz]
        have HN : Hid (∀ j (hj : j < l.length), j < k + 1 → f l[j] = 0) := fun j hj hjk => by
          by_cases e : j = k
          · subst e; exact hz
          · exact HA.out j hj (by omega)
        clear hz
        generalize f l[k] = fk at *
        go_wp2_with (go_at_fn g; refine cG.mono ?_; rintro e w' ⟨rfl, hb'⟩)
        exact ⟨⟨k + 1, by omega, by go_num, HN.out, hbl.trans (hb'.mono (by omega))⟩, by simp [intOf]; omega⟩
      · have hz' : (f l[k] != 0) = true := by simp [hz]
        have HF := veil (firstBad_at f l k hlt (fun j hj => HA.out j (by omega) hj) hz)
        clear hz
        generalize f l[k] = fk at *
        go_wp2_with (go_at_fn g; refine cG.mono ?_; rintro e w' ⟨rfl, hb'⟩)
        go_ret
        exact ⟨by rw [HF.out]; rfl, hbl.trans (hb'.mono (by omega))⟩
    · have HF := veil (firstBad_none f l fun j hj => HA.out j hj (by omega))
      clear HG HR eg
      go_wp2
      go_ret
      exact ⟨by rw [HF.out]; rfl, hbl⟩

end Go.Proofs.YtpamadnckijfkabGreatDoor
