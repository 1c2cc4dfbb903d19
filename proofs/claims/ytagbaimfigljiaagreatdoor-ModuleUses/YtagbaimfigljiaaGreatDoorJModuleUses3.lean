import Derived.Test.YtagbaimfigljiaaGreatDoorJModuleUses2
namespace Go.Proofs.YtagbaimfigljiaaGreatDoor
open Go.RowKit
set_option maxRecDepth 100000

def StrIs (s : ByteArray) (v : Value) : Prop := v = .string s ∧ s.size ≤ maxLen

set_option maxHeartbeats 2000000 in
theorem first_ty (g : Nat) (lb : Array Value) (eg : ∀ args w, (callFunc g args).run Tryz.prog w = .ok (.enter g args) w) (f : Ty → Int) (S : Nat → Prop) (l : List Ty) (v : Value) (w : World) (hS : ∀ b, S b → b < w.heap.size) (hl : SlAt S (TyAt S w) 4 l v)
    (hg : ∀ t ∈ l, ∀ (W : World) (u : Value), Below w.heap.size w W → TyIs S W t u → Calls Tryz.prog g (#[u] ++ lb) W fun e w' => e = .returned (.int .i64 (f t)) ∧ Below W.heap.size W w') :
    Calls Tryz.prog 243 #[v, .func (.func g) #[] lb] w fun e w' => e = .returned (.int .i64 (firstBad f l)) ∧ Below w.heap.size w w' := by
  obtain ⟨a, cap, rfl, ⟨hlen, hlenC⟩, hrow⟩ := hl
  unfold maxLen at hlen
  have HG := veil hg
  clear hg
  rcases hrow with h0 | ⟨b, off, rfl, hb, hrow⟩
  · have hnil : l = [] := List.eq_nil_of_length_eq_zero h0
    subst hnil
    clear HG eg
    go_enter Tryz.func243, Tryz.ntmps243
    go_wp2
    refine wp_loop_rounds 1 ?_
    rw [rounds_succ]
    go_wp2
    go_ret
    exact ⟨rfl, Below.refl _ _⟩
  have hbw := hS b hb
  have HR := veil hrow
  clear hrow
  go_enter Tryz.func243, Tryz.ntmps243
  go_wp2
  go_loopw [10] (fun i wr => ∃ k : Nat, k ≤ l.length ∧ i = .int .i64 k ∧ (∀ j (hj : j < l.length), j < k → f l[j] = 0) ∧ Below w.heap.size w wr) (fun i _ => l.length - (intOf i).toNat)
  case atStart => exact ⟨0, Nat.zero_le _, rfl, fun j _ h => absurd h (by omega), Below.refl _ _⟩
  case round =>
    obtain ⟨k, hk, rfl, hall, hbl⟩ := hrel
    have HA := veil hall
    clear hall
    have hbs := hbl.size
    by_cases hlt : k < l.length
    · have hkeep : Keeps S S w wr := Keeps.below hbl hS
      obtain ⟨kd, fo, na, va, c0, c1, c2, c3, hcs⟩ := tyAt_cells.1 (HR.out.get k hlt)
      obtain ⟨va1, va2, va3, rfl⟩ := hcs.slice
      have d0 := (hbl.cell (p := ⟨b, off + k * 4, none⟩) hbw).trans c0
      have d1 := (hbl.cell (p := ⟨b, off + k * 4 + 1, none⟩) hbw).trans c1
      have d2 := (hbl.cell (p := ⟨b, off + k * 4 + 2, none⟩) hbw).trans c2
      have d3 := (hbl.cell (p := ⟨b, off + k * 4 + 3, none⟩) hbw).trans c3
      have HC := veil ((hcs.keep hkeep).keep (Keeps.below ((Below.refl wr.heap.size wr).alloc (Nat.le_refl _) (.cells #[.int .i64 kd, .string fo, .string na, .slice va1 va2 va3] 84)) fun b h => Nat.lt_of_lt_of_le (hS b h) hbs))
      clear c0 c1 c2 c3 hcs
      have HL := veil (hbl.alloc hbs (.cells #[.int .i64 kd, .string fo, .string na, .slice va1 va2 va3] 84))
      have cG := HG.out l[k] (List.getElem_mem hlt) _ (.agg #[.int .i64 kd, .string fo, .string na, .slice va1 va2 va3]) HL.out ⟨_, _, _, _, rfl, HC.out⟩
      clear HG HR
      by_cases hz : f l[k] = 0
      · have hz' : (f l[k] != 0) = false := by simp [hz]
        have HN : Hid (∀ j (hj : j < l.length), j < k + 1 → f l[j] = 0) := fun j hj hjk => by
          by_cases e : j = k
          · subst e; exact hz
          · exact HA.out j hj (by omega)
        clear hz
        generalize f l[k] = fk at *
        go_wp2_with (go_at_fn g; refine cG.mono ?_; rintro e w' ⟨rfl, hb'⟩)
        exact ⟨⟨k + 1, by omega, by go_num, HN.out, HL.out.trans (hb'.mono (by simp; omega))⟩, by simp [intOf]; omega⟩
      · have hz' : (f l[k] != 0) = true := by simp [hz]
        have HF := veil (firstBad_at f l k hlt (fun j hj => HA.out j (by omega) hj) hz)
        clear hz
        generalize f l[k] = fk at *
        go_wp2_with (go_at_fn g; refine cG.mono ?_; rintro e w' ⟨rfl, hb'⟩)
        go_ret
        exact ⟨by rw [HF.out]; rfl, HL.out.trans (hb'.mono (by simp; omega))⟩
    · have HF := veil (firstBad_none f l fun j hj => HA.out j hj (by omega))
      clear HG HR eg
      go_wp2
      go_ret
      exact ⟨by rw [HF.out]; rfl, hbl⟩

set_option maxHeartbeats 2000000 in
theorem first_ex (g : Nat) (lb : Array Value) (eg : ∀ args w, (callFunc g args).run Tryz.prog w = .ok (.enter g args) w) (f : Ex → Int) (S : Nat → Prop) (l : List Ex) (v : Value) (w : World) (hS : ∀ b, S b → b < w.heap.size) (hl : SlAt S (ExAt S w) 5 l v)
    (hg : ∀ t ∈ l, ∀ (W : World) (u : Value), Below w.heap.size w W → ExIs S W t u → Calls Tryz.prog g (#[u] ++ lb) W fun e w' => e = .returned (.int .i64 (f t)) ∧ Below W.heap.size W w') :
    Calls Tryz.prog 247 #[v, .func (.func g) #[] lb] w fun e w' => e = .returned (.int .i64 (firstBad f l)) ∧ Below w.heap.size w w' := by
  obtain ⟨a, cap, rfl, ⟨hlen, hlenC⟩, hrow⟩ := hl
  unfold maxLen at hlen
  have HG := veil hg
  clear hg
  rcases hrow with h0 | ⟨b, off, rfl, hb, hrow⟩
  · have hnil : l = [] := List.eq_nil_of_length_eq_zero h0
    subst hnil
    clear HG eg
    go_enter Tryz.func247, Tryz.ntmps247
    go_wp2
    refine wp_loop_rounds 1 ?_
    rw [rounds_succ]
    go_wp2
    go_ret
    exact ⟨rfl, Below.refl _ _⟩
  have hbw := hS b hb
  have HR := veil hrow
  clear hrow
  go_enter Tryz.func247, Tryz.ntmps247
  go_wp2
  go_loopw [10] (fun i wr => ∃ k : Nat, k ≤ l.length ∧ i = .int .i64 k ∧ (∀ j (hj : j < l.length), j < k → f l[j] = 0) ∧ Below w.heap.size w wr) (fun i _ => l.length - (intOf i).toNat)
  case atStart => exact ⟨0, Nat.zero_le _, rfl, fun j _ h => absurd h (by omega), Below.refl _ _⟩
  case round =>
    obtain ⟨k, hk, rfl, hall, hbl⟩ := hrel
    have HA := veil hall
    clear hall
    have hbs := hbl.size
    by_cases hlt : k < l.length
    · have hkeep : Keeps S S w wr := Keeps.below hbl hS
      obtain ⟨kd, nu, fo, na, va, c0, c1, c2, c3, c4, hcs⟩ := exAt_cells.1 (HR.out.get k hlt)
      obtain ⟨va1, va2, va3, rfl⟩ := hcs.slice
      have d0 := (hbl.cell (p := ⟨b, off + k * 5, none⟩) hbw).trans c0
      have d1 := (hbl.cell (p := ⟨b, off + k * 5 + 1, none⟩) hbw).trans c1
      have d2 := (hbl.cell (p := ⟨b, off + k * 5 + 2, none⟩) hbw).trans c2
      have d3 := (hbl.cell (p := ⟨b, off + k * 5 + 3, none⟩) hbw).trans c3
      have d4 := (hbl.cell (p := ⟨b, off + k * 5 + 4, none⟩) hbw).trans c4
      have HC := veil ((hcs.keep hkeep).keep (Keeps.below ((Below.refl wr.heap.size wr).alloc (Nat.le_refl _) (.cells #[.int .i64 kd, .int .i64 nu, .string fo, .string na, .slice va1 va2 va3] 87)) fun b h => Nat.lt_of_lt_of_le (hS b h) hbs))
      clear c0 c1 c2 c3 c4 hcs
      have HL := veil (hbl.alloc hbs (.cells #[.int .i64 kd, .int .i64 nu, .string fo, .string na, .slice va1 va2 va3] 87))
      have cG := HG.out l[k] (List.getElem_mem hlt) _ (.agg #[.int .i64 kd, .int .i64 nu, .string fo, .string na, .slice va1 va2 va3]) HL.out ⟨_, _, _, _, _, rfl, HC.out⟩
      clear HG HR
      by_cases hz : f l[k] = 0
      · have hz' : (f l[k] != 0) = false := by simp [hz]
        have HN : Hid (∀ j (hj : j < l.length), j < k + 1 → f l[j] = 0) := fun j hj hjk => by
          by_cases e : j = k
          · subst e; exact hz
          · exact HA.out j hj (by omega)
        clear hz
        generalize f l[k] = fk at *
        go_wp2_with (go_at_fn g; refine cG.mono ?_; rintro e w' ⟨rfl, hb'⟩)
        exact ⟨⟨k + 1, by omega, by go_num, HN.out, HL.out.trans (hb'.mono (by simp; omega))⟩, by simp [intOf]; omega⟩
      · have hz' : (f l[k] != 0) = true := by simp [hz]
        have HF := veil (firstBad_at f l k hlt (fun j hj => HA.out j (by omega) hj) hz)
        clear hz
        generalize f l[k] = fk at *
        go_wp2_with (go_at_fn g; refine cG.mono ?_; rintro e w' ⟨rfl, hb'⟩)
        go_ret
        exact ⟨by rw [HF.out]; rfl, HL.out.trans (hb'.mono (by simp; omega))⟩
    · have HF := veil (firstBad_none f l fun j hj => HA.out j hj (by omega))
      clear HG HR eg
      go_wp2
      go_ret
      exact ⟨by rw [HF.out]; rfl, hbl⟩

set_option maxHeartbeats 2000000 in
theorem first_fd (g : Nat) (lb : Array Value) (eg : ∀ args w, (callFunc g args).run Tryz.prog w = .ok (.enter g args) w) (f : Fd → Int) (S : Nat → Prop) (l : List Fd) (v : Value) (w : World) (hS : ∀ b, S b → b < w.heap.size) (hl : SlAt S (FdAt S w) 5 l v)
    (hg : ∀ t ∈ l, ∀ (W : World) (u : Value), Below w.heap.size w W → FdIs S W t u → Calls Tryz.prog g (#[u] ++ lb) W fun e w' => e = .returned (.int .i64 (f t)) ∧ Below W.heap.size W w') :
    Calls Tryz.prog 97 #[v, .func (.func g) #[] lb] w fun e w' => e = .returned (.int .i64 (firstBad f l)) ∧ Below w.heap.size w w' := by
  obtain ⟨a, cap, rfl, ⟨hlen, hlenC⟩, hrow⟩ := hl
  unfold maxLen at hlen
  have HG := veil hg
  clear hg
  rcases hrow with h0 | ⟨b, off, rfl, hb, hrow⟩
  · have hnil : l = [] := List.eq_nil_of_length_eq_zero h0
    subst hnil
    clear HG eg
    go_enter Tryz.func97, Tryz.ntmps97
    go_wp2
    refine wp_loop_rounds 1 ?_
    rw [rounds_succ]
    go_wp2
    go_ret
    exact ⟨rfl, Below.refl _ _⟩
  have hbw := hS b hb
  have HR := veil hrow
  clear hrow
  go_enter Tryz.func97, Tryz.ntmps97
  go_wp2
  go_loopw [10] (fun i wr => ∃ k : Nat, k ≤ l.length ∧ i = .int .i64 k ∧ (∀ j (hj : j < l.length), j < k → f l[j] = 0) ∧ Below w.heap.size w wr) (fun i _ => l.length - (intOf i).toNat)
  case atStart => exact ⟨0, Nat.zero_le _, rfl, fun j _ h => absurd h (by omega), Below.refl _ _⟩
  case round =>
    obtain ⟨k, hk, rfl, hall, hbl⟩ := hrel
    have HA := veil hall
    clear hall
    have hbs := hbl.size
    by_cases hlt : k < l.length
    · have hkeep : Keeps S S w wr := Keeps.below hbl hS
      obtain ⟨⟨c0, hsz⟩, hty⟩ := HR.out.get k hlt
      obtain ⟨kd, fo, na, va, c1, c2, c3, c4, hcs⟩ := tyAt_cells.1 hty
      obtain ⟨va1, va2, va3, rfl⟩ := hcs.slice
      rw [Nat.add_assoc] at c2 c3 c4
      have d0 := (hbl.cell (p := ⟨b, off + k * 5, none⟩) hbw).trans c0
      have d1 := (hbl.cell (p := ⟨b, off + k * 5 + 1, none⟩) hbw).trans c1
      have d2 := (hbl.cell (p := ⟨b, off + k * 5 + 2, none⟩) hbw).trans c2
      have d3 := (hbl.cell (p := ⟨b, off + k * 5 + 3, none⟩) hbw).trans c3
      have d4 := (hbl.cell (p := ⟨b, off + k * 5 + 4, none⟩) hbw).trans c4
      have HC := veil ((hcs.keep hkeep).keep (Keeps.below ((Below.refl wr.heap.size wr).alloc (Nat.le_refl _) (.cells #[.string l[k].name, .int .i64 kd, .string fo, .string na, .slice va1 va2 va3] 101)) fun b h => Nat.lt_of_lt_of_le (hS b h) hbs))
      clear c0 c1 c2 c3 c4 hcs hty
      have HL := veil (hbl.alloc hbs (.cells #[.string l[k].name, .int .i64 kd, .string fo, .string na, .slice va1 va2 va3] 101))
      have cG := HG.out l[k] (List.getElem_mem hlt) _ (.agg #[.string l[k].name, .int .i64 kd, .string fo, .string na, .slice va1 va2 va3]) HL.out ⟨_, _, _, _, rfl, hsz, HC.out⟩
      clear HG HR
      by_cases hz : f l[k] = 0
      · have hz' : (f l[k] != 0) = false := by simp [hz]
        have HN : Hid (∀ j (hj : j < l.length), j < k + 1 → f l[j] = 0) := fun j hj hjk => by
          by_cases e : j = k
          · subst e; exact hz
          · exact HA.out j hj (by omega)
        clear hz
        generalize f l[k] = fk at *
        go_wp2_with (go_at_fn g; refine cG.mono ?_; rintro e w' ⟨rfl, hb'⟩)
        exact ⟨⟨k + 1, by omega, by go_num, HN.out, HL.out.trans (hb'.mono (by simp; omega))⟩, by simp [intOf]; omega⟩
      · have hz' : (f l[k] != 0) = true := by simp [hz]
        have HF := veil (firstBad_at f l k hlt (fun j hj => HA.out j (by omega) hj) hz)
        clear hz
        generalize f l[k] = fk at *
        go_wp2_with (go_at_fn g; refine cG.mono ?_; rintro e w' ⟨rfl, hb'⟩)
        go_ret
        exact ⟨by rw [HF.out]; rfl, HL.out.trans (hb'.mono (by simp; omega))⟩
    · have HF := veil (firstBad_none f l fun j hj => HA.out j hj (by omega))
      clear HG HR eg
      go_wp2
      go_ret
      exact ⟨by rw [HF.out]; rfl, hbl⟩

set_option maxHeartbeats 2000000 in
theorem first_fu (g : Nat) (lb : Array Value) (eg : ∀ args w, (callFunc g args).run Tryz.prog w = .ok (.enter g args) w) (f : Fu → Int) (S : Nat → Prop) (l : List Fu) (v : Value) (w : World) (hS : ∀ b, S b → b < w.heap.size) (hl : SlAt S (FuAt S w) 12 l v)
    (hg : ∀ t ∈ l, ∀ (W : World) (u : Value), Below w.heap.size w W → FuIs S W t u → Calls Tryz.prog g (#[u] ++ lb) W fun e w' => e = .returned (.int .i64 (f t)) ∧ Below W.heap.size W w') :
    Calls Tryz.prog 99 #[v, .func (.func g) #[] lb] w fun e w' => e = .returned (.int .i64 (firstBad f l)) ∧ Below w.heap.size w w' := by
  obtain ⟨a, cap, rfl, ⟨hlen, hlenC⟩, hrow⟩ := hl
  unfold maxLen at hlen
  have HG := veil hg
  clear hg
  rcases hrow with h0 | ⟨b, off, rfl, hb, hrow⟩
  · have hnil : l = [] := List.eq_nil_of_length_eq_zero h0
    subst hnil
    clear HG eg
    go_enter Tryz.func99, Tryz.ntmps99
    go_wp2
    refine wp_loop_rounds 1 ?_
    rw [rounds_succ]
    go_wp2
    go_ret
    exact ⟨rfl, Below.refl _ _⟩
  have hbw := hS b hb
  have HR := veil hrow
  clear hrow
  go_enter Tryz.func99, Tryz.ntmps99
  go_wp2
  go_loopw [10] (fun i wr => ∃ k : Nat, k ≤ l.length ∧ i = .int .i64 k ∧ (∀ j (hj : j < l.length), j < k → f l[j] = 0) ∧ Below w.heap.size w wr) (fun i _ => l.length - (intOf i).toNat)
  case atStart => exact ⟨0, Nat.zero_le _, rfl, fun j _ h => absurd h (by omega), Below.refl _ _⟩
  case round =>
    obtain ⟨k, hk, rfl, hall, hbl⟩ := hrel
    have HA := veil hall
    clear hall
    have hbs := hbl.size
    by_cases hlt : k < l.length
    · have hkeep : Keeps S S w wr := Keeps.below hbl hS
      obtain ⟨⟨c0, hsz⟩, ⟨c1, hsz1⟩, ⟨vp, c2, hps⟩, hty, hex⟩ := HR.out.get k hlt
      obtain ⟨kd, fo, na, va, c3, c4, c5, c6, hcs⟩ := tyAt_cells.1 hty
      obtain ⟨ke, ne, fe, se, ve, c7, c8, c9, c10, c11, hce⟩ := exAt_cells.1 hex
      obtain ⟨va1, va2, va3, rfl⟩ := hcs.slice
      obtain ⟨vp1, vp2, vp3, rfl⟩ := hps.slice
      obtain ⟨ve1, ve2, ve3, rfl⟩ := hce.slice
      rw [Nat.add_assoc] at c4 c5 c6 c8 c9 c10 c11
      have d0 := (hbl.cell (p := ⟨b, off + k * 12, none⟩) hbw).trans c0
      have d1 := (hbl.cell (p := ⟨b, off + k * 12 + 1, none⟩) hbw).trans c1
      have d2 := (hbl.cell (p := ⟨b, off + k * 12 + 2, none⟩) hbw).trans c2
      have d3 := (hbl.cell (p := ⟨b, off + k * 12 + 3, none⟩) hbw).trans c3
      have d4 := (hbl.cell (p := ⟨b, off + k * 12 + 4, none⟩) hbw).trans c4
      have d5 := (hbl.cell (p := ⟨b, off + k * 12 + 5, none⟩) hbw).trans c5
      have d6 := (hbl.cell (p := ⟨b, off + k * 12 + 6, none⟩) hbw).trans c6
      have d7 := (hbl.cell (p := ⟨b, off + k * 12 + 7, none⟩) hbw).trans c7
      have d8 := (hbl.cell (p := ⟨b, off + k * 12 + 8, none⟩) hbw).trans c8
      have d9 := (hbl.cell (p := ⟨b, off + k * 12 + 9, none⟩) hbw).trans c9
      have d10 := (hbl.cell (p := ⟨b, off + k * 12 + 10, none⟩) hbw).trans c10
      have d11 := (hbl.cell (p := ⟨b, off + k * 12 + 11, none⟩) hbw).trans c11
      have hk2 : Keeps S S wr (wr.alloc (.cells #[.string l[k].name, .string l[k].var, .slice vp1 vp2 vp3, .int .i64 kd, .string fo, .string na, .slice va1 va2 va3, .int .i64 ke, .int .i64 ne, .string fe, .string se, .slice ve1 ve2 ve3] 89)) := Keeps.below ((Below.refl wr.heap.size wr).alloc (Nat.le_refl _) _) fun b h => Nat.lt_of_lt_of_le (hS b h) hbs
      have HC := veil ((hcs.keep hkeep).keep hk2)
      have HC2 := veil ((hce.keep hkeep).keep hk2)
      have HC3 := veil (fdSl_keep hk2 (fdSl_keep hkeep hps))
      clear c0 c1 c2 c3 c4 c5 c6 c7 c8 c9 c10 c11 hcs hty hps hce hex hk2
      have HL := veil (hbl.alloc hbs (.cells #[.string l[k].name, .string l[k].var, .slice vp1 vp2 vp3, .int .i64 kd, .string fo, .string na, .slice va1 va2 va3, .int .i64 ke, .int .i64 ne, .string fe, .string se, .slice ve1 ve2 ve3] 89))
      have cG := HG.out l[k] (List.getElem_mem hlt) _ (.agg #[.string l[k].name, .string l[k].var, .slice vp1 vp2 vp3, .int .i64 kd, .string fo, .string na, .slice va1 va2 va3, .int .i64 ke, .int .i64 ne, .string fe, .string se, .slice ve1 ve2 ve3]) HL.out ⟨_, _, _, _, _, _, _, _, _, _, rfl, hsz, hsz1, HC3.out, HC.out, HC2.out⟩
      clear HG HR
      by_cases hz : f l[k] = 0
      · have hz' : (f l[k] != 0) = false := by simp [hz]
        have HN : Hid (∀ j (hj : j < l.length), j < k + 1 → f l[j] = 0) := fun j hj hjk => by
          by_cases e : j = k
          · subst e; exact hz
          · exact HA.out j hj (by omega)
        clear hz
        generalize f l[k] = fk at *
        go_wp2_with (go_at_fn g; refine cG.mono ?_; rintro e w' ⟨rfl, hb'⟩)
        exact ⟨⟨k + 1, by omega, by go_num, HN.out, HL.out.trans (hb'.mono (by simp; omega))⟩, by simp [intOf]; omega⟩
      · have hz' : (f l[k] != 0) = true := by simp [hz]
        have HF := veil (firstBad_at f l k hlt (fun j hj => HA.out j (by omega) hj) hz)
        clear hz
        generalize f l[k] = fk at *
        go_wp2_with (go_at_fn g; refine cG.mono ?_; rintro e w' ⟨rfl, hb'⟩)
        go_ret
        exact ⟨by rw [HF.out]; rfl, HL.out.trans (hb'.mono (by simp; omega))⟩
    · have HF := veil (firstBad_none f l fun j hj => HA.out j hj (by omega))
      clear HG HR eg
      go_wp2
      go_ret
      exact ⟨by rw [HF.out]; rfl, hbl⟩

set_option maxHeartbeats 2000000 in
theorem first_str (g : Nat) (lb : Array Value) (eg : ∀ args w, (callFunc g args).run Tryz.prog w = .ok (.enter g args) w) (f : ByteArray → Int) (S : Nat → Prop) (l : List ByteArray) (v : Value) (w : World) (hS : ∀ b, S b → b < w.heap.size) (hl : SlAt S (StrAt w) 1 l v)
    (hg : ∀ t ∈ l, ∀ (W : World) (u : Value), Below w.heap.size w W → StrIs t u → Calls Tryz.prog g (#[u] ++ lb) W fun e w' => e = .returned (.int .i64 (f t)) ∧ Below W.heap.size W w') :
    Calls Tryz.prog 95 #[v, .func (.func g) #[] lb] w fun e w' => e = .returned (.int .i64 (firstBad f l)) ∧ Below w.heap.size w w' := by
  obtain ⟨a, cap, rfl, ⟨hlen, hlenC⟩, hrow⟩ := hl
  unfold maxLen at hlen
  have HG := veil hg
  clear hg
  rcases hrow with h0 | ⟨b, off, rfl, hb, hrow⟩
  · have hnil : l = [] := List.eq_nil_of_length_eq_zero h0
    subst hnil
    clear HG eg
    go_enter Tryz.func95, Tryz.ntmps95
    go_wp2
    refine wp_loop_rounds 1 ?_
    rw [rounds_succ]
    go_wp2
    go_ret
    exact ⟨rfl, Below.refl _ _⟩
  have hbw := hS b hb
  have HR := veil hrow
  clear hrow
  go_enter Tryz.func95, Tryz.ntmps95
  go_wp2
  go_loopw [10] (fun i wr => ∃ k : Nat, k ≤ l.length ∧ i = .int .i64 k ∧ (∀ j (hj : j < l.length), j < k → f l[j] = 0) ∧ Below w.heap.size w wr) (fun i _ => l.length - (intOf i).toNat)
  case atStart => exact ⟨0, Nat.zero_le _, rfl, fun j _ h => absurd h (by omega), Below.refl _ _⟩
  case round =>
    obtain ⟨k, hk, rfl, hall, hbl⟩ := hrel
    have HA := veil hall
    clear hall
    have hbs := hbl.size
    by_cases hlt : k < l.length
    · obtain ⟨c0, hsz⟩ := HR.out.get k hlt
      rw [Nat.mul_one] at c0
      have d0 := (hbl.cell (p := ⟨b, off + k, none⟩) hbw).trans c0
      clear c0
      have cG := HG.out l[k] (List.getElem_mem hlt) _ (.string l[k]) hbl ⟨rfl, hsz⟩
      clear HG HR
      by_cases hz : f l[k] = 0
      · have hz' : (f l[k] != 0) = false := by simp [hz]
        have HN : Hid (∀ j (hj : j < l.length), j < k + 1 → f l[j] = 0) := fun j hj hjk => by
          by_cases e : j = k
          · subst e; exact hz
          · exact HA.out j hj (by omega)
        clear hz
        generalize f l[k] = fk at *
        go_wp2_with (go_at_fn g; refine cG.mono ?_; rintro e w' ⟨rfl, hb'⟩)
        exact ⟨⟨k + 1, by omega, by go_num, HN.out, hbl.trans (hb'.mono (by omega))⟩, by simp [intOf]; omega⟩
      · have hz' : (f l[k] != 0) = true := by simp [hz]
        have HF := veil (firstBad_at f l k hlt (fun j hj => HA.out j (by omega) hj) hz)
        clear hz
        generalize f l[k] = fk at *
        go_wp2_with (go_at_fn g; refine cG.mono ?_; rintro e w' ⟨rfl, hb'⟩)
        go_ret
        exact ⟨by rw [HF.out]; rfl, hbl.trans (hb'.mono (by omega))⟩
    · have HF := veil (firstBad_none f l fun j hj => HA.out j hj (by omega))
      clear HG HR eg
      go_wp2
      go_ret
      exact ⟨by rw [HF.out]; rfl, hbl⟩

end Go.Proofs.YtagbaimfigljiaaGreatDoor
namespace Go.Proofs.YtagbaimfigljiaaGreatDoor
open Go.RowKit
set_option maxRecDepth 100000

theorem makeFunc_run (fn : Fn) (first cap : Array Value) (w : World) : (Instr.makeFunc fn first cap).run Tryz.prog w = .ok (.func fn first cap) w := rfl

set_option maxHeartbeats 2000000 in
theorem checkType_any : ∀ (m d : Nat), 10 < d + m → ∀ (S : Nat → Prop) (t : Ty) (v : Value) (w : World), d < 1000 → (∀ b, S b → b < w.heap.size) → TyIs S w t v →
    Calls Tryz.prog 170 #[v, .int .i64 d] w fun e w' => e = .returned (.int .i64 (tyFault t d)) ∧ Below w.heap.size w w' := by
  intro m
  induction m with
  | zero =>
    rintro d hd S t v w hd1 hS ⟨k, f, n, va, rfl, xs, rfl, hf, hn, hsl⟩
    have hd' : (10 : Int) < (d : Int) := by omega
    have HF : Hid (tyFault (.mk k f n xs) d = 1) := by show _ = _; rw [tyFault, if_pos (by omega)]
    obtain ⟨a, c, cap, rfl⟩ := hsl.slice
    clear hsl
    go_enter Tryz.func170, Tryz.ntmps170
    go_wp2_with fail
    go_ret
    exact ⟨by rw [HF.out]; rfl, ((Below.refl _ _).alloc (Nat.le_refl _) _).alloc (by simp) _⟩
  | succ m ih =>
    rintro d hd S t v w hd1 hS ⟨k, f, n, va, rfl, xs, rfl, hf, hn, hsl⟩
    have HIH := veil ih
    clear ih
    by_cases hd0 : 10 < d
    · have hd' : (10 : Int) < (d : Int) := by omega
      have HF : Hid (tyFault (.mk k f n xs) d = 1) := by show _ = _; rw [tyFault, if_pos (by omega)]
      obtain ⟨a, c, cap, rfl⟩ := hsl.slice
      clear hsl
      go_enter Tryz.func170, Tryz.ntmps170
      go_wp2_with fail
      go_ret
      exact ⟨by rw [HF.out]; rfl, ((Below.refl _ _).alloc (Nat.le_refl _) _).alloc (by simp) _⟩
    have hd' : ¬ (10 : Int) < (d : Int) := by omega
    cases hk : isIn k 1 4
    · have HF : Hid (tyFault (.mk k f n xs) d = 3) := by show _ = _; rw [tyFault, if_neg hd0, if_pos hk]
      obtain ⟨a, c, cap, rfl⟩ := hsl.slice
      clear hsl
      have hk2 : k < 1 ∨ 4 < k := by simp [isIn] at hk; omega
      clear hk
      rcases hk2 with hk2 | hk2
      · go_enter Tryz.func170, Tryz.ntmps170
        go_wp2_with fail
        go_ret
        exact ⟨by rw [HF.out]; rfl, ((Below.refl _ _).alloc (Nat.le_refl _) _).alloc (by simp) _⟩
      · have hk3 : ¬ k < 1 := by omega
        go_enter Tryz.func170, Tryz.ntmps170
        go_wp2_with fail
        go_ret
        exact ⟨by rw [HF.out]; rfl, ((Below.refl _ _).alloc (Nat.le_refl _) _).alloc (by simp) _⟩
    have hk2 : ¬ k < 1 := by simp [isIn] at hk; omega
    have hk3 : ¬ 4 < k := by simp [isIn] at hk; omega
    have HT : Hid (tyFault (.mk k f n xs) d = if tyFits k f n xs.length = false then 4 else tysFault xs (d + 1)) := by show _ = _; rw [tyFault, if_neg hd0, if_neg (by rw [hk]; simp)]
    clear hk
    obtain ⟨a, cap, rfl, hrest⟩ := hsl
    have HSL : Hid (SlAt S (TyAt S w) 4 xs (.slice a xs.length cap)) := ⟨a, cap, rfl, hrest⟩
    clear hrest
    have HB : Hid (Below w.heap.size w ((w.alloc (.cells #[.int .i64 k, .string f, .string n, .slice a xs.length cap] 84)).alloc (.cells #[.int .i64 d] 3))) := ((Below.refl _ _).alloc (Nat.le_refl _) _).alloc (by simp) _
    have hef := makeFunc_run
    cases hfit : tyFits k f n xs.length
    · have HF := veil (HT.out.trans (if_pos hfit))
      go_enter Tryz.func170, Tryz.ntmps170
      go_wp2_with fail
      refine (typeFits_any k f n a xs.length cap hf hn _).mono ?_
      rintro e w1 ⟨rfl, hb⟩
      rw [hfit]
      go_wp2
      go_ret
      exact ⟨by rw [HF.out]; rfl, HB.out.trans (hb.mono (by simp; omega))⟩
    · have HF := veil (HT.out.trans ((if_neg (by rw [hfit]; simp)).trans (tysFault_first xs (d + 1))))
      clear HT
      go_enter Tryz.func170, Tryz.ntmps170
      go_wp2_with fail
      refine (typeFits_any k f n a xs.length cap hf hn _).mono ?_
      rintro e w1 ⟨rfl, hb⟩
      rw [hfit]
      have c3 : w1.cell? ⟨w.heap.size, 3, none⟩ = some (.slice a xs.length cap) := (hb.cell (by simp; omega)).trans ((World.cell?_alloc_old _ _ _ (by simp)).trans (World.cell?_alloc_at _ _ _ _ rfl))
      have hcd : w1.cell? ⟨w.heap.size + 1, 0, none⟩ = some (.int .i64 d) := (hb.cell (by simp)).trans (World.cell?_alloc_at _ _ _ _ (by simp))
      have HCD := veil hcd
      have HB1 := veil (HB.out.trans (hb.mono (by simp; omega)))
      have hs1 : w.heap.size + 2 ≤ w1.heap.size := by have := hb.size; simp at this; omega
      clear hb hcd
      go_wp2_with fail
      refine (first_ty 244 #[.pointer (some ⟨w.heap.size + 1, 0, none⟩)] (enters_of Tryz.func244 (by kernel_rfl) rfl) (fun t => tyFault t (d + 1)) S xs _ w1 (fun b h => by have := hS b h; omega) (tySl_keep (Keeps.below HB1.out hS) HSL.out) ?_).mono ?_
      · rintro t ht W u hbW ⟨k', f', n', va', rfl, hcs⟩
        have hcd : W.cell? ⟨w.heap.size + 1, 0, none⟩ = some (.int .i64 d) := (hbW.cell (by show w.heap.size + 1 < w1.heap.size; omega)).trans HCD.out
        have hne : w.heap.size + 1 < W.heap.size := by have := hbW.size; omega
        obtain ⟨va1, va2, va3, rfl⟩ := hcs.slice
        have hws := hbW.size
        have hSW : ∀ b, S b → b < W.heap.size := fun b h => by have := hS b h; omega
        have HC := veil (hcs.keep (Keeps.below ((Below.refl W.heap.size W).alloc (Nat.le_refl _) (.cells #[.int .i64 k', .string f', .string n', .slice va1 va2 va3] 84)) hSW))
        have HBW : Hid (Below W.heap.size W (W.alloc (.cells #[.int .i64 k', .string f', .string n', .slice va1 va2 va3] 84))) := (Below.refl _ _).alloc (Nat.le_refl _) _
        have cI := HIH.out (d + 1) (by omega) S t _ _ (by omega) (fun b h => by have := hSW b h; simp; omega) ⟨_, _, _, _, rfl, HC.out⟩
        have en : ((d + 1 : Nat) : Int) = (d : Int) + 1 := by omega
        rw [en] at cI
        clear HIH HC hcs
        go_enter Tryz.func244, Tryz.ntmps244
        go_wp2_with fail
        refine cI.mono ?_
        rintro e w2 ⟨rfl, hb2⟩
        go_wp2
        go_ret
        exact ⟨rfl, HBW.out.trans (hb2.mono (by simp))⟩
      · rintro e w2 ⟨rfl, hb2⟩
        go_wp2
        go_ret
        exact ⟨by rw [HF.out]; rfl, HB1.out.trans (hb2.mono (by omega))⟩

theorem noneB_text (s : ByteArray) : (s.toList == []) = noneB s := text_eq s []

set_option maxHeartbeats 4000000 in
theorem typeFault_any : ∀ (m d : Nat), 10 < d + m → ∀ (S : Nat → Prop) (t : Ty) (v : Value) (w : World), d < 1000 → (∀ b, S b → b < w.heap.size) → TyIs S w t v →
    Calls Tryz.prog 146 #[v, .int .i64 d] w fun e w' => e = .returned (.int .i64 (tyFault t d)) ∧ Below w.heap.size w w' := by
  intro m
  induction m with
  | zero =>
    rintro d hd S t v w hd1 hS ⟨k, f, n, va, rfl, xs, rfl, hf, hn, hsl⟩
    have hd' : (10 : Int) < (d : Int) := by omega
    have HF : Hid (tyFault (.mk k f n xs) d = 1) := by show _ = _; rw [tyFault, if_pos (by omega)]
    obtain ⟨a, c, cap, rfl⟩ := hsl.slice
    clear hsl
    go_enter Tryz.func146, Tryz.ntmps146
    go_wp2_with fail
    go_ret
    exact ⟨by rw [HF.out]; rfl, (Below.refl _ _).alloc (Nat.le_refl _) _⟩
  | succ m ih =>
    rintro d hd S t v w hd1 hS ⟨k, f, n, va, rfl, xs, rfl, hf, hn, hsl⟩
    have HIH := veil ih
    clear ih
    by_cases hd0 : 10 < d
    · have hd' : (10 : Int) < (d : Int) := by omega
      have HF : Hid (tyFault (.mk k f n xs) d = 1) := by show _ = _; rw [tyFault, if_pos (by omega)]
      obtain ⟨a, c, cap, rfl⟩ := hsl.slice
      clear hsl
      go_enter Tryz.func146, Tryz.ntmps146
      go_wp2_with fail
      go_ret
      exact ⟨by rw [HF.out]; rfl, (Below.refl _ _).alloc (Nat.le_refl _) _⟩
    have hd' : ¬ (10 : Int) < (d : Int) := by omega
    obtain ⟨a, cap, rfl, ⟨hlen, hlenC⟩, hrest⟩ := hsl
    unfold maxLen at hlen
    have HB : Hid (Below w.heap.size w (w.alloc (.cells #[.int .i64 k, .string f, .string n, .slice a xs.length cap] 84))) := (Below.refl _ _).alloc (Nat.le_refl _) _
    cases hk : isIn k 1 4
    · have HF : Hid (tyFault (.mk k f n xs) d = 3) := by show _ = _; rw [tyFault, if_neg hd0, if_pos hk]
      clear hrest
      go_enter Tryz.func146, Tryz.ntmps146
      go_wp2_with (go_at_call 138; refine (in_any _ _ _ _).mono ?_; rintro e w' ⟨rfl, rfl⟩)
      go_ret
      exact ⟨by rw [HF.out]; rfl, HB.out⟩
    have HT : Hid (tyFault (.mk k f n xs) d = if tyFits k f n xs.length = false then 4 else tysFault xs (d + 1)) := by show _ = _; rw [tyFault, if_neg hd0, if_neg (by rw [hk]; simp)]
    have HNN := veil (noneB_text n)
    have HNF := veil (noneB_text f)
    have HREST := veil hrest
    clear hrest
    by_cases h3 : k = 3
    · subst h3
      by_cases hc : xs.length = 1
      · have hc1 : ((xs.length : Int) != 1) = false := by simp [hc]
        cases hn1 : (n.toList == []) <;> cases hf1 : (f.toList == [])
        case true.true =>
          match xs, hc with
          | [t], _ =>
            have hfit : tyFits 3 f n [t].length = true := by rw [hn1] at HNN; rw [hf1] at HNF; simp [tyFits, ← HNN.out, ← HNF.out]
            have HF : Hid (tyFault (.mk 3 f n [t]) d = tyFault t (d + 1)) := by
              show _ = _
              rw [HT.out, if_neg (by rw [hfit]; simp), tysFault, tysFault]
              split <;> simp_all
            rcases HREST.out with h0 | ⟨b, off, rfl, hb, hrow⟩
            · simp at h0
            have hbw := hS b hb
            have hty := hrow.get 0 (by simp)
            simp only [Nat.zero_mul, Nat.add_zero, List.getElem_cons_zero] at hty
            obtain ⟨kd, fo, na, va, c0, c1, c2, c3, hcs⟩ := tyAt_cells.1 hty
            obtain ⟨va1, va2, va3, rfl⟩ := hcs.slice
            have HC := veil (hcs.keep (Keeps.below ((Below.refl w.heap.size w).alloc (Nat.le_refl _) (.cells #[.int .i64 3, .string f, .string n, .slice (some ⟨b, off, none⟩) [t].length cap] 84)) hS))
            have cI := HIH.out (d + 1) (by omega) S t _ _ (by omega) (fun b h => by have := hS b h; simp; omega) ⟨_, _, _, _, rfl, HC.out⟩
            have en : ((d + 1 : Nat) : Int) = (d : Int) + 1 := by omega
            rw [en] at cI
            clear HIH HC hcs hty hrow HREST HT HNN HNF hfit
            simp only [List.length_cons, List.length_nil, Nat.zero_add] at *
            go_enter Tryz.func146, Tryz.ntmps146
            go_wp2_with (go_at_call 138; refine (in_any _ _ _ _).mono ?_; rintro e w' ⟨rfl, rfl⟩)
            refine cI.mono ?_
            rintro e w2 ⟨rfl, hb2⟩
            go_wp2
            go_ret
            exact ⟨by rw [HF.out]; rfl, HB.out.trans (hb2.mono (by simp))⟩
        all_goals
          have hfit : tyFits 3 f n xs.length = false := by rw [hn1] at HNN; rw [hf1] at HNF; simp [tyFits, ← HNN.out, ← HNF.out]
          have HF := veil (HT.out.trans (if_pos hfit))
          clear HREST HIH hfit HT HNN HNF hc
          go_enter Tryz.func146, Tryz.ntmps146
          go_wp2_with (go_at_call 138; refine (in_any _ _ _ _).mono ?_; rintro e w' ⟨rfl, rfl⟩)
          go_ret
          exact ⟨by rw [HF.out]; rfl, HB.out⟩
      · have hc1 : ((xs.length : Int) != 1) = true := by simp; omega
        have hfit : tyFits 3 f n xs.length = false := by simp [tyFits, hc]
        have HF := veil (HT.out.trans (if_pos hfit))
        clear HREST HIH hfit HT HNN HNF hc
        go_enter Tryz.func146, Tryz.ntmps146
        go_wp2_with (go_at_call 138; refine (in_any _ _ _ _).mono ?_; rintro e w' ⟨rfl, rfl⟩)
        go_ret
        exact ⟨by rw [HF.out]; rfl, HB.out⟩
    have h3' : (k == 3) = false := beq_eq_false_iff_ne.2 h3
    by_cases hc : xs.length = 0
    · have hc1 : ((xs.length : Int) != 0) = false := by simp [hc]
      have hx0 : xs = [] := List.eq_nil_of_length_eq_zero hc
      have HZ : Hid (tyFits k f n xs.length = true → tyFault (.mk k f n xs) d = 0) := fun h => by rw [HT.out, if_neg (by rw [h]; simp), hx0, tysFault]
      have HW : Hid (tyFits k f n xs.length = false → tyFault (.mk k f n xs) d = 4) := fun h => by rw [HT.out, if_pos h]
      by_cases h4 : k = 4
      · subst h4
        have HFit : Hid (tyFits 4 f n xs.length = (identOk n && ((f.toList == []) || identOk f))) := by show _ = _; rw [HNF.out]; simp [tyFits, hc, noneOrIdent]
        clear HREST HIH HT HNN HNF hx0 hc
        cases hi : identOk n
        · rw [hi] at HFit
          have HF := veil (HW.out HFit.out)
          go_enter Tryz.func146, Tryz.ntmps146
          go_wp2_with (go_at_call 138; refine (in_any _ _ _ _).mono ?_; rintro e w' ⟨rfl, rfl⟩)
          refine (nameMay_any n hn _).mono ?_
          rintro e w' ⟨rfl, rfl⟩
          rw [hi]
          go_wp2_with fail
          go_ret
          exact ⟨by rw [HF.out]; rfl, HB.out⟩
        · cases hf1 : (f.toList == [])
          · cases hj : identOk f
            · rw [hi, hf1, hj] at HFit
              have HF := veil (HW.out HFit.out)
              go_enter Tryz.func146, Tryz.ntmps146
              go_wp2_with (go_at_call 138; refine (in_any _ _ _ _).mono ?_; rintro e w' ⟨rfl, rfl⟩)
              refine (nameMay_any n hn _).mono ?_
              rintro e w' ⟨rfl, rfl⟩
              rw [hi]
              go_wp2_with fail
              refine (nameMay_any f hf _).mono ?_
              rintro e w' ⟨rfl, rfl⟩
              rw [hj]
              go_wp2_with fail
              go_ret
              exact ⟨by rw [HF.out]; rfl, HB.out⟩
            · rw [hi, hf1, hj] at HFit
              have HF := veil (HZ.out HFit.out)
              go_enter Tryz.func146, Tryz.ntmps146
              go_wp2_with (go_at_call 138; refine (in_any _ _ _ _).mono ?_; rintro e w' ⟨rfl, rfl⟩)
              refine (nameMay_any n hn _).mono ?_
              rintro e w' ⟨rfl, rfl⟩
              rw [hi]
              go_wp2_with fail
              refine (nameMay_any f hf _).mono ?_
              rintro e w' ⟨rfl, rfl⟩
              rw [hj]
              go_wp2_with fail
              go_ret
              exact ⟨by rw [HF.out]; rfl, HB.out⟩
          · rw [hi, hf1] at HFit
            have HF := veil (HZ.out HFit.out)
            go_enter Tryz.func146, Tryz.ntmps146
            go_wp2_with (go_at_call 138; refine (in_any _ _ _ _).mono ?_; rintro e w' ⟨rfl, rfl⟩)
            refine (nameMay_any n hn _).mono ?_
            rintro e w' ⟨rfl, rfl⟩
            rw [hi]
            go_wp2_with fail
            go_ret
            exact ⟨by rw [HF.out]; rfl, HB.out⟩
      · have h4' : (k == 4) = false := beq_eq_false_iff_ne.2 h4
        have HFit : Hid (tyFits k f n xs.length = ((n.toList == []) && (f.toList == []))) := by show _ = _; rw [HNF.out, HNN.out]; simp [tyFits, hc, h3, h4]
        clear HREST HIH HT HNN HNF hx0 hc h3 h4
        cases hn1 : (n.toList == []) <;> cases hf1 : (f.toList == [])
        case true.true =>
          rw [hn1, hf1] at HFit
          have HF := veil (HZ.out HFit.out)
          go_enter Tryz.func146, Tryz.ntmps146
          go_wp2_with (go_at_call 138; refine (in_any _ _ _ _).mono ?_; rintro e w' ⟨rfl, rfl⟩)
          go_ret
          exact ⟨by rw [HF.out]; rfl, HB.out⟩
        all_goals
          rw [hn1, hf1] at HFit
          have HF := veil (HW.out HFit.out)
          go_enter Tryz.func146, Tryz.ntmps146
          go_wp2_with (go_at_call 138; refine (in_any _ _ _ _).mono ?_; rintro e w' ⟨rfl, rfl⟩)
          go_ret
          exact ⟨by rw [HF.out]; rfl, HB.out⟩
    · have hc1 : ((xs.length : Int) != 0) = true := by rw [bne_iff_ne]; omega
      have hfit : tyFits k f n xs.length = false := by unfold tyFits; rw [if_neg h3]; split <;> simp [hc]
      have HF := veil (HT.out.trans (if_pos hfit))
      clear HREST HIH hfit HT HNN HNF hc h3
      go_enter Tryz.func146, Tryz.ntmps146
      go_wp2_with (go_at_call 138; refine (in_any _ _ _ _).mono ?_; rintro e w' ⟨rfl, rfl⟩)
      go_ret
      exact ⟨by rw [HF.out]; rfl, HB.out⟩

end Go.Proofs.YtagbaimfigljiaaGreatDoor
