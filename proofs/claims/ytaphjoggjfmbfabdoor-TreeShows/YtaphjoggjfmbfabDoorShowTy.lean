/- What the printer's typ, and the reference's typeShown, answer, at every type that may be: its text. -/
import Derived.Test.YtaphjoggjfmbfabDoorBuildP
import Derived.Test.YtaphjoggjfmbfabDoorFaults
namespace Go.Proofs.YtaphjoggjfmbfabDoor
open Go.RowKit

/-! ### A type -/

set_option maxHeartbeats 400000 in
theorem typ_any : ∀ (m d : Nat), 10 < d + m → ∀ (S : Nat → Prop) (B b : Nat) (t : Ty) (v : Value) (l : List UInt8) (w : World), (∀ c, S c → c < B) → TyIs S w t v → tyFault t d = 0 → Wrote B b l w → l.length + (tyShown t).length ≤ 140737488355328 →
    Calls Tryd.prog 8 #[.pointer (some ⟨b, 0, none⟩), v] w fun e w' => e = .returned (.tuple #[]) ∧ Wrote B b (l ++ tyShown t) w' ∧ Went B b w w' := by
  intro m
  induction m with
  | zero =>
    rintro d hd S B b ⟨k, o, n, xs⟩ v l w hS hv hf
    have := (ty_ok hf).1
    omega
  | succ m ih =>
    rintro d hd S B b t v l w hS ⟨k, o, n, va, rfl, xs, rfl, hos, hns, hsl⟩ hf hw hlen
    have HIH := veil ih
    clear ih
    obtain ⟨hd10, hk, hfit, hxs⟩ := ty_ok hf
    have hlt := builder_lt hw
    obtain ⟨a, cap, rfl, ⟨hl, hlC⟩, hrest⟩ := hsl
    have HB : Hid (Went B b w (w.alloc (.cells #[.int .i64 k, .string o, .string n, .slice a xs.length cap] 41))) := Went.of_below ((Below.refl _ _).alloc (Nat.le_refl _) _) (by omega)
    have HW : Hid (Wrote B b l (w.alloc (.cells #[.int .i64 k, .string o, .string n, .slice a xs.length cap] 41))) := hw.below ((Below.refl _ _).alloc (Nat.le_refl _) _)
    have HS : Hid (tyShown (.mk k o n xs) = if k = 1 then [105, 110, 116] else if k = 2 then [116, 101, 120, 116] else if k = 3 then [91] ++ (tyHead xs ++ [93]) else nameShown o n) := by show _ = _; rw [tyShown]
    have HNew := veil (heap_alloc_new w (.cells #[.int .i64 k, .string o, .string n, .slice a xs.length cap] 41))
    have hwb : w.heap.size ≠ b := by omega
    clear hw hf
    by_cases h1 : k = 1
    · subst h1
      rw [if_pos rfl] at HS
      rw [HS.out] at hlen ⊢
      clear HS hrest HIH hxs hfit hk
      go_enter Tryd.func8, Tryd.ntmps8
      go_wp2_with fail
      refine (write_new B b l [⟨#[105, 110, 116]⟩] _ _ _ _ (by simp) rfl rfl [105, 110, 116] HW.out (by decide) rfl hlen).mono ?_
      rintro e w1 ⟨rfl, q1, q2⟩
      go_wp2_with fail
      go_end0
      exact ⟨rfl, q1, HB.out.trans q2⟩
    rw [if_neg h1] at HS
    have h1' : (k == 1) = false := beq_eq_false_iff_ne.2 h1
    by_cases h2 : k = 2
    · subst h2
      rw [if_pos rfl] at HS
      rw [HS.out] at hlen ⊢
      clear HS hrest HIH hxs hfit hk
      go_enter Tryd.func8, Tryd.ntmps8
      go_wp2_with fail
      refine (write_new B b l [⟨#[116, 101, 120, 116]⟩] _ _ _ _ (by simp) rfl rfl [116, 101, 120, 116] HW.out (by decide) rfl hlen).mono ?_
      rintro e w1 ⟨rfl, q1, q2⟩
      go_wp2_with fail
      go_end0
      exact ⟨rfl, q1, HB.out.trans q2⟩
    rw [if_neg h2] at HS
    have h2' : (k == 2) = false := beq_eq_false_iff_ne.2 h2
    by_cases h3 : k = 3
    · subst h3
      rw [if_pos rfl] at HS
      have hc : xs.length = 1 := by
        have hfit' : (xs.length == 1 && (noneB n && noneB o)) = true := hfit
        simp only [Bool.and_eq_true, beq_iff_eq] at hfit'
        exact hfit'.1
      match xs, hc with
      | [t], _ =>
        rcases hrest with h0 | ⟨bb, off, rfl, hb, hrow⟩
        · simp at h0
        have hbw := hS bb hb
        have hty := hrow.get 0 (by simp)
        simp only [Nat.zero_mul, Nat.add_zero, List.getElem_cons_zero] at hty
        obtain ⟨kd, fo, na, va, c0, c1, c2, c3, hcs⟩ := tyAt_cells.1 hty
        obtain ⟨va1, va2, va3, rfl⟩ := hcs.slice
        have ht0 : tyFault t (d + 1) = 0 := tys_at hxs 0 (by simp)
        have HC := veil hcs
        have hh : tyHead [t] = tyShown t := by rw [tyHead]
        rw [HS.out, hh] at hlen ⊢
        simp only [List.length_append, List.length_cons, List.length_nil] at hlen
        clear HS hxs hfit hk hrow hty hcs hh
        simp only [List.length_cons, List.length_nil, Nat.zero_add] at *
        go_enter Tryd.func8, Tryd.ntmps8
        go_wp2_with fail
        refine (write_new B b l [⟨#[91]⟩] _ _ _ _ (by simp) rfl rfl [91] HW.out (by decide) rfl (by simp only [List.length_cons, List.length_nil]; omega)).mono ?_
        rintro e w1 ⟨rfl, q1, q2⟩
        have HW1 := veil q1
        have HB1 := veil (HB.out.trans q2)
        have e3 : w1.cell? ⟨w.heap.size, 3, none⟩ = some (.slice (some ⟨bb, off, none⟩) 1 cap) := q2.cell HNew.out hwb (by decide) 3
        have d0 := (HB1.out.below.cell (p := ⟨bb, off, none⟩) hbw).trans c0
        have d1 := (HB1.out.below.cell (p := ⟨bb, off + 1, none⟩) hbw).trans c1
        have d2 := (HB1.out.below.cell (p := ⟨bb, off + 2, none⟩) hbw).trans c2
        have d3 := (HB1.out.below.cell (p := ⟨bb, off + 3, none⟩) hbw).trans c3
        clear q1 q2 c0 c1 c2 c3
        go_wp2_with fail
        refine (HIH.out (d + 1) (by omega) S B b t _ _ w1 hS ⟨_, _, _, _, rfl, HC.out.keep (Keeps.below HB1.out.below hS)⟩ ht0 HW1.out (by simp only [List.length_append, List.length_cons, List.length_nil]; omega)).mono ?_
        rintro e w2 ⟨rfl, q1, q2⟩
        have HW2 := veil q1
        have HB2 := veil (HB1.out.trans q2)
        clear q1 q2 d0 d1 d2 d3 e3
        go_wp2_with fail
        refine (write_new B b _ [⟨#[93]⟩] w2 _ _ _ (by simp) rfl rfl [93] HW2.out (by decide) rfl (by simp only [List.length_append, List.length_cons, List.length_nil]; omega)).mono ?_
        rintro e w3 ⟨rfl, q1, q2⟩
        go_wp2_with fail
        go_end0
        exact ⟨rfl, by simpa [List.append_assoc] using q1, HB2.out.trans q2⟩
    rw [if_neg h3] at HS
    have h3' : (k == 3) = false := beq_eq_false_iff_ne.2 h3
    have h4 : k = 4 := by simp [isIn] at hk; omega
    subst h4
    rw [HS.out] at hlen ⊢
    clear HS hrest HIH hxs hfit hk h1 h2 h3
    go_enter Tryd.func8, Tryd.ntmps8
    go_wp2_with fail
    refine (name_any B b o n l _ HW.out hlen).mono ?_
    rintro e w1 ⟨rfl, q1, q2⟩
    go_wp2_with fail
    go_end0
    exact ⟨rfl, q1, HB.out.trans q2⟩

set_option maxHeartbeats 400000 in
theorem typeShown_any : ∀ (m d : Nat), 10 < d + m → ∀ (S : Nat → Prop) (t : Ty) (v : Value) (w : World), (∀ c, S c → c < w.heap.size) → TyIs S w t v → tyFault t d = 0 →
    Calls Tryd.prog 12 #[v] w fun e w' => e = .returned (.string (textOf (tyShown t))) ∧ Below w.heap.size w w' := by
  intro m
  induction m with
  | zero =>
    rintro d hd S ⟨k, o, n, xs⟩ v w hS hv hf
    have := (ty_ok hf).1
    omega
  | succ m ih =>
    rintro d hd S t v w hS ⟨k, o, n, va, rfl, xs, rfl, hos, hns, hsl⟩ hf
    have HIH := veil ih
    clear ih
    obtain ⟨hd10, hk, hfit, hxs⟩ := ty_ok hf
    obtain ⟨a, cap, rfl, ⟨hl, hlC⟩, hrest⟩ := hsl
    have HB : Hid (Below w.heap.size w (w.alloc (.cells #[.int .i64 k, .string o, .string n, .slice a xs.length cap] 41))) := (Below.refl _ _).alloc (Nat.le_refl _) _
    have HS : Hid (tyShown (.mk k o n xs) = if k = 1 then [105, 110, 116] else if k = 2 then [116, 101, 120, 116] else if k = 3 then [91] ++ (tyHead xs ++ [93]) else nameShown o n) := by show _ = _; rw [tyShown]
    clear hf
    by_cases h1 : k = 1
    · subst h1
      rw [if_pos rfl] at HS
      rw [HS.out]
      clear HS hrest HIH hxs hfit hk
      go_enter Tryd.func12, Tryd.ntmps12
      go_wp2_with fail
      go_ret
      exact ⟨rfl, HB.out⟩
    rw [if_neg h1] at HS
    have h1' : (k == 1) = false := beq_eq_false_iff_ne.2 h1
    by_cases h2 : k = 2
    · subst h2
      rw [if_pos rfl] at HS
      rw [HS.out]
      clear HS hrest HIH hxs hfit hk
      go_enter Tryd.func12, Tryd.ntmps12
      go_wp2_with fail
      go_ret
      exact ⟨rfl, HB.out⟩
    rw [if_neg h2] at HS
    have h2' : (k == 2) = false := beq_eq_false_iff_ne.2 h2
    by_cases h3 : k = 3
    · subst h3
      rw [if_pos rfl] at HS
      have hc : xs.length = 1 := by
        have hfit' : (xs.length == 1 && (noneB n && noneB o)) = true := hfit
        simp only [Bool.and_eq_true, beq_iff_eq] at hfit'
        exact hfit'.1
      match xs, hc with
      | [t], _ =>
        rcases hrest with h0 | ⟨bb, off, rfl, hb, hrow⟩
        · simp at h0
        have hbw := hS bb hb
        have hty := hrow.get 0 (by simp)
        simp only [Nat.zero_mul, Nat.add_zero, List.getElem_cons_zero] at hty
        obtain ⟨kd, fo, na, va, c0, c1, c2, c3, hcs⟩ := tyAt_cells.1 hty
        obtain ⟨va1, va2, va3, rfl⟩ := hcs.slice
        have ht0 : tyFault t (d + 1) = 0 := tys_at hxs 0 (by simp)
        have HC := veil (hcs.keep (Keeps.below HB.out hS))
        have hh : tyHead [t] = tyShown t := by rw [tyHead]
        have HE : Hid (ByteArray.mk #[91] ++ textOf (tyShown t) ++ ByteArray.mk #[93] = textOf (tyShown (.mk 3 o n [t]))) := by
          show _ = _
          rw [HS.out, hh, ← textOf_append, ← textOf_append, ByteArray.append_assoc]
          rfl
        have hz := ty_size 10 t (d + 1) (by omega) ht0
        have z0 : (textOf (tyShown t)).size = (tyShown t).length := rfl
        have z1 : ¬ 9223372036854775807 < 1 + (textOf (tyShown t)).size := by omega
        have z2 : ¬ 9223372036854775807 < 1 + (textOf (tyShown t)).size + 1 := by omega
        clear z0 hz
        clear HS hxs hfit hk hrow hty hcs hh
        simp only [List.length_cons, List.length_nil, Nat.zero_add] at *
        go_enter Tryd.func12, Tryd.ntmps12
        go_wp2_with fail
        refine (HIH.out (d + 1) (by omega) S t _ _ (fun c h => by have := hS c h; simp; omega) ⟨_, _, _, _, rfl, HC.out⟩ ht0).mono ?_
        rintro e w1 ⟨rfl, q1⟩
        go_wp2_with fail
        go_ret
        exact ⟨by rw [← HE.out]; rfl, HB.out.trans (q1.mono (by simp))⟩
    rw [if_neg h3] at HS
    have h3' : (k == 3) = false := beq_eq_false_iff_ne.2 h3
    have HNF := veil (noneB_text o)
    have h4 : k = 4 := by simp [isIn] at hk; omega
    have hfit' : (xs.length == 0 && (identOk n && noneOrIdent o)) = true := by rw [h4] at hfit; exact hfit
    simp only [Bool.and_eq_true] at hfit'
    have y0 : o.data.toList.length = o.size := rfl
    have y1 : n.data.toList.length = n.size := rfl
    have y2 := noneOr_size hfit'.2.2
    have y3 := ident_size hfit'.2.1
    have z1 : ¬ 9223372036854775807 < o.size + 1 := by omega
    have z2 : ¬ 9223372036854775807 < o.size + 1 + n.size := by omega
    clear y0 y1 y2 y3 hfit' h4
    cases hf1 : (o.toList == [])
    · have HE : Hid (o ++ ByteArray.mk #[46] ++ n = textOf (tyShown (.mk k o n xs))) := by
        show _ = _
        rw [HS.out, nameShown, if_neg (by rw [← HNF.out, hf1]; simp), ← textOf_append, ← textOf_append, textOf_data, textOf_data, ByteArray.append_assoc]
        rfl
      clear HS hrest HIH hxs hfit hk h1 h2 h3
      go_enter Tryd.func12, Tryd.ntmps12
      go_wp2_with fail
      go_ret
      exact ⟨by rw [← HE.out]; rfl, HB.out⟩
    · have HE : Hid (n = textOf (tyShown (.mk k o n xs))) := by
        show _ = _
        rw [HS.out, nameShown, if_pos (by rw [← HNF.out, hf1]), textOf_data]
      clear HS hrest HIH hxs hfit hk h1 h2 h3
      go_enter Tryd.func12, Tryd.ntmps12
      go_wp2_with fail
      go_ret
      exact ⟨by rw [← HE.out]; rfl, HB.out⟩

end Go.Proofs.YtaphjoggjfmbfabDoor
