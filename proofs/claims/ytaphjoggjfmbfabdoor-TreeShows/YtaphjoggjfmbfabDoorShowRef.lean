/- What the reference's dec, listShown and exprShown answer, at every expression that may be: its text. -/
import Derived.Test.YtaphjoggjfmbfabDoorShowTy
import Derived.Deep.RegionHeld3
import Derived.Laws.BytesArg
namespace Go.Proofs.YtaphjoggjfmbfabDoor
open Go.RowKit

set_option maxHeartbeats 1000000 in
set_option maxRecDepth 100000 in
theorem dec_one (n : Nat) (h : n < 10) (w : World) : Calls Tryd.prog 27 #[.int .i64 n] w fun e w' => e = .returned (.string (textOf (Lib.decDigits n))) ∧ Below w.heap.size w w' := by
  have hn : (n : Int) < 10 := by omega
  have h0 : 0 ≤ (n : Int) := by omega
  have hconv : (convert 33 9 (.slice (some ⟨w.heap.size, 0, none⟩) 1 1)).run Tryd.prog (w.alloc (.cells #[.int .u8 (48 + n)] 5)) = .ok (.string (textOf (Lib.decDigits n))) (w.alloc (.cells #[.int .u8 (48 + n)] 5)) := by
    rw [run_convert_bytes_arg _ 33 5 Tryd.underlying33 Tryd.underlying5 w.heap.size 0 1 1 [48 + n] rfl (fun i hi => by
      have : i = 0 := by omega
      subst this
      exact World.cell?_alloc_at _ _ _ _ rfl) 9 Tryd.underlying9]
    rw [Lib.decDigits_one h]
    have e : ((48 : Int) + n).toNat = 48 + n := by omega
    simp [strOfNums, textOf, e]
  go_enter Tryd.func27, Tryd.ntmps27
  go_wp2_with fail
  go_ret
  exact ⟨rfl, (Below.refl _ _).alloc (Nat.le_refl _) _⟩

set_option maxHeartbeats 1000000 in
set_option maxRecDepth 100000 in
theorem dec_any : ∀ (m n : Nat), n < 10 ^ m → m ≤ 7 → ∀ (w : World), Calls Tryd.prog 27 #[.int .i64 n] w fun e w' => e = .returned (.string (textOf (Lib.decDigits n))) ∧ Below w.heap.size w w' := by
  intro m
  induction m with
  | zero =>
    intro n hn _ w
    exact dec_one n (by simp at hn; omega) w
  | succ m ih =>
    intro n hn hm w
    by_cases h : n < 10
    · exact dec_one n h w
    · have hp : 10 ^ (m + 1) ≤ 10 ^ 7 := Nat.pow_le_pow_right (by omega) hm
      have hn' : n / 10 < 10 ^ m := by
        rw [Nat.pow_succ] at hn
        omega
      have c1 := fun W => ih (n / 10) hn' (by omega) W
      have c2 := fun W => dec_one (n % 10) (by omega) W
      have e1 : ((n / 10 : Nat) : Int) = (n : Int) / 10 := by omega
      have e2 : ((n % 10 : Nat) : Int) = (n : Int) % 10 := by omega
      rw [e1] at c1
      rw [e2] at c2
      have hE : textOf (Lib.decDigits (n / 10)) ++ textOf (Lib.decDigits (n % 10)) = textOf (Lib.decDigits n) := by
        rw [textOf_append, Lib.decDigits_one (i := n % 10) (by omega)]
        conv => rhs; rw [Lib.decDigits, dif_neg h]
      have HE := veil hE
      have hz : (Lib.decDigits (n / 10)).length ≤ 7 ∧ (Lib.decDigits (n % 10)).length = 1 := by
        have hk : ∀ (j u : Nat), u < 10 ^ j → (Lib.decDigits u).length ≤ j + 1 := by
          intro j
          induction j with
          | zero => intro u hu; rw [Lib.decDigits_one (by simp at hu; omega)]; simp
          | succ j ihj =>
            intro u hu
            rw [Lib.decDigits]
            split
            · simp
            · have := ihj (u / 10) (by rw [Nat.pow_succ] at hu; omega)
              simp only [List.length_append, List.length_cons, List.length_nil]
              omega
        have := hk m (n / 10) hn'
        refine ⟨by omega, ?_⟩
        rw [Lib.decDigits_one (i := n % 10) (by omega)]; rfl
      have s1 : (textOf (Lib.decDigits (n / 10))).size = (Lib.decDigits (n / 10)).length := rfl
      have s2 : (textOf (Lib.decDigits (n % 10))).size = (Lib.decDigits (n % 10)).length := rfl
      have z1 : ¬ 9223372036854775807 < (textOf (Lib.decDigits (n / 10))).size + (textOf (Lib.decDigits (n % 10))).size := by omega
      have hn1 : ¬ (n : Int) < 10 := by omega
      have hn2 : 0 ≤ (n : Int) := by omega
      have hn3 : (n : Int) ≤ 10000000 := by omega
      clear hE hz s1 s2 e1 e2 hn' hp hn hm ih h
      have C1 := veil c1
      have C2 := veil c2
      clear c1 c2
      go_enter Tryd.func27, Tryd.ntmps27
      go_wp2_with fail
      refine (C1.out _).mono ?_
      rintro e w1 ⟨rfl, q1⟩
      go_wp2_with fail
      refine (C2.out _).mono ?_
      rintro e w2 ⟨rfl, q2⟩
      go_wp2_with fail
      go_ret
      exact ⟨by rw [← HE.out]; rfl, q1.trans (q2.mono q1.size)⟩

/-- what is asked of the parts of an expression. -/
def ExprShows (d : Nat) : Prop := ∀ (S : Nat → Prop) (x : Ex) (v : Value) (w : World), (∀ c, S c → c < w.heap.size) → ExIs S w x v → exFault x d = 0 →
    Calls Tryd.prog 13 #[v] w fun e w' => e = .returned (.string (textOf (exShown x))) ∧ Below w.heap.size w w'

set_option maxHeartbeats 2000000 in
set_option maxRecDepth 100000 in
theorem listShown_any (d : Nat) (ih : ExprShows d) (S : Nat → Prop) (xs : List Ex) (v : Value) (w : World) (hS : ∀ c, S c → c < w.heap.size) (hv : SlAt S (ExAt S w) 5 xs v) (hx : ∀ j (hj : j < xs.length), exFault xs[j] d = 0) (h8 : xs.length ≤ 8) :
    Calls Tryd.prog 28 #[v] w fun e w' => e = .returned (.string (textOf (exJoin xs))) ∧ Below w.heap.size w w' := by
  obtain ⟨a, cap, rfl, ⟨hl, _⟩, hrest⟩ := hv
  unfold maxLen at hl
  have HIH := veil ih
  have HR := veil hrest
  have HX := veil hx
  have HJ := veil (exTo_all xs)
  have HZ : Hid (∀ k, k ≤ xs.length → (exTo xs k).length ≤ k * (20 * 10 ^ 11 + 2)) := exTo_size xs _ (fun j hj => ex_size 11 xs[j] d (by omega) (hx j hj))
  have HZ1 : Hid (∀ j (hj : j < xs.length), (exShown xs[j]).length ≤ 20 * 10 ^ 11) := fun j hj => ex_size 11 xs[j] d (by omega) (hx j hj)
  clear ih hrest hx
  go_enter Tryd.func28, Tryd.ntmps28
  go_wp2_with fail
  go_loopw [3, 4] (fun s i wr => ∃ k : Nat, k ≤ xs.length ∧ i = .int .i64 k ∧ s = .string (textOf (exTo xs k)) ∧ Below w.heap.size w wr) (fun _ i _ => xs.length - (intOf i).toNat)
  case atStart => exact ⟨0, Nat.zero_le _, rfl, rfl, Below.refl _ _⟩
  case round =>
    obtain ⟨k, hk, rfl, rfl, hbl⟩ := hrel
    have HB := veil hbl
    have hbs := hbl.size
    clear hbl
    by_cases hlt : k < xs.length
    · rcases HR.out with h0 | ⟨bb, off, rfl, hb, hrow⟩
      · omega
      have hbw := hS bb hb
      obtain ⟨kd, nu, fo, na, va, c0, c1, c2, c3, c4, hcs⟩ := exAt_cells.1 (hrow.get k hlt)
      obtain ⟨va1, va2, va3, rfl⟩ := hcs.slice
      have d0 := (HB.out.cell (p := ⟨bb, off + k * 5, none⟩) hbw).trans c0
      have d1 := (HB.out.cell (p := ⟨bb, off + k * 5 + 1, none⟩) hbw).trans c1
      have d2 := (HB.out.cell (p := ⟨bb, off + k * 5 + 2, none⟩) hbw).trans c2
      have d3 := (HB.out.cell (p := ⟨bb, off + k * 5 + 3, none⟩) hbw).trans c3
      have d4 := (HB.out.cell (p := ⟨bb, off + k * 5 + 4, none⟩) hbw).trans c4
      have cI := HIH.out S xs[k] (.agg #[.int .i64 kd, .int .i64 nu, .string fo, .string na, .slice va1 va2 va3]) wr (fun c h => by have := hS c h; omega) ⟨_, _, _, _, _, rfl, hcs.keep (Keeps.below HB.out hS)⟩ (HX.out k hlt)
      have HST : Hid (exTo xs (k + 1) = exTo xs k ++ ((if k = 0 then [] else [44, 32]) ++ exShown xs[k])) := by show _ = _; rw [exTo, List.getElem?_eq_getElem hlt]; rfl
      have y1 : (exTo xs k).length ≤ 8 * (20 * 10 ^ 11 + 2) := Nat.le_trans (HZ.out k hk) (Nat.mul_le_mul_right _ (by omega))
      have y2 := HZ1.out k hlt
      have e11 : 20 * 10 ^ 11 = 2000000000000 := by decide
      rw [e11] at y1 y2
      have s1 : (textOf (exTo xs k)).size = (exTo xs k).length := rfl
      have s2 : (textOf (exShown xs[k])).size = (exShown xs[k]).length := rfl
      have z1 : ¬ 9223372036854775807 < (textOf (exTo xs k)).size + 2 := by omega
      have z2 : ¬ 9223372036854775807 < (textOf (exTo xs k)).size + 2 + (textOf (exShown xs[k])).size := by omega
      have z3 : ¬ 9223372036854775807 < (textOf (exTo xs k)).size + (textOf (exShown xs[k])).size := by omega
      clear c0 c1 c2 c3 c4 hcs hrow HR HX HIH HZ HZ1 y1 y2 e11 s1 s2
      by_cases hk0 : k = 0
      · have hk' : ¬ (0 : Int) < (k : Int) := by omega
        rw [if_pos hk0, List.nil_append] at HST
        have HE : Hid (textOf (exTo xs k) ++ textOf (exShown xs[k]) = textOf (exTo xs (k + 1))) := by show _ = _; rw [HST.out, textOf_append]
        clear hk0 HST
        generalize exShown xs[k] = sk at *
        go_wp2_with fail
        refine cI.mono ?_
        rintro e w1 ⟨rfl, q1⟩
        go_wp2_with fail
        exact ⟨⟨k + 1, by omega, by go_num, by rw [HE.out], HB.out.trans (q1.mono hbs)⟩, by simp [intOf]; omega⟩
      · have hk' : (0 : Int) < (k : Int) := by omega
        rw [if_neg hk0] at HST
        have HE : Hid (textOf (exTo xs k) ++ ByteArray.mk #[44, 32] ++ textOf (exShown xs[k]) = textOf (exTo xs (k + 1))) := by
          show _ = _
          rw [HST.out, ← textOf_append, ← textOf_append, ByteArray.append_assoc]
          rfl
        clear hk0 HST
        generalize exShown xs[k] = sk at *
        go_wp2_with fail
        refine cI.mono ?_
        rintro e w1 ⟨rfl, q1⟩
        go_wp2_with fail
        exact ⟨⟨k + 1, by omega, by go_num, by rw [HE.out], HB.out.trans (q1.mono hbs)⟩, by simp [intOf]; omega⟩
    · have hkl : k = xs.length := by omega
      subst hkl
      clear HR HX HIH HZ HZ1
      go_wp2_with fail
      go_ret
      exact ⟨by rw [← HJ.out]; rfl, HB.out⟩

end Go.Proofs.YtaphjoggjfmbfabDoor
