/- What the reference's exprShown answers, at every expression that may be: its text. -/
import Derived.Test.YtaphjoggjfmbfabDoorShowRef
namespace Go.Proofs.YtaphjoggjfmbfabDoor
open Go.RowKit

/-- what the walk of a region with two calls holds on to: nothing below has turned, and these cells read so. -/
def Held (w : World) (bb off cap : Nat) (kd nu : Int) (fo na : ByteArray) (va1 : Option Addr) (va2 va3 : Nat) (ke ne : Int) (fe se : ByteArray) (ve1 : Option Addr) (ve2 ve3 : Nat) (k n : Int) (o s : ByteArray) (W : World) : Prop :=
  Below (w.heap.size + 1) (w.alloc (.cells #[.int .i64 k, .int .i64 n, .string o, .string s, .slice (some ⟨bb, off, none⟩) 2 cap] 47)) W ∧ W.cell? ⟨w.heap.size, 4, none⟩ = some (.slice (some ⟨bb, off, none⟩) 2 cap) ∧
  W.cell? ⟨bb, off, none⟩ = some (.int .i64 kd) ∧ W.cell? ⟨bb, off + 1, none⟩ = some (.int .i64 nu) ∧ W.cell? ⟨bb, off + 2, none⟩ = some (.string fo) ∧ W.cell? ⟨bb, off + 3, none⟩ = some (.string na) ∧ W.cell? ⟨bb, off + 4, none⟩ = some (.slice va1 va2 va3) ∧
  W.cell? ⟨bb, off + 5, none⟩ = some (.int .i64 ke) ∧ W.cell? ⟨bb, off + 5 + 1, none⟩ = some (.int .i64 ne) ∧ W.cell? ⟨bb, off + 5 + 2, none⟩ = some (.string fe) ∧ W.cell? ⟨bb, off + 5 + 3, none⟩ = some (.string se) ∧ W.cell? ⟨bb, off + 5 + 4, none⟩ = some (.slice ve1 ve2 ve3)

theorem Held.next {w : World} {bb off cap : Nat} {kd nu : Int} {fo na : ByteArray} {va1 : Option Addr} {va2 va3 : Nat} {ke ne : Int} {fe se : ByteArray} {ve1 : Option Addr} {ve2 ve3 : Nat} {k n : Int} {o s : ByteArray} {W W' : World} (hbw : bb < w.heap.size)
    (h : Held w bb off cap kd nu fo na va1 va2 va3 ke ne fe se ve1 ve2 ve3 k n o s W) (hb : Below W.heap.size W W') : Held w bb off cap kd nu fo na va1 va2 va3 ke ne fe se ve1 ve2 ve3 k n o s W' := by
  obtain ⟨h0, h1, h2, h3, h4, h5, h6, h7, h8, h9, h10, h11⟩ := h
  have hs : w.heap.size + 1 ≤ W.heap.size := by have := h0.size; simpa using this
  have hc : ∀ c j, c < W.heap.size → W'.cell? ⟨c, j, none⟩ = W.cell? ⟨c, j, none⟩ := fun c j h => hb.cell (p := ⟨c, j, none⟩) h
  refine ⟨h0.trans (hb.mono hs), ?_, ?_, ?_, ?_, ?_, ?_, ?_, ?_, ?_, ?_, ?_⟩
  · rw [hc _ _ (by omega)]; exact h1
  all_goals (rw [hc _ _ (by omega)]; assumption)

set_option maxHeartbeats 4000000 in
set_option maxRecDepth 100000 in
theorem exprShown_k5 (d : Nat) (ih : ExprShows (d + 1)) (S : Nat → Prop) (n : Int) (o s : ByteArray) (x0 x1 : Ex) (a : Option Addr) (cap : Nat) (w : World) (hS : ∀ c, S c → c < w.heap.size) (hxs : exsFault [x0, x1] (d + 1) = 0)
    (hrest : [x0, x1].length = 0 ∨ ∃ b o, a = some ⟨b, o, none⟩ ∧ S b ∧ RowAt (ExAt S w) 5 [x0, x1] b o) :
    Calls Tryd.prog 13 #[.agg #[.int .i64 5, .int .i64 n, .string o, .string s, .slice a 2 cap]] w fun e w' => e = .returned (.string (textOf (exShown (.mk 5 n o s [x0, x1])))) ∧ Below w.heap.size w w' := by
      have HIH := veil ih
      clear ih
      have HB : Hid (Below w.heap.size w (w.alloc (.cells #[.int .i64 5, .int .i64 n, .string o, .string s, .slice a 2 cap] 47))) := (Below.refl _ _).alloc (Nat.le_refl _) _
      rcases hrest with h0 | ⟨bb, off, rfl, hb, hrow⟩
      · simp at h0
      have hbw := hS bb hb
      have hx0 := hrow.get 0 (by simp)
      have hx1 := hrow.get 1 (by simp)
      simp only [Nat.zero_mul, Nat.one_mul, Nat.add_zero, List.getElem_cons_zero, List.getElem_cons_succ] at hx0 hx1
      have f0 : exFault x0 (d + 1) = 0 := exs_at hxs 0 (by simp)
      have f1 : exFault x1 (d + 1) = 0 := exs_at hxs 1 (by simp)
      have hh0 : exFst [x0, x1] = exShown x0 := by rw [exFst]
      have hh1 : exSnd [x0, x1] = exShown x1 := by rw [exSnd, exFst]
      have y0 := ex_size 11 x0 (d + 1) (by omega) f0
      have y1 := ex_size 11 x1 (d + 1) (by omega) f1
      have e11 : 20 * 10 ^ 11 = 2000000000000 := by decide
      rw [e11] at y0 y1
      have s0 : (textOf (exShown x0)).size = (exShown x0).length := rfl
      have s1 : (textOf (exShown x1)).size = (exShown x1).length := rfl
      obtain ⟨kd, nu, fo, na, va, c0, c1, c2, c3, c4, hcs⟩ := exAt_cells.1 hx0
      obtain ⟨va1, va2, va3, rfl⟩ := hcs.slice
      obtain ⟨ke, ne, fe, se, ve, g0, g1, g2, g3, g4, hce⟩ := exAt_cells.1 hx1
      obtain ⟨ve1, ve2, ve3, rfl⟩ := hce.slice
      have C0 : Hid (∀ W : World, Below (w.heap.size + 1) (w.alloc (.cells #[.int .i64 5, .int .i64 n, .string o, .string s, .slice (some ⟨bb, off, none⟩) 2 cap] 47)) W → Calls Tryd.prog 13 #[.agg #[.int .i64 kd, .int .i64 nu, .string fo, .string na, .slice va1 va2 va3]] W fun e w' => e = .returned (.string (textOf (exShown x0))) ∧ Below W.heap.size W w') := fun W hW => by
        have hb2 : Below w.heap.size w W := HB.out.trans (hW.mono (by omega))
        exact HIH.out S x0 _ W (fun c h => Nat.lt_of_lt_of_le (hS c h) hb2.size) ⟨_, _, _, _, _, rfl, hcs.keep (Keeps.below hb2 hS)⟩ f0
      have C1 : Hid (∀ W : World, Below (w.heap.size + 1) (w.alloc (.cells #[.int .i64 5, .int .i64 n, .string o, .string s, .slice (some ⟨bb, off, none⟩) 2 cap] 47)) W → Calls Tryd.prog 13 #[.agg #[.int .i64 ke, .int .i64 ne, .string fe, .string se, .slice ve1 ve2 ve3]] W fun e w' => e = .returned (.string (textOf (exShown x1))) ∧ Below W.heap.size W w') := fun W hW => by
        have hb2 : Below w.heap.size w W := HB.out.trans (hW.mono (by omega))
        exact HIH.out S x1 _ W (fun c h => Nat.lt_of_lt_of_le (hS c h) hb2.size) ⟨_, _, _, _, _, rfl, hce.keep (Keeps.below hb2 hS)⟩ f1
      have HK0 : Hid (Held w bb off cap kd nu fo na va1 va2 va3 ke ne fe se ve1 ve2 ve3 5 n o s (w.alloc (.cells #[.int .i64 5, .int .i64 n, .string o, .string s, .slice (some ⟨bb, off, none⟩) 2 cap] 47)).drew) := by
        refine ⟨(Below.refl _ _).drew, ?_, ?_, ?_, ?_, ?_, ?_, ?_, ?_, ?_, ?_, ?_⟩
        · exact World.cell?_alloc_at _ _ _ _ rfl
        all_goals (refine (World.cell?_alloc_old _ _ _ (by show bb ≠ _; omega)).trans ?_; assumption)
      have HE : Hid (ByteArray.mk #[40] ++ textOf (exShown x0) ++ ByteArray.mk #[32, 43, 32] ++ textOf (exShown x1) ++ ByteArray.mk #[41] = textOf (exShown (.mk 5 n o s [x0, x1]))) := by
        show _ = _
        rw [exShown, if_neg (by decide), if_neg (by decide), if_neg (by decide), if_neg (by decide), if_pos rfl, hh0, hh1, ← textOf_append, ← textOf_append, ← textOf_append, ← textOf_append, ByteArray.append_assoc, ByteArray.append_assoc, ByteArray.append_assoc]
        rfl
      have z1 : ¬ 9223372036854775807 < 1 + (textOf (exShown x0)).size := by omega
      have z2 : ¬ 9223372036854775807 < 1 + (textOf (exShown x0)).size + 3 := by omega
      have z3 : ¬ 9223372036854775807 < 1 + (textOf (exShown x0)).size + 3 + (textOf (exShown x1)).size := by omega
      have z4 : ¬ 9223372036854775807 < 1 + (textOf (exShown x0)).size + 3 + (textOf (exShown x1)).size + 1 := by omega
      have HN := veil (fun (W W' : World) (h : Held w bb off cap kd nu fo na va1 va2 va3 ke ne fe se ve1 ve2 ve3 5 n o s W) (hb : Below W.heap.size W W') => Held.next (W' := W') hbw h hb)
      have HL0 := veil (fun (W : World) (h : Held w bb off cap kd nu fo na va1 va2 va3 ke ne fe se ve1 ve2 ve3 5 n o s W) => h.1)
      clear c0 c1 c2 c3 c4 g0 g1 g2 g3 g4 hcs hce hx0 hx1 hrow f0 f1 hh0 hh1 y0 y1 e11 s0 s1 hxs
      generalize exShown x0 = t0 at *
      generalize exShown x1 = t1 at *
      go_enter Tryd.func13, Tryd.ntmps13
      go_wp2_with fail
      go_region_held3 (fun W => Below (w.heap.size + 1) (w.alloc (.cells #[.int .i64 5, .int .i64 n, .string o, .string s, .slice (some ⟨bb, off, none⟩) 2 cap] 47)) W ∧ W.cell? ⟨w.heap.size, 4, none⟩ = some (.slice (some ⟨bb, off, none⟩) 2 cap) ∧ W.cell? ⟨bb, off, none⟩ = some (.int .i64 kd) ∧ W.cell? ⟨bb, off + 1, none⟩ = some (.int .i64 nu) ∧ W.cell? ⟨bb, off + 2, none⟩ = some (.string fo) ∧ W.cell? ⟨bb, off + 3, none⟩ = some (.string na) ∧ W.cell? ⟨bb, off + 4, none⟩ = some (.slice va1 va2 va3) ∧ W.cell? ⟨bb, off + 5, none⟩ = some (.int .i64 ke) ∧ W.cell? ⟨bb, off + 5 + 1, none⟩ = some (.int .i64 ne) ∧ W.cell? ⟨bb, off + 5 + 2, none⟩ = some (.string fe) ∧ W.cell? ⟨bb, off + 5 + 3, none⟩ = some (.string se) ∧ W.cell? ⟨bb, off + 5 + 4, none⟩ = some (.slice ve1 ve2 ve3)) (first | exact HK0.out | exact HN.out _ _ (by assumption) (by assumption))
        (first | (go_at_call_of 13 (Value.slice va1 va2 va3); refine (C0.out _ ?_).mono ?_; (exact HL0.out _ (by assumption)); rintro e w' ⟨rfl, hb'⟩) | (go_at_call_of 13 (Value.slice ve1 ve2 ve3); refine (C1.out _ ?_).mono ?_; (exact HL0.out _ (by assumption)); rintro e w' ⟨rfl, hb'⟩))
      all_goals
        go_wp2_with fail
        go_ret
        exact ⟨by rw [← HE.out]; rfl, HB.out.trans ((HL0.out _ (by assumption)).mono (by omega))⟩

set_option maxHeartbeats 4000000 in
set_option maxRecDepth 100000 in
theorem exprShown_k7 (d : Nat) (ih : ExprShows (d + 1)) (S : Nat → Prop) (n : Int) (o s : ByteArray) (x0 x1 : Ex) (a : Option Addr) (cap : Nat) (w : World) (hS : ∀ c, S c → c < w.heap.size) (hxs : exsFault [x0, x1] (d + 1) = 0)
    (hrest : [x0, x1].length = 0 ∨ ∃ b o, a = some ⟨b, o, none⟩ ∧ S b ∧ RowAt (ExAt S w) 5 [x0, x1] b o) :
    Calls Tryd.prog 13 #[.agg #[.int .i64 7, .int .i64 n, .string o, .string s, .slice a 2 cap]] w fun e w' => e = .returned (.string (textOf (exShown (.mk 7 n o s [x0, x1])))) ∧ Below w.heap.size w w' := by
      have HIH := veil ih
      clear ih
      have HB : Hid (Below w.heap.size w (w.alloc (.cells #[.int .i64 7, .int .i64 n, .string o, .string s, .slice a 2 cap] 47))) := (Below.refl _ _).alloc (Nat.le_refl _) _
      rcases hrest with h0 | ⟨bb, off, rfl, hb, hrow⟩
      · simp at h0
      have hbw := hS bb hb
      have hx0 := hrow.get 0 (by simp)
      have hx1 := hrow.get 1 (by simp)
      simp only [Nat.zero_mul, Nat.one_mul, Nat.add_zero, List.getElem_cons_zero, List.getElem_cons_succ] at hx0 hx1
      have f0 : exFault x0 (d + 1) = 0 := exs_at hxs 0 (by simp)
      have f1 : exFault x1 (d + 1) = 0 := exs_at hxs 1 (by simp)
      have hh0 : exFst [x0, x1] = exShown x0 := by rw [exFst]
      have hh1 : exSnd [x0, x1] = exShown x1 := by rw [exSnd, exFst]
      have y0 := ex_size 11 x0 (d + 1) (by omega) f0
      have y1 := ex_size 11 x1 (d + 1) (by omega) f1
      have e11 : 20 * 10 ^ 11 = 2000000000000 := by decide
      rw [e11] at y0 y1
      have s0 : (textOf (exShown x0)).size = (exShown x0).length := rfl
      have s1 : (textOf (exShown x1)).size = (exShown x1).length := rfl
      obtain ⟨kd, nu, fo, na, va, c0, c1, c2, c3, c4, hcs⟩ := exAt_cells.1 hx0
      obtain ⟨va1, va2, va3, rfl⟩ := hcs.slice
      obtain ⟨ke, ne, fe, se, ve, g0, g1, g2, g3, g4, hce⟩ := exAt_cells.1 hx1
      obtain ⟨ve1, ve2, ve3, rfl⟩ := hce.slice
      have C0 : Hid (∀ W : World, Below (w.heap.size + 1) (w.alloc (.cells #[.int .i64 7, .int .i64 n, .string o, .string s, .slice (some ⟨bb, off, none⟩) 2 cap] 47)) W → Calls Tryd.prog 13 #[.agg #[.int .i64 kd, .int .i64 nu, .string fo, .string na, .slice va1 va2 va3]] W fun e w' => e = .returned (.string (textOf (exShown x0))) ∧ Below W.heap.size W w') := fun W hW => by
        have hb2 : Below w.heap.size w W := HB.out.trans (hW.mono (by omega))
        exact HIH.out S x0 _ W (fun c h => Nat.lt_of_lt_of_le (hS c h) hb2.size) ⟨_, _, _, _, _, rfl, hcs.keep (Keeps.below hb2 hS)⟩ f0
      have C1 : Hid (∀ W : World, Below (w.heap.size + 1) (w.alloc (.cells #[.int .i64 7, .int .i64 n, .string o, .string s, .slice (some ⟨bb, off, none⟩) 2 cap] 47)) W → Calls Tryd.prog 13 #[.agg #[.int .i64 ke, .int .i64 ne, .string fe, .string se, .slice ve1 ve2 ve3]] W fun e w' => e = .returned (.string (textOf (exShown x1))) ∧ Below W.heap.size W w') := fun W hW => by
        have hb2 : Below w.heap.size w W := HB.out.trans (hW.mono (by omega))
        exact HIH.out S x1 _ W (fun c h => Nat.lt_of_lt_of_le (hS c h) hb2.size) ⟨_, _, _, _, _, rfl, hce.keep (Keeps.below hb2 hS)⟩ f1
      have HK0 : Hid (Held w bb off cap kd nu fo na va1 va2 va3 ke ne fe se ve1 ve2 ve3 7 n o s (w.alloc (.cells #[.int .i64 7, .int .i64 n, .string o, .string s, .slice (some ⟨bb, off, none⟩) 2 cap] 47)).drew) := by
        refine ⟨(Below.refl _ _).drew, ?_, ?_, ?_, ?_, ?_, ?_, ?_, ?_, ?_, ?_, ?_⟩
        · exact World.cell?_alloc_at _ _ _ _ rfl
        all_goals (refine (World.cell?_alloc_old _ _ _ (by show bb ≠ _; omega)).trans ?_; assumption)
      have HE : Hid (textOf (exShown x0) ++ ByteArray.mk #[91] ++ textOf (exShown x1) ++ ByteArray.mk #[93] = textOf (exShown (.mk 7 n o s [x0, x1]))) := by
        show _ = _
        rw [exShown, if_neg (by decide), if_neg (by decide), if_neg (by decide), if_neg (by decide), if_neg (by decide), if_neg (by decide), hh0, hh1, ← textOf_append, ← textOf_append, ← textOf_append, ByteArray.append_assoc, ByteArray.append_assoc]
        rfl
      have z1 : ¬ 9223372036854775807 < (textOf (exShown x0)).size + 1 := by omega
      have z2 : ¬ 9223372036854775807 < (textOf (exShown x0)).size + 1 + (textOf (exShown x1)).size := by omega
      have z3 : ¬ 9223372036854775807 < (textOf (exShown x0)).size + 1 + (textOf (exShown x1)).size + 1 := by omega
      have HN := veil (fun (W W' : World) (h : Held w bb off cap kd nu fo na va1 va2 va3 ke ne fe se ve1 ve2 ve3 7 n o s W) (hb : Below W.heap.size W W') => Held.next (W' := W') hbw h hb)
      have HL0 := veil (fun (W : World) (h : Held w bb off cap kd nu fo na va1 va2 va3 ke ne fe se ve1 ve2 ve3 7 n o s W) => h.1)
      clear c0 c1 c2 c3 c4 g0 g1 g2 g3 g4 hcs hce hx0 hx1 hrow f0 f1 hh0 hh1 y0 y1 e11 s0 s1 hxs
      generalize exShown x0 = t0 at *
      generalize exShown x1 = t1 at *
      go_enter Tryd.func13, Tryd.ntmps13
      go_wp2_with fail
      go_region_held3 (fun W => Below (w.heap.size + 1) (w.alloc (.cells #[.int .i64 7, .int .i64 n, .string o, .string s, .slice (some ⟨bb, off, none⟩) 2 cap] 47)) W ∧ W.cell? ⟨w.heap.size, 4, none⟩ = some (.slice (some ⟨bb, off, none⟩) 2 cap) ∧ W.cell? ⟨bb, off, none⟩ = some (.int .i64 kd) ∧ W.cell? ⟨bb, off + 1, none⟩ = some (.int .i64 nu) ∧ W.cell? ⟨bb, off + 2, none⟩ = some (.string fo) ∧ W.cell? ⟨bb, off + 3, none⟩ = some (.string na) ∧ W.cell? ⟨bb, off + 4, none⟩ = some (.slice va1 va2 va3) ∧ W.cell? ⟨bb, off + 5, none⟩ = some (.int .i64 ke) ∧ W.cell? ⟨bb, off + 5 + 1, none⟩ = some (.int .i64 ne) ∧ W.cell? ⟨bb, off + 5 + 2, none⟩ = some (.string fe) ∧ W.cell? ⟨bb, off + 5 + 3, none⟩ = some (.string se) ∧ W.cell? ⟨bb, off + 5 + 4, none⟩ = some (.slice ve1 ve2 ve3)) (first | exact HK0.out | exact HN.out _ _ (by assumption) (by assumption))
        (first | (go_at_call_of 13 (Value.slice va1 va2 va3); refine (C0.out _ ?_).mono ?_; (exact HL0.out _ (by assumption)); rintro e w' ⟨rfl, hb'⟩) | (go_at_call_of 13 (Value.slice ve1 ve2 ve3); refine (C1.out _ ?_).mono ?_; (exact HL0.out _ (by assumption)); rintro e w' ⟨rfl, hb'⟩))
      all_goals
        go_wp2_with fail
        go_ret
        exact ⟨by rw [← HE.out]; rfl, HB.out.trans ((HL0.out _ (by assumption)).mono (by omega))⟩

set_option maxHeartbeats 4000000 in
set_option maxRecDepth 100000 in
theorem exprShown_k4 (d : Nat) (ih : ExprShows (d + 1)) (S : Nat → Prop) (n : Int) (o s : ByteArray) (xs : List Ex) (a : Option Addr) (cap : Nat) (w : World) (hS : ∀ c, S c → c < w.heap.size) (hxs : exsFault xs (d + 1) = 0) (h8 : xs.length ≤ 8) (hnf : namesFit 4 o s = true)
    (hsl : SlAt S (ExAt S w) 5 xs (.slice a xs.length cap)) :
    Calls Tryd.prog 13 #[.agg #[.int .i64 4, .int .i64 n, .string o, .string s, .slice a xs.length cap]] w fun e w' => e = .returned (.string (textOf (exShown (.mk 4 n o s xs)))) ∧ Below w.heap.size w w' := by
  have HIH := veil ih
  clear ih
  have HB : Hid (Below w.heap.size w (w.alloc (.cells #[.int .i64 4, .int .i64 n, .string o, .string s, .slice a xs.length cap] 47))) := (Below.refl _ _).alloc (Nat.le_refl _) _
  have hnf' : (identOk s && noneOrIdent o) = true := hnf
  simp only [Bool.and_eq_true] at hnf'
  have y0 : o.data.toList.length = o.size := rfl
  have y1 : s.data.toList.length = s.size := rfl
  have y2 := noneOr_size hnf'.2
  have y3 := ident_size hnf'.1
  have y4 : (exJoin xs).length ≤ 8 * (20 * 10 ^ 11 + 2) := by
    rw [← exTo_all]
    exact Nat.le_trans (exTo_size xs _ (fun j hj => ex_size 11 xs[j] (d + 1) (by omega) (exs_at hxs j hj)) xs.length (Nat.le_refl _)) (Nat.mul_le_mul_right _ h8)
  have e11 : 20 * 10 ^ 11 = 2000000000000 := by decide
  rw [e11] at y4
  have s1 : (textOf (exJoin xs)).size = (exJoin xs).length := rfl
  have z1 : ¬ 9223372036854775807 < s.size + 1 := by omega
  have z2 : ¬ 9223372036854775807 < s.size + 1 + (textOf (exJoin xs)).size := by omega
  have z3 : ¬ 9223372036854775807 < s.size + 1 + (textOf (exJoin xs)).size + 1 := by omega
  have z4 : ¬ 9223372036854775807 < o.size + 1 := by omega
  have z5 : ¬ 9223372036854775807 < o.size + 1 + (s.size + 1 + (textOf (exJoin xs)).size + 1) := by omega
  have C0 : Hid (∀ W : World, Below (w.heap.size + 1) (w.alloc (.cells #[.int .i64 4, .int .i64 n, .string o, .string s, .slice a xs.length cap] 47)) W → Calls Tryd.prog 28 #[.slice a xs.length cap] W fun e w' => e = .returned (.string (textOf (exJoin xs))) ∧ Below W.heap.size W w') := fun W hW => by
    have hb2 : Below w.heap.size w W := HB.out.trans (hW.mono (by omega))
    exact listShown_any (d + 1) HIH.out S xs _ W (fun c h => Nat.lt_of_lt_of_le (hS c h) hb2.size) (exSl_keep (Keeps.below hb2 hS) hsl) (exs_at hxs) h8
  have HK0 : Hid ((fun W => Below (w.heap.size + 1) (w.alloc (.cells #[.int .i64 4, .int .i64 n, .string o, .string s, .slice a xs.length cap] 47)) W ∧ W.cell? ⟨w.heap.size, 2, none⟩ = some (.string o) ∧ W.cell? ⟨w.heap.size, 3, none⟩ = some (.string s) ∧ W.cell? ⟨w.heap.size, 4, none⟩ = some (.slice a xs.length cap)) (w.alloc (.cells #[.int .i64 4, .int .i64 n, .string o, .string s, .slice a xs.length cap] 47)).drew) := ⟨(Below.refl _ _).drew, World.cell?_alloc_at _ _ _ _ rfl, World.cell?_alloc_at _ _ _ _ rfl, World.cell?_alloc_at _ _ _ _ rfl⟩
  have HN : Hid (∀ W W' : World, (Below (w.heap.size + 1) (w.alloc (.cells #[.int .i64 4, .int .i64 n, .string o, .string s, .slice a xs.length cap] 47)) W ∧ W.cell? ⟨w.heap.size, 2, none⟩ = some (.string o) ∧ W.cell? ⟨w.heap.size, 3, none⟩ = some (.string s) ∧ W.cell? ⟨w.heap.size, 4, none⟩ = some (.slice a xs.length cap)) → Below W.heap.size W W' → (Below (w.heap.size + 1) (w.alloc (.cells #[.int .i64 4, .int .i64 n, .string o, .string s, .slice a xs.length cap] 47)) W' ∧ W'.cell? ⟨w.heap.size, 2, none⟩ = some (.string o) ∧ W'.cell? ⟨w.heap.size, 3, none⟩ = some (.string s) ∧ W'.cell? ⟨w.heap.size, 4, none⟩ = some (.slice a xs.length cap))) := by
    rintro W W' ⟨h0, h1, h2, h3⟩ hb
    have hs : w.heap.size + 1 ≤ W.heap.size := by have := h0.size; simpa using this
    have hc : ∀ c j, c < W.heap.size → W'.cell? ⟨c, j, none⟩ = W.cell? ⟨c, j, none⟩ := fun c j h => hb.cell (p := ⟨c, j, none⟩) h
    exact ⟨h0.trans (hb.mono hs), (hc _ _ (by omega)).trans h1, (hc _ _ (by omega)).trans h2, (hc _ _ (by omega)).trans h3⟩
  have HL0 : Hid (∀ W : World, (Below (w.heap.size + 1) (w.alloc (.cells #[.int .i64 4, .int .i64 n, .string o, .string s, .slice a xs.length cap] 47)) W ∧ W.cell? ⟨w.heap.size, 2, none⟩ = some (.string o) ∧ W.cell? ⟨w.heap.size, 3, none⟩ = some (.string s) ∧ W.cell? ⟨w.heap.size, 4, none⟩ = some (.slice a xs.length cap)) → Below (w.heap.size + 1) (w.alloc (.cells #[.int .i64 4, .int .i64 n, .string o, .string s, .slice a xs.length cap] 47)) W) := fun W h => h.1
  have HNF := veil (noneB_text o)
  have HS : Hid (exShown (.mk 4 n o s xs) = nameShown o s ++ ([40] ++ (exJoin xs ++ [41]))) := by show _ = _; rw [exShown]; rfl
  have HE0 : Hid (s ++ ByteArray.mk #[40] ++ textOf (exJoin xs) ++ ByteArray.mk #[41] = textOf (s.data.toList ++ ([40] ++ (exJoin xs ++ [41])))) := by
    show _ = _
    rw [← textOf_append, ← textOf_append, ← textOf_append, textOf_data, ByteArray.append_assoc, ByteArray.append_assoc]
    rfl
  clear hsl hxs h8 hnf hnf' y0 y1 y2 y3 y4 e11 s1 HIH
  cases ho : (o.toList == [])
  · have HE : Hid (o ++ ByteArray.mk #[46] ++ (s ++ ByteArray.mk #[40] ++ textOf (exJoin xs) ++ ByteArray.mk #[41]) = textOf (exShown (.mk 4 n o s xs))) := by
      show _ = _
      rw [HS.out, nameShown, if_neg (by rw [← HNF.out, ho]; simp), HE0.out, List.append_assoc, ← textOf_append, textOf_data, ByteArray.append_assoc, List.append_assoc, ← textOf_append]
      rfl
    clear HS HE0
    generalize exJoin xs = tj at *
    go_enter Tryd.func13, Tryd.ntmps13
    go_wp2_with fail
    go_region_held3 (fun W => Below (w.heap.size + 1) (w.alloc (.cells #[.int .i64 4, .int .i64 n, .string o, .string s, .slice a xs.length cap] 47)) W ∧ W.cell? ⟨w.heap.size, 2, none⟩ = some (.string o) ∧ W.cell? ⟨w.heap.size, 3, none⟩ = some (.string s) ∧ W.cell? ⟨w.heap.size, 4, none⟩ = some (.slice a xs.length cap)) (first | exact HK0.out | exact HN.out _ _ (by assumption) (by assumption))
      (first | (go_at_call_of 28 (Value.slice a xs.length cap); refine (C0.out _ ?_).mono ?_; (exact HL0.out _ (by assumption)); rintro e w' ⟨rfl, hb'⟩))
    all_goals
      rename_i hHeld
      obtain ⟨hH0, hH1, hH2, hH3⟩ := hHeld
      have HH := veil hH0
      clear hH0
      go_wp2_with fail
      go_ret
      exact ⟨by rw [← HE.out]; rfl, HB.out.trans (HH.out.mono (by omega))⟩
  · have HE : Hid (s ++ ByteArray.mk #[40] ++ textOf (exJoin xs) ++ ByteArray.mk #[41] = textOf (exShown (.mk 4 n o s xs))) := by
      show _ = _
      rw [HS.out, nameShown, if_pos (by rw [← HNF.out, ho]), HE0.out]
    clear HS HE0
    generalize exJoin xs = tj at *
    go_enter Tryd.func13, Tryd.ntmps13
    go_wp2_with fail
    go_region_held3 (fun W => Below (w.heap.size + 1) (w.alloc (.cells #[.int .i64 4, .int .i64 n, .string o, .string s, .slice a xs.length cap] 47)) W ∧ W.cell? ⟨w.heap.size, 2, none⟩ = some (.string o) ∧ W.cell? ⟨w.heap.size, 3, none⟩ = some (.string s) ∧ W.cell? ⟨w.heap.size, 4, none⟩ = some (.slice a xs.length cap)) (first | exact HK0.out | exact HN.out _ _ (by assumption) (by assumption))
      (first | (go_at_call_of 28 (Value.slice a xs.length cap); refine (C0.out _ ?_).mono ?_; (exact HL0.out _ (by assumption)); rintro e w' ⟨rfl, hb'⟩))
    all_goals
      rename_i hHeld
      obtain ⟨hH0, hH1, hH2, hH3⟩ := hHeld
      have HH := veil hH0
      clear hH0
      go_wp2_with fail
      go_ret
      exact ⟨by rw [← HE.out]; rfl, HB.out.trans (HH.out.mono (by omega))⟩

set_option maxHeartbeats 4000000 in
set_option maxRecDepth 100000 in
theorem exprShown_step (d : Nat) (ih : ExprShows (d + 1)) : ExprShows d := by
  rintro S t v w hS ⟨k, n, o, s, va, rfl, xs, rfl, hos, hss, hsl⟩ hf
  obtain ⟨hd10, hk, h8, hk1, hnf, hcf, hr, hxs⟩ := ex_ok hf
  obtain ⟨a, cap, rfl, hl, hrest⟩ := hsl
  have HIH := veil ih
  clear ih hf
  have HB : Hid (Below w.heap.size w (w.alloc (.cells #[.int .i64 k, .int .i64 n, .string o, .string s, .slice a xs.length cap] 47))) := (Below.refl _ _).alloc (Nat.le_refl _) _
  have hk7 : k = 1 ∨ k = 2 ∨ k = 3 ∨ k = 4 ∨ k = 5 ∨ k = 6 ∨ k = 7 := by simp [isIn] at hk; omega
  clear hk
  rcases hk7 with rfl | rfl | rfl | rfl | rfl | rfl | rfl
  · have hb : 0 ≤ n ∧ n ≤ 999999 := by simpa [isIn] using hr
    have en : ((n.toNat : Nat) : Int) = n := by omega
    have cD := fun W => dec_any 6 n.toNat (by omega) (by omega) W
    rw [en] at cD
    have HS : Hid (exShown (.mk 1 n o s xs) = Lib.decDigits n.toNat) := by show _ = _; rw [exShown]; rfl
    have CD := veil cD
    clear cD hrest en hb
    go_enter Tryd.func13, Tryd.ntmps13
    go_wp2_with fail
    refine (CD.out _).mono ?_
    rintro e w1 ⟨rfl, q1⟩
    go_wp2_with fail
    go_ret
    exact ⟨by rw [HS.out]; rfl, HB.out.trans (q1.mono (by simp))⟩
  · have hnf' : (quoteOk s && noneB o) = true := hnf
    simp only [Bool.and_eq_true] at hnf'
    have y1 : s.data.toList.length = s.size := rfl
    have y2 := quote_size hnf'.1
    have z1 : ¬ 9223372036854775807 < 1 + s.size := by omega
    have z2 : ¬ 9223372036854775807 < 1 + s.size + 1 := by omega
    have HE : Hid (ByteArray.mk #[34] ++ s ++ ByteArray.mk #[34] = textOf (exShown (.mk 2 n o s xs))) := by
      show _ = _
      rw [exShown, if_neg (by decide), if_pos rfl, ← textOf_append, ← textOf_append, textOf_data, ByteArray.append_assoc]
      rfl
    clear hrest y1 y2 hnf' HIH
    go_enter Tryd.func13, Tryd.ntmps13
    go_wp2_with fail
    go_ret
    exact ⟨by rw [← HE.out]; rfl, HB.out⟩
  · have HE : Hid (s = textOf (exShown (.mk 3 n o s xs))) := by
      show _ = _
      rw [exShown, if_neg (by decide), if_neg (by decide), if_pos rfl, textOf_data]
    clear hrest HIH
    go_enter Tryd.func13, Tryd.ntmps13
    go_wp2_with fail
    go_ret
    exact ⟨by rw [← HE.out]; rfl, HB.out⟩
  · exact exprShown_k4 d HIH.out S n o s xs a cap w hS hxs h8 hnf ⟨a, cap, rfl, hl, hrest⟩
  · have hc : xs.length = 2 := by
      have hcf' : (xs.length == 2) = true := hcf
      simpa using hcf'
    match xs, hc with
    | [x0, x1], _ => exact exprShown_k5 d HIH.out S n o s x0 x1 a cap w hS hxs hrest
  · have y4 : (exJoin xs).length ≤ 8 * (20 * 10 ^ 11 + 2) := by
      rw [← exTo_all]
      exact Nat.le_trans (exTo_size xs _ (fun j hj => ex_size 11 xs[j] (d + 1) (by omega) (exs_at hxs j hj)) xs.length (Nat.le_refl _)) (Nat.mul_le_mul_right _ h8)
    have e11 : 20 * 10 ^ 11 = 2000000000000 := by decide
    rw [e11] at y4
    have s1 : (textOf (exJoin xs)).size = (exJoin xs).length := rfl
    have z1 : ¬ 9223372036854775807 < 1 + (textOf (exJoin xs)).size := by omega
    have z2 : ¬ 9223372036854775807 < 1 + (textOf (exJoin xs)).size + 1 := by omega
    have HE : Hid (ByteArray.mk #[91] ++ textOf (exJoin xs) ++ ByteArray.mk #[93] = textOf (exShown (.mk 6 n o s xs))) := by
      show _ = _
      rw [exShown, if_neg (by decide), if_neg (by decide), if_neg (by decide), if_neg (by decide), if_neg (by decide), if_pos rfl, ← textOf_append, ← textOf_append, ByteArray.append_assoc]
      rfl
    have CL := veil (listShown_any (d + 1) HIH.out S xs (.slice a xs.length cap) _ (fun c h => Nat.lt_of_lt_of_le (hS c h) HB.out.size) (exSl_keep (Keeps.below HB.out hS) ⟨a, cap, rfl, hl, hrest⟩) (exs_at hxs) h8)
    clear hrest y4 e11 s1 HIH
    generalize exJoin xs = tj at *
    go_enter Tryd.func13, Tryd.ntmps13
    go_wp2_with fail
    refine CL.out.mono ?_
    rintro e w1 ⟨rfl, q1⟩
    go_wp2_with fail
    go_ret
    exact ⟨by rw [← HE.out]; rfl, HB.out.trans (q1.mono (by simp))⟩
  · have hc : xs.length = 2 := by
      have hcf' : (xs.length == 2) = true := hcf
      simpa using hcf'
    match xs, hc with
    | [x0, x1], _ => exact exprShown_k7 d HIH.out S n o s x0 x1 a cap w hS hxs hrest

theorem exprShown_any : ∀ (m d : Nat), 10 < d + m → ExprShows d := by
  intro m
  induction m with
  | zero =>
    rintro d hd S ⟨k, n, o, s, xs⟩ v w hS hv hf
    have := (ex_ok hf).1
    omega
  | succ m ih =>
    intro d hd
    exact exprShown_step d (ih (d + 1) (by omega))

end Go.Proofs.YtaphjoggjfmbfabDoor
