/- Two values that are the same plain type, or expression, are told to be the same. -/
import Derived.Test.YtpamadnckijfkabGreatDoorTree
import Derived.Deep.RegionWith
namespace Go.Proofs.YtpamadnckijfkabGreatDoor
open Go.RowKit
set_option maxRecDepth 100000

set_option maxHeartbeats 4000000 in
theorem sameType_any : ∀ (m : Nat) (t : Ty), SizeOf.sizeOf t ≤ m → ∀ (S : Nat → Prop) (v u : Value) (w : World), (∀ b, S b → b < w.heap.size) → TyIs S w t v → TyIs S w t u →
    Calls Tryz.prog 18 #[v, u] w fun e w' => e = .returned (.bool true) ∧ Below w.heap.size w w' := by
  intro m
  induction m with
  | zero =>
    intro t ht
    cases t
    simp at ht
  | succ m ih =>
    rintro t ht S v u w hS ⟨k, f, n, va, rfl, xs, rfl, hf, hn, hsl⟩ ⟨k2, f2, n2, va2, rfl, xs2, ht2, hf2, hn2, hsl2⟩
    injection ht2 with e1 e2 e3 e4
    subst e1 e2 e3 e4
    have HIH : Hid (∀ j (hj : j < xs.length), ∀ (S : Nat → Prop) (v u : Value) (w : World), (∀ b, S b → b < w.heap.size) → TyIs S w xs[j] v → TyIs S w xs[j] u → Calls Tryz.prog 18 #[v, u] w fun e w' => e = .returned (.bool true) ∧ Below w.heap.size w w') := fun j hj => ih _ (by
      have h1 := List.sizeOf_lt_of_mem (List.getElem_mem hj)
      simp at ht
      omega)
    clear ih ht
    obtain ⟨a, cap, rfl, ⟨hlen, hlenC⟩, hrest⟩ := hsl
    obtain ⟨a2, cap2, rfl, ⟨hlen2, hlenC2⟩, hrest2⟩ := hsl2
    unfold maxLen at hlen
    have HR := veil hrest
    have HR2 := veil hrest2
    clear hrest hrest2 hlen2
    have hw2 : ∃ w2, (w.alloc (.cells #[.int .i64 k, .string f, .string n, .slice a xs.length cap] 49)).alloc (.cells #[.int .i64 k, .string f, .string n, .slice a2 xs.length cap2] 49) = w2 ∧ w2.heap.size = w.heap.size + 2 ∧ w2.cell? ⟨w.heap.size, 3, none⟩ = some (.slice a xs.length cap) ∧ w2.cell? ⟨w.heap.size + 1, 3, none⟩ = some (.slice a2 xs.length cap2) ∧ Below w.heap.size w w2 := by
      have n0 : (w.alloc (.cells #[.int .i64 k, .string f, .string n, .slice a xs.length cap] 49)).heap.size = w.heap.size + 1 := by simp
      refine ⟨_, rfl, by simp, ?_, ?_, ((Below.refl _ _).alloc (Nat.le_refl _) _).alloc (by omega) _⟩
      · rw [World.cell?_alloc_old _ _ _ (by show w.heap.size ≠ _; omega)]
        exact World.cell?_alloc_at _ _ _ _ rfl
      · rw [← n0]
        exact World.cell?_alloc_at _ _ _ _ rfl
    obtain ⟨w2, hwe, hs2, p0, p1, hbel⟩ := hw2
    have HWe := veil hwe
    have HP0 := veil p0
    have HP1 := veil p1
    have HBel := veil hbel
    clear hwe p0 p1 hbel
    go_enter Tryz.func18, Tryz.ntmps18
    go_wp2_with fail
    rw [HWe.out]
    clear HWe
    go_loopw [5] (fun i wr => ∃ j : Nat, j ≤ xs.length ∧ i = .int .i64 j ∧ Below (w.heap.size + 2) w2 wr) (fun i _ => xs.length - (intOf i).toNat)
    case atStart => exact ⟨0, Nat.zero_le _, rfl, Below.refl _ _⟩
    case round =>
      obtain ⟨j, hj, rfl, hbl⟩ := hrel
      have c3 := (hbl.cell (p := ⟨w.heap.size, 3, none⟩) (by show w.heap.size < _; omega)).trans HP0.out
      have g3 := (hbl.cell (p := ⟨w.heap.size + 1, 3, none⟩) (by show w.heap.size + 1 < _; omega)).trans HP1.out
      have hbw := HBel.out.trans (hbl.mono (show w.heap.size ≤ w.heap.size + 2 by omega))
      have HBL := veil hbl
      have HBW := veil hbw
      have hszr := hbl.size
      clear hbl
      by_cases hlt : j < xs.length
      · have hlt' : (j : Int) < (xs.length : Int) := by omega
        rcases HR.out with h0 | ⟨b, off, rfl, hb, hrow⟩
        · omega
        rcases HR2.out with h0 | ⟨b2, off2, rfl, hb2, hrow2⟩
        · omega
        have hbk := hS b hb
        have hbk2 := hS b2 hb2
        obtain ⟨kd, fo, na, va, a0, a1, a2, a3, hcs⟩ := tyAt_cells.1 (hrow.get j hlt)
        obtain ⟨va1, va2, va3, rfl⟩ := hcs.slice
        obtain ⟨ke, fe, ne, ve, b0, b1, b2', b3, hce⟩ := tyAt_cells.1 (hrow2.get j hlt)
        obtain ⟨ve1, ve2, ve3, rfl⟩ := hce.slice
        have d0 := (hbw.cell (p := ⟨b, off + j * 4, none⟩) hbk).trans a0
        have d1 := (hbw.cell (p := ⟨b, off + j * 4 + 1, none⟩) hbk).trans a1
        have d2 := (hbw.cell (p := ⟨b, off + j * 4 + 2, none⟩) hbk).trans a2
        have d3 := (hbw.cell (p := ⟨b, off + j * 4 + 3, none⟩) hbk).trans a3
        have e0 := (hbw.cell (p := ⟨b2, off2 + j * 4, none⟩) hbk2).trans b0
        have e1 := (hbw.cell (p := ⟨b2, off2 + j * 4 + 1, none⟩) hbk2).trans b1
        have e2 := (hbw.cell (p := ⟨b2, off2 + j * 4 + 2, none⟩) hbk2).trans b2'
        have e3 := (hbw.cell (p := ⟨b2, off2 + j * 4 + 3, none⟩) hbk2).trans b3
        have C0 : Hid (∀ W : World, Below wr.heap.size wr W → Calls Tryz.prog 18 #[.agg #[.int .i64 kd, .string fo, .string na, .slice va1 va2 va3], .agg #[.int .i64 ke, .string fe, .string ne, .slice ve1 ve2 ve3]] W fun e w' => e = .returned (.bool true) ∧ Below wr.heap.size wr w') := fun W hW => by
          have hbW : Below w.heap.size w W := hbw.trans (hW.mono hbw.size)
          refine (HIH.out j hlt S _ _ W (fun c h => Nat.lt_of_lt_of_le (hS c h) hbW.size) ⟨_, _, _, _, rfl, hcs.keep (Keeps.below hbW hS)⟩ ⟨_, _, _, _, rfl, hce.keep (Keeps.below hbW hS)⟩).mono ?_
          rintro e w' ⟨rfl, hb'⟩
          exact ⟨rfl, hW.trans (hb'.mono hW.size)⟩
        have HR0 : Hid (Below wr.heap.size wr wr.drew) := (Below.refl _ _).drew
        clear hrow hrow2 a0 a1 a2 a3 b0 b1 b2' b3 hcs hce HR HR2 HIH hbw
        go_wp2_with fail
        go_region_with (go_at_call 18; refine (C0.out _ (by first | exact HR0.out | exact Below.refl _ _)).mono ?_; rintro e w' ⟨rfl, hb'⟩)
        all_goals
          go_wp2_with fail
          exact ⟨⟨j + 1, by omega, by go_num, HBL.out.trans (hb'.mono (by omega))⟩, by simp [intOf]; omega⟩
      · have hnl : ¬ (j : Int) < (xs.length : Int) := by omega
        clear HR HR2 HIH
        go_wp2_with fail
        go_ret
        exact ⟨rfl, HBW.out⟩

set_option maxHeartbeats 4000000 in
theorem sameExpr_any : ∀ (m : Nat) (t : Ex), SizeOf.sizeOf t ≤ m → ∀ (S : Nat → Prop) (v u : Value) (w : World), (∀ b, S b → b < w.heap.size) → ExIs S w t v → ExIs S w t u →
    Calls Tryz.prog 19 #[v, u] w fun e w' => e = .returned (.bool true) ∧ Below w.heap.size w w' := by
  intro m
  induction m with
  | zero =>
    intro t ht
    cases t
    simp at ht
  | succ m ih =>
    rintro t ht S v u w hS ⟨k, q, f, n, va, rfl, xs, rfl, hf, hn, hsl⟩ ⟨k2, q2, f2, n2, va2, rfl, xs2, ht2, hf2, hn2, hsl2⟩
    injection ht2 with e1 e2 e3 e4 e5
    subst e1 e2 e3 e4 e5
    have HIH : Hid (∀ j (hj : j < xs.length), ∀ (S : Nat → Prop) (v u : Value) (w : World), (∀ b, S b → b < w.heap.size) → ExIs S w xs[j] v → ExIs S w xs[j] u → Calls Tryz.prog 19 #[v, u] w fun e w' => e = .returned (.bool true) ∧ Below w.heap.size w w') := fun j hj => ih _ (by
      have h1 := List.sizeOf_lt_of_mem (List.getElem_mem hj)
      simp at ht
      omega)
    clear ih ht
    obtain ⟨a, cap, rfl, ⟨hlen, hlenC⟩, hrest⟩ := hsl
    obtain ⟨a2, cap2, rfl, ⟨hlen2, hlenC2⟩, hrest2⟩ := hsl2
    unfold maxLen at hlen
    have HR := veil hrest
    have HR2 := veil hrest2
    clear hrest hrest2 hlen2
    have hw2 : ∃ w2, (w.alloc (.cells #[.int .i64 k, .int .i64 q, .string f, .string n, .slice a xs.length cap] 52)).alloc (.cells #[.int .i64 k, .int .i64 q, .string f, .string n, .slice a2 xs.length cap2] 52) = w2 ∧ w2.heap.size = w.heap.size + 2 ∧ w2.cell? ⟨w.heap.size, 4, none⟩ = some (.slice a xs.length cap) ∧ w2.cell? ⟨w.heap.size + 1, 4, none⟩ = some (.slice a2 xs.length cap2) ∧ Below w.heap.size w w2 := by
      have n0 : (w.alloc (.cells #[.int .i64 k, .int .i64 q, .string f, .string n, .slice a xs.length cap] 52)).heap.size = w.heap.size + 1 := by simp
      refine ⟨_, rfl, by simp, ?_, ?_, ((Below.refl _ _).alloc (Nat.le_refl _) _).alloc (by omega) _⟩
      · rw [World.cell?_alloc_old _ _ _ (by show w.heap.size ≠ _; omega)]
        exact World.cell?_alloc_at _ _ _ _ rfl
      · rw [← n0]
        exact World.cell?_alloc_at _ _ _ _ rfl
    obtain ⟨w2, hwe, hs2, p0, p1, hbel⟩ := hw2
    have HWe := veil hwe
    have HP0 := veil p0
    have HP1 := veil p1
    have HBel := veil hbel
    clear hwe p0 p1 hbel
    go_enter Tryz.func19, Tryz.ntmps19
    go_wp2_with fail
    rw [HWe.out]
    clear HWe
    go_loopw [5] (fun i wr => ∃ j : Nat, j ≤ xs.length ∧ i = .int .i64 j ∧ Below (w.heap.size + 2) w2 wr) (fun i _ => xs.length - (intOf i).toNat)
    case atStart => exact ⟨0, Nat.zero_le _, rfl, Below.refl _ _⟩
    case round =>
      obtain ⟨j, hj, rfl, hbl⟩ := hrel
      have c3 := (hbl.cell (p := ⟨w.heap.size, 4, none⟩) (by show w.heap.size < _; omega)).trans HP0.out
      have g3 := (hbl.cell (p := ⟨w.heap.size + 1, 4, none⟩) (by show w.heap.size + 1 < _; omega)).trans HP1.out
      have hbw := HBel.out.trans (hbl.mono (show w.heap.size ≤ w.heap.size + 2 by omega))
      have HBL := veil hbl
      have HBW := veil hbw
      have hszr := hbl.size
      clear hbl
      by_cases hlt : j < xs.length
      · have hlt' : (j : Int) < (xs.length : Int) := by omega
        rcases HR.out with h0 | ⟨b, off, rfl, hb, hrow⟩
        · omega
        rcases HR2.out with h0 | ⟨b2, off2, rfl, hb2, hrow2⟩
        · omega
        have hbk := hS b hb
        have hbk2 := hS b2 hb2
        obtain ⟨kd, qd, fo, na, va, a0, a1, a2, a3, a4, hcs⟩ := exAt_cells.1 (hrow.get j hlt)
        obtain ⟨va1, va2, va3, rfl⟩ := hcs.slice
        obtain ⟨ke, qe, fe, ne, ve, b0, b1, b2', b3, b4, hce⟩ := exAt_cells.1 (hrow2.get j hlt)
        obtain ⟨ve1, ve2, ve3, rfl⟩ := hce.slice
        have d0 := (hbw.cell (p := ⟨b, off + j * 5, none⟩) hbk).trans a0
        have d1 := (hbw.cell (p := ⟨b, off + j * 5 + 1, none⟩) hbk).trans a1
        have d2 := (hbw.cell (p := ⟨b, off + j * 5 + 2, none⟩) hbk).trans a2
        have d3 := (hbw.cell (p := ⟨b, off + j * 5 + 3, none⟩) hbk).trans a3
        have d4 := (hbw.cell (p := ⟨b, off + j * 5 + 4, none⟩) hbk).trans a4
        have e0 := (hbw.cell (p := ⟨b2, off2 + j * 5, none⟩) hbk2).trans b0
        have e1 := (hbw.cell (p := ⟨b2, off2 + j * 5 + 1, none⟩) hbk2).trans b1
        have e2 := (hbw.cell (p := ⟨b2, off2 + j * 5 + 2, none⟩) hbk2).trans b2'
        have e3 := (hbw.cell (p := ⟨b2, off2 + j * 5 + 3, none⟩) hbk2).trans b3
        have e4 := (hbw.cell (p := ⟨b2, off2 + j * 5 + 4, none⟩) hbk2).trans b4
        have C0 : Hid (∀ W : World, Below wr.heap.size wr W → Calls Tryz.prog 19 #[.agg #[.int .i64 kd, .int .i64 qd, .string fo, .string na, .slice va1 va2 va3], .agg #[.int .i64 ke, .int .i64 qe, .string fe, .string ne, .slice ve1 ve2 ve3]] W fun e w' => e = .returned (.bool true) ∧ Below wr.heap.size wr w') := fun W hW => by
          have hbW : Below w.heap.size w W := hbw.trans (hW.mono hbw.size)
          refine (HIH.out j hlt S _ _ W (fun c h => Nat.lt_of_lt_of_le (hS c h) hbW.size) ⟨_, _, _, _, _, rfl, hcs.keep (Keeps.below hbW hS)⟩ ⟨_, _, _, _, _, rfl, hce.keep (Keeps.below hbW hS)⟩).mono ?_
          rintro e w' ⟨rfl, hb'⟩
          exact ⟨rfl, hW.trans (hb'.mono hW.size)⟩
        have HR0 : Hid (Below wr.heap.size wr wr.drew) := (Below.refl _ _).drew
        clear hrow hrow2 a0 a1 a2 a3 a4 b0 b1 b2' b3 b4 hcs hce HR HR2 HIH hbw
        go_wp2_with fail
        go_region_with (go_at_call 19; refine (C0.out _ (by first | exact HR0.out | exact Below.refl _ _)).mono ?_; rintro e w' ⟨rfl, hb'⟩)
        all_goals
          go_wp2_with fail
          exact ⟨⟨j + 1, by omega, by go_num, HBL.out.trans (hb'.mono (by omega))⟩, by simp [intOf]; omega⟩
      · have hnl : ¬ (j : Int) < (xs.length : Int) := by omega
        clear HR HR2 HIH
        go_wp2_with fail
        go_ret
        exact ⟨rfl, HBW.out⟩

end Go.Proofs.YtpamadnckijfkabGreatDoor
