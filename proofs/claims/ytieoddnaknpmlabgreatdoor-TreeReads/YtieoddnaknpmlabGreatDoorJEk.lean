/- Two values that are the same plain type, or expression, are told to be the same. -/
import Derived.Test.YtieoddnaknpmlabGreatDoorJA
import Derived.Deep.RegionWith
import Derived.Deep.RegionHeld3
namespace Go.Proofs.YtieoddnaknpmlabGreatDoor
open Go.RowKit
set_option maxRecDepth 100000

set_option maxHeartbeats 4000000 in
theorem sameType_any : ∀ (m : Nat) (t : Ty), SizeOf.sizeOf t ≤ m → ∀ (S : Nat → Prop) (v u : Value) (w : World), (∀ b, S b → b < w.heap.size) → TyIs S w t v → TyIs S w t u →
    Calls Tryz.prog 18 #[v, u] w fun e w' => e = .returned (.bool true) ∧ Below w.heap.size w w' := by
  intro m
  induction m with
  | zero =>
    intro t ht
    cases t
    simp at ht
  | succ m ih =>
    rintro t ht S v u w hS ⟨k, f, n, va, rfl, xs, rfl, hf, hn, hsl⟩ ⟨k2, f2, n2, va2, rfl, xs2, ht2, hf2, hn2, hsl2⟩
    injection ht2 with e1 e2 e3 e4
    subst e1 e2 e3 e4
    have HIH : Hid (∀ j (hj : j < xs.length), ∀ (S : Nat → Prop) (v u : Value) (w : World), (∀ b, S b → b < w.heap.size) → TyIs S w xs[j] v → TyIs S w xs[j] u → Calls Tryz.prog 18 #[v, u] w fun e w' => e = .returned (.bool true) ∧ Below w.heap.size w w') := fun j hj => ih _ (by
      have h1 := List.sizeOf_lt_of_mem (List.getElem_mem hj)
      simp at ht
      omega)
    clear ih ht
    obtain ⟨a, cap, rfl, ⟨hlen, hlenC⟩, hrest⟩ := hsl
    obtain ⟨a2, cap2, rfl, ⟨hlen2, hlenC2⟩, hrest2⟩ := hsl2
    unfold maxLen at hlen
    have HR := veil hrest
    have HR2 := veil hrest2
    clear hrest hrest2 hlen2
    have hw2 : ∃ w2, (w.alloc (.cells #[.int .i64 k, .string f, .string n, .slice a xs.length cap] 49)).alloc (.cells #[.int .i64 k, .string f, .string n, .slice a2 xs.length cap2] 49) = w2 ∧ w2.heap.size = w.heap.size + 2 ∧ w2.cell? ⟨w.heap.size, 3, none⟩ = some (.slice a xs.length cap) ∧ w2.cell? ⟨w.heap.size + 1, 3, none⟩ = some (.slice a2 xs.length cap2) ∧ Below w.heap.size w w2 := by
      have n0 : (w.alloc (.cells #[.int .i64 k, .string f, .string n, .slice a xs.length cap] 49)).heap.size = w.heap.size + 1 := by simp
      refine ⟨_, rfl, by simp, ?_, ?_, ((Below.refl _ _).alloc (Nat.le_refl _) _).alloc (by omega) _⟩
      · rw [World.cell?_alloc_old _ _ _ (by show w.heap.size ≠ _; omega)]
        exact World.cell?_alloc_at _ _ _ _ rfl
      · rw [← n0]
        exact World.cell?_alloc_at _ _ _ _ rfl
    obtain ⟨w2, hwe, hs2, p0, p1, hbel⟩ := hw2
    have HWe := veil hwe
    have HP0 := veil p0
    have HP1 := veil p1
    have HBel := veil hbel
    clear hwe p0 p1 hbel
    go_enter Tryz.func18, Tryz.ntmps18
    go_wp2_with fail
    rw [HWe.out]
    clear HWe
    go_loopw [5] (fun i wr => ∃ j : Nat, j ≤ xs.length ∧ i = .int .i64 j ∧ Below (w.heap.size + 2) w2 wr) (fun i _ => xs.length - (intOf i).toNat)
    case atStart => exact ⟨0, Nat.zero_le _, rfl, Below.refl _ _⟩
    case round =>
      obtain ⟨j, hj, rfl, hbl⟩ := hrel
      have c3 := (hbl.cell (p := ⟨w.heap.size, 3, none⟩) (by show w.heap.size < _; omega)).trans HP0.out
      have g3 := (hbl.cell (p := ⟨w.heap.size + 1, 3, none⟩) (by show w.heap.size + 1 < _; omega)).trans HP1.out
      have hbw := HBel.out.trans (hbl.mono (show w.heap.size ≤ w.heap.size + 2 by omega))
      have HBL := veil hbl
      have HBW := veil hbw
      have hszr := hbl.size
      clear hbl
      by_cases hlt : j < xs.length
      · have hlt' : (j : Int) < (xs.length : Int) := by omega
        rcases HR.out with h0 | ⟨b, off, rfl, hb, hrow⟩
        · omega
        rcases HR2.out with h0 | ⟨b2, off2, rfl, hb2, hrow2⟩
        · omega
        have hbk := hS b hb
        have hbk2 := hS b2 hb2
        obtain ⟨kd, fo, na, va, a0, a1, a2, a3, hcs⟩ := tyAt_cells.1 (hrow.get j hlt)
        obtain ⟨va1, va2, va3, rfl⟩ := hcs.slice
        obtain ⟨ke, fe, ne, ve, b0, b1, b2', b3, hce⟩ := tyAt_cells.1 (hrow2.get j hlt)
        obtain ⟨ve1, ve2, ve3, rfl⟩ := hce.slice
        have d0 := (hbw.cell (p := ⟨b, off + j * 4, none⟩) hbk).trans a0
        have d1 := (hbw.cell (p := ⟨b, off + j * 4 + 1, none⟩) hbk).trans a1
        have d2 := (hbw.cell (p := ⟨b, off + j * 4 + 2, none⟩) hbk).trans a2
        have d3 := (hbw.cell (p := ⟨b, off + j * 4 + 3, none⟩) hbk).trans a3
        have e0 := (hbw.cell (p := ⟨b2, off2 + j * 4, none⟩) hbk2).trans b0
        have e1 := (hbw.cell (p := ⟨b2, off2 + j * 4 + 1, none⟩) hbk2).trans b1
        have e2 := (hbw.cell (p := ⟨b2, off2 + j * 4 + 2, none⟩) hbk2).trans b2'
        have e3 := (hbw.cell (p := ⟨b2, off2 + j * 4 + 3, none⟩) hbk2).trans b3
        have C0 : Hid (∀ W : World, Below wr.heap.size wr W → Calls Tryz.prog 18 #[.agg #[.int .i64 kd, .string fo, .string na, .slice va1 va2 va3], .agg #[.int .i64 ke, .string fe, .string ne, .slice ve1 ve2 ve3]] W fun e w' => e = .returned (.bool true) ∧ Below wr.heap.size wr w') := fun W hW => by
          have hbW : Below w.heap.size w W := hbw.trans (hW.mono hbw.size)
          refine (HIH.out j hlt S _ _ W (fun c h => Nat.lt_of_lt_of_le (hS c h) hbW.size) ⟨_, _, _, _, rfl, hcs.keep (Keeps.below hbW hS)⟩ ⟨_, _, _, _, rfl, hce.keep (Keeps.below hbW hS)⟩).mono ?_
          rintro e w' ⟨rfl, hb'⟩
          exact ⟨rfl, hW.trans (hb'.mono hW.size)⟩
        have HR0 : Hid (Below wr.heap.size wr wr.drew) := (Below.refl _ _).drew
        clear hrow hrow2 a0 a1 a2 a3 b0 b1 b2' b3 hcs hce HR HR2 HIH hbw
        go_wp2_with fail
        go_region_with (go_at_call 18; refine (C0.out _ (by first | exact HR0.out | exact Below.refl _ _)).mono ?_; rintro e w' ⟨rfl, hb'⟩)
        all_goals
          go_wp2_with fail
          exact ⟨⟨j + 1, by omega, by go_num, HBL.out.trans (hb'.mono (by omega))⟩, by simp [intOf]; omega⟩
      · have hnl : ¬ (j : Int) < (xs.length : Int) := by omega
        clear HR HR2 HIH
        go_wp2_with fail
        go_ret
        exact ⟨rfl, HBW.out⟩

set_option maxHeartbeats 4000000 in
theorem sameExpr_any : ∀ (m : Nat) (t : Ex), SizeOf.sizeOf t ≤ m → ∀ (S : Nat → Prop) (v u : Value) (w : World), (∀ b, S b → b < w.heap.size) → ExIs S w t v → ExIs S w t u →
    Calls Tryz.prog 19 #[v, u] w fun e w' => e = .returned (.bool true) ∧ Below w.heap.size w w' := by
  intro m
  induction m with
  | zero =>
    intro t ht
    cases t
    simp at ht
  | succ m ih =>
    rintro t ht S v u w hS ⟨k, q, f, n, va, rfl, xs, rfl, hf, hn, hsl⟩ ⟨k2, q2, f2, n2, va2, rfl, xs2, ht2, hf2, hn2, hsl2⟩
    injection ht2 with e1 e2 e3 e4 e5
    subst e1 e2 e3 e4 e5
    have HIH : Hid (∀ j (hj : j < xs.length), ∀ (S : Nat → Prop) (v u : Value) (w : World), (∀ b, S b → b < w.heap.size) → ExIs S w xs[j] v → ExIs S w xs[j] u → Calls Tryz.prog 19 #[v, u] w fun e w' => e = .returned (.bool true) ∧ Below w.heap.size w w') := fun j hj => ih _ (by
      have h1 := List.sizeOf_lt_of_mem (List.getElem_mem hj)
      simp at ht
      omega)
    clear ih ht
    obtain ⟨a, cap, rfl, ⟨hlen, hlenC⟩, hrest⟩ := hsl
    obtain ⟨a2, cap2, rfl, ⟨hlen2, hlenC2⟩, hrest2⟩ := hsl2
    unfold maxLen at hlen
    have HR := veil hrest
    have HR2 := veil hrest2
    clear hrest hrest2 hlen2
    have hw2 : ∃ w2, (w.alloc (.cells #[.int .i64 k, .int .i64 q, .string f, .string n, .slice a xs.length cap] 52)).alloc (.cells #[.int .i64 k, .int .i64 q, .string f, .string n, .slice a2 xs.length cap2] 52) = w2 ∧ w2.heap.size = w.heap.size + 2 ∧ w2.cell? ⟨w.heap.size, 4, none⟩ = some (.slice a xs.length cap) ∧ w2.cell? ⟨w.heap.size + 1, 4, none⟩ = some (.slice a2 xs.length cap2) ∧ Below w.heap.size w w2 := by
      have n0 : (w.alloc (.cells #[.int .i64 k, .int .i64 q, .string f, .string n, .slice a xs.length cap] 52)).heap.size = w.heap.size + 1 := by simp
      refine ⟨_, rfl, by simp, ?_, ?_, ((Below.refl _ _).alloc (Nat.le_refl _) _).alloc (by omega) _⟩
      · rw [World.cell?_alloc_old _ _ _ (by show w.heap.size ≠ _; omega)]
        exact World.cell?_alloc_at _ _ _ _ rfl
      · rw [← n0]
        exact World.cell?_alloc_at _ _ _ _ rfl
    obtain ⟨w2, hwe, hs2, p0, p1, hbel⟩ := hw2
    have HWe := veil hwe
    have HP0 := veil p0
    have HP1 := veil p1
    have HBel := veil hbel
    clear hwe p0 p1 hbel
    go_enter Tryz.func19, Tryz.ntmps19
    go_wp2_with fail
    rw [HWe.out]
    clear HWe
    go_loopw [5] (fun i wr => ∃ j : Nat, j ≤ xs.length ∧ i = .int .i64 j ∧ Below (w.heap.size + 2) w2 wr) (fun i _ => xs.length - (intOf i).toNat)
    case atStart => exact ⟨0, Nat.zero_le _, rfl, Below.refl _ _⟩
    case round =>
      obtain ⟨j, hj, rfl, hbl⟩ := hrel
      have c3 := (hbl.cell (p := ⟨w.heap.size, 4, none⟩) (by show w.heap.size < _; omega)).trans HP0.out
      have g3 := (hbl.cell (p := ⟨w.heap.size + 1, 4, none⟩) (by show w.heap.size + 1 < _; omega)).trans HP1.out
      have hbw := HBel.out.trans (hbl.mono (show w.heap.size ≤ w.heap.size + 2 by omega))
      have HBL := veil hbl
      have HBW := veil hbw
      have hszr := hbl.size
      clear hbl
      by_cases hlt : j < xs.length
      · have hlt' : (j : Int) < (xs.length : Int) := by omega
        rcases HR.out with h0 | ⟨b, off, rfl, hb, hrow⟩
        · omega
        rcases HR2.out with h0 | ⟨b2, off2, rfl, hb2, hrow2⟩
        · omega
        have hbk := hS b hb
        have hbk2 := hS b2 hb2
        obtain ⟨kd, qd, fo, na, va, a0, a1, a2, a3, a4, hcs⟩ := exAt_cells.1 (hrow.get j hlt)
        obtain ⟨va1, va2, va3, rfl⟩ := hcs.slice
        obtain ⟨ke, qe, fe, ne, ve, b0, b1, b2', b3, b4, hce⟩ := exAt_cells.1 (hrow2.get j hlt)
        obtain ⟨ve1, ve2, ve3, rfl⟩ := hce.slice
        have d0 := (hbw.cell (p := ⟨b, off + j * 5, none⟩) hbk).trans a0
        have d1 := (hbw.cell (p := ⟨b, off + j * 5 + 1, none⟩) hbk).trans a1
        have d2 := (hbw.cell (p := ⟨b, off + j * 5 + 2, none⟩) hbk).trans a2
        have d3 := (hbw.cell (p := ⟨b, off + j * 5 + 3, none⟩) hbk).trans a3
        have d4 := (hbw.cell (p := ⟨b, off + j * 5 + 4, none⟩) hbk).trans a4
        have e0 := (hbw.cell (p := ⟨b2, off2 + j * 5, none⟩) hbk2).trans b0
        have e1 := (hbw.cell (p := ⟨b2, off2 + j * 5 + 1, none⟩) hbk2).trans b1
        have e2 := (hbw.cell (p := ⟨b2, off2 + j * 5 + 2, none⟩) hbk2).trans b2'
        have e3 := (hbw.cell (p := ⟨b2, off2 + j * 5 + 3, none⟩) hbk2).trans b3
        have e4 := (hbw.cell (p := ⟨b2, off2 + j * 5 + 4, none⟩) hbk2).trans b4
        have C0 : Hid (∀ W : World, Below wr.heap.size wr W → Calls Tryz.prog 19 #[.agg #[.int .i64 kd, .int .i64 qd, .string fo, .string na, .slice va1 va2 va3], .agg #[.int .i64 ke, .int .i64 qe, .string fe, .string ne, .slice ve1 ve2 ve3]] W fun e w' => e = .returned (.bool true) ∧ Below wr.heap.size wr w') := fun W hW => by
          have hbW : Below w.heap.size w W := hbw.trans (hW.mono hbw.size)
          refine (HIH.out j hlt S _ _ W (fun c h => Nat.lt_of_lt_of_le (hS c h) hbW.size) ⟨_, _, _, _, _, rfl, hcs.keep (Keeps.below hbW hS)⟩ ⟨_, _, _, _, _, rfl, hce.keep (Keeps.below hbW hS)⟩).mono ?_
          rintro e w' ⟨rfl, hb'⟩
          exact ⟨rfl, hW.trans (hb'.mono hW.size)⟩
        have HR0 : Hid (Below wr.heap.size wr wr.drew) := (Below.refl _ _).drew
        clear hrow hrow2 a0 a1 a2 a3 a4 b0 b1 b2' b3 b4 hcs hce HR HR2 HIH hbw
        go_wp2_with fail
        go_region_with (go_at_call 19; refine (C0.out _ (by first | exact HR0.out | exact Below.refl _ _)).mono ?_; rintro e w' ⟨rfl, hb'⟩)
        all_goals
          go_wp2_with fail
          exact ⟨⟨j + 1, by omega, by go_num, HBL.out.trans (hb'.mono (by omega))⟩, by simp [intOf]; omega⟩
      · have hnl : ¬ (j : Int) < (xs.length : Int) := by omega
        clear HR HR2 HIH
        go_wp2_with fail
        go_ret
        exact ⟨rfl, HBW.out⟩

end Go.Proofs.YtieoddnaknpmlabGreatDoor

/- Two values that hold the same texts, or fields, are told to be the same. -/
namespace Go.Proofs.YtieoddnaknpmlabGreatDoor
open Go.RowKit
set_option maxRecDepth 100000

set_option maxHeartbeats 4000000 in
theorem sameTexts_any (S : Nat → Prop) (l : List ByteArray) (v u : Value) (w : World) (hS : ∀ b, S b → b < w.heap.size) (hv : SlAt S (StrAt w) 1 l v) (hu : SlAt S (StrAt w) 1 l u) :
    Calls Tryz.prog 16 #[v, u] w fun e w' => e = .returned (.bool true) ∧ Below w.heap.size w w' := by
  obtain ⟨a, cap, rfl, ⟨hlen, hlenC⟩, hrest⟩ := hv
  obtain ⟨a2, cap2, rfl, ⟨hlen2, hlenC2⟩, hrest2⟩ := hu
  unfold maxLen at hlen
  have HR := veil hrest
  have HR2 := veil hrest2
  clear hrest hrest2 hlen2
  go_enter Tryz.func16, Tryz.ntmps16
  go_wp2_with fail
  go_loopw [5] (fun i wr => ∃ j : Nat, j ≤ l.length ∧ i = .int .i64 j ∧ Below w.heap.size w wr) (fun i _ => l.length - (intOf i).toNat)
  case atStart => exact ⟨0, Nat.zero_le _, rfl, Below.refl _ _⟩
  case round =>
    obtain ⟨j, hj, rfl, hbl⟩ := hrel
    have HBL := veil hbl
    by_cases hlt : j < l.length
    · have hlt' : (j : Int) < (l.length : Int) := by omega
      rcases HR.out with h0 | ⟨b, off, rfl, hb, hrow⟩
      · omega
      rcases HR2.out with h0 | ⟨b2, off2, rfl, hb2, hrow2⟩
      · omega
      have hbk := hS b hb
      have hbk2 := hS b2 hb2
      have a0 := (hrow.get j hlt).1
      have b0 := (hrow2.get j hlt).1
      rw [Nat.mul_one] at a0 b0
      have d0 := (hbl.cell (p := ⟨b, off + j, none⟩) hbk).trans a0
      have e0 := (hbl.cell (p := ⟨b2, off2 + j, none⟩) hbk2).trans b0
      have HD : Hid (Below w.heap.size w wr.drew) := HBL.out.drew
      clear hrow hrow2 a0 b0 HR HR2 hbl
      generalize l[j] = tx at *
      go_wp2_with fail
      go_region
      all_goals
        go_wp2_with fail
        exact ⟨⟨j + 1, by omega, by go_num, HD.out⟩, by simp [intOf]; omega⟩
    · have hnl : ¬ (j : Int) < (l.length : Int) := by omega
      clear HR HR2 hbl
      go_wp2_with fail
      go_ret
      exact ⟨rfl, HBL.out⟩

set_option maxHeartbeats 8000000 in
theorem sameFields_any (S : Nat → Prop) (l : List Fd) (v u : Value) (w : World) (hS : ∀ b, S b → b < w.heap.size) (hv : SlAt S (FdAt S w) 5 l v) (hu : SlAt S (FdAt S w) 5 l u) :
    Calls Tryz.prog 17 #[v, u] w fun e w' => e = .returned (.bool true) ∧ Below w.heap.size w w' := by
  obtain ⟨a, cap, rfl, ⟨hlen, hlenC⟩, hrest⟩ := hv
  obtain ⟨a2, cap2, rfl, ⟨hlen2, hlenC2⟩, hrest2⟩ := hu
  unfold maxLen at hlen
  have HR := veil hrest
  have HR2 := veil hrest2
  clear hrest hrest2 hlen2
  go_enter Tryz.func17, Tryz.ntmps17
  go_wp2_with fail
  go_loopw [5] (fun i wr => ∃ j : Nat, j ≤ l.length ∧ i = .int .i64 j ∧ Below w.heap.size w wr) (fun i _ => l.length - (intOf i).toNat)
  case atStart => exact ⟨0, Nat.zero_le _, rfl, Below.refl _ _⟩
  case round =>
    obtain ⟨j, hj, rfl, hbl⟩ := hrel
    have HBL := veil hbl
    by_cases hlt : j < l.length
    · have hlt' : (j : Int) < (l.length : Int) := by omega
      rcases HR.out with h0 | ⟨b, off, rfl, hb, hrow⟩
      · omega
      rcases HR2.out with h0 | ⟨b2, off2, rfl, hb2, hrow2⟩
      · omega
      have hbk := hS b hb
      have hbk2 := hS b2 hb2
      have hszr := hbl.size
      obtain ⟨⟨a0, _⟩, hty⟩ := hrow.get j hlt
      obtain ⟨⟨b0, _⟩, hty2⟩ := hrow2.get j hlt
      obtain ⟨kd, fo, na, va, a1, a2, a3, a4, hcs⟩ := tyAt_cells.1 hty
      obtain ⟨va1, va2, va3, rfl⟩ := hcs.slice
      obtain ⟨ke, fe, ne, ve, b1, b2', b3, b4, hce⟩ := tyAt_cells.1 hty2
      obtain ⟨ve1, ve2, ve3, rfl⟩ := hce.slice
      have d0 := (hbl.cell (p := ⟨b, off + j * 5, none⟩) hbk).trans a0
      have d1 := (hbl.cell (p := ⟨b, off + j * 5 + 1, none⟩) hbk).trans a1
      have d2 := (hbl.cell (p := ⟨b, off + j * 5 + 1 + 1, none⟩) hbk).trans a2
      have d3 := (hbl.cell (p := ⟨b, off + j * 5 + 1 + 2, none⟩) hbk).trans a3
      have d4 := (hbl.cell (p := ⟨b, off + j * 5 + 1 + 3, none⟩) hbk).trans a4
      have e0 := (hbl.cell (p := ⟨b2, off2 + j * 5, none⟩) hbk2).trans b0
      have e1 := (hbl.cell (p := ⟨b2, off2 + j * 5 + 1, none⟩) hbk2).trans b1
      have e2 := (hbl.cell (p := ⟨b2, off2 + j * 5 + 1 + 1, none⟩) hbk2).trans b2'
      have e3 := (hbl.cell (p := ⟨b2, off2 + j * 5 + 1 + 2, none⟩) hbk2).trans b3
      have e4 := (hbl.cell (p := ⟨b2, off2 + j * 5 + 1 + 3, none⟩) hbk2).trans b4
      rw [Nat.add_assoc] at d2 d3 d4 e2 e3 e4
      have C0 : Hid (∀ W : World, Below w.heap.size w W → Calls Tryz.prog 18 #[.agg #[.int .i64 kd, .string fo, .string na, .slice va1 va2 va3], .agg #[.int .i64 ke, .string fe, .string ne, .slice ve1 ve2 ve3]] W fun e w' => e = .returned (.bool true) ∧ Below W.heap.size W w') := fun W hbW =>
        sameType_any _ _ (Nat.le_refl _) S _ _ W (fun c h => Nat.lt_of_lt_of_le (hS c h) hbW.size) ⟨_, _, _, _, rfl, hcs.keep (Keeps.below hbW hS)⟩ ⟨_, _, _, _, rfl, hce.keep (Keeps.below hbW hS)⟩
      clear hrow hrow2 a0 a1 a2 a3 a4 b0 b1 b2' b3 b4 hcs hce hty hty2 HR HR2 hbl
      generalize l[j] = pj at *
      have HK0 : Hid (Below w.heap.size w wr.drew ∧ wr.drew.cell? ⟨b, off + j * 5, none⟩ = some (.string pj.name) ∧ wr.drew.cell? ⟨b, off + j * 5 + 1, none⟩ = some (.int .i64 kd) ∧ wr.drew.cell? ⟨b, off + j * 5 + 2, none⟩ = some (.string fo) ∧ wr.drew.cell? ⟨b, off + j * 5 + 3, none⟩ = some (.string na) ∧ wr.drew.cell? ⟨b, off + j * 5 + 4, none⟩ = some (.slice va1 va2 va3) ∧ wr.drew.cell? ⟨b2, off2 + j * 5, none⟩ = some (.string pj.name) ∧ wr.drew.cell? ⟨b2, off2 + j * 5 + 1, none⟩ = some (.int .i64 ke) ∧ wr.drew.cell? ⟨b2, off2 + j * 5 + 2, none⟩ = some (.string fe) ∧ wr.drew.cell? ⟨b2, off2 + j * 5 + 3, none⟩ = some (.string ne) ∧ wr.drew.cell? ⟨b2, off2 + j * 5 + 4, none⟩ = some (.slice ve1 ve2 ve3)) := ⟨HBL.out.drew, d0, d1, d2, d3, d4, e0, e1, e2, e3, e4⟩
      have HN : Hid (∀ W W' : World, (Below w.heap.size w W ∧ W.cell? ⟨b, off + j * 5, none⟩ = some (.string pj.name) ∧ W.cell? ⟨b, off + j * 5 + 1, none⟩ = some (.int .i64 kd) ∧ W.cell? ⟨b, off + j * 5 + 2, none⟩ = some (.string fo) ∧ W.cell? ⟨b, off + j * 5 + 3, none⟩ = some (.string na) ∧ W.cell? ⟨b, off + j * 5 + 4, none⟩ = some (.slice va1 va2 va3) ∧ W.cell? ⟨b2, off2 + j * 5, none⟩ = some (.string pj.name) ∧ W.cell? ⟨b2, off2 + j * 5 + 1, none⟩ = some (.int .i64 ke) ∧ W.cell? ⟨b2, off2 + j * 5 + 2, none⟩ = some (.string fe) ∧ W.cell? ⟨b2, off2 + j * 5 + 3, none⟩ = some (.string ne) ∧ W.cell? ⟨b2, off2 + j * 5 + 4, none⟩ = some (.slice ve1 ve2 ve3)) → Below W.heap.size W W' → (Below w.heap.size w W' ∧ W'.cell? ⟨b, off + j * 5, none⟩ = some (.string pj.name) ∧ W'.cell? ⟨b, off + j * 5 + 1, none⟩ = some (.int .i64 kd) ∧ W'.cell? ⟨b, off + j * 5 + 2, none⟩ = some (.string fo) ∧ W'.cell? ⟨b, off + j * 5 + 3, none⟩ = some (.string na) ∧ W'.cell? ⟨b, off + j * 5 + 4, none⟩ = some (.slice va1 va2 va3) ∧ W'.cell? ⟨b2, off2 + j * 5, none⟩ = some (.string pj.name) ∧ W'.cell? ⟨b2, off2 + j * 5 + 1, none⟩ = some (.int .i64 ke) ∧ W'.cell? ⟨b2, off2 + j * 5 + 2, none⟩ = some (.string fe) ∧ W'.cell? ⟨b2, off2 + j * 5 + 3, none⟩ = some (.string ne) ∧ W'.cell? ⟨b2, off2 + j * 5 + 4, none⟩ = some (.slice ve1 ve2 ve3))) := by
        rintro W W' ⟨h0, h1, h2, h3, h4, h5, h6, h7, h8, h9, h10⟩ hb
        have hs := h0.size
        exact ⟨h0.trans (hb.mono hs), (hb.cell (p := ⟨b, _, none⟩) (by show b < _; omega)).trans h1, (hb.cell (p := ⟨b, _, none⟩) (by show b < _; omega)).trans h2, (hb.cell (p := ⟨b, _, none⟩) (by show b < _; omega)).trans h3, (hb.cell (p := ⟨b, _, none⟩) (by show b < _; omega)).trans h4, (hb.cell (p := ⟨b, _, none⟩) (by show b < _; omega)).trans h5, (hb.cell (p := ⟨b2, _, none⟩) (by show b2 < _; omega)).trans h6, (hb.cell (p := ⟨b2, _, none⟩) (by show b2 < _; omega)).trans h7, (hb.cell (p := ⟨b2, _, none⟩) (by show b2 < _; omega)).trans h8, (hb.cell (p := ⟨b2, _, none⟩) (by show b2 < _; omega)).trans h9, (hb.cell (p := ⟨b2, _, none⟩) (by show b2 < _; omega)).trans h10⟩
      have HL0 : Hid (∀ W : World, (Below w.heap.size w W ∧ W.cell? ⟨b, off + j * 5, none⟩ = some (.string pj.name) ∧ W.cell? ⟨b, off + j * 5 + 1, none⟩ = some (.int .i64 kd) ∧ W.cell? ⟨b, off + j * 5 + 2, none⟩ = some (.string fo) ∧ W.cell? ⟨b, off + j * 5 + 3, none⟩ = some (.string na) ∧ W.cell? ⟨b, off + j * 5 + 4, none⟩ = some (.slice va1 va2 va3) ∧ W.cell? ⟨b2, off2 + j * 5, none⟩ = some (.string pj.name) ∧ W.cell? ⟨b2, off2 + j * 5 + 1, none⟩ = some (.int .i64 ke) ∧ W.cell? ⟨b2, off2 + j * 5 + 2, none⟩ = some (.string fe) ∧ W.cell? ⟨b2, off2 + j * 5 + 3, none⟩ = some (.string ne) ∧ W.cell? ⟨b2, off2 + j * 5 + 4, none⟩ = some (.slice ve1 ve2 ve3)) → Below w.heap.size w W) := fun _ h => h.1
      clear d0 d1 d2 d3 d4 e0 e1 e2 e3 e4
      go_wp2_with fail
      go_region_held3 (fun W => Below w.heap.size w W ∧ W.cell? ⟨b, off + j * 5, none⟩ = some (.string pj.name) ∧ W.cell? ⟨b, off + j * 5 + 1, none⟩ = some (.int .i64 kd) ∧ W.cell? ⟨b, off + j * 5 + 2, none⟩ = some (.string fo) ∧ W.cell? ⟨b, off + j * 5 + 3, none⟩ = some (.string na) ∧ W.cell? ⟨b, off + j * 5 + 4, none⟩ = some (.slice va1 va2 va3) ∧ W.cell? ⟨b2, off2 + j * 5, none⟩ = some (.string pj.name) ∧ W.cell? ⟨b2, off2 + j * 5 + 1, none⟩ = some (.int .i64 ke) ∧ W.cell? ⟨b2, off2 + j * 5 + 2, none⟩ = some (.string fe) ∧ W.cell? ⟨b2, off2 + j * 5 + 3, none⟩ = some (.string ne) ∧ W.cell? ⟨b2, off2 + j * 5 + 4, none⟩ = some (.slice ve1 ve2 ve3)) (first | exact HK0.out | exact HN.out _ _ (by assumption) (by assumption))
        (first | (go_at_call_of 18 (Value.slice va1 va2 va3); refine (C0.out _ ?_).mono ?_; (exact HL0.out _ (by assumption)); rintro e w' ⟨rfl, hb'⟩))
      all_goals
        rename_i hHeld
        have HH := veil (HL0.out _ hHeld)
        clear hHeld
        go_wp2_with fail
        exact ⟨⟨j + 1, by omega, by go_num, HH.out⟩, by simp [intOf]; omega⟩
    · have hnl : ¬ (j : Int) < (l.length : Int) := by omega
      clear HR HR2 hbl
      go_wp2_with fail
      go_ret
      exact ⟨rfl, HBL.out⟩

end Go.Proofs.YtieoddnaknpmlabGreatDoor

/- Two values that are the same plain module are told to be the same. -/
namespace Go.Proofs.YtieoddnaknpmlabGreatDoor
open Go.RowKit
set_option maxRecDepth 100000

set_option maxHeartbeats 8000000 in
theorem sameModule_any (S : Nat → Prop) (x : Mo) (v u : Value) (w : World) (hS : ∀ b, S b → b < w.heap.size) (hv : MoIs S w x v) (hu : MoIs S w x u) :
    Calls Tryz.prog 7 #[v, u] w fun e w' => e = .returned (.bool true) ∧ Below w.heap.size w w' := by
  obtain ⟨vu, vt, vf, rfl, hvu, hvt, hvf⟩ := hv
  obtain ⟨wu, wt, wf, rfl, hwu, hwt, hwf⟩ := hu
  have HT1 : Hid (∀ W : World, Below w.heap.size w W → Calls Tryz.prog 16 #[vu, wu] W fun e w' => e = .returned (.bool true) ∧ Below W.heap.size W w') := fun W h => sameTexts_any S x.uses _ _ W (fun c hc => Nat.lt_of_lt_of_le (hS c hc) h.size) (strSl_keep (Keeps.below h hS) hvu) (strSl_keep (Keeps.below h hS) hwu)
  have HT2 : Hid (∀ W : World, Below w.heap.size w W → Calls Tryz.prog 17 #[vt, wt] W fun e w' => e = .returned (.bool true) ∧ Below W.heap.size W w') := fun W h => sameFields_any S x.types _ _ W (fun c hc => Nat.lt_of_lt_of_le (hS c hc) h.size) (fdSl_keep (Keeps.below h hS) hvt) (fdSl_keep (Keeps.below h hS) hwt)
  obtain ⟨u1, u3, rfl, _⟩ := hvu
  obtain ⟨t1, t3, rfl, _⟩ := hvt
  obtain ⟨f1, f3, rfl, ⟨hlen, hlenC⟩, hrest⟩ := hvf
  obtain ⟨u1', u3', rfl, _⟩ := hwu
  obtain ⟨t1', t3', rfl, _⟩ := hwt
  obtain ⟨f1', f3', rfl, ⟨hlen2, hlenC2⟩, hrest2⟩ := hwf
  unfold maxLen at hlen
  have HR := veil hrest
  have HR2 := veil hrest2
  clear hrest hrest2 hlen2
  have hw2 : ∃ w2, (w.alloc (.cells #[.slice u1 x.uses.length u3, .slice t1 x.types.length t3, .slice f1 x.funcs.length f3] 26)).alloc (.cells #[.slice u1' x.uses.length u3', .slice t1' x.types.length t3', .slice f1' x.funcs.length f3'] 26) = w2 ∧ w2.heap.size = w.heap.size + 2 ∧ w2.cell? ⟨w.heap.size, 0, none⟩ = some (.slice u1 x.uses.length u3) ∧ w2.cell? ⟨w.heap.size, 1, none⟩ = some (.slice t1 x.types.length t3) ∧ w2.cell? ⟨w.heap.size, 2, none⟩ = some (.slice f1 x.funcs.length f3) ∧ w2.cell? ⟨w.heap.size + 1, 0, none⟩ = some (.slice u1' x.uses.length u3') ∧ w2.cell? ⟨w.heap.size + 1, 1, none⟩ = some (.slice t1' x.types.length t3') ∧ w2.cell? ⟨w.heap.size + 1, 2, none⟩ = some (.slice f1' x.funcs.length f3') ∧ Below w.heap.size w w2 := by
    have n0 : (w.alloc (.cells #[.slice u1 x.uses.length u3, .slice t1 x.types.length t3, .slice f1 x.funcs.length f3] 26)).heap.size = w.heap.size + 1 := by simp
    refine ⟨_, rfl, by simp, ?_, ?_, ?_, ?_, ?_, ?_, ((Below.refl _ _).alloc (Nat.le_refl _) _).alloc (by omega) _⟩
    iterate 3
      · rw [World.cell?_alloc_old _ _ _ (by show w.heap.size ≠ _; omega)]
        exact World.cell?_alloc_at _ _ _ _ rfl
    all_goals
      rw [← n0]
      exact World.cell?_alloc_at _ _ _ _ rfl
  obtain ⟨w2, hwe, hs2, p0, p1, p2, q0, q1, q2, hbel⟩ := hw2
  have HWe := veil hwe
  have HBel := veil hbel
  clear hwe hbel
  go_enter Tryz.func7, Tryz.ntmps7
  go_wp2_with fail
  try rw [HWe.out]
  go_wp2_with fail
  refine (HT1.out _ HBel.out).mono ?_
  rintro e w3 ⟨rfl, hb3⟩
  have HB3 := veil (HBel.out.trans (hb3.mono (by omega)))
  have hs3 := hb3.size
  have r1 := (hb3.cell (p := ⟨w.heap.size, 1, none⟩) (by show w.heap.size < _; omega)).trans p1
  have r2 := (hb3.cell (p := ⟨w.heap.size, 2, none⟩) (by show w.heap.size < _; omega)).trans p2
  have s1 := (hb3.cell (p := ⟨w.heap.size + 1, 1, none⟩) (by show w.heap.size + 1 < _; omega)).trans q1
  have s2 := (hb3.cell (p := ⟨w.heap.size + 1, 2, none⟩) (by show w.heap.size + 1 < _; omega)).trans q2
  clear hb3 p0 p1 p2 q0 q1 q2 HT1 HWe
  go_wp2_with fail
  refine (HT2.out _ HB3.out).mono ?_
  rintro e w4 ⟨rfl, hb4⟩
  have HB4 := veil (HB3.out.trans (hb4.mono (by omega)))
  have hs4 := hb4.size
  have k2 := (hb4.cell (p := ⟨w.heap.size, 2, none⟩) (by show w.heap.size < _; omega)).trans r2
  have l2 := (hb4.cell (p := ⟨w.heap.size + 1, 2, none⟩) (by show w.heap.size + 1 < _; omega)).trans s2
  clear hb4 r1 r2 s1 s2 HT2 HB3
  go_wp2_with fail
  have HK2 := veil k2
  have HL2 := veil l2
  clear k2 l2
  go_loopw [5] (fun i wr => ∃ j : Nat, j ≤ x.funcs.length ∧ i = .int .i64 j ∧ Below (w.heap.size + 2) w4 wr) (fun i _ => x.funcs.length - (intOf i).toNat)
  case atStart => exact ⟨0, Nat.zero_le _, rfl, Below.refl _ _⟩
  case round =>
    obtain ⟨j, hj, rfl, hbl⟩ := hrel
    have k2 := (hbl.cell (p := ⟨w.heap.size, 2, none⟩) (by show w.heap.size < _; omega)).trans HK2.out
    have l2 := (hbl.cell (p := ⟨w.heap.size + 1, 2, none⟩) (by show w.heap.size + 1 < _; omega)).trans HL2.out
    have hbw := HB4.out.trans (hbl.mono (show w.heap.size ≤ w.heap.size + 2 by omega))
    have HBL := veil hbl
    have HBW := veil hbw
    have hszr := hbl.size
    clear hbl
    by_cases hlt : j < x.funcs.length
    · have hlt' : (j : Int) < (x.funcs.length : Int) := by omega
      rcases HR.out with h0 | ⟨b, off, rfl, hb, hrow⟩
      · omega
      rcases HR2.out with h0 | ⟨b2, off2, rfl, hb2, hrow2⟩
      · omega
      have hbk := hS b hb
      have hbk2 := hS b2 hb2
      obtain ⟨⟨c0, _⟩, ⟨c1, _⟩, ⟨vp, c2, hps⟩, hty, hex⟩ := hrow.get j hlt
      obtain ⟨kd, fo, na, va, c3, c4, c5, c6, hcs⟩ := tyAt_cells.1 hty
      obtain ⟨ke, ne, fe, se, ve, c7, c8, c9, c10, c11, hce⟩ := exAt_cells.1 hex
      obtain ⟨va1, va2, va3, rfl⟩ := hcs.slice
      obtain ⟨ve1, ve2, ve3, rfl⟩ := hce.slice
      obtain ⟨⟨g0, _⟩, ⟨g1, _⟩, ⟨vp', g2, hps'⟩, hty', hex'⟩ := hrow2.get j hlt
      obtain ⟨kd', fo', na', va', g3, g4, g5, g6, hcs'⟩ := tyAt_cells.1 hty'
      obtain ⟨ke', ne', fe', se', ve', g7, g8, g9, g10, g11, hce'⟩ := exAt_cells.1 hex'
      obtain ⟨va1', va2', va3', rfl⟩ := hcs'.slice
      obtain ⟨ve1', ve2', ve3', rfl⟩ := hce'.slice
      have C0 : Hid (∀ W : World, Below w.heap.size w W → Calls Tryz.prog 17 #[vp, vp'] W fun e w' => e = .returned (.bool true) ∧ Below W.heap.size W w') := fun W h => sameFields_any S _ _ _ W (fun c hc => Nat.lt_of_lt_of_le (hS c hc) h.size) (fdSl_keep (Keeps.below h hS) hps) (fdSl_keep (Keeps.below h hS) hps')
      have C1 : Hid (∀ W : World, Below w.heap.size w W → Calls Tryz.prog 18 #[.agg #[.int .i64 kd, .string fo, .string na, .slice va1 va2 va3], .agg #[.int .i64 kd', .string fo', .string na', .slice va1' va2' va3']] W fun e w' => e = .returned (.bool true) ∧ Below W.heap.size W w') := fun W h => sameType_any _ _ (Nat.le_refl _) S _ _ W (fun c hc => Nat.lt_of_lt_of_le (hS c hc) h.size) ⟨_, _, _, _, rfl, hcs.keep (Keeps.below h hS)⟩ ⟨_, _, _, _, rfl, hcs'.keep (Keeps.below h hS)⟩
      have C2 : Hid (∀ W : World, Below w.heap.size w W → Calls Tryz.prog 19 #[.agg #[.int .i64 ke, .int .i64 ne, .string fe, .string se, .slice ve1 ve2 ve3], .agg #[.int .i64 ke', .int .i64 ne', .string fe', .string se', .slice ve1' ve2' ve3']] W fun e w' => e = .returned (.bool true) ∧ Below W.heap.size W w') := fun W h => sameExpr_any _ _ (Nat.le_refl _) S _ _ W (fun c hc => Nat.lt_of_lt_of_le (hS c hc) h.size) ⟨_, _, _, _, _, rfl, hce.keep (Keeps.below h hS)⟩ ⟨_, _, _, _, _, rfl, hce'.keep (Keeps.below h hS)⟩
      obtain ⟨vp1, vp3, rfl, _⟩ := hps
      obtain ⟨vp1', vp3', rfl, _⟩ := hps'
      rw [Nat.add_assoc] at c4 c5 c6 c8 c9 c10 c11 g4 g5 g6 g8 g9 g10 g11
      have d0 := (hbw.cell (p := ⟨b, off + j * 12, none⟩) hbk).trans c0
      have d1 := (hbw.cell (p := ⟨b, off + j * 12 + 1, none⟩) hbk).trans c1
      have d2 := (hbw.cell (p := ⟨b, off + j * 12 + 2, none⟩) hbk).trans c2
      have d3 := (hbw.cell (p := ⟨b, off + j * 12 + 3, none⟩) hbk).trans c3
      have d4 := (hbw.cell (p := ⟨b, off + j * 12 + 4, none⟩) hbk).trans c4
      have d5 := (hbw.cell (p := ⟨b, off + j * 12 + 5, none⟩) hbk).trans c5
      have d6 := (hbw.cell (p := ⟨b, off + j * 12 + 6, none⟩) hbk).trans c6
      have d7 := (hbw.cell (p := ⟨b, off + j * 12 + 7, none⟩) hbk).trans c7
      have d8 := (hbw.cell (p := ⟨b, off + j * 12 + 8, none⟩) hbk).trans c8
      have d9 := (hbw.cell (p := ⟨b, off + j * 12 + 9, none⟩) hbk).trans c9
      have d10 := (hbw.cell (p := ⟨b, off + j * 12 + 10, none⟩) hbk).trans c10
      have d11 := (hbw.cell (p := ⟨b, off + j * 12 + 11, none⟩) hbk).trans c11
      have e0 := (hbw.cell (p := ⟨b2, off2 + j * 12, none⟩) hbk2).trans g0
      have e1 := (hbw.cell (p := ⟨b2, off2 + j * 12 + 1, none⟩) hbk2).trans g1
      have e2 := (hbw.cell (p := ⟨b2, off2 + j * 12 + 2, none⟩) hbk2).trans g2
      have e3 := (hbw.cell (p := ⟨b2, off2 + j * 12 + 3, none⟩) hbk2).trans g3
      have e4 := (hbw.cell (p := ⟨b2, off2 + j * 12 + 4, none⟩) hbk2).trans g4
      have e5 := (hbw.cell (p := ⟨b2, off2 + j * 12 + 5, none⟩) hbk2).trans g5
      have e6 := (hbw.cell (p := ⟨b2, off2 + j * 12 + 6, none⟩) hbk2).trans g6
      have e7 := (hbw.cell (p := ⟨b2, off2 + j * 12 + 7, none⟩) hbk2).trans g7
      have e8 := (hbw.cell (p := ⟨b2, off2 + j * 12 + 8, none⟩) hbk2).trans g8
      have e9 := (hbw.cell (p := ⟨b2, off2 + j * 12 + 9, none⟩) hbk2).trans g9
      have e10 := (hbw.cell (p := ⟨b2, off2 + j * 12 + 10, none⟩) hbk2).trans g10
      have e11 := (hbw.cell (p := ⟨b2, off2 + j * 12 + 11, none⟩) hbk2).trans g11
      clear c0 c1 c2 c3 c4 c5 c6 c7 c8 c9 c10 c11 g0 g1 g2 g3 g4 g5 g6 g7 g8 g9 g10 g11 hrow hrow2 hty hex hty' hex' hcs hce hcs' hce' HR HR2 hbw
      generalize x.funcs[j] = pj at *
      have hw5 : ∃ w5, (wr.alloc (.cells #[.string pj.name, .string pj.var, .slice vp1 pj.params.length vp3, .int .i64 kd, .string fo, .string na, .slice va1 va2 va3, .int .i64 ke, .int .i64 ne, .string fe, .string se, .slice ve1 ve2 ve3] 54)).alloc (.cells #[.string pj.name, .string pj.var, .slice vp1' pj.params.length vp3', .int .i64 kd', .string fo', .string na', .slice va1' va2' va3', .int .i64 ke', .int .i64 ne', .string fe', .string se', .slice ve1' ve2' ve3'] 54) = w5 ∧ Below wr.heap.size wr w5 ∧ wr.heap.size + 2 ≤ w5.heap.size ∧ w5.cell? ⟨wr.heap.size, 0, none⟩ = some (.string pj.name) ∧ w5.cell? ⟨wr.heap.size, 1, none⟩ = some (.string pj.var) ∧ w5.cell? ⟨wr.heap.size, 2, none⟩ = some (.slice vp1 pj.params.length vp3) ∧ w5.cell? ⟨wr.heap.size, 3, none⟩ = some (.int .i64 kd) ∧ w5.cell? ⟨wr.heap.size, 4, none⟩ = some (.string fo) ∧ w5.cell? ⟨wr.heap.size, 5, none⟩ = some (.string na) ∧ w5.cell? ⟨wr.heap.size, 6, none⟩ = some (.slice va1 va2 va3) ∧ w5.cell? ⟨wr.heap.size, 7, none⟩ = some (.int .i64 ke) ∧ w5.cell? ⟨wr.heap.size, 8, none⟩ = some (.int .i64 ne) ∧ w5.cell? ⟨wr.heap.size, 9, none⟩ = some (.string fe) ∧ w5.cell? ⟨wr.heap.size, 10, none⟩ = some (.string se) ∧ w5.cell? ⟨wr.heap.size, 11, none⟩ = some (.slice ve1 ve2 ve3) ∧ w5.cell? ⟨wr.heap.size + 1, 0, none⟩ = some (.string pj.name) ∧ w5.cell? ⟨wr.heap.size + 1, 1, none⟩ = some (.string pj.var) ∧ w5.cell? ⟨wr.heap.size + 1, 2, none⟩ = some (.slice vp1' pj.params.length vp3') ∧ w5.cell? ⟨wr.heap.size + 1, 3, none⟩ = some (.int .i64 kd') ∧ w5.cell? ⟨wr.heap.size + 1, 4, none⟩ = some (.string fo') ∧ w5.cell? ⟨wr.heap.size + 1, 5, none⟩ = some (.string na') ∧ w5.cell? ⟨wr.heap.size + 1, 6, none⟩ = some (.slice va1' va2' va3') ∧ w5.cell? ⟨wr.heap.size + 1, 7, none⟩ = some (.int .i64 ke') ∧ w5.cell? ⟨wr.heap.size + 1, 8, none⟩ = some (.int .i64 ne') ∧ w5.cell? ⟨wr.heap.size + 1, 9, none⟩ = some (.string fe') ∧ w5.cell? ⟨wr.heap.size + 1, 10, none⟩ = some (.string se') ∧ w5.cell? ⟨wr.heap.size + 1, 11, none⟩ = some (.slice ve1' ve2' ve3') := by
        have n0 : (wr.alloc (.cells #[.string pj.name, .string pj.var, .slice vp1 pj.params.length vp3, .int .i64 kd, .string fo, .string na, .slice va1 va2 va3, .int .i64 ke, .int .i64 ne, .string fe, .string se, .slice ve1 ve2 ve3] 54)).heap.size = wr.heap.size + 1 := by simp
        refine ⟨_, rfl, ((Below.refl _ _).alloc (Nat.le_refl _) _).alloc (by omega) _, by simp, ?_, ?_, ?_, ?_, ?_, ?_, ?_, ?_, ?_, ?_, ?_, ?_, ?_, ?_, ?_, ?_, ?_, ?_, ?_, ?_, ?_, ?_, ?_, ?_⟩
        iterate 12
          · rw [World.cell?_alloc_old _ _ _ (by show wr.heap.size ≠ _; omega)]
            exact World.cell?_alloc_at _ _ _ _ rfl
        all_goals
          rw [← n0]
          exact World.cell?_alloc_at _ _ _ _ rfl
      have l2a := (World.cell?_alloc_old wr (.cells #[.string pj.name, .string pj.var, .slice vp1 pj.params.length vp3, .int .i64 kd, .string fo, .string na, .slice va1 va2 va3, .int .i64 ke, .int .i64 ne, .string fe, .string se, .slice ve1 ve2 ve3] 54) ⟨w.heap.size + 1, 2, none⟩ (by show w.heap.size + 1 ≠ wr.heap.size; omega)).trans l2
      have ea0 := (World.cell?_alloc_old wr (.cells #[.string pj.name, .string pj.var, .slice vp1 pj.params.length vp3, .int .i64 kd, .string fo, .string na, .slice va1 va2 va3, .int .i64 ke, .int .i64 ne, .string fe, .string se, .slice ve1 ve2 ve3] 54) ⟨b2, off2 + j * 12, none⟩ (by show b2 ≠ wr.heap.size; omega)).trans e0
      have ea1 := (World.cell?_alloc_old wr (.cells #[.string pj.name, .string pj.var, .slice vp1 pj.params.length vp3, .int .i64 kd, .string fo, .string na, .slice va1 va2 va3, .int .i64 ke, .int .i64 ne, .string fe, .string se, .slice ve1 ve2 ve3] 54) ⟨b2, off2 + j * 12 + 1, none⟩ (by show b2 ≠ wr.heap.size; omega)).trans e1
      have ea2 := (World.cell?_alloc_old wr (.cells #[.string pj.name, .string pj.var, .slice vp1 pj.params.length vp3, .int .i64 kd, .string fo, .string na, .slice va1 va2 va3, .int .i64 ke, .int .i64 ne, .string fe, .string se, .slice ve1 ve2 ve3] 54) ⟨b2, off2 + j * 12 + 2, none⟩ (by show b2 ≠ wr.heap.size; omega)).trans e2
      have ea3 := (World.cell?_alloc_old wr (.cells #[.string pj.name, .string pj.var, .slice vp1 pj.params.length vp3, .int .i64 kd, .string fo, .string na, .slice va1 va2 va3, .int .i64 ke, .int .i64 ne, .string fe, .string se, .slice ve1 ve2 ve3] 54) ⟨b2, off2 + j * 12 + 3, none⟩ (by show b2 ≠ wr.heap.size; omega)).trans e3
      have ea4 := (World.cell?_alloc_old wr (.cells #[.string pj.name, .string pj.var, .slice vp1 pj.params.length vp3, .int .i64 kd, .string fo, .string na, .slice va1 va2 va3, .int .i64 ke, .int .i64 ne, .string fe, .string se, .slice ve1 ve2 ve3] 54) ⟨b2, off2 + j * 12 + 4, none⟩ (by show b2 ≠ wr.heap.size; omega)).trans e4
      have ea5 := (World.cell?_alloc_old wr (.cells #[.string pj.name, .string pj.var, .slice vp1 pj.params.length vp3, .int .i64 kd, .string fo, .string na, .slice va1 va2 va3, .int .i64 ke, .int .i64 ne, .string fe, .string se, .slice ve1 ve2 ve3] 54) ⟨b2, off2 + j * 12 + 5, none⟩ (by show b2 ≠ wr.heap.size; omega)).trans e5
      have ea6 := (World.cell?_alloc_old wr (.cells #[.string pj.name, .string pj.var, .slice vp1 pj.params.length vp3, .int .i64 kd, .string fo, .string na, .slice va1 va2 va3, .int .i64 ke, .int .i64 ne, .string fe, .string se, .slice ve1 ve2 ve3] 54) ⟨b2, off2 + j * 12 + 6, none⟩ (by show b2 ≠ wr.heap.size; omega)).trans e6
      have ea7 := (World.cell?_alloc_old wr (.cells #[.string pj.name, .string pj.var, .slice vp1 pj.params.length vp3, .int .i64 kd, .string fo, .string na, .slice va1 va2 va3, .int .i64 ke, .int .i64 ne, .string fe, .string se, .slice ve1 ve2 ve3] 54) ⟨b2, off2 + j * 12 + 7, none⟩ (by show b2 ≠ wr.heap.size; omega)).trans e7
      have ea8 := (World.cell?_alloc_old wr (.cells #[.string pj.name, .string pj.var, .slice vp1 pj.params.length vp3, .int .i64 kd, .string fo, .string na, .slice va1 va2 va3, .int .i64 ke, .int .i64 ne, .string fe, .string se, .slice ve1 ve2 ve3] 54) ⟨b2, off2 + j * 12 + 8, none⟩ (by show b2 ≠ wr.heap.size; omega)).trans e8
      have ea9 := (World.cell?_alloc_old wr (.cells #[.string pj.name, .string pj.var, .slice vp1 pj.params.length vp3, .int .i64 kd, .string fo, .string na, .slice va1 va2 va3, .int .i64 ke, .int .i64 ne, .string fe, .string se, .slice ve1 ve2 ve3] 54) ⟨b2, off2 + j * 12 + 9, none⟩ (by show b2 ≠ wr.heap.size; omega)).trans e9
      have ea10 := (World.cell?_alloc_old wr (.cells #[.string pj.name, .string pj.var, .slice vp1 pj.params.length vp3, .int .i64 kd, .string fo, .string na, .slice va1 va2 va3, .int .i64 ke, .int .i64 ne, .string fe, .string se, .slice ve1 ve2 ve3] 54) ⟨b2, off2 + j * 12 + 10, none⟩ (by show b2 ≠ wr.heap.size; omega)).trans e10
      have ea11 := (World.cell?_alloc_old wr (.cells #[.string pj.name, .string pj.var, .slice vp1 pj.params.length vp3, .int .i64 kd, .string fo, .string na, .slice va1 va2 va3, .int .i64 ke, .int .i64 ne, .string fe, .string se, .slice ve1 ve2 ve3] 54) ⟨b2, off2 + j * 12 + 11, none⟩ (by show b2 ≠ wr.heap.size; omega)).trans e11
      clear l2 e0 e1 e2 e3 e4 e5 e6 e7 e8 e9 e10 e11
      obtain ⟨w5, hwe5, hb5, hs5, x0, x1, x2, x3, x4, x5, x6, x7, x8, x9, x10, x11, y0, y1, y2, y3, y4, y5, y6, y7, y8, y9, y10, y11⟩ := hw5
      have HWe5 := veil hwe5
      have HB5 := veil hb5
      have HW5 := veil (HBW.out.trans (hb5.mono HBW.out.size))
      clear hwe5 hb5
      go_wp2_with fail
      try rw [HWe5.out]
      clear HWe5 d0 ea0 d1 ea1 d2 ea2 d3 ea3 d4 ea4 d5 ea5 d6 ea6 d7 ea7 d8 ea8 d9 ea9 d10 ea10 d11 ea11 k2 l2a
      go_wp2_with fail
      refine (C0.out _ HW5.out).mono ?_
      rintro e w6 ⟨rfl, hb6⟩
      have HW6 := veil (HW5.out.trans (hb6.mono HW5.out.size))
      have HB6 := veil (HB5.out.trans (hb6.mono (by omega)))
      have hs6 := hb6.size
      have mx3 := (hb6.cell (p := ⟨wr.heap.size, 3, none⟩) (by show wr.heap.size < _; omega)).trans x3
      have my3 := (hb6.cell (p := ⟨wr.heap.size + 1, 3, none⟩) (by show wr.heap.size + 1 < _; omega)).trans y3
      have mx4 := (hb6.cell (p := ⟨wr.heap.size, 4, none⟩) (by show wr.heap.size < _; omega)).trans x4
      have my4 := (hb6.cell (p := ⟨wr.heap.size + 1, 4, none⟩) (by show wr.heap.size + 1 < _; omega)).trans y4
      have mx5 := (hb6.cell (p := ⟨wr.heap.size, 5, none⟩) (by show wr.heap.size < _; omega)).trans x5
      have my5 := (hb6.cell (p := ⟨wr.heap.size + 1, 5, none⟩) (by show wr.heap.size + 1 < _; omega)).trans y5
      have mx6 := (hb6.cell (p := ⟨wr.heap.size, 6, none⟩) (by show wr.heap.size < _; omega)).trans x6
      have my6 := (hb6.cell (p := ⟨wr.heap.size + 1, 6, none⟩) (by show wr.heap.size + 1 < _; omega)).trans y6
      have mx7 := (hb6.cell (p := ⟨wr.heap.size, 7, none⟩) (by show wr.heap.size < _; omega)).trans x7
      have my7 := (hb6.cell (p := ⟨wr.heap.size + 1, 7, none⟩) (by show wr.heap.size + 1 < _; omega)).trans y7
      have mx8 := (hb6.cell (p := ⟨wr.heap.size, 8, none⟩) (by show wr.heap.size < _; omega)).trans x8
      have my8 := (hb6.cell (p := ⟨wr.heap.size + 1, 8, none⟩) (by show wr.heap.size + 1 < _; omega)).trans y8
      have mx9 := (hb6.cell (p := ⟨wr.heap.size, 9, none⟩) (by show wr.heap.size < _; omega)).trans x9
      have my9 := (hb6.cell (p := ⟨wr.heap.size + 1, 9, none⟩) (by show wr.heap.size + 1 < _; omega)).trans y9
      have mx10 := (hb6.cell (p := ⟨wr.heap.size, 10, none⟩) (by show wr.heap.size < _; omega)).trans x10
      have my10 := (hb6.cell (p := ⟨wr.heap.size + 1, 10, none⟩) (by show wr.heap.size + 1 < _; omega)).trans y10
      have mx11 := (hb6.cell (p := ⟨wr.heap.size, 11, none⟩) (by show wr.heap.size < _; omega)).trans x11
      have my11 := (hb6.cell (p := ⟨wr.heap.size + 1, 11, none⟩) (by show wr.heap.size + 1 < _; omega)).trans y11
      clear hb6 x0 y0 x1 y1 x2 y2 x3 y3 x4 y4 x5 y5 x6 y6 x7 y7 x8 y8 x9 y9 x10 y10 x11 y11 C0
      go_wp2_with fail
      refine (C1.out _ HW6.out).mono ?_
      rintro e w7 ⟨rfl, hb7⟩
      have HW7 := veil (HW6.out.trans (hb7.mono HW6.out.size))
      have HB7 := veil (HB6.out.trans (hb7.mono (by omega)))
      have hs7 := hb7.size
      have nx3 := (hb7.cell (p := ⟨wr.heap.size, 3, none⟩) (by show wr.heap.size < _; omega)).trans mx3
      have ny3 := (hb7.cell (p := ⟨wr.heap.size + 1, 3, none⟩) (by show wr.heap.size + 1 < _; omega)).trans my3
      have nx4 := (hb7.cell (p := ⟨wr.heap.size, 4, none⟩) (by show wr.heap.size < _; omega)).trans mx4
      have ny4 := (hb7.cell (p := ⟨wr.heap.size + 1, 4, none⟩) (by show wr.heap.size + 1 < _; omega)).trans my4
      have nx5 := (hb7.cell (p := ⟨wr.heap.size, 5, none⟩) (by show wr.heap.size < _; omega)).trans mx5
      have ny5 := (hb7.cell (p := ⟨wr.heap.size + 1, 5, none⟩) (by show wr.heap.size + 1 < _; omega)).trans my5
      have nx6 := (hb7.cell (p := ⟨wr.heap.size, 6, none⟩) (by show wr.heap.size < _; omega)).trans mx6
      have ny6 := (hb7.cell (p := ⟨wr.heap.size + 1, 6, none⟩) (by show wr.heap.size + 1 < _; omega)).trans my6
      have nx7 := (hb7.cell (p := ⟨wr.heap.size, 7, none⟩) (by show wr.heap.size < _; omega)).trans mx7
      have ny7 := (hb7.cell (p := ⟨wr.heap.size + 1, 7, none⟩) (by show wr.heap.size + 1 < _; omega)).trans my7
      have nx8 := (hb7.cell (p := ⟨wr.heap.size, 8, none⟩) (by show wr.heap.size < _; omega)).trans mx8
      have ny8 := (hb7.cell (p := ⟨wr.heap.size + 1, 8, none⟩) (by show wr.heap.size + 1 < _; omega)).trans my8
      have nx9 := (hb7.cell (p := ⟨wr.heap.size, 9, none⟩) (by show wr.heap.size < _; omega)).trans mx9
      have ny9 := (hb7.cell (p := ⟨wr.heap.size + 1, 9, none⟩) (by show wr.heap.size + 1 < _; omega)).trans my9
      have nx10 := (hb7.cell (p := ⟨wr.heap.size, 10, none⟩) (by show wr.heap.size < _; omega)).trans mx10
      have ny10 := (hb7.cell (p := ⟨wr.heap.size + 1, 10, none⟩) (by show wr.heap.size + 1 < _; omega)).trans my10
      have nx11 := (hb7.cell (p := ⟨wr.heap.size, 11, none⟩) (by show wr.heap.size < _; omega)).trans mx11
      have ny11 := (hb7.cell (p := ⟨wr.heap.size + 1, 11, none⟩) (by show wr.heap.size + 1 < _; omega)).trans my11
      clear hb7 mx3 my3 mx4 my4 mx5 my5 mx6 my6 mx7 my7 mx8 my8 mx9 my9 mx10 my10 mx11 my11 C1
      go_wp2_with fail
      refine (C2.out _ HW7.out).mono ?_
      rintro e w8 ⟨rfl, hb8⟩
      have HB8 := veil (HB7.out.trans (hb8.mono (by omega)))
      clear hb8 C2
      go_wp2_with fail
      exact ⟨⟨j + 1, by omega, by go_num, HBL.out.trans (HB8.out.mono (by omega))⟩, by simp [intOf]; omega⟩
    · have hnl : ¬ (j : Int) < (x.funcs.length : Int) := by omega
      clear HR HR2
      go_wp2_with fail
      go_ret
      exact ⟨rfl, HBW.out⟩

end Go.Proofs.YtieoddnaknpmlabGreatDoor
