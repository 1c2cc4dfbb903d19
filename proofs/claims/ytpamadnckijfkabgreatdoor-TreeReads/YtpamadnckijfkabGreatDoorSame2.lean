/- Two values that hold the same texts, or fields, are told to be the same. -/
import Derived.Test.YtpamadnckijfkabGreatDoorSame1
import Derived.Deep.RegionWith
import Derived.Deep.RegionHeld3
namespace Go.Proofs.YtpamadnckijfkabGreatDoor
open Go.RowKit
set_option maxRecDepth 100000

set_option maxHeartbeats 4000000 in
theorem sameTexts_any (S : Nat → Prop) (l : List ByteArray) (v u : Value) (w : World) (hS : ∀ b, S b → b < w.heap.size) (hv : SlAt S (StrAt w) 1 l v) (hu : SlAt S (StrAt w) 1 l u) :
    Calls Tryz.prog 16 #[v, u] w fun e w' => e = .returned (.bool true) ∧ Below w.heap.size w w' := by
  obtain ⟨a, cap, rfl, ⟨hlen, hlenC⟩, hrest⟩ := hv
  obtain ⟨a2, cap2, rfl, ⟨hlen2, hlenC2⟩, hrest2⟩ := hu
  unfold maxLen at hlen
  have HR := veil hrest
  have HR2 := veil hrest2
  clear hrest hrest2 hlen2
  go_enter Tryz.func16, Tryz.ntmps16
  go_wp2_with fail
  go_loopw [5] (fun i wr => ∃ j : Nat, j ≤ l.length ∧ i = .int .i64 j ∧ Below w.heap.size w wr) (fun i _ => l.length - (intOf i).toNat)
  case atStart => exact ⟨0, Nat.zero_le _, rfl, Below.refl _ _⟩
  case round =>
    obtain ⟨j, hj, rfl, hbl⟩ := hrel
    have HBL := veil hbl
    by_cases hlt : j < l.length
    · have hlt' : (j : Int) < (l.length : Int) := by omega
      rcases HR.out with h0 | ⟨b, off, rfl, hb, hrow⟩
      · omega
      rcases HR2.out with h0 | ⟨b2, off2, rfl, hb2, hrow2⟩
      · omega
      have hbk := hS b hb
      have hbk2 := hS b2 hb2
      have a0 := (hrow.get j hlt).1
      have b0 := (hrow2.get j hlt).1
      rw [Nat.mul_one] at a0 b0
      have d0 := (hbl.cell (p := ⟨b, off + j, none⟩) hbk).trans a0
      have e0 := (hbl.cell (p := ⟨b2, off2 + j, none⟩) hbk2).trans b0
      have HD : Hid (Below w.heap.size w wr.drew) := HBL.out.drew
      clear hrow hrow2 a0 b0 HR HR2 hbl
      generalize l[j] = tx at *
      go_wp2_with fail
      go_region
      all_goals
        go_wp2_with fail
        exact ⟨⟨j + 1, by omega, by go_num, HD.out⟩, by simp [intOf]; omega⟩
    · have hnl : ¬ (j : Int) < (l.length : Int) := by omega
      clear HR HR2 hbl
      go_wp2_with fail
      go_ret
      exact ⟨rfl, HBL.out⟩

set_option maxHeartbeats 8000000 in
theorem sameFields_any (S : Nat → Prop) (l : List Fd) (v u : Value) (w : World) (hS : ∀ b, S b → b < w.heap.size) (hv : SlAt S (FdAt S w) 5 l v) (hu : SlAt S (FdAt S w) 5 l u) :
    Calls Tryz.prog 17 #[v, u] w fun e w' => e = .returned (.bool true) ∧ Below w.heap.size w w' := by
  obtain ⟨a, cap, rfl, ⟨hlen, hlenC⟩, hrest⟩ := hv
  obtain ⟨a2, cap2, rfl, ⟨hlen2, hlenC2⟩, hrest2⟩ := hu
  unfold maxLen at hlen
  have HR := veil hrest
  have HR2 := veil hrest2
  clear hrest hrest2 hlen2
  go_enter Tryz.func17, Tryz.ntmps17
  go_wp2_with fail
  go_loopw [5] (fun i wr => ∃ j : Nat, j ≤ l.length ∧ i = .int .i64 j ∧ Below w.heap.size w wr) (fun i _ => l.length - (intOf i).toNat)
  case atStart => exact ⟨0, Nat.zero_le _, rfl, Below.refl _ _⟩
  case round =>
    obtain ⟨j, hj, rfl, hbl⟩ := hrel
    have HBL := veil hbl
    by_cases hlt : j < l.length
    · have hlt' : (j : Int) < (l.length : Int) := by omega
      rcases HR.out with h0 | ⟨b, off, rfl, hb, hrow⟩
      · omega
      rcases HR2.out with h0 | ⟨b2, off2, rfl, hb2, hrow2⟩
      · omega
      have hbk := hS b hb
      have hbk2 := hS b2 hb2
      have hszr := hbl.size
      obtain ⟨⟨a0, _⟩, hty⟩ := hrow.get j hlt
      obtain ⟨⟨b0, _⟩, hty2⟩ := hrow2.get j hlt
      obtain ⟨kd, fo, na, va, a1, a2, a3, a4, hcs⟩ := tyAt_cells.1 hty
      obtain ⟨va1, va2, va3, rfl⟩ := hcs.slice
      obtain ⟨ke, fe, ne, ve, b1, b2', b3, b4, hce⟩ := tyAt_cells.1 hty2
      obtain ⟨ve1, ve2, ve3, rfl⟩ := hce.slice
      have d0 := (hbl.cell (p := ⟨b, off + j * 5, none⟩) hbk).trans a0
      have d1 := (hbl.cell (p := ⟨b, off + j * 5 + 1, none⟩) hbk).trans a1
      have d2 := (hbl.cell (p := ⟨b, off + j * 5 + 1 + 1, none⟩) hbk).trans a2
      have d3 := (hbl.cell (p := ⟨b, off + j * 5 + 1 + 2, none⟩) hbk).trans a3
      have d4 := (hbl.cell (p := ⟨b, off + j * 5 + 1 + 3, none⟩) hbk).trans a4
      have e0 := (hbl.cell (p := ⟨b2, off2 + j * 5, none⟩) hbk2).trans b0
      have e1 := (hbl.cell (p := ⟨b2, off2 + j * 5 + 1, none⟩) hbk2).trans b1
      have e2 := (hbl.cell (p := ⟨b2, off2 + j * 5 + 1 + 1, none⟩) hbk2).trans b2'
      have e3 := (hbl.cell (p := ⟨b2, off2 + j * 5 + 1 + 2, none⟩) hbk2).trans b3
      have e4 := (hbl.cell (p := ⟨b2, off2 + j * 5 + 1 + 3, none⟩) hbk2).trans b4
      rw [Nat.add_assoc] at d2 d3 d4 e2 e3 e4
      have C0 : Hid (∀ W : World, Below w.heap.size w W → Calls Tryz.prog 18 #[.agg #[.int .i64 kd, .string fo, .string na, .slice va1 va2 va3], .agg #[.int .i64 ke, .string fe, .string ne, .slice ve1 ve2 ve3]] W fun e w' => e = .returned (.bool true) ∧ Below W.heap.size W w') := fun W hbW =>
        sameType_any _ _ (Nat.le_refl _) S _ _ W (fun c h => Nat.lt_of_lt_of_le (hS c h) hbW.size) ⟨_, _, _, _, rfl, hcs.keep (Keeps.below hbW hS)⟩ ⟨_, _, _, _, rfl, hce.keep (Keeps.below hbW hS)⟩
      clear hrow hrow2 a0 a1 a2 a3 a4 b0 b1 b2' b3 b4 hcs hce hty hty2 HR HR2 hbl
      generalize l[j] = pj at *
      have HK0 : Hid (Below w.heap.size w wr.drew ∧ wr.drew.cell? ⟨b, off + j * 5, none⟩ = some (.string pj.name) ∧ wr.drew.cell? ⟨b, off + j * 5 + 1, none⟩ = some (.int .i64 kd) ∧ wr.drew.cell? ⟨b, off + j * 5 + 2, none⟩ = some (.string fo) ∧ wr.drew.cell? ⟨b, off + j * 5 + 3, none⟩ = some (.string na) ∧ wr.drew.cell? ⟨b, off + j * 5 + 4, none⟩ = some (.slice va1 va2 va3) ∧ wr.drew.cell? ⟨b2, off2 + j * 5, none⟩ = some (.string pj.name) ∧ wr.drew.cell? ⟨b2, off2 + j * 5 + 1, none⟩ = some (.int .i64 ke) ∧ wr.drew.cell? ⟨b2, off2 + j * 5 + 2, none⟩ = some (.string fe) ∧ wr.drew.cell? ⟨b2, off2 + j * 5 + 3, none⟩ = some (.string ne) ∧ wr.drew.cell? ⟨b2, off2 + j * 5 + 4, none⟩ = some (.slice ve1 ve2 ve3)) := ⟨HBL.out.drew, d0, d1, d2, d3, d4, e0, e1, e2, e3, e4⟩
      have HN : Hid (∀ W W' : World, (Below w.heap.size w W ∧ W.cell? ⟨b, off + j * 5, none⟩ = some (.string pj.name) ∧ W.cell? ⟨b, off + j * 5 + 1, none⟩ = some (.int .i64 kd) ∧ W.cell? ⟨b, off + j * 5 + 2, none⟩ = some (.string fo) ∧ W.cell? ⟨b, off + j * 5 + 3, none⟩ = some (.string na) ∧ W.cell? ⟨b, off + j * 5 + 4, none⟩ = some (.slice va1 va2 va3) ∧ W.cell? ⟨b2, off2 + j * 5, none⟩ = some (.string pj.name) ∧ W.cell? ⟨b2, off2 + j * 5 + 1, none⟩ = some (.int .i64 ke) ∧ W.cell? ⟨b2, off2 + j * 5 + 2, none⟩ = some (.string fe) ∧ W.cell? ⟨b2, off2 + j * 5 + 3, none⟩ = some (.string ne) ∧ W.cell? ⟨b2, off2 + j * 5 + 4, none⟩ = some (.slice ve1 ve2 ve3)) → Below W.heap.size W W' → (Below w.heap.size w W' ∧ W'.cell? ⟨b, off + j * 5, none⟩ = some (.string pj.name) ∧ W'.cell? ⟨b, off + j * 5 + 1, none⟩ = some (.int .i64 kd) ∧ W'.cell? ⟨b, off + j * 5 + 2, none⟩ = some (.string fo) ∧ W'.cell? ⟨b, off + j * 5 + 3, none⟩ = some (.string na) ∧ W'.cell? ⟨b, off + j * 5 + 4, none⟩ = some (.slice va1 va2 va3) ∧ W'.cell? ⟨b2, off2 + j * 5, none⟩ = some (.string pj.name) ∧ W'.cell? ⟨b2, off2 + j * 5 + 1, none⟩ = some (.int .i64 ke) ∧ W'.cell? ⟨b2, off2 + j * 5 + 2, none⟩ = some (.string fe) ∧ W'.cell? ⟨b2, off2 + j * 5 + 3, none⟩ = some (.string ne) ∧ W'.cell? ⟨b2, off2 + j * 5 + 4, none⟩ = some (.slice ve1 ve2 ve3))) := by
        rintro W W' ⟨h0, h1, h2, h3, h4, h5, h6, h7, h8, h9, h10⟩ hb
        have hs := h0.size
        exact ⟨h0.trans (hb.mono hs), (hb.cell (p := ⟨b, _, none⟩) (by show b < _; omega)).trans h1, (hb.cell (p := ⟨b, _, none⟩) (by show b < _; omega)).trans h2, (hb.cell (p := ⟨b, _, none⟩) (by show b < _; omega)).trans h3, (hb.cell (p := ⟨b, _, none⟩) (by show b < _; omega)).trans h4, (hb.cell (p := ⟨b, _, none⟩) (by show b < _; omega)).trans h5, (hb.cell (p := ⟨b2, _, none⟩) (by show b2 < _; omega)).trans h6, (hb.cell (p := ⟨b2, _, none⟩) (by show b2 < _; omega)).trans h7, (hb.cell (p := ⟨b2, _, none⟩) (by show b2 < _; omega)).trans h8, (hb.cell (p := ⟨b2, _, none⟩) (by show b2 < _; omega)).trans h9, (hb.cell (p := ⟨b2, _, none⟩) (by show b2 < _; omega)).trans h10⟩
      have HL0 : Hid (∀ W : World, (Below w.heap.size w W ∧ W.cell? ⟨b, off + j * 5, none⟩ = some (.string pj.name) ∧ W.cell? ⟨b, off + j * 5 + 1, none⟩ = some (.int .i64 kd) ∧ W.cell? ⟨b, off + j * 5 + 2, none⟩ = some (.string fo) ∧ W.cell? ⟨b, off + j * 5 + 3, none⟩ = some (.string na) ∧ W.cell? ⟨b, off + j * 5 + 4, none⟩ = some (.slice va1 va2 va3) ∧ W.cell? ⟨b2, off2 + j * 5, none⟩ = some (.string pj.name) ∧ W.cell? ⟨b2, off2 + j * 5 + 1, none⟩ = some (.int .i64 ke) ∧ W.cell? ⟨b2, off2 + j * 5 + 2, none⟩ = some (.string fe) ∧ W.cell? ⟨b2, off2 + j * 5 + 3, none⟩ = some (.string ne) ∧ W.cell? ⟨b2, off2 + j * 5 + 4, none⟩ = some (.slice ve1 ve2 ve3)) → Below w.heap.size w W) := fun _ h => h.1
      clear d0 d1 d2 d3 d4 e0 e1 e2 e3 e4
      go_wp2_with fail
      go_region_held3 (fun W => Below w.heap.size w W ∧ W.cell? ⟨b, off + j * 5, none⟩ = some (.string pj.name) ∧ W.cell? ⟨b, off + j * 5 + 1, none⟩ = some (.int .i64 kd) ∧ W.cell? ⟨b, off + j * 5 + 2, none⟩ = some (.string fo) ∧ W.cell? ⟨b, off + j * 5 + 3, none⟩ = some (.string na) ∧ W.cell? ⟨b, off + j * 5 + 4, none⟩ = some (.slice va1 va2 va3) ∧ W.cell? ⟨b2, off2 + j * 5, none⟩ = some (.string pj.name) ∧ W.cell? ⟨b2, off2 + j * 5 + 1, none⟩ = some (.int .i64 ke) ∧ W.cell? ⟨b2, off2 + j * 5 + 2, none⟩ = some (.string fe) ∧ W.cell? ⟨b2, off2 + j * 5 + 3, none⟩ = some (.string ne) ∧ W.cell? ⟨b2, off2 + j * 5 + 4, none⟩ = some (.slice ve1 ve2 ve3)) (first | exact HK0.out | exact HN.out _ _ (by assumption) (by assumption))
        (first | (go_at_call_of 18 (Value.slice va1 va2 va3); refine (C0.out _ ?_).mono ?_; (exact HL0.out _ (by assumption)); rintro e w' ⟨rfl, hb'⟩))
      all_goals
        rename_i hHeld
        have HH := veil (HL0.out _ hHeld)
        clear hHeld
        go_wp2_with fail
        exact ⟨⟨j + 1, by omega, by go_num, HH.out⟩, by simp [intOf]; omega⟩
    · have hnl : ¬ (j : Int) < (l.length : Int) := by omega
      clear HR HR2 hbl
      go_wp2_with fail
      go_ret
      exact ⟨rfl, HBL.out⟩

end Go.Proofs.YtpamadnckijfkabGreatDoor
