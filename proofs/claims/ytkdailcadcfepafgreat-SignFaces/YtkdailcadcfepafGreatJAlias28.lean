/- What alias.ownType answers. -/
import Derived.Test.YtkdailcadcfepafGreatJAlias27
import Derived.Deep.RegionWith
namespace Go.Proofs.YtkdailcadcfepafGreat
open Go.RowKit
set_option maxRecDepth 100000

set_option maxHeartbeats 4000000 in
theorem ownType_any (S : Nat → Prop) (m : Mo) (l : List Im) (k : Nat) (vm vl : Value) (w : World) (hS : ∀ b, S b → b < w.heap.size) (hm : MoIs S w m vm) (hl : SlAt S (ImAt S w) 4 l vl) (hz : ∀ i ∈ l, fcSmall i.face) (hty : ∀ f ∈ m.types, tyFault f.is 1 = 0) (hn : m.types.length ≤ reachBytes) (hk : k < m.types.length) :
    Calls Tryz.prog 23 #[vm, vl, .int .i64 (k : Nat)] w (Tells w (tySol m l k)) := by
  rw [tySol_code hk hty]
  obtain ⟨vu, vty, vf, rfl, hu, hts, hf⟩ := id hm
  obtain ⟨u1, u2, u3, rfl⟩ := hu.slice
  obtain ⟨t1, t3, rfl⟩ := hts.is
  obtain ⟨f1, f2, f3, rfl⟩ := hf.slice
  obtain ⟨la, ln, lc, rfl⟩ := hl.slice
  obtain ⟨_, b, off, rfl, hb, hat⟩ := hts.at hk
  obtain ⟨kd, fo, na, p1, p2, p3, a0, a1, a2, a3, a4, hcs⟩ := fd_cells hat
  have hbw := hS b hb
  have hle : ownAt m m.types[k].name ≤ k := by rw [← tyName_at hk]; exact own_le hk
  have HN : Hid (∀ W, Below w.heap.size w W → Calls Tryz.prog 42 #[.slice (some ⟨b, off, none⟩) m.types.length t3, .string m.types[k].name] W fun e w' => e = .returned (.int .i64 (ownAt m m.types[k].name : Nat)) ∧ Below W.heap.size W w') := fun W hW => by
    have := named_any S m.types m.types[k].name _ W (fun b hb => Nat.lt_of_lt_of_le (hS b hb) hW.size) (fdSl_keep (Keeps.below hW hS) hts)
    rwa [own_idx (by omega)] at this
  have HSol : Hid (∀ W, Below w.heap.size w W → Calls Tryz.prog 30 #[.agg #[.slice u1 u2 u3, .slice (some ⟨b, off, none⟩) m.types.length t3, .slice f1 f2 f3], .slice la ln lc, .string ⟨#[]⟩, .agg #[.int .i64 kd, .string fo, .string na, .slice p1 p2 p3]] W (Tells W (solveP (topR noneS (findR m l m.types.length [])) 10 m.types[k].is))) := fun W hW =>
    solveAll_any S m l noneS m.types[k].is _ _ _ W (fun b hb => Nat.lt_of_lt_of_le (hS b hb) hW.size) (hm.keep (Keeps.below hW hS)) (imSl_keep (Keeps.below hW hS) hl) hz hty (hty _ (List.getElem_mem hk)) ⟨_, _, _, _, rfl, hcs.keep (Keeps.below hW hS)⟩ hn
  obtain ⟨w2, hwe, hs2, y0, y1, y2, hbel⟩ : ∃ w2, w.alloc (.cells #[.slice u1 u2 u3, .slice (some ⟨b, off, none⟩) m.types.length t3, .slice f1 f2 f3] 26) = w2 ∧ w2.heap.size = w.heap.size + 1 ∧ w2.cell? ⟨w.heap.size, 0, none⟩ = some (.slice u1 u2 u3) ∧ w2.cell? ⟨w.heap.size, 1, none⟩ = some (.slice (some ⟨b, off, none⟩) m.types.length t3) ∧ w2.cell? ⟨w.heap.size, 2, none⟩ = some (.slice f1 f2 f3) ∧ Below w.heap.size w w2 :=
    ⟨_, rfl, by simp, by simp [go_sem], by simp [go_sem], by simp [go_sem], (Below.refl _ _).alloc (Nat.le_refl _) _⟩
  have HCells : Hid (∀ W, Below w2.heap.size w2 W → (W.cell? ⟨b, off + k * 5, none⟩ = some (.string m.types[k].name) ∧ W.cell? ⟨b, off + k * 5 + 1, none⟩ = some (.int .i64 kd) ∧ W.cell? ⟨b, off + k * 5 + 2, none⟩ = some (.string fo) ∧ W.cell? ⟨b, off + k * 5 + 3, none⟩ = some (.string na) ∧ W.cell? ⟨b, off + k * 5 + 4, none⟩ = some (.slice p1 p2 p3)) ∧ (W.cell? ⟨w.heap.size, 0, none⟩ = some (.slice u1 u2 u3) ∧ W.cell? ⟨w.heap.size, 1, none⟩ = some (.slice (some ⟨b, off, none⟩) m.types.length t3) ∧ W.cell? ⟨w.heap.size, 2, none⟩ = some (.slice f1 f2 f3)) ∧ Below w.heap.size w W) := fun W hW => by
    have hW2 := hbel.trans (hW.mono hbel.size)
    exact ⟨⟨(hW2.cell (p := ⟨b, _, none⟩) hbw).trans a0, (hW2.cell (p := ⟨b, _, none⟩) hbw).trans a1, (hW2.cell (p := ⟨b, _, none⟩) hbw).trans a2, (hW2.cell (p := ⟨b, _, none⟩) hbw).trans a3, (hW2.cell (p := ⟨b, _, none⟩) hbw).trans a4⟩, ⟨(hW.cell (p := ⟨w.heap.size, 0, none⟩) (by show w.heap.size < _; omega)).trans y0, (hW.cell (p := ⟨w.heap.size, 1, none⟩) (by show w.heap.size < _; omega)).trans y1, (hW.cell (p := ⟨w.heap.size, 2, none⟩) (by show w.heap.size < _; omega)).trans y2⟩, hW2⟩
  have HWe := veil hwe
  clear hm hl hz hty hn hu hts hf hat hcs hwe hbel a0 a1 a2 a3 a4 y0 y1 y2
  generalize solveP (topR noneS (findR m l m.types.length [])) 10 m.types[k].is = r at *
  generalize ownAt m m.types[k].name = q at *
  generalize m.types[k].name = nm at *
  have hk1 : (k : Int) < (m.types.length : Int) := by omega
  have hk2 : (0 : Int) ≤ (k : Int) := by omega
  obtain ⟨⟨c0, c1, c2, c3, c4⟩, ⟨c5, c6, c7⟩, hb2⟩ := HCells.out w2 (Below.refl _ _)
  have HB2 := veil hb2.drew
  clear hb2
  by_cases hlt : q < k
  · have hlt' : (q : Int) < (k : Int) := by omega
    have HR : Hid ((if q < k then (noneS, (4 : Int)) else r) = (noneS, 4)) := if_pos hlt
    generalize (if q < k then (noneS, (4 : Int)) else r) = r' at *
    clear HSol
    go_enter Tryz.func23, Tryz.ntmps23
    go_wp2_with fail
    rw [HWe.out]
    go_wp2_with fail
    go_region_with (go_at_call 42; refine (HN.out _ HB2.out).mono ?_; rintro e w3 ⟨rfl, hb3⟩)
    all_goals
      have HB3 := veil (HB2.out.trans (hb3.mono HB2.out.size))
      clear hb3 c0 c1 c2 c3 c4 c5 c6 c7
      go_wp2_with fail
      go_ret2
      exact ⟨by rw [HR.out]; rfl, HB3.out⟩
  · have hlt' : ¬ (q : Int) < (k : Int) := by omega
    have HR : Hid ((if q < k then (noneS, (4 : Int)) else r) = r) := if_neg hlt
    generalize (if q < k then (noneS, (4 : Int)) else r) = r' at *
    go_enter Tryz.func23, Tryz.ntmps23
    go_wp2_with fail
    rw [HWe.out]
    go_wp2_with fail
    go_region_with (go_at_call 42; refine (HN.out _ HB2.out).mono ?_; rintro e w3 ⟨rfl, hb3⟩)
    all_goals
      obtain ⟨⟨d0, d1, d2, d3, d4⟩, ⟨d5, d6, d7⟩, hb4⟩ := HCells.out w3 ((Below.refl _ _).drew.trans (hb3.mono (Nat.le_refl _)))
      have HB4 := veil hb4.drew
      clear hb3 hb4 c0 c1 c2 c3 c4 c5 c6 c7
      go_wp2_with fail
      go_region_with (go_at_call 30; refine (HSol.out _ HB4.out).mono ?_; rintro e w5 ⟨rfl, hb5⟩)
      all_goals
        have HB5 := veil (HB4.out.trans (hb5.mono HB4.out.size))
        clear hb5
        go_wp2_with fail
        go_ret2
        exact ⟨by rw [HR.out]; rfl, HB5.out⟩

end Go.Proofs.YtkdailcadcfepafGreat
