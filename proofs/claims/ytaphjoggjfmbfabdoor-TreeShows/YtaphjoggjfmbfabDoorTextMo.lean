/- What the reference's ModuleText answers, at every module: the fault's number, and its text where there is none. -/
import Derived.Test.YtaphjoggjfmbfabDoorShowTree
import Derived.Test.YtaphjoggjfmbfabDoorShowRefX
import Derived.Test.YtaphjoggjfmbfabDoorFaultM
namespace Go.Proofs.YtaphjoggjfmbfabDoor
open Go.RowKit

/-- a world that is later than another one, above a box: what lay there lies there. -/
theorem later_cell {n : Nat} {W W' : World} (hn : n < W.heap.size) (hb : Below W.heap.size W W') (o : Nat) : W'.cell? ⟨n, o, none⟩ = W.cell? ⟨n, o, none⟩ := hb.cell (p := ⟨n, o, none⟩) hn

set_option maxHeartbeats 8000000 in
set_option maxRecDepth 100000 in
theorem moduleText_any (S : Nat → Prop) (x : Mo) (v : Value) (w : World) (hS : ∀ b, S b → b < w.heap.size) (hx : MoIs S w x v) (hs : x.uses.length + x.types.length + x.funcs.length < 4611686018427387904) :
    Calls Tryd.prog 5 #[v] w fun e w' => e = .returned (.tuple #[.string (moText x), .int .i64 (moFault x)]) ∧ Below w.heap.size w w' := by
  have HX := veil hx
  obtain ⟨vu, vt, vf, rfl, hu, hty, hf⟩ := hx
  obtain ⟨u1, u3, rfl, ⟨hul, _⟩, hur⟩ := hu
  obtain ⟨t1, t3, rfl, ⟨htl, _⟩, htr⟩ := hty
  obtain ⟨f1, f3, rfl, ⟨hfl, _⟩, hfr⟩ := hf
  have HU := veil hur
  have HTy := veil htr
  have HFu := veil hfr
  clear hur htr hfr
  have HB : Hid (Below w.heap.size w (w.alloc (.cells #[.slice u1 x.uses.length u3, .slice t1 x.types.length t3, .slice f1 x.funcs.length f3] 26))) := (Below.refl _ _).alloc (Nat.le_refl _) _
  have HCk := veil (moduleFault_any S x (.agg #[.slice u1 x.uses.length u3, .slice t1 x.types.length t3, .slice f1 x.funcs.length f3]) (w.alloc (.cells #[.slice u1 x.uses.length u3, .slice t1 x.types.length t3, .slice f1 x.funcs.length f3] 26)) (fdIs_first hS HB.out) (HX.out.keep (Keeps.below HB.out hS)))
  by_cases h0 : moFault x = 0
  rotate_left
  · have hz' : (moFault x != 0) = true := bne_iff_ne.2 h0
    have HTx : Hid (moText x = ⟨#[]⟩) := if_neg h0
    clear h0 hul htl hfl hs
    go_enter Tryd.func5, Tryd.ntmps5
    go_wp2_with fail
    refine HCk.out.mono ?_
    rintro e w1 ⟨rfl, hb1⟩
    go_wp2_with fail
    go_ret2
    exact ⟨by rw [HTx.out]; rfl, HB.out.trans (hb1.mono (by simp))⟩
  have hz' : (moFault x != 0) = false := by rw [h0]; rfl
  have HTx : Hid (moText x = textOf (moShown x)) := if_pos h0
  have hsz := mo_size h0 hs
  obtain ⟨_, hg1, hg2, hg3⟩ := mo_ok h0
  have HG1 := veil hg1
  have HG2 := veil hg2
  have HG3 := veil hg3
  have HF0 := veil h0
  clear hg1 hg2 hg3
  unfold maxLen at hul htl hfl
  go_enter Tryd.func5, Tryd.ntmps5
  go_wp2_with fail
  refine HCk.out.mono ?_
  rintro e w1 ⟨rfl, hb1⟩
  rw [h0]
  have HB1 : Hid (Below (w.heap.size + 1) (w.alloc (.cells #[.slice u1 x.uses.length u3, .slice t1 x.types.length t3, .slice f1 x.funcs.length f3] 26)) w1) := hb1.mono (by simp)
  clear hb1 HCk h0
  go_wp2_with fail
  go_loopw [5, 6] (fun sv i wr => ∃ j : Nat, j ≤ x.uses.length ∧ i = .int .i64 j ∧ sv = .string (textOf (linesTo useLine x.uses j)) ∧ Below (w.heap.size + 1) (w.alloc (.cells #[.slice u1 x.uses.length u3, .slice t1 x.types.length t3, .slice f1 x.funcs.length f3] 26)) wr) (fun _ i _ => x.uses.length - (intOf i).toNat)
  case atStart => exact ⟨0, Nat.zero_le _, rfl, rfl, HB1.out⟩
  case round =>
    clear HB1
    obtain ⟨j, hj, rfl, rfl, hbl⟩ := hrel
    have HBL := veil hbl
    have hbs : w.heap.size + 1 ≤ wr.heap.size := by have := hbl.size; simpa using this
    have hc := fun o => hbl.cell (p := ⟨w.heap.size, o, none⟩) (by show w.heap.size < w.heap.size + 1; omega)
    have HL := veil (HB.out.trans (hbl.mono (by omega)))
    clear hbl
    by_cases hlt : j < x.uses.length
    · rcases HU.out with hn0 | ⟨bb, off, rfl, hb, hrow⟩
      · omega
      have hbw := hS bb hb
      obtain ⟨c0, hfs⟩ := hrow.get j hlt
      rw [Nat.mul_one] at c0
      have d0 := (HL.out.cell (p := ⟨bb, off + j, none⟩) hbw).trans c0
      have HST := veil (lines_succ useLine x.uses j hlt)
      have HLE := veil (lines_le useLine x.uses (j + 1) x.uses.length hlt)
      clear c0 hrow HU
      generalize x.uses[j] = pj at *
      have HE : Hid (textOf (linesTo useLine x.uses j) ++ ByteArray.mk #[117, 115, 101, 32] ++ pj ++ ByteArray.mk #[10] = textOf (linesTo useLine x.uses (j + 1))) := by
        show _ = _
        rw [HST.out, useLine, ← textOf_append, ← textOf_append, ← textOf_append, textOf_data, ByteArray.append_assoc, ByteArray.append_assoc]
        rfl
      have h1 : (linesTo useLine x.uses j).length + (4 + (pj.size + 1)) ≤ (linesTo useLine x.uses x.uses.length).length := by
        have := HLE.out
        rw [HST.out] at this
        have e : pj.data.toList.length = pj.size := rfl
        simp only [useLine, List.length_append, List.length_cons, List.length_nil] at this
        omega
      have s1 : (textOf (linesTo useLine x.uses j)).size = (linesTo useLine x.uses j).length := rfl
      have z1 : ¬ 9223372036854775807 < (textOf (linesTo useLine x.uses j)).size + 4 := by omega
      have z2 : ¬ 9223372036854775807 < (textOf (linesTo useLine x.uses j)).size + 4 + pj.size := by omega
      have z3 : ¬ 9223372036854775807 < (textOf (linesTo useLine x.uses j)).size + 4 + pj.size + 1 := by omega
      clear h1 s1 HST HLE
      go_wp2_with fail
      exact ⟨⟨j + 1, by omega, by go_num, by rw [HE.out], HBL.out⟩, by simp [intOf]; omega⟩
    · have hje : j = x.uses.length := by omega
      subst hje
      clear HU
      have HLU : Hid ((linesTo useLine x.uses x.uses.length).length ≤ 24 * 200000000500) := by show _ ≤ _; omega
      generalize hLU : linesTo useLine x.uses x.uses.length = LU at *
      go_wp2_with fail
      go_loopw [5, 7] (fun sv i wr => ∃ j : Nat, j ≤ x.types.length ∧ i = .int .i64 j ∧ sv = .string (textOf (LU ++ linesTo typeLine x.types j)) ∧ Below (w.heap.size + 1) (w.alloc (.cells #[.slice u1 x.uses.length u3, .slice t1 x.types.length t3, .slice f1 x.funcs.length f3] 26)) wr) (fun _ i _ => x.types.length - (intOf i).toNat)
      case atStart => exact ⟨0, Nat.zero_le _, rfl, by simp [linesTo], HBL.out⟩
      case round =>
        clear hc hbs HL HBL hlt hj
        obtain ⟨j, hj, rfl, rfl, hbl⟩ := hrel
        have HBL := veil hbl
        have hbs : w.heap.size + 1 ≤ wr.heap.size := by have := hbl.size; simpa using this
        have hc := fun o => hbl.cell (p := ⟨w.heap.size, o, none⟩) (by show w.heap.size < w.heap.size + 1; omega)
        have HL := veil (HB.out.trans (hbl.mono (by omega)))
        clear hbl
        by_cases hlt : j < x.types.length
        · rcases HTy.out with hn0 | ⟨bb, off, rfl, hb, hrow⟩
          · omega
          have hbw := hS bb hb
          obtain ⟨⟨c0, hfs⟩, hty⟩ := hrow.get j hlt
          obtain ⟨kd, fo, na, va, c1, c2, c3, c4, hcs⟩ := tyAt_cells.1 hty
          obtain ⟨vb1, vb2, vb3, rfl⟩ := hcs.slice
          rw [Nat.add_assoc] at c2 c3 c4
          have hfd := HG2.out j hlt
          have HTyF : tyFault x.types[j].is 1 = 0 := by
            unfold fdFault at hfd
            split at hfd
            · exact hfd
            · omega
          have HST := veil (lines_succ typeLine x.types j hlt)
          have HLE := veil (lines_le typeLine x.types (j + 1) x.types.length hlt)
          clear hfd HG2
          generalize x.types[j] = pj at *
          have hts := ty_size 10 pj.is 1 (by omega) HTyF
          have C0 : Hid (∀ W : World, Below (w.heap.size + 1) (w.alloc (.cells #[.slice u1 x.uses.length u3, .slice (some ⟨bb, off, none⟩) x.types.length t3, .slice f1 x.funcs.length f3] 26)) W → Calls Tryd.prog 12 #[.agg #[.int .i64 kd, .string fo, .string na, .slice vb1 vb2 vb3]] W fun e w' => e = .returned (.string (textOf (tyShown pj.is))) ∧ Below W.heap.size W w') := fun W hW => by
            have hb2 : Below w.heap.size w W := HB.out.trans (hW.mono (by omega))
            exact typeShown_any 10 1 (by omega) S pj.is _ W (fun c h => Nat.lt_of_lt_of_le (hS c h) hb2.size) ⟨_, _, _, _, rfl, hcs.keep (Keeps.below hb2 hS)⟩ HTyF
          have HK0 : Hid ((fun W => Below (w.heap.size + 1) (w.alloc (.cells #[.slice u1 x.uses.length u3, .slice (some ⟨bb, off, none⟩) x.types.length t3, .slice f1 x.funcs.length f3] 26)) W ∧ W.cell? ⟨w.heap.size, 1, none⟩ = some (.slice (some ⟨bb, off, none⟩) x.types.length t3) ∧ W.cell? ⟨bb, off + j * 5, none⟩ = some (.string pj.name) ∧ W.cell? ⟨bb, off + j * 5 + 1, none⟩ = some (.int .i64 kd) ∧ W.cell? ⟨bb, off + j * 5 + 2, none⟩ = some (.string fo) ∧ W.cell? ⟨bb, off + j * 5 + 3, none⟩ = some (.string na) ∧ W.cell? ⟨bb, off + j * 5 + 4, none⟩ = some (.slice vb1 vb2 vb3)) wr.drew) := ⟨HBL.out.drew, (hc 1).trans (World.cell?_alloc_at _ _ _ _ rfl), (HL.out.cell (p := ⟨bb, off + j * 5, none⟩) hbw).trans c0, (HL.out.cell (p := ⟨bb, off + j * 5 + 1, none⟩) hbw).trans c1, (HL.out.cell (p := ⟨bb, off + j * 5 + 2, none⟩) hbw).trans c2, (HL.out.cell (p := ⟨bb, off + j * 5 + 3, none⟩) hbw).trans c3, (HL.out.cell (p := ⟨bb, off + j * 5 + 4, none⟩) hbw).trans c4⟩
          have HN : Hid (∀ W W' : World, (Below (w.heap.size + 1) (w.alloc (.cells #[.slice u1 x.uses.length u3, .slice (some ⟨bb, off, none⟩) x.types.length t3, .slice f1 x.funcs.length f3] 26)) W ∧ W.cell? ⟨w.heap.size, 1, none⟩ = some (.slice (some ⟨bb, off, none⟩) x.types.length t3) ∧ W.cell? ⟨bb, off + j * 5, none⟩ = some (.string pj.name) ∧ W.cell? ⟨bb, off + j * 5 + 1, none⟩ = some (.int .i64 kd) ∧ W.cell? ⟨bb, off + j * 5 + 2, none⟩ = some (.string fo) ∧ W.cell? ⟨bb, off + j * 5 + 3, none⟩ = some (.string na) ∧ W.cell? ⟨bb, off + j * 5 + 4, none⟩ = some (.slice vb1 vb2 vb3)) → Below W.heap.size W W' → (Below (w.heap.size + 1) (w.alloc (.cells #[.slice u1 x.uses.length u3, .slice (some ⟨bb, off, none⟩) x.types.length t3, .slice f1 x.funcs.length f3] 26)) W' ∧ W'.cell? ⟨w.heap.size, 1, none⟩ = some (.slice (some ⟨bb, off, none⟩) x.types.length t3) ∧ W'.cell? ⟨bb, off + j * 5, none⟩ = some (.string pj.name) ∧ W'.cell? ⟨bb, off + j * 5 + 1, none⟩ = some (.int .i64 kd) ∧ W'.cell? ⟨bb, off + j * 5 + 2, none⟩ = some (.string fo) ∧ W'.cell? ⟨bb, off + j * 5 + 3, none⟩ = some (.string na) ∧ W'.cell? ⟨bb, off + j * 5 + 4, none⟩ = some (.slice vb1 vb2 vb3))) := by
            rintro W W' ⟨h0, h1, h2, h3, h4, h5, h6⟩ hb
            have hs : w.heap.size + 1 ≤ W.heap.size := by have := h0.size; simpa using this
            exact ⟨h0.trans (hb.mono hs), (later_cell (by omega) hb _).trans h1, (later_cell (by omega) hb _).trans h2, (later_cell (by omega) hb _).trans h3, (later_cell (by omega) hb _).trans h4, (later_cell (by omega) hb _).trans h5, (later_cell (by omega) hb _).trans h6⟩
          have HL0 : Hid (∀ W : World, (Below (w.heap.size + 1) (w.alloc (.cells #[.slice u1 x.uses.length u3, .slice (some ⟨bb, off, none⟩) x.types.length t3, .slice f1 x.funcs.length f3] 26)) W ∧ W.cell? ⟨w.heap.size, 1, none⟩ = some (.slice (some ⟨bb, off, none⟩) x.types.length t3) ∧ W.cell? ⟨bb, off + j * 5, none⟩ = some (.string pj.name) ∧ W.cell? ⟨bb, off + j * 5 + 1, none⟩ = some (.int .i64 kd) ∧ W.cell? ⟨bb, off + j * 5 + 2, none⟩ = some (.string fo) ∧ W.cell? ⟨bb, off + j * 5 + 3, none⟩ = some (.string na) ∧ W.cell? ⟨bb, off + j * 5 + 4, none⟩ = some (.slice vb1 vb2 vb3)) → Below (w.heap.size + 1) (w.alloc (.cells #[.slice u1 x.uses.length u3, .slice (some ⟨bb, off, none⟩) x.types.length t3, .slice f1 x.funcs.length f3] 26)) W) := fun W h => h.1
          clear c0 c1 c2 c3 c4 hcs hrow hty HTy hc HTyF
          have HE : Hid (textOf (LU ++ linesTo typeLine x.types j) ++ ByteArray.mk #[116, 121, 112, 101, 32] ++ pj.name ++ ByteArray.mk #[32, 61, 32] ++ textOf (tyShown pj.is) ++ ByteArray.mk #[10] = textOf (LU ++ linesTo typeLine x.types (j + 1))) := by
            show _ = _
            rw [HST.out, typeLine, ← List.append_assoc, ← textOf_append (LU ++ linesTo typeLine x.types j), ← textOf_append, ← textOf_append, ← textOf_append, ← textOf_append, textOf_data]
            simp only [ByteArray.append_assoc]
            rfl
          have h1 : (linesTo typeLine x.types j).length + (5 + (pj.name.size + (3 + ((tyShown pj.is).length + 1)))) ≤ (linesTo typeLine x.types x.types.length).length := by
            have := HLE.out
            rw [HST.out] at this
            have e : pj.name.data.toList.length = pj.name.size := rfl
            simp only [typeLine, List.length_append, List.length_cons, List.length_nil] at this
            omega
          have s1 : (textOf (LU ++ linesTo typeLine x.types j)).size = (LU ++ linesTo typeLine x.types j).length := rfl
          rw [List.length_append] at s1
          have s2 : (textOf (tyShown pj.is)).size = (tyShown pj.is).length := rfl
          have hlu := HLU.out
          have z1 : ¬ 9223372036854775807 < (textOf (LU ++ linesTo typeLine x.types j)).size + 5 := by omega
          have z2 : ¬ 9223372036854775807 < (textOf (LU ++ linesTo typeLine x.types j)).size + 5 + pj.name.size := by omega
          have z3 : ¬ 9223372036854775807 < (textOf (LU ++ linesTo typeLine x.types j)).size + 5 + pj.name.size + 3 := by omega
          have z4 : ¬ 9223372036854775807 < (textOf (LU ++ linesTo typeLine x.types j)).size + 5 + pj.name.size + 3 + (textOf (tyShown pj.is)).size := by omega
          have z5 : ¬ 9223372036854775807 < (textOf (LU ++ linesTo typeLine x.types j)).size + 5 + pj.name.size + 3 + (textOf (tyShown pj.is)).size + 1 := by omega
          clear h1 s1 s2 hlu HST HLE hts
          generalize textOf (tyShown pj.is) = ts at *
          generalize textOf (LU ++ linesTo typeLine x.types j) = tl at *
          have hc : wr.cell? ⟨w.heap.size, 1, none⟩ = some (.slice (some ⟨bb, off, none⟩) x.types.length t3) := HK0.out.2.1
          go_wp2_with fail
          go_region_held3 (fun W => Below (w.heap.size + 1) (w.alloc (.cells #[.slice u1 x.uses.length u3, .slice (some ⟨bb, off, none⟩) x.types.length t3, .slice f1 x.funcs.length f3] 26)) W ∧ W.cell? ⟨w.heap.size, 1, none⟩ = some (.slice (some ⟨bb, off, none⟩) x.types.length t3) ∧ W.cell? ⟨bb, off + j * 5, none⟩ = some (.string pj.name) ∧ W.cell? ⟨bb, off + j * 5 + 1, none⟩ = some (.int .i64 kd) ∧ W.cell? ⟨bb, off + j * 5 + 2, none⟩ = some (.string fo) ∧ W.cell? ⟨bb, off + j * 5 + 3, none⟩ = some (.string na) ∧ W.cell? ⟨bb, off + j * 5 + 4, none⟩ = some (.slice vb1 vb2 vb3)) (first | exact HK0.out | exact HN.out _ _ (by assumption) (by assumption))
            (first | (go_at_call_of 12 (Value.slice vb1 vb2 vb3); refine (C0.out _ ?_).mono ?_; (exact HL0.out _ (by assumption)); rintro e w' ⟨rfl, hb'⟩))
          all_goals
            rename_i hHeld
            have HH := veil (HL0.out _ hHeld)
            clear hHeld
            go_wp2_with fail
            exact ⟨⟨j + 1, by omega, by go_num, by rw [HE.out], HH.out⟩, by simp [intOf]; omega⟩
        · have hje : j = x.types.length := by omega
          subst hje
          clear HTy HG2
          have hszT : (LU ++ linesTo typeLine x.types x.types.length).length + (linesTo funLine x.funcs x.funcs.length).length ≤ 24 * 200000000500 := by
            rw [List.length_append]; omega
          generalize hLT : LU ++ linesTo typeLine x.types x.types.length = LT at *
          go_wp2_with fail
          go_loopw [5, 8] (fun sv i wo => ∃ j : Nat, j ≤ x.funcs.length ∧ i = .int .i64 j ∧ sv = .string (textOf (LT ++ linesTo funLine x.funcs j)) ∧ Below (w.heap.size + 1) (w.alloc (.cells #[.slice u1 x.uses.length u3, .slice t1 x.types.length t3, .slice f1 x.funcs.length f3] 26)) wo) (fun _ i _ => x.funcs.length - (intOf i).toNat)
          case atStart => exact ⟨0, Nat.zero_le _, rfl, by simp [linesTo], HBL.out⟩
          case round =>
            clear hc hbs HL HBL hlt hj
            obtain ⟨j, hj, rfl, rfl, hbl⟩ := hrel
            rename World => wo
            have HBL := veil hbl
            have hbs : w.heap.size + 1 ≤ wo.heap.size := by have := hbl.size; simpa using this
            have hc := fun o => hbl.cell (p := ⟨w.heap.size, o, none⟩) (by show w.heap.size < w.heap.size + 1; omega)
            have HL := veil (HB.out.trans (hbl.mono (by omega)))
            clear hbl
            by_cases hlt : j < x.funcs.length
            rotate_left
            · have hje : j = x.funcs.length := by omega
              subst hje
              clear HFu HG3
              go_wp2_with fail
              go_ret2
              refine ⟨?_, HL.out⟩
              rw [HTx.out, HF0.out, moShown, hLU, ← List.append_assoc, hLT]
              rfl
            rcases HFu.out with hn0 | ⟨bb, off, rfl, hb, hrow⟩
            · omega
            have hbw := hS bb hb
            obtain ⟨⟨c0, hsz0⟩, ⟨c1, hsz1⟩, ⟨vp, c2, hps⟩, hty, hex⟩ := hrow.get j hlt
            obtain ⟨kd, fo, na, va, c3, c4, c5, c6, hcs⟩ := tyAt_cells.1 hty
            obtain ⟨ke, ne, fe, se, ve, c7, c8, c9, c10, c11, hce⟩ := exAt_cells.1 hex
            obtain ⟨va1, va2, va3, rfl⟩ := hcs.slice
            obtain ⟨ve1, ve2, ve3, rfl⟩ := hce.slice
            obtain ⟨vp1, vp3, rfl, ⟨hplen, _⟩, hprest⟩ := hps
            unfold maxLen at hplen
            rw [Nat.add_assoc] at c4 c5 c6 c8 c9 c10 c11
            have d0 := (HL.out.cell (p := ⟨bb, off + j * 12, none⟩) hbw).trans c0
            have d1 := (HL.out.cell (p := ⟨bb, off + j * 12 + 1, none⟩) hbw).trans c1
            have d2 := (HL.out.cell (p := ⟨bb, off + j * 12 + 2, none⟩) hbw).trans c2
            have d3 := (HL.out.cell (p := ⟨bb, off + j * 12 + 3, none⟩) hbw).trans c3
            have d4 := (HL.out.cell (p := ⟨bb, off + j * 12 + 4, none⟩) hbw).trans c4
            have d5 := (HL.out.cell (p := ⟨bb, off + j * 12 + 5, none⟩) hbw).trans c5
            have d6 := (HL.out.cell (p := ⟨bb, off + j * 12 + 6, none⟩) hbw).trans c6
            have d7 := (HL.out.cell (p := ⟨bb, off + j * 12 + 7, none⟩) hbw).trans c7
            have d8 := (HL.out.cell (p := ⟨bb, off + j * 12 + 8, none⟩) hbw).trans c8
            have d9 := (HL.out.cell (p := ⟨bb, off + j * 12 + 9, none⟩) hbw).trans c9
            have d10 := (HL.out.cell (p := ⟨bb, off + j * 12 + 10, none⟩) hbw).trans c10
            have d11 := (HL.out.cell (p := ⟨bb, off + j * 12 + 11, none⟩) hbw).trans c11
            have hfu := HG3.out j hlt
            have HST := veil (lines_succ funLine x.funcs j hlt)
            have HLE := veil (lines_le funLine x.funcs (j + 1) x.funcs.length hlt)
            clear c0 c1 c2 c3 c4 c5 c6 c7 c8 c9 c10 c11 hrow hty hex HFu HG3
            generalize x.funcs[j] = pj at *
            obtain ⟨hnam, hvar, hp8, hfd, hres, hbody⟩ := fu_ok hfu
            have HPR := veil hprest
            have HCT := veil hcs
            have HCE := veil hce
            have HFD := veil hfd
            clear hprest hcs hce hfd hfu
            have HVN := veil (noneB_text pj.var)
            have hv0s : (textOf (LT ++ linesTo funLine x.funcs j)).size + pj.name.size + pj.var.size + 8 ≤ 9223372036854775807 := by
              have h1 : (LT ++ linesTo funLine x.funcs j).length ≤ 24 * 200000000500 := by
                have := lines_le funLine x.funcs j x.funcs.length hj
                rw [List.length_append]; omega
              have h2 := ident_size hnam
              have h3 := noneOr_size hvar
              have e1 : pj.name.data.toList.length = pj.name.size := rfl
              have e2 : pj.var.data.toList.length = pj.var.size := rfl
              have e3 : (textOf (LT ++ linesTo funLine x.funcs j)).size = (LT ++ linesTo funLine x.funcs j).length := rfl
              omega
            cases hv : (pj.var.toList == [])
            · have hvs : varShown pj.var = [60] ++ (pj.var.data.toList ++ [62]) := if_neg (by rw [← HVN.out, hv]; simp)
              have HE1 : Hid (textOf (LT ++ linesTo funLine x.funcs j) ++ ByteArray.mk #[102, 117, 110, 99, 32] ++ pj.name ++ ByteArray.mk #[60] ++ pj.var ++ ByteArray.mk #[62] ++ ByteArray.mk #[40] = textOf ((LT ++ linesTo funLine x.funcs j) ++ ([102, 117, 110, 99, 32] ++ (pj.name.data.toList ++ ([60] ++ (pj.var.data.toList ++ ([62] ++ [40]))))))) := by
                show _ = _
                rw [← textOf_append (LT ++ linesTo funLine x.funcs j), ← textOf_append, ← textOf_append, ← textOf_append, ← textOf_append, ← textOf_append, textOf_data, textOf_data]
                simp only [ByteArray.append_assoc]
                rfl
              have HEnd : Hid (LT ++ linesTo funLine x.funcs (j + 1) = (((LT ++ linesTo funLine x.funcs j) ++ ([102, 117, 110, 99, 32] ++ (pj.name.data.toList ++ ([60] ++ (pj.var.data.toList ++ ([62] ++ [40])))))) ++ fdTo pj.params pj.params.length) ++ ([41, 58, 32] ++ (tyShown pj.result ++ ([32, 61, 32] ++ (exShown pj.body ++ [10]))))) := by
                show _ = _
                rw [HST.out, funLine, fuShown, hvs]
                simp [List.append_assoc]
              have HBound : Hid (((LT ++ linesTo funLine x.funcs j) ++ ([102, 117, 110, 99, 32] ++ (pj.name.data.toList ++ ([60] ++ (pj.var.data.toList ++ ([62] ++ [40])))))).length + (fdTo pj.params pj.params.length).length ≤ 24 * 200000000500) := by
                show _ ≤ _
                have h1 := hszT
                have h2 := HLE.out
                rw [HST.out, funLine, fuShown, hvs] at h2
                simp only [List.length_append, List.length_cons, List.length_nil] at h1 h2 ⊢
                omega
              have zz0 : ¬ 9223372036854775807 < (textOf (LT ++ linesTo funLine x.funcs j)).size + 5 := by omega
              have zz1 : ¬ 9223372036854775807 < (textOf (LT ++ linesTo funLine x.funcs j)).size + 5 + pj.name.size := by omega
              have zz2 : ¬ 9223372036854775807 < (textOf (LT ++ linesTo funLine x.funcs j)).size + 5 + pj.name.size + 1 := by omega
              have zz3 : ¬ 9223372036854775807 < (textOf (LT ++ linesTo funLine x.funcs j)).size + 5 + pj.name.size + 1 + pj.var.size := by omega
              have zz4 : ¬ 9223372036854775807 < (textOf (LT ++ linesTo funLine x.funcs j)).size + 5 + pj.name.size + 1 + pj.var.size + 1 := by omega
              have zz5 : ¬ 9223372036854775807 < (textOf (LT ++ linesTo funLine x.funcs j)).size + 5 + pj.name.size + 1 + pj.var.size + 1 + 1 := by omega
              clear hvs HVN hv0s
              go_wp2_with fail
              go_loopw [5, 10] (fun sv i wr => ∃ q : Nat, q ≤ pj.params.length ∧ i = .int .i64 q ∧ sv = .string (textOf (((LT ++ linesTo funLine x.funcs j) ++ ([102, 117, 110, 99, 32] ++ (pj.name.data.toList ++ ([60] ++ (pj.var.data.toList ++ ([62] ++ [40])))))) ++ fdTo pj.params q)) ∧ Below (wo.heap.size + 1) (wo.alloc (.cells #[.string pj.name, .string pj.var, .slice vp1 pj.params.length vp3, .int .i64 kd, .string fo, .string na, .slice va1 va2 va3, .int .i64 ke, .int .i64 ne, .string fe, .string se, .slice ve1 ve2 ve3] 49)) wr) (fun _ i _ => pj.params.length - (intOf i).toNat)
              case atStart => exact ⟨0, Nat.zero_le _, rfl, by rw [fdTo, List.append_nil, ← HE1.out], Below.refl _ _⟩
              case round =>
                clear HE1 zz0 zz1 zz2 zz3 zz4 zz5
                obtain ⟨q, hq, rfl, rfl, hbi⟩ := hrel
                have HBI := veil hbi
                have hbsi : wo.heap.size + 1 ≤ wr.heap.size := by have := hbi.size; simpa using this
                have hci := fun o => hbi.cell (p := ⟨wo.heap.size, o, none⟩) (by show wo.heap.size < wo.heap.size + 1; omega)
                have HLi := veil ((HL.out.alloc (by omega) (.cells #[.string pj.name, .string pj.var, .slice vp1 pj.params.length vp3, .int .i64 kd, .string fo, .string na, .slice va1 va2 va3, .int .i64 ke, .int .i64 ne, .string fe, .string se, .slice ve1 ve2 ve3] 49)).trans (hbi.mono (by omega)))
                clear hbi
                by_cases hltq : q < pj.params.length
                · rcases HPR.out with hn0 | ⟨pb, po, rfl, hpb, hprow⟩
                  · omega
                  have hpbw := hS pb hpb
                  obtain ⟨⟨c0, hfs⟩, hty⟩ := hprow.get q hltq
                  obtain ⟨kq, fq, nq, vq, c1, c2, c3, c4, hcs⟩ := tyAt_cells.1 hty
                  obtain ⟨vq1, vq2, vq3, rfl⟩ := hcs.slice
                  rw [Nat.add_assoc] at c2 c3 c4
                  have hfd := HFD.out q hltq
                  have HTyF : tyFault pj.params[q].is 1 = 0 := by
                    unfold fdFault at hfd
                    split at hfd
                    · exact hfd
                    · omega
                  have HST : Hid (fdTo pj.params (q + 1) = fdTo pj.params q ++ ((if q = 0 then [] else [44, 32]) ++ fdShown pj.params[q])) := by show _ = _; rw [fdTo, List.getElem?_eq_getElem hltq]; rfl
                  have HLE := veil (fdTo_le pj.params (q + 1) pj.params.length hltq)
                  have hns : pj.params[q].name.size ≤ 8 := by
                    unfold fdFault at hfd
                    split at hfd
                    · rename_i hi; exact ident_size hi
                    · omega
                  clear hfd HFD
                  generalize pj.params[q] = pq at *
                  have hts := ty_size 10 pq.is 1 (by omega) HTyF
                  have C0 : Hid (∀ W : World, Below (wo.heap.size + 1) (wo.alloc (.cells #[.string pj.name, .string pj.var, .slice (some ⟨pb, po, none⟩) pj.params.length vp3, .int .i64 kd, .string fo, .string na, .slice va1 va2 va3, .int .i64 ke, .int .i64 ne, .string fe, .string se, .slice ve1 ve2 ve3] 49)) W → Calls Tryd.prog 12 #[.agg #[.int .i64 kq, .string fq, .string nq, .slice vq1 vq2 vq3]] W fun e w' => e = .returned (.string (textOf (tyShown pq.is))) ∧ Below W.heap.size W w') := fun W hW => by
                    have hb2 : Below w.heap.size w W := (HL.out.alloc (by omega) _).trans (hW.mono (by omega))
                    exact typeShown_any 10 1 (by omega) S pq.is _ W (fun c h => Nat.lt_of_lt_of_le (hS c h) hb2.size) ⟨_, _, _, _, rfl, hcs.keep (Keeps.below hb2 hS)⟩ HTyF
                  have HK0 : Hid ((fun W => Below (wo.heap.size + 1) (wo.alloc (.cells #[.string pj.name, .string pj.var, .slice (some ⟨pb, po, none⟩) pj.params.length vp3, .int .i64 kd, .string fo, .string na, .slice va1 va2 va3, .int .i64 ke, .int .i64 ne, .string fe, .string se, .slice ve1 ve2 ve3] 49)) W ∧ W.cell? ⟨wo.heap.size, 2, none⟩ = some (.slice (some ⟨pb, po, none⟩) pj.params.length vp3) ∧ W.cell? ⟨pb, po + q * 5, none⟩ = some (.string pq.name) ∧ W.cell? ⟨pb, po + q * 5 + 1, none⟩ = some (.int .i64 kq) ∧ W.cell? ⟨pb, po + q * 5 + 2, none⟩ = some (.string fq) ∧ W.cell? ⟨pb, po + q * 5 + 3, none⟩ = some (.string nq) ∧ W.cell? ⟨pb, po + q * 5 + 4, none⟩ = some (.slice vq1 vq2 vq3)) wr.drew) := ⟨HBI.out.drew, (hci 2).trans (World.cell?_alloc_at _ _ _ _ rfl), (HLi.out.cell (p := ⟨pb, po + q * 5, none⟩) hpbw).trans c0, (HLi.out.cell (p := ⟨pb, po + q * 5 + 1, none⟩) hpbw).trans c1, (HLi.out.cell (p := ⟨pb, po + q * 5 + 2, none⟩) hpbw).trans c2, (HLi.out.cell (p := ⟨pb, po + q * 5 + 3, none⟩) hpbw).trans c3, (HLi.out.cell (p := ⟨pb, po + q * 5 + 4, none⟩) hpbw).trans c4⟩
                  have HN : Hid (∀ W W' : World, (Below (wo.heap.size + 1) (wo.alloc (.cells #[.string pj.name, .string pj.var, .slice (some ⟨pb, po, none⟩) pj.params.length vp3, .int .i64 kd, .string fo, .string na, .slice va1 va2 va3, .int .i64 ke, .int .i64 ne, .string fe, .string se, .slice ve1 ve2 ve3] 49)) W ∧ W.cell? ⟨wo.heap.size, 2, none⟩ = some (.slice (some ⟨pb, po, none⟩) pj.params.length vp3) ∧ W.cell? ⟨pb, po + q * 5, none⟩ = some (.string pq.name) ∧ W.cell? ⟨pb, po + q * 5 + 1, none⟩ = some (.int .i64 kq) ∧ W.cell? ⟨pb, po + q * 5 + 2, none⟩ = some (.string fq) ∧ W.cell? ⟨pb, po + q * 5 + 3, none⟩ = some (.string nq) ∧ W.cell? ⟨pb, po + q * 5 + 4, none⟩ = some (.slice vq1 vq2 vq3)) → Below W.heap.size W W' → (Below (wo.heap.size + 1) (wo.alloc (.cells #[.string pj.name, .string pj.var, .slice (some ⟨pb, po, none⟩) pj.params.length vp3, .int .i64 kd, .string fo, .string na, .slice va1 va2 va3, .int .i64 ke, .int .i64 ne, .string fe, .string se, .slice ve1 ve2 ve3] 49)) W' ∧ W'.cell? ⟨wo.heap.size, 2, none⟩ = some (.slice (some ⟨pb, po, none⟩) pj.params.length vp3) ∧ W'.cell? ⟨pb, po + q * 5, none⟩ = some (.string pq.name) ∧ W'.cell? ⟨pb, po + q * 5 + 1, none⟩ = some (.int .i64 kq) ∧ W'.cell? ⟨pb, po + q * 5 + 2, none⟩ = some (.string fq) ∧ W'.cell? ⟨pb, po + q * 5 + 3, none⟩ = some (.string nq) ∧ W'.cell? ⟨pb, po + q * 5 + 4, none⟩ = some (.slice vq1 vq2 vq3))) := by
                    rintro W W' ⟨h0, h1, h2, h3, h4, h5, h6⟩ hb
                    have hs : wo.heap.size + 1 ≤ W.heap.size := by have := h0.size; simpa using this
                    exact ⟨h0.trans (hb.mono hs), (later_cell (by omega) hb _).trans h1, (later_cell (by omega) hb _).trans h2, (later_cell (by omega) hb _).trans h3, (later_cell (by omega) hb _).trans h4, (later_cell (by omega) hb _).trans h5, (later_cell (by omega) hb _).trans h6⟩
                  have HL0 : Hid (∀ W : World, (Below (wo.heap.size + 1) (wo.alloc (.cells #[.string pj.name, .string pj.var, .slice (some ⟨pb, po, none⟩) pj.params.length vp3, .int .i64 kd, .string fo, .string na, .slice va1 va2 va3, .int .i64 ke, .int .i64 ne, .string fe, .string se, .slice ve1 ve2 ve3] 49)) W ∧ W.cell? ⟨wo.heap.size, 2, none⟩ = some (.slice (some ⟨pb, po, none⟩) pj.params.length vp3) ∧ W.cell? ⟨pb, po + q * 5, none⟩ = some (.string pq.name) ∧ W.cell? ⟨pb, po + q * 5 + 1, none⟩ = some (.int .i64 kq) ∧ W.cell? ⟨pb, po + q * 5 + 2, none⟩ = some (.string fq) ∧ W.cell? ⟨pb, po + q * 5 + 3, none⟩ = some (.string nq) ∧ W.cell? ⟨pb, po + q * 5 + 4, none⟩ = some (.slice vq1 vq2 vq3)) → Below (wo.heap.size + 1) (wo.alloc (.cells #[.string pj.name, .string pj.var, .slice (some ⟨pb, po, none⟩) pj.params.length vp3, .int .i64 kd, .string fo, .string na, .slice va1 va2 va3, .int .i64 ke, .int .i64 ne, .string fe, .string se, .slice ve1 ve2 ve3] 49)) W) := fun W h => h.1
                  have hc2 : wr.cell? ⟨wo.heap.size, 2, none⟩ = some (.slice (some ⟨pb, po, none⟩) pj.params.length vp3) := HK0.out.2.1
                  have y1 : (((LT ++ linesTo funLine x.funcs j) ++ ([102, 117, 110, 99, 32] ++ (pj.name.data.toList ++ ([60] ++ (pj.var.data.toList ++ ([62] ++ [40])))))) ++ fdTo pj.params q).length ≤ 24 * 200000000500 := by
                    have := HLE.out
                    rw [HST.out, List.length_append] at this
                    rw [List.length_append]
                    have := HBound.out
                    omega
                  have s1 : (textOf (((LT ++ linesTo funLine x.funcs j) ++ ([102, 117, 110, 99, 32] ++ (pj.name.data.toList ++ ([60] ++ (pj.var.data.toList ++ ([62] ++ [40])))))) ++ fdTo pj.params q)).size = (((LT ++ linesTo funLine x.funcs j) ++ ([102, 117, 110, 99, 32] ++ (pj.name.data.toList ++ ([60] ++ (pj.var.data.toList ++ ([62] ++ [40])))))) ++ fdTo pj.params q).length := rfl
                  have s2 : (textOf (tyShown pq.is)).size = (tyShown pq.is).length := rfl
                  clear c0 c1 c2 c3 c4 hcs hprow hty HPR hci HTyF HLE
                  by_cases hq0 : q = 0
                  · have hq' : ¬ (0 : Int) < (q : Int) := by omega
                    have HE : Hid (textOf (((LT ++ linesTo funLine x.funcs j) ++ ([102, 117, 110, 99, 32] ++ (pj.name.data.toList ++ ([60] ++ (pj.var.data.toList ++ ([62] ++ [40])))))) ++ fdTo pj.params q) ++ pq.name ++ ByteArray.mk #[58, 32] ++ textOf (tyShown pq.is) = textOf (((LT ++ linesTo funLine x.funcs j) ++ ([102, 117, 110, 99, 32] ++ (pj.name.data.toList ++ ([60] ++ (pj.var.data.toList ++ ([62] ++ [40])))))) ++ fdTo pj.params (q + 1))) := by
                      show _ = _
                      rw [show ((LT ++ linesTo funLine x.funcs j) ++ ([102, 117, 110, 99, 32] ++ (pj.name.data.toList ++ ([60] ++ (pj.var.data.toList ++ ([62] ++ [40])))))) ++ fdTo pj.params (q + 1) = (((LT ++ linesTo funLine x.funcs j) ++ ([102, 117, 110, 99, 32] ++ (pj.name.data.toList ++ ([60] ++ (pj.var.data.toList ++ ([62] ++ [40])))))) ++ fdTo pj.params q) ++ (pq.name.data.toList ++ ([58, 32] ++ tyShown pq.is)) by rw [HST.out, if_pos hq0, List.nil_append, fdShown]; exact (List.append_assoc _ _ _).symm, ← textOf_append (((LT ++ linesTo funLine x.funcs j) ++ ([102, 117, 110, 99, 32] ++ (pj.name.data.toList ++ ([60] ++ (pj.var.data.toList ++ ([62] ++ [40])))))) ++ fdTo pj.params q), ← textOf_append pq.name.data.toList, ← textOf_append [58, 32], textOf_data]
                      simp only [ByteArray.append_assoc]
                      rfl
                    have z1 : ¬ 9223372036854775807 < (textOf (((LT ++ linesTo funLine x.funcs j) ++ ([102, 117, 110, 99, 32] ++ (pj.name.data.toList ++ ([60] ++ (pj.var.data.toList ++ ([62] ++ [40])))))) ++ fdTo pj.params q)).size + pq.name.size := by omega
                    have z2 : ¬ 9223372036854775807 < (textOf (((LT ++ linesTo funLine x.funcs j) ++ ([102, 117, 110, 99, 32] ++ (pj.name.data.toList ++ ([60] ++ (pj.var.data.toList ++ ([62] ++ [40])))))) ++ fdTo pj.params q)).size + pq.name.size + 2 := by omega
                    have z3 : ¬ 9223372036854775807 < (textOf (((LT ++ linesTo funLine x.funcs j) ++ ([102, 117, 110, 99, 32] ++ (pj.name.data.toList ++ ([60] ++ (pj.var.data.toList ++ ([62] ++ [40])))))) ++ fdTo pj.params q)).size + pq.name.size + 2 + (textOf (tyShown pq.is)).size := by omega
                    clear hq0 HST y1 s1 s2 hts hns
                    generalize textOf (tyShown pq.is) = ts at *
                    generalize textOf (((LT ++ linesTo funLine x.funcs j) ++ ([102, 117, 110, 99, 32] ++ (pj.name.data.toList ++ ([60] ++ (pj.var.data.toList ++ ([62] ++ [40])))))) ++ fdTo pj.params q) = tl at *
                    go_wp2_with fail
                    go_region_held3 (fun W => Below (wo.heap.size + 1) (wo.alloc (.cells #[.string pj.name, .string pj.var, .slice (some ⟨pb, po, none⟩) pj.params.length vp3, .int .i64 kd, .string fo, .string na, .slice va1 va2 va3, .int .i64 ke, .int .i64 ne, .string fe, .string se, .slice ve1 ve2 ve3] 49)) W ∧ W.cell? ⟨wo.heap.size, 2, none⟩ = some (.slice (some ⟨pb, po, none⟩) pj.params.length vp3) ∧ W.cell? ⟨pb, po + q * 5, none⟩ = some (.string pq.name) ∧ W.cell? ⟨pb, po + q * 5 + 1, none⟩ = some (.int .i64 kq) ∧ W.cell? ⟨pb, po + q * 5 + 2, none⟩ = some (.string fq) ∧ W.cell? ⟨pb, po + q * 5 + 3, none⟩ = some (.string nq) ∧ W.cell? ⟨pb, po + q * 5 + 4, none⟩ = some (.slice vq1 vq2 vq3)) (first | exact HK0.out | exact HN.out _ _ (by assumption) (by assumption))
                      (first | (go_at_call_of 12 (Value.slice vq1 vq2 vq3); refine (C0.out _ ?_).mono ?_; (exact HL0.out _ (by assumption)); rintro e w' ⟨rfl, hb'⟩))
                    all_goals
                      rename_i hHeld
                      have HH := veil (HL0.out _ hHeld)
                      clear hHeld
                      go_wp2_with fail
                      exact ⟨⟨q + 1, by omega, by go_num, by rw [HE.out], HH.out⟩, by simp [intOf]; omega⟩
                  · have hq' : (0 : Int) < (q : Int) := by omega
                    have HE : Hid (textOf (((LT ++ linesTo funLine x.funcs j) ++ ([102, 117, 110, 99, 32] ++ (pj.name.data.toList ++ ([60] ++ (pj.var.data.toList ++ ([62] ++ [40])))))) ++ fdTo pj.params q) ++ ByteArray.mk #[44, 32] ++ pq.name ++ ByteArray.mk #[58, 32] ++ textOf (tyShown pq.is) = textOf (((LT ++ linesTo funLine x.funcs j) ++ ([102, 117, 110, 99, 32] ++ (pj.name.data.toList ++ ([60] ++ (pj.var.data.toList ++ ([62] ++ [40])))))) ++ fdTo pj.params (q + 1))) := by
                      show _ = _
                      rw [show ((LT ++ linesTo funLine x.funcs j) ++ ([102, 117, 110, 99, 32] ++ (pj.name.data.toList ++ ([60] ++ (pj.var.data.toList ++ ([62] ++ [40])))))) ++ fdTo pj.params (q + 1) = (((LT ++ linesTo funLine x.funcs j) ++ ([102, 117, 110, 99, 32] ++ (pj.name.data.toList ++ ([60] ++ (pj.var.data.toList ++ ([62] ++ [40])))))) ++ fdTo pj.params q) ++ ([44, 32] ++ (pq.name.data.toList ++ ([58, 32] ++ tyShown pq.is))) by rw [HST.out, if_neg hq0, fdShown]; exact (List.append_assoc _ _ _).symm, ← textOf_append (((LT ++ linesTo funLine x.funcs j) ++ ([102, 117, 110, 99, 32] ++ (pj.name.data.toList ++ ([60] ++ (pj.var.data.toList ++ ([62] ++ [40])))))) ++ fdTo pj.params q), ← textOf_append [44, 32], ← textOf_append pq.name.data.toList, ← textOf_append [58, 32], textOf_data]
                      simp only [ByteArray.append_assoc]
                      rfl
                    have z0 : ¬ 9223372036854775807 < (textOf (((LT ++ linesTo funLine x.funcs j) ++ ([102, 117, 110, 99, 32] ++ (pj.name.data.toList ++ ([60] ++ (pj.var.data.toList ++ ([62] ++ [40])))))) ++ fdTo pj.params q)).size + 2 := by omega
                    have z1 : ¬ 9223372036854775807 < (textOf (((LT ++ linesTo funLine x.funcs j) ++ ([102, 117, 110, 99, 32] ++ (pj.name.data.toList ++ ([60] ++ (pj.var.data.toList ++ ([62] ++ [40])))))) ++ fdTo pj.params q)).size + 2 + pq.name.size := by omega
                    have z2 : ¬ 9223372036854775807 < (textOf (((LT ++ linesTo funLine x.funcs j) ++ ([102, 117, 110, 99, 32] ++ (pj.name.data.toList ++ ([60] ++ (pj.var.data.toList ++ ([62] ++ [40])))))) ++ fdTo pj.params q)).size + 2 + pq.name.size + 2 := by omega
                    have z3 : ¬ 9223372036854775807 < (textOf (((LT ++ linesTo funLine x.funcs j) ++ ([102, 117, 110, 99, 32] ++ (pj.name.data.toList ++ ([60] ++ (pj.var.data.toList ++ ([62] ++ [40])))))) ++ fdTo pj.params q)).size + 2 + pq.name.size + 2 + (textOf (tyShown pq.is)).size := by omega
                    clear hq0 HST y1 s1 s2 hts hns
                    generalize textOf (tyShown pq.is) = ts at *
                    generalize textOf (((LT ++ linesTo funLine x.funcs j) ++ ([102, 117, 110, 99, 32] ++ (pj.name.data.toList ++ ([60] ++ (pj.var.data.toList ++ ([62] ++ [40])))))) ++ fdTo pj.params q) = tl at *
                    go_wp2_with fail
                    go_region_held3 (fun W => Below (wo.heap.size + 1) (wo.alloc (.cells #[.string pj.name, .string pj.var, .slice (some ⟨pb, po, none⟩) pj.params.length vp3, .int .i64 kd, .string fo, .string na, .slice va1 va2 va3, .int .i64 ke, .int .i64 ne, .string fe, .string se, .slice ve1 ve2 ve3] 49)) W ∧ W.cell? ⟨wo.heap.size, 2, none⟩ = some (.slice (some ⟨pb, po, none⟩) pj.params.length vp3) ∧ W.cell? ⟨pb, po + q * 5, none⟩ = some (.string pq.name) ∧ W.cell? ⟨pb, po + q * 5 + 1, none⟩ = some (.int .i64 kq) ∧ W.cell? ⟨pb, po + q * 5 + 2, none⟩ = some (.string fq) ∧ W.cell? ⟨pb, po + q * 5 + 3, none⟩ = some (.string nq) ∧ W.cell? ⟨pb, po + q * 5 + 4, none⟩ = some (.slice vq1 vq2 vq3)) (first | exact HK0.out | exact HN.out _ _ (by assumption) (by assumption))
                      (first | (go_at_call_of 12 (Value.slice vq1 vq2 vq3); refine (C0.out _ ?_).mono ?_; (exact HL0.out _ (by assumption)); rintro e w' ⟨rfl, hb'⟩))
                    all_goals
                      rename_i hHeld
                      have HH := veil (HL0.out _ hHeld)
                      clear hHeld
                      go_wp2_with fail
                      exact ⟨⟨q + 1, by omega, by go_num, by rw [HE.out], HH.out⟩, by simp [intOf]; omega⟩
                · have hqe : q = pj.params.length := by omega
                  subst hqe
                  have C0 : Hid (∀ W : World, Below (wo.heap.size + 1) (wo.alloc (.cells #[.string pj.name, .string pj.var, .slice vp1 pj.params.length vp3, .int .i64 kd, .string fo, .string na, .slice va1 va2 va3, .int .i64 ke, .int .i64 ne, .string fe, .string se, .slice ve1 ve2 ve3] 49)) W → Calls Tryd.prog 12 #[.agg #[.int .i64 kd, .string fo, .string na, .slice va1 va2 va3]] W fun e w' => e = .returned (.string (textOf (tyShown pj.result))) ∧ Below W.heap.size W w') := fun W hW => by
                    have hb2 : Below w.heap.size w W := (HL.out.alloc (by omega) _).trans (hW.mono (by omega))
                    exact typeShown_any 10 1 (by omega) S pj.result _ W (fun c h => Nat.lt_of_lt_of_le (hS c h) hb2.size) ⟨_, _, _, _, rfl, HCT.out.keep (Keeps.below hb2 hS)⟩ hres
                  have C1 : Hid (∀ W : World, Below (wo.heap.size + 1) (wo.alloc (.cells #[.string pj.name, .string pj.var, .slice vp1 pj.params.length vp3, .int .i64 kd, .string fo, .string na, .slice va1 va2 va3, .int .i64 ke, .int .i64 ne, .string fe, .string se, .slice ve1 ve2 ve3] 49)) W → Calls Tryd.prog 13 #[.agg #[.int .i64 ke, .int .i64 ne, .string fe, .string se, .slice ve1 ve2 ve3]] W fun e w' => e = .returned (.string (textOf (exShown pj.body))) ∧ Below W.heap.size W w') := fun W hW => by
                    have hb2 : Below w.heap.size w W := (HL.out.alloc (by omega) _).trans (hW.mono (by omega))
                    exact exprShown_any 10 1 (by omega) S pj.body _ W (fun c h => Nat.lt_of_lt_of_le (hS c h) hb2.size) ⟨_, _, _, _, _, rfl, HCE.out.keep (Keeps.below hb2 hS)⟩ hbody
                  have HK0 : Hid ((fun W => Below (wo.heap.size + 1) (wo.alloc (.cells #[.string pj.name, .string pj.var, .slice vp1 pj.params.length vp3, .int .i64 kd, .string fo, .string na, .slice va1 va2 va3, .int .i64 ke, .int .i64 ne, .string fe, .string se, .slice ve1 ve2 ve3] 49)) W ∧ W.cell? ⟨wo.heap.size, 3, none⟩ = some (.int .i64 kd) ∧ W.cell? ⟨wo.heap.size, 4, none⟩ = some (.string fo) ∧ W.cell? ⟨wo.heap.size, 5, none⟩ = some (.string na) ∧ W.cell? ⟨wo.heap.size, 6, none⟩ = some (.slice va1 va2 va3) ∧ W.cell? ⟨wo.heap.size, 7, none⟩ = some (.int .i64 ke) ∧ W.cell? ⟨wo.heap.size, 8, none⟩ = some (.int .i64 ne) ∧ W.cell? ⟨wo.heap.size, 9, none⟩ = some (.string fe) ∧ W.cell? ⟨wo.heap.size, 10, none⟩ = some (.string se) ∧ W.cell? ⟨wo.heap.size, 11, none⟩ = some (.slice ve1 ve2 ve3)) wr.drew) := ⟨HBI.out.drew, (hci 3).trans (World.cell?_alloc_at _ _ _ _ rfl), (hci 4).trans (World.cell?_alloc_at _ _ _ _ rfl), (hci 5).trans (World.cell?_alloc_at _ _ _ _ rfl), (hci 6).trans (World.cell?_alloc_at _ _ _ _ rfl), (hci 7).trans (World.cell?_alloc_at _ _ _ _ rfl), (hci 8).trans (World.cell?_alloc_at _ _ _ _ rfl), (hci 9).trans (World.cell?_alloc_at _ _ _ _ rfl), (hci 10).trans (World.cell?_alloc_at _ _ _ _ rfl), (hci 11).trans (World.cell?_alloc_at _ _ _ _ rfl)⟩
                  have HN : Hid (∀ W W' : World, (Below (wo.heap.size + 1) (wo.alloc (.cells #[.string pj.name, .string pj.var, .slice vp1 pj.params.length vp3, .int .i64 kd, .string fo, .string na, .slice va1 va2 va3, .int .i64 ke, .int .i64 ne, .string fe, .string se, .slice ve1 ve2 ve3] 49)) W ∧ W.cell? ⟨wo.heap.size, 3, none⟩ = some (.int .i64 kd) ∧ W.cell? ⟨wo.heap.size, 4, none⟩ = some (.string fo) ∧ W.cell? ⟨wo.heap.size, 5, none⟩ = some (.string na) ∧ W.cell? ⟨wo.heap.size, 6, none⟩ = some (.slice va1 va2 va3) ∧ W.cell? ⟨wo.heap.size, 7, none⟩ = some (.int .i64 ke) ∧ W.cell? ⟨wo.heap.size, 8, none⟩ = some (.int .i64 ne) ∧ W.cell? ⟨wo.heap.size, 9, none⟩ = some (.string fe) ∧ W.cell? ⟨wo.heap.size, 10, none⟩ = some (.string se) ∧ W.cell? ⟨wo.heap.size, 11, none⟩ = some (.slice ve1 ve2 ve3)) → Below W.heap.size W W' → (Below (wo.heap.size + 1) (wo.alloc (.cells #[.string pj.name, .string pj.var, .slice vp1 pj.params.length vp3, .int .i64 kd, .string fo, .string na, .slice va1 va2 va3, .int .i64 ke, .int .i64 ne, .string fe, .string se, .slice ve1 ve2 ve3] 49)) W' ∧ W'.cell? ⟨wo.heap.size, 3, none⟩ = some (.int .i64 kd) ∧ W'.cell? ⟨wo.heap.size, 4, none⟩ = some (.string fo) ∧ W'.cell? ⟨wo.heap.size, 5, none⟩ = some (.string na) ∧ W'.cell? ⟨wo.heap.size, 6, none⟩ = some (.slice va1 va2 va3) ∧ W'.cell? ⟨wo.heap.size, 7, none⟩ = some (.int .i64 ke) ∧ W'.cell? ⟨wo.heap.size, 8, none⟩ = some (.int .i64 ne) ∧ W'.cell? ⟨wo.heap.size, 9, none⟩ = some (.string fe) ∧ W'.cell? ⟨wo.heap.size, 10, none⟩ = some (.string se) ∧ W'.cell? ⟨wo.heap.size, 11, none⟩ = some (.slice ve1 ve2 ve3))) := by
                    rintro W W' ⟨h0, h1, h2, h3, h4, h5, h6, h7, h8, h9⟩ hb
                    have hs : wo.heap.size + 1 ≤ W.heap.size := by have := h0.size; simpa using this
                    have hlc := fun o => later_cell (n := wo.heap.size) (W' := W') (by omega) hb o
                    exact ⟨h0.trans (hb.mono hs), (hlc _).trans h1, (hlc _).trans h2, (hlc _).trans h3, (hlc _).trans h4, (hlc _).trans h5, (hlc _).trans h6, (hlc _).trans h7, (hlc _).trans h8, (hlc _).trans h9⟩
                  have HL0 : Hid (∀ W : World, (Below (wo.heap.size + 1) (wo.alloc (.cells #[.string pj.name, .string pj.var, .slice vp1 pj.params.length vp3, .int .i64 kd, .string fo, .string na, .slice va1 va2 va3, .int .i64 ke, .int .i64 ne, .string fe, .string se, .slice ve1 ve2 ve3] 49)) W ∧ W.cell? ⟨wo.heap.size, 3, none⟩ = some (.int .i64 kd) ∧ W.cell? ⟨wo.heap.size, 4, none⟩ = some (.string fo) ∧ W.cell? ⟨wo.heap.size, 5, none⟩ = some (.string na) ∧ W.cell? ⟨wo.heap.size, 6, none⟩ = some (.slice va1 va2 va3) ∧ W.cell? ⟨wo.heap.size, 7, none⟩ = some (.int .i64 ke) ∧ W.cell? ⟨wo.heap.size, 8, none⟩ = some (.int .i64 ne) ∧ W.cell? ⟨wo.heap.size, 9, none⟩ = some (.string fe) ∧ W.cell? ⟨wo.heap.size, 10, none⟩ = some (.string se) ∧ W.cell? ⟨wo.heap.size, 11, none⟩ = some (.slice ve1 ve2 ve3)) → Below (wo.heap.size + 1) (wo.alloc (.cells #[.string pj.name, .string pj.var, .slice vp1 pj.params.length vp3, .int .i64 kd, .string fo, .string na, .slice va1 va2 va3, .int .i64 ke, .int .i64 ne, .string fe, .string se, .slice ve1 ve2 ve3] 49)) W) := fun W h => h.1
                  have hc2 : wr.cell? ⟨wo.heap.size, 2, none⟩ = some (.slice vp1 pj.params.length vp3) := (hci 2).trans (World.cell?_alloc_at _ _ _ _ rfl)
                  have y1 : (((LT ++ linesTo funLine x.funcs j) ++ ([102, 117, 110, 99, 32] ++ (pj.name.data.toList ++ ([60] ++ (pj.var.data.toList ++ ([62] ++ [40])))))) ++ fdTo pj.params pj.params.length).length ≤ 24 * 200000000500 := by
                    rw [List.length_append]
                    have := HBound.out
                    omega
                  have y2 := ty_size 10 pj.result 1 (by omega) hres
                  have y3 := ex_size 10 pj.body 1 (by omega) hbody
                  have e10 : 20 * 10 ^ 10 = 200000000000 := by decide
                  rw [e10] at y3
                  have s1 : (textOf (((LT ++ linesTo funLine x.funcs j) ++ ([102, 117, 110, 99, 32] ++ (pj.name.data.toList ++ ([60] ++ (pj.var.data.toList ++ ([62] ++ [40])))))) ++ fdTo pj.params pj.params.length)).size = (((LT ++ linesTo funLine x.funcs j) ++ ([102, 117, 110, 99, 32] ++ (pj.name.data.toList ++ ([60] ++ (pj.var.data.toList ++ ([62] ++ [40])))))) ++ fdTo pj.params pj.params.length).length := rfl
                  have s2 : (textOf (tyShown pj.result)).size = (tyShown pj.result).length := rfl
                  have s3 : (textOf (exShown pj.body)).size = (exShown pj.body).length := rfl
                  have HE : Hid (textOf (((LT ++ linesTo funLine x.funcs j) ++ ([102, 117, 110, 99, 32] ++ (pj.name.data.toList ++ ([60] ++ (pj.var.data.toList ++ ([62] ++ [40])))))) ++ fdTo pj.params pj.params.length) ++ ByteArray.mk #[41, 58, 32] ++ textOf (tyShown pj.result) ++ ByteArray.mk #[32, 61, 32] ++ textOf (exShown pj.body) ++ ByteArray.mk #[10] = textOf (LT ++ linesTo funLine x.funcs (j + 1))) := by
                    show _ = _
                    rw [HEnd.out, ← textOf_append (((LT ++ linesTo funLine x.funcs j) ++ ([102, 117, 110, 99, 32] ++ (pj.name.data.toList ++ ([60] ++ (pj.var.data.toList ++ ([62] ++ [40])))))) ++ fdTo pj.params pj.params.length), ← textOf_append, ← textOf_append, ← textOf_append, ← textOf_append]
                    simp only [ByteArray.append_assoc]
                    rfl
                  have z1 : ¬ 9223372036854775807 < (textOf (((LT ++ linesTo funLine x.funcs j) ++ ([102, 117, 110, 99, 32] ++ (pj.name.data.toList ++ ([60] ++ (pj.var.data.toList ++ ([62] ++ [40])))))) ++ fdTo pj.params pj.params.length)).size + 3 := by omega
                  have z2 : ¬ 9223372036854775807 < (textOf (((LT ++ linesTo funLine x.funcs j) ++ ([102, 117, 110, 99, 32] ++ (pj.name.data.toList ++ ([60] ++ (pj.var.data.toList ++ ([62] ++ [40])))))) ++ fdTo pj.params pj.params.length)).size + 3 + (textOf (tyShown pj.result)).size := by omega
                  have z3 : ¬ 9223372036854775807 < (textOf (((LT ++ linesTo funLine x.funcs j) ++ ([102, 117, 110, 99, 32] ++ (pj.name.data.toList ++ ([60] ++ (pj.var.data.toList ++ ([62] ++ [40])))))) ++ fdTo pj.params pj.params.length)).size + 3 + (textOf (tyShown pj.result)).size + 3 := by omega
                  have z4 : ¬ 9223372036854775807 < (textOf (((LT ++ linesTo funLine x.funcs j) ++ ([102, 117, 110, 99, 32] ++ (pj.name.data.toList ++ ([60] ++ (pj.var.data.toList ++ ([62] ++ [40])))))) ++ fdTo pj.params pj.params.length)).size + 3 + (textOf (tyShown pj.result)).size + 3 + (textOf (exShown pj.body)).size := by omega
                  have z5 : ¬ 9223372036854775807 < (textOf (((LT ++ linesTo funLine x.funcs j) ++ ([102, 117, 110, 99, 32] ++ (pj.name.data.toList ++ ([60] ++ (pj.var.data.toList ++ ([62] ++ [40])))))) ++ fdTo pj.params pj.params.length)).size + 3 + (textOf (tyShown pj.result)).size + 3 + (textOf (exShown pj.body)).size + 1 := by omega
                  clear hci HPR HFD y1 y2 y3 e10 s1 s2 s3
                  generalize textOf (tyShown pj.result) = ts at *
                  generalize textOf (exShown pj.body) = tx at *
                  generalize textOf (((LT ++ linesTo funLine x.funcs j) ++ ([102, 117, 110, 99, 32] ++ (pj.name.data.toList ++ ([60] ++ (pj.var.data.toList ++ ([62] ++ [40])))))) ++ fdTo pj.params pj.params.length) = tl at *
                  go_wp2_with fail
                  go_region_held3 (fun W => Below (wo.heap.size + 1) (wo.alloc (.cells #[.string pj.name, .string pj.var, .slice vp1 pj.params.length vp3, .int .i64 kd, .string fo, .string na, .slice va1 va2 va3, .int .i64 ke, .int .i64 ne, .string fe, .string se, .slice ve1 ve2 ve3] 49)) W ∧ W.cell? ⟨wo.heap.size, 3, none⟩ = some (.int .i64 kd) ∧ W.cell? ⟨wo.heap.size, 4, none⟩ = some (.string fo) ∧ W.cell? ⟨wo.heap.size, 5, none⟩ = some (.string na) ∧ W.cell? ⟨wo.heap.size, 6, none⟩ = some (.slice va1 va2 va3) ∧ W.cell? ⟨wo.heap.size, 7, none⟩ = some (.int .i64 ke) ∧ W.cell? ⟨wo.heap.size, 8, none⟩ = some (.int .i64 ne) ∧ W.cell? ⟨wo.heap.size, 9, none⟩ = some (.string fe) ∧ W.cell? ⟨wo.heap.size, 10, none⟩ = some (.string se) ∧ W.cell? ⟨wo.heap.size, 11, none⟩ = some (.slice ve1 ve2 ve3)) (first | exact HK0.out | exact HN.out _ _ (by assumption) (by assumption))
                    (first | (go_at_call 12; refine (C0.out _ ?_).mono ?_; (exact HL0.out _ (by assumption)); rintro e w' ⟨rfl, hb'⟩) | (go_at_call 13; refine (C1.out _ ?_).mono ?_; (exact HL0.out _ (by assumption)); rintro e w' ⟨rfl, hb'⟩))
                  all_goals
                    rename_i hHeld
                    have HH := veil (HL0.out _ hHeld)
                    clear hHeld
                    go_wp2_with fail
                    exact ⟨⟨j + 1, by omega, by go_num, by rw [HE.out], (HBL.out.alloc (by omega) _).trans (HH.out.mono (by omega))⟩, by simp [intOf]; omega⟩
            · have hvs : varShown pj.var = [] := if_pos (by rw [← HVN.out, hv])
              have HE1 : Hid (textOf (LT ++ linesTo funLine x.funcs j) ++ ByteArray.mk #[102, 117, 110, 99, 32] ++ pj.name ++ ByteArray.mk #[40] = textOf ((LT ++ linesTo funLine x.funcs j) ++ ([102, 117, 110, 99, 32] ++ (pj.name.data.toList ++ [40])))) := by
                show _ = _
                rw [← textOf_append (LT ++ linesTo funLine x.funcs j), ← textOf_append [102, 117, 110, 99, 32], ← textOf_append pj.name.data.toList, textOf_data]
                simp only [ByteArray.append_assoc]
                rfl
              have HEnd : Hid (LT ++ linesTo funLine x.funcs (j + 1) = (((LT ++ linesTo funLine x.funcs j) ++ ([102, 117, 110, 99, 32] ++ (pj.name.data.toList ++ [40]))) ++ fdTo pj.params pj.params.length) ++ ([41, 58, 32] ++ (tyShown pj.result ++ ([32, 61, 32] ++ (exShown pj.body ++ [10]))))) := by
                show _ = _
                rw [HST.out, funLine, fuShown, hvs]
                simp [List.append_assoc]
              have HBound : Hid (((LT ++ linesTo funLine x.funcs j) ++ ([102, 117, 110, 99, 32] ++ (pj.name.data.toList ++ [40]))).length + (fdTo pj.params pj.params.length).length ≤ 24 * 200000000500) := by
                show _ ≤ _
                have h1 := hszT
                have h2 := HLE.out
                rw [HST.out, funLine, fuShown, hvs] at h2
                simp only [List.length_append, List.length_cons, List.length_nil] at h1 h2 ⊢
                omega
              have zz0 : ¬ 9223372036854775807 < (textOf (LT ++ linesTo funLine x.funcs j)).size + 5 := by omega
              have zz1 : ¬ 9223372036854775807 < (textOf (LT ++ linesTo funLine x.funcs j)).size + 5 + pj.name.size := by omega
              have zz2 : ¬ 9223372036854775807 < (textOf (LT ++ linesTo funLine x.funcs j)).size + 5 + pj.name.size + 1 := by omega
              clear hvs HVN hv0s
              go_wp2_with fail
              go_loopw [5, 10] (fun sv i wr => ∃ q : Nat, q ≤ pj.params.length ∧ i = .int .i64 q ∧ sv = .string (textOf (((LT ++ linesTo funLine x.funcs j) ++ ([102, 117, 110, 99, 32] ++ (pj.name.data.toList ++ [40]))) ++ fdTo pj.params q)) ∧ Below (wo.heap.size + 1) (wo.alloc (.cells #[.string pj.name, .string pj.var, .slice vp1 pj.params.length vp3, .int .i64 kd, .string fo, .string na, .slice va1 va2 va3, .int .i64 ke, .int .i64 ne, .string fe, .string se, .slice ve1 ve2 ve3] 49)) wr) (fun _ i _ => pj.params.length - (intOf i).toNat)
              case atStart => exact ⟨0, Nat.zero_le _, rfl, by rw [fdTo, List.append_nil, ← HE1.out], Below.refl _ _⟩
              case round =>
                clear HE1 zz0 zz1 zz2
                obtain ⟨q, hq, rfl, rfl, hbi⟩ := hrel
                have HBI := veil hbi
                have hbsi : wo.heap.size + 1 ≤ wr.heap.size := by have := hbi.size; simpa using this
                have hci := fun o => hbi.cell (p := ⟨wo.heap.size, o, none⟩) (by show wo.heap.size < wo.heap.size + 1; omega)
                have HLi := veil ((HL.out.alloc (by omega) (.cells #[.string pj.name, .string pj.var, .slice vp1 pj.params.length vp3, .int .i64 kd, .string fo, .string na, .slice va1 va2 va3, .int .i64 ke, .int .i64 ne, .string fe, .string se, .slice ve1 ve2 ve3] 49)).trans (hbi.mono (by omega)))
                clear hbi
                by_cases hltq : q < pj.params.length
                · rcases HPR.out with hn0 | ⟨pb, po, rfl, hpb, hprow⟩
                  · omega
                  have hpbw := hS pb hpb
                  obtain ⟨⟨c0, hfs⟩, hty⟩ := hprow.get q hltq
                  obtain ⟨kq, fq, nq, vq, c1, c2, c3, c4, hcs⟩ := tyAt_cells.1 hty
                  obtain ⟨vq1, vq2, vq3, rfl⟩ := hcs.slice
                  rw [Nat.add_assoc] at c2 c3 c4
                  have hfd := HFD.out q hltq
                  have HTyF : tyFault pj.params[q].is 1 = 0 := by
                    unfold fdFault at hfd
                    split at hfd
                    · exact hfd
                    · omega
                  have HST : Hid (fdTo pj.params (q + 1) = fdTo pj.params q ++ ((if q = 0 then [] else [44, 32]) ++ fdShown pj.params[q])) := by show _ = _; rw [fdTo, List.getElem?_eq_getElem hltq]; rfl
                  have HLE := veil (fdTo_le pj.params (q + 1) pj.params.length hltq)
                  have hns : pj.params[q].name.size ≤ 8 := by
                    unfold fdFault at hfd
                    split at hfd
                    · rename_i hi; exact ident_size hi
                    · omega
                  clear hfd HFD
                  generalize pj.params[q] = pq at *
                  have hts := ty_size 10 pq.is 1 (by omega) HTyF
                  have C0 : Hid (∀ W : World, Below (wo.heap.size + 1) (wo.alloc (.cells #[.string pj.name, .string pj.var, .slice (some ⟨pb, po, none⟩) pj.params.length vp3, .int .i64 kd, .string fo, .string na, .slice va1 va2 va3, .int .i64 ke, .int .i64 ne, .string fe, .string se, .slice ve1 ve2 ve3] 49)) W → Calls Tryd.prog 12 #[.agg #[.int .i64 kq, .string fq, .string nq, .slice vq1 vq2 vq3]] W fun e w' => e = .returned (.string (textOf (tyShown pq.is))) ∧ Below W.heap.size W w') := fun W hW => by
                    have hb2 : Below w.heap.size w W := (HL.out.alloc (by omega) _).trans (hW.mono (by omega))
                    exact typeShown_any 10 1 (by omega) S pq.is _ W (fun c h => Nat.lt_of_lt_of_le (hS c h) hb2.size) ⟨_, _, _, _, rfl, hcs.keep (Keeps.below hb2 hS)⟩ HTyF
                  have HK0 : Hid ((fun W => Below (wo.heap.size + 1) (wo.alloc (.cells #[.string pj.name, .string pj.var, .slice (some ⟨pb, po, none⟩) pj.params.length vp3, .int .i64 kd, .string fo, .string na, .slice va1 va2 va3, .int .i64 ke, .int .i64 ne, .string fe, .string se, .slice ve1 ve2 ve3] 49)) W ∧ W.cell? ⟨wo.heap.size, 2, none⟩ = some (.slice (some ⟨pb, po, none⟩) pj.params.length vp3) ∧ W.cell? ⟨pb, po + q * 5, none⟩ = some (.string pq.name) ∧ W.cell? ⟨pb, po + q * 5 + 1, none⟩ = some (.int .i64 kq) ∧ W.cell? ⟨pb, po + q * 5 + 2, none⟩ = some (.string fq) ∧ W.cell? ⟨pb, po + q * 5 + 3, none⟩ = some (.string nq) ∧ W.cell? ⟨pb, po + q * 5 + 4, none⟩ = some (.slice vq1 vq2 vq3)) wr.drew) := ⟨HBI.out.drew, (hci 2).trans (World.cell?_alloc_at _ _ _ _ rfl), (HLi.out.cell (p := ⟨pb, po + q * 5, none⟩) hpbw).trans c0, (HLi.out.cell (p := ⟨pb, po + q * 5 + 1, none⟩) hpbw).trans c1, (HLi.out.cell (p := ⟨pb, po + q * 5 + 2, none⟩) hpbw).trans c2, (HLi.out.cell (p := ⟨pb, po + q * 5 + 3, none⟩) hpbw).trans c3, (HLi.out.cell (p := ⟨pb, po + q * 5 + 4, none⟩) hpbw).trans c4⟩
                  have HN : Hid (∀ W W' : World, (Below (wo.heap.size + 1) (wo.alloc (.cells #[.string pj.name, .string pj.var, .slice (some ⟨pb, po, none⟩) pj.params.length vp3, .int .i64 kd, .string fo, .string na, .slice va1 va2 va3, .int .i64 ke, .int .i64 ne, .string fe, .string se, .slice ve1 ve2 ve3] 49)) W ∧ W.cell? ⟨wo.heap.size, 2, none⟩ = some (.slice (some ⟨pb, po, none⟩) pj.params.length vp3) ∧ W.cell? ⟨pb, po + q * 5, none⟩ = some (.string pq.name) ∧ W.cell? ⟨pb, po + q * 5 + 1, none⟩ = some (.int .i64 kq) ∧ W.cell? ⟨pb, po + q * 5 + 2, none⟩ = some (.string fq) ∧ W.cell? ⟨pb, po + q * 5 + 3, none⟩ = some (.string nq) ∧ W.cell? ⟨pb, po + q * 5 + 4, none⟩ = some (.slice vq1 vq2 vq3)) → Below W.heap.size W W' → (Below (wo.heap.size + 1) (wo.alloc (.cells #[.string pj.name, .string pj.var, .slice (some ⟨pb, po, none⟩) pj.params.length vp3, .int .i64 kd, .string fo, .string na, .slice va1 va2 va3, .int .i64 ke, .int .i64 ne, .string fe, .string se, .slice ve1 ve2 ve3] 49)) W' ∧ W'.cell? ⟨wo.heap.size, 2, none⟩ = some (.slice (some ⟨pb, po, none⟩) pj.params.length vp3) ∧ W'.cell? ⟨pb, po + q * 5, none⟩ = some (.string pq.name) ∧ W'.cell? ⟨pb, po + q * 5 + 1, none⟩ = some (.int .i64 kq) ∧ W'.cell? ⟨pb, po + q * 5 + 2, none⟩ = some (.string fq) ∧ W'.cell? ⟨pb, po + q * 5 + 3, none⟩ = some (.string nq) ∧ W'.cell? ⟨pb, po + q * 5 + 4, none⟩ = some (.slice vq1 vq2 vq3))) := by
                    rintro W W' ⟨h0, h1, h2, h3, h4, h5, h6⟩ hb
                    have hs : wo.heap.size + 1 ≤ W.heap.size := by have := h0.size; simpa using this
                    exact ⟨h0.trans (hb.mono hs), (later_cell (by omega) hb _).trans h1, (later_cell (by omega) hb _).trans h2, (later_cell (by omega) hb _).trans h3, (later_cell (by omega) hb _).trans h4, (later_cell (by omega) hb _).trans h5, (later_cell (by omega) hb _).trans h6⟩
                  have HL0 : Hid (∀ W : World, (Below (wo.heap.size + 1) (wo.alloc (.cells #[.string pj.name, .string pj.var, .slice (some ⟨pb, po, none⟩) pj.params.length vp3, .int .i64 kd, .string fo, .string na, .slice va1 va2 va3, .int .i64 ke, .int .i64 ne, .string fe, .string se, .slice ve1 ve2 ve3] 49)) W ∧ W.cell? ⟨wo.heap.size, 2, none⟩ = some (.slice (some ⟨pb, po, none⟩) pj.params.length vp3) ∧ W.cell? ⟨pb, po + q * 5, none⟩ = some (.string pq.name) ∧ W.cell? ⟨pb, po + q * 5 + 1, none⟩ = some (.int .i64 kq) ∧ W.cell? ⟨pb, po + q * 5 + 2, none⟩ = some (.string fq) ∧ W.cell? ⟨pb, po + q * 5 + 3, none⟩ = some (.string nq) ∧ W.cell? ⟨pb, po + q * 5 + 4, none⟩ = some (.slice vq1 vq2 vq3)) → Below (wo.heap.size + 1) (wo.alloc (.cells #[.string pj.name, .string pj.var, .slice (some ⟨pb, po, none⟩) pj.params.length vp3, .int .i64 kd, .string fo, .string na, .slice va1 va2 va3, .int .i64 ke, .int .i64 ne, .string fe, .string se, .slice ve1 ve2 ve3] 49)) W) := fun W h => h.1
                  have hc2 : wr.cell? ⟨wo.heap.size, 2, none⟩ = some (.slice (some ⟨pb, po, none⟩) pj.params.length vp3) := HK0.out.2.1
                  have y1 : (((LT ++ linesTo funLine x.funcs j) ++ ([102, 117, 110, 99, 32] ++ (pj.name.data.toList ++ [40]))) ++ fdTo pj.params q).length ≤ 24 * 200000000500 := by
                    have := HLE.out
                    rw [HST.out, List.length_append] at this
                    rw [List.length_append]
                    have := HBound.out
                    omega
                  have s1 : (textOf (((LT ++ linesTo funLine x.funcs j) ++ ([102, 117, 110, 99, 32] ++ (pj.name.data.toList ++ [40]))) ++ fdTo pj.params q)).size = (((LT ++ linesTo funLine x.funcs j) ++ ([102, 117, 110, 99, 32] ++ (pj.name.data.toList ++ [40]))) ++ fdTo pj.params q).length := rfl
                  have s2 : (textOf (tyShown pq.is)).size = (tyShown pq.is).length := rfl
                  clear c0 c1 c2 c3 c4 hcs hprow hty HPR hci HTyF HLE
                  by_cases hq0 : q = 0
                  · have hq' : ¬ (0 : Int) < (q : Int) := by omega
                    have HE : Hid (textOf (((LT ++ linesTo funLine x.funcs j) ++ ([102, 117, 110, 99, 32] ++ (pj.name.data.toList ++ [40]))) ++ fdTo pj.params q) ++ pq.name ++ ByteArray.mk #[58, 32] ++ textOf (tyShown pq.is) = textOf (((LT ++ linesTo funLine x.funcs j) ++ ([102, 117, 110, 99, 32] ++ (pj.name.data.toList ++ [40]))) ++ fdTo pj.params (q + 1))) := by
                      show _ = _
                      rw [show ((LT ++ linesTo funLine x.funcs j) ++ ([102, 117, 110, 99, 32] ++ (pj.name.data.toList ++ [40]))) ++ fdTo pj.params (q + 1) = (((LT ++ linesTo funLine x.funcs j) ++ ([102, 117, 110, 99, 32] ++ (pj.name.data.toList ++ [40]))) ++ fdTo pj.params q) ++ (pq.name.data.toList ++ ([58, 32] ++ tyShown pq.is)) by rw [HST.out, if_pos hq0, List.nil_append, fdShown]; exact (List.append_assoc _ _ _).symm, ← textOf_append (((LT ++ linesTo funLine x.funcs j) ++ ([102, 117, 110, 99, 32] ++ (pj.name.data.toList ++ [40]))) ++ fdTo pj.params q), ← textOf_append pq.name.data.toList, ← textOf_append [58, 32], textOf_data]
                      simp only [ByteArray.append_assoc]
                      rfl
                    have z1 : ¬ 9223372036854775807 < (textOf (((LT ++ linesTo funLine x.funcs j) ++ ([102, 117, 110, 99, 32] ++ (pj.name.data.toList ++ [40]))) ++ fdTo pj.params q)).size + pq.name.size := by omega
                    have z2 : ¬ 9223372036854775807 < (textOf (((LT ++ linesTo funLine x.funcs j) ++ ([102, 117, 110, 99, 32] ++ (pj.name.data.toList ++ [40]))) ++ fdTo pj.params q)).size + pq.name.size + 2 := by omega
                    have z3 : ¬ 9223372036854775807 < (textOf (((LT ++ linesTo funLine x.funcs j) ++ ([102, 117, 110, 99, 32] ++ (pj.name.data.toList ++ [40]))) ++ fdTo pj.params q)).size + pq.name.size + 2 + (textOf (tyShown pq.is)).size := by omega
                    clear hq0 HST y1 s1 s2 hts hns
                    generalize textOf (tyShown pq.is) = ts at *
                    generalize textOf (((LT ++ linesTo funLine x.funcs j) ++ ([102, 117, 110, 99, 32] ++ (pj.name.data.toList ++ [40]))) ++ fdTo pj.params q) = tl at *
                    go_wp2_with fail
                    go_region_held3 (fun W => Below (wo.heap.size + 1) (wo.alloc (.cells #[.string pj.name, .string pj.var, .slice (some ⟨pb, po, none⟩) pj.params.length vp3, .int .i64 kd, .string fo, .string na, .slice va1 va2 va3, .int .i64 ke, .int .i64 ne, .string fe, .string se, .slice ve1 ve2 ve3] 49)) W ∧ W.cell? ⟨wo.heap.size, 2, none⟩ = some (.slice (some ⟨pb, po, none⟩) pj.params.length vp3) ∧ W.cell? ⟨pb, po + q * 5, none⟩ = some (.string pq.name) ∧ W.cell? ⟨pb, po + q * 5 + 1, none⟩ = some (.int .i64 kq) ∧ W.cell? ⟨pb, po + q * 5 + 2, none⟩ = some (.string fq) ∧ W.cell? ⟨pb, po + q * 5 + 3, none⟩ = some (.string nq) ∧ W.cell? ⟨pb, po + q * 5 + 4, none⟩ = some (.slice vq1 vq2 vq3)) (first | exact HK0.out | exact HN.out _ _ (by assumption) (by assumption))
                      (first | (go_at_call_of 12 (Value.slice vq1 vq2 vq3); refine (C0.out _ ?_).mono ?_; (exact HL0.out _ (by assumption)); rintro e w' ⟨rfl, hb'⟩))
                    all_goals
                      rename_i hHeld
                      have HH := veil (HL0.out _ hHeld)
                      clear hHeld
                      go_wp2_with fail
                      exact ⟨⟨q + 1, by omega, by go_num, by rw [HE.out], HH.out⟩, by simp [intOf]; omega⟩
                  · have hq' : (0 : Int) < (q : Int) := by omega
                    have HE : Hid (textOf (((LT ++ linesTo funLine x.funcs j) ++ ([102, 117, 110, 99, 32] ++ (pj.name.data.toList ++ [40]))) ++ fdTo pj.params q) ++ ByteArray.mk #[44, 32] ++ pq.name ++ ByteArray.mk #[58, 32] ++ textOf (tyShown pq.is) = textOf (((LT ++ linesTo funLine x.funcs j) ++ ([102, 117, 110, 99, 32] ++ (pj.name.data.toList ++ [40]))) ++ fdTo pj.params (q + 1))) := by
                      show _ = _
                      rw [show ((LT ++ linesTo funLine x.funcs j) ++ ([102, 117, 110, 99, 32] ++ (pj.name.data.toList ++ [40]))) ++ fdTo pj.params (q + 1) = (((LT ++ linesTo funLine x.funcs j) ++ ([102, 117, 110, 99, 32] ++ (pj.name.data.toList ++ [40]))) ++ fdTo pj.params q) ++ ([44, 32] ++ (pq.name.data.toList ++ ([58, 32] ++ tyShown pq.is))) by rw [HST.out, if_neg hq0, fdShown]; exact (List.append_assoc _ _ _).symm, ← textOf_append (((LT ++ linesTo funLine x.funcs j) ++ ([102, 117, 110, 99, 32] ++ (pj.name.data.toList ++ [40]))) ++ fdTo pj.params q), ← textOf_append [44, 32], ← textOf_append pq.name.data.toList, ← textOf_append [58, 32], textOf_data]
                      simp only [ByteArray.append_assoc]
                      rfl
                    have z0 : ¬ 9223372036854775807 < (textOf (((LT ++ linesTo funLine x.funcs j) ++ ([102, 117, 110, 99, 32] ++ (pj.name.data.toList ++ [40]))) ++ fdTo pj.params q)).size + 2 := by omega
                    have z1 : ¬ 9223372036854775807 < (textOf (((LT ++ linesTo funLine x.funcs j) ++ ([102, 117, 110, 99, 32] ++ (pj.name.data.toList ++ [40]))) ++ fdTo pj.params q)).size + 2 + pq.name.size := by omega
                    have z2 : ¬ 9223372036854775807 < (textOf (((LT ++ linesTo funLine x.funcs j) ++ ([102, 117, 110, 99, 32] ++ (pj.name.data.toList ++ [40]))) ++ fdTo pj.params q)).size + 2 + pq.name.size + 2 := by omega
                    have z3 : ¬ 9223372036854775807 < (textOf (((LT ++ linesTo funLine x.funcs j) ++ ([102, 117, 110, 99, 32] ++ (pj.name.data.toList ++ [40]))) ++ fdTo pj.params q)).size + 2 + pq.name.size + 2 + (textOf (tyShown pq.is)).size := by omega
                    clear hq0 HST y1 s1 s2 hts hns
                    generalize textOf (tyShown pq.is) = ts at *
                    generalize textOf (((LT ++ linesTo funLine x.funcs j) ++ ([102, 117, 110, 99, 32] ++ (pj.name.data.toList ++ [40]))) ++ fdTo pj.params q) = tl at *
                    go_wp2_with fail
                    go_region_held3 (fun W => Below (wo.heap.size + 1) (wo.alloc (.cells #[.string pj.name, .string pj.var, .slice (some ⟨pb, po, none⟩) pj.params.length vp3, .int .i64 kd, .string fo, .string na, .slice va1 va2 va3, .int .i64 ke, .int .i64 ne, .string fe, .string se, .slice ve1 ve2 ve3] 49)) W ∧ W.cell? ⟨wo.heap.size, 2, none⟩ = some (.slice (some ⟨pb, po, none⟩) pj.params.length vp3) ∧ W.cell? ⟨pb, po + q * 5, none⟩ = some (.string pq.name) ∧ W.cell? ⟨pb, po + q * 5 + 1, none⟩ = some (.int .i64 kq) ∧ W.cell? ⟨pb, po + q * 5 + 2, none⟩ = some (.string fq) ∧ W.cell? ⟨pb, po + q * 5 + 3, none⟩ = some (.string nq) ∧ W.cell? ⟨pb, po + q * 5 + 4, none⟩ = some (.slice vq1 vq2 vq3)) (first | exact HK0.out | exact HN.out _ _ (by assumption) (by assumption))
                      (first | (go_at_call_of 12 (Value.slice vq1 vq2 vq3); refine (C0.out _ ?_).mono ?_; (exact HL0.out _ (by assumption)); rintro e w' ⟨rfl, hb'⟩))
                    all_goals
                      rename_i hHeld
                      have HH := veil (HL0.out _ hHeld)
                      clear hHeld
                      go_wp2_with fail
                      exact ⟨⟨q + 1, by omega, by go_num, by rw [HE.out], HH.out⟩, by simp [intOf]; omega⟩
                · have hqe : q = pj.params.length := by omega
                  subst hqe
                  have C0 : Hid (∀ W : World, Below (wo.heap.size + 1) (wo.alloc (.cells #[.string pj.name, .string pj.var, .slice vp1 pj.params.length vp3, .int .i64 kd, .string fo, .string na, .slice va1 va2 va3, .int .i64 ke, .int .i64 ne, .string fe, .string se, .slice ve1 ve2 ve3] 49)) W → Calls Tryd.prog 12 #[.agg #[.int .i64 kd, .string fo, .string na, .slice va1 va2 va3]] W fun e w' => e = .returned (.string (textOf (tyShown pj.result))) ∧ Below W.heap.size W w') := fun W hW => by
                    have hb2 : Below w.heap.size w W := (HL.out.alloc (by omega) _).trans (hW.mono (by omega))
                    exact typeShown_any 10 1 (by omega) S pj.result _ W (fun c h => Nat.lt_of_lt_of_le (hS c h) hb2.size) ⟨_, _, _, _, rfl, HCT.out.keep (Keeps.below hb2 hS)⟩ hres
                  have C1 : Hid (∀ W : World, Below (wo.heap.size + 1) (wo.alloc (.cells #[.string pj.name, .string pj.var, .slice vp1 pj.params.length vp3, .int .i64 kd, .string fo, .string na, .slice va1 va2 va3, .int .i64 ke, .int .i64 ne, .string fe, .string se, .slice ve1 ve2 ve3] 49)) W → Calls Tryd.prog 13 #[.agg #[.int .i64 ke, .int .i64 ne, .string fe, .string se, .slice ve1 ve2 ve3]] W fun e w' => e = .returned (.string (textOf (exShown pj.body))) ∧ Below W.heap.size W w') := fun W hW => by
                    have hb2 : Below w.heap.size w W := (HL.out.alloc (by omega) _).trans (hW.mono (by omega))
                    exact exprShown_any 10 1 (by omega) S pj.body _ W (fun c h => Nat.lt_of_lt_of_le (hS c h) hb2.size) ⟨_, _, _, _, _, rfl, HCE.out.keep (Keeps.below hb2 hS)⟩ hbody
                  have HK0 : Hid ((fun W => Below (wo.heap.size + 1) (wo.alloc (.cells #[.string pj.name, .string pj.var, .slice vp1 pj.params.length vp3, .int .i64 kd, .string fo, .string na, .slice va1 va2 va3, .int .i64 ke, .int .i64 ne, .string fe, .string se, .slice ve1 ve2 ve3] 49)) W ∧ W.cell? ⟨wo.heap.size, 3, none⟩ = some (.int .i64 kd) ∧ W.cell? ⟨wo.heap.size, 4, none⟩ = some (.string fo) ∧ W.cell? ⟨wo.heap.size, 5, none⟩ = some (.string na) ∧ W.cell? ⟨wo.heap.size, 6, none⟩ = some (.slice va1 va2 va3) ∧ W.cell? ⟨wo.heap.size, 7, none⟩ = some (.int .i64 ke) ∧ W.cell? ⟨wo.heap.size, 8, none⟩ = some (.int .i64 ne) ∧ W.cell? ⟨wo.heap.size, 9, none⟩ = some (.string fe) ∧ W.cell? ⟨wo.heap.size, 10, none⟩ = some (.string se) ∧ W.cell? ⟨wo.heap.size, 11, none⟩ = some (.slice ve1 ve2 ve3)) wr.drew) := ⟨HBI.out.drew, (hci 3).trans (World.cell?_alloc_at _ _ _ _ rfl), (hci 4).trans (World.cell?_alloc_at _ _ _ _ rfl), (hci 5).trans (World.cell?_alloc_at _ _ _ _ rfl), (hci 6).trans (World.cell?_alloc_at _ _ _ _ rfl), (hci 7).trans (World.cell?_alloc_at _ _ _ _ rfl), (hci 8).trans (World.cell?_alloc_at _ _ _ _ rfl), (hci 9).trans (World.cell?_alloc_at _ _ _ _ rfl), (hci 10).trans (World.cell?_alloc_at _ _ _ _ rfl), (hci 11).trans (World.cell?_alloc_at _ _ _ _ rfl)⟩
                  have HN : Hid (∀ W W' : World, (Below (wo.heap.size + 1) (wo.alloc (.cells #[.string pj.name, .string pj.var, .slice vp1 pj.params.length vp3, .int .i64 kd, .string fo, .string na, .slice va1 va2 va3, .int .i64 ke, .int .i64 ne, .string fe, .string se, .slice ve1 ve2 ve3] 49)) W ∧ W.cell? ⟨wo.heap.size, 3, none⟩ = some (.int .i64 kd) ∧ W.cell? ⟨wo.heap.size, 4, none⟩ = some (.string fo) ∧ W.cell? ⟨wo.heap.size, 5, none⟩ = some (.string na) ∧ W.cell? ⟨wo.heap.size, 6, none⟩ = some (.slice va1 va2 va3) ∧ W.cell? ⟨wo.heap.size, 7, none⟩ = some (.int .i64 ke) ∧ W.cell? ⟨wo.heap.size, 8, none⟩ = some (.int .i64 ne) ∧ W.cell? ⟨wo.heap.size, 9, none⟩ = some (.string fe) ∧ W.cell? ⟨wo.heap.size, 10, none⟩ = some (.string se) ∧ W.cell? ⟨wo.heap.size, 11, none⟩ = some (.slice ve1 ve2 ve3)) → Below W.heap.size W W' → (Below (wo.heap.size + 1) (wo.alloc (.cells #[.string pj.name, .string pj.var, .slice vp1 pj.params.length vp3, .int .i64 kd, .string fo, .string na, .slice va1 va2 va3, .int .i64 ke, .int .i64 ne, .string fe, .string se, .slice ve1 ve2 ve3] 49)) W' ∧ W'.cell? ⟨wo.heap.size, 3, none⟩ = some (.int .i64 kd) ∧ W'.cell? ⟨wo.heap.size, 4, none⟩ = some (.string fo) ∧ W'.cell? ⟨wo.heap.size, 5, none⟩ = some (.string na) ∧ W'.cell? ⟨wo.heap.size, 6, none⟩ = some (.slice va1 va2 va3) ∧ W'.cell? ⟨wo.heap.size, 7, none⟩ = some (.int .i64 ke) ∧ W'.cell? ⟨wo.heap.size, 8, none⟩ = some (.int .i64 ne) ∧ W'.cell? ⟨wo.heap.size, 9, none⟩ = some (.string fe) ∧ W'.cell? ⟨wo.heap.size, 10, none⟩ = some (.string se) ∧ W'.cell? ⟨wo.heap.size, 11, none⟩ = some (.slice ve1 ve2 ve3))) := by
                    rintro W W' ⟨h0, h1, h2, h3, h4, h5, h6, h7, h8, h9⟩ hb
                    have hs : wo.heap.size + 1 ≤ W.heap.size := by have := h0.size; simpa using this
                    have hlc := fun o => later_cell (n := wo.heap.size) (W' := W') (by omega) hb o
                    exact ⟨h0.trans (hb.mono hs), (hlc _).trans h1, (hlc _).trans h2, (hlc _).trans h3, (hlc _).trans h4, (hlc _).trans h5, (hlc _).trans h6, (hlc _).trans h7, (hlc _).trans h8, (hlc _).trans h9⟩
                  have HL0 : Hid (∀ W : World, (Below (wo.heap.size + 1) (wo.alloc (.cells #[.string pj.name, .string pj.var, .slice vp1 pj.params.length vp3, .int .i64 kd, .string fo, .string na, .slice va1 va2 va3, .int .i64 ke, .int .i64 ne, .string fe, .string se, .slice ve1 ve2 ve3] 49)) W ∧ W.cell? ⟨wo.heap.size, 3, none⟩ = some (.int .i64 kd) ∧ W.cell? ⟨wo.heap.size, 4, none⟩ = some (.string fo) ∧ W.cell? ⟨wo.heap.size, 5, none⟩ = some (.string na) ∧ W.cell? ⟨wo.heap.size, 6, none⟩ = some (.slice va1 va2 va3) ∧ W.cell? ⟨wo.heap.size, 7, none⟩ = some (.int .i64 ke) ∧ W.cell? ⟨wo.heap.size, 8, none⟩ = some (.int .i64 ne) ∧ W.cell? ⟨wo.heap.size, 9, none⟩ = some (.string fe) ∧ W.cell? ⟨wo.heap.size, 10, none⟩ = some (.string se) ∧ W.cell? ⟨wo.heap.size, 11, none⟩ = some (.slice ve1 ve2 ve3)) → Below (wo.heap.size + 1) (wo.alloc (.cells #[.string pj.name, .string pj.var, .slice vp1 pj.params.length vp3, .int .i64 kd, .string fo, .string na, .slice va1 va2 va3, .int .i64 ke, .int .i64 ne, .string fe, .string se, .slice ve1 ve2 ve3] 49)) W) := fun W h => h.1
                  have hc2 : wr.cell? ⟨wo.heap.size, 2, none⟩ = some (.slice vp1 pj.params.length vp3) := (hci 2).trans (World.cell?_alloc_at _ _ _ _ rfl)
                  have y1 : (((LT ++ linesTo funLine x.funcs j) ++ ([102, 117, 110, 99, 32] ++ (pj.name.data.toList ++ [40]))) ++ fdTo pj.params pj.params.length).length ≤ 24 * 200000000500 := by
                    rw [List.length_append]
                    have := HBound.out
                    omega
                  have y2 := ty_size 10 pj.result 1 (by omega) hres
                  have y3 := ex_size 10 pj.body 1 (by omega) hbody
                  have e10 : 20 * 10 ^ 10 = 200000000000 := by decide
                  rw [e10] at y3
                  have s1 : (textOf (((LT ++ linesTo funLine x.funcs j) ++ ([102, 117, 110, 99, 32] ++ (pj.name.data.toList ++ [40]))) ++ fdTo pj.params pj.params.length)).size = (((LT ++ linesTo funLine x.funcs j) ++ ([102, 117, 110, 99, 32] ++ (pj.name.data.toList ++ [40]))) ++ fdTo pj.params pj.params.length).length := rfl
                  have s2 : (textOf (tyShown pj.result)).size = (tyShown pj.result).length := rfl
                  have s3 : (textOf (exShown pj.body)).size = (exShown pj.body).length := rfl
                  have HE : Hid (textOf (((LT ++ linesTo funLine x.funcs j) ++ ([102, 117, 110, 99, 32] ++ (pj.name.data.toList ++ [40]))) ++ fdTo pj.params pj.params.length) ++ ByteArray.mk #[41, 58, 32] ++ textOf (tyShown pj.result) ++ ByteArray.mk #[32, 61, 32] ++ textOf (exShown pj.body) ++ ByteArray.mk #[10] = textOf (LT ++ linesTo funLine x.funcs (j + 1))) := by
                    show _ = _
                    rw [HEnd.out, ← textOf_append (((LT ++ linesTo funLine x.funcs j) ++ ([102, 117, 110, 99, 32] ++ (pj.name.data.toList ++ [40]))) ++ fdTo pj.params pj.params.length), ← textOf_append, ← textOf_append, ← textOf_append, ← textOf_append]
                    simp only [ByteArray.append_assoc]
                    rfl
                  have z1 : ¬ 9223372036854775807 < (textOf (((LT ++ linesTo funLine x.funcs j) ++ ([102, 117, 110, 99, 32] ++ (pj.name.data.toList ++ [40]))) ++ fdTo pj.params pj.params.length)).size + 3 := by omega
                  have z2 : ¬ 9223372036854775807 < (textOf (((LT ++ linesTo funLine x.funcs j) ++ ([102, 117, 110, 99, 32] ++ (pj.name.data.toList ++ [40]))) ++ fdTo pj.params pj.params.length)).size + 3 + (textOf (tyShown pj.result)).size := by omega
                  have z3 : ¬ 9223372036854775807 < (textOf (((LT ++ linesTo funLine x.funcs j) ++ ([102, 117, 110, 99, 32] ++ (pj.name.data.toList ++ [40]))) ++ fdTo pj.params pj.params.length)).size + 3 + (textOf (tyShown pj.result)).size + 3 := by omega
                  have z4 : ¬ 9223372036854775807 < (textOf (((LT ++ linesTo funLine x.funcs j) ++ ([102, 117, 110, 99, 32] ++ (pj.name.data.toList ++ [40]))) ++ fdTo pj.params pj.params.length)).size + 3 + (textOf (tyShown pj.result)).size + 3 + (textOf (exShown pj.body)).size := by omega
                  have z5 : ¬ 9223372036854775807 < (textOf (((LT ++ linesTo funLine x.funcs j) ++ ([102, 117, 110, 99, 32] ++ (pj.name.data.toList ++ [40]))) ++ fdTo pj.params pj.params.length)).size + 3 + (textOf (tyShown pj.result)).size + 3 + (textOf (exShown pj.body)).size + 1 := by omega
                  clear hci HPR HFD y1 y2 y3 e10 s1 s2 s3
                  generalize textOf (tyShown pj.result) = ts at *
                  generalize textOf (exShown pj.body) = tx at *
                  generalize textOf (((LT ++ linesTo funLine x.funcs j) ++ ([102, 117, 110, 99, 32] ++ (pj.name.data.toList ++ [40]))) ++ fdTo pj.params pj.params.length) = tl at *
                  go_wp2_with fail
                  go_region_held3 (fun W => Below (wo.heap.size + 1) (wo.alloc (.cells #[.string pj.name, .string pj.var, .slice vp1 pj.params.length vp3, .int .i64 kd, .string fo, .string na, .slice va1 va2 va3, .int .i64 ke, .int .i64 ne, .string fe, .string se, .slice ve1 ve2 ve3] 49)) W ∧ W.cell? ⟨wo.heap.size, 3, none⟩ = some (.int .i64 kd) ∧ W.cell? ⟨wo.heap.size, 4, none⟩ = some (.string fo) ∧ W.cell? ⟨wo.heap.size, 5, none⟩ = some (.string na) ∧ W.cell? ⟨wo.heap.size, 6, none⟩ = some (.slice va1 va2 va3) ∧ W.cell? ⟨wo.heap.size, 7, none⟩ = some (.int .i64 ke) ∧ W.cell? ⟨wo.heap.size, 8, none⟩ = some (.int .i64 ne) ∧ W.cell? ⟨wo.heap.size, 9, none⟩ = some (.string fe) ∧ W.cell? ⟨wo.heap.size, 10, none⟩ = some (.string se) ∧ W.cell? ⟨wo.heap.size, 11, none⟩ = some (.slice ve1 ve2 ve3)) (first | exact HK0.out | exact HN.out _ _ (by assumption) (by assumption))
                    (first | (go_at_call 12; refine (C0.out _ ?_).mono ?_; (exact HL0.out _ (by assumption)); rintro e w' ⟨rfl, hb'⟩) | (go_at_call 13; refine (C1.out _ ?_).mono ?_; (exact HL0.out _ (by assumption)); rintro e w' ⟨rfl, hb'⟩))
                  all_goals
                    rename_i hHeld
                    have HH := veil (HL0.out _ hHeld)
                    clear hHeld
                    go_wp2_with fail
                    exact ⟨⟨j + 1, by omega, by go_num, by rw [HE.out], (HBL.out.alloc (by omega) _).trans (HH.out.mono (by omega))⟩, by simp [intOf]; omega⟩

end Go.Proofs.YtaphjoggjfmbfabDoor
