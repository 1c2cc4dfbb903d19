/- What tree.Show answers, at every module: the fault's number, and its text where there is none. -/
import Derived.Test.YtaphjoggjfmbfabDoorShowMo
namespace Go.Proofs.YtaphjoggjfmbfabDoor
open Go.RowKit

def moText (m : Mo) : ByteArray := if moFault m = 0 then textOf (moShown m) else ⟨#[]⟩

theorem lines_le {α : Type} (g : α → List UInt8) (l : List α) : ∀ k j, k ≤ j → (linesTo g l k).length ≤ (linesTo g l j).length
  | k, 0, h => by have : k = 0 := by omega
                  subst this; exact Nat.le_refl _
  | k, j + 1, h => by
    by_cases e : k = j + 1
    · subst e; exact Nat.le_refl _
    · have := lines_le g l k j (by omega)
      simp only [linesTo, List.length_append]; omega

theorem lines_succ {α : Type} (g : α → List UInt8) (l : List α) (k : Nat) (h : k < l.length) : linesTo g l (k + 1) = linesTo g l k ++ g l[k] := by
  rw [linesTo, List.getElem?_eq_getElem h]; rfl

theorem use_line {s : ByteArray} (h : identOk s = true) : (useLine s).length ≤ 200000000500 := by
  have := ident_size h
  simp only [useLine, List.length_append, List.length_cons, List.length_nil]; omega
theorem type_line {f : Fd} (h : fdFault f = 0) : (typeLine f).length ≤ 200000000500 := by
  have h1 : identOk f.name = true := by
    unfold fdFault at h
    split at h
    · assumption
    · omega
  have h2 : tyFault f.is 1 = 0 := by
    unfold fdFault at h
    rwa [if_pos h1] at h
  have a1 := ident_size h1
  have a2 := ty_size 10 f.is 1 (by omega) h2
  simp only [typeLine, List.length_append, List.length_cons, List.length_nil]; omega

/-- what may be, and is no longer than memory allows, has at most 24 lines, and is not too long to be written. -/
theorem mo_size {m : Mo} (h : moFault m = 0) (hs : m.uses.length + m.types.length + m.funcs.length < 4611686018427387904) :
    (linesTo useLine m.uses m.uses.length).length + ((linesTo typeLine m.types m.types.length).length + (linesTo funLine m.funcs m.funcs.length).length) ≤ 24 * 200000000500 := by
  obtain ⟨h0, h1, h2, h3⟩ := mo_ok h
  have hsum : m.uses.length + m.types.length + m.funcs.length ≤ 24 := by
    unfold wrap64 at h0
    omega
  have a1 := lines_size useLine 200000000500 m.uses (fun j hj => use_line (h1 j hj)) _ (Nat.le_refl _)
  have a2 := lines_size typeLine 200000000500 m.types (fun j hj => type_line (h2 j hj)) _ (Nat.le_refl _)
  have a3 := lines_size funLine 200000000500 m.funcs (fun j hj => fu_size (h3 j hj)) _ (Nat.le_refl _)
  have e : (m.uses.length + m.types.length + m.funcs.length) * 200000000500 ≤ 24 * 200000000500 := Nat.mul_le_mul_right _ hsum
  rw [Nat.add_mul, Nat.add_mul] at e
  omega

theorem printer_new (w : World) (B : Nat) (hB : B ≤ w.heap.size) : Wrote B w.heap.size [] (w.alloc (.cells #[.pointer none, .slice none 0 0] 37)) := by
  refine Or.inl ⟨hB, .slice none 0 0, ?_, World.ownsRow_nil _ _ _ _, by simp [Value.ownBlock]⟩
  exact heap_alloc_new w _

set_option maxHeartbeats 8000000 in
set_option maxRecDepth 100000 in
theorem treeShow_any (S : Nat → Prop) (x : Mo) (v : Value) (w : World) (hS : ∀ b, S b → b < w.heap.size) (hx : MoIs S w x v) (ht : TabIn w.heap.size w) (hs : x.uses.length + x.types.length + x.funcs.length < 4611686018427387904) :
    Calls Tryd.prog 4 #[v] w fun e w' => e = .returned (.tuple #[.string (moText x), .int .i64 (moFault x)]) ∧ Below w.heap.size w w' := by
  have HX := veil hx
  obtain ⟨vu, vt, vf, rfl, hu, hty, hf⟩ := hx
  obtain ⟨u1, u3, rfl, ⟨hul, _⟩, hur⟩ := hu
  obtain ⟨t1, t3, rfl, ⟨htl, _⟩, htr⟩ := hty
  obtain ⟨f1, f3, rfl, ⟨hfl, _⟩, hfr⟩ := hf
  have HU := veil hur
  have HTy := veil htr
  have HFu := veil hfr
  have HTab := veil ht
  clear hur htr hfr ht
  have HB : Hid (Below w.heap.size w (w.alloc (.cells #[.slice u1 x.uses.length u3, .slice t1 x.types.length t3, .slice f1 x.funcs.length f3] 26))) := (Below.refl _ _).alloc (Nat.le_refl _) _
  have HCk := veil (treeCheck_any S x (.agg #[.slice u1 x.uses.length u3, .slice t1 x.types.length t3, .slice f1 x.funcs.length f3]) (w.alloc (.cells #[.slice u1 x.uses.length u3, .slice t1 x.types.length t3, .slice f1 x.funcs.length f3] 26)) (fdIs_first hS HB.out) (HX.out.keep (Keeps.below HB.out hS)))
  by_cases h0 : moFault x = 0
  rotate_left
  · have hz' : (moFault x != 0) = true := bne_iff_ne.2 h0
    have HTx : Hid (moText x = ⟨#[]⟩) := if_neg h0
    clear h0 hul htl hfl hs
    go_enter Tryd.func4, Tryd.ntmps4
    go_wp2_with fail
    refine HCk.out.mono ?_
    rintro e w1 ⟨rfl, hb1⟩
    go_wp2_with fail
    go_ret2
    exact ⟨by rw [HTx.out]; rfl, HB.out.trans (hb1.mono (by simp))⟩
  have hz' : (moFault x != 0) = false := by rw [h0]; rfl
  have HTx : Hid (moText x = textOf (moShown x)) := if_pos h0
  have hsz := mo_size h0 hs
  obtain ⟨_, hg1, hg2, hg3⟩ := mo_ok h0
  have HG1 := veil hg1
  have HG2 := veil hg2
  have HG3 := veil hg3
  clear hg1 hg2 hg3
  unfold maxLen at hul htl hfl
  go_enter Tryd.func4, Tryd.ntmps4
  go_wp2_with fail
  refine HCk.out.mono ?_
  rintro e w1 ⟨rfl, hb1⟩
  rw [h0]
  have HB1 := veil (HB.out.trans (hb1.mono (by simp)))
  have hs1 : w.heap.size + 1 ≤ w1.heap.size := by have := hb1.size; simpa using this
  have hbox1 : w1.heap[w.heap.size]? = some (.cells #[.slice u1 x.uses.length u3, .slice t1 x.types.length t3, .slice f1 x.funcs.length f3] 26) := (hb1.block _ (by simp)).trans (heap_alloc_new w _)
  have HBox : Hid ((w1.alloc (.cells #[.pointer none, .slice none 0 0] 37)).heap[w.heap.size]? = some (.cells #[.slice u1 x.uses.length u3, .slice t1 x.types.length t3, .slice f1 x.funcs.length f3] 26)) := (Below.heap_alloc _ _ _ (by omega)).trans hbox1
  have HNew := veil (printer_new w1 w.heap.size (by omega))
  have HP0 := veil (HB1.out.alloc (by omega) (.cells #[.pointer none, .slice none 0 0] 37))
  have hpw : w.heap.size ≠ w1.heap.size := by omega
  have hlw : w.heap.size < w1.heap.size := by omega
  have c0 : w1.cell? ⟨w.heap.size, 0, none⟩ = some (.slice u1 x.uses.length u3) := by rw [Lib.cell_of_heap hbox1]; rfl
  have HF0 := veil h0
  clear hb1 hbox1 HCk h0
  go_wp2_with fail
  go_loopw [20] (fun i wr => ∃ j : Nat, j ≤ x.uses.length ∧ i = .int .i64 j ∧ Wrote w.heap.size w1.heap.size (linesTo useLine x.uses j) wr ∧ Went w.heap.size w1.heap.size (w1.alloc (.cells #[.pointer none, .slice none 0 0] 37)) wr) (fun i _ => x.uses.length - (intOf i).toNat)
  case atStart => exact ⟨0, Nat.zero_le _, rfl, HNew.out, Went.refl _ _ _⟩
  case round =>
    clear HNew c0
    obtain ⟨j, hj, rfl, hwr, hwe⟩ := hrel
    have HWr := veil hwr
    have HEr := veil hwe
    clear hwr hwe
    by_cases hlt : j < x.uses.length
    · rcases HU.out with hn0 | ⟨bb, off, rfl, hb, hrow⟩
      · omega
      have hbw := hS bb hb
      obtain ⟨c0, hfs⟩ := hrow.get j hlt
      rw [Nat.mul_one] at c0
      have d0 := ((HP0.out.trans HEr.out.below).cell (p := ⟨bb, off + j, none⟩) hbw).trans c0
      have HST := veil (lines_succ useLine x.uses j hlt)
      have HLE := veil (lines_le useLine x.uses (j + 1) x.uses.length hlt)
      clear c0 hrow HU
      generalize x.uses[j] = pj at *
      have HUL : Hid (useLine pj = [117, 115, 101, 32] ++ (pj.data.toList ++ [10])) := rfl
      go_wp2_with fail
      refine (write_new w.heap.size w1.heap.size _ [⟨#[117, 115, 101, 32]⟩, pj, ⟨#[10]⟩] wr _ _ _ (by simp) rfl rfl (useLine pj) HWr.out (by simp) (by simp [joined, HUL.out]) ?_).mono ?_
      · have h1 := HLE.out
        rw [HST.out, List.length_append] at h1
        omega
      rintro e w2 ⟨rfl, q1, q2⟩
      rw [← HST.out] at q1
      have HW2 := veil q1
      have HE2 := veil (HEr.out.trans q2)
      clear q1 q2
      go_wp2_with fail
      exact ⟨⟨j + 1, by omega, by go_num, HW2.out, HE2.out⟩, by simp [intOf]; omega⟩
    · have hje : j = x.uses.length := by omega
      subst hje
      have c1 : wr.cell? ⟨w.heap.size, 1, none⟩ = some (.slice t1 x.types.length t3) := HEr.out.cell HBox.out hpw (by decide) 1
      clear HU
      go_wp2_with fail
      go_loopw [31] (fun i wr => ∃ j : Nat, j ≤ x.types.length ∧ i = .int .i64 j ∧ Wrote w.heap.size w1.heap.size (linesTo useLine x.uses x.uses.length ++ linesTo typeLine x.types j) wr ∧ Went w.heap.size w1.heap.size (w1.alloc (.cells #[.pointer none, .slice none 0 0] 37)) wr) (fun i _ => x.types.length - (intOf i).toNat)
      case atStart => exact ⟨0, Nat.zero_le _, rfl, by simpa [linesTo] using HWr.out, HEr.out⟩
      case round =>
        clear c1 hj hlt HWr HEr
        obtain ⟨j, hj, rfl, hwr, hwe⟩ := hrel
        have HWr := veil hwr
        have HEr := veil hwe
        have hltr := builder_lt hwr
        clear hwr hwe
        by_cases hlt : j < x.types.length
        · rcases HTy.out with hn0 | ⟨bb, off, rfl, hb, hrow⟩
          · omega
          have hbw := hS bb hb
          obtain ⟨⟨c0, hfs⟩, hty⟩ := hrow.get j hlt
          obtain ⟨kd, fo, na, va, c1, c2, c3, c4, hcs⟩ := tyAt_cells.1 hty
          obtain ⟨vb1, vb2, vb3, rfl⟩ := hcs.slice
          rw [Nat.add_assoc] at c2 c3 c4
          have hbel := HP0.out.trans HEr.out.below
          have d0 := (hbel.cell (p := ⟨bb, off + j * 5, none⟩) hbw).trans c0
          have d1 := (hbel.cell (p := ⟨bb, off + j * 5 + 1, none⟩) hbw).trans c1
          have d2 := (hbel.cell (p := ⟨bb, off + j * 5 + 2, none⟩) hbw).trans c2
          have d3 := (hbel.cell (p := ⟨bb, off + j * 5 + 3, none⟩) hbw).trans c3
          have d4 := (hbel.cell (p := ⟨bb, off + j * 5 + 4, none⟩) hbw).trans c4
          have HC := veil hcs
          have hfd := HG2.out j hlt
          have HTyF : Hid (tyFault x.types[j].is 1 = 0) := by
            show _ = _
            unfold fdFault at hfd
            split at hfd
            · exact hfd
            · omega
          have HST := veil (lines_succ typeLine x.types j hlt)
          have HLE := veil (lines_le typeLine x.types (j + 1) x.types.length hlt)
          have HWa := veil (HWr.out.below ((Below.refl _ _).alloc (Nat.le_refl _) (.cells #[.string x.types[j].name, .int .i64 kd, .string fo, .string na, .slice vb1 vb2 vb3] 43)))
          have HEa := veil (HEr.out.alloc (by omega) (.cells #[.string x.types[j].name, .int .i64 kd, .string fo, .string na, .slice vb1 vb2 vb3] 43))
          have HNew2 := veil (heap_alloc_new wr (.cells #[.string x.types[j].name, .int .i64 kd, .string fo, .string na, .slice vb1 vb2 vb3] 43))
          have hnb : wr.heap.size ≠ w1.heap.size := by omega
          clear c0 c1 c2 c3 c4 hcs hrow hty hfd hbel HWr HEr HTy HG2
          generalize x.types[j] = pj at *
          have HTL : Hid (typeLine pj = [116, 121, 112, 101, 32] ++ (pj.name.data.toList ++ ([32, 61, 32] ++ (tyShown pj.is ++ [10])))) := rfl
          have HLn : Hid ((linesTo typeLine x.types j).length + (5 + (pj.name.data.toList.length + (3 + ((tyShown pj.is).length + 1)))) ≤ (linesTo typeLine x.types x.types.length).length) := by
            show _ ≤ _
            have := HLE.out
            rw [HST.out, HTL.out] at this
            simpa only [List.length_append, List.length_cons, List.length_nil] using this
          go_wp2_with fail
          refine (write_new w.heap.size w1.heap.size _ [⟨#[116, 121, 112, 101, 32]⟩, pj.name, ⟨#[32, 61, 32]⟩] _ _ _ _ (by simp) rfl rfl ([116, 121, 112, 101, 32] ++ (pj.name.data.toList ++ [32, 61, 32])) HWa.out (by simp) (by simp [joined]) ?_).mono ?_
          · have h1 := HLn.out
            simp only [List.length_append, List.length_cons, List.length_nil]
            omega
          rintro e w2 ⟨rfl, q1, q2⟩
          have HW2 := veil q1
          have HE2 := veil (HEa.out.trans q2)
          have e1 : w2.cell? ⟨wr.heap.size, 1, none⟩ = some (.int .i64 kd) := q2.cell HNew2.out hnb (by decide) 1
          have e2 : w2.cell? ⟨wr.heap.size, 2, none⟩ = some (.string fo) := q2.cell HNew2.out hnb (by decide) 2
          have e3 : w2.cell? ⟨wr.heap.size, 3, none⟩ = some (.string na) := q2.cell HNew2.out hnb (by decide) 3
          have e4 : w2.cell? ⟨wr.heap.size, 4, none⟩ = some (.slice vb1 vb2 vb3) := q2.cell HNew2.out hnb (by decide) 4
          clear q1 q2 HWa HEa d0 d1 d2 d3 d4
          go_wp2_with fail
          refine (typ_any 10 1 (by omega) S w.heap.size w1.heap.size pj.is _ _ w2 hS ⟨_, _, _, _, rfl, HC.out.keep (Keeps.below (HP0.out.trans HE2.out.below) hS)⟩ HTyF.out HW2.out ?_).mono ?_
          · have h1 := HLn.out
            simp only [List.length_append, List.length_cons, List.length_nil]
            omega
          rintro e w3 ⟨rfl, q1, q2⟩
          have HW3 := veil q1
          have HE3 := veil (HE2.out.trans q2)
          clear q1 q2 HW2 HE2 e1 e2 e3 e4
          go_wp2_with fail
          refine (write_new w.heap.size w1.heap.size _ [⟨#[10]⟩] w3 _ _ _ (by simp) rfl rfl [10] HW3.out (by decide) rfl ?_).mono ?_
          · have h1 := HLn.out
            simp only [List.length_append, List.length_cons, List.length_nil]
            omega
          rintro e w4 ⟨rfl, q1, q2⟩
          have HW4 : Hid (Wrote w.heap.size w1.heap.size (linesTo useLine x.uses x.uses.length ++ linesTo typeLine x.types (j + 1)) w4) := by
            show Wrote _ _ _ _
            rw [HST.out, HTL.out]
            simpa [List.append_assoc] using q1
          have HE4 := veil (HE3.out.trans q2)
          clear q1 q2 HW3 HE3
          go_wp2_with fail
          exact ⟨⟨j + 1, by omega, by go_num, HW4.out, HE4.out⟩, by simp [intOf]; omega⟩
        · have hje : j = x.types.length := by omega
          subst hje
          have c2 : wr.cell? ⟨w.heap.size, 2, none⟩ = some (.slice f1 x.funcs.length f3) := HEr.out.cell HBox.out hpw (by decide) 2
          clear HTy HG2
          go_wp2_with fail
          go_loopw [48] (fun i wr => ∃ j : Nat, j ≤ x.funcs.length ∧ i = .int .i64 j ∧ Wrote w.heap.size w1.heap.size (linesTo useLine x.uses x.uses.length ++ linesTo typeLine x.types x.types.length ++ linesTo funLine x.funcs j) wr ∧ Went w.heap.size w1.heap.size (w1.alloc (.cells #[.pointer none, .slice none 0 0] 37)) wr) (fun i _ => x.funcs.length - (intOf i).toNat)
          case atStart => exact ⟨0, Nat.zero_le _, rfl, by simpa [linesTo] using HWr.out, HEr.out⟩
          case round =>
            clear c2 hj hlt HWr HEr hltr
            obtain ⟨j, hj, rfl, hwr, hwe⟩ := hrel
            have HWr := veil hwr
            have HEr := veil hwe
            have hltr := builder_lt hwr
            clear hwr hwe
            by_cases hlt : j < x.funcs.length
            · rcases HFu.out with hn0 | ⟨bb, off, rfl, hb, hrow⟩
              · omega
              have hbw := hS bb hb
              obtain ⟨⟨c0, hsz0⟩, ⟨c1, hsz1⟩, ⟨vp, c2, hps⟩, hty, hex⟩ := hrow.get j hlt
              obtain ⟨kd, fo, na, va, c3, c4, c5, c6, hcs⟩ := tyAt_cells.1 hty
              obtain ⟨ke, ne, fe, se, ve, c7, c8, c9, c10, c11, hce⟩ := exAt_cells.1 hex
              obtain ⟨va1, va2, va3, rfl⟩ := hcs.slice
              obtain ⟨vp1, vp2, vp3, rfl⟩ := hps.slice
              obtain ⟨ve1, ve2, ve3, rfl⟩ := hce.slice
              rw [Nat.add_assoc] at c4 c5 c6 c8 c9 c10 c11
              have hbel := HP0.out.trans HEr.out.below
              have d0 := (hbel.cell (p := ⟨bb, off + j * 12, none⟩) hbw).trans c0
              have d1 := (hbel.cell (p := ⟨bb, off + j * 12 + 1, none⟩) hbw).trans c1
              have d2 := (hbel.cell (p := ⟨bb, off + j * 12 + 2, none⟩) hbw).trans c2
              have d3 := (hbel.cell (p := ⟨bb, off + j * 12 + 3, none⟩) hbw).trans c3
              have d4 := (hbel.cell (p := ⟨bb, off + j * 12 + 4, none⟩) hbw).trans c4
              have d5 := (hbel.cell (p := ⟨bb, off + j * 12 + 5, none⟩) hbw).trans c5
              have d6 := (hbel.cell (p := ⟨bb, off + j * 12 + 6, none⟩) hbw).trans c6
              have d7 := (hbel.cell (p := ⟨bb, off + j * 12 + 7, none⟩) hbw).trans c7
              have d8 := (hbel.cell (p := ⟨bb, off + j * 12 + 8, none⟩) hbw).trans c8
              have d9 := (hbel.cell (p := ⟨bb, off + j * 12 + 9, none⟩) hbw).trans c9
              have d10 := (hbel.cell (p := ⟨bb, off + j * 12 + 10, none⟩) hbw).trans c10
              have d11 := (hbel.cell (p := ⟨bb, off + j * 12 + 11, none⟩) hbw).trans c11
              have hkp : Keeps S S w (wr.alloc (.cells #[.string x.funcs[j].name, .string x.funcs[j].var, .slice vp1 vp2 vp3, .int .i64 kd, .string fo, .string na, .slice va1 va2 va3, .int .i64 ke, .int .i64 ne, .string fe, .string se, .slice ve1 ve2 ve3] 49)) := Keeps.below (hbel.alloc (by omega) _) hS
              have HFI : Hid (FuIs S (wr.alloc (.cells #[.string x.funcs[j].name, .string x.funcs[j].var, .slice vp1 vp2 vp3, .int .i64 kd, .string fo, .string na, .slice va1 va2 va3, .int .i64 ke, .int .i64 ne, .string fe, .string se, .slice ve1 ve2 ve3] 49)) x.funcs[j] (.agg #[.string x.funcs[j].name, .string x.funcs[j].var, .slice vp1 vp2 vp3, .int .i64 kd, .string fo, .string na, .slice va1 va2 va3, .int .i64 ke, .int .i64 ne, .string fe, .string se, .slice ve1 ve2 ve3])) := ⟨_, _, _, _, _, _, _, _, _, _, rfl, hsz0, hsz1, fdSl_keep hkp hps, hcs.keep hkp, hce.keep hkp⟩
              have hfu := HG3.out j hlt
              have HTb := veil (HTab.out.keep (hbel.alloc (by omega) (.cells #[.string x.funcs[j].name, .string x.funcs[j].var, .slice vp1 vp2 vp3, .int .i64 kd, .string fo, .string na, .slice va1 va2 va3, .int .i64 ke, .int .i64 ne, .string fe, .string se, .slice ve1 ve2 ve3] 49)))
              have HST := veil (lines_succ funLine x.funcs j hlt)
              have HLE := veil (lines_le funLine x.funcs (j + 1) x.funcs.length hlt)
              have HWa := veil (HWr.out.below ((Below.refl _ _).alloc (Nat.le_refl _) (.cells #[.string x.funcs[j].name, .string x.funcs[j].var, .slice vp1 vp2 vp3, .int .i64 kd, .string fo, .string na, .slice va1 va2 va3, .int .i64 ke, .int .i64 ne, .string fe, .string se, .slice ve1 ve2 ve3] 49)))
              have HEa := veil (HEr.out.alloc (by omega) (.cells #[.string x.funcs[j].name, .string x.funcs[j].var, .slice vp1 vp2 vp3, .int .i64 kd, .string fo, .string na, .slice va1 va2 va3, .int .i64 ke, .int .i64 ne, .string fe, .string se, .slice ve1 ve2 ve3] 49))
              clear c0 c1 c2 c3 c4 c5 c6 c7 c8 c9 c10 c11 hcs hrow hty hex hce hps hkp hbel HWr HEr HFu HG3
              generalize x.funcs[j] = pj at *
              have HTL : Hid (funLine pj = fuShown pj ++ [10]) := rfl
              have HLn : Hid ((linesTo funLine x.funcs j).length + ((fuShown pj).length + 1) ≤ (linesTo funLine x.funcs x.funcs.length).length) := by
                show _ ≤ _
                have := HLE.out
                rw [HST.out, HTL.out] at this
                simpa only [List.length_append, List.length_cons, List.length_nil] using this
              go_wp2_with fail
              refine (fun_any S w.heap.size w1.heap.size pj _ _ _ hS HFI.out hfu HWa.out HTb.out ?_).mono ?_
              · have h1 := HLn.out
                simp only [List.length_append]
                omega
              rintro e w2 ⟨rfl, q1, q2⟩
              have HW2 := veil q1
              have HE2 := veil (HEa.out.trans q2)
              clear q1 q2 HWa HEa HFI d0 d1 d2 d3 d4 d5 d6 d7 d8 d9 d10 d11
              go_wp2_with fail
              refine (write_new w.heap.size w1.heap.size _ [⟨#[10]⟩] w2 _ _ _ (by simp) rfl rfl [10] HW2.out (by decide) rfl ?_).mono ?_
              · have h1 := HLn.out
                simp only [List.length_append, List.length_cons, List.length_nil]
                omega
              rintro e w4 ⟨rfl, q1, q2⟩
              have HW4 : Hid (Wrote w.heap.size w1.heap.size (linesTo useLine x.uses x.uses.length ++ linesTo typeLine x.types x.types.length ++ linesTo funLine x.funcs (j + 1)) w4) := by
                show Wrote _ _ _ _
                rw [HST.out, HTL.out]
                simpa [List.append_assoc] using q1
              have HE4 := veil (HE2.out.trans q2)
              clear q1 q2 HW2 HE2
              go_wp2_with fail
              exact ⟨⟨j + 1, by omega, by go_num, HW4.out, HE4.out⟩, by simp [intOf]; omega⟩
            · have hje : j = x.funcs.length := by omega
              subst hje
              clear HFu HG3
              go_wp2_with fail
              refine (string_any w.heap.size w1.heap.size _ wr HWr.out).mono ?_
              rintro e w2 ⟨rfl, q1⟩
              go_wp2_with fail
              go_ret2
              refine ⟨?_, (HP0.out.trans HEr.out.below).trans q1⟩
              rw [HTx.out, HF0.out, moShown, ← List.append_assoc]
              rfl

end Go.Proofs.YtaphjoggjfmbfabDoor
