/- What the reference's ModuleOf answers, at every text. -/
import Derived.Test.YtieoddnaknpmlabGreatDoorJEyeMod1
import Derived.Test.YtieoddnaknpmlabGreatDoorJEi
import Derived.Test.YtieoddnaknpmlabGreatDoorJEj
namespace Go.Proofs.YtieoddnaknpmlabGreatDoor
open Go.RowKit
set_option maxRecDepth 100000

theorem run_line (s : ByteArray) (f k : Nat) (h : f ≤ k) (hk : k ≤ s.size) (wx : World) :
    (Instr.slice 9 (.string s) (some (.int .i64 f)) (some (.int .i64 k)) none).run Tryz.prog wx = .ok (.string (s.extract f k)) wx := by
  have := run_slice_string (P := Tryz.prog) wx 9 s .i64 .i64 f k Tryz.underlying9 (by omega) (by omega) (by omega)
  rw [this]
  rfl

set_option maxHeartbeats 8000000 in
theorem moduleOf_all (s : ByteArray) (w : World) : Calls Tryz.prog 6 #[.string s] w fun e w' => Below w.heap.size w w' ∧ ∃ v, e = .returned (.tuple #[v, .int .i64 (readErr s)]) ∧ MoIs (Fresh w.heap.size w') w' (readMo s) v := by
  by_cases h15 : 1500 < s.size
  · have h15' : (1500 : Int) < (s.size : Int) := by omega
    have HE : Hid (readErr s = 1) := if_pos h15
    have HMo : Hid (readMo s = noMo) := if_pos h15
    go_enter Tryz.func6, Tryz.ntmps6
    go_wp2_with fail
    exact bodyPost_ret (v := .tuple #[.agg #[.slice none 0 0, .slice none 0 0, .slice none 0 0], .int .i64 1]) (by simp [results, Tryz.results6, go_sem]) rfl
      ⟨(Below.refl _ _).alloc (Nat.le_refl _) _, _, by rw [HE.out], by rw [HMo.out]; exact noMo_is⟩
  · have h15' : ¬ (1500 : Int) < (s.size : Int) := by omega
    have hE : readErr s = match readAll (linesOf s) noMo with
      | .error e => e
      | .ok m => moFault m := if_neg h15
    have hMo : readMo s = match readAll (linesOf s) noMo with
      | .error _ => noMo
      | .ok m => if moFault m = 0 then m else noMo := if_neg h15
    have HE := veil hE
    have HMo := veil hMo
    clear hE hMo
    have hw1 : ∃ w1, (w.alloc (.cells #[.slice none 0 0, .slice none 0 0, .slice none 0 0] 26)).alloc (.cells #[.slice none 0 0, .slice none 0 0, .slice none 0 0] 26) = w1 ∧ w1.heap.size = w.heap.size + 2 ∧
        w1.heap[w.heap.size]? = some (.cells #[.slice none 0 0, .slice none 0 0, .slice none 0 0] 26 (0, 0)) ∧ w1.heap[w.heap.size + 1]? = some (.cells #[.slice none 0 0, .slice none 0 0, .slice none 0 0] 26 (0, 0)) ∧ Below w.heap.size w w1 := by
      have n0 : (w.alloc (.cells #[.slice none 0 0, .slice none 0 0, .slice none 0 0] 26)).heap.size = w.heap.size + 1 := by simp
      have a0 := heap_alloc_new w (.cells #[.slice none 0 0, .slice none 0 0, .slice none 0 0] 26)
      have a1 := heap_alloc_new (w.alloc (.cells #[.slice none 0 0, .slice none 0 0, .slice none 0 0] 26)) (.cells #[.slice none 0 0, .slice none 0 0, .slice none 0 0] 26)
      rw [n0] at a1
      refine ⟨_, rfl, by simp, ?_, a1, ((Below.refl _ _).alloc (Nat.le_refl _) _).alloc (by omega) _⟩
      rw [heap_alloc_old _ _ (by omega)]; exact a0
    obtain ⟨wx, hwe, hs1, p0, p1, hbel⟩ := hw1
    have HWe := veil hwe
    have HP0 := veil p0
    have HBel := veil hbel
    have HM0 : Hid (ModAt (w.heap.size + 2) (w.heap.size + 1) (w.heap.size + 2) noMo (.slice none 0 0) (.slice none 0 0) (.slice none 0 0) wx) :=
      ⟨p1, by omega, by omega, by omega, ⟨[], ⟨rfl, Or.inl ⟨rfl, rfl⟩⟩, fun g h => (by cases h), fun j hj => absurd hj (by simp [noMo])⟩, ⟨[], ⟨rfl, Or.inl ⟨rfl, rfl⟩⟩, fun g h => (by cases h), fun j hj => absurd hj (by simp [noMo])⟩, ⟨[], ⟨rfl, Or.inl ⟨rfl, rfl⟩⟩, fun g h => (by cases h), fun j hj => absurd hj (by simp [noMo])⟩⟩
    clear p0 p1 hbel hwe
    go_enter Tryz.func6, Tryz.ntmps6
    go_wp2_with fail
    rw [HWe.out]
    clear HWe
    go_loopw [5, 6] (fun f i wr => ∃ g k : Nat, g ≤ k ∧ k ≤ s.size + 1 ∧ f = .int .i64 g ∧ i = .int .i64 k ∧ ∃ mo n1 vu vt vf, ModAt (w.heap.size + 2) (w.heap.size + 1) n1 mo vu vt vf wr ∧ (mo.uses.length ≤ k ∧ mo.types.length ≤ k ∧ mo.funcs.length ≤ k) ∧ readAll (restL s g k) mo = readAll (linesOf s) noMo ∧ BelowM (w.heap.size + 2) (w.heap.size + 1) wx wr) (fun _ i _ => s.size + 1 - (intOf i).toNat)
    case atStart => exact ⟨0, 0, Nat.le_refl _, Nat.zero_le _, rfl, rfl, noMo, _, _, _, _, HM0.out, ⟨Nat.le_refl _, Nat.le_refl _, Nat.le_refl _⟩, by rw [restL_start], ⟨rfl, rfl, rfl, Nat.le_refl _, fun _ _ _ => rfl⟩⟩
    case round =>
      obtain ⟨g, k, hgk, hk, rfl, rfl, mo, n1, vu, vt, vf, hmod, hlens, hra, hbm⟩ := hrel
      obtain ⟨hl1, hl2, hl3⟩ := hlens
      obtain ⟨yu, hyu⟩ := hmod.us
      obtain ⟨yt, hyt⟩ := hmod.ts
      obtain ⟨yf, hyf⟩ := hmod.fs
      obtain ⟨au, cu, hvu⟩ := own_slice hyu.own
      obtain ⟨at', ct, hvt⟩ := own_slice hyt.own
      obtain ⟨af, cf, hvf⟩ := own_slice hyf.own
      subst hvu hvt hvf
      clear hyu hyt hyf
      have HMod := veil hmod
      have HRa := veil hra
      have HBm := veil hbm
      have HZ : Hid (∀ W', BelowM (w.heap.size + 2) (w.heap.size + 1) wx W' → W'.heap[w.heap.size]? = some (.cells #[.slice none 0 0, .slice none 0 0, .slice none 0 0] 26 (0, 0))) := fun W' h => (h.block w.heap.size (by omega) (by omega)).trans HP0.out
      have HBw : Hid (∀ W', BelowM (w.heap.size + 2) (w.heap.size + 1) wx W' → Below w.heap.size w W') := fun W' h => HBel.out.trans ⟨h.os, h.tape, h.output, h.size, fun b hb => h.block b (by omega) (by omega)⟩
      by_cases hle : k ≤ s.size
      · have hle' : (k : Int) ≤ (s.size : Int) := by omega
        by_cases hon : ∃ hlt : k < s.size, (((s[k]'hlt).toNat : Int) == 10) = false
        · obtain ⟨hlt, hb10⟩ := hon
          have hlt' : (k : Int) < (s.size : Int) := by omega
          have hne : (((s[k]'hlt).toNat : Int) != 10) = true := by rw [bne, hb10]; rfl
          rw [restL_on hlt hgk hb10] at HRa
          clear hmod hra hbm
          go_wp2_with fail
          exact ⟨⟨g, k + 1, by omega, by omega, rfl, by go_num, mo, n1, _, _, _, HMod.out, ⟨by omega, by omega, by omega⟩, HRa.out, HBm.out⟩, by simp [intOf]; omega⟩
        · have hcut : restL s g k = s.extract g k :: restL s (k + 1) (k + 1) ∧ ((∃ hlt : k < s.size, ((s[k]'hlt).toNat : Int) = 10) ∨ k = s.size) := by
            by_cases hlt : k < s.size
            · have hb10 : ((s[k]'hlt).toNat : Int) = 10 := by
                by_cases h : ((s[k]'hlt).toNat : Int) = 10
                · exact h
                · exact absurd ⟨hlt, beq_eq_false_iff_ne.2 h⟩ hon
              exact ⟨restL_cut hlt hb10, .inl ⟨hlt, hb10⟩⟩
            · have hks : k = s.size := by omega
              refine ⟨?_, .inr hks⟩
              rw [hks]
              exact restL_last
          obtain ⟨hc1, hc2⟩ := hcut
          rw [hc1, readAll] at HRa
          have hsl := run_line s g k hgk hle
          clear hon hc1 hra hbm
          generalize s.extract g k = ln at *
          have hnW := hmod.hn
          have hbn := hmod.hb
          have HCut := veil (of_all ln wr)
          have HMk : Hid (∀ W', Below wr.heap.size wr W' → ModAt (w.heap.size + 2) (w.heap.size + 1) n1 mo _ _ _ W') := fun W' h => HMod.out.keep ⟨h.os, h.tape, h.output, h.size, fun b hb => h.block b (by omega)⟩
          clear hmod
          rcases hc2 with ⟨hlt, hb10⟩ | hks
          · have hlt' : (k : Int) < (s.size : Int) := by omega
            have hne0 : (((s[k]'hlt).toNat : Int) != 10) = false := by rw [hb10]; rfl
            go_wp2_with fail
            refine HCut.out.mono ?_
            rintro e w1 ⟨v, rfl, htr, hb1⟩
            have hsz1 := hb1.size
            have HBm1 := veil (HBm.out.trans (BelowM.of_below hb1 (by omega)))
            have HMod1 := veil (HMk.out w1 hb1)
            have HTr := veil htr
            clear HCut htr hb1
            by_cases hce : cutErr ln = 0
            · have HLr : Hid (lineRes ln = pLine (cutToks ln)) := if_pos hce
              have HSd := veil (cut_sound hce)
              rw [hce]
              go_wp2_with fail
              refine (line_eye (cutToks ln) v (w.heap.size + 2) (w.heap.size + 1) n1 mo _ _ _ w1 HMod1.out HTr.out HSd.out.2.2.1 HSd.out.2.2.2 (by omega) (by omega) (by omega)).mono ?_
              rintro e w' ⟨x, rfl, hbm', ⟨er, hr, rfl⟩ | ⟨d, hr, rfl, n1', vu', vt', vf', hmod'⟩⟩
              · rw [HLr.out, hr] at HRa
                have hne := lineRes_ne (HLr.out.trans hr)
                have hne' : (x != 0) = true := by simpa using hne
                have hbx := HBm1.out.trans hbm'
                clear hr HLr hbm' HSd HMod1
                have HE1 : Hid (readErr s = x) := by show _ = _; rw [HE.out, ← HRa.out]
                have HM1 : Hid (readMo s = noMo) := by show _ = _; rw [HMo.out, ← HRa.out]
                have hz := HZ.out w' hbx
                have HBw1 := veil (HBw.out w' hbx)
                have HT := veil (three_set hz (.slice none 0 0) (.slice none 0 0) (.slice none 0 0))
                have z0 : w'.cell? ⟨w.heap.size, 0, none⟩ = some (.slice none 0 0) := by rw [cell_of_row w' _ 0 _ _ _ hz]; rfl
                have z1 : w'.cell? ⟨w.heap.size, 1, none⟩ = some (.slice none 0 0) := by rw [cell_of_row w' _ 1 _ _ _ hz]; rfl
                have z2 : w'.cell? ⟨w.heap.size, 2, none⟩ = some (.slice none 0 0) := by rw [cell_of_row w' _ 2 _ _ _ hz]; rfl
                have f0 := Lib.frozen_of_heap hz 0
                have f1 := Lib.frozen_of_heap hz 1
                have f2 := Lib.frozen_of_heap hz 2
                clear hne hbx hz HRa HE HMo HMod HBm
                go_wp2_with fail
                obtain ⟨q0, q1, q2⟩ := HT.out
                exact bodyPost_ret (v := .tuple #[.agg #[.slice none 0 0, .slice none 0 0, .slice none 0 0], .int .i64 x]) (by simp [results, Tryz.results6, go_sem, q0, q1, q2]) rfl
                  ⟨((HBw1.out.setCell (p := ⟨w.heap.size, 0, none⟩) (Nat.le_refl _) _).setCell (p := ⟨w.heap.size, 1, none⟩) (Nat.le_refl _) _).setCell (p := ⟨w.heap.size, 2, none⟩) (Nat.le_refl _) _, _, by rw [HE1.out], by rw [HM1.out]; exact noMo_is⟩
              · rw [HLr.out, hr] at HRa
                have HMod' := veil hmod'
                have HBm' := veil (HBm1.out.trans hbm')
                have HL' := veil (put_len (m := mo) (d := d) (k := k) ⟨hl1, hl2, hl3⟩)
                clear hr hbm' hmod' HMod HBm HMod1 HLr HSd
                go_wp2_with fail
                exact ⟨⟨k + 1, k + 1, by omega, by omega, by go_num, by go_num, putLine mo d, n1', vu', vt', vf', HMod'.out, HL'.out, HRa.out, HBm'.out⟩, by simp [intOf]; omega⟩
            · have HLr : Hid (lineRes ln = .error (cutErr ln)) := if_neg hce
              rw [HLr.out] at HRa
              have hbx := HBm1.out
              have hne := hce
              have hne' : (cutErr ln != 0) = true := by simpa using hce
              have hne2 : (cutErr ln == 0) = false := by simpa using hce
              clear hce HLr HMod1
              generalize cutErr ln = x at *
              have HE1 : Hid (readErr s = x) := by show _ = _; rw [HE.out, ← HRa.out]
              have HM1 : Hid (readMo s = noMo) := by show _ = _; rw [HMo.out, ← HRa.out]
              have hz := HZ.out w1 hbx
              have HBw1 := veil (HBw.out w1 hbx)
              have HT := veil (three_set hz (.slice none 0 0) (.slice none 0 0) (.slice none 0 0))
              have z0 : w1.cell? ⟨w.heap.size, 0, none⟩ = some (.slice none 0 0) := by rw [cell_of_row w1 _ 0 _ _ _ hz]; rfl
              have z1 : w1.cell? ⟨w.heap.size, 1, none⟩ = some (.slice none 0 0) := by rw [cell_of_row w1 _ 1 _ _ _ hz]; rfl
              have z2 : w1.cell? ⟨w.heap.size, 2, none⟩ = some (.slice none 0 0) := by rw [cell_of_row w1 _ 2 _ _ _ hz]; rfl
              have f0 := Lib.frozen_of_heap hz 0
              have f1 := Lib.frozen_of_heap hz 1
              have f2 := Lib.frozen_of_heap hz 2
              clear hne hbx hz HRa HE HMo HMod HBm
              go_wp2_with fail
              obtain ⟨q0, q1, q2⟩ := HT.out
              exact bodyPost_ret (v := .tuple #[.agg #[.slice none 0 0, .slice none 0 0, .slice none 0 0], .int .i64 x]) (by simp [results, Tryz.results6, go_sem, q0, q1, q2]) rfl
                ⟨((HBw1.out.setCell (p := ⟨w.heap.size, 0, none⟩) (Nat.le_refl _) _).setCell (p := ⟨w.heap.size, 1, none⟩) (Nat.le_refl _) _).setCell (p := ⟨w.heap.size, 2, none⟩) (Nat.le_refl _) _, _, by rw [HE1.out], by rw [HM1.out]; exact noMo_is⟩
          · have hlt' : ¬ (k : Int) < (s.size : Int) := by omega
            have hlt2 : decide ((k : Int) < (s.size : Int)) = false := decide_eq_false hlt'
            have hlt3 : decide (k < s.size) = false := decide_eq_false (by omega)
            clear hks
            go_wp2_with fail
            refine HCut.out.mono ?_
            rintro e w1 ⟨v, rfl, htr, hb1⟩
            have hsz1 := hb1.size
            have HBm1 := veil (HBm.out.trans (BelowM.of_below hb1 (by omega)))
            have HMod1 := veil (HMk.out w1 hb1)
            have HTr := veil htr
            clear HCut htr hb1
            by_cases hce : cutErr ln = 0
            · have HLr : Hid (lineRes ln = pLine (cutToks ln)) := if_pos hce
              have HSd := veil (cut_sound hce)
              rw [hce]
              go_wp2_with fail
              refine (line_eye (cutToks ln) v (w.heap.size + 2) (w.heap.size + 1) n1 mo _ _ _ w1 HMod1.out HTr.out HSd.out.2.2.1 HSd.out.2.2.2 (by omega) (by omega) (by omega)).mono ?_
              rintro e w' ⟨x, rfl, hbm', ⟨er, hr, rfl⟩ | ⟨d, hr, rfl, n1', vu', vt', vf', hmod'⟩⟩
              · rw [HLr.out, hr] at HRa
                have hne := lineRes_ne (HLr.out.trans hr)
                have hne' : (x != 0) = true := by simpa using hne
                have hbx := HBm1.out.trans hbm'
                clear hr HLr hbm' HSd HMod1
                have HE1 : Hid (readErr s = x) := by show _ = _; rw [HE.out, ← HRa.out]
                have HM1 : Hid (readMo s = noMo) := by show _ = _; rw [HMo.out, ← HRa.out]
                have hz := HZ.out w' hbx
                have HBw1 := veil (HBw.out w' hbx)
                have HT := veil (three_set hz (.slice none 0 0) (.slice none 0 0) (.slice none 0 0))
                have z0 : w'.cell? ⟨w.heap.size, 0, none⟩ = some (.slice none 0 0) := by rw [cell_of_row w' _ 0 _ _ _ hz]; rfl
                have z1 : w'.cell? ⟨w.heap.size, 1, none⟩ = some (.slice none 0 0) := by rw [cell_of_row w' _ 1 _ _ _ hz]; rfl
                have z2 : w'.cell? ⟨w.heap.size, 2, none⟩ = some (.slice none 0 0) := by rw [cell_of_row w' _ 2 _ _ _ hz]; rfl
                have f0 := Lib.frozen_of_heap hz 0
                have f1 := Lib.frozen_of_heap hz 1
                have f2 := Lib.frozen_of_heap hz 2
                clear hne hbx hz HRa HE HMo HMod HBm
                go_wp2_with fail
                obtain ⟨q0, q1, q2⟩ := HT.out
                exact bodyPost_ret (v := .tuple #[.agg #[.slice none 0 0, .slice none 0 0, .slice none 0 0], .int .i64 x]) (by simp [results, Tryz.results6, go_sem, q0, q1, q2]) rfl
                  ⟨((HBw1.out.setCell (p := ⟨w.heap.size, 0, none⟩) (Nat.le_refl _) _).setCell (p := ⟨w.heap.size, 1, none⟩) (Nat.le_refl _) _).setCell (p := ⟨w.heap.size, 2, none⟩) (Nat.le_refl _) _, _, by rw [HE1.out], by rw [HM1.out]; exact noMo_is⟩
              · rw [HLr.out, hr] at HRa
                have HMod' := veil hmod'
                have HBm' := veil (HBm1.out.trans hbm')
                have HL' := veil (put_len (m := mo) (d := d) (k := k) ⟨hl1, hl2, hl3⟩)
                clear hr hbm' hmod' HMod HBm HMod1 HLr HSd
                go_wp2_with fail
                exact ⟨⟨k + 1, k + 1, by omega, by omega, by go_num, by go_num, putLine mo d, n1', vu', vt', vf', HMod'.out, HL'.out, HRa.out, HBm'.out⟩, by simp [intOf]; omega⟩
            · have HLr : Hid (lineRes ln = .error (cutErr ln)) := if_neg hce
              rw [HLr.out] at HRa
              have hbx := HBm1.out
              have hne := hce
              have hne' : (cutErr ln != 0) = true := by simpa using hce
              have hne2 : (cutErr ln == 0) = false := by simpa using hce
              clear hce HLr HMod1
              generalize cutErr ln = x at *
              have HE1 : Hid (readErr s = x) := by show _ = _; rw [HE.out, ← HRa.out]
              have HM1 : Hid (readMo s = noMo) := by show _ = _; rw [HMo.out, ← HRa.out]
              have hz := HZ.out w1 hbx
              have HBw1 := veil (HBw.out w1 hbx)
              have HT := veil (three_set hz (.slice none 0 0) (.slice none 0 0) (.slice none 0 0))
              have z0 : w1.cell? ⟨w.heap.size, 0, none⟩ = some (.slice none 0 0) := by rw [cell_of_row w1 _ 0 _ _ _ hz]; rfl
              have z1 : w1.cell? ⟨w.heap.size, 1, none⟩ = some (.slice none 0 0) := by rw [cell_of_row w1 _ 1 _ _ _ hz]; rfl
              have z2 : w1.cell? ⟨w.heap.size, 2, none⟩ = some (.slice none 0 0) := by rw [cell_of_row w1 _ 2 _ _ _ hz]; rfl
              have f0 := Lib.frozen_of_heap hz 0
              have f1 := Lib.frozen_of_heap hz 1
              have f2 := Lib.frozen_of_heap hz 2
              clear hne hbx hz HRa HE HMo HMod HBm
              go_wp2_with fail
              obtain ⟨q0, q1, q2⟩ := HT.out
              exact bodyPost_ret (v := .tuple #[.agg #[.slice none 0 0, .slice none 0 0, .slice none 0 0], .int .i64 x]) (by simp [results, Tryz.results6, go_sem, q0, q1, q2]) rfl
                ⟨((HBw1.out.setCell (p := ⟨w.heap.size, 0, none⟩) (Nat.le_refl _) _).setCell (p := ⟨w.heap.size, 1, none⟩) (Nat.le_refl _) _).setCell (p := ⟨w.heap.size, 2, none⟩) (Nat.le_refl _) _, _, by rw [HE1.out], by rw [HM1.out]; exact noMo_is⟩
      · have hke : k = s.size + 1 := by omega
        have hnl : ¬ (k : Int) ≤ (s.size : Int) := by omega
        rw [hke, restL_past, readAll] at HRa
        have hb1 := hmod.mod
        have c0 : wr.cell? ⟨w.heap.size + 1, 0, none⟩ = some (.slice au mo.uses.length cu) := by rw [cell_of_row wr _ 0 _ _ _ hb1]; rfl
        have c1 : wr.cell? ⟨w.heap.size + 1, 1, none⟩ = some (.slice at' mo.types.length ct) := by rw [cell_of_row wr _ 1 _ _ _ hb1]; rfl
        have c2 : wr.cell? ⟨w.heap.size + 1, 2, none⟩ = some (.slice af mo.funcs.length cf) := by rw [cell_of_row wr _ 2 _ _ _ hb1]; rfl
        have HIs := veil (hmod.is (by unfold maxLen; omega) (by unfold maxLen; omega) (by unfold maxLen; omega))
        have hsz : w.heap.size + 2 ≤ wr.heap.size := by have := hbm.size; omega
        clear hmod hra hbm hb1
        go_wp2_with fail
        refine (moduleFault_any _ mo _ wr (fun b hb => hb.2) HIs.out).mono ?_
        rintro e w' ⟨rfl, hb⟩
        have hbx := HBm.out.trans (BelowM.of_below hb (by omega))
        have hz := HZ.out w' hbx
        have HBw1 := veil (HBw.out w' hbx)
        have HIs2 := veil (HIs.out.keep (S' := Fresh (w.heap.size + 2) w') ⟨fun b hb' => hb.block b hb'.2, fun b hb' => ⟨hb'.1, Nat.lt_of_lt_of_le hb'.2 hb.size⟩⟩)
        have z0 : w'.cell? ⟨w.heap.size, 0, none⟩ = some (.slice none 0 0) := by rw [cell_of_row w' _ 0 _ _ _ hz]; rfl
        have z1 : w'.cell? ⟨w.heap.size, 1, none⟩ = some (.slice none 0 0) := by rw [cell_of_row w' _ 1 _ _ _ hz]; rfl
        have z2 : w'.cell? ⟨w.heap.size, 2, none⟩ = some (.slice none 0 0) := by rw [cell_of_row w' _ 2 _ _ _ hz]; rfl
        have d0 : w'.cell? ⟨w.heap.size + 1, 0, none⟩ = some (.slice au mo.uses.length cu) := (hb.cell (p := ⟨w.heap.size + 1, 0, none⟩) (by show w.heap.size + 1 < _; omega)).trans c0
        have d1 : w'.cell? ⟨w.heap.size + 1, 1, none⟩ = some (.slice at' mo.types.length ct) := (hb.cell (p := ⟨w.heap.size + 1, 1, none⟩) (by show w.heap.size + 1 < _; omega)).trans c1
        have d2 : w'.cell? ⟨w.heap.size + 1, 2, none⟩ = some (.slice af mo.funcs.length cf) := (hb.cell (p := ⟨w.heap.size + 1, 2, none⟩) (by show w.heap.size + 1 < _; omega)).trans c2
        have f0 := Lib.frozen_of_heap hz 0
        have f1 := Lib.frozen_of_heap hz 1
        have f2 := Lib.frozen_of_heap hz 2
        have HEm : Hid (readErr s = moFault mo) := by show _ = _; rw [HE.out, ← HRa.out]
        by_cases hmf : moFault mo = 0
        · have HM1 : Hid (readMo s = mo) := by show _ = _; rw [HMo.out, ← HRa.out]; exact if_pos hmf
          have HE1 : Hid (readErr s = 0) := HEm.out.trans hmf
          have HT := veil (three_set hz (.slice au mo.uses.length cu) (.slice at' mo.types.length ct) (.slice af mo.funcs.length cf))
          rw [hmf]
          clear hbx hz hb c0 c1 c2 HE HMo HMod HBm HRa HIs hmf
          go_wp2_with fail
          obtain ⟨q0, q1, q2⟩ := HT.out
          refine bodyPost_ret (v := .tuple #[.agg #[.slice au mo.uses.length cu, .slice at' mo.types.length ct, .slice af mo.funcs.length cf], .int .i64 0]) (by simp [results, Tryz.results6, go_sem, q0, q1, q2]) rfl
            ⟨((HBw1.out.setCell (p := ⟨w.heap.size, 0, none⟩) (Nat.le_refl _) _).setCell (p := ⟨w.heap.size, 1, none⟩) (Nat.le_refl _) _).setCell (p := ⟨w.heap.size, 2, none⟩) (Nat.le_refl _) _, _, by rw [HE1.out], ?_⟩
          rw [HM1.out]
          refine HIs2.out.keep ⟨fun b hb' => ?_, fun b hb' => ⟨by have := hb'.1; omega, ?_⟩⟩
          · have h1 := hb'.1
            rw [Below.heap_setCell _ _ _ _ (by show b ≠ w.heap.size; omega), Below.heap_setCell _ _ _ _ (by show b ≠ w.heap.size; omega), Below.heap_setCell _ _ _ _ (by show b ≠ w.heap.size; omega)]
          · rw [heap_size_setCell, heap_size_setCell, heap_size_setCell]; exact hb'.2
        · have hne' : (moFault mo != 0) = true := by simpa using hmf
          have HM1 : Hid (readMo s = noMo) := by show _ = _; rw [HMo.out, ← HRa.out]; exact if_neg hmf
          have HT := veil (three_set hz (.slice none 0 0) (.slice none 0 0) (.slice none 0 0))
          clear hbx hz hb c0 c1 c2 HE HMo HMod HBm HRa HIs hmf
          generalize moFault mo = y at *
          go_wp2_with fail
          obtain ⟨q0, q1, q2⟩ := HT.out
          exact bodyPost_ret (v := .tuple #[.agg #[.slice none 0 0, .slice none 0 0, .slice none 0 0], .int .i64 y]) (by simp [results, Tryz.results6, go_sem, q0, q1, q2]) rfl
            ⟨((HBw1.out.setCell (p := ⟨w.heap.size, 0, none⟩) (Nat.le_refl _) _).setCell (p := ⟨w.heap.size, 1, none⟩) (Nat.le_refl _) _).setCell (p := ⟨w.heap.size, 2, none⟩) (Nat.le_refl _) _, _, by rw [HEm.out], by rw [HM1.out]; exact noMo_is⟩

end Go.Proofs.YtieoddnaknpmlabGreatDoor
