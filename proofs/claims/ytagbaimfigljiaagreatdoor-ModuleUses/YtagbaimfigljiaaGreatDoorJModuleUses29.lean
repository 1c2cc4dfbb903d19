import Derived.Test.YtagbaimfigljiaaGreatDoorJModuleUses18
import Derived.Test.YtagbaimfigljiaaGreatDoorJModuleUses27
import Derived.Test.YtagbaimfigljiaaGreatDoorJModuleUses28
import Derived.Test.YtagbaimfigljiaaGreatDoorJModuleUses17
import Derived.Test.YtagbaimfigljiaaGreatDoorJModuleUses0
import Derived.Test.YtagbaimfigljiaaGreatDoorRows
import Derived.Deep.RegionWith
import Derived.Deep.RegionHeld3
import Derived.JoinedOf
import Derived.SevenTiedAt
namespace Go.Proofs.YtagbaimfigljiaaGreatDoor
open Go.RowKit
set_option maxRecDepth 100000

theorem run_line (s : ByteArray) (f k : Nat) (h : f ≤ k) (hk : k ≤ s.size) (wx : World) :
    (Instr.slice 9 (.string s) (some (.int .i64 f)) (some (.int .i64 k)) none).run Tryz.prog wx = .ok (.string (s.extract f k)) wx := by
  have := run_slice_string (P := Tryz.prog) wx 9 s .i64 .i64 f k Tryz.underlying9 (by omega) (by omega) (by omega)
  rw [this]
  rfl

set_option maxHeartbeats 8000000 in
theorem moduleOf_all (s : ByteArray) (w : World) : Calls Tryz.prog 32 #[.string s] w fun e w' => Below w.heap.size w w' ∧ ∃ v, e = .returned (.tuple #[v, .int .i64 (readErr s)]) ∧ MoIs (Fresh w.heap.size w') w' (readMo s) v := by
  by_cases h15 : 1500 < s.size
  · have h15' : (1500 : Int) < (s.size : Int) := by omega
    have HE : Hid (readErr s = 1) := if_pos h15
    have HMo : Hid (readMo s = noMo) := if_pos h15
    go_enter Tryz.func32, Tryz.ntmps32
    go_wp2_with fail
    exact bodyPost_ret (v := .tuple #[.agg #[.slice none 0 0, .slice none 0 0, .slice none 0 0], .int .i64 1]) (by simp [results, Tryz.results32, go_sem]) rfl
      ⟨(Below.refl _ _).alloc (Nat.le_refl _) _, _, by rw [HE.out], by rw [HMo.out]; exact noMo_is⟩
  · have h15' : ¬ (1500 : Int) < (s.size : Int) := by omega
    have hE : readErr s = match readAll (linesOf s) noMo with
      | .error e => e
      | .ok m => moFault m := if_neg h15
    have hMo : readMo s = match readAll (linesOf s) noMo with
      | .error _ => noMo
      | .ok m => if moFault m = 0 then m else noMo := if_neg h15
    have HE := veil hE
    have HMo := veil hMo
    clear hE hMo
    have hw1 : ∃ w1, (w.alloc (.cells #[.slice none 0 0, .slice none 0 0, .slice none 0 0] 44)).alloc (.cells #[.slice none 0 0, .slice none 0 0, .slice none 0 0] 44) = w1 ∧ w1.heap.size = w.heap.size + 2 ∧
        w1.heap[w.heap.size]? = some (.cells #[.slice none 0 0, .slice none 0 0, .slice none 0 0] 44 (0, 0)) ∧ w1.heap[w.heap.size + 1]? = some (.cells #[.slice none 0 0, .slice none 0 0, .slice none 0 0] 44 (0, 0)) ∧ Below w.heap.size w w1 := by
      have n0 : (w.alloc (.cells #[.slice none 0 0, .slice none 0 0, .slice none 0 0] 44)).heap.size = w.heap.size + 1 := by simp
      have a0 := heap_alloc_new w (.cells #[.slice none 0 0, .slice none 0 0, .slice none 0 0] 44)
      have a1 := heap_alloc_new (w.alloc (.cells #[.slice none 0 0, .slice none 0 0, .slice none 0 0] 44)) (.cells #[.slice none 0 0, .slice none 0 0, .slice none 0 0] 44)
      rw [n0] at a1
      refine ⟨_, rfl, by simp, ?_, a1, ((Below.refl _ _).alloc (Nat.le_refl _) _).alloc (by omega) _⟩
      rw [heap_alloc_old _ _ (by omega)]; exact a0
    obtain ⟨wx, hwe, hs1, p0, p1, hbel⟩ := hw1
    have HWe := veil hwe
    have HP0 := veil p0
    have HBel := veil hbel
    have HM0 : Hid (ModAt (w.heap.size + 2) (w.heap.size + 1) (w.heap.size + 2) noMo (.slice none 0 0) (.slice none 0 0) (.slice none 0 0) wx) :=
      ⟨p1, by omega, by omega, by omega, ⟨[], ⟨rfl, Or.inl ⟨rfl, rfl⟩⟩, fun g h => (by cases h), fun j hj => absurd hj (by simp [noMo])⟩, ⟨[], ⟨rfl, Or.inl ⟨rfl, rfl⟩⟩, fun g h => (by cases h), fun j hj => absurd hj (by simp [noMo])⟩, ⟨[], ⟨rfl, Or.inl ⟨rfl, rfl⟩⟩, fun g h => (by cases h), fun j hj => absurd hj (by simp [noMo])⟩⟩
    clear p0 p1 hbel hwe
    go_enter Tryz.func32, Tryz.ntmps32
    go_wp2_with fail
    rw [HWe.out]
    clear HWe
    go_loopw [5, 6] (fun f i wr => ∃ g k : Nat, g ≤ k ∧ k ≤ s.size + 1 ∧ f = .int .i64 g ∧ i = .int .i64 k ∧ ∃ mo n1 vu vt vf, ModAt (w.heap.size + 2) (w.heap.size + 1) n1 mo vu vt vf wr ∧ (mo.uses.length ≤ k ∧ mo.types.length ≤ k ∧ mo.funcs.length ≤ k) ∧ readAll (restL s g k) mo = readAll (linesOf s) noMo ∧ BelowM (w.heap.size + 2) (w.heap.size + 1) wx wr) (fun _ i _ => s.size + 1 - (intOf i).toNat)
    case atStart => exact ⟨0, 0, Nat.le_refl _, Nat.zero_le _, rfl, rfl, noMo, _, _, _, _, HM0.out, ⟨Nat.le_refl _, Nat.le_refl _, Nat.le_refl _⟩, by rw [restL_start], ⟨rfl, rfl, rfl, Nat.le_refl _, fun _ _ _ => rfl⟩⟩
    case round =>
      obtain ⟨g, k, hgk, hk, rfl, rfl, mo, n1, vu, vt, vf, hmod, hlens, hra, hbm⟩ := hrel
      obtain ⟨hl1, hl2, hl3⟩ := hlens
      obtain ⟨yu, hyu⟩ := hmod.us
      obtain ⟨yt, hyt⟩ := hmod.ts
      obtain ⟨yf, hyf⟩ := hmod.fs
      obtain ⟨au, cu, hvu⟩ := own_slice hyu.own
      obtain ⟨at', ct, hvt⟩ := own_slice hyt.own
      obtain ⟨af, cf, hvf⟩ := own_slice hyf.own
      subst hvu hvt hvf
      clear hyu hyt hyf
      have HMod := veil hmod
      have HRa := veil hra
      have HBm := veil hbm
      have HZ : Hid (∀ W', BelowM (w.heap.size + 2) (w.heap.size + 1) wx W' → W'.heap[w.heap.size]? = some (.cells #[.slice none 0 0, .slice none 0 0, .slice none 0 0] 44 (0, 0))) := fun W' h => (h.block w.heap.size (by omega) (by omega)).trans HP0.out
      have HBw : Hid (∀ W', BelowM (w.heap.size + 2) (w.heap.size + 1) wx W' → Below w.heap.size w W') := fun W' h => HBel.out.trans ⟨h.os, h.tape, h.output, h.size, fun b hb => h.block b (by omega) (by omega)⟩
      by_cases hle : k ≤ s.size
      · have hle' : (k : Int) ≤ (s.size : Int) := by omega
        by_cases hon : ∃ hlt : k < s.size, (((s[k]'hlt).toNat : Int) == 10) = false
        · obtain ⟨hlt, hb10⟩ := hon
          have hlt' : (k : Int) < (s.size : Int) := by omega
          have hne : (((s[k]'hlt).toNat : Int) != 10) = true := by rw [bne, hb10]; rfl
          rw [restL_on hlt hgk hb10] at HRa
          clear hmod hra hbm
          go_wp2_with fail
          exact ⟨⟨g, k + 1, by omega, by omega, rfl, by go_num, mo, n1, _, _, _, HMod.out, ⟨by omega, by omega, by omega⟩, HRa.out, HBm.out⟩, by simp [intOf]; omega⟩
        · have hcut : restL s g k = s.extract g k :: restL s (k + 1) (k + 1) ∧ ((∃ hlt : k < s.size, ((s[k]'hlt).toNat : Int) = 10) ∨ k = s.size) := by
            by_cases hlt : k < s.size
            · have hb10 : ((s[k]'hlt).toNat : Int) = 10 := by
                by_cases h : ((s[k]'hlt).toNat : Int) = 10
                · exact h
                · exact absurd ⟨hlt, beq_eq_false_iff_ne.2 h⟩ hon
              exact ⟨restL_cut hlt hb10, .inl ⟨hlt, hb10⟩⟩
            · have hks : k = s.size := by omega
              refine ⟨?_, .inr hks⟩
              rw [hks]
              exact restL_last
          obtain ⟨hc1, hc2⟩ := hcut
          rw [hc1, readAll] at HRa
          have hsl := run_line s g k hgk hle
          clear hon hc1 hra hbm
          generalize s.extract g k = ln at *
          have hnW := hmod.hn
          have hbn := hmod.hb
          have HCut := veil (of_all ln wr)
          have HMk : Hid (∀ W', Below wr.heap.size wr W' → ModAt (w.heap.size + 2) (w.heap.size + 1) n1 mo _ _ _ W') := fun W' h => HMod.out.keep ⟨h.os, h.tape, h.output, h.size, fun b hb => h.block b (by omega)⟩
          clear hmod
          rcases hc2 with ⟨hlt, hb10⟩ | hks
          · have hlt' : (k : Int) < (s.size : Int) := by omega
            have hne0 : (((s[k]'hlt).toNat : Int) != 10) = false := by rw [hb10]; rfl
            go_wp2_with fail
            refine HCut.out.mono ?_
            rintro e w1 ⟨v, rfl, htr, hb1⟩
            have hsz1 := hb1.size
            have HBm1 := veil (HBm.out.trans (BelowM.of_below hb1 (by omega)))
            have HMod1 := veil (HMk.out w1 hb1)
            have HTr := veil htr
            clear HCut htr hb1
            by_cases hce : cutErr ln = 0
            · have HLr : Hid (lineRes ln = pLine (cutToks ln)) := if_pos hce
              have HSd := veil (cut_sound hce)
              rw [hce]
              go_wp2_with fail
              refine (line_eye (cutToks ln) v (w.heap.size + 2) (w.heap.size + 1) n1 mo _ _ _ w1 HMod1.out HTr.out HSd.out.2.2.1 HSd.out.2.2.2 (by omega) (by omega) (by omega)).mono ?_
              rintro e w' ⟨x, rfl, hbm', ⟨er, hr, rfl⟩ | ⟨d, hr, rfl, n1', vu', vt', vf', hmod'⟩⟩
              · rw [HLr.out, hr] at HRa
                have hne := lineRes_ne (HLr.out.trans hr)
                have hne' : (x != 0) = true := by simpa using hne
                have hbx := HBm1.out.trans hbm'
                clear hr HLr hbm' HSd HMod1
                have HE1 : Hid (readErr s = x) := by show _ = _; rw [HE.out, ← HRa.out]
                have HM1 : Hid (readMo s = noMo) := by show _ = _; rw [HMo.out, ← HRa.out]
                have hz := HZ.out w' hbx
                have HBw1 := veil (HBw.out w' hbx)
                have HT := veil (three_set hz (.slice none 0 0) (.slice none 0 0) (.slice none 0 0))
                have z0 : w'.cell? ⟨w.heap.size, 0, none⟩ = some (.slice none 0 0) := by rw [cell_of_row w' _ 0 _ _ _ hz]; rfl
                have z1 : w'.cell? ⟨w.heap.size, 1, none⟩ = some (.slice none 0 0) := by rw [cell_of_row w' _ 1 _ _ _ hz]; rfl
                have z2 : w'.cell? ⟨w.heap.size, 2, none⟩ = some (.slice none 0 0) := by rw [cell_of_row w' _ 2 _ _ _ hz]; rfl
                have f0 := Lib.frozen_of_heap hz 0
                have f1 := Lib.frozen_of_heap hz 1
                have f2 := Lib.frozen_of_heap hz 2
                clear hne hbx hz HRa HE HMo HMod HBm
                go_wp2_with fail
                obtain ⟨q0, q1, q2⟩ := HT.out
                exact bodyPost_ret (v := .tuple #[.agg #[.slice none 0 0, .slice none 0 0, .slice none 0 0], .int .i64 x]) (by simp [results, Tryz.results32, go_sem, q0, q1, q2]) rfl
                  ⟨((HBw1.out.setCell (p := ⟨w.heap.size, 0, none⟩) (Nat.le_refl _) _).setCell (p := ⟨w.heap.size, 1, none⟩) (Nat.le_refl _) _).setCell (p := ⟨w.heap.size, 2, none⟩) (Nat.le_refl _) _, _, by rw [HE1.out], by rw [HM1.out]; exact noMo_is⟩
              · rw [HLr.out, hr] at HRa
                have HMod' := veil hmod'
                have HBm' := veil (HBm1.out.trans hbm')
                have HL' := veil (put_len (m := mo) (d := d) (k := k) ⟨hl1, hl2, hl3⟩)
                clear hr hbm' hmod' HMod HBm HMod1 HLr HSd
                go_wp2_with fail
                exact ⟨⟨k + 1, k + 1, by omega, by omega, by go_num, by go_num, putLine mo d, n1', vu', vt', vf', HMod'.out, HL'.out, HRa.out, HBm'.out⟩, by simp [intOf]; omega⟩
            · have HLr : Hid (lineRes ln = .error (cutErr ln)) := if_neg hce
              rw [HLr.out] at HRa
              have hbx := HBm1.out
              have hne := hce
              have hne' : (cutErr ln != 0) = true := by simpa using hce
              have hne2 : (cutErr ln == 0) = false := by simpa using hce
              clear hce HLr HMod1
              generalize cutErr ln = x at *
              have HE1 : Hid (readErr s = x) := by show _ = _; rw [HE.out, ← HRa.out]
              have HM1 : Hid (readMo s = noMo) := by show _ = _; rw [HMo.out, ← HRa.out]
              have hz := HZ.out w1 hbx
              have HBw1 := veil (HBw.out w1 hbx)
              have HT := veil (three_set hz (.slice none 0 0) (.slice none 0 0) (.slice none 0 0))
              have z0 : w1.cell? ⟨w.heap.size, 0, none⟩ = some (.slice none 0 0) := by rw [cell_of_row w1 _ 0 _ _ _ hz]; rfl
              have z1 : w1.cell? ⟨w.heap.size, 1, none⟩ = some (.slice none 0 0) := by rw [cell_of_row w1 _ 1 _ _ _ hz]; rfl
              have z2 : w1.cell? ⟨w.heap.size, 2, none⟩ = some (.slice none 0 0) := by rw [cell_of_row w1 _ 2 _ _ _ hz]; rfl
              have f0 := Lib.frozen_of_heap hz 0
              have f1 := Lib.frozen_of_heap hz 1
              have f2 := Lib.frozen_of_heap hz 2
              clear hne hbx hz HRa HE HMo HMod HBm
              go_wp2_with fail
              obtain ⟨q0, q1, q2⟩ := HT.out
              exact bodyPost_ret (v := .tuple #[.agg #[.slice none 0 0, .slice none 0 0, .slice none 0 0], .int .i64 x]) (by simp [results, Tryz.results32, go_sem, q0, q1, q2]) rfl
                ⟨((HBw1.out.setCell (p := ⟨w.heap.size, 0, none⟩) (Nat.le_refl _) _).setCell (p := ⟨w.heap.size, 1, none⟩) (Nat.le_refl _) _).setCell (p := ⟨w.heap.size, 2, none⟩) (Nat.le_refl _) _, _, by rw [HE1.out], by rw [HM1.out]; exact noMo_is⟩
          · have hlt' : ¬ (k : Int) < (s.size : Int) := by omega
            have hlt2 : decide ((k : Int) < (s.size : Int)) = false := decide_eq_false hlt'
            have hlt3 : decide (k < s.size) = false := decide_eq_false (by omega)
            clear hks
            go_wp2_with fail
            refine HCut.out.mono ?_
            rintro e w1 ⟨v, rfl, htr, hb1⟩
            have hsz1 := hb1.size
            have HBm1 := veil (HBm.out.trans (BelowM.of_below hb1 (by omega)))
            have HMod1 := veil (HMk.out w1 hb1)
            have HTr := veil htr
            clear HCut htr hb1
            by_cases hce : cutErr ln = 0
            · have HLr : Hid (lineRes ln = pLine (cutToks ln)) := if_pos hce
              have HSd := veil (cut_sound hce)
              rw [hce]
              go_wp2_with fail
              refine (line_eye (cutToks ln) v (w.heap.size + 2) (w.heap.size + 1) n1 mo _ _ _ w1 HMod1.out HTr.out HSd.out.2.2.1 HSd.out.2.2.2 (by omega) (by omega) (by omega)).mono ?_
              rintro e w' ⟨x, rfl, hbm', ⟨er, hr, rfl⟩ | ⟨d, hr, rfl, n1', vu', vt', vf', hmod'⟩⟩
              · rw [HLr.out, hr] at HRa
                have hne := lineRes_ne (HLr.out.trans hr)
                have hne' : (x != 0) = true := by simpa using hne
                have hbx := HBm1.out.trans hbm'
                clear hr HLr hbm' HSd HMod1
                have HE1 : Hid (readErr s = x) := by show _ = _; rw [HE.out, ← HRa.out]
                have HM1 : Hid (readMo s = noMo) := by show _ = _; rw [HMo.out, ← HRa.out]
                have hz := HZ.out w' hbx
                have HBw1 := veil (HBw.out w' hbx)
                have HT := veil (three_set hz (.slice none 0 0) (.slice none 0 0) (.slice none 0 0))
                have z0 : w'.cell? ⟨w.heap.size, 0, none⟩ = some (.slice none 0 0) := by rw [cell_of_row w' _ 0 _ _ _ hz]; rfl
                have z1 : w'.cell? ⟨w.heap.size, 1, none⟩ = some (.slice none 0 0) := by rw [cell_of_row w' _ 1 _ _ _ hz]; rfl
                have z2 : w'.cell? ⟨w.heap.size, 2, none⟩ = some (.slice none 0 0) := by rw [cell_of_row w' _ 2 _ _ _ hz]; rfl
                have f0 := Lib.frozen_of_heap hz 0
                have f1 := Lib.frozen_of_heap hz 1
                have f2 := Lib.frozen_of_heap hz 2
                clear hne hbx hz HRa HE HMo HMod HBm
                go_wp2_with fail
                obtain ⟨q0, q1, q2⟩ := HT.out
                exact bodyPost_ret (v := .tuple #[.agg #[.slice none 0 0, .slice none 0 0, .slice none 0 0], .int .i64 x]) (by simp [results, Tryz.results32, go_sem, q0, q1, q2]) rfl
                  ⟨((HBw1.out.setCell (p := ⟨w.heap.size, 0, none⟩) (Nat.le_refl _) _).setCell (p := ⟨w.heap.size, 1, none⟩) (Nat.le_refl _) _).setCell (p := ⟨w.heap.size, 2, none⟩) (Nat.le_refl _) _, _, by rw [HE1.out], by rw [HM1.out]; exact noMo_is⟩
              · rw [HLr.out, hr] at HRa
                have HMod' := veil hmod'
                have HBm' := veil (HBm1.out.trans hbm')
                have HL' := veil (put_len (m := mo) (d := d) (k := k) ⟨hl1, hl2, hl3⟩)
                clear hr hbm' hmod' HMod HBm HMod1 HLr HSd
                go_wp2_with fail
                exact ⟨⟨k + 1, k + 1, by omega, by omega, by go_num, by go_num, putLine mo d, n1', vu', vt', vf', HMod'.out, HL'.out, HRa.out, HBm'.out⟩, by simp [intOf]; omega⟩
            · have HLr : Hid (lineRes ln = .error (cutErr ln)) := if_neg hce
              rw [HLr.out] at HRa
              have hbx := HBm1.out
              have hne := hce
              have hne' : (cutErr ln != 0) = true := by simpa using hce
              have hne2 : (cutErr ln == 0) = false := by simpa using hce
              clear hce HLr HMod1
              generalize cutErr ln = x at *
              have HE1 : Hid (readErr s = x) := by show _ = _; rw [HE.out, ← HRa.out]
              have HM1 : Hid (readMo s = noMo) := by show _ = _; rw [HMo.out, ← HRa.out]
              have hz := HZ.out w1 hbx
              have HBw1 := veil (HBw.out w1 hbx)
              have HT := veil (three_set hz (.slice none 0 0) (.slice none 0 0) (.slice none 0 0))
              have z0 : w1.cell? ⟨w.heap.size, 0, none⟩ = some (.slice none 0 0) := by rw [cell_of_row w1 _ 0 _ _ _ hz]; rfl
              have z1 : w1.cell? ⟨w.heap.size, 1, none⟩ = some (.slice none 0 0) := by rw [cell_of_row w1 _ 1 _ _ _ hz]; rfl
              have z2 : w1.cell? ⟨w.heap.size, 2, none⟩ = some (.slice none 0 0) := by rw [cell_of_row w1 _ 2 _ _ _ hz]; rfl
              have f0 := Lib.frozen_of_heap hz 0
              have f1 := Lib.frozen_of_heap hz 1
              have f2 := Lib.frozen_of_heap hz 2
              clear hne hbx hz HRa HE HMo HMod HBm
              go_wp2_with fail
              obtain ⟨q0, q1, q2⟩ := HT.out
              exact bodyPost_ret (v := .tuple #[.agg #[.slice none 0 0, .slice none 0 0, .slice none 0 0], .int .i64 x]) (by simp [results, Tryz.results32, go_sem, q0, q1, q2]) rfl
                ⟨((HBw1.out.setCell (p := ⟨w.heap.size, 0, none⟩) (Nat.le_refl _) _).setCell (p := ⟨w.heap.size, 1, none⟩) (Nat.le_refl _) _).setCell (p := ⟨w.heap.size, 2, none⟩) (Nat.le_refl _) _, _, by rw [HE1.out], by rw [HM1.out]; exact noMo_is⟩
      · have hke : k = s.size + 1 := by omega
        have hnl : ¬ (k : Int) ≤ (s.size : Int) := by omega
        rw [hke, restL_past, readAll] at HRa
        have hb1 := hmod.mod
        have c0 : wr.cell? ⟨w.heap.size + 1, 0, none⟩ = some (.slice au mo.uses.length cu) := by rw [cell_of_row wr _ 0 _ _ _ hb1]; rfl
        have c1 : wr.cell? ⟨w.heap.size + 1, 1, none⟩ = some (.slice at' mo.types.length ct) := by rw [cell_of_row wr _ 1 _ _ _ hb1]; rfl
        have c2 : wr.cell? ⟨w.heap.size + 1, 2, none⟩ = some (.slice af mo.funcs.length cf) := by rw [cell_of_row wr _ 2 _ _ _ hb1]; rfl
        have HIs := veil (hmod.is (by unfold maxLen; omega) (by unfold maxLen; omega) (by unfold maxLen; omega))
        have hsz : w.heap.size + 2 ≤ wr.heap.size := by have := hbm.size; omega
        clear hmod hra hbm hb1
        go_wp2_with fail
        refine (moduleFault_any _ mo _ wr (fun b hb => hb.2) HIs.out).mono ?_
        rintro e w' ⟨rfl, hb⟩
        have hbx := HBm.out.trans (BelowM.of_below hb (by omega))
        have hz := HZ.out w' hbx
        have HBw1 := veil (HBw.out w' hbx)
        have HIs2 := veil (HIs.out.keep (S' := Fresh (w.heap.size + 2) w') ⟨fun b hb' => hb.block b hb'.2, fun b hb' => ⟨hb'.1, Nat.lt_of_lt_of_le hb'.2 hb.size⟩⟩)
        have z0 : w'.cell? ⟨w.heap.size, 0, none⟩ = some (.slice none 0 0) := by rw [cell_of_row w' _ 0 _ _ _ hz]; rfl
        have z1 : w'.cell? ⟨w.heap.size, 1, none⟩ = some (.slice none 0 0) := by rw [cell_of_row w' _ 1 _ _ _ hz]; rfl
        have z2 : w'.cell? ⟨w.heap.size, 2, none⟩ = some (.slice none 0 0) := by rw [cell_of_row w' _ 2 _ _ _ hz]; rfl
        have d0 : w'.cell? ⟨w.heap.size + 1, 0, none⟩ = some (.slice au mo.uses.length cu) := (hb.cell (p := ⟨w.heap.size + 1, 0, none⟩) (by show w.heap.size + 1 < _; omega)).trans c0
        have d1 : w'.cell? ⟨w.heap.size + 1, 1, none⟩ = some (.slice at' mo.types.length ct) := (hb.cell (p := ⟨w.heap.size + 1, 1, none⟩) (by show w.heap.size + 1 < _; omega)).trans c1
        have d2 : w'.cell? ⟨w.heap.size + 1, 2, none⟩ = some (.slice af mo.funcs.length cf) := (hb.cell (p := ⟨w.heap.size + 1, 2, none⟩) (by show w.heap.size + 1 < _; omega)).trans c2
        have f0 := Lib.frozen_of_heap hz 0
        have f1 := Lib.frozen_of_heap hz 1
        have f2 := Lib.frozen_of_heap hz 2
        have HEm : Hid (readErr s = moFault mo) := by show _ = _; rw [HE.out, ← HRa.out]
        by_cases hmf : moFault mo = 0
        · have HM1 : Hid (readMo s = mo) := by show _ = _; rw [HMo.out, ← HRa.out]; exact if_pos hmf
          have HE1 : Hid (readErr s = 0) := HEm.out.trans hmf
          have HT := veil (three_set hz (.slice au mo.uses.length cu) (.slice at' mo.types.length ct) (.slice af mo.funcs.length cf))
          rw [hmf]
          clear hbx hz hb c0 c1 c2 HE HMo HMod HBm HRa HIs hmf
          go_wp2_with fail
          obtain ⟨q0, q1, q2⟩ := HT.out
          refine bodyPost_ret (v := .tuple #[.agg #[.slice au mo.uses.length cu, .slice at' mo.types.length ct, .slice af mo.funcs.length cf], .int .i64 0]) (by simp [results, Tryz.results32, go_sem, q0, q1, q2]) rfl
            ⟨((HBw1.out.setCell (p := ⟨w.heap.size, 0, none⟩) (Nat.le_refl _) _).setCell (p := ⟨w.heap.size, 1, none⟩) (Nat.le_refl _) _).setCell (p := ⟨w.heap.size, 2, none⟩) (Nat.le_refl _) _, _, by rw [HE1.out], ?_⟩
          rw [HM1.out]
          refine HIs2.out.keep ⟨fun b hb' => ?_, fun b hb' => ⟨by have := hb'.1; omega, ?_⟩⟩
          · have h1 := hb'.1
            rw [Below.heap_setCell _ _ _ _ (by show b ≠ w.heap.size; omega), Below.heap_setCell _ _ _ _ (by show b ≠ w.heap.size; omega), Below.heap_setCell _ _ _ _ (by show b ≠ w.heap.size; omega)]
          · rw [heap_size_setCell, heap_size_setCell, heap_size_setCell]; exact hb'.2
        · have hne' : (moFault mo != 0) = true := by simpa using hmf
          have HM1 : Hid (readMo s = noMo) := by show _ = _; rw [HMo.out, ← HRa.out]; exact if_neg hmf
          have HT := veil (three_set hz (.slice none 0 0) (.slice none 0 0) (.slice none 0 0))
          clear hbx hz hb c0 c1 c2 HE HMo HMod HBm HRa HIs hmf
          generalize moFault mo = y at *
          go_wp2_with fail
          obtain ⟨q0, q1, q2⟩ := HT.out
          exact bodyPost_ret (v := .tuple #[.agg #[.slice none 0 0, .slice none 0 0, .slice none 0 0], .int .i64 y]) (by simp [results, Tryz.results32, go_sem, q0, q1, q2]) rfl
            ⟨((HBw1.out.setCell (p := ⟨w.heap.size, 0, none⟩) (Nat.le_refl _) _).setCell (p := ⟨w.heap.size, 1, none⟩) (Nat.le_refl _) _).setCell (p := ⟨w.heap.size, 2, none⟩) (Nat.le_refl _) _, _, by rw [HEm.out], by rw [HM1.out]; exact noMo_is⟩

end Go.Proofs.YtagbaimfigljiaaGreatDoor
namespace Go.Proofs.YtagbaimfigljiaaGreatDoor
open Go.RowKit
set_option maxRecDepth 100000

end Go.Proofs.YtagbaimfigljiaaGreatDoor
namespace Go.Proofs.YtagbaimfigljiaaGreatDoor
open Go.RowKit
set_option maxRecDepth 100000

set_option maxHeartbeats 4000000 in
theorem sameTexts_any (S : Nat → Prop) (l : List ByteArray) (v u : Value) (w : World) (hS : ∀ b, S b → b < w.heap.size) (hv : SlAt S (StrAt w) 1 l v) (hu : SlAt S (StrAt w) 1 l u) :
    Calls Tryz.prog 11 #[v, u] w fun e w' => e = .returned (.bool true) ∧ Below w.heap.size w w' := by
  obtain ⟨a, cap, rfl, ⟨hlen, hlenC⟩, hrest⟩ := hv
  obtain ⟨a2, cap2, rfl, ⟨hlen2, hlenC2⟩, hrest2⟩ := hu
  unfold maxLen at hlen
  have HR := veil hrest
  have HR2 := veil hrest2
  clear hrest hrest2 hlen2
  go_enter Tryz.func11, Tryz.ntmps11
  go_wp2_with fail
  go_loopw [5] (fun i wr => ∃ j : Nat, j ≤ l.length ∧ i = .int .i64 j ∧ Below w.heap.size w wr) (fun i _ => l.length - (intOf i).toNat)
  case atStart => exact ⟨0, Nat.zero_le _, rfl, Below.refl _ _⟩
  case round =>
    obtain ⟨j, hj, rfl, hbl⟩ := hrel
    have HBL := veil hbl
    by_cases hlt : j < l.length
    · have hlt' : (j : Int) < (l.length : Int) := by omega
      rcases HR.out with h0 | ⟨b, off, rfl, hb, hrow⟩
      · omega
      rcases HR2.out with h0 | ⟨b2, off2, rfl, hb2, hrow2⟩
      · omega
      have hbk := hS b hb
      have hbk2 := hS b2 hb2
      have a0 := (hrow.get j hlt).1
      have b0 := (hrow2.get j hlt).1
      rw [Nat.mul_one] at a0 b0
      have d0 := (hbl.cell (p := ⟨b, off + j, none⟩) hbk).trans a0
      have e0 := (hbl.cell (p := ⟨b2, off2 + j, none⟩) hbk2).trans b0
      have HD : Hid (Below w.heap.size w wr.drew) := HBL.out.drew
      clear hrow hrow2 a0 b0 HR HR2 hbl
      generalize l[j] = tx at *
      go_wp2_with fail
      go_region
      all_goals
        go_wp2_with fail
        exact ⟨⟨j + 1, by omega, by go_num, HD.out⟩, by simp [intOf]; omega⟩
    · have hnl : ¬ (j : Int) < (l.length : Int) := by omega
      clear HR HR2 hbl
      go_wp2_with fail
      go_ret
      exact ⟨rfl, HBL.out⟩

end Go.Proofs.YtagbaimfigljiaaGreatDoor
namespace Go.Proofs.YtagbaimfigljiaaGreatDoor.moduleUses
open Go.RowKit
set_option maxRecDepth 100000

set_option maxHeartbeats 4000000 in
theorem walk (s : ByteArray) (w : World) : Calls Tryz.prog 3 #[.string s] w fun e w' => e = .returned (.bool true) ∧ Below w.heap.size w w' := by
  have h24 := readMo_counts s
  have HA := veil (modUses_any s w)
  have HB : Hid (∀ W, Calls Tryz.prog 10 #[.string s] W fun e w' => ∃ u, e = .returned u ∧ SlAt (fun b => b < w'.heap.size) (StrAt w') 1 (usesR (readMo s)) u ∧ Below W.heap.size W w') := fun W =>
    usedOf_any (readMo s) (readErr s) s W (by omega) (readMo_uses s) ((moduleOf_all s W).mono fun _ _ ⟨hb, v, he, hm⟩ => ⟨hb, v, he, hm.keep ⟨fun _ _ => rfl, fun _ h => h.2⟩⟩)
  clear h24
  generalize usesR (readMo s) = l at *
  go_enter Tryz.func3, Tryz.ntmps3
  go_wp2_with fail
  refine HA.out.mono ?_
  rintro e w1 ⟨u, rfl, hu, hb1⟩
  obtain ⟨a, n, cap, rfl⟩ := hu.slice
  have HU := veil hu
  have HB1 := veil hb1
  clear hu hb1 HA
  go_wp2_with fail
  refine (HB.out _).mono ?_
  rintro e w2 ⟨u, rfl, hv, hb2⟩
  obtain ⟨a2, n2, cap2, rfl⟩ := hv.slice
  have HC : Hid (Calls Tryz.prog 11 #[.slice a n cap, .slice a2 n2 cap2] w2 fun e w' => e = .returned (.bool true) ∧ Below w2.heap.size w2 w') :=
    sameTexts_any (fun b => b < w2.heap.size) l _ _ w2 (fun _ h => h) (strSl_keep (S' := fun b => b < w2.heap.size) ⟨fun b hb => hb2.block b hb.2, fun b hb => Nat.lt_of_lt_of_le hb.2 hb2.size⟩ HU.out) hv
  have HB2 := veil (HB1.out.trans (hb2.mono HB1.out.size))
  clear hv hb2 HB HU HB1
  go_wp2_with fail
  refine HC.out.mono ?_
  rintro e w3 ⟨rfl, hb3⟩
  have HB3 := veil (HB2.out.trans (hb3.mono HB2.out.size))
  clear hb3
  go_wp2_with fail
  go_ret
  exact ⟨rfl, HB3.out⟩

end Go.Proofs.YtagbaimfigljiaaGreatDoor.moduleUses
namespace Go.Proofs.YtagbaimfigljiaaGreatDoor.moduleUses

theorem and_t {a b : Bool} (h : a = true) (g : b = true) : (a && b) = true := by rw [h, g]; rfl
theorem q0 : (Rows.moduleUsesRow.wf (OpenSpec.ofChange Rows.moduleUsesSpec)) = true := by kernel_rfl
theorem q1 : (laidOutB Tryz.prog) = true := by kernel_rfl
theorem q2 : (mapsRowed Tryz.prog) = true := by kernel_rfl
theorem q3 : (Tryz.f3.params.all (Tryz.prog.readableRec ·)) = true := by kernel_rfl
theorem q4 : (namedTie Tryz.prog Rows.moduleUsesRow.named Rows.moduleUsesSpec.vars) = true := by kernel_rfl
theorem q5 : ((Rows.moduleUsesRow.stops == [])) = true := by kernel_rfl
theorem q6 : ((Tryz.prog.stops == [])) = true := by kernel_rfl
theorem q7 : ((Rows.moduleUsesRow.knobs == [])) = true := by kernel_rfl
theorem q8 : ((Tryz.prog.stopKnobs == [])) = true := by kernel_rfl
theorem q9 : ((Rows.moduleUsesRow.inPlace == Tryz.prog.inPlace 3)) = true := by kernel_rfl
theorem q10 : ((Rows.moduleUsesRow.unfollowed == Tryz.prog.unfollowed 3)) = true := by kernel_rfl
theorem q11 : ((Rows.moduleUsesRow.recurses == Tryz.prog.recurses 3)) = true := by kernel_rfl
theorem q12 : ((Rows.moduleUsesRow.named == Tryz.prog.varsNamed 3)) = true := by kernel_rfl
theorem q13 : ((Rows.moduleUsesRow.maps == (Tryz.f3.params.toList ++ Rows.moduleUsesSpec.plain.varTypes Tryz.prog).any (Tryz.prog.mapsRec ·))) = true := by kernel_rfl
theorem q14 : ((Rows.moduleUsesRow.ifaces == (Tryz.f3.params.toList ++ Rows.moduleUsesSpec.plain.varTypes Tryz.prog).any (Tryz.prog.ifacesRec ·))) = true := by kernel_rfl
theorem q15 : ((Rows.moduleUsesRow.mapsOut == Tryz.prog.mapsAmong Tryz.f3.resultTypes.toList)) = true := by kernel_rfl
theorem q16 : ((Rows.moduleUsesRow.loops == (Tryz.f3.params.toList ++ Rows.moduleUsesSpec.plain.varTypes Tryz.prog).any (Tryz.prog.loopsFrom ·))) = true := by kernel_rfl
theorem q17 : ((Rows.moduleUsesRow.wideKeys == (Tryz.f3.params.toList ++ Rows.moduleUsesSpec.plain.varTypes Tryz.prog ++ Tryz.f3.resultTypes.toList).any (Tryz.prog.wideKeysFrom ·))) = true := by kernel_rfl
theorem q18 : (Rows.moduleUsesSpec.vars.all (Tryz.prog.varReadable ·)) = true := by kernel_rfl
theorem q19 : (Tryz.f3.resultTypes.all (fun t => Tryz.prog.readableRec t && decide (t < Tryz.prog.types.size))) = true := by kernel_rfl
theorem q20 : ((Rows.moduleUsesRow.ifacesOut == Tryz.f3.resultTypes.toList.any (Tryz.prog.ifacesRec ·))) = true := by kernel_rfl
theorem q21 : ((Rows.moduleUsesRow.loopsOut == Tryz.f3.resultTypes.toList.any (Tryz.prog.loopsFrom ·))) = true := by kernel_rfl
theorem q22 : ((Rows.moduleUsesRow.plainKeys == Tryz.prog.plainKeys)) = true := by kernel_rfl
theorem q23 : (Rows.moduleUsesRow.shortTexts.isNone) = true := by kernel_rfl
theorem q24 : (Tryz.prog.stopsHeard) = true := by kernel_rfl
theorem q25 : (Tryz.prog.mayEnter) = true := by kernel_rfl
theorem q26 : ((Rows.moduleUsesRow.lifted == Tryz.prog.liftsFinal)) = true := by kernel_rfl
theorem q27 : ((Tryz.prog.make == some Rows.moduleUsesRow.make)) = true := by kernel_rfl
theorem q28 : ((Rows.moduleUsesRow.kinds == (if Rows.moduleUsesRow.domain.isEmpty then [] else Tryz.f3.params.toList.map fun t => match Tryz.prog.underlying t with | some (.int k) => some k | _ => none))) = true := by kernel_rfl
theorem q29 : ((Rows.moduleUsesRow.pinned == Rows.moduleUsesRow.pinnedBy)) = true := by kernel_rfl
theorem q30 : ((Rows.moduleUsesRow.veiled == (Tryz.f3.params.toList ++ Rows.moduleUsesSpec.plain.varTypes Tryz.prog ++ Tryz.f3.resultTypes.toList).any (Tryz.prog.veiledRec ·))) = true := by kernel_rfl
theorem q31 : (Rows.moduleUsesRow.veiledFits Tryz.prog Tryz.f3.params.toList (Tryz.f3.params.toList ++ Rows.moduleUsesSpec.plain.varTypes Tryz.prog ++ Tryz.f3.resultTypes.toList)) = true := by kernel_rfl
set_option maxRecDepth 1000000 in
theorem closed : joinedFacts Tryz.prog 3 Tryz.f3 Rows.moduleUsesSpec Rows.moduleUsesRow = true := by
  unfold joinedFacts
  exact (and_t (and_t (and_t (and_t (and_t (and_t (and_t (and_t (and_t (and_t (and_t (and_t (and_t (and_t (and_t (and_t (and_t (and_t (and_t (and_t (and_t (and_t (and_t (and_t (and_t (and_t (and_t (and_t (and_t (and_t (and_t q0 q1) q2) q3) q4) q5) q6) q7) q8) q9) q10) q11) q12) q13) q14) q15) q16) q17) q18) q19) q20) q21) q22) q23) q24) q25) q26) q27) q28) q29) q30) q31)
theorem named : Tryz.prog.funcNamed "scullery/scullerylaw.ModuleUses" = some 3 := by kernel_rfl
theorem inst : Tryz.f3.isInstance Tryz.prog Rows.moduleUsesRow.origin Rows.moduleUsesRow.targs := of_decide_eq_true (by kernel_rfl)
theorem wrap : Tryz.f3.isWrapper Tryz.prog Rows.moduleUsesRow.wrapper Rows.moduleUsesRow.mainSum := by unfold Func.isWrapper; first | (rw [if_pos (by decide +kernel)]; kernel_rfl) | (rw [if_neg (by decide +kernel)]; exact ⟨rfl, rfl⟩)
theorem byText : Rows.moduleUsesRow.wfByText (OpenSpec.ofChange Rows.moduleUsesSpec) = true := by kernel_rfl
theorem mainOk : Tryz.prog.mainIs = some (true, "89924557b17f9ccb6b44d3a0bc7c3e5a3c527105e4d42c0ac174a6be0c85f341".toList) := by kernel_rfl
theorem looksOk : true = Tryz.prog.looks [] := by kernel_rfl
theorem standIns : ([9].all fun u => !Tryz.prog.wantsStandIn u) = true := by kernel_rfl
theorem goesOk : false = Rows.moduleUsesRow.goesBy Tryz.prog := by kernel_rfl
theorem laidBut : laidOutB Tryz.prog = true := q1
end Go.Proofs.YtagbaimfigljiaaGreatDoor.moduleUses
