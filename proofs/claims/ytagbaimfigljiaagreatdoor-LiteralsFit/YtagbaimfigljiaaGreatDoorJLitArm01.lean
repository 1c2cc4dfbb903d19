import Derived.Test.YtagbaimfigljiaaGreatDoorJLitBase
namespace Go.Proofs.YtagbaimfigljiaaGreatDoor
open Go.RowKit
set_option maxRecDepth 100000

set_option maxHeartbeats 40000000 in
theorem litArm01 (n : Int) (HP : Hid (∀ w : World, Calls Tryz.prog 19 #[.int .i64 n, .int .i64 2] w fun e w' => e = .returned (.int .i64 (0 : Nat)) ∧ w = w')) (w : World) : Calls Tryz.prog 6 #[.int .i64 n, .bool true] w fun e w' => e = .returned (.bool true) ∧ Below w.heap.size w w' := by
  obtain ⟨W0, HW0, HK0, HKb, HSz⟩ : ∃ W0, Hid ((w.alloc (.cells #[.string ⟨#[105, 110, 116]⟩, .string ⟨#[116, 101, 120, 116]⟩] 9)).alloc (.cells #[.string ⟨#[55]⟩, .string ⟨#[34, 120, 34]⟩] 9) = W0) ∧ Hid (LitS w.heap.size (w.heap.size + 1) 0 1 ⟨#[105, 110, 116]⟩ ⟨#[34, 120, 34]⟩ w W0.drew) ∧ Hid (LitS w.heap.size (w.heap.size + 1) 0 1 ⟨#[105, 110, 116]⟩ ⟨#[34, 120, 34]⟩ w (W0.alloc (.cells #[.slice none 0 0, .slice none 0 0] 30)).drew) ∧ Hid (w.heap.size + 2 ≤ W0.heap.size) := ⟨_, rfl, LitS.later (litS_new _ (by rfl) (by rfl)) (Below.refl _ _).drew, LitS.later (litS_new _ (by rfl) (by rfl)) ((Below.refl _ _).alloc (Nat.le_refl _) _).drew, by show _ ≤ _; simp⟩
  obtain ⟨hl0, ha⟩ := lit_plain 0 (by omega) 1 (by omega)
  have hl : (chkBads (litText (baseK 0) (litOf 1)) []).length = 4 := hl0
  rw [List.all_eq_true] at ha
  have HL := veil hl
  have HAll := veil ha
  clear hl ha hl0
  have HC : Hid (∀ W, Calls Tryz.prog 18 #[.string (litText (baseK 0) (litOf 1))] W fun e w' => ∃ x1 x2 x3 y1 y2 y3 d, e = .returned (.tuple #[.agg #[.slice x1 x2 x3, .slice y1 y2 y3], d, .bool true]) ∧ FcIs (fun b => W.heap.size ≤ b ∧ b < w'.heap.size) w' (chkFace (litText (baseK 0) (litOf 1)) []) (.agg #[.slice x1 x2 x3, .slice y1 y2 y3]) ∧ SlAt (fun b => W.heap.size ≤ b ∧ b < w'.heap.size) (DgAt w') 2 (chkBads (litText (baseK 0) (litOf 1)) []) d ∧ Below W.heap.size W w') := fun W => checked_any _ W
  have HCa : Hid (Calls Tryz.prog 18 #[.string (litText (baseK 0) (litOf 1))] (W0.alloc (.cells #[.slice none 0 0, .slice none 0 0] 30)).drew fun e w' => ∃ x1 x2 x3 y1 y2 y3 d, e = .returned (.tuple #[.agg #[.slice x1 x2 x3, .slice y1 y2 y3], d, .bool true]) ∧ SlAt (fun b => W0.heap.size < b ∧ b < w'.heap.size) (DgAt w') 2 (chkBads (litText (baseK 0) (litOf 1)) []) d ∧ Below (W0.alloc (.cells #[.slice none 0 0, .slice none 0 0] 30)).drew.heap.size (W0.alloc (.cells #[.slice none 0 0, .slice none 0 0] 30)).drew w' ∧ w'.cell? ⟨W0.heap.size, 0, none⟩ = some (.slice none 0 0) ∧ w'.cell? ⟨W0.heap.size, 1, none⟩ = some (.slice none 0 0) ∧ w'.frozen? ⟨W0.heap.size, 0, none⟩ = false ∧ w'.frozen? ⟨W0.heap.size, 1, none⟩ = false) := by
    refine (HC.out _).mono ?_
    rintro e w' ⟨x1, x2, x3, y1, y2, y3, d, rfl, _, hd, hb⟩
    exact ⟨x1, x2, x3, y1, y2, y3, d, rfl, dgSl_keep ⟨fun _ _ => rfl, fun b h => ⟨by have h1 : (W0.alloc (.cells #[.slice none 0 0, .slice none 0 0] 30)).drew.heap.size ≤ b := h.1; simp at h1; omega, h.2⟩⟩ hd, hb, box_later (W := W0) (t := 30) ⟨hb.os, hb.tape, hb.output, hb.size, hb.block⟩⟩
  generalize chkFace (litText (baseK 0) (litOf 1)) [] = cf at *
  generalize chkBads (litText (baseK 0) (litOf 1)) [] = ds at *
  go_enter Tryz.func6, Tryz.ntmps6
  go_wp2_with fail
  refine (HP.out _).mono ?_
  rintro e w1 ⟨rfl, rfl⟩
  go_wp2_with fail
  rw [HW0.out]
  simp only [List.append]
  clear HW0 HP
  have hW0s : w.heap.size + 2 ≤ W0.heap.size := HSz.out
  go_region_held3 (fun W => Below w.heap.size w W ∧ W.cell? ⟨w.heap.size, 0, none⟩ = some (.string ⟨#[105, 110, 116]⟩) ∧ W.cell? ⟨w.heap.size + 1, 1, none⟩ = some (.string ⟨#[34, 120, 34]⟩)) (first | exact LitS.later HK0.out hb2 | exact HK0.out | exact LitS.later (LitS.later HK0.out hb2) ((Below.refl _ _).alloc (Nat.le_refl _) _) | exact HKb.out | exact LitS.later HKb.out hb3 | exact LitS.sets (LitS.later HKb.out hb3) (by omega) (by omega) (by omega) | exact LitS.later (LitS.later HK0.out hb2) ((((Below.refl _ _).alloc (Nat.le_refl _) _).setCell (Nat.le_refl _) _).setCell (Nat.le_refl _) _))
    (first | (go_at_call 18; refine HCa.out.mono ?_; rintro e w2 ⟨x1, x2, x3, y1, y2, y3, d, rfl, hd, hb3, g0, g1, g2, g3⟩) | (go_at_call 18; refine (HC.out _).mono ?_; rintro e w2 ⟨x1, x2, x3, y1, y2, y3, d, rfl, _, hd, hb2⟩))
  all_goals
    rename_i hHeld
    obtain ⟨Wf, HE, hbf, hdf⟩ := end_dg hHeld.1 hd (by first | exact keeps_box | exact keeps_sets)
    rw [HE.out]
    obtain ⟨da, dc, rfl⟩ := hdf.is
    have HD := veil hdf
    have HBw := veil hbf
    have hlen := HL.out
    clear hHeld hd hdf hbf HE HC HCa HK0 HKb
    generalize hn : ds.length = m at *
    have Hn := veil hn
    clear hn HL
    subst hlen
    go_wp2_with fail
    go_loopw [99] (fun i wr => ∃ j : Nat, j ≤ ds.length ∧ i = .int .i64 j ∧ Below w.heap.size w wr ∧ Below Wf.heap.size Wf wr) (fun i _ => ds.length - (intOf i).toNat)
    case atStart => exact ⟨0, Nat.zero_le _, rfl, HBw.out, Below.refl _ _⟩
    case round =>
      obtain ⟨j, hj, rfl, hb0, hb9⟩ := hrel
      have HB0 := veil hb0
      have HB9 := veil hb9
      by_cases hlt : j < ds.length
      · have hlt' : (j : Int) < (4 : Int) := by have := Hn.out; omega
        have hj0 : (0 : Int) ≤ (j : Int) := by omega
        obtain ⟨he, b, off, rfl, hb, ⟨a0, _⟩, a1⟩ := HD.out.at hlt
        have d0 := (hb9.cell (p := ⟨b, off + j * 2, none⟩) hb).trans a0
        have d1 := (hb9.cell (p := ⟨b, off + j * 2 + 1, none⟩) hb).trans a1
        have hc : ds[j].code = 8 := by have := HAll.out _ (List.getElem_mem hlt); simpa using this
        rw [hc] at d1
        clear he hb0 hb9 hc HD HAll a0 a1
        generalize ds[j].wh = x at *
        go_wp2_with fail
        exact ⟨⟨j + 1, by omega, by go_num, HB0.out.alloc (Nat.le_trans (by omega) HB0.out.size) _, HB9.out.alloc HB9.out.size _⟩, by simp [intOf]; omega⟩
      · have hnl : ¬ (j : Int) < (4 : Int) := by have := Hn.out; omega
        clear hb0 hb9 HD HAll
        go_wp2_with fail
        go_ret
        exact ⟨rfl, HB0.out⟩

end Go.Proofs.YtagbaimfigljiaaGreatDoor
