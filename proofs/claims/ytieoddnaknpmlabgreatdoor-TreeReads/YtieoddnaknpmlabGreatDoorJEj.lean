/- What the reference's TokensOf answers, at every text: the error's number and the tokens, by the same plain functions as token.Cut. -/
import Derived.Test.YtieoddnaknpmlabGreatDoorJE
import Derived.Test.YtieoddnaknpmlabGreatDoorJC
namespace Go.Proofs.YtieoddnaknpmlabGreatDoor
open Go.RowKit
set_option maxRecDepth 100000

theorem tokRow_one (W : World) (kd : Int) (tx : ByteArray) (htx : tx.size ≤ maxLen) {n : Nat} (hn : n = W.heap.size) : TokRow (W.alloc (.cells #[.int .i64 kd, .string tx] 90)) (.slice (some ⟨n, 0, none⟩) 1 1) [(kd, tx)] := by
  refine Or.inr ⟨n, 0, 1, rfl, by simp; omega, by unfold maxLen; simp, fun i hi => ?_⟩
  have hi0 : i = 0 := by simpa using hi
  subst hi0
  refine ⟨?_, ?_, htx⟩
  · rw [World.cell?_alloc_at _ _ _ _ hn]; rfl
  · rw [World.cell?_alloc_at _ _ _ _ hn]; rfl

theorem box_cells {w w1 : World} {x y : Value} {c : Array Value} {t : TypeId} (hb : Below ((w.alloc (.cells #[x, y] 90)).alloc (.cells c t)).heap.size ((w.alloc (.cells #[x, y] 90)).alloc (.cells c t)) w1) :
    w1.cell? ⟨w.heap.size, 0, none⟩ = some x ∧ w1.cell? ⟨w.heap.size, 1, none⟩ = some y ∧ Below w.heap.size w w1 := by
  obtain ⟨c0, c1, _, _, _, hbb⟩ := tok_cells hb
  exact ⟨c0, c1, hbb⟩

theorem cutErr_stop {s : ByteArray} {k : Nat} {done : List (Int × ByteArray)} (hs : s.size ≤ 1500) (h : cutAt s 0 = (cutAt s k).map (done ++ ·)) (h' : cutAt s k = none) : cutErr s = 4 := by
  unfold cutErr
  rw [if_neg (by omega), h, h']
  rfl
theorem cutToks_stop {s : ByteArray} {k : Nat} {done : List (Int × ByteArray)} (hs : s.size ≤ 1500) (h : cutAt s 0 = (cutAt s k).map (done ++ ·)) (h' : cutAt s k = none) : cutToks s = [] := by
  unfold cutToks
  rw [if_neg (by omega), h, h']
  rfl

theorem word_end {s : ByteArray} {k m : Nat} (hk : k < s.size) (hw : isWordB (byteAt s k) = true) (h1 : k + 1 ≤ m) (h2 : m ≤ s.size) (hall : ∀ j, k + 1 ≤ j → j < m → isWordB (byteAt s j) = true) (hend : m < s.size → isWordB (byteAt s m) = false) : runEnd isWordB s k = m :=
  (runTo_eq (by omega) (runTo_pred (p := fun j => isWordB (byteAt s j)) ⟨h1, h2, hall, hend⟩ hw)).symm

set_option maxHeartbeats 8000000 in
set_option maxRecDepth 100000 in
theorem of_any (s : ByteArray) (hs : s.size ≤ 1500) (w : World) :
    Calls Tryz.prog 13 #[.string s] w fun e w' => ∃ v, e = .returned (.tuple #[v, .int .i64 (cutErr s)]) ∧ TokRow w' v (cutToks s) ∧ Below w.heap.size w w' := by
  have h1500 : ¬ (1500 : Int) < (s.size : Int) := by omega
  have HM : Hid (s.size ≤ maxLen) := by show _ ≤ _; unfold maxLen; omega
  obtain ⟨i0, hi, hz0, hz1, hz2⟩ := info_parts infoTok
  go_enter Tryz.func13, Tryz.ntmps13
  go_wp2
  go_loopw [4, 5] (fun v i wr => ∃ (done : List (Int × ByteArray)) (k : Nat), k ≤ s.size ∧ i = .int .i64 k ∧ wr.ownsRow w.heap.size 90 2 v done.length (tokCells done) ∧
      Below w.heap.size w wr ∧ cutAt s 0 = (cutAt s k).map (done ++ ·) ∧ done.length ≤ k ∧ ∀ t ∈ done, t.2.size ≤ s.size)
    (fun _ i _ => s.size - (intOf i).toNat)
  case atStart => exact ⟨[], 0, Nat.zero_le _, rfl, World.ownsRow_nil _ _ _ _, Below.refl _ _, by simp, by simp, by simp⟩
  case round =>
    obtain ⟨done, k, hk, rfl, hown, hbl, hcut, hdl, hts⟩ := hrel
    have HCut := veil hcut
    have HTS := veil hts
    clear hcut hts
    by_cases hlt : k < s.size
    · have HB := veil (byteAt_get s k hlt)
      have hr0 := byteAt_range s k
      have hbd : 0 ≤ ((s[k]'hlt).toNat : Int) ∧ ((s[k]'hlt).toNat : Int) ≤ 255 := by rw [HB.out]; exact hr0
      obtain ⟨hbd1, hbd2⟩ := hbd
      clear hr0
      by_cases h32 : (((s[k]'hlt).toNat : Int) == 32) = true
      · have HC' : Hid (cutAt s 0 = (cutAt s (k + 1)).map (done ++ ·)) := by
          show _ = _
          rw [HCut.out, cutAt_blank hlt (by rw [← HB.out]; simpa using h32)]
        go_wp2
        go_roundw
        case rel => exact ⟨done, k + 1, by omega, by go_num, hown, hbl, HC'.out, by omega, HTS.out⟩
        case measure => simp [intOf]; omega
      · have h32' : (((s[k]'hlt).toNat : Int) == 32) = false := by simpa using h32
        have hnb : byteAt s k ≠ 32 := by rw [← HB.out]; simpa using h32
        clear h32
        have HOn := veil (@cut_on s k hlt hnb)
        have HStop := veil (@cut_stop s k hlt hnb)
        clear hnb
        by_cases h34 : (((s[k]'hlt).toNat : Int) == 34) = true
        · have hq : byteAt s k = 34 := by rw [← HB.out]; simpa using h34
          have HO := veil (@ans_open s k (runEnd notQuote s (k + 1)) hq rfl)
          have HQ := veil (@ans_quote s k (runEnd notQuote s (k + 1)) hq rfl)
          clear hq
          go_wp2
          go_loop [6] (fun t => ∃ m : Nat, k + 1 ≤ m ∧ m ≤ s.size ∧ t = .int .i64 m ∧ ∀ j, k + 1 ≤ j → j < m → notQuote (byteAt s j) = true) (fun t => s.size - (intOf t).toNat)
          case atStart => exact ⟨k + 1, Nat.le_refl _, by omega, by go_num, fun j h1 h2 => absurd h2 (by omega)⟩
          case round =>
            obtain ⟨m, hm1, hm2, rfl, hall⟩ := hrel
            have HA := veil hall
            clear hall
            by_cases hlm : m < s.size
            · have HBm := veil (byteAt_get s m hlm)
              by_cases hq : (((s[m]'hlm).toNat : Int) != 34) = true
              · have HN : Hid (∀ j, k + 1 ≤ j → j < m + 1 → notQuote (byteAt s j) = true) := fun j h1 h2 => by
                  by_cases e : j = m
                  · rw [e, ← HBm.out]; exact hq
                  · exact HA.out j h1 (by omega)
                go_wp2
                go_round
                case rel => exact ⟨m + 1, by omega, by omega, by go_num, HN.out⟩
                case measure => simp [intOf]; omega
              · have hq' : (((s[m]'hlm).toNat : Int) != 34) = false := by simpa using hq
                have hms : ((m : Int) == (s.size : Int)) = false := by rw [beq_eq_false_iff_ne]; omega
                have hend : runEnd notQuote s (k + 1) = m := (runTo_eq (by omega) ⟨hm1, hm2, HA.out, fun _ => by show notQuote (byteAt s m) = false; rw [← HBm.out]; exact hq'⟩).symm
                have hans := HQ.out (by rw [hend]; omega)
                rw [hend] at hans
                rw [hans] at HOn HStop
                clear HO HQ hend hans hq HA
                by_cases hf : faultOf (3, s.extract (k + 1) m) = 0
                · have hf' : (checkAll [(3, s.extract (k + 1) m)] != 0) = false := by simp [checkAll, faults, hf]
                  obtain ⟨hkE, hcE⟩ := HOn.out hf
                  have HCE := veil (cut_snoc HCut.out hcE)
                  clear HOn HStop HCut hcE hf
                  go_wp2_with fail
                  refine (fault_any _ [(3, s.extract (k + 1) m)] _ (tokRow_one _ _ _ (Nat.le_trans (size_extract_le _ _ _) HM.out) (by simp))).mono ?_
                  rintro e w2 ⟨rfl, hb2⟩
                  obtain ⟨c0', c1', hba⟩ := box_cells hb2
                  have hown2 := ownsRow_below hown hba
                  have HL2 := veil (hbl.trans (hba.mono hbl.size))
                  have hsz2 : w.heap.size ≤ w2.heap.size := Nat.le_trans hbl.size hba.size
                  clear hb2 hba hown hbl
                  go_wp2_with (at_builtin; refine wpList_append_own _ rfl _ _ 41 rfl w.heap.size 90 i0 (.agg #[.int .i64 0, .string ⟨#[]⟩]) 2 24 Tryz.underlying41 hi hz0 hz1 hz2 rfl (by decide) _ _ _ rfl (hown2.alloc _) ⟨w2.heap.size, 0, none⟩ 1 1 [.int .i64 3, .string (s.extract (k + 1) m)] rfl rfl ?c1 ?c2 ?c3 ?c4 ?c5 ?_)
                  case c1 => exact cell_two_new _ _ _ _
                  case c2 =>
                    intro u hu
                    simp at hu
                    rcases hu with rfl | rfl <;> rfl
                  case c3 => unfold maxLen; omega
                  case c4 => omega
                  case c5 => simp; omega
                  intro v' w3 hown3 hgrow _
                  have hrow := ownsRow_block hown2
                  have HL3 := veil ((HL2.out.alloc (by omega) (.cells #[.int .i64 3, .string (s.extract (k + 1) m)] 90)).grown hgrow (by simp; omega) (fun j hj => by have := hrow j hj; omega))
                  have HO3 : Hid (w3.ownsRow w.heap.size 90 2 v' (done ++ [(3, s.extract (k + 1) m)]).length (tokCells (done ++ [(3, s.extract (k + 1) m)]))) := by
                    show w3.ownsRow _ _ _ _ _ _
                    rw [tokCells_snoc, List.length_append]
                    exact hown3
                  clear hown3 hgrow hrow hown2 HL2 hsz2 c0' c1'
                  go_wp2
                  go_roundw
                  case rel =>
                    refine ⟨done ++ [(3, s.extract (k + 1) m)], m + 1, by omega, by go_num, HO3.out, HL3.out, HCE.out, by simp; omega, ?_⟩
                    intro t ht
                    rcases List.mem_append.1 ht with h | h
                    · exact HTS.out t h
                    · simp at h; rw [h]; exact size_extract_le _ _ _
                  case measure => simp [intOf]; omega
                · have hf' : (checkAll [(3, s.extract (k + 1) m)] != 0) = true := by simp [checkAll, faults, hf]
                  have HE := veil (cutErr_stop hs HCut.out (HStop.out hf))
                  have HT := veil (cutToks_stop hs HCut.out (HStop.out hf))
                  clear HOn HStop HCut hf
                  go_wp2_with fail
                  refine (fault_any _ [(3, s.extract (k + 1) m)] _ (tokRow_one _ _ _ (Nat.le_trans (size_extract_le _ _ _) HM.out) (by simp))).mono ?_
                  rintro e w2 ⟨rfl, hb2⟩
                  obtain ⟨c0', c1', hba⟩ := box_cells hb2
                  have HL2 := veil (hbl.trans (hba.mono hbl.size))
                  clear hb2 hba hown hbl
                  go_wp2
                  go_ret2
                  exact ⟨_, by rw [HE.out]; rfl, by rw [HT.out]; exact Or.inl ⟨rfl, _, _, rfl⟩, HL2.out⟩
            · have hms : ((m : Int) == (s.size : Int)) = true := by rw [beq_iff_eq]; omega
              have hend : runEnd notQuote s (k + 1) = m := (runTo_eq (by omega) ⟨hm1, hm2, HA.out, fun h => absurd h hlm⟩).symm
              have hans := HO.out (by rw [hend]; omega)
              rw [hans] at HStop
              have HE := veil (cutErr_stop hs HCut.out (HStop.out (by simp [faultOf, tokFault])))
              have HT := veil (cutToks_stop hs HCut.out (HStop.out (by simp [faultOf, tokFault])))
              clear HO HQ HOn HStop HCut hend hans HA
              go_wp2
              go_ret2
              exact ⟨_, by rw [HE.out]; rfl, by rw [HT.out]; exact Or.inl ⟨rfl, _, _, rfl⟩, hbl.alloc hbl.size _⟩
        · have h34' : (((s[k]'hlt).toNat : Int) == 34) = false := by simpa using h34
          have hnq : byteAt s k ≠ 34 := by rw [← HB.out]; simpa using h34
          clear h34
          by_cases hL : isLetter (byteAt s k) = true
          · have hl : isIn ((s[k]'hlt).toNat : Int) 97 122 = true := by rw [HB.out]; exact hL
            have h57 : ¬ ((s[k]'hlt).toNat : Int) ≤ 57 := by rw [HB.out]; simp [isLetter] at hL; omega
            have HW := veil (@ans_word s k (runEnd isWordB s k) hnq hL rfl)
            have hwb : isWordB (byteAt s k) = true := by simp [isWordB, hL]
            have HWB := veil hwb
            clear hL hnq hwb
            go_wp2_with (go_at_call 43; refine (in_any _ _ _ _).mono ?_; rintro e w' ⟨rfl, rfl⟩)
            go_loop [6] (fun t => ∃ m : Nat, k + 1 ≤ m ∧ m ≤ s.size ∧ t = .int .i64 m ∧ ∀ j, k + 1 ≤ j → j < m → isWordB (byteAt s j) = true) (fun t => s.size - (intOf t).toNat)
            case atStart => exact ⟨k + 1, Nat.le_refl _, by omega, by go_num, fun j h1 h2 => absurd h2 (by omega)⟩
            case round =>
              obtain ⟨m, hm1, hm2, rfl, hall⟩ := hrel
              have HA := veil hall
              clear hall
              by_cases hlm : m < s.size
              · have HBm := veil (byteAt_get s m hlm)
                have hrm := byteAt_range s m
                have hbm : 0 ≤ ((s[m]'hlm).toNat : Int) ∧ ((s[m]'hlm).toNat : Int) ≤ 255 := by rw [HBm.out]; exact hrm
                obtain ⟨hbm1, hbm2⟩ := hbm
                clear hrm
                have HN : Hid (isWordB ((s[m]'hlm).toNat : Int) = true → ∀ j, k + 1 ≤ j → j < m + 1 → isWordB (byteAt s j) = true) := fun h j h1 h2 => by
                  by_cases e : j = m
                  · rw [e, ← HBm.out]; exact h
                  · exact HA.out j h1 (by omega)
                cases hm97 : isIn ((s[m]'hlm).toNat : Int) 97 122
                · cases hm48 : isIn ((s[m]'hlm).toNat : Int) 48 57
                  · have hend : runEnd isWordB s k = m := word_end hlt HWB.out hm1 hm2 HA.out (fun _ => by rw [← HBm.out, isWordB, ← isLetter_in, ← isDigit_in, hm97, hm48]; rfl)
                    have hans := HW.out
                    rw [hend] at hans
                    rw [hans] at HOn HStop
                    clear HW hend hans HA HN
                    by_cases hf : faultOf (1, s.extract k m) = 0
                    · have hf' : (checkAll [(1, s.extract k m)] != 0) = false := by simp [checkAll, faults, hf]
                      obtain ⟨hkE, hcE⟩ := HOn.out hf
                      have HCE := veil (cut_snoc HCut.out hcE)
                      clear HOn HStop HCut hcE hf
                      go_wp2_with (go_at_call 43; refine (in_any _ _ _ _).mono ?_; rintro e w' ⟨rfl, rfl⟩)
                      go_wp2_with fail
                      refine (fault_any _ [(1, s.extract k m)] _ (tokRow_one _ _ _ (Nat.le_trans (size_extract_le _ _ _) HM.out) (by simp))).mono ?_
                      rintro e w2 ⟨rfl, hb2⟩
                      obtain ⟨c0', c1', hba⟩ := box_cells hb2
                      have hown2 := ownsRow_below hown hba
                      have HL2 := veil (hbl.trans (hba.mono hbl.size))
                      have hsz2 : w.heap.size ≤ w2.heap.size := Nat.le_trans hbl.size hba.size
                      clear hb2 hba hown hbl
                      go_wp2_with (at_builtin; refine wpList_append_own _ rfl _ _ 41 rfl w.heap.size 90 i0 (.agg #[.int .i64 0, .string ⟨#[]⟩]) 2 24 Tryz.underlying41 hi hz0 hz1 hz2 rfl (by decide) _ _ _ rfl (hown2.alloc _) ⟨w2.heap.size, 0, none⟩ 1 1 [.int .i64 1, .string (s.extract k m)] rfl rfl ?c1 ?c2 ?c3 ?c4 ?c5 ?_)
                      case c1 => exact cell_two_new _ _ _ _
                      case c2 =>
                        intro u hu
                        simp at hu
                        rcases hu with rfl | rfl <;> rfl
                      case c3 => unfold maxLen; omega
                      case c4 => omega
                      case c5 => simp; omega
                      intro v' w3 hown3 hgrow _
                      have hrow := ownsRow_block hown2
                      have HL3 := veil ((HL2.out.alloc (by omega) (.cells #[.int .i64 1, .string (s.extract k m)] 90)).grown hgrow (by simp; omega) (fun j hj => by have := hrow j hj; omega))
                      have HO3 : Hid (w3.ownsRow w.heap.size 90 2 v' (done ++ [(1, s.extract k m)]).length (tokCells (done ++ [(1, s.extract k m)]))) := by
                        show w3.ownsRow _ _ _ _ _ _
                        rw [tokCells_snoc, List.length_append]
                        exact hown3
                      clear hown3 hgrow hrow hown2 HL2 hsz2 c0' c1'
                      go_wp2
                      go_roundw
                      case rel =>
                        refine ⟨done ++ [(1, s.extract k m)], m, by omega, rfl, HO3.out, HL3.out, HCE.out, by simp; omega, ?_⟩
                        intro t ht
                        rcases List.mem_append.1 ht with h | h
                        · exact HTS.out t h
                        · simp at h; rw [h]; exact size_extract_le _ _ _
                      case measure => simp [intOf]; omega
                    · have hf' : (checkAll [(1, s.extract k m)] != 0) = true := by simp [checkAll, faults, hf]
                      have HE := veil (cutErr_stop hs HCut.out (HStop.out hf))
                      have HT := veil (cutToks_stop hs HCut.out (HStop.out hf))
                      clear HOn HStop HCut hf
                      go_wp2_with (go_at_call 43; refine (in_any _ _ _ _).mono ?_; rintro e w' ⟨rfl, rfl⟩)
                      go_wp2_with fail
                      refine (fault_any _ [(1, s.extract k m)] _ (tokRow_one _ _ _ (Nat.le_trans (size_extract_le _ _ _) HM.out) (by simp))).mono ?_
                      rintro e w2 ⟨rfl, hb2⟩
                      obtain ⟨c0', c1', hba⟩ := box_cells hb2
                      have HL2 := veil (hbl.trans (hba.mono hbl.size))
                      clear hb2 hba hown hbl
                      go_wp2
                      go_ret2
                      exact ⟨_, by rw [HE.out]; rfl, by rw [HT.out]; exact Or.inl ⟨rfl, _, _, rfl⟩, HL2.out⟩
                  · have HM2 := veil (HN.out (by rw [isWordB, ← isLetter_in, ← isDigit_in, hm97, hm48]; rfl))
                    go_wp2_with (go_at_call 43; refine (in_any _ _ _ _).mono ?_; rintro e w' ⟨rfl, rfl⟩)
                    go_round
                    case rel => exact ⟨m + 1, by omega, by omega, by go_num, HM2.out⟩
                    case measure => simp [intOf]; omega
                · have HM2 := veil (HN.out (by rw [isWordB, ← isLetter_in, hm97]; rfl))
                  go_wp2_with (go_at_call 43; refine (in_any _ _ _ _).mono ?_; rintro e w' ⟨rfl, rfl⟩)
                  go_round
                  case rel => exact ⟨m + 1, by omega, by omega, by go_num, HM2.out⟩
                  case measure => simp [intOf]; omega
              · have hend : runEnd isWordB s k = m := word_end hlt HWB.out hm1 hm2 HA.out (fun h => absurd h hlm)
                have hans := HW.out
                rw [hend] at hans
                rw [hans] at HOn HStop
                clear HW hend hans HA
                by_cases hf : faultOf (1, s.extract k m) = 0
                · have hf' : (checkAll [(1, s.extract k m)] != 0) = false := by simp [checkAll, faults, hf]
                  obtain ⟨hkE, hcE⟩ := HOn.out hf
                  have HCE := veil (cut_snoc HCut.out hcE)
                  clear HOn HStop HCut hcE hf
                  go_wp2_with fail
                  refine (fault_any _ [(1, s.extract k m)] _ (tokRow_one _ _ _ (Nat.le_trans (size_extract_le _ _ _) HM.out) (by simp))).mono ?_
                  rintro e w2 ⟨rfl, hb2⟩
                  obtain ⟨c0', c1', hba⟩ := box_cells hb2
                  have hown2 := ownsRow_below hown hba
                  have HL2 := veil (hbl.trans (hba.mono hbl.size))
                  have hsz2 : w.heap.size ≤ w2.heap.size := Nat.le_trans hbl.size hba.size
                  clear hb2 hba hown hbl
                  go_wp2_with (at_builtin; refine wpList_append_own _ rfl _ _ 41 rfl w.heap.size 90 i0 (.agg #[.int .i64 0, .string ⟨#[]⟩]) 2 24 Tryz.underlying41 hi hz0 hz1 hz2 rfl (by decide) _ _ _ rfl (hown2.alloc _) ⟨w2.heap.size, 0, none⟩ 1 1 [.int .i64 1, .string (s.extract k m)] rfl rfl ?c1 ?c2 ?c3 ?c4 ?c5 ?_)
                  case c1 => exact cell_two_new _ _ _ _
                  case c2 =>
                    intro u hu
                    simp at hu
                    rcases hu with rfl | rfl <;> rfl
                  case c3 => unfold maxLen; omega
                  case c4 => omega
                  case c5 => simp; omega
                  intro v' w3 hown3 hgrow _
                  have hrow := ownsRow_block hown2
                  have HL3 := veil ((HL2.out.alloc (by omega) (.cells #[.int .i64 1, .string (s.extract k m)] 90)).grown hgrow (by simp; omega) (fun j hj => by have := hrow j hj; omega))
                  have HO3 : Hid (w3.ownsRow w.heap.size 90 2 v' (done ++ [(1, s.extract k m)]).length (tokCells (done ++ [(1, s.extract k m)]))) := by
                    show w3.ownsRow _ _ _ _ _ _
                    rw [tokCells_snoc, List.length_append]
                    exact hown3
                  clear hown3 hgrow hrow hown2 HL2 hsz2 c0' c1'
                  go_wp2
                  go_roundw
                  case rel =>
                    refine ⟨done ++ [(1, s.extract k m)], m, by omega, rfl, HO3.out, HL3.out, HCE.out, by simp; omega, ?_⟩
                    intro t ht
                    rcases List.mem_append.1 ht with h | h
                    · exact HTS.out t h
                    · simp at h; rw [h]; exact size_extract_le _ _ _
                  case measure => simp [intOf]; omega
                · have hf' : (checkAll [(1, s.extract k m)] != 0) = true := by simp [checkAll, faults, hf]
                  have HE := veil (cutErr_stop hs HCut.out (HStop.out hf))
                  have HT := veil (cutToks_stop hs HCut.out (HStop.out hf))
                  clear HOn HStop HCut hf
                  go_wp2_with fail
                  refine (fault_any _ [(1, s.extract k m)] _ (tokRow_one _ _ _ (Nat.le_trans (size_extract_le _ _ _) HM.out) (by simp))).mono ?_
                  rintro e w2 ⟨rfl, hb2⟩
                  obtain ⟨c0', c1', hba⟩ := box_cells hb2
                  have HL2 := veil (hbl.trans (hba.mono hbl.size))
                  clear hb2 hba hown hbl
                  go_wp2
                  go_ret2
                  exact ⟨_, by rw [HE.out]; rfl, by rw [HT.out]; exact Or.inl ⟨rfl, _, _, rfl⟩, HL2.out⟩
          · have hL : isLetter (byteAt s k) = false := by simpa using hL
            by_cases hD : isDigit (byteAt s k) = true
            · have hl : isIn ((s[k]'hlt).toNat : Int) 97 122 = false := by rw [HB.out]; exact hL
              have hd : isIn ((s[k]'hlt).toNat : Int) 48 57 = true := by rw [HB.out]; exact hD
              have h57 : ((s[k]'hlt).toNat : Int) ≤ 57 := by rw [HB.out]; simp [isDigit] at hD; omega
              have HW := veil (@ans_num s k (runEnd isWordB s k) hnq hL hD rfl)
              have hwb : isWordB (byteAt s k) = true := by simp [isWordB, hD]
              have HWB := veil hwb
              clear hL hD hnq hwb
              go_wp2_with (go_at_call 43; refine (in_any _ _ _ _).mono ?_; rintro e w' ⟨rfl, rfl⟩)
              go_loop [6] (fun t => ∃ m : Nat, k + 1 ≤ m ∧ m ≤ s.size ∧ t = .int .i64 m ∧ ∀ j, k + 1 ≤ j → j < m → isWordB (byteAt s j) = true) (fun t => s.size - (intOf t).toNat)
              case atStart => exact ⟨k + 1, Nat.le_refl _, by omega, by go_num, fun j h1 h2 => absurd h2 (by omega)⟩
              case round =>
                obtain ⟨m, hm1, hm2, rfl, hall⟩ := hrel
                have HA := veil hall
                clear hall
                by_cases hlm : m < s.size
                · have HBm := veil (byteAt_get s m hlm)
                  have hrm := byteAt_range s m
                  have hbm : 0 ≤ ((s[m]'hlm).toNat : Int) ∧ ((s[m]'hlm).toNat : Int) ≤ 255 := by rw [HBm.out]; exact hrm
                  obtain ⟨hbm1, hbm2⟩ := hbm
                  clear hrm
                  have HN : Hid (isWordB ((s[m]'hlm).toNat : Int) = true → ∀ j, k + 1 ≤ j → j < m + 1 → isWordB (byteAt s j) = true) := fun h j h1 h2 => by
                    by_cases e : j = m
                    · rw [e, ← HBm.out]; exact h
                    · exact HA.out j h1 (by omega)
                  cases hm97 : isIn ((s[m]'hlm).toNat : Int) 97 122
                  · cases hm48 : isIn ((s[m]'hlm).toNat : Int) 48 57
                    · have hend : runEnd isWordB s k = m := word_end hlt HWB.out hm1 hm2 HA.out (fun _ => by rw [← HBm.out, isWordB, ← isLetter_in, ← isDigit_in, hm97, hm48]; rfl)
                      have hans := HW.out
                      rw [hend] at hans
                      rw [hans] at HOn HStop
                      clear HW hend hans HA HN
                      by_cases hf : faultOf (2, s.extract k m) = 0
                      · have hf' : (checkAll [(2, s.extract k m)] != 0) = false := by simp [checkAll, faults, hf]
                        obtain ⟨hkE, hcE⟩ := HOn.out hf
                        have HCE := veil (cut_snoc HCut.out hcE)
                        clear HOn HStop HCut hcE hf
                        go_wp2_with (go_at_call 43; refine (in_any _ _ _ _).mono ?_; rintro e w' ⟨rfl, rfl⟩)
                        go_wp2_with fail
                        refine (fault_any _ [(2, s.extract k m)] _ (tokRow_one _ _ _ (Nat.le_trans (size_extract_le _ _ _) HM.out) (by simp))).mono ?_
                        rintro e w2 ⟨rfl, hb2⟩
                        obtain ⟨c0', c1', hba⟩ := box_cells hb2
                        have hown2 := ownsRow_below hown hba
                        have HL2 := veil (hbl.trans (hba.mono hbl.size))
                        have hsz2 : w.heap.size ≤ w2.heap.size := Nat.le_trans hbl.size hba.size
                        clear hb2 hba hown hbl
                        go_wp2_with (at_builtin; refine wpList_append_own _ rfl _ _ 41 rfl w.heap.size 90 i0 (.agg #[.int .i64 0, .string ⟨#[]⟩]) 2 24 Tryz.underlying41 hi hz0 hz1 hz2 rfl (by decide) _ _ _ rfl (hown2.alloc _) ⟨w2.heap.size, 0, none⟩ 1 1 [.int .i64 2, .string (s.extract k m)] rfl rfl ?c1 ?c2 ?c3 ?c4 ?c5 ?_)
                        case c1 => exact cell_two_new _ _ _ _
                        case c2 =>
                          intro u hu
                          simp at hu
                          rcases hu with rfl | rfl <;> rfl
                        case c3 => unfold maxLen; omega
                        case c4 => omega
                        case c5 => simp; omega
                        intro v' w3 hown3 hgrow _
                        have hrow := ownsRow_block hown2
                        have HL3 := veil ((HL2.out.alloc (by omega) (.cells #[.int .i64 2, .string (s.extract k m)] 90)).grown hgrow (by simp; omega) (fun j hj => by have := hrow j hj; omega))
                        have HO3 : Hid (w3.ownsRow w.heap.size 90 2 v' (done ++ [(2, s.extract k m)]).length (tokCells (done ++ [(2, s.extract k m)]))) := by
                          show w3.ownsRow _ _ _ _ _ _
                          rw [tokCells_snoc, List.length_append]
                          exact hown3
                        clear hown3 hgrow hrow hown2 HL2 hsz2 c0' c1'
                        go_wp2
                        go_roundw
                        case rel =>
                          refine ⟨done ++ [(2, s.extract k m)], m, by omega, rfl, HO3.out, HL3.out, HCE.out, by simp; omega, ?_⟩
                          intro t ht
                          rcases List.mem_append.1 ht with h | h
                          · exact HTS.out t h
                          · simp at h; rw [h]; exact size_extract_le _ _ _
                        case measure => simp [intOf]; omega
                      · have hf' : (checkAll [(2, s.extract k m)] != 0) = true := by simp [checkAll, faults, hf]
                        have HE := veil (cutErr_stop hs HCut.out (HStop.out hf))
                        have HT := veil (cutToks_stop hs HCut.out (HStop.out hf))
                        clear HOn HStop HCut hf
                        go_wp2_with (go_at_call 43; refine (in_any _ _ _ _).mono ?_; rintro e w' ⟨rfl, rfl⟩)
                        go_wp2_with fail
                        refine (fault_any _ [(2, s.extract k m)] _ (tokRow_one _ _ _ (Nat.le_trans (size_extract_le _ _ _) HM.out) (by simp))).mono ?_
                        rintro e w2 ⟨rfl, hb2⟩
                        obtain ⟨c0', c1', hba⟩ := box_cells hb2
                        have HL2 := veil (hbl.trans (hba.mono hbl.size))
                        clear hb2 hba hown hbl
                        go_wp2
                        go_ret2
                        exact ⟨_, by rw [HE.out]; rfl, by rw [HT.out]; exact Or.inl ⟨rfl, _, _, rfl⟩, HL2.out⟩
                    · have HM2 := veil (HN.out (by rw [isWordB, ← isLetter_in, ← isDigit_in, hm97, hm48]; rfl))
                      go_wp2_with (go_at_call 43; refine (in_any _ _ _ _).mono ?_; rintro e w' ⟨rfl, rfl⟩)
                      go_round
                      case rel => exact ⟨m + 1, by omega, by omega, by go_num, HM2.out⟩
                      case measure => simp [intOf]; omega
                  · have HM2 := veil (HN.out (by rw [isWordB, ← isLetter_in, hm97]; rfl))
                    go_wp2_with (go_at_call 43; refine (in_any _ _ _ _).mono ?_; rintro e w' ⟨rfl, rfl⟩)
                    go_round
                    case rel => exact ⟨m + 1, by omega, by omega, by go_num, HM2.out⟩
                    case measure => simp [intOf]; omega
                · have hend : runEnd isWordB s k = m := word_end hlt HWB.out hm1 hm2 HA.out (fun h => absurd h hlm)
                  have hans := HW.out
                  rw [hend] at hans
                  rw [hans] at HOn HStop
                  clear HW hend hans HA
                  by_cases hf : faultOf (2, s.extract k m) = 0
                  · have hf' : (checkAll [(2, s.extract k m)] != 0) = false := by simp [checkAll, faults, hf]
                    obtain ⟨hkE, hcE⟩ := HOn.out hf
                    have HCE := veil (cut_snoc HCut.out hcE)
                    clear HOn HStop HCut hcE hf
                    go_wp2_with fail
                    refine (fault_any _ [(2, s.extract k m)] _ (tokRow_one _ _ _ (Nat.le_trans (size_extract_le _ _ _) HM.out) (by simp))).mono ?_
                    rintro e w2 ⟨rfl, hb2⟩
                    obtain ⟨c0', c1', hba⟩ := box_cells hb2
                    have hown2 := ownsRow_below hown hba
                    have HL2 := veil (hbl.trans (hba.mono hbl.size))
                    have hsz2 : w.heap.size ≤ w2.heap.size := Nat.le_trans hbl.size hba.size
                    clear hb2 hba hown hbl
                    go_wp2_with (at_builtin; refine wpList_append_own _ rfl _ _ 41 rfl w.heap.size 90 i0 (.agg #[.int .i64 0, .string ⟨#[]⟩]) 2 24 Tryz.underlying41 hi hz0 hz1 hz2 rfl (by decide) _ _ _ rfl (hown2.alloc _) ⟨w2.heap.size, 0, none⟩ 1 1 [.int .i64 2, .string (s.extract k m)] rfl rfl ?c1 ?c2 ?c3 ?c4 ?c5 ?_)
                    case c1 => exact cell_two_new _ _ _ _
                    case c2 =>
                      intro u hu
                      simp at hu
                      rcases hu with rfl | rfl <;> rfl
                    case c3 => unfold maxLen; omega
                    case c4 => omega
                    case c5 => simp; omega
                    intro v' w3 hown3 hgrow _
                    have hrow := ownsRow_block hown2
                    have HL3 := veil ((HL2.out.alloc (by omega) (.cells #[.int .i64 2, .string (s.extract k m)] 90)).grown hgrow (by simp; omega) (fun j hj => by have := hrow j hj; omega))
                    have HO3 : Hid (w3.ownsRow w.heap.size 90 2 v' (done ++ [(2, s.extract k m)]).length (tokCells (done ++ [(2, s.extract k m)]))) := by
                      show w3.ownsRow _ _ _ _ _ _
                      rw [tokCells_snoc, List.length_append]
                      exact hown3
                    clear hown3 hgrow hrow hown2 HL2 hsz2 c0' c1'
                    go_wp2
                    go_roundw
                    case rel =>
                      refine ⟨done ++ [(2, s.extract k m)], m, by omega, rfl, HO3.out, HL3.out, HCE.out, by simp; omega, ?_⟩
                      intro t ht
                      rcases List.mem_append.1 ht with h | h
                      · exact HTS.out t h
                      · simp at h; rw [h]; exact size_extract_le _ _ _
                    case measure => simp [intOf]; omega
                  · have hf' : (checkAll [(2, s.extract k m)] != 0) = true := by simp [checkAll, faults, hf]
                    have HE := veil (cutErr_stop hs HCut.out (HStop.out hf))
                    have HT := veil (cutToks_stop hs HCut.out (HStop.out hf))
                    clear HOn HStop HCut hf
                    go_wp2_with fail
                    refine (fault_any _ [(2, s.extract k m)] _ (tokRow_one _ _ _ (Nat.le_trans (size_extract_le _ _ _) HM.out) (by simp))).mono ?_
                    rintro e w2 ⟨rfl, hb2⟩
                    obtain ⟨c0', c1', hba⟩ := box_cells hb2
                    have HL2 := veil (hbl.trans (hba.mono hbl.size))
                    clear hb2 hba hown hbl
                    go_wp2
                    go_ret2
                    exact ⟨_, by rw [HE.out]; rfl, by rw [HT.out]; exact Or.inl ⟨rfl, _, _, rfl⟩, HL2.out⟩
            · have hD : isDigit (byteAt s k) = false := by simpa using hD
              have hl : isIn ((s[k]'hlt).toNat : Int) 97 122 = false := by rw [HB.out]; exact hL
              have hd : isIn ((s[k]'hlt).toNat : Int) 48 57 = false := by rw [HB.out]; exact hD
              have hans := @ans_sign s k hnq hL hD
              rw [hans] at HOn HStop
              clear hans hL hD hnq
              by_cases hf : faultOf (4, s.extract k (k + 1)) = 0
              · have hf' : (checkAll [(4, s.extract k (k + 1))] != 0) = false := by simp [checkAll, faults, hf]
                obtain ⟨hkE, hcE⟩ := HOn.out hf
                have HCE := veil (cut_snoc HCut.out hcE)
                clear HOn HStop HCut hcE hf
                go_wp2_with (go_at_call 43; refine (in_any _ _ _ _).mono ?_; rintro e w' ⟨rfl, rfl⟩)
                go_wp2_with fail
                refine (fault_any _ [(4, s.extract k (k + 1))] _ (tokRow_one _ _ _ (Nat.le_trans (size_extract_le _ _ _) HM.out) (by simp))).mono ?_
                rintro e w2 ⟨rfl, hb2⟩
                obtain ⟨c0', c1', hba⟩ := box_cells hb2
                have hown2 := ownsRow_below hown hba
                have HL2 := veil (hbl.trans (hba.mono hbl.size))
                have hsz2 : w.heap.size ≤ w2.heap.size := Nat.le_trans hbl.size hba.size
                clear hb2 hba hown hbl
                go_wp2_with (at_builtin; refine wpList_append_own _ rfl _ _ 41 rfl w.heap.size 90 i0 (.agg #[.int .i64 0, .string ⟨#[]⟩]) 2 24 Tryz.underlying41 hi hz0 hz1 hz2 rfl (by decide) _ _ _ rfl (hown2.alloc _) ⟨w2.heap.size, 0, none⟩ 1 1 [.int .i64 4, .string (s.extract k (k + 1))] rfl rfl ?c1 ?c2 ?c3 ?c4 ?c5 ?_)
                case c1 => exact cell_two_new _ _ _ _
                case c2 =>
                  intro u hu
                  simp at hu
                  rcases hu with rfl | rfl <;> rfl
                case c3 => unfold maxLen; omega
                case c4 => omega
                case c5 => simp; omega
                intro v' w3 hown3 hgrow _
                have hrow := ownsRow_block hown2
                have HL3 := veil ((HL2.out.alloc (by omega) (.cells #[.int .i64 4, .string (s.extract k (k + 1))] 90)).grown hgrow (by simp; omega) (fun j hj => by have := hrow j hj; omega))
                have HO3 : Hid (w3.ownsRow w.heap.size 90 2 v' (done ++ [(4, s.extract k (k + 1))]).length (tokCells (done ++ [(4, s.extract k (k + 1))]))) := by
                  show w3.ownsRow _ _ _ _ _ _
                  rw [tokCells_snoc, List.length_append]
                  exact hown3
                clear hown3 hgrow hrow hown2 HL2 hsz2 c0' c1'
                go_wp2
                go_roundw
                case rel =>
                  refine ⟨done ++ [(4, s.extract k (k + 1))], k + 1, by omega, by go_num, HO3.out, HL3.out, HCE.out, by simp; omega, ?_⟩
                  intro t ht
                  rcases List.mem_append.1 ht with h | h
                  · exact HTS.out t h
                  · simp at h; rw [h]; exact size_extract_le _ _ _
                case measure => simp [intOf]; omega
              · have hf' : (checkAll [(4, s.extract k (k + 1))] != 0) = true := by simp [checkAll, faults, hf]
                have HE := veil (cutErr_stop hs HCut.out (HStop.out hf))
                have HT := veil (cutToks_stop hs HCut.out (HStop.out hf))
                clear HOn HStop HCut hf
                go_wp2_with (go_at_call 43; refine (in_any _ _ _ _).mono ?_; rintro e w' ⟨rfl, rfl⟩)
                go_wp2_with fail
                refine (fault_any _ [(4, s.extract k (k + 1))] _ (tokRow_one _ _ _ (Nat.le_trans (size_extract_le _ _ _) HM.out) (by simp))).mono ?_
                rintro e w2 ⟨rfl, hb2⟩
                obtain ⟨c0', c1', hba⟩ := box_cells hb2
                have HL2 := veil (hbl.trans (hba.mono hbl.size))
                clear hb2 hba hown hbl
                go_wp2
                go_ret2
                exact ⟨_, by rw [HE.out]; rfl, by rw [HT.out]; exact Or.inl ⟨rfl, _, _, rfl⟩, HL2.out⟩
    · have hp := cutAt_past hlt
      have hcut' : cutAt s 0 = some done := by rw [HCut.out, hp]; simp
      have hmd : done.length ≤ maxLen := by unfold maxLen; omega
      have HTR := veil (ownsRow_toks hown hmd (fun t ht => Nat.le_trans (HTS.out t ht) HM.out))
      have HL := veil hbl
      obtain ⟨av, cp, hav⟩ : ∃ av cp, u4 = .slice av done.length cp := by
        obtain ⟨_, ⟨hv, hn⟩ | ⟨g, cap, cur, hv, _⟩⟩ := hown
        · exact ⟨none, 0, by rw [hv, hn]⟩
        · exact ⟨_, _, hv⟩
      clear HCut hp hown hbl
      by_cases h200 : 200 < done.length
      · have h2 : (200 : Int) < (done.length : Int) := by omega
        have HE : Hid (cutErr s = 1) := by
          show cutErr s = 1
          unfold cutErr
          rw [if_neg (by omega), hcut']
          exact if_pos h200
        have HT : Hid (cutToks s = []) := by
          show cutToks s = []
          unfold cutToks
          rw [if_neg (by omega), hcut']
          exact if_pos h200
        clear hcut' h200
        rw [hav]
        clear hav HTR
        go_wp2
        go_ret2
        exact ⟨_, by rw [HE.out]; rfl, by rw [HT.out]; exact Or.inl ⟨rfl, _, _, rfl⟩, HL.out⟩
      · have h2 : ¬ (200 : Int) < (done.length : Int) := by omega
        have HE : Hid (cutErr s = 0) := by
          show cutErr s = 0
          unfold cutErr
          rw [if_neg (by omega), hcut']
          exact if_neg h200
        have HT : Hid (cutToks s = done) := by
          show cutToks s = done
          unfold cutToks
          rw [if_neg (by omega), hcut']
          exact if_neg h200
        clear hcut' h200
        rw [hav] at HTR
        rw [hav]
        clear hav
        go_wp2
        go_ret2
        exact ⟨_, by rw [HE.out]; rfl, by rw [HT.out]; exact HTR.out, HL.out⟩

theorem of_all (s : ByteArray) (w : World) :
    Calls Tryz.prog 13 #[.string s] w fun e w' => ∃ v, e = .returned (.tuple #[v, .int .i64 (cutErr s)]) ∧ TokRow w' v (cutToks s) ∧ Below w.heap.size w w' := by
  by_cases h : 1500 < s.size
  · have h' : (1500 : Int) < (s.size : Int) := by omega
    have HE : Hid (cutErr s = 1) := if_pos h
    have HT : Hid (cutToks s = []) := if_pos h
    clear h
    go_enter Tryz.func13, Tryz.ntmps13
    go_wp2
    go_ret2
    exact ⟨_, by rw [HE.out]; rfl, by rw [HT.out]; exact Or.inl ⟨rfl, _, _, rfl⟩, Below.refl _ _⟩
  · exact of_any s (by omega) w

end Go.Proofs.YtieoddnaknpmlabGreatDoor

/- What the reference's exprFault answers, at every expression and at every depth: the first fault. -/
namespace Go.Proofs.YtieoddnaknpmlabGreatDoor
open Go.RowKit
set_option maxRecDepth 100000

/-- what is asked of the args, one by one. -/
def ExprFaultAt (d : Nat) : Prop := ∀ (S : Nat → Prop) (t : Ex) (v : Value) (w : World), (∀ b, S b → b < w.heap.size) → ExIs S w t v →
    Calls Tryz.prog 87 #[v, .int .i64 d] w fun e w' => e = .returned (.int .i64 (exFault t d)) ∧ Below w.heap.size w w'

theorem exFault_tail {k n : Int} {f s : ByteArray} {xs : List Ex} {d : Nat} (hd : ¬ 10 < d) (hk : isIn k 1 7 = true) (h8 : ¬ 8 < xs.length) :
    exFault (.mk k n f s xs) d = if (n ≠ 0 ∧ k ≠ 1) ∨ namesFit k f s = false ∨ countFits k xs.length = false then 4 else if isIn n 0 999999 = false then 2 else exsFault xs (d + 1) := by
  rw [exFault, if_neg hd, if_neg (by rw [hk]; simp), if_neg h8]

set_option maxHeartbeats 8000000 in
set_option maxRecDepth 100000 in
theorem exprFault_k1 (d : Nat) (hd1 : d < 1000) (hd0 : ¬ 10 < d) (ih : ExprFaultAt (d + 1)) (S : Nat → Prop) (n : Int) (f s : ByteArray) (xs : List Ex) (a : Option Addr) (cap : Nat) (w : World) (_hf : f.size ≤ maxLen) (_hs : s.size ≤ maxLen) (hS : ∀ b, S b → b < w.heap.size)
    (h8 : ¬ 8 < xs.length) (hrest : xs.length = 0 ∨ ∃ b o, a = some ⟨b, o, none⟩ ∧ S b ∧ RowAt (ExAt S w) 5 xs b o) :
    Calls Tryz.prog 87 #[.agg #[.int .i64 1, .int .i64 n, .string f, .string s, .slice a xs.length cap], .int .i64 d] w fun e w' => e = .returned (.int .i64 (exFault (.mk 1 n f s xs) d)) ∧ Below w.heap.size w w' := by
  have HIH := veil ih
  have HREST := veil hrest
  clear ih hrest
  have hd' : ¬ (10 : Int) < (d : Int) := by omega
  have h8' : ¬ (8 : Int) < (xs.length : Int) := by omega
  have HB : Hid (Below w.heap.size w (w.alloc (.cells #[.int .i64 1, .int .i64 n, .string f, .string s, .slice a xs.length cap] 52))) := (Below.refl _ _).alloc (Nat.le_refl _) _
  have HT := veil (exFault_tail (n := n) (f := f) (s := s) hd0 (show isIn 1 1 7 = true from rfl) h8)
  have hin : isIn 1 1 7 = true := rfl
  have HNm : Hid (namesFit 1 f s = ((s.toList == []) && (f.toList == []))) := by show _ = _; rw [noneB_text, noneB_text]; rfl
  have HCt : Hid (countFits 1 xs.length = ((xs.length : Int) == 0)) := (len_eq xs.length 0).symm
  cases hF : (f.toList == [])
  case false =>
    have HF : Hid (exFault (.mk 1 n f s xs) d = 4) := by show _ = _; rw [HT.out, if_pos (Or.inr (Or.inl (HNm.out.trans (by rw [hF]; simp))))]
    clear HT HNm HCt HIH HREST
    go_enter Tryz.func87, Tryz.ntmps87
    go_wp2_with (first | (go_at_call 43; refine (in_any _ _ _ _).mono ?_; rintro e w' ⟨rfl, rfl⟩) | (go_at_call 82; refine (quoteMay_any _ (by assumption) _).mono ?_; rintro e w' ⟨rfl, rfl⟩) | (go_at_call 51; refine (nameMay_any _ (by assumption) _).mono ?_; rintro e w' ⟨rfl, rfl⟩))
    go_ret
    exact ⟨by rw [HF.out]; rfl, HB.out⟩
  cases hS0 : (s.toList == [])
  case false =>
    have HF : Hid (exFault (.mk 1 n f s xs) d = 4) := by show _ = _; rw [HT.out, if_pos (Or.inr (Or.inl (HNm.out.trans (by rw [hS0]; simp))))]
    clear HT HNm HCt HIH HREST
    go_enter Tryz.func87, Tryz.ntmps87
    go_wp2_with (first | (go_at_call 43; refine (in_any _ _ _ _).mono ?_; rintro e w' ⟨rfl, rfl⟩) | (go_at_call 82; refine (quoteMay_any _ (by assumption) _).mono ?_; rintro e w' ⟨rfl, rfl⟩) | (go_at_call 51; refine (nameMay_any _ (by assumption) _).mono ?_; rintro e w' ⟨rfl, rfl⟩))
    go_ret
    exact ⟨by rw [HF.out]; rfl, HB.out⟩
  cases hC : ((xs.length : Int) == 0)
  case false =>
    have HF : Hid (exFault (.mk 1 n f s xs) d = 4) := by show _ = _; rw [HT.out, if_pos (Or.inr (Or.inr (HCt.out.trans hC)))]
    clear HT HNm HCt HIH HREST
    go_enter Tryz.func87, Tryz.ntmps87
    go_wp2_with (first | (go_at_call 43; refine (in_any _ _ _ _).mono ?_; rintro e w' ⟨rfl, rfl⟩) | (go_at_call 82; refine (quoteMay_any _ (by assumption) _).mono ?_; rintro e w' ⟨rfl, rfl⟩) | (go_at_call 51; refine (nameMay_any _ (by assumption) _).mono ?_; rintro e w' ⟨rfl, rfl⟩))
    go_ret
    exact ⟨by rw [HF.out]; rfl, HB.out⟩
  cases hR : isIn n 0 999999
  case false =>
    have HF : Hid (exFault (.mk 1 n f s xs) d = 2) := by
      show _ = _
      rw [HT.out, if_neg, if_pos hR]
      rintro (h | h | h)
      · exact h.2 rfl
      · rw [HNm.out, hS0, hF] at h; cases h
      · rw [HCt.out, hC] at h; cases h
    clear HT HNm HCt HIH HREST
    go_enter Tryz.func87, Tryz.ntmps87
    go_wp2_with (first | (go_at_call 43; refine (in_any _ _ _ _).mono ?_; rintro e w' ⟨rfl, rfl⟩) | (go_at_call 82; refine (quoteMay_any _ (by assumption) _).mono ?_; rintro e w' ⟨rfl, rfl⟩) | (go_at_call 51; refine (nameMay_any _ (by assumption) _).mono ?_; rintro e w' ⟨rfl, rfl⟩))
    go_ret
    exact ⟨by rw [HF.out]; rfl, HB.out⟩
  have HF : Hid (exFault (.mk 1 n f s xs) d = firstBad (fun t => exFault t (d + 1)) xs) := by
    show _ = _
    rw [HT.out, if_neg, if_neg (by rw [hR]; simp), exsFault_first]
    rintro (h | h | h)
    · exact h.2 rfl
    · rw [HNm.out, hS0, hF] at h; cases h
    · rw [HCt.out, hC] at h; cases h
  clear HT HNm HCt

  go_enter Tryz.func87, Tryz.ntmps87
  go_wp2_with (first | (go_at_call 43; refine (in_any _ _ _ _).mono ?_; rintro e w' ⟨rfl, rfl⟩) | (go_at_call 82; refine (quoteMay_any _ (by assumption) _).mono ?_; rintro e w' ⟨rfl, rfl⟩) | (go_at_call 51; refine (nameMay_any _ (by assumption) _).mono ?_; rintro e w' ⟨rfl, rfl⟩))
  go_loopw [7] (fun i wr => ∃ j : Nat, j ≤ xs.length ∧ i = .int .i64 j ∧ (∀ q (hq : q < xs.length), q < j → exFault xs[q] (d + 1) = 0) ∧ Below (w.heap.size + 1) (w.alloc (.cells #[.int .i64 1, .int .i64 n, .string f, .string s, .slice a xs.length cap] 52)) wr) (fun i _ => xs.length - (intOf i).toNat)
  case atStart => exact ⟨0, Nat.zero_le _, rfl, fun q _ h => absurd h (by omega), Below.refl _ _⟩
  case round =>
    obtain ⟨j, hj, rfl, hall, hbl⟩ := hrel
    have HA := veil hall
    clear hall
    have hc := fun o => hbl.cell (p := ⟨w.heap.size, o, none⟩) (by show w.heap.size < w.heap.size + 1; omega)
    have hbs : w.heap.size + 1 ≤ wr.heap.size := by have := hbl.size; simpa using this
    have HL := veil (HB.out.trans (hbl.mono (by omega)))
    have HBL := veil hbl
    clear hbl
    by_cases hlt : j < xs.length
    · rcases HREST.out with h0 | ⟨b, off, rfl, hb, hrow⟩
      · omega
      have hbw := hS b hb
      obtain ⟨kd, nu, fo, na, va, c0, c1, c2, c3, c4, hcs⟩ := exAt_cells.1 (hrow.get j hlt)
      obtain ⟨va1, va2, va3, rfl⟩ := hcs.slice
      have d0 := (HL.out.cell (p := ⟨b, off + j * 5, none⟩) hbw).trans c0
      have d1 := (HL.out.cell (p := ⟨b, off + j * 5 + 1, none⟩) hbw).trans c1
      have d2 := (HL.out.cell (p := ⟨b, off + j * 5 + 2, none⟩) hbw).trans c2
      have d3 := (HL.out.cell (p := ⟨b, off + j * 5 + 3, none⟩) hbw).trans c3
      have d4 := (HL.out.cell (p := ⟨b, off + j * 5 + 4, none⟩) hbw).trans c4
      have cI := HIH.out S xs[j] (.agg #[.int .i64 kd, .int .i64 nu, .string fo, .string na, .slice va1 va2 va3]) wr (fun b h => by have := hS b h; omega) ⟨_, _, _, _, _, rfl, hcs.keep (Keeps.below HL.out hS)⟩
      have en : ((d + 1 : Nat) : Int) = (d : Int) + 1 := by omega
      rw [en] at cI
      clear c0 c1 c2 c3 c4 hcs hrow HIH HREST
      by_cases hz : exFault xs[j] (d + 1) = 0
      · have hz' : (exFault xs[j] (d + 1) != 0) = false := by simp [hz]
        have HN : Hid (∀ q (hq : q < xs.length), q < j + 1 → exFault xs[q] (d + 1) = 0) := fun q hq hqj => by
          by_cases e : q = j
          · subst e; exact hz
          · exact HA.out q hq (by omega)
        clear hz HA
        generalize exFault xs[j] (d + 1) = fk at *
        go_wp2_with fail
        refine cI.mono ?_
        rintro e w' ⟨rfl, hb'⟩
        go_wp2_with fail
        exact ⟨⟨j + 1, by omega, by go_num, HN.out, HBL.out.trans (hb'.mono hbs)⟩, by simp [intOf]; omega⟩
      · have hz' : (exFault xs[j] (d + 1) != 0) = true := by simp [hz]
        have HFF := veil (HF.out.trans (firstBad_at (fun t => exFault t (d + 1)) xs j hlt (fun q hq => HA.out q (by omega) hq) hz))
        clear hz HA
        generalize exFault xs[j] (d + 1) = fk at *
        go_wp2_with fail
        refine cI.mono ?_
        rintro e w' ⟨rfl, hb'⟩
        go_wp2_with fail
        go_ret
        exact ⟨by rw [HFF.out]; rfl, HL.out.trans (hb'.mono (by omega))⟩
    · have HFF := veil (HF.out.trans (firstBad_none (fun t => exFault t (d + 1)) xs fun q hq => HA.out q hq (by omega)))
      clear HREST HIH
      go_wp2_with fail
      go_ret
      exact ⟨by rw [HFF.out]; rfl, HL.out⟩

set_option maxHeartbeats 8000000 in
set_option maxRecDepth 100000 in
theorem exprFault_k2 (d : Nat) (hd1 : d < 1000) (hd0 : ¬ 10 < d) (ih : ExprFaultAt (d + 1)) (S : Nat → Prop) (n : Int) (f s : ByteArray) (xs : List Ex) (a : Option Addr) (cap : Nat) (w : World) (_hf : f.size ≤ maxLen) (hs : s.size ≤ maxLen) (hS : ∀ b, S b → b < w.heap.size)
    (h8 : ¬ 8 < xs.length) (hrest : xs.length = 0 ∨ ∃ b o, a = some ⟨b, o, none⟩ ∧ S b ∧ RowAt (ExAt S w) 5 xs b o) :
    Calls Tryz.prog 87 #[.agg #[.int .i64 2, .int .i64 n, .string f, .string s, .slice a xs.length cap], .int .i64 d] w fun e w' => e = .returned (.int .i64 (exFault (.mk 2 n f s xs) d)) ∧ Below w.heap.size w w' := by
  have HIH := veil ih
  have HREST := veil hrest
  clear ih hrest
  have hd' : ¬ (10 : Int) < (d : Int) := by omega
  have h8' : ¬ (8 : Int) < (xs.length : Int) := by omega
  have HB : Hid (Below w.heap.size w (w.alloc (.cells #[.int .i64 2, .int .i64 n, .string f, .string s, .slice a xs.length cap] 52))) := (Below.refl _ _).alloc (Nat.le_refl _) _
  have HT := veil (exFault_tail (n := n) (f := f) (s := s) hd0 (show isIn 2 1 7 = true from rfl) h8)
  have hin : isIn 2 1 7 = true := rfl
  have HNm : Hid (namesFit 2 f s = (quoteOk s && (f.toList == []))) := by show _ = _; rw [noneB_text]; rfl
  have HCt : Hid (countFits 2 xs.length = ((xs.length : Int) == 0)) := (len_eq xs.length 0).symm
  cases hA : (n != 0)
  case true =>
    have HF : Hid (exFault (.mk 2 n f s xs) d = 4) := by show _ = _; rw [HT.out, if_pos (Or.inl ⟨bne_iff_ne.1 hA, by decide⟩)]
    clear HT HNm HCt HIH HREST
    go_enter Tryz.func87, Tryz.ntmps87
    go_wp2_with (first | (go_at_call 43; refine (in_any _ _ _ _).mono ?_; rintro e w' ⟨rfl, rfl⟩) | (go_at_call 82; refine (quoteMay_any _ (by assumption) _).mono ?_; rintro e w' ⟨rfl, rfl⟩) | (go_at_call 51; refine (nameMay_any _ (by assumption) _).mono ?_; rintro e w' ⟨rfl, rfl⟩))
    go_ret
    exact ⟨by rw [HF.out]; rfl, HB.out⟩
  have hn : n = 0 := by
    by_cases h : n = 0
    · exact h
    · rw [bne_iff_ne.2 h] at hA; cases hA
  subst hn
  clear hA
  cases hF : (f.toList == [])
  case false =>
    have HF : Hid (exFault (.mk 2 0 f s xs) d = 4) := by show _ = _; rw [HT.out, if_pos (Or.inr (Or.inl (HNm.out.trans (by rw [hF]; simp))))]
    clear HT HNm HCt HIH HREST
    go_enter Tryz.func87, Tryz.ntmps87
    go_wp2_with (first | (go_at_call 43; refine (in_any _ _ _ _).mono ?_; rintro e w' ⟨rfl, rfl⟩) | (go_at_call 82; refine (quoteMay_any _ (by assumption) _).mono ?_; rintro e w' ⟨rfl, rfl⟩) | (go_at_call 51; refine (nameMay_any _ (by assumption) _).mono ?_; rintro e w' ⟨rfl, rfl⟩))
    go_ret
    exact ⟨by rw [HF.out]; rfl, HB.out⟩
  cases hQ : (quoteOk s)
  case false =>
    have HF : Hid (exFault (.mk 2 0 f s xs) d = 4) := by show _ = _; rw [HT.out, if_pos (Or.inr (Or.inl (HNm.out.trans (by rw [hQ]; simp))))]
    clear HT HNm HCt HIH HREST
    go_enter Tryz.func87, Tryz.ntmps87
    go_wp2_with (first | (go_at_call 43; refine (in_any _ _ _ _).mono ?_; rintro e w' ⟨rfl, rfl⟩) | (go_at_call 82; refine (quoteMay_any _ (by assumption) _).mono ?_; rintro e w' ⟨rfl, rfl⟩) | (go_at_call 51; refine (nameMay_any _ (by assumption) _).mono ?_; rintro e w' ⟨rfl, rfl⟩))
    go_ret
    exact ⟨by rw [HF.out]; rfl, HB.out⟩
  cases hC : ((xs.length : Int) == 0)
  case false =>
    have HF : Hid (exFault (.mk 2 0 f s xs) d = 4) := by show _ = _; rw [HT.out, if_pos (Or.inr (Or.inr (HCt.out.trans hC)))]
    clear HT HNm HCt HIH HREST
    go_enter Tryz.func87, Tryz.ntmps87
    go_wp2_with (first | (go_at_call 43; refine (in_any _ _ _ _).mono ?_; rintro e w' ⟨rfl, rfl⟩) | (go_at_call 82; refine (quoteMay_any _ (by assumption) _).mono ?_; rintro e w' ⟨rfl, rfl⟩) | (go_at_call 51; refine (nameMay_any _ (by assumption) _).mono ?_; rintro e w' ⟨rfl, rfl⟩))
    go_ret
    exact ⟨by rw [HF.out]; rfl, HB.out⟩
  have HF : Hid (exFault (.mk 2 0 f s xs) d = firstBad (fun t => exFault t (d + 1)) xs) := by
    show _ = _
    rw [HT.out, if_neg, if_neg (by rw [show isIn 0 0 999999 = true from rfl]; simp), exsFault_first]
    rintro (h | h | h)
    · exact h.1 rfl
    · rw [HNm.out, hQ, hF] at h; cases h
    · rw [HCt.out, hC] at h; cases h
  clear HT HNm HCt

  go_enter Tryz.func87, Tryz.ntmps87
  go_wp2_with (first | (go_at_call 43; refine (in_any _ _ _ _).mono ?_; rintro e w' ⟨rfl, rfl⟩) | (go_at_call 82; refine (quoteMay_any _ (by assumption) _).mono ?_; rintro e w' ⟨rfl, rfl⟩) | (go_at_call 51; refine (nameMay_any _ (by assumption) _).mono ?_; rintro e w' ⟨rfl, rfl⟩))
  go_loopw [7] (fun i wr => ∃ j : Nat, j ≤ xs.length ∧ i = .int .i64 j ∧ (∀ q (hq : q < xs.length), q < j → exFault xs[q] (d + 1) = 0) ∧ Below (w.heap.size + 1) (w.alloc (.cells #[.int .i64 2, .int .i64 0, .string f, .string s, .slice a xs.length cap] 52)) wr) (fun i _ => xs.length - (intOf i).toNat)
  case atStart => exact ⟨0, Nat.zero_le _, rfl, fun q _ h => absurd h (by omega), Below.refl _ _⟩
  case round =>
    obtain ⟨j, hj, rfl, hall, hbl⟩ := hrel
    have HA := veil hall
    clear hall
    have hc := fun o => hbl.cell (p := ⟨w.heap.size, o, none⟩) (by show w.heap.size < w.heap.size + 1; omega)
    have hbs : w.heap.size + 1 ≤ wr.heap.size := by have := hbl.size; simpa using this
    have HL := veil (HB.out.trans (hbl.mono (by omega)))
    have HBL := veil hbl
    clear hbl
    by_cases hlt : j < xs.length
    · rcases HREST.out with h0 | ⟨b, off, rfl, hb, hrow⟩
      · omega
      have hbw := hS b hb
      obtain ⟨kd, nu, fo, na, va, c0, c1, c2, c3, c4, hcs⟩ := exAt_cells.1 (hrow.get j hlt)
      obtain ⟨va1, va2, va3, rfl⟩ := hcs.slice
      have d0 := (HL.out.cell (p := ⟨b, off + j * 5, none⟩) hbw).trans c0
      have d1 := (HL.out.cell (p := ⟨b, off + j * 5 + 1, none⟩) hbw).trans c1
      have d2 := (HL.out.cell (p := ⟨b, off + j * 5 + 2, none⟩) hbw).trans c2
      have d3 := (HL.out.cell (p := ⟨b, off + j * 5 + 3, none⟩) hbw).trans c3
      have d4 := (HL.out.cell (p := ⟨b, off + j * 5 + 4, none⟩) hbw).trans c4
      have cI := HIH.out S xs[j] (.agg #[.int .i64 kd, .int .i64 nu, .string fo, .string na, .slice va1 va2 va3]) wr (fun b h => by have := hS b h; omega) ⟨_, _, _, _, _, rfl, hcs.keep (Keeps.below HL.out hS)⟩
      have en : ((d + 1 : Nat) : Int) = (d : Int) + 1 := by omega
      rw [en] at cI
      clear c0 c1 c2 c3 c4 hcs hrow HIH HREST
      by_cases hz : exFault xs[j] (d + 1) = 0
      · have hz' : (exFault xs[j] (d + 1) != 0) = false := by simp [hz]
        have HN : Hid (∀ q (hq : q < xs.length), q < j + 1 → exFault xs[q] (d + 1) = 0) := fun q hq hqj => by
          by_cases e : q = j
          · subst e; exact hz
          · exact HA.out q hq (by omega)
        clear hz HA
        generalize exFault xs[j] (d + 1) = fk at *
        go_wp2_with fail
        refine cI.mono ?_
        rintro e w' ⟨rfl, hb'⟩
        go_wp2_with fail
        exact ⟨⟨j + 1, by omega, by go_num, HN.out, HBL.out.trans (hb'.mono hbs)⟩, by simp [intOf]; omega⟩
      · have hz' : (exFault xs[j] (d + 1) != 0) = true := by simp [hz]
        have HFF := veil (HF.out.trans (firstBad_at (fun t => exFault t (d + 1)) xs j hlt (fun q hq => HA.out q (by omega) hq) hz))
        clear hz HA
        generalize exFault xs[j] (d + 1) = fk at *
        go_wp2_with fail
        refine cI.mono ?_
        rintro e w' ⟨rfl, hb'⟩
        go_wp2_with fail
        go_ret
        exact ⟨by rw [HFF.out]; rfl, HL.out.trans (hb'.mono (by omega))⟩
    · have HFF := veil (HF.out.trans (firstBad_none (fun t => exFault t (d + 1)) xs fun q hq => HA.out q hq (by omega)))
      clear HREST HIH
      go_wp2_with fail
      go_ret
      exact ⟨by rw [HFF.out]; rfl, HL.out⟩

set_option maxHeartbeats 8000000 in
set_option maxRecDepth 100000 in
theorem exprFault_k3 (d : Nat) (hd1 : d < 1000) (hd0 : ¬ 10 < d) (ih : ExprFaultAt (d + 1)) (S : Nat → Prop) (n : Int) (f s : ByteArray) (xs : List Ex) (a : Option Addr) (cap : Nat) (w : World) (_hf : f.size ≤ maxLen) (hs : s.size ≤ maxLen) (hS : ∀ b, S b → b < w.heap.size)
    (h8 : ¬ 8 < xs.length) (hrest : xs.length = 0 ∨ ∃ b o, a = some ⟨b, o, none⟩ ∧ S b ∧ RowAt (ExAt S w) 5 xs b o) :
    Calls Tryz.prog 87 #[.agg #[.int .i64 3, .int .i64 n, .string f, .string s, .slice a xs.length cap], .int .i64 d] w fun e w' => e = .returned (.int .i64 (exFault (.mk 3 n f s xs) d)) ∧ Below w.heap.size w w' := by
  have HIH := veil ih
  have HREST := veil hrest
  clear ih hrest
  have hd' : ¬ (10 : Int) < (d : Int) := by omega
  have h8' : ¬ (8 : Int) < (xs.length : Int) := by omega
  have HB : Hid (Below w.heap.size w (w.alloc (.cells #[.int .i64 3, .int .i64 n, .string f, .string s, .slice a xs.length cap] 52))) := (Below.refl _ _).alloc (Nat.le_refl _) _
  have HT := veil (exFault_tail (n := n) (f := f) (s := s) hd0 (show isIn 3 1 7 = true from rfl) h8)
  have hin : isIn 3 1 7 = true := rfl
  have HNm : Hid (namesFit 3 f s = (identOk s && (f.toList == []))) := by show _ = _; rw [noneB_text]; rfl
  have HCt : Hid (countFits 3 xs.length = ((xs.length : Int) == 0)) := (len_eq xs.length 0).symm
  cases hA : (n != 0)
  case true =>
    have HF : Hid (exFault (.mk 3 n f s xs) d = 4) := by show _ = _; rw [HT.out, if_pos (Or.inl ⟨bne_iff_ne.1 hA, by decide⟩)]
    clear HT HNm HCt HIH HREST
    go_enter Tryz.func87, Tryz.ntmps87
    go_wp2_with (first | (go_at_call 43; refine (in_any _ _ _ _).mono ?_; rintro e w' ⟨rfl, rfl⟩) | (go_at_call 82; refine (quoteMay_any _ (by assumption) _).mono ?_; rintro e w' ⟨rfl, rfl⟩) | (go_at_call 51; refine (nameMay_any _ (by assumption) _).mono ?_; rintro e w' ⟨rfl, rfl⟩))
    go_ret
    exact ⟨by rw [HF.out]; rfl, HB.out⟩
  have hn : n = 0 := by
    by_cases h : n = 0
    · exact h
    · rw [bne_iff_ne.2 h] at hA; cases hA
  subst hn
  clear hA
  cases hF : (f.toList == [])
  case false =>
    have HF : Hid (exFault (.mk 3 0 f s xs) d = 4) := by show _ = _; rw [HT.out, if_pos (Or.inr (Or.inl (HNm.out.trans (by rw [hF]; simp))))]
    clear HT HNm HCt HIH HREST
    go_enter Tryz.func87, Tryz.ntmps87
    go_wp2_with (first | (go_at_call 43; refine (in_any _ _ _ _).mono ?_; rintro e w' ⟨rfl, rfl⟩) | (go_at_call 82; refine (quoteMay_any _ (by assumption) _).mono ?_; rintro e w' ⟨rfl, rfl⟩) | (go_at_call 51; refine (nameMay_any _ (by assumption) _).mono ?_; rintro e w' ⟨rfl, rfl⟩))
    go_ret
    exact ⟨by rw [HF.out]; rfl, HB.out⟩
  cases hI : (identOk s)
  case false =>
    have HF : Hid (exFault (.mk 3 0 f s xs) d = 4) := by show _ = _; rw [HT.out, if_pos (Or.inr (Or.inl (HNm.out.trans (by rw [hI]; simp))))]
    clear HT HNm HCt HIH HREST
    go_enter Tryz.func87, Tryz.ntmps87
    go_wp2_with (first | (go_at_call 43; refine (in_any _ _ _ _).mono ?_; rintro e w' ⟨rfl, rfl⟩) | (go_at_call 82; refine (quoteMay_any _ (by assumption) _).mono ?_; rintro e w' ⟨rfl, rfl⟩) | (go_at_call 51; refine (nameMay_any _ (by assumption) _).mono ?_; rintro e w' ⟨rfl, rfl⟩))
    go_ret
    exact ⟨by rw [HF.out]; rfl, HB.out⟩
  cases hC : ((xs.length : Int) == 0)
  case false =>
    have HF : Hid (exFault (.mk 3 0 f s xs) d = 4) := by show _ = _; rw [HT.out, if_pos (Or.inr (Or.inr (HCt.out.trans hC)))]
    clear HT HNm HCt HIH HREST
    go_enter Tryz.func87, Tryz.ntmps87
    go_wp2_with (first | (go_at_call 43; refine (in_any _ _ _ _).mono ?_; rintro e w' ⟨rfl, rfl⟩) | (go_at_call 82; refine (quoteMay_any _ (by assumption) _).mono ?_; rintro e w' ⟨rfl, rfl⟩) | (go_at_call 51; refine (nameMay_any _ (by assumption) _).mono ?_; rintro e w' ⟨rfl, rfl⟩))
    go_ret
    exact ⟨by rw [HF.out]; rfl, HB.out⟩
  have HF : Hid (exFault (.mk 3 0 f s xs) d = firstBad (fun t => exFault t (d + 1)) xs) := by
    show _ = _
    rw [HT.out, if_neg, if_neg (by rw [show isIn 0 0 999999 = true from rfl]; simp), exsFault_first]
    rintro (h | h | h)
    · exact h.1 rfl
    · rw [HNm.out, hI, hF] at h; cases h
    · rw [HCt.out, hC] at h; cases h
  clear HT HNm HCt

  go_enter Tryz.func87, Tryz.ntmps87
  go_wp2_with (first | (go_at_call 43; refine (in_any _ _ _ _).mono ?_; rintro e w' ⟨rfl, rfl⟩) | (go_at_call 82; refine (quoteMay_any _ (by assumption) _).mono ?_; rintro e w' ⟨rfl, rfl⟩) | (go_at_call 51; refine (nameMay_any _ (by assumption) _).mono ?_; rintro e w' ⟨rfl, rfl⟩))
  go_loopw [7] (fun i wr => ∃ j : Nat, j ≤ xs.length ∧ i = .int .i64 j ∧ (∀ q (hq : q < xs.length), q < j → exFault xs[q] (d + 1) = 0) ∧ Below (w.heap.size + 1) (w.alloc (.cells #[.int .i64 3, .int .i64 0, .string f, .string s, .slice a xs.length cap] 52)) wr) (fun i _ => xs.length - (intOf i).toNat)
  case atStart => exact ⟨0, Nat.zero_le _, rfl, fun q _ h => absurd h (by omega), Below.refl _ _⟩
  case round =>
    obtain ⟨j, hj, rfl, hall, hbl⟩ := hrel
    have HA := veil hall
    clear hall
    have hc := fun o => hbl.cell (p := ⟨w.heap.size, o, none⟩) (by show w.heap.size < w.heap.size + 1; omega)
    have hbs : w.heap.size + 1 ≤ wr.heap.size := by have := hbl.size; simpa using this
    have HL := veil (HB.out.trans (hbl.mono (by omega)))
    have HBL := veil hbl
    clear hbl
    by_cases hlt : j < xs.length
    · rcases HREST.out with h0 | ⟨b, off, rfl, hb, hrow⟩
      · omega
      have hbw := hS b hb
      obtain ⟨kd, nu, fo, na, va, c0, c1, c2, c3, c4, hcs⟩ := exAt_cells.1 (hrow.get j hlt)
      obtain ⟨va1, va2, va3, rfl⟩ := hcs.slice
      have d0 := (HL.out.cell (p := ⟨b, off + j * 5, none⟩) hbw).trans c0
      have d1 := (HL.out.cell (p := ⟨b, off + j * 5 + 1, none⟩) hbw).trans c1
      have d2 := (HL.out.cell (p := ⟨b, off + j * 5 + 2, none⟩) hbw).trans c2
      have d3 := (HL.out.cell (p := ⟨b, off + j * 5 + 3, none⟩) hbw).trans c3
      have d4 := (HL.out.cell (p := ⟨b, off + j * 5 + 4, none⟩) hbw).trans c4
      have cI := HIH.out S xs[j] (.agg #[.int .i64 kd, .int .i64 nu, .string fo, .string na, .slice va1 va2 va3]) wr (fun b h => by have := hS b h; omega) ⟨_, _, _, _, _, rfl, hcs.keep (Keeps.below HL.out hS)⟩
      have en : ((d + 1 : Nat) : Int) = (d : Int) + 1 := by omega
      rw [en] at cI
      clear c0 c1 c2 c3 c4 hcs hrow HIH HREST
      by_cases hz : exFault xs[j] (d + 1) = 0
      · have hz' : (exFault xs[j] (d + 1) != 0) = false := by simp [hz]
        have HN : Hid (∀ q (hq : q < xs.length), q < j + 1 → exFault xs[q] (d + 1) = 0) := fun q hq hqj => by
          by_cases e : q = j
          · subst e; exact hz
          · exact HA.out q hq (by omega)
        clear hz HA
        generalize exFault xs[j] (d + 1) = fk at *
        go_wp2_with fail
        refine cI.mono ?_
        rintro e w' ⟨rfl, hb'⟩
        go_wp2_with fail
        exact ⟨⟨j + 1, by omega, by go_num, HN.out, HBL.out.trans (hb'.mono hbs)⟩, by simp [intOf]; omega⟩
      · have hz' : (exFault xs[j] (d + 1) != 0) = true := by simp [hz]
        have HFF := veil (HF.out.trans (firstBad_at (fun t => exFault t (d + 1)) xs j hlt (fun q hq => HA.out q (by omega) hq) hz))
        clear hz HA
        generalize exFault xs[j] (d + 1) = fk at *
        go_wp2_with fail
        refine cI.mono ?_
        rintro e w' ⟨rfl, hb'⟩
        go_wp2_with fail
        go_ret
        exact ⟨by rw [HFF.out]; rfl, HL.out.trans (hb'.mono (by omega))⟩
    · have HFF := veil (HF.out.trans (firstBad_none (fun t => exFault t (d + 1)) xs fun q hq => HA.out q hq (by omega)))
      clear HREST HIH
      go_wp2_with fail
      go_ret
      exact ⟨by rw [HFF.out]; rfl, HL.out⟩

set_option maxHeartbeats 8000000 in
set_option maxRecDepth 100000 in
theorem exprFault_k4 (d : Nat) (hd1 : d < 1000) (hd0 : ¬ 10 < d) (ih : ExprFaultAt (d + 1)) (S : Nat → Prop) (n : Int) (f s : ByteArray) (xs : List Ex) (a : Option Addr) (cap : Nat) (w : World) (hf : f.size ≤ maxLen) (hs : s.size ≤ maxLen) (hS : ∀ b, S b → b < w.heap.size)
    (h8 : ¬ 8 < xs.length) (hrest : xs.length = 0 ∨ ∃ b o, a = some ⟨b, o, none⟩ ∧ S b ∧ RowAt (ExAt S w) 5 xs b o) :
    Calls Tryz.prog 87 #[.agg #[.int .i64 4, .int .i64 n, .string f, .string s, .slice a xs.length cap], .int .i64 d] w fun e w' => e = .returned (.int .i64 (exFault (.mk 4 n f s xs) d)) ∧ Below w.heap.size w w' := by
  have HIH := veil ih
  have HREST := veil hrest
  clear ih hrest
  have hd' : ¬ (10 : Int) < (d : Int) := by omega
  have h8' : ¬ (8 : Int) < (xs.length : Int) := by omega
  have HB : Hid (Below w.heap.size w (w.alloc (.cells #[.int .i64 4, .int .i64 n, .string f, .string s, .slice a xs.length cap] 52))) := (Below.refl _ _).alloc (Nat.le_refl _) _
  have HT := veil (exFault_tail (n := n) (f := f) (s := s) hd0 (show isIn 4 1 7 = true from rfl) h8)
  have hin : isIn 4 1 7 = true := rfl
  have HNm : Hid (namesFit 4 f s = (identOk s && ((f.toList == []) || identOk f))) := by show _ = _; rw [noneB_text]; rfl
  have HCt : Hid (countFits 4 xs.length = (true)) := rfl
  cases hA : (n != 0)
  case true =>
    have HF : Hid (exFault (.mk 4 n f s xs) d = 4) := by show _ = _; rw [HT.out, if_pos (Or.inl ⟨bne_iff_ne.1 hA, by decide⟩)]
    clear HT HNm HCt HIH HREST
    go_enter Tryz.func87, Tryz.ntmps87
    go_wp2_with (first | (go_at_call 43; refine (in_any _ _ _ _).mono ?_; rintro e w' ⟨rfl, rfl⟩) | (go_at_call 82; refine (quoteMay_any _ (by assumption) _).mono ?_; rintro e w' ⟨rfl, rfl⟩) | (go_at_call 51; refine (nameMay_any _ (by assumption) _).mono ?_; rintro e w' ⟨rfl, rfl⟩))
    go_ret
    exact ⟨by rw [HF.out]; rfl, HB.out⟩
  have hn : n = 0 := by
    by_cases h : n = 0
    · exact h
    · rw [bne_iff_ne.2 h] at hA; cases hA
  subst hn
  clear hA
  cases hI : (identOk s)
  case false =>
    have HF : Hid (exFault (.mk 4 0 f s xs) d = 4) := by show _ = _; rw [HT.out, if_pos (Or.inr (Or.inl (HNm.out.trans (by rw [hI]; simp))))]
    clear HT HNm HCt HIH HREST
    go_enter Tryz.func87, Tryz.ntmps87
    go_wp2_with (first | (go_at_call 43; refine (in_any _ _ _ _).mono ?_; rintro e w' ⟨rfl, rfl⟩) | (go_at_call 82; refine (quoteMay_any _ (by assumption) _).mono ?_; rintro e w' ⟨rfl, rfl⟩) | (go_at_call 51; refine (nameMay_any _ (by assumption) _).mono ?_; rintro e w' ⟨rfl, rfl⟩))
    go_ret
    exact ⟨by rw [HF.out]; rfl, HB.out⟩
  cases hF : (f.toList == [])
  case false =>
    cases hJ : identOk f
    case false =>
      have HF : Hid (exFault (.mk 4 0 f s xs) d = 4) := by show _ = _; rw [HT.out, if_pos (Or.inr (Or.inl (HNm.out.trans (by rw [hI, hF, hJ]; rfl))))]
      clear HT HNm HCt HIH HREST
      go_enter Tryz.func87, Tryz.ntmps87
      go_wp2_with (first | (go_at_call 43; refine (in_any _ _ _ _).mono ?_; rintro e w' ⟨rfl, rfl⟩) | (go_at_call 82; refine (quoteMay_any _ (by assumption) _).mono ?_; rintro e w' ⟨rfl, rfl⟩) | (go_at_call 51; refine (nameMay_any _ (by assumption) _).mono ?_; rintro e w' ⟨rfl, rfl⟩))
      go_ret
      exact ⟨by rw [HF.out]; rfl, HB.out⟩
    have HF : Hid (exFault (.mk 4 0 f s xs) d = firstBad (fun t => exFault t (d + 1)) xs) := by
      show _ = _
      rw [HT.out, if_neg, if_neg (by rw [show isIn 0 0 999999 = true from rfl]; simp), exsFault_first]
      rintro (h | h | h)
      · exact h.1 rfl
      · rw [HNm.out, hI, hF, hJ] at h; cases h
      · rw [HCt.out] at h; cases h
    clear HT HNm HCt

    go_enter Tryz.func87, Tryz.ntmps87
    go_wp2_with (first | (go_at_call 43; refine (in_any _ _ _ _).mono ?_; rintro e w' ⟨rfl, rfl⟩) | (go_at_call 82; refine (quoteMay_any _ (by assumption) _).mono ?_; rintro e w' ⟨rfl, rfl⟩) | (go_at_call 51; refine (nameMay_any _ (by assumption) _).mono ?_; rintro e w' ⟨rfl, rfl⟩))
    go_loopw [7] (fun i wr => ∃ j : Nat, j ≤ xs.length ∧ i = .int .i64 j ∧ (∀ q (hq : q < xs.length), q < j → exFault xs[q] (d + 1) = 0) ∧ Below (w.heap.size + 1) (w.alloc (.cells #[.int .i64 4, .int .i64 0, .string f, .string s, .slice a xs.length cap] 52)) wr) (fun i _ => xs.length - (intOf i).toNat)
    case atStart => exact ⟨0, Nat.zero_le _, rfl, fun q _ h => absurd h (by omega), Below.refl _ _⟩
    case round =>
      obtain ⟨j, hj, rfl, hall, hbl⟩ := hrel
      have HA := veil hall
      clear hall
      have hc := fun o => hbl.cell (p := ⟨w.heap.size, o, none⟩) (by show w.heap.size < w.heap.size + 1; omega)
      have hbs : w.heap.size + 1 ≤ wr.heap.size := by have := hbl.size; simpa using this
      have HL := veil (HB.out.trans (hbl.mono (by omega)))
      have HBL := veil hbl
      clear hbl
      by_cases hlt : j < xs.length
      · rcases HREST.out with h0 | ⟨b, off, rfl, hb, hrow⟩
        · omega
        have hbw := hS b hb
        obtain ⟨kd, nu, fo, na, va, c0, c1, c2, c3, c4, hcs⟩ := exAt_cells.1 (hrow.get j hlt)
        obtain ⟨va1, va2, va3, rfl⟩ := hcs.slice
        have d0 := (HL.out.cell (p := ⟨b, off + j * 5, none⟩) hbw).trans c0
        have d1 := (HL.out.cell (p := ⟨b, off + j * 5 + 1, none⟩) hbw).trans c1
        have d2 := (HL.out.cell (p := ⟨b, off + j * 5 + 2, none⟩) hbw).trans c2
        have d3 := (HL.out.cell (p := ⟨b, off + j * 5 + 3, none⟩) hbw).trans c3
        have d4 := (HL.out.cell (p := ⟨b, off + j * 5 + 4, none⟩) hbw).trans c4
        have cI := HIH.out S xs[j] (.agg #[.int .i64 kd, .int .i64 nu, .string fo, .string na, .slice va1 va2 va3]) wr (fun b h => by have := hS b h; omega) ⟨_, _, _, _, _, rfl, hcs.keep (Keeps.below HL.out hS)⟩
        have en : ((d + 1 : Nat) : Int) = (d : Int) + 1 := by omega
        rw [en] at cI
        clear c0 c1 c2 c3 c4 hcs hrow HIH HREST
        by_cases hz : exFault xs[j] (d + 1) = 0
        · have hz' : (exFault xs[j] (d + 1) != 0) = false := by simp [hz]
          have HN : Hid (∀ q (hq : q < xs.length), q < j + 1 → exFault xs[q] (d + 1) = 0) := fun q hq hqj => by
            by_cases e : q = j
            · subst e; exact hz
            · exact HA.out q hq (by omega)
          clear hz HA
          generalize exFault xs[j] (d + 1) = fk at *
          go_wp2_with fail
          refine cI.mono ?_
          rintro e w' ⟨rfl, hb'⟩
          go_wp2_with fail
          exact ⟨⟨j + 1, by omega, by go_num, HN.out, HBL.out.trans (hb'.mono hbs)⟩, by simp [intOf]; omega⟩
        · have hz' : (exFault xs[j] (d + 1) != 0) = true := by simp [hz]
          have HFF := veil (HF.out.trans (firstBad_at (fun t => exFault t (d + 1)) xs j hlt (fun q hq => HA.out q (by omega) hq) hz))
          clear hz HA
          generalize exFault xs[j] (d + 1) = fk at *
          go_wp2_with fail
          refine cI.mono ?_
          rintro e w' ⟨rfl, hb'⟩
          go_wp2_with fail
          go_ret
          exact ⟨by rw [HFF.out]; rfl, HL.out.trans (hb'.mono (by omega))⟩
      · have HFF := veil (HF.out.trans (firstBad_none (fun t => exFault t (d + 1)) xs fun q hq => HA.out q hq (by omega)))
        clear HREST HIH
        go_wp2_with fail
        go_ret
        exact ⟨by rw [HFF.out]; rfl, HL.out⟩
  have HF : Hid (exFault (.mk 4 0 f s xs) d = firstBad (fun t => exFault t (d + 1)) xs) := by
    show _ = _
    rw [HT.out, if_neg, if_neg (by rw [show isIn 0 0 999999 = true from rfl]; simp), exsFault_first]
    rintro (h | h | h)
    · exact h.1 rfl
    · rw [HNm.out, hI, hF] at h; cases h
    · rw [HCt.out] at h; cases h
  clear HT HNm HCt

  go_enter Tryz.func87, Tryz.ntmps87
  go_wp2_with (first | (go_at_call 43; refine (in_any _ _ _ _).mono ?_; rintro e w' ⟨rfl, rfl⟩) | (go_at_call 82; refine (quoteMay_any _ (by assumption) _).mono ?_; rintro e w' ⟨rfl, rfl⟩) | (go_at_call 51; refine (nameMay_any _ (by assumption) _).mono ?_; rintro e w' ⟨rfl, rfl⟩))
  go_loopw [7] (fun i wr => ∃ j : Nat, j ≤ xs.length ∧ i = .int .i64 j ∧ (∀ q (hq : q < xs.length), q < j → exFault xs[q] (d + 1) = 0) ∧ Below (w.heap.size + 1) (w.alloc (.cells #[.int .i64 4, .int .i64 0, .string f, .string s, .slice a xs.length cap] 52)) wr) (fun i _ => xs.length - (intOf i).toNat)
  case atStart => exact ⟨0, Nat.zero_le _, rfl, fun q _ h => absurd h (by omega), Below.refl _ _⟩
  case round =>
    obtain ⟨j, hj, rfl, hall, hbl⟩ := hrel
    have HA := veil hall
    clear hall
    have hc := fun o => hbl.cell (p := ⟨w.heap.size, o, none⟩) (by show w.heap.size < w.heap.size + 1; omega)
    have hbs : w.heap.size + 1 ≤ wr.heap.size := by have := hbl.size; simpa using this
    have HL := veil (HB.out.trans (hbl.mono (by omega)))
    have HBL := veil hbl
    clear hbl
    by_cases hlt : j < xs.length
    · rcases HREST.out with h0 | ⟨b, off, rfl, hb, hrow⟩
      · omega
      have hbw := hS b hb
      obtain ⟨kd, nu, fo, na, va, c0, c1, c2, c3, c4, hcs⟩ := exAt_cells.1 (hrow.get j hlt)
      obtain ⟨va1, va2, va3, rfl⟩ := hcs.slice
      have d0 := (HL.out.cell (p := ⟨b, off + j * 5, none⟩) hbw).trans c0
      have d1 := (HL.out.cell (p := ⟨b, off + j * 5 + 1, none⟩) hbw).trans c1
      have d2 := (HL.out.cell (p := ⟨b, off + j * 5 + 2, none⟩) hbw).trans c2
      have d3 := (HL.out.cell (p := ⟨b, off + j * 5 + 3, none⟩) hbw).trans c3
      have d4 := (HL.out.cell (p := ⟨b, off + j * 5 + 4, none⟩) hbw).trans c4
      have cI := HIH.out S xs[j] (.agg #[.int .i64 kd, .int .i64 nu, .string fo, .string na, .slice va1 va2 va3]) wr (fun b h => by have := hS b h; omega) ⟨_, _, _, _, _, rfl, hcs.keep (Keeps.below HL.out hS)⟩
      have en : ((d + 1 : Nat) : Int) = (d : Int) + 1 := by omega
      rw [en] at cI
      clear c0 c1 c2 c3 c4 hcs hrow HIH HREST
      by_cases hz : exFault xs[j] (d + 1) = 0
      · have hz' : (exFault xs[j] (d + 1) != 0) = false := by simp [hz]
        have HN : Hid (∀ q (hq : q < xs.length), q < j + 1 → exFault xs[q] (d + 1) = 0) := fun q hq hqj => by
          by_cases e : q = j
          · subst e; exact hz
          · exact HA.out q hq (by omega)
        clear hz HA
        generalize exFault xs[j] (d + 1) = fk at *
        go_wp2_with fail
        refine cI.mono ?_
        rintro e w' ⟨rfl, hb'⟩
        go_wp2_with fail
        exact ⟨⟨j + 1, by omega, by go_num, HN.out, HBL.out.trans (hb'.mono hbs)⟩, by simp [intOf]; omega⟩
      · have hz' : (exFault xs[j] (d + 1) != 0) = true := by simp [hz]
        have HFF := veil (HF.out.trans (firstBad_at (fun t => exFault t (d + 1)) xs j hlt (fun q hq => HA.out q (by omega) hq) hz))
        clear hz HA
        generalize exFault xs[j] (d + 1) = fk at *
        go_wp2_with fail
        refine cI.mono ?_
        rintro e w' ⟨rfl, hb'⟩
        go_wp2_with fail
        go_ret
        exact ⟨by rw [HFF.out]; rfl, HL.out.trans (hb'.mono (by omega))⟩
    · have HFF := veil (HF.out.trans (firstBad_none (fun t => exFault t (d + 1)) xs fun q hq => HA.out q hq (by omega)))
      clear HREST HIH
      go_wp2_with fail
      go_ret
      exact ⟨by rw [HFF.out]; rfl, HL.out⟩

set_option maxHeartbeats 8000000 in
set_option maxRecDepth 100000 in
theorem exprFault_k5 (d : Nat) (hd1 : d < 1000) (hd0 : ¬ 10 < d) (ih : ExprFaultAt (d + 1)) (S : Nat → Prop) (n : Int) (f s : ByteArray) (xs : List Ex) (a : Option Addr) (cap : Nat) (w : World) (_hf : f.size ≤ maxLen) (_hs : s.size ≤ maxLen) (hS : ∀ b, S b → b < w.heap.size)
    (h8 : ¬ 8 < xs.length) (hrest : xs.length = 0 ∨ ∃ b o, a = some ⟨b, o, none⟩ ∧ S b ∧ RowAt (ExAt S w) 5 xs b o) :
    Calls Tryz.prog 87 #[.agg #[.int .i64 5, .int .i64 n, .string f, .string s, .slice a xs.length cap], .int .i64 d] w fun e w' => e = .returned (.int .i64 (exFault (.mk 5 n f s xs) d)) ∧ Below w.heap.size w w' := by
  have HIH := veil ih
  have HREST := veil hrest
  clear ih hrest
  have hd' : ¬ (10 : Int) < (d : Int) := by omega
  have h8' : ¬ (8 : Int) < (xs.length : Int) := by omega
  have HB : Hid (Below w.heap.size w (w.alloc (.cells #[.int .i64 5, .int .i64 n, .string f, .string s, .slice a xs.length cap] 52))) := (Below.refl _ _).alloc (Nat.le_refl _) _
  have HT := veil (exFault_tail (n := n) (f := f) (s := s) hd0 (show isIn 5 1 7 = true from rfl) h8)
  have hin : isIn 5 1 7 = true := rfl
  have HNm : Hid (namesFit 5 f s = ((s.toList == []) && (f.toList == []))) := by show _ = _; rw [noneB_text, noneB_text]; rfl
  have HCt : Hid (countFits 5 xs.length = ((xs.length : Int) == 2)) := (len_eq xs.length 2).symm
  cases hA : (n != 0)
  case true =>
    have HF : Hid (exFault (.mk 5 n f s xs) d = 4) := by show _ = _; rw [HT.out, if_pos (Or.inl ⟨bne_iff_ne.1 hA, by decide⟩)]
    clear HT HNm HCt HIH HREST
    go_enter Tryz.func87, Tryz.ntmps87
    go_wp2_with (first | (go_at_call 43; refine (in_any _ _ _ _).mono ?_; rintro e w' ⟨rfl, rfl⟩) | (go_at_call 82; refine (quoteMay_any _ (by assumption) _).mono ?_; rintro e w' ⟨rfl, rfl⟩) | (go_at_call 51; refine (nameMay_any _ (by assumption) _).mono ?_; rintro e w' ⟨rfl, rfl⟩))
    go_ret
    exact ⟨by rw [HF.out]; rfl, HB.out⟩
  have hn : n = 0 := by
    by_cases h : n = 0
    · exact h
    · rw [bne_iff_ne.2 h] at hA; cases hA
  subst hn
  clear hA
  cases hF : (f.toList == [])
  case false =>
    have HF : Hid (exFault (.mk 5 0 f s xs) d = 4) := by show _ = _; rw [HT.out, if_pos (Or.inr (Or.inl (HNm.out.trans (by rw [hF]; simp))))]
    clear HT HNm HCt HIH HREST
    go_enter Tryz.func87, Tryz.ntmps87
    go_wp2_with (first | (go_at_call 43; refine (in_any _ _ _ _).mono ?_; rintro e w' ⟨rfl, rfl⟩) | (go_at_call 82; refine (quoteMay_any _ (by assumption) _).mono ?_; rintro e w' ⟨rfl, rfl⟩) | (go_at_call 51; refine (nameMay_any _ (by assumption) _).mono ?_; rintro e w' ⟨rfl, rfl⟩))
    go_ret
    exact ⟨by rw [HF.out]; rfl, HB.out⟩
  cases hS0 : (s.toList == [])
  case false =>
    have HF : Hid (exFault (.mk 5 0 f s xs) d = 4) := by show _ = _; rw [HT.out, if_pos (Or.inr (Or.inl (HNm.out.trans (by rw [hS0]; simp))))]
    clear HT HNm HCt HIH HREST
    go_enter Tryz.func87, Tryz.ntmps87
    go_wp2_with (first | (go_at_call 43; refine (in_any _ _ _ _).mono ?_; rintro e w' ⟨rfl, rfl⟩) | (go_at_call 82; refine (quoteMay_any _ (by assumption) _).mono ?_; rintro e w' ⟨rfl, rfl⟩) | (go_at_call 51; refine (nameMay_any _ (by assumption) _).mono ?_; rintro e w' ⟨rfl, rfl⟩))
    go_ret
    exact ⟨by rw [HF.out]; rfl, HB.out⟩
  cases hC : ((xs.length : Int) == 2)
  case false =>
    have HF : Hid (exFault (.mk 5 0 f s xs) d = 4) := by show _ = _; rw [HT.out, if_pos (Or.inr (Or.inr (HCt.out.trans hC)))]
    clear HT HNm HCt HIH HREST
    go_enter Tryz.func87, Tryz.ntmps87
    go_wp2_with (first | (go_at_call 43; refine (in_any _ _ _ _).mono ?_; rintro e w' ⟨rfl, rfl⟩) | (go_at_call 82; refine (quoteMay_any _ (by assumption) _).mono ?_; rintro e w' ⟨rfl, rfl⟩) | (go_at_call 51; refine (nameMay_any _ (by assumption) _).mono ?_; rintro e w' ⟨rfl, rfl⟩))
    go_ret
    exact ⟨by rw [HF.out]; rfl, HB.out⟩
  have HF : Hid (exFault (.mk 5 0 f s xs) d = firstBad (fun t => exFault t (d + 1)) xs) := by
    show _ = _
    rw [HT.out, if_neg, if_neg (by rw [show isIn 0 0 999999 = true from rfl]; simp), exsFault_first]
    rintro (h | h | h)
    · exact h.1 rfl
    · rw [HNm.out, hS0, hF] at h; cases h
    · rw [HCt.out, hC] at h; cases h
  clear HT HNm HCt

  go_enter Tryz.func87, Tryz.ntmps87
  go_wp2_with (first | (go_at_call 43; refine (in_any _ _ _ _).mono ?_; rintro e w' ⟨rfl, rfl⟩) | (go_at_call 82; refine (quoteMay_any _ (by assumption) _).mono ?_; rintro e w' ⟨rfl, rfl⟩) | (go_at_call 51; refine (nameMay_any _ (by assumption) _).mono ?_; rintro e w' ⟨rfl, rfl⟩))
  go_loopw [7] (fun i wr => ∃ j : Nat, j ≤ xs.length ∧ i = .int .i64 j ∧ (∀ q (hq : q < xs.length), q < j → exFault xs[q] (d + 1) = 0) ∧ Below (w.heap.size + 1) (w.alloc (.cells #[.int .i64 5, .int .i64 0, .string f, .string s, .slice a xs.length cap] 52)) wr) (fun i _ => xs.length - (intOf i).toNat)
  case atStart => exact ⟨0, Nat.zero_le _, rfl, fun q _ h => absurd h (by omega), Below.refl _ _⟩
  case round =>
    obtain ⟨j, hj, rfl, hall, hbl⟩ := hrel
    have HA := veil hall
    clear hall
    have hc := fun o => hbl.cell (p := ⟨w.heap.size, o, none⟩) (by show w.heap.size < w.heap.size + 1; omega)
    have hbs : w.heap.size + 1 ≤ wr.heap.size := by have := hbl.size; simpa using this
    have HL := veil (HB.out.trans (hbl.mono (by omega)))
    have HBL := veil hbl
    clear hbl
    by_cases hlt : j < xs.length
    · rcases HREST.out with h0 | ⟨b, off, rfl, hb, hrow⟩
      · omega
      have hbw := hS b hb
      obtain ⟨kd, nu, fo, na, va, c0, c1, c2, c3, c4, hcs⟩ := exAt_cells.1 (hrow.get j hlt)
      obtain ⟨va1, va2, va3, rfl⟩ := hcs.slice
      have d0 := (HL.out.cell (p := ⟨b, off + j * 5, none⟩) hbw).trans c0
      have d1 := (HL.out.cell (p := ⟨b, off + j * 5 + 1, none⟩) hbw).trans c1
      have d2 := (HL.out.cell (p := ⟨b, off + j * 5 + 2, none⟩) hbw).trans c2
      have d3 := (HL.out.cell (p := ⟨b, off + j * 5 + 3, none⟩) hbw).trans c3
      have d4 := (HL.out.cell (p := ⟨b, off + j * 5 + 4, none⟩) hbw).trans c4
      have cI := HIH.out S xs[j] (.agg #[.int .i64 kd, .int .i64 nu, .string fo, .string na, .slice va1 va2 va3]) wr (fun b h => by have := hS b h; omega) ⟨_, _, _, _, _, rfl, hcs.keep (Keeps.below HL.out hS)⟩
      have en : ((d + 1 : Nat) : Int) = (d : Int) + 1 := by omega
      rw [en] at cI
      clear c0 c1 c2 c3 c4 hcs hrow HIH HREST
      by_cases hz : exFault xs[j] (d + 1) = 0
      · have hz' : (exFault xs[j] (d + 1) != 0) = false := by simp [hz]
        have HN : Hid (∀ q (hq : q < xs.length), q < j + 1 → exFault xs[q] (d + 1) = 0) := fun q hq hqj => by
          by_cases e : q = j
          · subst e; exact hz
          · exact HA.out q hq (by omega)
        clear hz HA
        generalize exFault xs[j] (d + 1) = fk at *
        go_wp2_with fail
        refine cI.mono ?_
        rintro e w' ⟨rfl, hb'⟩
        go_wp2_with fail
        exact ⟨⟨j + 1, by omega, by go_num, HN.out, HBL.out.trans (hb'.mono hbs)⟩, by simp [intOf]; omega⟩
      · have hz' : (exFault xs[j] (d + 1) != 0) = true := by simp [hz]
        have HFF := veil (HF.out.trans (firstBad_at (fun t => exFault t (d + 1)) xs j hlt (fun q hq => HA.out q (by omega) hq) hz))
        clear hz HA
        generalize exFault xs[j] (d + 1) = fk at *
        go_wp2_with fail
        refine cI.mono ?_
        rintro e w' ⟨rfl, hb'⟩
        go_wp2_with fail
        go_ret
        exact ⟨by rw [HFF.out]; rfl, HL.out.trans (hb'.mono (by omega))⟩
    · have HFF := veil (HF.out.trans (firstBad_none (fun t => exFault t (d + 1)) xs fun q hq => HA.out q hq (by omega)))
      clear HREST HIH
      go_wp2_with fail
      go_ret
      exact ⟨by rw [HFF.out]; rfl, HL.out⟩

set_option maxHeartbeats 8000000 in
set_option maxRecDepth 100000 in
theorem exprFault_k6 (d : Nat) (hd1 : d < 1000) (hd0 : ¬ 10 < d) (ih : ExprFaultAt (d + 1)) (S : Nat → Prop) (n : Int) (f s : ByteArray) (xs : List Ex) (a : Option Addr) (cap : Nat) (w : World) (_hf : f.size ≤ maxLen) (_hs : s.size ≤ maxLen) (hS : ∀ b, S b → b < w.heap.size)
    (h8 : ¬ 8 < xs.length) (hrest : xs.length = 0 ∨ ∃ b o, a = some ⟨b, o, none⟩ ∧ S b ∧ RowAt (ExAt S w) 5 xs b o) :
    Calls Tryz.prog 87 #[.agg #[.int .i64 6, .int .i64 n, .string f, .string s, .slice a xs.length cap], .int .i64 d] w fun e w' => e = .returned (.int .i64 (exFault (.mk 6 n f s xs) d)) ∧ Below w.heap.size w w' := by
  have HIH := veil ih
  have HREST := veil hrest
  clear ih hrest
  have hd' : ¬ (10 : Int) < (d : Int) := by omega
  have h8' : ¬ (8 : Int) < (xs.length : Int) := by omega
  have HB : Hid (Below w.heap.size w (w.alloc (.cells #[.int .i64 6, .int .i64 n, .string f, .string s, .slice a xs.length cap] 52))) := (Below.refl _ _).alloc (Nat.le_refl _) _
  have HT := veil (exFault_tail (n := n) (f := f) (s := s) hd0 (show isIn 6 1 7 = true from rfl) h8)
  have hin : isIn 6 1 7 = true := rfl
  have HNm : Hid (namesFit 6 f s = ((s.toList == []) && (f.toList == []))) := by show _ = _; rw [noneB_text, noneB_text]; rfl
  have HCt : Hid (countFits 6 xs.length = (decide (0 < xs.length))) := rfl
  cases hA : (n != 0)
  case true =>
    have HF : Hid (exFault (.mk 6 n f s xs) d = 4) := by show _ = _; rw [HT.out, if_pos (Or.inl ⟨bne_iff_ne.1 hA, by decide⟩)]
    clear HT HNm HCt HIH HREST
    go_enter Tryz.func87, Tryz.ntmps87
    go_wp2_with (first | (go_at_call 43; refine (in_any _ _ _ _).mono ?_; rintro e w' ⟨rfl, rfl⟩) | (go_at_call 82; refine (quoteMay_any _ (by assumption) _).mono ?_; rintro e w' ⟨rfl, rfl⟩) | (go_at_call 51; refine (nameMay_any _ (by assumption) _).mono ?_; rintro e w' ⟨rfl, rfl⟩))
    go_ret
    exact ⟨by rw [HF.out]; rfl, HB.out⟩
  have hn : n = 0 := by
    by_cases h : n = 0
    · exact h
    · rw [bne_iff_ne.2 h] at hA; cases hA
  subst hn
  clear hA
  cases hF : (f.toList == [])
  case false =>
    have HF : Hid (exFault (.mk 6 0 f s xs) d = 4) := by show _ = _; rw [HT.out, if_pos (Or.inr (Or.inl (HNm.out.trans (by rw [hF]; simp))))]
    clear HT HNm HCt HIH HREST
    go_enter Tryz.func87, Tryz.ntmps87
    go_wp2_with (first | (go_at_call 43; refine (in_any _ _ _ _).mono ?_; rintro e w' ⟨rfl, rfl⟩) | (go_at_call 82; refine (quoteMay_any _ (by assumption) _).mono ?_; rintro e w' ⟨rfl, rfl⟩) | (go_at_call 51; refine (nameMay_any _ (by assumption) _).mono ?_; rintro e w' ⟨rfl, rfl⟩))
    go_ret
    exact ⟨by rw [HF.out]; rfl, HB.out⟩
  cases hS0 : (s.toList == [])
  case false =>
    have HF : Hid (exFault (.mk 6 0 f s xs) d = 4) := by show _ = _; rw [HT.out, if_pos (Or.inr (Or.inl (HNm.out.trans (by rw [hS0]; simp))))]
    clear HT HNm HCt HIH HREST
    go_enter Tryz.func87, Tryz.ntmps87
    go_wp2_with (first | (go_at_call 43; refine (in_any _ _ _ _).mono ?_; rintro e w' ⟨rfl, rfl⟩) | (go_at_call 82; refine (quoteMay_any _ (by assumption) _).mono ?_; rintro e w' ⟨rfl, rfl⟩) | (go_at_call 51; refine (nameMay_any _ (by assumption) _).mono ?_; rintro e w' ⟨rfl, rfl⟩))
    go_ret
    exact ⟨by rw [HF.out]; rfl, HB.out⟩
  by_cases hC : 0 < xs.length
  case neg =>
    have hC' : decide ((1 : Int) ≤ (xs.length : Int)) = false := decide_eq_false (by omega)
    have HF : Hid (exFault (.mk 6 0 f s xs) d = 4) := by show _ = _; rw [HT.out, if_pos (Or.inr (Or.inr (HCt.out.trans (decide_eq_false hC))))]
    clear HT HNm HCt HIH HREST hC
    go_enter Tryz.func87, Tryz.ntmps87
    go_wp2_with (first | (go_at_call 43; refine (in_any _ _ _ _).mono ?_; rintro e w' ⟨rfl, rfl⟩) | (go_at_call 82; refine (quoteMay_any _ (by assumption) _).mono ?_; rintro e w' ⟨rfl, rfl⟩) | (go_at_call 51; refine (nameMay_any _ (by assumption) _).mono ?_; rintro e w' ⟨rfl, rfl⟩))
    go_ret
    exact ⟨by rw [HF.out]; rfl, HB.out⟩
  have hC' : (1 : Int) ≤ (xs.length : Int) := by omega
  have HF : Hid (exFault (.mk 6 0 f s xs) d = firstBad (fun t => exFault t (d + 1)) xs) := by
    show _ = _
    rw [HT.out, if_neg, if_neg (by rw [show isIn 0 0 999999 = true from rfl]; simp), exsFault_first]
    rintro (h | h | h)
    · exact h.1 rfl
    · rw [HNm.out, hS0, hF] at h; cases h
    · rw [HCt.out, decide_eq_true hC] at h; cases h
  clear HT HNm HCt

  go_enter Tryz.func87, Tryz.ntmps87
  go_wp2_with (first | (go_at_call 43; refine (in_any _ _ _ _).mono ?_; rintro e w' ⟨rfl, rfl⟩) | (go_at_call 82; refine (quoteMay_any _ (by assumption) _).mono ?_; rintro e w' ⟨rfl, rfl⟩) | (go_at_call 51; refine (nameMay_any _ (by assumption) _).mono ?_; rintro e w' ⟨rfl, rfl⟩))
  go_loopw [7] (fun i wr => ∃ j : Nat, j ≤ xs.length ∧ i = .int .i64 j ∧ (∀ q (hq : q < xs.length), q < j → exFault xs[q] (d + 1) = 0) ∧ Below (w.heap.size + 1) (w.alloc (.cells #[.int .i64 6, .int .i64 0, .string f, .string s, .slice a xs.length cap] 52)) wr) (fun i _ => xs.length - (intOf i).toNat)
  case atStart => exact ⟨0, Nat.zero_le _, rfl, fun q _ h => absurd h (by omega), Below.refl _ _⟩
  case round =>
    obtain ⟨j, hj, rfl, hall, hbl⟩ := hrel
    have HA := veil hall
    clear hall
    have hc := fun o => hbl.cell (p := ⟨w.heap.size, o, none⟩) (by show w.heap.size < w.heap.size + 1; omega)
    have hbs : w.heap.size + 1 ≤ wr.heap.size := by have := hbl.size; simpa using this
    have HL := veil (HB.out.trans (hbl.mono (by omega)))
    have HBL := veil hbl
    clear hbl
    by_cases hlt : j < xs.length
    · rcases HREST.out with h0 | ⟨b, off, rfl, hb, hrow⟩
      · omega
      have hbw := hS b hb
      obtain ⟨kd, nu, fo, na, va, c0, c1, c2, c3, c4, hcs⟩ := exAt_cells.1 (hrow.get j hlt)
      obtain ⟨va1, va2, va3, rfl⟩ := hcs.slice
      have d0 := (HL.out.cell (p := ⟨b, off + j * 5, none⟩) hbw).trans c0
      have d1 := (HL.out.cell (p := ⟨b, off + j * 5 + 1, none⟩) hbw).trans c1
      have d2 := (HL.out.cell (p := ⟨b, off + j * 5 + 2, none⟩) hbw).trans c2
      have d3 := (HL.out.cell (p := ⟨b, off + j * 5 + 3, none⟩) hbw).trans c3
      have d4 := (HL.out.cell (p := ⟨b, off + j * 5 + 4, none⟩) hbw).trans c4
      have cI := HIH.out S xs[j] (.agg #[.int .i64 kd, .int .i64 nu, .string fo, .string na, .slice va1 va2 va3]) wr (fun b h => by have := hS b h; omega) ⟨_, _, _, _, _, rfl, hcs.keep (Keeps.below HL.out hS)⟩
      have en : ((d + 1 : Nat) : Int) = (d : Int) + 1 := by omega
      rw [en] at cI
      clear c0 c1 c2 c3 c4 hcs hrow HIH HREST
      by_cases hz : exFault xs[j] (d + 1) = 0
      · have hz' : (exFault xs[j] (d + 1) != 0) = false := by simp [hz]
        have HN : Hid (∀ q (hq : q < xs.length), q < j + 1 → exFault xs[q] (d + 1) = 0) := fun q hq hqj => by
          by_cases e : q = j
          · subst e; exact hz
          · exact HA.out q hq (by omega)
        clear hz HA
        generalize exFault xs[j] (d + 1) = fk at *
        go_wp2_with fail
        refine cI.mono ?_
        rintro e w' ⟨rfl, hb'⟩
        go_wp2_with fail
        exact ⟨⟨j + 1, by omega, by go_num, HN.out, HBL.out.trans (hb'.mono hbs)⟩, by simp [intOf]; omega⟩
      · have hz' : (exFault xs[j] (d + 1) != 0) = true := by simp [hz]
        have HFF := veil (HF.out.trans (firstBad_at (fun t => exFault t (d + 1)) xs j hlt (fun q hq => HA.out q (by omega) hq) hz))
        clear hz HA
        generalize exFault xs[j] (d + 1) = fk at *
        go_wp2_with fail
        refine cI.mono ?_
        rintro e w' ⟨rfl, hb'⟩
        go_wp2_with fail
        go_ret
        exact ⟨by rw [HFF.out]; rfl, HL.out.trans (hb'.mono (by omega))⟩
    · have HFF := veil (HF.out.trans (firstBad_none (fun t => exFault t (d + 1)) xs fun q hq => HA.out q hq (by omega)))
      clear HREST HIH
      go_wp2_with fail
      go_ret
      exact ⟨by rw [HFF.out]; rfl, HL.out⟩

set_option maxHeartbeats 8000000 in
set_option maxRecDepth 100000 in
theorem exprFault_k7 (d : Nat) (hd1 : d < 1000) (hd0 : ¬ 10 < d) (ih : ExprFaultAt (d + 1)) (S : Nat → Prop) (n : Int) (f s : ByteArray) (xs : List Ex) (a : Option Addr) (cap : Nat) (w : World) (_hf : f.size ≤ maxLen) (_hs : s.size ≤ maxLen) (hS : ∀ b, S b → b < w.heap.size)
    (h8 : ¬ 8 < xs.length) (hrest : xs.length = 0 ∨ ∃ b o, a = some ⟨b, o, none⟩ ∧ S b ∧ RowAt (ExAt S w) 5 xs b o) :
    Calls Tryz.prog 87 #[.agg #[.int .i64 7, .int .i64 n, .string f, .string s, .slice a xs.length cap], .int .i64 d] w fun e w' => e = .returned (.int .i64 (exFault (.mk 7 n f s xs) d)) ∧ Below w.heap.size w w' := by
  have HIH := veil ih
  have HREST := veil hrest
  clear ih hrest
  have hd' : ¬ (10 : Int) < (d : Int) := by omega
  have h8' : ¬ (8 : Int) < (xs.length : Int) := by omega
  have HB : Hid (Below w.heap.size w (w.alloc (.cells #[.int .i64 7, .int .i64 n, .string f, .string s, .slice a xs.length cap] 52))) := (Below.refl _ _).alloc (Nat.le_refl _) _
  have HT := veil (exFault_tail (n := n) (f := f) (s := s) hd0 (show isIn 7 1 7 = true from rfl) h8)
  have hin : isIn 7 1 7 = true := rfl
  have HNm : Hid (namesFit 7 f s = ((s.toList == []) && (f.toList == []))) := by show _ = _; rw [noneB_text, noneB_text]; rfl
  have HCt : Hid (countFits 7 xs.length = ((xs.length : Int) == 2)) := (len_eq xs.length 2).symm
  cases hA : (n != 0)
  case true =>
    have HF : Hid (exFault (.mk 7 n f s xs) d = 4) := by show _ = _; rw [HT.out, if_pos (Or.inl ⟨bne_iff_ne.1 hA, by decide⟩)]
    clear HT HNm HCt HIH HREST
    go_enter Tryz.func87, Tryz.ntmps87
    go_wp2_with (first | (go_at_call 43; refine (in_any _ _ _ _).mono ?_; rintro e w' ⟨rfl, rfl⟩) | (go_at_call 82; refine (quoteMay_any _ (by assumption) _).mono ?_; rintro e w' ⟨rfl, rfl⟩) | (go_at_call 51; refine (nameMay_any _ (by assumption) _).mono ?_; rintro e w' ⟨rfl, rfl⟩))
    go_ret
    exact ⟨by rw [HF.out]; rfl, HB.out⟩
  have hn : n = 0 := by
    by_cases h : n = 0
    · exact h
    · rw [bne_iff_ne.2 h] at hA; cases hA
  subst hn
  clear hA
  cases hF : (f.toList == [])
  case false =>
    have HF : Hid (exFault (.mk 7 0 f s xs) d = 4) := by show _ = _; rw [HT.out, if_pos (Or.inr (Or.inl (HNm.out.trans (by rw [hF]; simp))))]
    clear HT HNm HCt HIH HREST
    go_enter Tryz.func87, Tryz.ntmps87
    go_wp2_with (first | (go_at_call 43; refine (in_any _ _ _ _).mono ?_; rintro e w' ⟨rfl, rfl⟩) | (go_at_call 82; refine (quoteMay_any _ (by assumption) _).mono ?_; rintro e w' ⟨rfl, rfl⟩) | (go_at_call 51; refine (nameMay_any _ (by assumption) _).mono ?_; rintro e w' ⟨rfl, rfl⟩))
    go_ret
    exact ⟨by rw [HF.out]; rfl, HB.out⟩
  cases hS0 : (s.toList == [])
  case false =>
    have HF : Hid (exFault (.mk 7 0 f s xs) d = 4) := by show _ = _; rw [HT.out, if_pos (Or.inr (Or.inl (HNm.out.trans (by rw [hS0]; simp))))]
    clear HT HNm HCt HIH HREST
    go_enter Tryz.func87, Tryz.ntmps87
    go_wp2_with (first | (go_at_call 43; refine (in_any _ _ _ _).mono ?_; rintro e w' ⟨rfl, rfl⟩) | (go_at_call 82; refine (quoteMay_any _ (by assumption) _).mono ?_; rintro e w' ⟨rfl, rfl⟩) | (go_at_call 51; refine (nameMay_any _ (by assumption) _).mono ?_; rintro e w' ⟨rfl, rfl⟩))
    go_ret
    exact ⟨by rw [HF.out]; rfl, HB.out⟩
  cases hC : ((xs.length : Int) == 2)
  case false =>
    have HF : Hid (exFault (.mk 7 0 f s xs) d = 4) := by show _ = _; rw [HT.out, if_pos (Or.inr (Or.inr (HCt.out.trans hC)))]
    clear HT HNm HCt HIH HREST
    go_enter Tryz.func87, Tryz.ntmps87
    go_wp2_with (first | (go_at_call 43; refine (in_any _ _ _ _).mono ?_; rintro e w' ⟨rfl, rfl⟩) | (go_at_call 82; refine (quoteMay_any _ (by assumption) _).mono ?_; rintro e w' ⟨rfl, rfl⟩) | (go_at_call 51; refine (nameMay_any _ (by assumption) _).mono ?_; rintro e w' ⟨rfl, rfl⟩))
    go_ret
    exact ⟨by rw [HF.out]; rfl, HB.out⟩
  have HF : Hid (exFault (.mk 7 0 f s xs) d = firstBad (fun t => exFault t (d + 1)) xs) := by
    show _ = _
    rw [HT.out, if_neg, if_neg (by rw [show isIn 0 0 999999 = true from rfl]; simp), exsFault_first]
    rintro (h | h | h)
    · exact h.1 rfl
    · rw [HNm.out, hS0, hF] at h; cases h
    · rw [HCt.out, hC] at h; cases h
  clear HT HNm HCt

  go_enter Tryz.func87, Tryz.ntmps87
  go_wp2_with (first | (go_at_call 43; refine (in_any _ _ _ _).mono ?_; rintro e w' ⟨rfl, rfl⟩) | (go_at_call 82; refine (quoteMay_any _ (by assumption) _).mono ?_; rintro e w' ⟨rfl, rfl⟩) | (go_at_call 51; refine (nameMay_any _ (by assumption) _).mono ?_; rintro e w' ⟨rfl, rfl⟩))
  go_loopw [7] (fun i wr => ∃ j : Nat, j ≤ xs.length ∧ i = .int .i64 j ∧ (∀ q (hq : q < xs.length), q < j → exFault xs[q] (d + 1) = 0) ∧ Below (w.heap.size + 1) (w.alloc (.cells #[.int .i64 7, .int .i64 0, .string f, .string s, .slice a xs.length cap] 52)) wr) (fun i _ => xs.length - (intOf i).toNat)
  case atStart => exact ⟨0, Nat.zero_le _, rfl, fun q _ h => absurd h (by omega), Below.refl _ _⟩
  case round =>
    obtain ⟨j, hj, rfl, hall, hbl⟩ := hrel
    have HA := veil hall
    clear hall
    have hc := fun o => hbl.cell (p := ⟨w.heap.size, o, none⟩) (by show w.heap.size < w.heap.size + 1; omega)
    have hbs : w.heap.size + 1 ≤ wr.heap.size := by have := hbl.size; simpa using this
    have HL := veil (HB.out.trans (hbl.mono (by omega)))
    have HBL := veil hbl
    clear hbl
    by_cases hlt : j < xs.length
    · rcases HREST.out with h0 | ⟨b, off, rfl, hb, hrow⟩
      · omega
      have hbw := hS b hb
      obtain ⟨kd, nu, fo, na, va, c0, c1, c2, c3, c4, hcs⟩ := exAt_cells.1 (hrow.get j hlt)
      obtain ⟨va1, va2, va3, rfl⟩ := hcs.slice
      have d0 := (HL.out.cell (p := ⟨b, off + j * 5, none⟩) hbw).trans c0
      have d1 := (HL.out.cell (p := ⟨b, off + j * 5 + 1, none⟩) hbw).trans c1
      have d2 := (HL.out.cell (p := ⟨b, off + j * 5 + 2, none⟩) hbw).trans c2
      have d3 := (HL.out.cell (p := ⟨b, off + j * 5 + 3, none⟩) hbw).trans c3
      have d4 := (HL.out.cell (p := ⟨b, off + j * 5 + 4, none⟩) hbw).trans c4
      have cI := HIH.out S xs[j] (.agg #[.int .i64 kd, .int .i64 nu, .string fo, .string na, .slice va1 va2 va3]) wr (fun b h => by have := hS b h; omega) ⟨_, _, _, _, _, rfl, hcs.keep (Keeps.below HL.out hS)⟩
      have en : ((d + 1 : Nat) : Int) = (d : Int) + 1 := by omega
      rw [en] at cI
      clear c0 c1 c2 c3 c4 hcs hrow HIH HREST
      by_cases hz : exFault xs[j] (d + 1) = 0
      · have hz' : (exFault xs[j] (d + 1) != 0) = false := by simp [hz]
        have HN : Hid (∀ q (hq : q < xs.length), q < j + 1 → exFault xs[q] (d + 1) = 0) := fun q hq hqj => by
          by_cases e : q = j
          · subst e; exact hz
          · exact HA.out q hq (by omega)
        clear hz HA
        generalize exFault xs[j] (d + 1) = fk at *
        go_wp2_with fail
        refine cI.mono ?_
        rintro e w' ⟨rfl, hb'⟩
        go_wp2_with fail
        exact ⟨⟨j + 1, by omega, by go_num, HN.out, HBL.out.trans (hb'.mono hbs)⟩, by simp [intOf]; omega⟩
      · have hz' : (exFault xs[j] (d + 1) != 0) = true := by simp [hz]
        have HFF := veil (HF.out.trans (firstBad_at (fun t => exFault t (d + 1)) xs j hlt (fun q hq => HA.out q (by omega) hq) hz))
        clear hz HA
        generalize exFault xs[j] (d + 1) = fk at *
        go_wp2_with fail
        refine cI.mono ?_
        rintro e w' ⟨rfl, hb'⟩
        go_wp2_with fail
        go_ret
        exact ⟨by rw [HFF.out]; rfl, HL.out.trans (hb'.mono (by omega))⟩
    · have HFF := veil (HF.out.trans (firstBad_none (fun t => exFault t (d + 1)) xs fun q hq => HA.out q hq (by omega)))
      clear HREST HIH
      go_wp2_with fail
      go_ret
      exact ⟨by rw [HFF.out]; rfl, HL.out⟩

theorem exprFault_any : ∀ (m d : Nat), 10 < d + m → d < 1000 → ExprFaultAt d := by
  intro m
  induction m with
  | zero =>
    rintro d hd hd1 S t v w hS ⟨k, n, f, s, va, rfl, xs, rfl, hf, hs, hsl⟩
    have hd' : (10 : Int) < (d : Int) := by omega
    have HF : Hid (exFault (.mk k n f s xs) d = 1) := by show _ = _; rw [exFault, if_pos (by omega)]
    obtain ⟨a, c, cap, rfl⟩ := hsl.slice
    clear hsl
    go_enter Tryz.func87, Tryz.ntmps87
    go_wp2_with fail
    go_ret
    exact ⟨by rw [HF.out]; rfl, (Below.refl _ _).alloc (Nat.le_refl _) _⟩
  | succ m ih =>
    rintro d hd hd1 S t v w hS ⟨k, n, f, s, va, rfl, xs, rfl, hf, hs, hsl⟩
    have HIH := veil ih
    clear ih
    by_cases hd0 : 10 < d
    · have hd' : (10 : Int) < (d : Int) := by omega
      have HF : Hid (exFault (.mk k n f s xs) d = 1) := by show _ = _; rw [exFault, if_pos (by omega)]
      obtain ⟨a, c, cap, rfl⟩ := hsl.slice
      clear hsl
      go_enter Tryz.func87, Tryz.ntmps87
      go_wp2_with fail
      go_ret
      exact ⟨by rw [HF.out]; rfl, (Below.refl _ _).alloc (Nat.le_refl _) _⟩
    have hd' : ¬ (10 : Int) < (d : Int) := by omega
    obtain ⟨a, cap, rfl, ⟨hlen, hlenC⟩, hrest⟩ := hsl
    have hlen' := hlen
    unfold maxLen at hlen
    cases hk : isIn k 1 7
    · have HF : Hid (exFault (.mk k n f s xs) d = 3) := by show _ = _; rw [exFault, if_neg hd0, if_pos hk]
      clear hrest HIH
      go_enter Tryz.func87, Tryz.ntmps87
      go_wp2_with (go_at_call 43; refine (in_any _ _ _ _).mono ?_; rintro e w' ⟨rfl, rfl⟩)
      go_ret
      exact ⟨by rw [HF.out]; rfl, (Below.refl _ _).alloc (Nat.le_refl _) _⟩
    by_cases h8 : 8 < xs.length
    · have HF : Hid (exFault (.mk k n f s xs) d = 1) := by show _ = _; rw [exFault, if_neg hd0, if_neg (by rw [hk]; simp), if_pos h8]
      have h8' : (8 : Int) < (xs.length : Int) := by omega
      clear hrest HIH
      go_enter Tryz.func87, Tryz.ntmps87
      go_wp2_with (go_at_call 43; refine (in_any _ _ _ _).mono ?_; rintro e w' ⟨rfl, rfl⟩)
      go_ret
      exact ⟨by rw [HF.out]; rfl, (Below.refl _ _).alloc (Nat.le_refl _) _⟩
    have hI := HIH.out (d + 1) (by omega) (by omega)
    have hk7 : k = 1 ∨ k = 2 ∨ k = 3 ∨ k = 4 ∨ k = 5 ∨ k = 6 ∨ k = 7 := by simp [isIn] at hk; omega
    rcases hk7 with rfl | rfl | rfl | rfl | rfl | rfl | rfl
    · exact exprFault_k1 d hd1 hd0 hI S n f s xs a cap w hf hs hS h8 hrest
    · exact exprFault_k2 d hd1 hd0 hI S n f s xs a cap w hf hs hS h8 hrest
    · exact exprFault_k3 d hd1 hd0 hI S n f s xs a cap w hf hs hS h8 hrest
    · exact exprFault_k4 d hd1 hd0 hI S n f s xs a cap w hf hs hS h8 hrest
    · exact exprFault_k5 d hd1 hd0 hI S n f s xs a cap w hf hs hS h8 hrest
    · exact exprFault_k6 d hd1 hd0 hI S n f s xs a cap w hf hs hS h8 hrest
    · exact exprFault_k7 d hd1 hd0 hI S n f s xs a cap w hf hs hS h8 hrest

end Go.Proofs.YtieoddnaknpmlabGreatDoor

/- What the reference's funcFault and ModuleFault answer, at every function and module: the first fault. -/
namespace Go.Proofs.YtieoddnaknpmlabGreatDoor
open Go.RowKit
set_option maxRecDepth 100000

set_option maxHeartbeats 8000000 in
set_option maxRecDepth 100000 in
theorem funcFault_any (S : Nat → Prop) (x : Fu) (v : Value) (w : World) (hS : ∀ b, S b → b < w.heap.size) (hx : FuIs S w x v) :
    Calls Tryz.prog 53 #[v] w fun e w' => e = .returned (.int .i64 (fuFault x)) ∧ Below w.heap.size w w' := by
  obtain ⟨vp, k, f, n, va, k', n', f', s', va', rfl, hsz, hsz1, hps, hcs, hce⟩ := hx
  obtain ⟨va1, va2, va3, rfl⟩ := hcs.slice
  obtain ⟨ve1, ve2, ve3, rfl⟩ := hce.slice
  obtain ⟨vp1, vp3, rfl, ⟨hplen, hplenC⟩, hprest⟩ := hps
  unfold maxLen at hplen
  have HREST := veil hprest
  have HC := veil hcs
  have HE := veil hce
  clear hcs hce hprest
  have HT : Hid (fuFault x = if identOk x.name = false ∨ noneOrIdent x.var = false then 4 else if 8 < x.params.length then 1 else
    if firstBad fdFault x.params ≠ 0 then firstBad fdFault x.params else if tyFault x.result 1 ≠ 0 then tyFault x.result 1 else exFault x.body 1) := rfl
  have HV : Hid (noneOrIdent x.var = ((x.var.toList == []) || identOk x.var)) := by show _ = _; rw [noneB_text]; rfl
  have HB : Hid (Below w.heap.size w (w.alloc (.cells #[.string x.name, .string x.var, .slice vp1 x.params.length vp3, .int .i64 k, .string f, .string n, .slice va1 va2 va3, .int .i64 k', .int .i64 n', .string f', .string s', .slice ve1 ve2 ve3] 54))) := (Below.refl _ _).alloc (Nat.le_refl _) _
  cases h : identOk x.name
  · rw [if_pos (Or.inl h)] at HT
    go_enter Tryz.func53, Tryz.ntmps53
    go_wp2_with fail
    refine (nameMay_any x.name hsz _).mono ?_
    rintro e w1 ⟨rfl, rfl⟩
    rw [h]
    go_wp2_with fail
    go_ret
    exact ⟨by rw [HT.out]; rfl, HB.out⟩
  have hvar : ((x.var.toList == []) = false ∧ identOk x.var = false) ∨ (noneOrIdent x.var = true ∧ ((x.var.toList == []) = true ∨ ((x.var.toList == []) = false ∧ identOk x.var = true))) := by
    rw [HV.out]
    cases (x.var.toList == []) <;> cases identOk x.var <;> simp
  rcases hvar with ⟨hv1, hv2⟩ | ⟨hv0, hvar⟩
  · rw [if_pos (Or.inr (HV.out.trans (by rw [hv1, hv2]; rfl)))] at HT
    go_enter Tryz.func53, Tryz.ntmps53
    go_wp2_with fail
    refine (nameMay_any x.name hsz _).mono ?_
    rintro e w1 ⟨rfl, rfl⟩
    rw [h]
    go_wp2_with fail
    refine (nameMay_any x.var hsz1 _).mono ?_
    rintro e w1 ⟨rfl, rfl⟩
    rw [hv2]
    go_wp2_with fail
    go_ret
    exact ⟨by rw [HT.out]; rfl, HB.out⟩
  rw [if_neg (by rw [h, hv0]; simp)] at HT
  clear HV hv0
  by_cases h8 : 8 < x.params.length
  · rw [if_pos h8] at HT
    have h8' : (8 : Int) < (x.params.length : Int) := by omega
    rcases hvar with hv | ⟨hv1, hv2⟩
    all_goals
      go_enter Tryz.func53, Tryz.ntmps53
      go_wp2_with fail
      refine (nameMay_any x.name hsz _).mono ?_
      rintro e w1 ⟨rfl, rfl⟩
      rw [h]
      go_wp2_with (go_at_call 51; refine (nameMay_any _ hsz1 _).mono ?_; rintro e w' ⟨rfl, rfl⟩)
      go_ret
      exact ⟨by rw [HT.out]; rfl, HB.out⟩
  have h8' : ¬ (8 : Int) < (x.params.length : Int) := by omega
  rw [if_neg h8] at HT
  clear h8
  rcases hvar with hv | ⟨hv1, hv2⟩
  all_goals
    go_enter Tryz.func53, Tryz.ntmps53
    go_wp2_with fail
    refine (nameMay_any x.name hsz _).mono ?_
    rintro e w1 ⟨rfl, rfl⟩
    rw [h]
    go_wp2_with (go_at_call 51; refine (nameMay_any _ hsz1 _).mono ?_; rintro e w' ⟨rfl, rfl⟩)
    go_loopw [3] (fun i wr => ∃ j : Nat, j ≤ x.params.length ∧ i = .int .i64 j ∧ (∀ q (hq : q < x.params.length), q < j → fdFault x.params[q] = 0) ∧ Below (w.heap.size + 1) (w.alloc (.cells #[.string x.name, .string x.var, .slice vp1 x.params.length vp3, .int .i64 k, .string f, .string n, .slice va1 va2 va3, .int .i64 k', .int .i64 n', .string f', .string s', .slice ve1 ve2 ve3] 54)) wr) (fun i _ => x.params.length - (intOf i).toNat)
    case atStart => exact ⟨0, Nat.zero_le _, rfl, fun q _ h => absurd h (by omega), Below.refl _ _⟩
    case round =>
      obtain ⟨j, hj, rfl, hall, hbl⟩ := hrel
      have HA := veil hall
      clear hall
      have hc := fun o => hbl.cell (p := ⟨w.heap.size, o, none⟩) (by show w.heap.size < w.heap.size + 1; omega)
      have hbs : w.heap.size + 1 ≤ wr.heap.size := by have := hbl.size; simpa using this
      have HL := veil (HB.out.trans (hbl.mono (by omega)))
      have HBL := veil hbl
      clear hbl
      by_cases hlt : j < x.params.length
      · rcases HREST.out with h0 | ⟨b, off, rfl, hb, hrow⟩
        · omega
        have hbw := hS b hb
        obtain ⟨⟨c0, hfs⟩, hty⟩ := hrow.get j hlt
        obtain ⟨kd, fo, na, va, c1, c2, c3, c4, hcs⟩ := tyAt_cells.1 hty
        obtain ⟨vb1, vb2, vb3, rfl⟩ := hcs.slice
        rw [Nat.add_assoc] at c2 c3 c4
        have d0 := (HL.out.cell (p := ⟨b, off + j * 5, none⟩) hbw).trans c0
        have d1 := (HL.out.cell (p := ⟨b, off + j * 5 + 1, none⟩) hbw).trans c1
        have d2 := (HL.out.cell (p := ⟨b, off + j * 5 + 2, none⟩) hbw).trans c2
        have d3 := (HL.out.cell (p := ⟨b, off + j * 5 + 3, none⟩) hbw).trans c3
        have d4 := (HL.out.cell (p := ⟨b, off + j * 5 + 4, none⟩) hbw).trans c4
        have cI := typeFault_any 10 1 (by omega) S x.params[j].is (.agg #[.int .i64 kd, .string fo, .string na, .slice vb1 vb2 vb3]) wr (by omega) (fun b h => by have := hS b h; omega) ⟨_, _, _, _, rfl, hcs.keep (Keeps.below HL.out hS)⟩
        have HFd : Hid (fdFault x.params[j] = if identOk x.params[j].name = true then tyFault x.params[j].is 1 else 4) := rfl
        have HAt := veil (fun h0 => firstBad_at fdFault x.params j hlt (fun q hq => HA.out q (by omega) hq) h0)
        have HNx : Hid (fdFault x.params[j] = 0 → ∀ q (hq : q < x.params.length), q < j + 1 → fdFault x.params[q] = 0) := fun hz q hq hqj => by
          by_cases e : q = j
          · subst e; exact hz
          · exact HA.out q hq (by omega)
        clear c0 c1 c2 c3 c4 hcs hrow HREST hty HA
        have e1 : ((1 : Nat) : Int) = 1 := rfl
        rw [e1] at cI
        generalize x.params[j] = pj at *
        cases hi : identOk pj.name
        · rw [if_neg (by rw [hi]; simp)] at HFd
          have HFF := veil (HAt.out (by rw [HFd.out]; decide))
          rw [HFF.out, HFd.out, if_pos (by decide)] at HT
          clear cI HAt HNx HFF
          go_wp2_with fail
          refine (nameMay_any pj.name hfs _).mono ?_
          rintro e w' ⟨rfl, rfl⟩
          rw [hi]
          go_wp2_with fail
          go_ret
          exact ⟨by rw [HT.out]; rfl, HL.out⟩
        rw [if_pos hi] at HFd
        by_cases hz : tyFault pj.is 1 = 0
        · have hz' : (tyFault pj.is 1 != 0) = false := by rw [hz]; rfl
          have HN := veil (HNx.out (HFd.out.trans hz))
          clear HAt HNx hz
          go_wp2_with fail
          refine (nameMay_any pj.name hfs _).mono ?_
          rintro e w' ⟨rfl, rfl⟩
          rw [hi]
          go_wp2_with fail
          refine cI.mono ?_
          rintro e w' ⟨rfl, hb'⟩
          go_wp2_with fail
          exact ⟨⟨j + 1, by omega, by go_num, HN.out, HBL.out.trans (hb'.mono hbs)⟩, by simp [intOf]; omega⟩
        · have hz' : (tyFault pj.is 1 != 0) = true := bne_iff_ne.2 hz
          have HFF := veil (HAt.out (by rw [HFd.out]; exact hz))
          rw [HFF.out, HFd.out, if_pos hz] at HT
          clear HAt HNx hz HFF
          go_wp2_with fail
          refine (nameMay_any pj.name hfs _).mono ?_
          rintro e w' ⟨rfl, rfl⟩
          rw [hi]
          go_wp2_with fail
          refine cI.mono ?_
          rintro e w' ⟨rfl, hb'⟩
          go_wp2_with fail
          go_ret
          exact ⟨by rw [HT.out]; rfl, HL.out.trans (hb'.mono (by omega))⟩
      · have HFF := veil (firstBad_none fdFault x.params fun q hq => HA.out q hq (by omega))
        rw [HFF.out, if_neg (by simp)] at HT
        clear HREST HFF HA
        have e1 : ((1 : Nat) : Int) = 1 := rfl
        have cT := typeFault_any 10 1 (by omega) S x.result (.agg #[.int .i64 k, .string f, .string n, .slice va1 va2 va3]) wr (by omega) (fun b h => by have := hS b h; omega) ⟨_, _, _, _, rfl, HC.out.keep (Keeps.below HL.out hS)⟩
        rw [e1] at cT
        by_cases hz : tyFault x.result 1 = 0
        · have hz' : (tyFault x.result 1 == 0) = true := by rw [hz]; rfl
          rw [if_neg (by rw [hz]; simp)] at HT
          clear hz
          go_wp2_with fail
          refine cT.mono ?_
          rintro e w2 ⟨rfl, hb2⟩
          have hc2 := fun o => (hb2.cell (p := ⟨w.heap.size, o, none⟩) (by show w.heap.size < wr.heap.size; omega)).trans (hc o)
          have HL2 := veil (HL.out.trans (hb2.mono (by omega)))
          clear hb2 hc
          have cE := exprFault_any 10 1 (by omega) (by omega) S x.body (.agg #[.int .i64 k', .int .i64 n', .string f', .string s', .slice ve1 ve2 ve3]) w2 (fdIs_first hS HL2.out) ⟨_, _, _, _, _, rfl, HE.out.keep (Keeps.below HL2.out hS)⟩
          rw [e1] at cE
          go_wp2_with fail
          refine cE.mono ?_
          rintro e w3 ⟨rfl, hb3⟩
          go_wp2_with fail
          go_ret
          exact ⟨by rw [HT.out]; rfl, HL2.out.trans (hb3.mono HL2.out.size)⟩
        · have hz' : (tyFault x.result 1 == 0) = false := beq_eq_false_iff_ne.2 hz
          rw [if_pos hz] at HT
          clear hz
          go_wp2_with fail
          refine cT.mono ?_
          rintro e w2 ⟨rfl, hb2⟩
          go_wp2_with fail
          go_ret
          exact ⟨by rw [HT.out]; rfl, HL.out.trans (hb2.mono (by omega))⟩

set_option maxHeartbeats 8000000 in
set_option maxRecDepth 100000 in
theorem moduleFault_any (S : Nat → Prop) (x : Mo) (v : Value) (w : World) (hS : ∀ b, S b → b < w.heap.size) (hx : MoIs S w x v) :
    Calls Tryz.prog 15 #[v] w fun e w' => e = .returned (.int .i64 (moFault x)) ∧ Below w.heap.size w w' := by
  obtain ⟨vu, vt, vf, rfl, hu, ht, hf⟩ := hx
  obtain ⟨u1, u3, rfl, ⟨hul, hulC⟩, hur⟩ := hu
  obtain ⟨t1, t3, rfl, ⟨htl, htlC⟩, htr⟩ := ht
  obtain ⟨f1, f3, rfl, ⟨hfl, hflC⟩, hfr⟩ := hf
  have HR3 := veil hur
  have HR4 := veil htr
  have HR6 := veil hfr
  clear hur htr hfr
  have HT : Hid (moFault x = if 24 < wrap64 (wrap64 ((x.uses.length : Int) + x.types.length) + x.funcs.length) then 1 else
    if firstBad useFault x.uses ≠ 0 then firstBad useFault x.uses else if firstBad fdFault x.types ≠ 0 then firstBad fdFault x.types else firstBad fuFault x.funcs) := rfl
  have HB : Hid (Below w.heap.size w (w.alloc (.cells #[.slice u1 x.uses.length u3, .slice t1 x.types.length t3, .slice f1 x.funcs.length f3] 26))) := (Below.refl _ _).alloc (Nat.le_refl _) _
  by_cases h24 : 24 < wrap64 (wrap64 ((x.uses.length : Int) + x.types.length) + x.funcs.length)
  · rw [if_pos h24] at HT
    clear hul htl hfl
    go_enter Tryz.func15, Tryz.ntmps15
    go_wp2_with fail
    go_ret
    exact ⟨by rw [HT.out]; rfl, HB.out⟩
  rw [if_neg h24] at HT
  have HUL := veil hul
  have HTL := veil htl
  have HFL := veil hfl
  clear hul htl hfl
  go_enter Tryz.func15, Tryz.ntmps15
  go_wp2_with fail
  have hul := HUL.out
  have htl := HTL.out
  have hfl := HFL.out
  unfold maxLen at hul htl hfl
  go_loopw [3] (fun i wr => ∃ j : Nat, j ≤ x.uses.length ∧ i = .int .i64 j ∧ (∀ q (hq : q < x.uses.length), q < j → useFault x.uses[q] = 0) ∧ Below (w.heap.size + 1) (w.alloc (.cells #[.slice u1 x.uses.length u3, .slice t1 x.types.length t3, .slice f1 x.funcs.length f3] 26)) wr) (fun i _ => x.uses.length - (intOf i).toNat)
  case atStart => exact ⟨0, Nat.zero_le _, rfl, fun q _ h => absurd h (by omega), Below.refl _ _⟩
  case round =>
    obtain ⟨j, hj, rfl, hall, hbl⟩ := hrel
    have HA := veil hall
    clear hall
    have hc := fun o => hbl.cell (p := ⟨w.heap.size, o, none⟩) (by show w.heap.size < w.heap.size + 1; omega)
    have hbs : w.heap.size + 1 ≤ wr.heap.size := by have := hbl.size; simpa using this
    have HL := veil (HB.out.trans (hbl.mono (by omega)))
    have HBL := veil hbl
    clear hbl
    by_cases hlt : j < x.uses.length
    · rcases HR3.out with h0 | ⟨b, off, rfl, hb, hrow⟩
      · omega
      have hbw := hS b hb
      have HAt := veil (fun h0 => firstBad_at useFault x.uses j hlt (fun q hq => HA.out q (by omega) hq) h0)
      have HNx : Hid (useFault x.uses[j] = 0 → ∀ q (hq : q < x.uses.length), q < j + 1 → useFault x.uses[q] = 0) := fun hz q hq hqj => by
        by_cases e : q = j
        · subst e; exact hz
        · exact HA.out q hq (by omega)
      obtain ⟨c0, hfs⟩ := hrow.get j hlt
      rw [Nat.mul_one] at c0
      have d0 := (HL.out.cell (p := ⟨b, off + j, none⟩) hbw).trans c0
      have HFd : Hid (useFault x.uses[j] = if identOk x.uses[j] = true then 0 else 4) := rfl
      clear c0 hrow HA
      generalize x.uses[j] = pj at *
      cases hi : identOk pj
      · rw [if_neg (by rw [hi]; simp)] at HFd
        have HFF := veil (HAt.out (by rw [HFd.out]; decide))
        rw [HFF.out, HFd.out, if_pos (by decide)] at HT
        clear HAt HNx HFF
        go_wp2_with fail
        refine (nameMay_any pj hfs _).mono ?_
        rintro e w' ⟨rfl, rfl⟩
        rw [hi]
        go_wp2_with fail
        go_ret
        exact ⟨by rw [HT.out]; rfl, HL.out⟩
      · rw [if_pos hi] at HFd
        have HN := veil (HNx.out HFd.out)
        clear HAt HNx
        go_wp2_with fail
        refine (nameMay_any pj hfs _).mono ?_
        rintro e w' ⟨rfl, rfl⟩
        rw [hi]
        go_wp2_with fail
        exact ⟨⟨j + 1, by omega, by go_num, HN.out, HBL.out⟩, by simp [intOf]; omega⟩
    · have HFF := veil (firstBad_none useFault x.uses fun q hq => HA.out q hq (by omega))
      rw [HFF.out, if_neg (by simp)] at HT
      clear HFF HA HR3
      go_wp2_with fail
      go_loopw [4] (fun i wr => ∃ j : Nat, j ≤ x.types.length ∧ i = .int .i64 j ∧ (∀ q (hq : q < x.types.length), q < j → fdFault x.types[q] = 0) ∧ Below (w.heap.size + 1) (w.alloc (.cells #[.slice u1 x.uses.length u3, .slice t1 x.types.length t3, .slice f1 x.funcs.length f3] 26)) wr) (fun i _ => x.types.length - (intOf i).toNat)
      case atStart => exact ⟨0, Nat.zero_le _, rfl, fun q _ h => absurd h (by omega), HBL.out⟩
      case round =>
        clear hc hbs hlt HL
        obtain ⟨j, hj, rfl, hall, hbl⟩ := hrel
        have HA := veil hall
        clear hall
        have hc := fun o => hbl.cell (p := ⟨w.heap.size, o, none⟩) (by show w.heap.size < w.heap.size + 1; omega)
        have hbs : w.heap.size + 1 ≤ wr.heap.size := by have := hbl.size; simpa using this
        have HL := veil (HB.out.trans (hbl.mono (by omega)))
        have HBL := veil hbl
        clear hbl
        by_cases hlt : j < x.types.length
        · rcases HR4.out with h0 | ⟨b, off, rfl, hb, hrow⟩
          · omega
          have hbw := hS b hb
          have HAt := veil (fun h0 => firstBad_at fdFault x.types j hlt (fun q hq => HA.out q (by omega) hq) h0)
          have HNx : Hid (fdFault x.types[j] = 0 → ∀ q (hq : q < x.types.length), q < j + 1 → fdFault x.types[q] = 0) := fun hz q hq hqj => by
            by_cases e : q = j
            · subst e; exact hz
            · exact HA.out q hq (by omega)
          obtain ⟨⟨c0, hfs⟩, hty⟩ := hrow.get j hlt
          obtain ⟨kd, fo, na, va, c1, c2, c3, c4, hcs⟩ := tyAt_cells.1 hty
          obtain ⟨vb1, vb2, vb3, rfl⟩ := hcs.slice
          rw [Nat.add_assoc] at c2 c3 c4
          have d0 := (HL.out.cell (p := ⟨b, off + j * 5, none⟩) hbw).trans c0
          have d1 := (HL.out.cell (p := ⟨b, off + j * 5 + 1, none⟩) hbw).trans c1
          have d2 := (HL.out.cell (p := ⟨b, off + j * 5 + 2, none⟩) hbw).trans c2
          have d3 := (HL.out.cell (p := ⟨b, off + j * 5 + 3, none⟩) hbw).trans c3
          have d4 := (HL.out.cell (p := ⟨b, off + j * 5 + 4, none⟩) hbw).trans c4
          have cI := typeFault_any 10 1 (by omega) S x.types[j].is (.agg #[.int .i64 kd, .string fo, .string na, .slice vb1 vb2 vb3]) wr (by omega) (fun b h => by have := hS b h; omega) ⟨_, _, _, _, rfl, hcs.keep (Keeps.below HL.out hS)⟩
          have HFd : Hid (fdFault x.types[j] = if identOk x.types[j].name = true then tyFault x.types[j].is 1 else 4) := rfl
          clear c0 c1 c2 c3 c4 hcs hrow hty HA
          have e1 : ((1 : Nat) : Int) = 1 := rfl
          rw [e1] at cI
          generalize x.types[j] = pj at *
          cases hi : identOk pj.name
          · rw [if_neg (by rw [hi]; simp)] at HFd
            have HFF := veil (HAt.out (by rw [HFd.out]; decide))
            rw [HFF.out, HFd.out, if_pos (by decide)] at HT
            clear cI HAt HNx HFF
            go_wp2_with fail
            refine (nameMay_any pj.name hfs _).mono ?_
            rintro e w' ⟨rfl, rfl⟩
            rw [hi]
            go_wp2_with fail
            go_ret
            exact ⟨by rw [HT.out]; rfl, HL.out⟩
          rw [if_pos hi] at HFd
          by_cases hz : tyFault pj.is 1 = 0
          · have hz' : (tyFault pj.is 1 != 0) = false := by rw [hz]; rfl
            have HN := veil (HNx.out (HFd.out.trans hz))
            clear HAt HNx hz
            go_wp2_with fail
            refine (nameMay_any pj.name hfs _).mono ?_
            rintro e w' ⟨rfl, rfl⟩
            rw [hi]
            go_wp2_with fail
            refine cI.mono ?_
            rintro e w' ⟨rfl, hb'⟩
            go_wp2_with fail
            exact ⟨⟨j + 1, by omega, by go_num, HN.out, HBL.out.trans (hb'.mono hbs)⟩, by simp [intOf]; omega⟩
          · have hz' : (tyFault pj.is 1 != 0) = true := bne_iff_ne.2 hz
            have HFF := veil (HAt.out (by rw [HFd.out]; exact hz))
            rw [HFF.out, HFd.out, if_pos hz] at HT
            clear HAt HNx hz HFF
            go_wp2_with fail
            refine (nameMay_any pj.name hfs _).mono ?_
            rintro e w' ⟨rfl, rfl⟩
            rw [hi]
            go_wp2_with fail
            refine cI.mono ?_
            rintro e w' ⟨rfl, hb'⟩
            go_wp2_with fail
            go_ret
            exact ⟨by rw [HT.out]; rfl, HL.out.trans (hb'.mono (by omega))⟩
        · have HFF := veil (firstBad_none fdFault x.types fun q hq => HA.out q hq (by omega))
          rw [HFF.out, if_neg (by simp)] at HT
          clear HFF HA HR4
          go_wp2_with fail
          go_loopw [6] (fun i wr => ∃ j : Nat, j ≤ x.funcs.length ∧ i = .int .i64 j ∧ (∀ q (hq : q < x.funcs.length), q < j → fuFault x.funcs[q] = 0) ∧ Below (w.heap.size + 1) (w.alloc (.cells #[.slice u1 x.uses.length u3, .slice t1 x.types.length t3, .slice f1 x.funcs.length f3] 26)) wr) (fun i _ => x.funcs.length - (intOf i).toNat)
          case atStart => exact ⟨0, Nat.zero_le _, rfl, fun q _ h => absurd h (by omega), HBL.out⟩
          case round =>
            clear hc hbs hlt HL
            obtain ⟨j, hj, rfl, hall, hbl⟩ := hrel
            have HA := veil hall
            clear hall
            have hc := fun o => hbl.cell (p := ⟨w.heap.size, o, none⟩) (by show w.heap.size < w.heap.size + 1; omega)
            have hbs : w.heap.size + 1 ≤ wr.heap.size := by have := hbl.size; simpa using this
            have HL := veil (HB.out.trans (hbl.mono (by omega)))
            have HBL := veil hbl
            clear hbl
            by_cases hlt : j < x.funcs.length
            · rcases HR6.out with h0 | ⟨b, off, rfl, hb, hrow⟩
              · omega
              have hbw := hS b hb
              have HAt := veil (fun h0 => firstBad_at fuFault x.funcs j hlt (fun q hq => HA.out q (by omega) hq) h0)
              have HNx : Hid (fuFault x.funcs[j] = 0 → ∀ q (hq : q < x.funcs.length), q < j + 1 → fuFault x.funcs[q] = 0) := fun hz q hq hqj => by
                by_cases e : q = j
                · subst e; exact hz
                · exact HA.out q hq (by omega)
              obtain ⟨⟨c0, hsz⟩, ⟨c1, hsz1⟩, ⟨vp, c2, hps⟩, hty, hex⟩ := hrow.get j hlt
              obtain ⟨kd, fo, na, va, c3, c4, c5, c6, hcs⟩ := tyAt_cells.1 hty
              obtain ⟨ke, ne, fe, se, ve, c7, c8, c9, c10, c11, hce⟩ := exAt_cells.1 hex
              obtain ⟨va1, va2, va3, rfl⟩ := hcs.slice
              obtain ⟨vp1, vp2, vp3, rfl⟩ := hps.slice
              obtain ⟨ve1, ve2, ve3, rfl⟩ := hce.slice
              rw [Nat.add_assoc] at c4 c5 c6 c8 c9 c10 c11
              have d0 := (HL.out.cell (p := ⟨b, off + j * 12, none⟩) hbw).trans c0
              have d1 := (HL.out.cell (p := ⟨b, off + j * 12 + 1, none⟩) hbw).trans c1
              have d2 := (HL.out.cell (p := ⟨b, off + j * 12 + 2, none⟩) hbw).trans c2
              have d3 := (HL.out.cell (p := ⟨b, off + j * 12 + 3, none⟩) hbw).trans c3
              have d4 := (HL.out.cell (p := ⟨b, off + j * 12 + 4, none⟩) hbw).trans c4
              have d5 := (HL.out.cell (p := ⟨b, off + j * 12 + 5, none⟩) hbw).trans c5
              have d6 := (HL.out.cell (p := ⟨b, off + j * 12 + 6, none⟩) hbw).trans c6
              have d7 := (HL.out.cell (p := ⟨b, off + j * 12 + 7, none⟩) hbw).trans c7
              have d8 := (HL.out.cell (p := ⟨b, off + j * 12 + 8, none⟩) hbw).trans c8
              have d9 := (HL.out.cell (p := ⟨b, off + j * 12 + 9, none⟩) hbw).trans c9
              have d10 := (HL.out.cell (p := ⟨b, off + j * 12 + 10, none⟩) hbw).trans c10
              have d11 := (HL.out.cell (p := ⟨b, off + j * 12 + 11, none⟩) hbw).trans c11
              have hkp : Keeps S S w wr := Keeps.below HL.out hS
              have cI := funcFault_any S x.funcs[j] (.agg #[.string x.funcs[j].name, .string x.funcs[j].var, .slice vp1 vp2 vp3, .int .i64 kd, .string fo, .string na, .slice va1 va2 va3, .int .i64 ke, .int .i64 ne, .string fe, .string se, .slice ve1 ve2 ve3]) wr (fun b h => by have := hS b h; omega) ⟨_, _, _, _, _, _, _, _, _, _, rfl, hsz, hsz1, fdSl_keep hkp hps, hcs.keep hkp, hce.keep hkp⟩
              clear c0 c1 c2 c3 c4 c5 c6 c7 c8 c9 c10 c11 hcs hrow hty hex hce hps HA hkp
              generalize x.funcs[j] = pj at *
              by_cases hz : fuFault pj = 0
              · have hz' : (fuFault pj != 0) = false := by rw [hz]; rfl
                have HN := veil (HNx.out hz)
                clear HAt HNx hz
                go_wp2_with fail
                refine cI.mono ?_
                rintro e w' ⟨rfl, hb'⟩
                go_wp2_with fail
                exact ⟨⟨j + 1, by omega, by go_num, HN.out, HBL.out.trans (hb'.mono hbs)⟩, by simp [intOf]; omega⟩
              · have hz' : (fuFault pj != 0) = true := bne_iff_ne.2 hz
                have HFF := veil (HAt.out hz)
                rw [HFF.out] at HT
                clear HAt HNx hz HFF
                go_wp2_with fail
                refine cI.mono ?_
                rintro e w' ⟨rfl, hb'⟩
                go_wp2_with fail
                go_ret
                exact ⟨by rw [HT.out]; rfl, HL.out.trans (hb'.mono (by omega))⟩
            · have HFF := veil (firstBad_none fuFault x.funcs fun q hq => HA.out q hq (by omega))
              rw [HFF.out] at HT
              clear HFF HA HR6
              go_wp2_with fail
              go_ret
              exact ⟨by rw [HT.out]; rfl, HL.out⟩

end Go.Proofs.YtieoddnaknpmlabGreatDoor
