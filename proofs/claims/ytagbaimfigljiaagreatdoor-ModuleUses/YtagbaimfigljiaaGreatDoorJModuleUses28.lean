import Derived.Test.YtagbaimfigljiaaGreatDoorJModuleUses12
namespace Go.Proofs.YtagbaimfigljiaaGreatDoor
open Go.RowKit
set_option maxRecDepth 100000

theorem tokRow_one (W : World) (kd : Int) (tx : ByteArray) (htx : tx.size ≤ maxLen) {n : Nat} (hn : n = W.heap.size) : TokRow (W.alloc (.cells #[.int .i64 kd, .string tx] 199)) (.slice (some ⟨n, 0, none⟩) 1 1) [(kd, tx)] := by
  refine Or.inr ⟨n, 0, 1, rfl, by simp; omega, by unfold maxLen; simp, fun i hi => ?_⟩
  have hi0 : i = 0 := by simpa using hi
  subst hi0
  refine ⟨?_, ?_, htx⟩
  · rw [World.cell?_alloc_at _ _ _ _ hn]; rfl
  · rw [World.cell?_alloc_at _ _ _ _ hn]; rfl

theorem box_cells {w w1 : World} {x y : Value} {c : Array Value} {t : TypeId} (hb : Below ((w.alloc (.cells #[x, y] 199)).alloc (.cells c t)).heap.size ((w.alloc (.cells #[x, y] 199)).alloc (.cells c t)) w1) :
    w1.cell? ⟨w.heap.size, 0, none⟩ = some x ∧ w1.cell? ⟨w.heap.size, 1, none⟩ = some y ∧ Below w.heap.size w w1 := by
  obtain ⟨c0, c1, _, _, _, hbb⟩ := tok_cells hb
  exact ⟨c0, c1, hbb⟩

theorem cutErr_stop {s : ByteArray} {k : Nat} {done : List (Int × ByteArray)} (hs : s.size ≤ 1500) (h : cutAt s 0 = (cutAt s k).map (done ++ ·)) (h' : cutAt s k = none) : cutErr s = 4 := by
  unfold cutErr
  rw [if_neg (by omega), h, h']
  rfl
theorem cutToks_stop {s : ByteArray} {k : Nat} {done : List (Int × ByteArray)} (hs : s.size ≤ 1500) (h : cutAt s 0 = (cutAt s k).map (done ++ ·)) (h' : cutAt s k = none) : cutToks s = [] := by
  unfold cutToks
  rw [if_neg (by omega), h, h']
  rfl

theorem word_end {s : ByteArray} {k m : Nat} (hk : k < s.size) (hw : isWordB (byteAt s k) = true) (h1 : k + 1 ≤ m) (h2 : m ≤ s.size) (hall : ∀ j, k + 1 ≤ j → j < m → isWordB (byteAt s j) = true) (hend : m < s.size → isWordB (byteAt s m) = false) : runEnd isWordB s k = m :=
  (runTo_eq (by omega) (runTo_pred (p := fun j => isWordB (byteAt s j)) ⟨h1, h2, hall, hend⟩ hw)).symm

set_option maxHeartbeats 8000000 in
set_option maxRecDepth 100000 in
theorem of_any (s : ByteArray) (hs : s.size ≤ 1500) (w : World) :
    Calls Tryz.prog 74 #[.string s] w fun e w' => ∃ v, e = .returned (.tuple #[v, .int .i64 (cutErr s)]) ∧ TokRow w' v (cutToks s) ∧ Below w.heap.size w w' := by
  have h1500 : ¬ (1500 : Int) < (s.size : Int) := by omega
  have HM : Hid (s.size ≤ maxLen) := by show _ ≤ _; unfold maxLen; omega
  obtain ⟨i0, hi, hz0, hz1, hz2⟩ := info_parts infoTok
  go_enter Tryz.func74, Tryz.ntmps74
  go_wp2
  go_loopw [4, 5] (fun v i wr => ∃ (done : List (Int × ByteArray)) (k : Nat), k ≤ s.size ∧ i = .int .i64 k ∧ wr.ownsRow w.heap.size 199 2 v done.length (tokCells done) ∧
      Below w.heap.size w wr ∧ cutAt s 0 = (cutAt s k).map (done ++ ·) ∧ done.length ≤ k ∧ ∀ t ∈ done, t.2.size ≤ s.size)
    (fun _ i _ => s.size - (intOf i).toNat)
  case atStart => exact ⟨[], 0, Nat.zero_le _, rfl, World.ownsRow_nil _ _ _ _, Below.refl _ _, by simp, by simp, by simp⟩
  case round =>
    obtain ⟨done, k, hk, rfl, hown, hbl, hcut, hdl, hts⟩ := hrel
    have HCut := veil hcut
    have HTS := veil hts
    clear hcut hts
    by_cases hlt : k < s.size
    · have HB := veil (byteAt_get s k hlt)
      have hr0 := byteAt_range s k
      have hbd : 0 ≤ ((s[k]'hlt).toNat : Int) ∧ ((s[k]'hlt).toNat : Int) ≤ 255 := by rw [HB.out]; exact hr0
      obtain ⟨hbd1, hbd2⟩ := hbd
      clear hr0
      by_cases h32 : (((s[k]'hlt).toNat : Int) == 32) = true
      · have HC' : Hid (cutAt s 0 = (cutAt s (k + 1)).map (done ++ ·)) := by
          show _ = _
          rw [HCut.out, cutAt_blank hlt (by rw [← HB.out]; simpa using h32)]
        go_wp2
        go_roundw
        case rel => exact ⟨done, k + 1, by omega, by go_num, hown, hbl, HC'.out, by omega, HTS.out⟩
        case measure => simp [intOf]; omega
      · have h32' : (((s[k]'hlt).toNat : Int) == 32) = false := by simpa using h32
        have hnb : byteAt s k ≠ 32 := by rw [← HB.out]; simpa using h32
        clear h32
        have HOn := veil (@cut_on s k hlt hnb)
        have HStop := veil (@cut_stop s k hlt hnb)
        clear hnb
        by_cases h34 : (((s[k]'hlt).toNat : Int) == 34) = true
        · have hq : byteAt s k = 34 := by rw [← HB.out]; simpa using h34
          have HO := veil (@ans_open s k (runEnd notQuote s (k + 1)) hq rfl)
          have HQ := veil (@ans_quote s k (runEnd notQuote s (k + 1)) hq rfl)
          clear hq
          go_wp2
          go_loop [6] (fun t => ∃ m : Nat, k + 1 ≤ m ∧ m ≤ s.size ∧ t = .int .i64 m ∧ ∀ j, k + 1 ≤ j → j < m → notQuote (byteAt s j) = true) (fun t => s.size - (intOf t).toNat)
          case atStart => exact ⟨k + 1, Nat.le_refl _, by omega, by go_num, fun j h1 h2 => absurd h2 (by omega)⟩
          case round =>
            obtain ⟨m, hm1, hm2, rfl, hall⟩ := hrel
            have HA := veil hall
            clear hall
            by_cases hlm : m < s.size
            · have HBm := veil (byteAt_get s m hlm)
              by_cases hq : (((s[m]'hlm).toNat : Int) != 34) = true
              · have HN : Hid (∀ j, k + 1 ≤ j → j < m + 1 → notQuote (byteAt s j) = true) := fun j h1 h2 => by
                  by_cases e : j = m
                  · rw [e, ← HBm.out]; exact hq
                  · exact HA.out j h1 (by omega)
                go_wp2
                go_round
                case rel => exact ⟨m + 1, by omega, by omega, by go_num, HN.out⟩
                case measure => simp [intOf]; omega
              · have hq' : (((s[m]'hlm).toNat : Int) != 34) = false := by simpa using hq
                have hms : ((m : Int) == (s.size : Int)) = false := by rw [beq_eq_false_iff_ne]; omega
                have hend : runEnd notQuote s (k + 1) = m := (runTo_eq (by omega) ⟨hm1, hm2, HA.out, fun _ => by show notQuote (byteAt s m) = false; rw [← HBm.out]; exact hq'⟩).symm
                have hans := HQ.out (by rw [hend]; omega)
                rw [hend] at hans
                rw [hans] at HOn HStop
                clear HO HQ hend hans hq HA
                by_cases hf : faultOf (3, s.extract (k + 1) m) = 0
                · have hf' : (checkAll [(3, s.extract (k + 1) m)] != 0) = false := by simp [checkAll, faults, hf]
                  obtain ⟨hkE, hcE⟩ := HOn.out hf
                  have HCE := veil (cut_snoc HCut.out hcE)
                  clear HOn HStop HCut hcE hf
                  go_wp2_with fail
                  refine (fault_any _ [(3, s.extract (k + 1) m)] _ (tokRow_one _ _ _ (Nat.le_trans (size_extract_le _ _ _) HM.out) (by simp))).mono ?_
                  rintro e w2 ⟨rfl, hb2⟩
                  obtain ⟨c0', c1', hba⟩ := box_cells hb2
                  have hown2 := ownsRow_below hown hba
                  have HL2 := veil (hbl.trans (hba.mono hbl.size))
                  have hsz2 : w.heap.size ≤ w2.heap.size := Nat.le_trans hbl.size hba.size
                  clear hb2 hba hown hbl
                  go_wp2_with (at_builtin; refine wpList_append_own _ rfl _ _ 134 rfl w.heap.size 199 i0 (.agg #[.int .i64 0, .string ⟨#[]⟩]) 2 24 Tryz.underlying134 hi hz0 hz1 hz2 rfl (by decide) _ _ _ rfl (hown2.alloc _) ⟨w2.heap.size, 0, none⟩ 1 1 [.int .i64 3, .string (s.extract (k + 1) m)] rfl rfl ?c1 ?c2 ?c3 ?c4 ?c5 ?_)
                  case c1 => exact cell_two_new _ _ _ _
                  case c2 =>
                    intro u hu
                    simp at hu
                    rcases hu with rfl | rfl <;> rfl
                  case c3 => unfold maxLen; omega
                  case c4 => omega
                  case c5 => simp; omega
                  intro v' w3 hown3 hgrow _
                  have hrow := ownsRow_block hown2
                  have HL3 := veil ((HL2.out.alloc (by omega) (.cells #[.int .i64 3, .string (s.extract (k + 1) m)] 199)).grown hgrow (by simp; omega) (fun j hj => by have := hrow j hj; omega))
                  have HO3 : Hid (w3.ownsRow w.heap.size 199 2 v' (done ++ [(3, s.extract (k + 1) m)]).length (tokCells (done ++ [(3, s.extract (k + 1) m)]))) := by
                    show w3.ownsRow _ _ _ _ _ _
                    rw [tokCells_snoc, List.length_append]
                    exact hown3
                  clear hown3 hgrow hrow hown2 HL2 hsz2 c0' c1'
                  go_wp2
                  go_roundw
                  case rel =>
                    refine ⟨done ++ [(3, s.extract (k + 1) m)], m + 1, by omega, by go_num, HO3.out, HL3.out, HCE.out, by simp; omega, ?_⟩
                    intro t ht
                    rcases List.mem_append.1 ht with h | h
                    · exact HTS.out t h
                    · simp at h; rw [h]; exact size_extract_le _ _ _
                  case measure => simp [intOf]; omega
                · have hf' : (checkAll [(3, s.extract (k + 1) m)] != 0) = true := by simp [checkAll, faults, hf]
                  have HE := veil (cutErr_stop hs HCut.out (HStop.out hf))
                  have HT := veil (cutToks_stop hs HCut.out (HStop.out hf))
                  clear HOn HStop HCut hf
                  go_wp2_with fail
                  refine (fault_any _ [(3, s.extract (k + 1) m)] _ (tokRow_one _ _ _ (Nat.le_trans (size_extract_le _ _ _) HM.out) (by simp))).mono ?_
                  rintro e w2 ⟨rfl, hb2⟩
                  obtain ⟨c0', c1', hba⟩ := box_cells hb2
                  have HL2 := veil (hbl.trans (hba.mono hbl.size))
                  clear hb2 hba hown hbl
                  go_wp2
                  go_ret2
                  exact ⟨_, by rw [HE.out]; rfl, by rw [HT.out]; exact Or.inl ⟨rfl, _, _, rfl⟩, HL2.out⟩
            · have hms : ((m : Int) == (s.size : Int)) = true := by rw [beq_iff_eq]; omega
              have hend : runEnd notQuote s (k + 1) = m := (runTo_eq (by omega) ⟨hm1, hm2, HA.out, fun h => absurd h hlm⟩).symm
              have hans := HO.out (by rw [hend]; omega)
              rw [hans] at HStop
              have HE := veil (cutErr_stop hs HCut.out (HStop.out (by simp [faultOf, tokFault])))
              have HT := veil (cutToks_stop hs HCut.out (HStop.out (by simp [faultOf, tokFault])))
              clear HO HQ HOn HStop HCut hend hans HA
              go_wp2
              go_ret2
              exact ⟨_, by rw [HE.out]; rfl, by rw [HT.out]; exact Or.inl ⟨rfl, _, _, rfl⟩, hbl.alloc hbl.size _⟩
        · have h34' : (((s[k]'hlt).toNat : Int) == 34) = false := by simpa using h34
          have hnq : byteAt s k ≠ 34 := by rw [← HB.out]; simpa using h34
          clear h34
          by_cases hL : isLetter (byteAt s k) = true
          · have hl : isIn ((s[k]'hlt).toNat : Int) 97 122 = true := by rw [HB.out]; exact hL
            have h57 : ¬ ((s[k]'hlt).toNat : Int) ≤ 57 := by rw [HB.out]; simp [isLetter] at hL; omega
            have HW := veil (@ans_word s k (runEnd isWordB s k) hnq hL rfl)
            have hwb : isWordB (byteAt s k) = true := by simp [isWordB, hL]
            have HWB := veil hwb
            clear hL hnq hwb
            go_wp2_with (go_at_call 138; refine (in_any _ _ _ _).mono ?_; rintro e w' ⟨rfl, rfl⟩)
            go_loop [6] (fun t => ∃ m : Nat, k + 1 ≤ m ∧ m ≤ s.size ∧ t = .int .i64 m ∧ ∀ j, k + 1 ≤ j → j < m → isWordB (byteAt s j) = true) (fun t => s.size - (intOf t).toNat)
            case atStart => exact ⟨k + 1, Nat.le_refl _, by omega, by go_num, fun j h1 h2 => absurd h2 (by omega)⟩
            case round =>
              obtain ⟨m, hm1, hm2, rfl, hall⟩ := hrel
              have HA := veil hall
              clear hall
              by_cases hlm : m < s.size
              · have HBm := veil (byteAt_get s m hlm)
                have hrm := byteAt_range s m
                have hbm : 0 ≤ ((s[m]'hlm).toNat : Int) ∧ ((s[m]'hlm).toNat : Int) ≤ 255 := by rw [HBm.out]; exact hrm
                obtain ⟨hbm1, hbm2⟩ := hbm
                clear hrm
                have HN : Hid (isWordB ((s[m]'hlm).toNat : Int) = true → ∀ j, k + 1 ≤ j → j < m + 1 → isWordB (byteAt s j) = true) := fun h j h1 h2 => by
                  by_cases e : j = m
                  · rw [e, ← HBm.out]; exact h
                  · exact HA.out j h1 (by omega)
                cases hm97 : isIn ((s[m]'hlm).toNat : Int) 97 122
                · cases hm48 : isIn ((s[m]'hlm).toNat : Int) 48 57
                  · have hend : runEnd isWordB s k = m := word_end hlt HWB.out hm1 hm2 HA.out (fun _ => by rw [← HBm.out, isWordB, ← isLetter_in, ← isDigit_in, hm97, hm48]; rfl)
                    have hans := HW.out
                    rw [hend] at hans
                    rw [hans] at HOn HStop
                    clear HW hend hans HA HN
                    by_cases hf : faultOf (1, s.extract k m) = 0
                    · have hf' : (checkAll [(1, s.extract k m)] != 0) = false := by simp [checkAll, faults, hf]
                      obtain ⟨hkE, hcE⟩ := HOn.out hf
                      have HCE := veil (cut_snoc HCut.out hcE)
                      clear HOn HStop HCut hcE hf
                      go_wp2_with (go_at_call 138; refine (in_any _ _ _ _).mono ?_; rintro e w' ⟨rfl, rfl⟩)
                      go_wp2_with fail
                      refine (fault_any _ [(1, s.extract k m)] _ (tokRow_one _ _ _ (Nat.le_trans (size_extract_le _ _ _) HM.out) (by simp))).mono ?_
                      rintro e w2 ⟨rfl, hb2⟩
                      obtain ⟨c0', c1', hba⟩ := box_cells hb2
                      have hown2 := ownsRow_below hown hba
                      have HL2 := veil (hbl.trans (hba.mono hbl.size))
                      have hsz2 : w.heap.size ≤ w2.heap.size := Nat.le_trans hbl.size hba.size
                      clear hb2 hba hown hbl
                      go_wp2_with (at_builtin; refine wpList_append_own _ rfl _ _ 134 rfl w.heap.size 199 i0 (.agg #[.int .i64 0, .string ⟨#[]⟩]) 2 24 Tryz.underlying134 hi hz0 hz1 hz2 rfl (by decide) _ _ _ rfl (hown2.alloc _) ⟨w2.heap.size, 0, none⟩ 1 1 [.int .i64 1, .string (s.extract k m)] rfl rfl ?c1 ?c2 ?c3 ?c4 ?c5 ?_)
                      case c1 => exact cell_two_new _ _ _ _
                      case c2 =>
                        intro u hu
                        simp at hu
                        rcases hu with rfl | rfl <;> rfl
                      case c3 => unfold maxLen; omega
                      case c4 => omega
                      case c5 => simp; omega
                      intro v' w3 hown3 hgrow _
                      have hrow := ownsRow_block hown2
                      have HL3 := veil ((HL2.out.alloc (by omega) (.cells #[.int .i64 1, .string (s.extract k m)] 199)).grown hgrow (by simp; omega) (fun j hj => by have := hrow j hj; omega))
                      have HO3 : Hid (w3.ownsRow w.heap.size 199 2 v' (done ++ [(1, s.extract k m)]).length (tokCells (done ++ [(1, s.extract k m)]))) := by
                        show w3.ownsRow _ _ _ _ _ _
                        rw [tokCells_snoc, List.length_append]
                        exact hown3
                      clear hown3 hgrow hrow hown2 HL2 hsz2 c0' c1'
                      go_wp2
                      go_roundw
                      case rel =>
                        refine ⟨done ++ [(1, s.extract k m)], m, by omega, rfl, HO3.out, HL3.out, HCE.out, by simp; omega, ?_⟩
                        intro t ht
                        rcases List.mem_append.1 ht with h | h
                        · exact HTS.out t h
                        · simp at h; rw [h]; exact size_extract_le _ _ _
                      case measure => simp [intOf]; omega
                    · have hf' : (checkAll [(1, s.extract k m)] != 0) = true := by simp [checkAll, faults, hf]
                      have HE := veil (cutErr_stop hs HCut.out (HStop.out hf))
                      have HT := veil (cutToks_stop hs HCut.out (HStop.out hf))
                      clear HOn HStop HCut hf
                      go_wp2_with (go_at_call 138; refine (in_any _ _ _ _).mono ?_; rintro e w' ⟨rfl, rfl⟩)
                      go_wp2_with fail
                      refine (fault_any _ [(1, s.extract k m)] _ (tokRow_one _ _ _ (Nat.le_trans (size_extract_le _ _ _) HM.out) (by simp))).mono ?_
                      rintro e w2 ⟨rfl, hb2⟩
                      obtain ⟨c0', c1', hba⟩ := box_cells hb2
                      have HL2 := veil (hbl.trans (hba.mono hbl.size))
                      clear hb2 hba hown hbl
                      go_wp2
                      go_ret2
                      exact ⟨_, by rw [HE.out]; rfl, by rw [HT.out]; exact Or.inl ⟨rfl, _, _, rfl⟩, HL2.out⟩
                  · have HM2 := veil (HN.out (by rw [isWordB, ← isLetter_in, ← isDigit_in, hm97, hm48]; rfl))
                    go_wp2_with (go_at_call 138; refine (in_any _ _ _ _).mono ?_; rintro e w' ⟨rfl, rfl⟩)
                    go_round
                    case rel => exact ⟨m + 1, by omega, by omega, by go_num, HM2.out⟩
                    case measure => simp [intOf]; omega
                · have HM2 := veil (HN.out (by rw [isWordB, ← isLetter_in, hm97]; rfl))
                  go_wp2_with (go_at_call 138; refine (in_any _ _ _ _).mono ?_; rintro e w' ⟨rfl, rfl⟩)
                  go_round
                  case rel => exact ⟨m + 1, by omega, by omega, by go_num, HM2.out⟩
                  case measure => simp [intOf]; omega
              · have hend : runEnd isWordB s k = m := word_end hlt HWB.out hm1 hm2 HA.out (fun h => absurd h hlm)
                have hans := HW.out
                rw [hend] at hans
                rw [hans] at HOn HStop
                clear HW hend hans HA
                by_cases hf : faultOf (1, s.extract k m) = 0
                · have hf' : (checkAll [(1, s.extract k m)] != 0) = false := by simp [checkAll, faults, hf]
                  obtain ⟨hkE, hcE⟩ := HOn.out hf
                  have HCE := veil (cut_snoc HCut.out hcE)
                  clear HOn HStop HCut hcE hf
                  go_wp2_with fail
                  refine (fault_any _ [(1, s.extract k m)] _ (tokRow_one _ _ _ (Nat.le_trans (size_extract_le _ _ _) HM.out) (by simp))).mono ?_
                  rintro e w2 ⟨rfl, hb2⟩
                  obtain ⟨c0', c1', hba⟩ := box_cells hb2
                  have hown2 := ownsRow_below hown hba
                  have HL2 := veil (hbl.trans (hba.mono hbl.size))
                  have hsz2 : w.heap.size ≤ w2.heap.size := Nat.le_trans hbl.size hba.size
                  clear hb2 hba hown hbl
                  go_wp2_with (at_builtin; refine wpList_append_own _ rfl _ _ 134 rfl w.heap.size 199 i0 (.agg #[.int .i64 0, .string ⟨#[]⟩]) 2 24 Tryz.underlying134 hi hz0 hz1 hz2 rfl (by decide) _ _ _ rfl (hown2.alloc _) ⟨w2.heap.size, 0, none⟩ 1 1 [.int .i64 1, .string (s.extract k m)] rfl rfl ?c1 ?c2 ?c3 ?c4 ?c5 ?_)
                  case c1 => exact cell_two_new _ _ _ _
                  case c2 =>
                    intro u hu
                    simp at hu
                    rcases hu with rfl | rfl <;> rfl
                  case c3 => unfold maxLen; omega
                  case c4 => omega
                  case c5 => simp; omega
                  intro v' w3 hown3 hgrow _
                  have hrow := ownsRow_block hown2
                  have HL3 := veil ((HL2.out.alloc (by omega) (.cells #[.int .i64 1, .string (s.extract k m)] 199)).grown hgrow (by simp; omega) (fun j hj => by have := hrow j hj; omega))
                  have HO3 : Hid (w3.ownsRow w.heap.size 199 2 v' (done ++ [(1, s.extract k m)]).length (tokCells (done ++ [(1, s.extract k m)]))) := by
                    show w3.ownsRow _ _ _ _ _ _
                    rw [tokCells_snoc, List.length_append]
                    exact hown3
                  clear hown3 hgrow hrow hown2 HL2 hsz2 c0' c1'
                  go_wp2
                  go_roundw
                  case rel =>
                    refine ⟨done ++ [(1, s.extract k m)], m, by omega, rfl, HO3.out, HL3.out, HCE.out, by simp; omega, ?_⟩
                    intro t ht
                    rcases List.mem_append.1 ht with h | h
                    · exact HTS.out t h
                    · simp at h; rw [h]; exact size_extract_le _ _ _
                  case measure => simp [intOf]; omega
                · have hf' : (checkAll [(1, s.extract k m)] != 0) = true := by simp [checkAll, faults, hf]
                  have HE := veil (cutErr_stop hs HCut.out (HStop.out hf))
                  have HT := veil (cutToks_stop hs HCut.out (HStop.out hf))
                  clear HOn HStop HCut hf
                  go_wp2_with fail
                  refine (fault_any _ [(1, s.extract k m)] _ (tokRow_one _ _ _ (Nat.le_trans (size_extract_le _ _ _) HM.out) (by simp))).mono ?_
                  rintro e w2 ⟨rfl, hb2⟩
                  obtain ⟨c0', c1', hba⟩ := box_cells hb2
                  have HL2 := veil (hbl.trans (hba.mono hbl.size))
                  clear hb2 hba hown hbl
                  go_wp2
                  go_ret2
                  exact ⟨_, by rw [HE.out]; rfl, by rw [HT.out]; exact Or.inl ⟨rfl, _, _, rfl⟩, HL2.out⟩
          · have hL : isLetter (byteAt s k) = false := by simpa using hL
            by_cases hD : isDigit (byteAt s k) = true
            · have hl : isIn ((s[k]'hlt).toNat : Int) 97 122 = false := by rw [HB.out]; exact hL
              have hd : isIn ((s[k]'hlt).toNat : Int) 48 57 = true := by rw [HB.out]; exact hD
              have h57 : ((s[k]'hlt).toNat : Int) ≤ 57 := by rw [HB.out]; simp [isDigit] at hD; omega
              have HW := veil (@ans_num s k (runEnd isWordB s k) hnq hL hD rfl)
              have hwb : isWordB (byteAt s k) = true := by simp [isWordB, hD]
              have HWB := veil hwb
              clear hL hD hnq hwb
              go_wp2_with (go_at_call 138; refine (in_any _ _ _ _).mono ?_; rintro e w' ⟨rfl, rfl⟩)
              go_loop [6] (fun t => ∃ m : Nat, k + 1 ≤ m ∧ m ≤ s.size ∧ t = .int .i64 m ∧ ∀ j, k + 1 ≤ j → j < m → isWordB (byteAt s j) = true) (fun t => s.size - (intOf t).toNat)
              case atStart => exact ⟨k + 1, Nat.le_refl _, by omega, by go_num, fun j h1 h2 => absurd h2 (by omega)⟩
              case round =>
                obtain ⟨m, hm1, hm2, rfl, hall⟩ := hrel
                have HA := veil hall
                clear hall
                by_cases hlm : m < s.size
                · have HBm := veil (byteAt_get s m hlm)
                  have hrm := byteAt_range s m
                  have hbm : 0 ≤ ((s[m]'hlm).toNat : Int) ∧ ((s[m]'hlm).toNat : Int) ≤ 255 := by rw [HBm.out]; exact hrm
                  obtain ⟨hbm1, hbm2⟩ := hbm
                  clear hrm
                  have HN : Hid (isWordB ((s[m]'hlm).toNat : Int) = true → ∀ j, k + 1 ≤ j → j < m + 1 → isWordB (byteAt s j) = true) := fun h j h1 h2 => by
                    by_cases e : j = m
                    · rw [e, ← HBm.out]; exact h
                    · exact HA.out j h1 (by omega)
                  cases hm97 : isIn ((s[m]'hlm).toNat : Int) 97 122
                  · cases hm48 : isIn ((s[m]'hlm).toNat : Int) 48 57
                    · have hend : runEnd isWordB s k = m := word_end hlt HWB.out hm1 hm2 HA.out (fun _ => by rw [← HBm.out, isWordB, ← isLetter_in, ← isDigit_in, hm97, hm48]; rfl)
                      have hans := HW.out
                      rw [hend] at hans
                      rw [hans] at HOn HStop
                      clear HW hend hans HA HN
                      by_cases hf : faultOf (2, s.extract k m) = 0
                      · have hf' : (checkAll [(2, s.extract k m)] != 0) = false := by simp [checkAll, faults, hf]
                        obtain ⟨hkE, hcE⟩ := HOn.out hf
                        have HCE := veil (cut_snoc HCut.out hcE)
                        clear HOn HStop HCut hcE hf
                        go_wp2_with (go_at_call 138; refine (in_any _ _ _ _).mono ?_; rintro e w' ⟨rfl, rfl⟩)
                        go_wp2_with fail
                        refine (fault_any _ [(2, s.extract k m)] _ (tokRow_one _ _ _ (Nat.le_trans (size_extract_le _ _ _) HM.out) (by simp))).mono ?_
                        rintro e w2 ⟨rfl, hb2⟩
                        obtain ⟨c0', c1', hba⟩ := box_cells hb2
                        have hown2 := ownsRow_below hown hba
                        have HL2 := veil (hbl.trans (hba.mono hbl.size))
                        have hsz2 : w.heap.size ≤ w2.heap.size := Nat.le_trans hbl.size hba.size
                        clear hb2 hba hown hbl
                        go_wp2_with (at_builtin; refine wpList_append_own _ rfl _ _ 134 rfl w.heap.size 199 i0 (.agg #[.int .i64 0, .string ⟨#[]⟩]) 2 24 Tryz.underlying134 hi hz0 hz1 hz2 rfl (by decide) _ _ _ rfl (hown2.alloc _) ⟨w2.heap.size, 0, none⟩ 1 1 [.int .i64 2, .string (s.extract k m)] rfl rfl ?c1 ?c2 ?c3 ?c4 ?c5 ?_)
                        case c1 => exact cell_two_new _ _ _ _
                        case c2 =>
                          intro u hu
                          simp at hu
                          rcases hu with rfl | rfl <;> rfl
                        case c3 => unfold maxLen; omega
                        case c4 => omega
                        case c5 => simp; omega
                        intro v' w3 hown3 hgrow _
                        have hrow := ownsRow_block hown2
                        have HL3 := veil ((HL2.out.alloc (by omega) (.cells #[.int .i64 2, .string (s.extract k m)] 199)).grown hgrow (by simp; omega) (fun j hj => by have := hrow j hj; omega))
                        have HO3 : Hid (w3.ownsRow w.heap.size 199 2 v' (done ++ [(2, s.extract k m)]).length (tokCells (done ++ [(2, s.extract k m)]))) := by
                          show w3.ownsRow _ _ _ _ _ _
                          rw [tokCells_snoc, List.length_append]
                          exact hown3
                        clear hown3 hgrow hrow hown2 HL2 hsz2 c0' c1'
                        go_wp2
                        go_roundw
                        case rel =>
                          refine ⟨done ++ [(2, s.extract k m)], m, by omega, rfl, HO3.out, HL3.out, HCE.out, by simp; omega, ?_⟩
                          intro t ht
                          rcases List.mem_append.1 ht with h | h
                          · exact HTS.out t h
                          · simp at h; rw [h]; exact size_extract_le _ _ _
                        case measure => simp [intOf]; omega
                      · have hf' : (checkAll [(2, s.extract k m)] != 0) = true := by simp [checkAll, faults, hf]
                        have HE := veil (cutErr_stop hs HCut.out (HStop.out hf))
                        have HT := veil (cutToks_stop hs HCut.out (HStop.out hf))
                        clear HOn HStop HCut hf
                        go_wp2_with (go_at_call 138; refine (in_any _ _ _ _).mono ?_; rintro e w' ⟨rfl, rfl⟩)
                        go_wp2_with fail
                        refine (fault_any _ [(2, s.extract k m)] _ (tokRow_one _ _ _ (Nat.le_trans (size_extract_le _ _ _) HM.out) (by simp))).mono ?_
                        rintro e w2 ⟨rfl, hb2⟩
                        obtain ⟨c0', c1', hba⟩ := box_cells hb2
                        have HL2 := veil (hbl.trans (hba.mono hbl.size))
                        clear hb2 hba hown hbl
                        go_wp2
                        go_ret2
                        exact ⟨_, by rw [HE.out]; rfl, by rw [HT.out]; exact Or.inl ⟨rfl, _, _, rfl⟩, HL2.out⟩
                    · have HM2 := veil (HN.out (by rw [isWordB, ← isLetter_in, ← isDigit_in, hm97, hm48]; rfl))
                      go_wp2_with (go_at_call 138; refine (in_any _ _ _ _).mono ?_; rintro e w' ⟨rfl, rfl⟩)
                      go_round
                      case rel => exact ⟨m + 1, by omega, by omega, by go_num, HM2.out⟩
                      case measure => simp [intOf]; omega
                  · have HM2 := veil (HN.out (by rw [isWordB, ← isLetter_in, hm97]; rfl))
                    go_wp2_with (go_at_call 138; refine (in_any _ _ _ _).mono ?_; rintro e w' ⟨rfl, rfl⟩)
                    go_round
                    case rel => exact ⟨m + 1, by omega, by omega, by go_num, HM2.out⟩
                    case measure => simp [intOf]; omega
                · have hend : runEnd isWordB s k = m := word_end hlt HWB.out hm1 hm2 HA.out (fun h => absurd h hlm)
                  have hans := HW.out
                  rw [hend] at hans
                  rw [hans] at HOn HStop
                  clear HW hend hans HA
                  by_cases hf : faultOf (2, s.extract k m) = 0
                  · have hf' : (checkAll [(2, s.extract k m)] != 0) = false := by simp [checkAll, faults, hf]
                    obtain ⟨hkE, hcE⟩ := HOn.out hf
                    have HCE := veil (cut_snoc HCut.out hcE)
                    clear HOn HStop HCut hcE hf
                    go_wp2_with fail
                    refine (fault_any _ [(2, s.extract k m)] _ (tokRow_one _ _ _ (Nat.le_trans (size_extract_le _ _ _) HM.out) (by simp))).mono ?_
                    rintro e w2 ⟨rfl, hb2⟩
                    obtain ⟨c0', c1', hba⟩ := box_cells hb2
                    have hown2 := ownsRow_below hown hba
                    have HL2 := veil (hbl.trans (hba.mono hbl.size))
                    have hsz2 : w.heap.size ≤ w2.heap.size := Nat.le_trans hbl.size hba.size
                    clear hb2 hba hown hbl
                    go_wp2_with (at_builtin; refine wpList_append_own _ rfl _ _ 134 rfl w.heap.size 199 i0 (.agg #[.int .i64 0, .string ⟨#[]⟩]) 2 24 Tryz.underlying134 hi hz0 hz1 hz2 rfl (by decide) _ _ _ rfl (hown2.alloc _) ⟨w2.heap.size, 0, none⟩ 1 1 [.int .i64 2, .string (s.extract k m)] rfl rfl ?c1 ?c2 ?c3 ?c4 ?c5 ?_)
                    case c1 => exact cell_two_new _ _ _ _
                    case c2 =>
                      intro u hu
                      simp at hu
                      rcases hu with rfl | rfl <;> rfl
                    case c3 => unfold maxLen; omega
                    case c4 => omega
                    case c5 => simp; omega
                    intro v' w3 hown3 hgrow _
                    have hrow := ownsRow_block hown2
                    have HL3 := veil ((HL2.out.alloc (by omega) (.cells #[.int .i64 2, .string (s.extract k m)] 199)).grown hgrow (by simp; omega) (fun j hj => by have := hrow j hj; omega))
                    have HO3 : Hid (w3.ownsRow w.heap.size 199 2 v' (done ++ [(2, s.extract k m)]).length (tokCells (done ++ [(2, s.extract k m)]))) := by
                      show w3.ownsRow _ _ _ _ _ _
                      rw [tokCells_snoc, List.length_append]
                      exact hown3
                    clear hown3 hgrow hrow hown2 HL2 hsz2 c0' c1'
                    go_wp2
                    go_roundw
                    case rel =>
                      refine ⟨done ++ [(2, s.extract k m)], m, by omega, rfl, HO3.out, HL3.out, HCE.out, by simp; omega, ?_⟩
                      intro t ht
                      rcases List.mem_append.1 ht with h | h
                      · exact HTS.out t h
                      · simp at h; rw [h]; exact size_extract_le _ _ _
                    case measure => simp [intOf]; omega
                  · have hf' : (checkAll [(2, s.extract k m)] != 0) = true := by simp [checkAll, faults, hf]
                    have HE := veil (cutErr_stop hs HCut.out (HStop.out hf))
                    have HT := veil (cutToks_stop hs HCut.out (HStop.out hf))
                    clear HOn HStop HCut hf
                    go_wp2_with fail
                    refine (fault_any _ [(2, s.extract k m)] _ (tokRow_one _ _ _ (Nat.le_trans (size_extract_le _ _ _) HM.out) (by simp))).mono ?_
                    rintro e w2 ⟨rfl, hb2⟩
                    obtain ⟨c0', c1', hba⟩ := box_cells hb2
                    have HL2 := veil (hbl.trans (hba.mono hbl.size))
                    clear hb2 hba hown hbl
                    go_wp2
                    go_ret2
                    exact ⟨_, by rw [HE.out]; rfl, by rw [HT.out]; exact Or.inl ⟨rfl, _, _, rfl⟩, HL2.out⟩
            · have hD : isDigit (byteAt s k) = false := by simpa using hD
              have hl : isIn ((s[k]'hlt).toNat : Int) 97 122 = false := by rw [HB.out]; exact hL
              have hd : isIn ((s[k]'hlt).toNat : Int) 48 57 = false := by rw [HB.out]; exact hD
              have hans := @ans_sign s k hnq hL hD
              rw [hans] at HOn HStop
              clear hans hL hD hnq
              by_cases hf : faultOf (4, s.extract k (k + 1)) = 0
              · have hf' : (checkAll [(4, s.extract k (k + 1))] != 0) = false := by simp [checkAll, faults, hf]
                obtain ⟨hkE, hcE⟩ := HOn.out hf
                have HCE := veil (cut_snoc HCut.out hcE)
                clear HOn HStop HCut hcE hf
                go_wp2_with (go_at_call 138; refine (in_any _ _ _ _).mono ?_; rintro e w' ⟨rfl, rfl⟩)
                go_wp2_with fail
                refine (fault_any _ [(4, s.extract k (k + 1))] _ (tokRow_one _ _ _ (Nat.le_trans (size_extract_le _ _ _) HM.out) (by simp))).mono ?_
                rintro e w2 ⟨rfl, hb2⟩
                obtain ⟨c0', c1', hba⟩ := box_cells hb2
                have hown2 := ownsRow_below hown hba
                have HL2 := veil (hbl.trans (hba.mono hbl.size))
                have hsz2 : w.heap.size ≤ w2.heap.size := Nat.le_trans hbl.size hba.size
                clear hb2 hba hown hbl
                go_wp2_with (at_builtin; refine wpList_append_own _ rfl _ _ 134 rfl w.heap.size 199 i0 (.agg #[.int .i64 0, .string ⟨#[]⟩]) 2 24 Tryz.underlying134 hi hz0 hz1 hz2 rfl (by decide) _ _ _ rfl (hown2.alloc _) ⟨w2.heap.size, 0, none⟩ 1 1 [.int .i64 4, .string (s.extract k (k + 1))] rfl rfl ?c1 ?c2 ?c3 ?c4 ?c5 ?_)
                case c1 => exact cell_two_new _ _ _ _
                case c2 =>
                  intro u hu
                  simp at hu
                  rcases hu with rfl | rfl <;> rfl
                case c3 => unfold maxLen; omega
                case c4 => omega
                case c5 => simp; omega
                intro v' w3 hown3 hgrow _
                have hrow := ownsRow_block hown2
                have HL3 := veil ((HL2.out.alloc (by omega) (.cells #[.int .i64 4, .string (s.extract k (k + 1))] 199)).grown hgrow (by simp; omega) (fun j hj => by have := hrow j hj; omega))
                have HO3 : Hid (w3.ownsRow w.heap.size 199 2 v' (done ++ [(4, s.extract k (k + 1))]).length (tokCells (done ++ [(4, s.extract k (k + 1))]))) := by
                  show w3.ownsRow _ _ _ _ _ _
                  rw [tokCells_snoc, List.length_append]
                  exact hown3
                clear hown3 hgrow hrow hown2 HL2 hsz2 c0' c1'
                go_wp2
                go_roundw
                case rel =>
                  refine ⟨done ++ [(4, s.extract k (k + 1))], k + 1, by omega, by go_num, HO3.out, HL3.out, HCE.out, by simp; omega, ?_⟩
                  intro t ht
                  rcases List.mem_append.1 ht with h | h
                  · exact HTS.out t h
                  · simp at h; rw [h]; exact size_extract_le _ _ _
                case measure => simp [intOf]; omega
              · have hf' : (checkAll [(4, s.extract k (k + 1))] != 0) = true := by simp [checkAll, faults, hf]
                have HE := veil (cutErr_stop hs HCut.out (HStop.out hf))
                have HT := veil (cutToks_stop hs HCut.out (HStop.out hf))
                clear HOn HStop HCut hf
                go_wp2_with (go_at_call 138; refine (in_any _ _ _ _).mono ?_; rintro e w' ⟨rfl, rfl⟩)
                go_wp2_with fail
                refine (fault_any _ [(4, s.extract k (k + 1))] _ (tokRow_one _ _ _ (Nat.le_trans (size_extract_le _ _ _) HM.out) (by simp))).mono ?_
                rintro e w2 ⟨rfl, hb2⟩
                obtain ⟨c0', c1', hba⟩ := box_cells hb2
                have HL2 := veil (hbl.trans (hba.mono hbl.size))
                clear hb2 hba hown hbl
                go_wp2
                go_ret2
                exact ⟨_, by rw [HE.out]; rfl, by rw [HT.out]; exact Or.inl ⟨rfl, _, _, rfl⟩, HL2.out⟩
    · have hp := cutAt_past hlt
      have hcut' : cutAt s 0 = some done := by rw [HCut.out, hp]; simp
      have hmd : done.length ≤ maxLen := by unfold maxLen; omega
      have HTR := veil (ownsRow_toks hown hmd (fun t ht => Nat.le_trans (HTS.out t ht) HM.out))
      have HL := veil hbl
      obtain ⟨av, cp, hav⟩ : ∃ av cp, u4 = .slice av done.length cp := by
        obtain ⟨_, ⟨hv, hn⟩ | ⟨g, cap, cur, hv, _⟩⟩ := hown
        · exact ⟨none, 0, by rw [hv, hn]⟩
        · exact ⟨_, _, hv⟩
      clear HCut hp hown hbl
      by_cases h200 : 200 < done.length
      · have h2 : (200 : Int) < (done.length : Int) := by omega
        have HE : Hid (cutErr s = 1) := by
          show cutErr s = 1
          unfold cutErr
          rw [if_neg (by omega), hcut']
          exact if_pos h200
        have HT : Hid (cutToks s = []) := by
          show cutToks s = []
          unfold cutToks
          rw [if_neg (by omega), hcut']
          exact if_pos h200
        clear hcut' h200
        rw [hav]
        clear hav HTR
        go_wp2
        go_ret2
        exact ⟨_, by rw [HE.out]; rfl, by rw [HT.out]; exact Or.inl ⟨rfl, _, _, rfl⟩, HL.out⟩
      · have h2 : ¬ (200 : Int) < (done.length : Int) := by omega
        have HE : Hid (cutErr s = 0) := by
          show cutErr s = 0
          unfold cutErr
          rw [if_neg (by omega), hcut']
          exact if_neg h200
        have HT : Hid (cutToks s = done) := by
          show cutToks s = done
          unfold cutToks
          rw [if_neg (by omega), hcut']
          exact if_neg h200
        clear hcut' h200
        rw [hav] at HTR
        rw [hav]
        clear hav
        go_wp2
        go_ret2
        exact ⟨_, by rw [HE.out]; rfl, by rw [HT.out]; exact HTR.out, HL.out⟩

theorem of_all (s : ByteArray) (w : World) :
    Calls Tryz.prog 74 #[.string s] w fun e w' => ∃ v, e = .returned (.tuple #[v, .int .i64 (cutErr s)]) ∧ TokRow w' v (cutToks s) ∧ Below w.heap.size w w' := by
  by_cases h : 1500 < s.size
  · have h' : (1500 : Int) < (s.size : Int) := by omega
    have HE : Hid (cutErr s = 1) := if_pos h
    have HT : Hid (cutToks s = []) := if_pos h
    clear h
    go_enter Tryz.func74, Tryz.ntmps74
    go_wp2
    go_ret2
    exact ⟨_, by rw [HE.out]; rfl, by rw [HT.out]; exact Or.inl ⟨rfl, _, _, rfl⟩, Below.refl _ _⟩
  · exact of_any s (by omega) w

end Go.Proofs.YtagbaimfigljiaaGreatDoor
