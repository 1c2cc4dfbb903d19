import Derived.Test.YtagbaimfigljiaaGreatDoorJCk9
import Derived.Test.YtagbaimfigljiaaGreatDoorJCk6
import Derived.Test.YtagbaimfigljiaaGreatDoorJCk7
import Derived.Test.YtagbaimfigljiaaGreatDoorJCk0
namespace Go.Proofs.YtagbaimfigljiaaGreatDoor
open Go.RowKit
set_option maxRecDepth 100000

theorem infoTok : (Tryz.prog.info? 199).map (fun i => (i.zero, i.size, i.bytes)) = some (some (.agg #[.int .i64 0, .string ⟨#[]⟩]), 2, 24) := by kernel_rfl

def tokCells (l : List (Int × ByteArray)) : List Value := l.flatMap fun t => [.int .i64 t.1, .string t.2]

theorem tokCells_snoc (l : List (Int × ByteArray)) (t : Int × ByteArray) : tokCells (l ++ [t]) = tokCells l ++ [.int .i64 t.1, .string t.2] := by
  simp [tokCells]

theorem tokCells_at : ∀ (l : List (Int × ByteArray)) (i : Nat), i < l.length → (tokCells l)[i * 2]? = some (.int .i64 (l.getD i (0, .empty)).1) ∧ (tokCells l)[i * 2 + 1]? = some (.string (l.getD i (0, .empty)).2)
  | [], i, h => absurd h (by simp)
  | t :: r, 0, _ => by simp [tokCells]
  | t :: r, i + 1, h => by
    have ih := tokCells_at r i (by simpa using h)
    have e : tokCells (t :: r) = .int .i64 t.1 :: .string t.2 :: tokCells r := by simp [tokCells]
    rw [e, show (i + 1) * 2 = i * 2 + 1 + 1 by omega, show i * 2 + 1 + 1 + 1 = (i * 2 + 1) + 1 + 1 by omega]
    simp only [List.getElem?_cons_succ, List.getD_cons_succ]
    exact ih

theorem ownsRow_below {w w' : World} {B : Nat} {e : TypeId} {size : Nat} {v : Value} {n : Nat} {xs : List Value} (h : w.ownsRow B e size v n xs) (hb : Below w.heap.size w w') : w'.ownsRow B e size v n xs := by
  obtain ⟨hx, h | ⟨g, cap, cur, hv, hg, hh, h1, h2, h3, h4⟩⟩ := h
  · exact ⟨hx, Or.inl h⟩
  · refine ⟨hx, Or.inr ⟨g, cap, cur, hv, hg, ?_, h1, h2, h3, h4⟩⟩
    rw [hb.block g ?_]
    · exact hh
    · rcases Nat.lt_or_ge g w.heap.size with h | h
      · exact h
      · rw [Array.getElem?_eq_none h] at hh
        cases hh

theorem ownsRow_toks {w : World} {B : Nat} {v : Value} {l : List (Int × ByteArray)} (h : w.ownsRow B 199 2 v l.length (tokCells l)) (hl : l.length ≤ maxLen) (hs : ∀ t ∈ l, t.2.size ≤ maxLen) : TokRow w v l := by
  obtain ⟨hx, ⟨hv, hn⟩ | ⟨g, cap, cur, hv, hg, hh, h1, h2, h3, h4⟩⟩ := h
  · exact Or.inl ⟨List.length_eq_zero_iff.1 hn, _, _, hv⟩
  · refine Or.inr ⟨g, 0, cap, hv, ?_, hl, fun i hi => ?_⟩
    · rcases Nat.lt_or_ge g w.heap.size with h | h
      · exact h
      · rw [Array.getElem?_eq_none h] at hh
        cases hh
    · have hc : ∀ j u, (tokCells l)[j]? = some u → w.cell? ⟨g, j, none⟩ = some u := fun j u hj => by
        rw [← h4] at hj
        have hj' : j < l.length * 2 := by
          rcases Nat.lt_or_ge j (l.length * 2) with h | h
          · exact h
          · rw [List.getElem?_eq_none (by rw [List.length_take]; omega)] at hj
            cases hj
        rw [List.getElem?_take_of_lt hj'] at hj
        simpa [World.cell?, hh] using hj
      obtain ⟨a, b⟩ := tokCells_at l i hi
      refine ⟨by simpa using hc _ _ a, by simpa using hc _ _ b, hs _ ?_⟩
      rw [List.getD_eq_getElem?_getD, List.getElem?_eq_getElem hi]
      exact List.getElem_mem hi

theorem ownsRow_block {w : World} {B : Nat} {e : TypeId} {size : Nat} {v : Value} {n : Nat} {xs : List Value} (h : w.ownsRow B e size v n xs) : ∀ k, v.ownBlock = some k → B ≤ k := by
  intro k hk
  obtain ⟨_, ⟨hv, _⟩ | ⟨g, cap, cur, hv, hg, _⟩⟩ := h
  · rw [hv] at hk
    cases hk
  · rw [hv] at hk
    have : g = k := by simpa [Value.ownBlock] using hk
    omega

theorem getD_none_fault {s : ByteArray} {k : Nat} (h : nextTok s k = none) : faultOf (tokAns s k).1 ≠ 0 := by
  simp [tokAns, h, faultOf, tokFault]

theorem ans_some {s : ByteArray} {k : Nat} (h : faultOf (tokAns s k).1 = 0) : nextTok s k = some (tokAns s k) := by
  cases hn : nextTok s k with
  | none => exact absurd h (getD_none_fault hn)
  | some te => simp [tokAns, hn]

theorem cut_stop {s : ByteArray} {k : Nat} (hk : k < s.size) (hb : byteAt s k ≠ 32) (h : faultOf (tokAns s k).1 ≠ 0) : cutAt s k = none := by
  cases hn : nextTok s k with
  | none => exact cutAt_none hk hb hn
  | some te =>
    have e : tokAns s k = te := by simp [tokAns, hn]
    rw [e] at h
    exact cutAt_bad hk hb hn h

theorem ans_bd {s : ByteArray} {k : Nat} (hk : k < s.size) : (tokAns s k).1.2.size ≤ s.size ∧ (tokAns s k).2 ≤ s.size := by
  cases hn : nextTok s k with
  | none =>
    have e : tokAns s k = ((0, ⟨#[]⟩), s.size) := by simp [tokAns, hn]
    rw [e]
    exact ⟨Nat.zero_le _, Nat.le_refl _⟩
  | some te =>
    obtain ⟨t, e⟩ := te
    have h := nextTok_bd hk hn
    have e' : tokAns s k = (t, e) := by simp [tokAns, hn]
    rw [e']
    exact ⟨h.2.2, h.2.1⟩

theorem cut_on {s : ByteArray} {k : Nat} (hk : k < s.size) (hb : byteAt s k ≠ 32) (h : faultOf (tokAns s k).1 = 0) : k < (tokAns s k).2 ∧ cutAt s k = (cutAt s (tokAns s k).2).map ((tokAns s k).1 :: ·) := by
  have hn := ans_some h
  exact ⟨(nextTok_bd hk hn).1, cutAt_good hk hb hn h⟩

theorem cut_snoc {s : ByteArray} {i k : Nat} {done : List (Int × ByteArray)} {t : Int × ByteArray} (h : cutAt s 0 = (cutAt s i).map (done ++ ·)) (h' : cutAt s i = (cutAt s k).map (t :: ·)) : cutAt s 0 = (cutAt s k).map ((done ++ [t]) ++ ·) := by
  rw [h, h', Option.map_map]
  congr 1
  funext l
  simp

set_option maxHeartbeats 4000000 in
theorem cut_any (s : ByteArray) (hs : s.size ≤ 1500) (w : World) :
    Calls Tryz.prog 119 #[.string s] w fun e w' => ∃ v, e = .returned (.tuple #[v, .int .i64 (cutErr s)]) ∧ TokRow w' v (cutToks s) ∧ Below w.heap.size w w' := by
  have h1500 : ¬ (1500 : Int) < (s.size : Int) := by omega
  have HM : Hid (s.size ≤ maxLen) := by show _ ≤ _; unfold maxLen; omega
  have hc : (w.alloc (.cells #[.string s] 9)).cell? ⟨w.heap.size, 0, none⟩ = some (.string s) := by
    rw [World.cell?_alloc_at _ _ _ _ rfl]; rfl
  have hr := run_pure 190 (enters_of Tryz.func190 (by kernel_rfl) rfl) isBlank blank_any s HM.out w.heap.size 0 (by omega) (by omega) _ hc
  obtain ⟨i0, hi, hz0, hz1, hz2⟩ := info_parts infoTok
  go_enter Tryz.func119, Tryz.ntmps119
  go_wp2_with (go_at_call 189; refine (runOf_any _ _).mono ?_; rintro e w' ⟨rfl, rfl⟩)
  refine hr.mono ?_
  rintro e w' ⟨rfl, rfl⟩
  clear hr
  have HS := veil (runEnd_spec isBlank s 0 (by omega))
  have HR := veil (@cutAt_run s 0 (by omega))
  rw [show ((0 : Int)).toNat = 0 from rfl]
  generalize runEnd isBlank s 0 = E at *
  go_wp2
  go_loopw [4, 6] (fun v i wr => ∃ (done : List (Int × ByteArray)) (k : Nat), k ≤ s.size ∧ i = .int .i64 k ∧ (k < s.size → byteAt s k ≠ 32) ∧ wr.ownsRow (w.heap.size + 1) 199 2 v done.length (tokCells done) ∧
      wr.cell? ⟨w.heap.size, 0, none⟩ = some (.string s) ∧ w.heap.size + 1 ≤ wr.heap.size ∧ Below w.heap.size w wr ∧ cutAt s 0 = (cutAt s k).map (done ++ ·) ∧ done.length ≤ k ∧ ∀ t ∈ done, t.2.size ≤ s.size)
    (fun _ i _ => s.size - (intOf i).toNat)
  case atStart =>
    refine ⟨[], E, HS.out.2.1, rfl, fun h => ?_, World.ownsRow_nil _ _ _ _, hc, by simp, (Below.refl _ _).alloc (Nat.le_refl _) _, ?_, by simp, by simp⟩
    · have := HS.out.2.2.2 h
      simpa [isBlank] using this
    · rw [HR.out]; simp
  case round =>
    clear hc HS HR
    obtain ⟨done, k, hk, rfl, hnb, hown, hcs, hsz, hbl, hcut, hdl, hts⟩ := hrel
    have HNB := veil hnb
    have HCut := veil hcut
    have HTS := veil hts
    clear hnb hcut hts
    by_cases hlt : k < s.size
    · have hT := tokenAt_any clone_said s hs k hlt wr
      have hbd := ans_bd hlt
      have HOn := veil (@cut_on s k hlt (HNB.out hlt))
      have HStop := veil (@cut_stop s k hlt (HNB.out hlt))
      clear HNB
      generalize tokAns s k = A at *
      obtain ⟨⟨kd, tx⟩, E⟩ := A
      simp only at hT hbd
      obtain ⟨htx, hE⟩ := hbd
      have hmx : tx.size ≤ maxLen := Nat.le_trans htx HM.out
      by_cases hf : tokFault kd tx = 0
      · have hf' : (tokFault kd tx != 0) = false := by simp [hf]
        obtain ⟨hkE, hcE⟩ := HOn.out hf
        have HCE := veil (cut_snoc HCut.out hcE)
        clear HOn HStop HCut hcE hf
        go_wp2_with fail
        refine hT.mono ?_
        rintro e w1 ⟨rfl, hb1⟩
        clear hT
        have hown1 := ownsRow_below hown hb1
        have hcs1 := (hb1.cell (p := ⟨w.heap.size, 0, none⟩) (by simp; omega)).trans hcs
        have hbl1 := hbl.trans (hb1.mono hbl.size)
        have hsz1 : w.heap.size + 1 ≤ w1.heap.size := Nat.le_trans hsz hb1.size
        clear hown hcs hbl hsz hb1
        have HW1 := veil hown1
        have HL1 := veil hbl1
        clear hown1 hbl1
        go_wp2_with fail
        refine (checkOne_any kd tx hmx _).mono ?_
        rintro e w2 ⟨rfl, hb2⟩
        have c0 := hb2.cell (p := ⟨w1.heap.size, 0, none⟩) (by simp)
        have c1 := hb2.cell (p := ⟨w1.heap.size, 1, none⟩) (by simp)
        rw [World.cell?_alloc_at _ _ _ _ rfl] at c0 c1
        have c0' : w2.cell? ⟨w1.heap.size, 0, none⟩ = some (.int .i64 kd) := c0
        have c1' : w2.cell? ⟨w1.heap.size, 1, none⟩ = some (.string tx) := c1
        have hba : Below w1.heap.size w1 w2 := ((Below.refl _ _).alloc (Nat.le_refl _) _).trans (hb2.mono (by simp))
        have hcs2 := (hba.cell (p := ⟨w.heap.size, 0, none⟩) (by simp; omega)).trans hcs1
        have hown2 := ownsRow_below HW1.out hba
        have HL2 := veil (HL1.out.trans (hba.mono HL1.out.size))
        have hsz2 : w.heap.size + 1 ≤ w2.heap.size := Nat.le_trans hsz1 hba.size
        clear c0 c1 hcs1 hb2 hsz1 HW1 HL1 hba
        go_wp2_with (at_builtin; refine wpList_append_own _ rfl _ _ 134 rfl (w.heap.size + 1) 199 i0 (.agg #[.int .i64 0, .string ⟨#[]⟩]) 2 24 Tryz.underlying134 hi hz0 hz1 hz2 rfl (by decide) _ _ _ rfl (hown2.alloc _) ⟨w2.heap.size, 0, none⟩ 1 1 [.int .i64 kd, .string tx] rfl rfl ?c1 ?c2 ?c3 ?c4 ?c5 ?_)
        case c1 => exact cell_two_new _ _ _ _
        case c2 =>
          intro u hu
          simp at hu
          rcases hu with rfl | rfl <;> rfl
        case c3 => unfold maxLen; omega
        case c4 => omega
        case c5 => simp; omega
        intro v' w3 hown3 hgrow _
        have hrow := ownsRow_block hown2
        have hcs3 : w3.cell? ⟨w.heap.size, 0, none⟩ = some (.string s) := by
          rw [World.cell?_of_block (hgrow.block w.heap.size (by simp; omega) (fun h => by have := hrow _ h.symm; omega)), World.cell?_alloc_past _ _ _ (by omega)]
          exact hcs2
        have HL3 := veil ((HL2.out.alloc (by omega) (.cells #[.int .i64 kd, .string tx] 199)).grown hgrow (by simp; omega) (fun j hj => by have := hrow j hj; omega))
        have hsz3 : w.heap.size + 1 ≤ w3.heap.size := by have := hgrow.size; simp at this; omega
        have HO3 : Hid (w3.ownsRow (w.heap.size + 1) 199 2 v' (done ++ [(kd, tx)]).length (tokCells (done ++ [(kd, tx)]))) := by
          show w3.ownsRow _ _ _ _ _ _
          rw [tokCells_snoc, List.length_append]
          exact hown3
        clear hown3 hgrow hrow hown2 HL2 hcs2 hsz2 c0' c1'
        have hr := run_pure 190 (enters_of Tryz.func190 (by kernel_rfl) rfl) isBlank blank_any s HM.out w.heap.size (E : Int) (by omega) (by omega) _ hcs3
        rw [Int.toNat_natCast] at hr
        have HS := veil (runEnd_spec isBlank s E hE)
        have HR := veil (@cutAt_run s E hE)
        obtain ⟨g1, g2, _, _⟩ := HS.out
        generalize runEnd isBlank s E = F at *
        go_wp2_with fail
        refine hr.mono ?_
        rintro e w' ⟨rfl, rfl⟩
        clear hr
        go_wp2
        go_roundw
        case rel =>
          refine ⟨done ++ [(kd, tx)], F, g2, rfl, fun h => ?_, HO3.out, hcs3, hsz3, HL3.out, ?_, ?_, ?_⟩
          · have := HS.out.2.2.2 h
            simpa [isBlank] using this
          · rw [HR.out]; exact HCE.out
          · simp; omega
          · intro t ht
            rcases List.mem_append.1 ht with h | h
            · exact HTS.out t h
            · simp at h; rw [h]; exact htx
        case measure => simp [intOf]; omega
      · have hf' : (tokFault kd tx != 0) = true := by simp [hf]
        have HE : Hid (cutErr s = 4) := by
          show cutErr s = 4
          unfold cutErr
          rw [if_neg (by omega), HCut.out, HStop.out hf]
          rfl
        have HT : Hid (cutToks s = []) := by
          show cutToks s = []
          unfold cutToks
          rw [if_neg (by omega), HCut.out, HStop.out hf]
          rfl
        clear HOn HStop HCut hf
        go_wp2_with fail
        refine hT.mono ?_
        rintro e w1 ⟨rfl, hb1⟩
        clear hT
        have HL1 := veil (hbl.trans (hb1.mono hbl.size))
        have hsz1 : w.heap.size + 1 ≤ w1.heap.size := Nat.le_trans hsz hb1.size
        clear hown hcs hbl hsz hb1
        go_wp2_with fail
        refine (checkOne_any kd tx hmx _).mono ?_
        rintro e w2 ⟨rfl, hb2⟩
        have HL2 := veil ((HL1.out.alloc (by omega) _).trans (hb2.mono (by simp; omega)))
        clear hb2
        go_wp2
        go_ret2
        exact ⟨_, by rw [HE.out]; rfl, by rw [HT.out]; exact Or.inl ⟨rfl, _, _, rfl⟩, HL2.out⟩
    · have hp := cutAt_past hlt
      have hcut' : cutAt s 0 = some done := by rw [HCut.out, hp]; simp
      have hmd : done.length ≤ maxLen := by unfold maxLen; omega
      have HTR := veil (ownsRow_toks hown hmd (fun t ht => Nat.le_trans (HTS.out t ht) HM.out))
      have HL := veil hbl
      obtain ⟨av, cp, hav⟩ : ∃ av cp, u4 = .slice av done.length cp := by
        obtain ⟨_, ⟨hv, hn⟩ | ⟨g, cap, cur, hv, _⟩⟩ := hown
        · exact ⟨none, 0, by rw [hv, hn]⟩
        · exact ⟨_, _, hv⟩
      clear HNB HCut hp hown hbl
      by_cases h200 : 200 < done.length
      · have h2 : (200 : Int) < (done.length : Int) := by omega
        have HE : Hid (cutErr s = 1) := by
          show cutErr s = 1
          unfold cutErr
          rw [if_neg (by omega), hcut']
          exact if_pos h200
        have HT : Hid (cutToks s = []) := by
          show cutToks s = []
          unfold cutToks
          rw [if_neg (by omega), hcut']
          exact if_pos h200
        clear hcut' h200
        rw [hav]
        clear hav HTR
        go_wp2
        go_ret2
        exact ⟨_, by rw [HE.out]; rfl, by rw [HT.out]; exact Or.inl ⟨rfl, _, _, rfl⟩, HL.out⟩
      · have h2 : ¬ (200 : Int) < (done.length : Int) := by omega
        have HE : Hid (cutErr s = 0) := by
          show cutErr s = 0
          unfold cutErr
          rw [if_neg (by omega), hcut']
          exact if_neg h200
        have HT : Hid (cutToks s = done) := by
          show cutToks s = done
          unfold cutToks
          rw [if_neg (by omega), hcut']
          exact if_neg h200
        clear hcut' h200
        rw [hav] at HTR
        rw [hav]
        clear hav
        go_wp2
        go_ret2
        exact ⟨_, by rw [HE.out]; rfl, by rw [HT.out]; exact HTR.out, HL.out⟩

theorem cut_all (s : ByteArray) (w : World) :
    Calls Tryz.prog 119 #[.string s] w fun e w' => ∃ v, e = .returned (.tuple #[v, .int .i64 (cutErr s)]) ∧ TokRow w' v (cutToks s) ∧ Below w.heap.size w w' := by
  by_cases h : 1500 < s.size
  · have h' : (1500 : Int) < (s.size : Int) := by omega
    have HE : Hid (cutErr s = 1) := if_pos h
    have HT : Hid (cutToks s = []) := if_pos h
    clear h
    go_enter Tryz.func119, Tryz.ntmps119
    go_wp2
    go_ret2
    exact ⟨_, by rw [HE.out]; rfl, by rw [HT.out]; exact Or.inl ⟨rfl, _, _, rfl⟩, Below.refl _ _⟩
  · exact cut_any s (by omega) w

end Go.Proofs.YtagbaimfigljiaaGreatDoor
namespace Go.Proofs.YtagbaimfigljiaaGreatDoor
open Go.RowKit
set_option maxRecDepth 100000

theorem cutF_sound (s : ByteArray) : ∀ (f i : Nat) (l : List (Int × ByteArray)), cutF s f i = some l → ∀ t ∈ l, faultOf t = 0
  | 0, _, l, h, t, ht => by
    simp only [cutF, Option.some.injEq] at h
    rw [← h] at ht
    cases ht
  | f + 1, i, l, h, t, ht => by
    unfold cutF at h
    split at h
    · split at h
      · exact cutF_sound s f _ l h t ht
      · split at h
        · cases h
        · rename_i u e _
          split at h
          · rename_i hu
            obtain ⟨r, hr, rfl⟩ := Option.map_eq_some_iff.1 h
            rcases List.mem_cons.1 ht with rfl | ht
            · exact hu
            · exact cutF_sound s f e r hr t ht
          · cases h
    · simp only [Option.some.injEq] at h
      rw [← h] at ht
      cases ht

theorem fault_sound {k : Int} {t : ByteArray} (h : tokFault k t = 0) : (k = 1 ∧ wordOk t = true) ∨ (k = 2 ∧ numOk t = true) ∨ (k = 3 ∧ quoteOk t = true) ∨ (k = 4 ∧ signOk t = true) := by
  unfold tokFault at h
  split at h
  · rename_i hk
    split at h
    · rename_i ho
      unfold tokOk at ho
      split at ho
      · exact Or.inl ⟨‹_›, ho⟩
      · split at ho
        · exact Or.inr (Or.inl ⟨‹_›, ho⟩)
        · split at ho
          · exact Or.inr (Or.inr (Or.inl ⟨‹_›, ho⟩))
          · exact Or.inr (Or.inr (Or.inr ⟨by omega, ho⟩))
    · omega
  · omega

theorem cut_sound {s : ByteArray} (h : cutErr s = 0) : s.size ≤ 1500 ∧ cutAt s 0 = some (cutToks s) ∧ (cutToks s).length ≤ 200 ∧ (∀ t ∈ cutToks s, faultOf t = 0) := by
  unfold cutErr at h
  split at h
  · omega
  · rename_i hs
    cases hc : cutAt s 0 with
    | none => rw [hc] at h; simp at h
    | some l =>
      rw [hc] at h
      simp only at h
      split at h
      · omega
      · rename_i hl
        have e : cutToks s = l := by unfold cutToks; rw [if_neg hs, hc]; exact if_neg hl
        rw [e]
        exact ⟨by omega, rfl, by omega, cutF_sound s _ _ l hc⟩

end Go.Proofs.YtagbaimfigljiaaGreatDoor
namespace Go.Proofs.YtagbaimfigljiaaGreatDoor
open Go.RowKit
set_option maxRecDepth 100000

/-- what a line declares, or what is wrong with it. -/
def lineRes (s : ByteArray) : Except Int Line := if cutErr s = 0 then pLine (cutToks s) else .error (cutErr s)

/-- from W to W' nothing has turned below base but block M. -/
structure BelowM (base M : Nat) (W W' : World) : Prop where
  os : W'.os = W.os
  tape : W'.tape = W.tape
  output : W'.output = W.output
  size : W.heap.size ≤ W'.heap.size
  block : ∀ k, k < base → k ≠ M → W'.heap[k]? = W.heap[k]?

theorem BelowM.of_below {base M n : Nat} {W W' : World} (h : Below n W W') (hn : base ≤ n) : BelowM base M W W' := ⟨h.os, h.tape, h.output, h.size, fun k hk _ => h.block k (by omega)⟩
theorem BelowM.trans {base M : Nat} {W W' W'' : World} (h : BelowM base M W W') (h' : BelowM base M W' W'') : BelowM base M W W'' :=
  ⟨h'.os.trans h.os, h'.tape.trans h.tape, h'.output.trans h.output, Nat.le_trans h.size h'.size, fun k hk hne => (h'.block k hk hne).trans (h.block k hk hne)⟩
theorem GrewM.belowM {base M o c : Nat} {cells : Array Value} {T : TypeId} {v v' : Value} {n n' : Nat} {ys ys' : List Value} {W W' : World} (h : GrewM base M o cells T c v v' n' ys' W W') (hown : W.ownsRow base T c v n ys) (hW : base ≤ W.heap.size) : BelowM base M W W' :=
  ⟨h.os, h.tape, h.output, h.size, fun k hk hne => h.rest k (by omega) hne (fun e => by have := ownsRow_in hown _ e.symm; omega)⟩

/-- what is said of a line: the answer, and the module behind it. -/
def LineR (base M : Nat) (mo : Mo) (W : World) (r : Except Int Line) (x : Int) (w' : World) : Prop := BelowM base M W w' ∧ ((∃ e, r = .error e ∧ x = e) ∨ ∃ d, r = .ok d ∧ x = 0 ∧ ∃ n1 vu vt vf, ModAt base M n1 (putLine mo d) vu vt vf w')

theorem own_slice {W : World} {base c n : Nat} {T : TypeId} {v : Value} {ys : List Value} (h : W.ownsRow base T c v n ys) : ∃ la cap, v = .slice la n cap := by
  rcases h.2 with ⟨h1, h2⟩ | ⟨g, cap, _, h1, _⟩
  · exact ⟨none, 0, by rw [h1, h2]⟩
  · exact ⟨_, cap, h1⟩

theorem toks_of {w w' : World} {v : Value} {l : Toks} {B : Nat} (h : TokRow w v l) (hB : w.heap.size = B) (hb : Below w.heap.size w w') (h2 : l.length ≤ 200) (h3 : ∀ t ∈ l, faultOf t = 0) : ToksAt B w' v l := by
  refine ⟨⟨h2, fun t ht h1 => ?_⟩, ?_⟩
  · have := h3 t ht
    unfold faultOf at this
    rcases fault_sound this with ⟨h, _⟩ | ⟨_, h⟩ | ⟨h, _⟩ | ⟨h, _⟩
    · omega
    · exact h
    · omega
    · omega
  · rcases h with h | ⟨b, off, cap, rfl, hlt, _, hc⟩
    · exact Or.inl h
    · refine Or.inr ⟨b, off, cap, rfl, by omega, fun i hi => ?_⟩
      have h := hc i hi
      rw [List.getD_eq_getElem?_getD, List.getElem?_eq_getElem hi] at h
      exact ⟨(hb.cell (p := ⟨b, off + i * 2, none⟩) hlt).trans h.1, (hb.cell (p := ⟨b, off + i * 2 + 1, none⟩) hlt).trans h.2.1, h.2.2⟩

/-- where a line is read to its end. -/
theorem lineR_fin {base M : Nat} {mo : Mo} {W w' : World} {l : Toks} {j : Nat} {d : Line} {r : Except Int Line} (hb : BelowM base M W w') (hr : r = if l.length ≤ j then .ok d else .error 4) (hm : ∃ n1 vu vt vf, ModAt base M n1 (putLine mo d) vu vt vf w') :
    LineR base M mo W r (if l.length ≤ j then 0 else 4) w' := by
  refine ⟨hb, ?_⟩
  by_cases h : l.length ≤ j
  · rw [if_pos h] at hr ⊢
    exact Or.inr ⟨d, hr, rfl, hm⟩
  · rw [if_neg h] at hr ⊢
    exact Or.inl ⟨4, hr, rfl⟩

set_option maxHeartbeats 8000000 in
theorem line_next (s : ByteArray) (base M n1 : Nat) (mo : Mo) (vu vt vf : Value) (W : World) (h : ModAt base M n1 mo vu vt vf W) (hu : mo.uses.length ≤ 2000) (ht : mo.types.length ≤ 2000) (hf : mo.funcs.length ≤ 2000) :
    Calls Tryz.prog 71 #[.string s, .pointer (some ⟨M, 0, none⟩)] W (Ends (LineR base M mo W (lineRes s))) := by
  have hM := h.hM
  have hb := h.hb
  have hn := h.hn
  have HMod := veil h
  have hal0 : Below W.heap.size W (W.alloc (.cells #[.pointer (some ⟨M, 0, none⟩)] 130)) := (Below.refl _ _).alloc (Nat.le_refl _) _
  have HB0 := veil hal0
  have hef := makeFunc_run
  clear h hal0
  go_enter Tryz.func71, Tryz.ntmps71
  go_wp2_with fail
  refine (cut_all s _).mono ?_
  rintro e w1 ⟨v, rfl, hv, hb1⟩
  have hsz1 : W.heap.size + 1 ≤ w1.heap.size := by have := hb1.size; simpa using this
  have hbel1 : Below W.heap.size W w1 := HB0.out.trans (hb1.mono (by simp))
  have HB1 := veil hbel1
  have cm1 : w1.cell? ⟨W.heap.size, 0, none⟩ = some (.pointer (some ⟨M, 0, none⟩)) := (hb1.cell (p := ⟨W.heap.size, 0, none⟩) (by simp)).trans (World.cell?_alloc_at _ _ _ _ rfl)
  by_cases hce : cutErr s = 0
  · have hLR : lineRes s = pLine (cutToks s) := if_pos hce
    have HLR := veil hLR
    obtain ⟨_, _, h200, hval⟩ := cut_sound hce
    rw [hce]
    generalize cutToks s = l at *
    by_cases hl0 : l.length = 0
    · have hR : LineR base M mo W (lineRes s) 0 w1 := ⟨BelowM.of_below hbel1 (by omega), Or.inr ⟨.none, by rw [hLR]; unfold pLine; simp only [hl0, if_true], rfl, n1, vu, vt, vf, HMod.out.keep (hbel1.mono hn)⟩⟩
      have HR := veil hR
      obtain ⟨a, cap, rfl⟩ : ∃ a cap, v = .slice a 0 cap := by
        rcases hv with ⟨_, h⟩ | ⟨b, off, cap, h, _⟩
        · exact h
        · exact ⟨_, cap, by rw [h, hl0]⟩
      clear hR hv hb1 hbel1 hval hLR cm1 hce
      go_wp2_with fail
      go_ret
      exact ⟨_, rfl, HR.out⟩
    · obtain ⟨a, cap, rfl⟩ : ∃ a cap, v = .slice a l.length cap := by
        rcases hv with ⟨h, _⟩ | ⟨b, off, cap, h, _⟩
        · rw [h] at hl0; exact absurd rfl hl0
        · exact ⟨_, cap, h⟩
      have hl0' : (((l.length : Nat) : Int) == 0) = false := by simpa using hl0
      have hal2 : Below w1.heap.size w1 ((w1.alloc (.cells #[.slice a l.length cap, .int .i64 0] 181)).alloc (.cells #[.pointer (some ⟨w1.heap.size, 0, none⟩)] 179)) := ((Below.refl _ _).alloc (Nat.le_refl _) _).alloc (by simp) _
      have hrd : RdAt w1.heap.size l 0 ((w1.alloc (.cells #[.slice a l.length cap, .int .i64 0] 181)).alloc (.cells #[.pointer (some ⟨w1.heap.size, 0, none⟩)] 179)) := by
        refine ⟨.slice a l.length cap, ?_, toks_of hv rfl hal2 h200 hval, Nat.zero_le _⟩
        rw [heap_alloc_old _ _ (by simp)]
        exact heap_alloc_new w1 _
      have hw2 : ∃ w2, ((w1.alloc (.cells #[.slice a l.length cap, .int .i64 0] 181)).alloc (.cells #[.pointer (some ⟨w1.heap.size, 0, none⟩)] 179)) = w2 ∧ w2.cell? ⟨W.heap.size, 0, none⟩ = some (.pointer (some ⟨M, 0, none⟩)) ∧ w2.cell? ⟨w1.heap.size + 1, 0, none⟩ = some (.pointer (some ⟨w1.heap.size, 0, none⟩)) ∧ w2.heap.size = w1.heap.size + 2 :=
        ⟨_, rfl, (World.cell?_alloc_old _ _ _ (by show W.heap.size ≠ _; simp; omega)).trans ((World.cell?_alloc_old _ _ _ (by show W.heap.size ≠ _; omega)).trans cm1), World.cell?_alloc_at _ _ _ _ (by simp), by simp⟩
      obtain ⟨w2, hwe, y0, y1, hs2⟩ := hw2
      rw [hwe] at hal2 hrd
      have HX := veil (show ∀ W', Moved w1.heap.size w2 W' → Below W.heap.size W W' ∧ W'.cell? ⟨W.heap.size, 0, none⟩ = some (.pointer (some ⟨M, 0, none⟩)) ∧ W'.cell? ⟨w1.heap.size + 1, 0, none⟩ = some (.pointer (some ⟨w1.heap.size, 0, none⟩)) from fun W' hm =>
        ⟨(hbel1.trans (hal2.mono (by omega))).trans (hm.below.mono (by omega)), (hm.below.cell (p := ⟨W.heap.size, 0, none⟩) (by show W.heap.size < _; omega)).trans y0, (hm.cell (by omega) (by omega) 0).trans y1⟩)
      have HR2 := veil hrd
      have HL0 := veil hl0
      clear hal2 hrd hv hb1 hbel1 hval h200 cm1 hLR hce hl0
      go_wp2_with fail
      try rw [hwe]
      refine (word_next w1.heap.size l 0 ⟨#[117, 115, 101]⟩ _ HR2.out).mono ?_
      rintro e w3 ⟨rfl, q1, q2⟩
      have HN3 := veil q2
      have hsz3 := q2.below.size
      obtain ⟨hbx3, k0, k1⟩ := HX.out w3 q2
      have HBel3 := veil hbx3
      cases hu1 : wrd l 0 [117, 115, 101]
      case true =>
        have hu1' : wrd l 0 (ByteArray.mk #[117, 115, 101]).data.toList = true := hu1
        rw [hu1'] at q1
        have q1' : RdAt w1.heap.size l 1 w3 := q1
        have hmod3 := HMod.out.keep (hbx3.mono hn)
        obtain ⟨yu, hyu⟩ := hmod3.us
        obtain ⟨la, lcap, hvu⟩ := own_slice hyu.own
        subst hvu
        have hP : lineRes s = match identAt l 1 with
          | .none => .error 4
          | .some t => if l.length ≤ 2 then .ok (.use t) else .error 4 := by
          rw [HLR.out]; unfold pLine; simp only [HL0.out, if_false, hu1, if_true]; rfl
        have cU := use_next (LineR base M mo W (lineRes s)) base M n1 w1.heap.size #[.slice la mo.uses.length lcap, vt, vf] la lcap mo.uses.length yu l 1 w3 q1' hmod3.mod rfl hyu.own hyu.old hM hb (by omega) (by unfold maxLen; omega) (by omega)
          (fun hi w' hm' => ⟨BelowM.of_below (HX.out w' (HN3.out.trans hm')).1 (by omega), Or.inl ⟨4, by rw [hP, hi], rfl⟩⟩)
          (fun t hi hts g cap' wa wb w' hm' hG hb' => by
            have hbx := (HX.out wa (HN3.out.trans hm')).1
            have hsza := hm'.below.size
            have hma := HMod.out.keep (hbx.mono hn)
            have hya : RowIs StC 9 1 base n1 (MParts base n1 (.slice la mo.uses.length lcap) vt vf) mo.uses (.slice la mo.uses.length lcap) yu wa := RowIs.keep (C := StC) (fun hk h => stC_keep hk h) hyu ⟨fun b hb' => (hm'.below.block b (by have := hb'.2.1; omega)), fun _ h => h⟩ (fun g' hg' => hm'.below.block g' (by have := hyu.old g' hg'; omega)) (Nat.le_refl _)
            have hmb := ModAt.pushU hma hya hG hts
            refine lineR_fin (d := .use t) ?_ (by rw [hP, hi]) ⟨_, _, _, _, hmb.keep hb'⟩
            exact ((BelowM.of_below hbx (by omega)).trans (hG.belowM hya.own (by omega))).trans (BelowM.of_below hb' (by have := hG.size; omega)))
        have HCU := veil cU
        try rw [hu1']
        clear q1 q1' q2 hu1 hu1' hmod3 cU hP hbx3 hwe y0 y1 hyu
        go_wp2_with fail
        refine HCU.out.mono ?_
        rintro e w' ⟨y, rfl, hy⟩
        have HY := veil hy
        clear hy
        go_wp2_with fail
        go_ret
        exact ⟨_, rfl, HY.out⟩
      have hu1' : wrd l 0 (ByteArray.mk #[117, 115, 101]).data.toList = false := hu1
      rw [hu1'] at q1
      have HR3 : Hid (RdAt w1.heap.size l 0 w3) := q1
      have HU1 := veil hu1
      try rw [hu1']
      clear q1 q2 hu1 hu1' hbx3 hwe y0 y1
      go_wp2_with fail
      refine (word_next w1.heap.size l 0 ⟨#[116, 121, 112, 101]⟩ _ HR3.out).mono ?_
      rintro e w4 ⟨rfl, q1, q2⟩
      have HN4 := veil (HN3.out.trans q2)
      have hsz4 := q2.below.size
      obtain ⟨hbx4, j0, j1⟩ := HX.out w4 HN4.out
      clear k0 k1
      cases hu2 : wrd l 0 [116, 121, 112, 101]
      case true =>
        have hu2' : wrd l 0 (ByteArray.mk #[116, 121, 112, 101]).data.toList = true := hu2
        rw [hu2'] at q1
        have q1' : RdAt w1.heap.size l 1 w4 := q1
        have hPb : ∀ e, pNamed l [61] 1 = .bad e → lineRes s = .error e := fun e he => by
          rw [HLR.out]; unfold pLine; simp only [HL0.out, if_false, HU1.out, hu2, if_true, he]; rfl
        have hPo : ∀ x j, pNamed l [61] 1 = .ok x j → lineRes s = if l.length ≤ j then .ok (.typ x) else .error 4 := fun x j he => by
          rw [HLR.out]; unfold pLine; simp only [HL0.out, if_false, HU1.out, hu2, if_true, he]; rfl
        have cN := named_next w1.heap.size l 1 ⟨#[61]⟩ w4 123 #[.pointer (some ⟨W.heap.size, 0, none⟩), .pointer (some ⟨w1.heap.size + 1, 0, none⟩)] (enters_of Tryz.func123 (by kernel_rfl) rfl) (LineR base M mo W (lineRes s)) q1'
          (fun e he w' hm' => ⟨BelowM.of_below (HX.out w' (HN4.out.trans hm')).1 (by omega), Or.inl ⟨e, hPb e he, rfl⟩⟩)
          (fun x j hx w' v hm' hr' hv => by
            obtain ⟨hbx, g0, g1⟩ := HX.out w' (HN4.out.trans hm')
            have hma := HMod.out.keep (hbx.mono hn)
            obtain ⟨yt, hyt⟩ := hma.ts
            obtain ⟨la, lcap, hvt⟩ := own_slice hyt.own
            subst hvt
            obtain ⟨k, f, n, va, rfl, hnm, hcs⟩ := hv
            obtain ⟨va1, va2, va3, rfl⟩ := hcs.slice
            obtain ⟨ta, tcap, hrd⟩ := rd_form hr'
            have hsz' := hm'.below.size
            refine pushT_step (LineR base M mo W (lineRes s)) base M n1 W.heap.size (w1.heap.size + 1) w1.heap.size #[vu, .slice la mo.types.length lcap, vf] la lcap mo.types.length yt x.name k f n va1 va2 va3 ta l.length tcap j w' hma.mod rfl hyt.own hyt.old hM hb (by omega) (by unfold maxLen; omega) (by omega) g0 g1 hn (by omega) (by omega) hrd ?_
            intro g cap' wb w'' hG hb'
            have hmb := ModAt.pushT (x := x) hma hyt hG rfl ⟨k, f, n, va1, va2, va3, rfl, hnm, hcs.keep ⟨fun _ _ => rfl, fun b hb2 => ⟨by have := hb2.1; omega, hb2.2⟩⟩⟩
            refine lineR_fin (d := .typ x) ?_ (hPo x j hx) ⟨_, _, _, _, hmb.keep hb'⟩
            exact ((BelowM.of_below hbx (by omega)).trans (hG.belowM hyt.own (by omega))).trans (BelowM.of_below hb' (by have := hG.size; omega)))
        have HCN := veil cN
        try rw [hu2']
        clear q1 q1' q2 hu2 hu2' cN hPb hPo hbx4
        go_wp2_with fail
        refine HCN.out.mono ?_
        rintro e w' ⟨y, rfl, hy⟩
        have HY := veil hy
        clear hy
        go_wp2_with fail
        go_ret
        exact ⟨_, rfl, HY.out⟩
      have hu2' : wrd l 0 (ByteArray.mk #[116, 121, 112, 101]).data.toList = false := hu2
      rw [hu2'] at q1
      have HR4 : Hid (RdAt w1.heap.size l 0 w4) := q1
      have HU2 := veil hu2
      try rw [hu2']
      clear q1 q2 hu2 hu2' hbx4
      go_wp2_with fail
      refine (word_next w1.heap.size l 0 ⟨#[102, 117, 110, 99]⟩ _ HR4.out).mono ?_
      rintro e w5 ⟨rfl, q1, q2⟩
      have HN5 := veil (HN4.out.trans q2)
      have hsz5 := q2.below.size
      obtain ⟨hbx5, i0, i1⟩ := HX.out w5 HN5.out
      clear j0 j1
      cases hu3 : wrd l 0 [102, 117, 110, 99]
      case true =>
        have hu3' : wrd l 0 (ByteArray.mk #[102, 117, 110, 99]).data.toList = true := hu3
        rw [hu3'] at q1
        have q1' : RdAt w1.heap.size l 1 w5 := q1
        have hPb : ∀ e, pFun l 1 = .bad e → lineRes s = .error e := fun e he => by
          rw [HLR.out]; unfold pLine; simp only [HL0.out, if_false, HU1.out, HU2.out, hu3, if_true, he]; rfl
        have hPo : ∀ x j, pFun l 1 = .ok x j → lineRes s = if l.length ≤ j then .ok (.fn x) else .error 4 := fun x j he => by
          rw [HLR.out]; unfold pLine; simp only [HL0.out, if_false, HU1.out, HU2.out, hu3, if_true, he]; rfl
        have cN := fun_next w1.heap.size l 1 w5 126 #[.pointer (some ⟨W.heap.size, 0, none⟩), .pointer (some ⟨w1.heap.size + 1, 0, none⟩)] (enters_of Tryz.func126 (by kernel_rfl) rfl) (LineR base M mo W (lineRes s)) q1'
          (fun e he w' hm' => ⟨BelowM.of_below (HX.out w' (HN5.out.trans hm')).1 (by omega), Or.inl ⟨e, hPb e he, rfl⟩⟩)
          (fun x j hx w' v hm' hr' hv => by
            obtain ⟨hbx, g0, g1⟩ := HX.out w' (HN5.out.trans hm')
            have hma := HMod.out.keep (hbx.mono hn)
            obtain ⟨yf, hyf⟩ := hma.fs
            obtain ⟨la, lcap, hvf⟩ := own_slice hyf.own
            subst hvf
            obtain ⟨vp, k, f, n, va, k', n', f', s', va', rfl, hnm, hvr, hps, hcs, hce⟩ := hv
            obtain ⟨vp1, vp2, vp3, rfl⟩ := hps.slice
            obtain ⟨va1, va2, va3, rfl⟩ := hcs.slice
            obtain ⟨ve1, ve2, ve3, rfl⟩ := hce.slice
            obtain ⟨ta, tcap, hrd⟩ := rd_form hr'
            have hsz' := hm'.below.size
            refine pushF_step (LineR base M mo W (lineRes s)) base M n1 W.heap.size (w1.heap.size + 1) w1.heap.size #[vu, vt, .slice la mo.funcs.length lcap] la lcap mo.funcs.length yf x.name x.var vp1 vp2 vp3 k f n va1 va2 va3 k' n' f' s' ve1 ve2 ve3 ta l.length tcap j w' hma.mod rfl hyf.own hyf.old hM hb (by omega) (by unfold maxLen; omega) (by omega) g0 g1 hn (by omega) (by omega) hrd ?_
            intro g cap' wb w'' hG hb'
            have hk2 : Keeps (Fresh w5.heap.size w') (Fresh n1 w') w' w' := ⟨fun _ _ => rfl, fun b hb2 => ⟨by have := hb2.1; omega, hb2.2⟩⟩
            have hmb := ModAt.pushF (x := x) hma hyf hG rfl ⟨vp1, vp2, vp3, k, f, n, va1, va2, va3, k', n', f', s', ve1, ve2, ve3, rfl, hnm, hvr, fdSl_keep hk2 hps, hcs.keep hk2, hce.keep hk2⟩
            refine lineR_fin (d := .fn x) ?_ (hPo x j hx) ⟨_, _, _, _, hmb.keep hb'⟩
            exact ((BelowM.of_below hbx (by omega)).trans (hG.belowM hyf.own (by omega))).trans (BelowM.of_below hb' (by have := hG.size; omega)))
        have HCN := veil cN
        try rw [hu3']
        clear q1 q1' q2 hu3 hu3' cN hPb hPo hbx5
        go_wp2_with fail
        refine HCN.out.mono ?_
        rintro e w' ⟨y, rfl, hy⟩
        have HY := veil hy
        clear hy
        go_wp2_with fail
        go_ret
        exact ⟨_, rfl, HY.out⟩
      have hu3' : wrd l 0 (ByteArray.mk #[102, 117, 110, 99]).data.toList = false := hu3
      have HRes : Hid (LineR base M mo W (lineRes s) 4 w5) := ⟨BelowM.of_below hbx5 (by omega), Or.inl ⟨4, by rw [HLR.out]; unfold pLine; simp only [HL0.out, if_false, HU1.out, HU2.out, hu3]; rfl, rfl⟩⟩
      try rw [hu3']
      clear q1 q2 hu3 hu3' hbx5 i0 i1
      go_wp2_with fail
      go_ret
      exact ⟨_, rfl, HRes.out⟩
  · have hR : LineR base M mo W (lineRes s) (cutErr s) w1 := ⟨BelowM.of_below hbel1 (by omega), Or.inl ⟨_, if_neg hce, rfl⟩⟩
    have HR := veil hR
    have hce' : (cutErr s != 0) = true := by simpa using hce
    clear hR hv hb1 hbel1 cm1 hce
    generalize cutErr s = y at *
    go_wp2_with fail
    go_ret
    exact ⟨_, rfl, HR.out⟩

end Go.Proofs.YtagbaimfigljiaaGreatDoor
namespace Go.Proofs.YtagbaimfigljiaaGreatDoor
open Go.RowKit
set_option maxRecDepth 100000

theorem nameAt_ne {l : Toks} {i : Nat} {e : Int} (h : nameAt l i = .bad e) : e ≠ 0 := by
  unfold nameAt at h
  split at h
  · injection h with h; omega
  · split at h
    · split at h
      · injection h with h; omega
      · cases h
    · cases h

theorem pTy_ne {l : Toks} : ∀ (f i : Nat) (e : Int), pTy l f i = .bad e → e ≠ 0
  | 0, _, _, h => by rw [pTy] at h; injection h with h; omega
  | f + 1, i, e, h => by
    rw [pTy] at h
    split at h
    · cases h
    · split at h
      · cases h
      · split at h
        · split at h
          · rename_i hk
            injection h with h
            subst h
            exact pTy_ne f _ _ hk
          · split at h
            · cases h
            · injection h with h; omega
        · split at h
          · rename_i hk
            injection h with h
            subst h
            exact nameAt_ne hk
          · cases h

theorem pList_ne {α : Type} {sub : Nat → Res α} {l : Toks} {fin : List UInt8} (hs : ∀ i e, sub i = .bad e → e ≠ 0) : ∀ (n : Nat) (acc : List α) (i : Nat) (e : Int), pList sub l fin n acc i = .bad e → e ≠ 0
  | 0, _, _, _, h => by rw [pList] at h; injection h with h; omega
  | n + 1, acc, i, e, h => by
    rw [pList] at h
    split at h
    · rename_i hk
      injection h with h
      subst h
      exact hs _ _ hk
    · split at h
      · exact pList_ne hs n _ _ _ h
      · split at h
        · cases h
        · injection h with h; omega

theorem pCall_ne {sub : Nat → Res Ex} {l : Toks} (hs : ∀ i e, sub i = .bad e → e ≠ 0) {i : Nat} {e : Int} (h : pCall sub l i = .bad e) : e ≠ 0 := by
  unfold pCall at h
  split at h
  · rename_i hk
    injection h with h
    subst h
    exact nameAt_ne hk
  · split at h
    · split at h
      · cases h
      · split at h
        · rename_i hl
          injection h with h
          subst h
          exact pList_ne hs _ _ _ _ hl
        · cases h
    · split at h
      · cases h
      · injection h with h; omega

theorem pHead_ne {sub : Nat → Res Ex} {l : Toks} (hs : ∀ i e, sub i = .bad e → e ≠ 0) {i : Nat} {e : Int} (h : pHead sub l i = .bad e) : e ≠ 0 := by
  unfold pHead at h
  split at h
  · split at h
    · rename_i hk
      injection h with h
      subst h
      exact hs _ _ hk
    · split at h
      · cases h
      · injection h with h; omega
  · split at h
    · split at h
      · rename_i hl
        injection h with h
        subst h
        exact pList_ne hs _ _ _ _ hl
      · cases h
    · split at h
      · cases h
      · split at h
        · cases h
        · exact pCall_ne hs h

theorem pPlaces_ne {sub : Nat → Res Ex} {l : Toks} (hs : ∀ i e, sub i = .bad e → e ≠ 0) : ∀ (n : Nat) (x : Ex) (i : Nat) (e : Int), pPlaces sub l n x i = .bad e → e ≠ 0
  | 0, _, _, _, h => by rw [pPlaces] at h; injection h with h; omega
  | n + 1, x, i, e, h => by
    rw [pPlaces] at h
    split at h
    · split at h
      · rename_i hk
        injection h with h
        subst h
        exact hs _ _ hk
      · split at h
        · exact pPlaces_ne hs n _ _ _ h
        · injection h with h; omega
    · cases h

theorem pTail_ne {sub : Nat → Res Ex} {l : Toks} (hs : ∀ i e, sub i = .bad e → e ≠ 0) {i : Nat} {e : Int} (h : pTail sub l i = .bad e) : e ≠ 0 := by
  unfold pTail at h
  split at h
  · rename_i hk
    injection h with h
    subst h
    exact pHead_ne hs hk
  · exact pPlaces_ne hs _ _ _ _ h

theorem pSums_ne {sub : Nat → Res Ex} {l : Toks} (hs : ∀ i e, sub i = .bad e → e ≠ 0) : ∀ (n : Nat) (x : Ex) (i : Nat) (e : Int), pSums sub l n x i = .bad e → e ≠ 0
  | 0, _, _, _, h => by rw [pSums] at h; injection h with h; omega
  | n + 1, x, i, e, h => by
    rw [pSums] at h
    split at h
    · split at h
      · rename_i hk
        injection h with h
        subst h
        exact pTail_ne hs hk
      · exact pSums_ne hs n _ _ _ h
    · cases h

theorem pEx_ne {l : Toks} : ∀ (f i : Nat) (e : Int), pEx l f i = .bad e → e ≠ 0
  | 0, _, _, h => by rw [pEx] at h; injection h with h; omega
  | f + 1, i, e, h => by
    rw [pEx] at h
    split at h
    · rename_i hk
      injection h with h
      subst h
      exact pTail_ne (fun i e => pEx_ne f i e) hk
    · exact pSums_ne (fun i e => pEx_ne f i e) _ _ _ _ h

theorem pNamed_ne {l : Toks} {s : List UInt8} {i : Nat} {e : Int} (h : pNamed l s i = .bad e) : e ≠ 0 := by
  unfold pNamed at h
  split at h
  · injection h with h; omega
  · split at h
    · split at h
      · rename_i hk
        injection h with h
        subst h
        exact pTy_ne _ _ _ hk
      · cases h
    · injection h with h; omega

theorem pVar_ne {l : Toks} {i : Nat} {e : Int} (h : pVar l i = .bad e) : e ≠ 0 := by
  unfold pVar at h
  split at h
  · split at h
    · injection h with h; omega
    · split at h
      · cases h
      · injection h with h; omega
  · cases h

theorem pParams_ne {l : Toks} {i : Nat} {e : Int} (h : pParams l i = .bad e) : e ≠ 0 := by
  unfold pParams at h
  split at h
  · cases h
  · exact pList_ne (fun i e h => pNamed_ne h) _ _ _ _ h

theorem pFun_ne {l : Toks} {i : Nat} {e : Int} (h : pFun l i = .bad e) : e ≠ 0 := by
  unfold pFun at h
  split at h
  · injection h with h; omega
  · split at h
    · rename_i hk
      injection h with h
      subst h
      exact pVar_ne hk
    · split at h
      · split at h
        · rename_i hk
          injection h with h
          subst h
          exact pParams_ne hk
        · split at h
          · split at h
            · rename_i hk
              injection h with h
              subst h
              exact pTy_ne _ _ _ hk
            · split at h
              · split at h
                · rename_i hk
                  injection h with h
                  subst h
                  exact pEx_ne _ _ _ hk
                · cases h
              · injection h with h; omega
          · injection h with h; omega
      · injection h with h; omega

theorem pLine_ne {l : Toks} {e : Int} (h : pLine l = .error e) : e ≠ 0 := by
  unfold pLine at h
  simp only at h
  split at h
  · cases h
  · split at h
    · split at h
      · injection h with h; omega
      · split at h
        · cases h
        · injection h with h; omega
    · split at h
      · split at h
        · rename_i hk
          injection h with h
          subst h
          exact pNamed_ne hk
        · split at h
          · cases h
          · injection h with h; omega
      · split at h
        · split at h
          · rename_i hk
            injection h with h
            subst h
            exact pFun_ne hk
          · split at h
            · cases h
            · injection h with h; omega
        · injection h with h; omega

theorem lineRes_ne {s : ByteArray} {e : Int} (h : lineRes s = .error e) : e ≠ 0 := by
  unfold lineRes at h
  split at h
  · exact pLine_ne h
  · rename_i hc
    injection h with h
    subst h
    exact hc

end Go.Proofs.YtagbaimfigljiaaGreatDoor
namespace Go.Proofs.YtagbaimfigljiaaGreatDoor
open Go.RowKit
set_option maxRecDepth 100000

/-- the lines of a text. -/
def linesOf (s : ByteArray) : List ByteArray := Lib.splitB ⟨#[10]⟩ 0 (Lib.countB s ⟨#[10]⟩) s

theorem index_line (x : ByteArray) (w : World) : Calls Tryz.prog 112 #[.string x, .string ⟨#[10]⟩] w fun e w' => e = .returned (.int .i64 (Lib.indexB x ⟨#[10]⟩)) ∧ w' = w := by
  go_enter Tryz.func112, Tryz.ntmps112
  go_wp2_with fail
  refine (Any.stringslite_Index_one (P := Tryz.prog) (ρ := Tryz.lays146_ren) { Tryz.lays146 with } x 10 w).mono ?_
  rintro e w' ⟨rfl, rfl⟩
  go_wp2
  go_ret
  exact ⟨by rw [show Lib.indexB x ⟨#[10]⟩ = Lib.indexByte x.data.toList 10 from Lib.index_one _ _]; rfl, rfl⟩

theorem split_lines (s : ByteArray) (hs : s.size < 4294967281) (w : World) :
    Calls Tryz.prog 70 #[.string s, .string ⟨#[10]⟩] w fun e w' => e = .returned (.slice (some ⟨w.heap.size, 0, none⟩) (linesOf s).length (linesOf s).length) ∧ w' = w.alloc (.cells ((linesOf s).map Value.string).toArray 9) := by
  have h1 : 1 ≤ (⟨#[10]⟩ : ByteArray).size := Nat.le_refl _
  have hle := Lib.countB_le ⟨#[10]⟩ h1 s.size s (Nat.le_refl _)
  have hlen := Lib.splitB_all ⟨#[10]⟩ h1 0 _ s rfl
  have hC : Calls Tryz.prog 110 #[.string s, .string ⟨#[10]⟩] w fun e w' => e = .returned (.int .i64 (Lib.countB s ⟨#[10]⟩)) ∧ w' = w := by
    refine (Any.strings_Count_one (P := Tryz.prog) (ρ := Tryz.lays146_ren) { Tryz.lays146 with } s 10 w).mono fun e w' ⟨he, hw⟩ => ⟨?_, hw⟩
    rw [he]
    show _ = Ending.returned (Value.int .i64 ((Lib.count s.data.toList [10] : Nat) : Int))
    rw [Lib.count_one]
    rfl
  have c := Any.strings_genSplit_core (P := Tryz.prog) (ρ := Tryz.lays146_ren) { Tryz.lays146 with } (by kernel_rfl) s ⟨#[10]⟩ 0 (-1) (Lib.countB s ⟨#[10]⟩ + 1) w hs h1 (Nat.zero_le _)
    (fun x c _ => index_line x _) hC (by decide) (by decide) (by rw [if_pos (by decide)]; omega)
  rw [Nat.add_sub_cancel, hlen] at c
  have e2 : Lib.cellsOf (Lib.splitB ⟨#[10]⟩ 0 (Lib.countB s ⟨#[10]⟩) s) (Lib.countB s ⟨#[10]⟩ + 1) = ((Lib.splitB ⟨#[10]⟩ 0 (Lib.countB s ⟨#[10]⟩) s).map Value.string).toArray := by rw [← hlen]; exact Lib.cellsOf_full _
  rw [e2, ← hlen] at c
  have HC : Hid (Calls Tryz.prog 118 #[.string s, .string ⟨#[10]⟩, .int .i64 0, .int .i64 (-1)] w fun e w' => e = .returned (.slice (some ⟨w.heap.size, 0, none⟩) (linesOf s).length (linesOf s).length) ∧ w' = w.alloc (.cells ((linesOf s).map Value.string).toArray 9)) := c
  clear c e2 hC hle hlen
  go_enter Tryz.func70, Tryz.ntmps70
  go_wp2_with fail
  refine HC.out.mono ?_
  rintro e w' ⟨rfl, rfl⟩
  go_wp2
  go_ret
  exact ⟨rfl, rfl⟩

end Go.Proofs.YtagbaimfigljiaaGreatDoor
