/- What strings.Clone answers: the text as it is; nothing that was there has turned. -/
import Derived.Test.YtieoddnaknpmlabGreatDoorJD
import Derived.Test.YtieoddnaknpmlabGreatDoorShelf
import Derived.Test.YtieoddnaknpmlabGreatDoorJA
namespace Go.Proofs.YtieoddnaknpmlabGreatDoor
open Go.RowKit
set_option maxRecDepth 100000

theorem clone_said : CloneSaid := by
  intro s w h
  go_enter Tryz.func128, Tryz.ntmps128
  go_wp2_with (go_at_call 141; refine (Tryz.stringslite_Clone s _ h).mono ?_; rintro e w' ⟨rfl, hb⟩)
  go_ret
  exact ⟨rfl, hb⟩

end Go.Proofs.YtieoddnaknpmlabGreatDoor

/- What token.Cut answers, at every text: the error's number and the tokens, by the plain functions of the text before. -/
namespace Go.Proofs.YtieoddnaknpmlabGreatDoor
open Go.RowKit
set_option maxRecDepth 100000

theorem infoTok : (Tryz.prog.info? 90).map (fun i => (i.zero, i.size, i.bytes)) = some (some (.agg #[.int .i64 0, .string ⟨#[]⟩]), 2, 24) := by kernel_rfl

def tokCells (l : List (Int × ByteArray)) : List Value := l.flatMap fun t => [.int .i64 t.1, .string t.2]

theorem tokCells_snoc (l : List (Int × ByteArray)) (t : Int × ByteArray) : tokCells (l ++ [t]) = tokCells l ++ [.int .i64 t.1, .string t.2] := by
  simp [tokCells]

theorem tokCells_at : ∀ (l : List (Int × ByteArray)) (i : Nat), i < l.length → (tokCells l)[i * 2]? = some (.int .i64 (l.getD i (0, .empty)).1) ∧ (tokCells l)[i * 2 + 1]? = some (.string (l.getD i (0, .empty)).2)
  | [], i, h => absurd h (by simp)
  | t :: r, 0, _ => by simp [tokCells]
  | t :: r, i + 1, h => by
    have ih := tokCells_at r i (by simpa using h)
    have e : tokCells (t :: r) = .int .i64 t.1 :: .string t.2 :: tokCells r := by simp [tokCells]
    rw [e, show (i + 1) * 2 = i * 2 + 1 + 1 by omega, show i * 2 + 1 + 1 + 1 = (i * 2 + 1) + 1 + 1 by omega]
    simp only [List.getElem?_cons_succ, List.getD_cons_succ]
    exact ih

theorem ownsRow_below {w w' : World} {B : Nat} {e : TypeId} {size : Nat} {v : Value} {n : Nat} {xs : List Value} (h : w.ownsRow B e size v n xs) (hb : Below w.heap.size w w') : w'.ownsRow B e size v n xs := by
  obtain ⟨hx, h | ⟨g, cap, cur, hv, hg, hh, h1, h2, h3, h4⟩⟩ := h
  · exact ⟨hx, Or.inl h⟩
  · refine ⟨hx, Or.inr ⟨g, cap, cur, hv, hg, ?_, h1, h2, h3, h4⟩⟩
    rw [hb.block g ?_]
    · exact hh
    · rcases Nat.lt_or_ge g w.heap.size with h | h
      · exact h
      · rw [Array.getElem?_eq_none h] at hh
        cases hh

theorem ownsRow_toks {w : World} {B : Nat} {v : Value} {l : List (Int × ByteArray)} (h : w.ownsRow B 90 2 v l.length (tokCells l)) (hl : l.length ≤ maxLen) (hs : ∀ t ∈ l, t.2.size ≤ maxLen) : TokRow w v l := by
  obtain ⟨hx, ⟨hv, hn⟩ | ⟨g, cap, cur, hv, hg, hh, h1, h2, h3, h4⟩⟩ := h
  · exact Or.inl ⟨List.length_eq_zero_iff.1 hn, _, _, hv⟩
  · refine Or.inr ⟨g, 0, cap, hv, ?_, hl, fun i hi => ?_⟩
    · rcases Nat.lt_or_ge g w.heap.size with h | h
      · exact h
      · rw [Array.getElem?_eq_none h] at hh
        cases hh
    · have hc : ∀ j u, (tokCells l)[j]? = some u → w.cell? ⟨g, j, none⟩ = some u := fun j u hj => by
        rw [← h4] at hj
        have hj' : j < l.length * 2 := by
          rcases Nat.lt_or_ge j (l.length * 2) with h | h
          · exact h
          · rw [List.getElem?_eq_none (by rw [List.length_take]; omega)] at hj
            cases hj
        rw [List.getElem?_take_of_lt hj'] at hj
        simpa [World.cell?, hh] using hj
      obtain ⟨a, b⟩ := tokCells_at l i hi
      refine ⟨by simpa using hc _ _ a, by simpa using hc _ _ b, hs _ ?_⟩
      rw [List.getD_eq_getElem?_getD, List.getElem?_eq_getElem hi]
      exact List.getElem_mem hi

theorem ownsRow_block {w : World} {B : Nat} {e : TypeId} {size : Nat} {v : Value} {n : Nat} {xs : List Value} (h : w.ownsRow B e size v n xs) : ∀ k, v.ownBlock = some k → B ≤ k := by
  intro k hk
  obtain ⟨_, ⟨hv, _⟩ | ⟨g, cap, cur, hv, hg, _⟩⟩ := h
  · rw [hv] at hk
    cases hk
  · rw [hv] at hk
    have : g = k := by simpa [Value.ownBlock] using hk
    omega

theorem getD_none_fault {s : ByteArray} {k : Nat} (h : nextTok s k = none) : faultOf (tokAns s k).1 ≠ 0 := by
  simp [tokAns, h, faultOf, tokFault]

theorem ans_some {s : ByteArray} {k : Nat} (h : faultOf (tokAns s k).1 = 0) : nextTok s k = some (tokAns s k) := by
  cases hn : nextTok s k with
  | none => exact absurd h (getD_none_fault hn)
  | some te => simp [tokAns, hn]

theorem cut_stop {s : ByteArray} {k : Nat} (hk : k < s.size) (hb : byteAt s k ≠ 32) (h : faultOf (tokAns s k).1 ≠ 0) : cutAt s k = none := by
  cases hn : nextTok s k with
  | none => exact cutAt_none hk hb hn
  | some te =>
    have e : tokAns s k = te := by simp [tokAns, hn]
    rw [e] at h
    exact cutAt_bad hk hb hn h

theorem ans_bd {s : ByteArray} {k : Nat} (hk : k < s.size) : (tokAns s k).1.2.size ≤ s.size ∧ (tokAns s k).2 ≤ s.size := by
  cases hn : nextTok s k with
  | none =>
    have e : tokAns s k = ((0, ⟨#[]⟩), s.size) := by simp [tokAns, hn]
    rw [e]
    exact ⟨Nat.zero_le _, Nat.le_refl _⟩
  | some te =>
    obtain ⟨t, e⟩ := te
    have h := nextTok_bd hk hn
    have e' : tokAns s k = (t, e) := by simp [tokAns, hn]
    rw [e']
    exact ⟨h.2.2, h.2.1⟩

theorem cut_on {s : ByteArray} {k : Nat} (hk : k < s.size) (hb : byteAt s k ≠ 32) (h : faultOf (tokAns s k).1 = 0) : k < (tokAns s k).2 ∧ cutAt s k = (cutAt s (tokAns s k).2).map ((tokAns s k).1 :: ·) := by
  have hn := ans_some h
  exact ⟨(nextTok_bd hk hn).1, cutAt_good hk hb hn h⟩

theorem cut_snoc {s : ByteArray} {i k : Nat} {done : List (Int × ByteArray)} {t : Int × ByteArray} (h : cutAt s 0 = (cutAt s i).map (done ++ ·)) (h' : cutAt s i = (cutAt s k).map (t :: ·)) : cutAt s 0 = (cutAt s k).map ((done ++ [t]) ++ ·) := by
  rw [h, h', Option.map_map]
  congr 1
  funext l
  simp

set_option maxHeartbeats 4000000 in
theorem cut_any (s : ByteArray) (hs : s.size ≤ 1500) (w : World) :
    Calls Tryz.prog 29 #[.string s] w fun e w' => ∃ v, e = .returned (.tuple #[v, .int .i64 (cutErr s)]) ∧ TokRow w' v (cutToks s) ∧ Below w.heap.size w w' := by
  have h1500 : ¬ (1500 : Int) < (s.size : Int) := by omega
  have HM : Hid (s.size ≤ maxLen) := by show _ ≤ _; unfold maxLen; omega
  have hc : (w.alloc (.cells #[.string s] 9)).cell? ⟨w.heap.size, 0, none⟩ = some (.string s) := by
    rw [World.cell?_alloc_at _ _ _ _ rfl]; rfl
  have hr := run_pure 62 (enters_of Tryz.func62 (by kernel_rfl) rfl) isBlank blank_any s HM.out w.heap.size 0 (by omega) (by omega) _ hc
  obtain ⟨i0, hi, hz0, hz1, hz2⟩ := info_parts infoTok
  go_enter Tryz.func29, Tryz.ntmps29
  go_wp2_with (go_at_call 61; refine (runOf_any _ _).mono ?_; rintro e w' ⟨rfl, rfl⟩)
  refine hr.mono ?_
  rintro e w' ⟨rfl, rfl⟩
  clear hr
  have HS := veil (runEnd_spec isBlank s 0 (by omega))
  have HR := veil (@cutAt_run s 0 (by omega))
  rw [show ((0 : Int)).toNat = 0 from rfl]
  generalize runEnd isBlank s 0 = E at *
  go_wp2
  go_loopw [4, 6] (fun v i wr => ∃ (done : List (Int × ByteArray)) (k : Nat), k ≤ s.size ∧ i = .int .i64 k ∧ (k < s.size → byteAt s k ≠ 32) ∧ wr.ownsRow (w.heap.size + 1) 90 2 v done.length (tokCells done) ∧
      wr.cell? ⟨w.heap.size, 0, none⟩ = some (.string s) ∧ w.heap.size + 1 ≤ wr.heap.size ∧ Below w.heap.size w wr ∧ cutAt s 0 = (cutAt s k).map (done ++ ·) ∧ done.length ≤ k ∧ ∀ t ∈ done, t.2.size ≤ s.size)
    (fun _ i _ => s.size - (intOf i).toNat)
  case atStart =>
    refine ⟨[], E, HS.out.2.1, rfl, fun h => ?_, World.ownsRow_nil _ _ _ _, hc, by simp, (Below.refl _ _).alloc (Nat.le_refl _) _, ?_, by simp, by simp⟩
    · have := HS.out.2.2.2 h
      simpa [isBlank] using this
    · rw [HR.out]; simp
  case round =>
    clear hc HS HR
    obtain ⟨done, k, hk, rfl, hnb, hown, hcs, hsz, hbl, hcut, hdl, hts⟩ := hrel
    have HNB := veil hnb
    have HCut := veil hcut
    have HTS := veil hts
    clear hnb hcut hts
    by_cases hlt : k < s.size
    · have hT := tokenAt_any clone_said s hs k hlt wr
      have hbd := ans_bd hlt
      have HOn := veil (@cut_on s k hlt (HNB.out hlt))
      have HStop := veil (@cut_stop s k hlt (HNB.out hlt))
      clear HNB
      generalize tokAns s k = A at *
      obtain ⟨⟨kd, tx⟩, E⟩ := A
      simp only at hT hbd
      obtain ⟨htx, hE⟩ := hbd
      have hmx : tx.size ≤ maxLen := Nat.le_trans htx HM.out
      by_cases hf : tokFault kd tx = 0
      · have hf' : (tokFault kd tx != 0) = false := by simp [hf]
        obtain ⟨hkE, hcE⟩ := HOn.out hf
        have HCE := veil (cut_snoc HCut.out hcE)
        clear HOn HStop HCut hcE hf
        go_wp2_with fail
        refine hT.mono ?_
        rintro e w1 ⟨rfl, hb1⟩
        clear hT
        have hown1 := ownsRow_below hown hb1
        have hcs1 := (hb1.cell (p := ⟨w.heap.size, 0, none⟩) (by simp; omega)).trans hcs
        have hbl1 := hbl.trans (hb1.mono hbl.size)
        have hsz1 : w.heap.size + 1 ≤ w1.heap.size := Nat.le_trans hsz hb1.size
        clear hown hcs hbl hsz hb1
        have HW1 := veil hown1
        have HL1 := veil hbl1
        clear hown1 hbl1
        go_wp2_with fail
        refine (checkOne_any kd tx hmx _).mono ?_
        rintro e w2 ⟨rfl, hb2⟩
        have c0 := hb2.cell (p := ⟨w1.heap.size, 0, none⟩) (by simp)
        have c1 := hb2.cell (p := ⟨w1.heap.size, 1, none⟩) (by simp)
        rw [World.cell?_alloc_at _ _ _ _ rfl] at c0 c1
        have c0' : w2.cell? ⟨w1.heap.size, 0, none⟩ = some (.int .i64 kd) := c0
        have c1' : w2.cell? ⟨w1.heap.size, 1, none⟩ = some (.string tx) := c1
        have hba : Below w1.heap.size w1 w2 := ((Below.refl _ _).alloc (Nat.le_refl _) _).trans (hb2.mono (by simp))
        have hcs2 := (hba.cell (p := ⟨w.heap.size, 0, none⟩) (by simp; omega)).trans hcs1
        have hown2 := ownsRow_below HW1.out hba
        have HL2 := veil (HL1.out.trans (hba.mono HL1.out.size))
        have hsz2 : w.heap.size + 1 ≤ w2.heap.size := Nat.le_trans hsz1 hba.size
        clear c0 c1 hcs1 hb2 hsz1 HW1 HL1 hba
        go_wp2_with (at_builtin; refine wpList_append_own _ rfl _ _ 41 rfl (w.heap.size + 1) 90 i0 (.agg #[.int .i64 0, .string ⟨#[]⟩]) 2 24 Tryz.underlying41 hi hz0 hz1 hz2 rfl (by decide) _ _ _ rfl (hown2.alloc _) ⟨w2.heap.size, 0, none⟩ 1 1 [.int .i64 kd, .string tx] rfl rfl ?c1 ?c2 ?c3 ?c4 ?c5 ?_)
        case c1 => exact cell_two_new _ _ _ _
        case c2 =>
          intro u hu
          simp at hu
          rcases hu with rfl | rfl <;> rfl
        case c3 => unfold maxLen; omega
        case c4 => omega
        case c5 => simp; omega
        intro v' w3 hown3 hgrow _
        have hrow := ownsRow_block hown2
        have hcs3 : w3.cell? ⟨w.heap.size, 0, none⟩ = some (.string s) := by
          rw [World.cell?_of_block (hgrow.block w.heap.size (by simp; omega) (fun h => by have := hrow _ h.symm; omega)), World.cell?_alloc_past _ _ _ (by omega)]
          exact hcs2
        have HL3 := veil ((HL2.out.alloc (by omega) (.cells #[.int .i64 kd, .string tx] 90)).grown hgrow (by simp; omega) (fun j hj => by have := hrow j hj; omega))
        have hsz3 : w.heap.size + 1 ≤ w3.heap.size := by have := hgrow.size; simp at this; omega
        have HO3 : Hid (w3.ownsRow (w.heap.size + 1) 90 2 v' (done ++ [(kd, tx)]).length (tokCells (done ++ [(kd, tx)]))) := by
          show w3.ownsRow _ _ _ _ _ _
          rw [tokCells_snoc, List.length_append]
          exact hown3
        clear hown3 hgrow hrow hown2 HL2 hcs2 hsz2 c0' c1'
        have hr := run_pure 62 (enters_of Tryz.func62 (by kernel_rfl) rfl) isBlank blank_any s HM.out w.heap.size (E : Int) (by omega) (by omega) _ hcs3
        rw [Int.toNat_natCast] at hr
        have HS := veil (runEnd_spec isBlank s E hE)
        have HR := veil (@cutAt_run s E hE)
        obtain ⟨g1, g2, _, _⟩ := HS.out
        generalize runEnd isBlank s E = F at *
        go_wp2_with fail
        refine hr.mono ?_
        rintro e w' ⟨rfl, rfl⟩
        clear hr
        go_wp2
        go_roundw
        case rel =>
          refine ⟨done ++ [(kd, tx)], F, g2, rfl, fun h => ?_, HO3.out, hcs3, hsz3, HL3.out, ?_, ?_, ?_⟩
          · have := HS.out.2.2.2 h
            simpa [isBlank] using this
          · rw [HR.out]; exact HCE.out
          · simp; omega
          · intro t ht
            rcases List.mem_append.1 ht with h | h
            · exact HTS.out t h
            · simp at h; rw [h]; exact htx
        case measure => simp [intOf]; omega
      · have hf' : (tokFault kd tx != 0) = true := by simp [hf]
        have HE : Hid (cutErr s = 4) := by
          show cutErr s = 4
          unfold cutErr
          rw [if_neg (by omega), HCut.out, HStop.out hf]
          rfl
        have HT : Hid (cutToks s = []) := by
          show cutToks s = []
          unfold cutToks
          rw [if_neg (by omega), HCut.out, HStop.out hf]
          rfl
        clear HOn HStop HCut hf
        go_wp2_with fail
        refine hT.mono ?_
        rintro e w1 ⟨rfl, hb1⟩
        clear hT
        have HL1 := veil (hbl.trans (hb1.mono hbl.size))
        have hsz1 : w.heap.size + 1 ≤ w1.heap.size := Nat.le_trans hsz hb1.size
        clear hown hcs hbl hsz hb1
        go_wp2_with fail
        refine (checkOne_any kd tx hmx _).mono ?_
        rintro e w2 ⟨rfl, hb2⟩
        have HL2 := veil ((HL1.out.alloc (by omega) _).trans (hb2.mono (by simp; omega)))
        clear hb2
        go_wp2
        go_ret2
        exact ⟨_, by rw [HE.out]; rfl, by rw [HT.out]; exact Or.inl ⟨rfl, _, _, rfl⟩, HL2.out⟩
    · have hp := cutAt_past hlt
      have hcut' : cutAt s 0 = some done := by rw [HCut.out, hp]; simp
      have hmd : done.length ≤ maxLen := by unfold maxLen; omega
      have HTR := veil (ownsRow_toks hown hmd (fun t ht => Nat.le_trans (HTS.out t ht) HM.out))
      have HL := veil hbl
      obtain ⟨av, cp, hav⟩ : ∃ av cp, u4 = .slice av done.length cp := by
        obtain ⟨_, ⟨hv, hn⟩ | ⟨g, cap, cur, hv, _⟩⟩ := hown
        · exact ⟨none, 0, by rw [hv, hn]⟩
        · exact ⟨_, _, hv⟩
      clear HNB HCut hp hown hbl
      by_cases h200 : 200 < done.length
      · have h2 : (200 : Int) < (done.length : Int) := by omega
        have HE : Hid (cutErr s = 1) := by
          show cutErr s = 1
          unfold cutErr
          rw [if_neg (by omega), hcut']
          exact if_pos h200
        have HT : Hid (cutToks s = []) := by
          show cutToks s = []
          unfold cutToks
          rw [if_neg (by omega), hcut']
          exact if_pos h200
        clear hcut' h200
        rw [hav]
        clear hav HTR
        go_wp2
        go_ret2
        exact ⟨_, by rw [HE.out]; rfl, by rw [HT.out]; exact Or.inl ⟨rfl, _, _, rfl⟩, HL.out⟩
      · have h2 : ¬ (200 : Int) < (done.length : Int) := by omega
        have HE : Hid (cutErr s = 0) := by
          show cutErr s = 0
          unfold cutErr
          rw [if_neg (by omega), hcut']
          exact if_neg h200
        have HT : Hid (cutToks s = done) := by
          show cutToks s = done
          unfold cutToks
          rw [if_neg (by omega), hcut']
          exact if_neg h200
        clear hcut' h200
        rw [hav] at HTR
        rw [hav]
        clear hav
        go_wp2
        go_ret2
        exact ⟨_, by rw [HE.out]; rfl, by rw [HT.out]; exact HTR.out, HL.out⟩

theorem cut_all (s : ByteArray) (w : World) :
    Calls Tryz.prog 29 #[.string s] w fun e w' => ∃ v, e = .returned (.tuple #[v, .int .i64 (cutErr s)]) ∧ TokRow w' v (cutToks s) ∧ Below w.heap.size w w' := by
  by_cases h : 1500 < s.size
  · have h' : (1500 : Int) < (s.size : Int) := by omega
    have HE : Hid (cutErr s = 1) := if_pos h
    have HT : Hid (cutToks s = []) := if_pos h
    clear h
    go_enter Tryz.func29, Tryz.ntmps29
    go_wp2
    go_ret2
    exact ⟨_, by rw [HE.out]; rfl, by rw [HT.out]; exact Or.inl ⟨rfl, _, _, rfl⟩, Below.refl _ _⟩
  · exact cut_any s (by omega) w

end Go.Proofs.YtieoddnaknpmlabGreatDoor

/- What strings.Split answers at a line's end: the lines of a text, in a new block. -/
namespace Go.Proofs.YtieoddnaknpmlabGreatDoor
open Go.RowKit
set_option maxRecDepth 100000

/-- the lines of a text. -/
def linesOf (s : ByteArray) : List ByteArray := Lib.splitB ⟨#[10]⟩ 0 (Lib.countB s ⟨#[10]⟩) s

theorem index_line (x : ByteArray) (w : World) : Calls Tryz.prog 60 #[.string x, .string ⟨#[10]⟩] w fun e w' => e = .returned (.int .i64 (Lib.indexB x ⟨#[10]⟩)) ∧ w' = w := by
  go_enter Tryz.func60, Tryz.ntmps60
  go_wp2_with fail
  refine (Any.stringslite_Index_one (P := Tryz.prog) (ρ := Tryz.lays146_ren) { Tryz.lays146 with } x 10 w).mono ?_
  rintro e w' ⟨rfl, rfl⟩
  go_wp2
  go_ret
  exact ⟨by rw [show Lib.indexB x ⟨#[10]⟩ = Lib.indexByte x.data.toList 10 from Lib.index_one _ _]; rfl, rfl⟩

theorem split_lines (s : ByteArray) (hs : s.size < 4294967281) (w : World) :
    Calls Tryz.prog 10 #[.string s, .string ⟨#[10]⟩] w fun e w' => e = .returned (.slice (some ⟨w.heap.size, 0, none⟩) (linesOf s).length (linesOf s).length) ∧ w' = w.alloc (.cells ((linesOf s).map Value.string).toArray 9) := by
  have h1 : 1 ≤ (⟨#[10]⟩ : ByteArray).size := Nat.le_refl _
  have hle := Lib.countB_le ⟨#[10]⟩ h1 s.size s (Nat.le_refl _)
  have hlen := Lib.splitB_all ⟨#[10]⟩ h1 0 _ s rfl
  have hC : Calls Tryz.prog 59 #[.string s, .string ⟨#[10]⟩] w fun e w' => e = .returned (.int .i64 (Lib.countB s ⟨#[10]⟩)) ∧ w' = w := by
    refine (Any.strings_Count_one (P := Tryz.prog) (ρ := Tryz.lays146_ren) { Tryz.lays146 with } s 10 w).mono fun e w' ⟨he, hw⟩ => ⟨?_, hw⟩
    rw [he]
    show _ = Ending.returned (Value.int .i64 ((Lib.count s.data.toList [10] : Nat) : Int))
    rw [Lib.count_one]
    rfl
  have c := Any.strings_genSplit_core (P := Tryz.prog) (ρ := Tryz.lays146_ren) { Tryz.lays146 with } (by kernel_rfl) s ⟨#[10]⟩ 0 (-1) (Lib.countB s ⟨#[10]⟩ + 1) w hs h1 (Nat.zero_le _)
    (fun x c _ => index_line x _) hC (by decide) (by decide) (by rw [if_pos (by decide)]; omega)
  rw [Nat.add_sub_cancel, hlen] at c
  have e2 : Lib.cellsOf (Lib.splitB ⟨#[10]⟩ 0 (Lib.countB s ⟨#[10]⟩) s) (Lib.countB s ⟨#[10]⟩ + 1) = ((Lib.splitB ⟨#[10]⟩ 0 (Lib.countB s ⟨#[10]⟩) s).map Value.string).toArray := by rw [← hlen]; exact Lib.cellsOf_full _
  rw [e2, ← hlen] at c
  have HC : Hid (Calls Tryz.prog 28 #[.string s, .string ⟨#[10]⟩, .int .i64 0, .int .i64 (-1)] w fun e w' => e = .returned (.slice (some ⟨w.heap.size, 0, none⟩) (linesOf s).length (linesOf s).length) ∧ w' = w.alloc (.cells ((linesOf s).map Value.string).toArray 9)) := c
  clear c e2 hC hle hlen
  go_enter Tryz.func10, Tryz.ntmps10
  go_wp2_with fail
  refine HC.out.mono ?_
  rintro e w' ⟨rfl, rfl⟩
  go_wp2
  go_ret
  exact ⟨rfl, rfl⟩

end Go.Proofs.YtieoddnaknpmlabGreatDoor
